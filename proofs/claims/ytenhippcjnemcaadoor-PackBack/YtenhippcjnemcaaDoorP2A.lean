/- The law's own functions: num, same, Widened, alike. -/
import Derived.Test.YtenhippcjnemcaaDoorP1Q64
import Derived.Test.YtenhippcjnemcaaDoorP1Q32
namespace Go.Proofs.YtenhippcjnemcaaDoor
open Go.RowKit
open M
set_option linter.unusedVariables false

theorem num_any (n : Int) (w : World) : Calls Tryd.prog 13 #[.int .i64 n] w fun e w' => e = .returned (.int .i64 n) ∧ w' = w := by
  go_enter Tryd.func13, Tryd.ntmps13
  go_wp2
  go_ret
  exact ⟨rfl, rfl⟩

/-- A Bool that says whether P. -/
def Says (P : Prop) (w : World) (e : Ending) (w' : World) : Prop := ∃ v : Bool, e = .returned (.bool v) ∧ (v = true ↔ P) ∧ ∃ m, w' = w.drewN m

set_option maxHeartbeats 1000000 in
theorem same_any (p q : Option Addr) (n n' cap cap' : Nat) (f g : Nat → Nat) (w : World) (h : URow64 w p n f) (h' : URow64 w q n' g) (hn : n ≤ 281474976710656) (hn' : n' ≤ 281474976710656) :
    Calls Tryd.prog 16 #[.slice p n cap, .slice q n' cap'] w (Says (n = n' ∧ ∀ i, i < n → f i = g i) w) := by
  have H := hide h
  have H' := hide h'
  clear h h'
  by_cases hne : n = n'
  · subst hne
    go_enter Tryd.func16, Tryd.ntmps16
    go_wp2_with fail
    go_loopw [5] (fun i wr => ∃ k : Nat, Hid (∀ j, j < k → f j = g j) ∧ i = .int .i64 (k : Int) ∧ Hid (∃ m, wr = w.drewN m)) (fun i _ => n - (intOf i).toNat)
    case atStart => exact ⟨0, fun j hj => by omega, rfl, 0, rfl⟩
    case round =>
      obtain ⟨k, hr, rfl, hm⟩ := hrel
      by_cases hlt : k < n
      · obtain ⟨b, o, rfl, hc⟩ := H.out (by omega)
        obtain ⟨b', o', rfl, hc'⟩ := H'.out (by omega)
        obtain ⟨x, hx⟩ : ∃ x, f k = x := ⟨_, rfl⟩
        obtain ⟨y, hy⟩ : ∃ y, g k = y := ⟨_, rfl⟩
        have c1 : wr.cell? ⟨b, o + k, none⟩ = some (.int .u64 (x : Int)) := by obtain ⟨m, rfl⟩ := hm.out; rw [← hx]; exact hc k hlt
        have c2 : wr.cell? ⟨b', o' + k, none⟩ = some (.int .u64 (y : Int)) := by obtain ⟨m, rfl⟩ := hm.out; rw [← hy]; exact hc' k hlt
        have HXY := hide (And.intro hx hy)
        clear hc hc' hx hy
        by_cases hle : x = y
        · have hb : ((x : Int) != (y : Int)) = false := by simp [hle]
          go_wp2_with fail
          go_region
          go_wp2_with fail
          go_roundw
          case rel => exact ⟨k + 1, fun j hj => by
            by_cases e : j = k
            · subst e; rw [HXY.out.1, HXY.out.2]; exact hle
            · exact hr.out j (by omega), by simp, by obtain ⟨m, rfl⟩ := hm.out; exact ⟨m + 1, rfl⟩⟩
          case measure => simp [intOf]; omega
        · have hb : ((x : Int) != (y : Int)) = true := by simp; omega
          go_wp2_with fail
          go_region
          go_wp2_with fail
          go_ret
          obtain ⟨m, rfl⟩ := hm.out
          exact ⟨false, rfl, ⟨fun h => (by cases h), fun h => absurd (h.2 k hlt) (by rw [HXY.out.1, HXY.out.2]; exact hle)⟩, m + 1, rfl⟩
      · go_wp2_with fail
        go_ret
        exact ⟨true, rfl, ⟨fun _ => ⟨by trivial, fun j hj => hr.out j (by omega)⟩, fun _ => rfl⟩, hm.out⟩
  · have hb : ((n : Int) != (n' : Int)) = true := by simp; omega
    go_enter Tryd.func16, Tryd.ntmps16
    go_wp2_with fail
    go_ret
    exact ⟨false, rfl, ⟨fun h => (by cases h), fun h => absurd h.1 hne⟩, 0, rfl⟩

theorem cell_new1 (w : World) (v : Value) (t : TypeId) (j : Nat) (u : Value) (h : [v][j]? = some u) : (w.alloc (.cells #[v] t)).cell? ((⟨w.heap.size, 0, none⟩ : Addr).add j) = some u := by
  have hn := heap_alloc_new w (.cells #[v] t)
  rw [Addr.add_mid, Nat.zero_add, cell_of_row _ _ _ _ _ _ hn]
  cases j with
  | zero => simpa using h
  | succ j => simp at h

set_option maxRecDepth 100000 in
set_option maxHeartbeats 1000000 in
/-- uint32s as uint64s. -/
theorem widened_any (p : Option Addr) (n cap : Nat) (f : Nat → Nat) (w : World) (h : URow32 w p n f) (hf : ∀ i, i < n → f i < 4294967296) (hn : n ≤ 1000000) :
    Calls Tryd.prog 18 #[.slice p n cap] w fun e w' => ∃ ad cp, e = .returned (.slice ad n cp) ∧ n ≤ cp ∧ URow64 w' ad n f ∧ Below w.heap.size w w' := by
  have H := hide h
  have HF := hide hf
  clear h hf
  obtain ⟨i5, hi5⟩ := info64
  have Hi := hide hi5
  clear hi5
  go_enter Tryd.func18, Tryd.ntmps18
  go_wp2_with fail
  go_loopw [3, 4] (fun t3 t4 wr => ∃ i : Nat, t4 = .int .i64 (i : Int) ∧ Hid (i ≤ n) ∧ Hid (USt64 w.heap.size w f i t3 wr)) (fun _ t4 _ => n - (intOf t4).toNat)
  case atStart => exact ⟨0, rfl, Nat.zero_le _, USt64.nil _ _⟩
  case round =>
    obtain ⟨i, rfl, hI, HS⟩ := hrel
    by_cases hlt : i < n
    · obtain ⟨b, o, rfl, hc⟩ := H.out (by omega)
      have Hnext := hide (fun (w4 : World) (g4 cap4 : Nat) => USt64.next (w4 := w4) (g := g4) (cap := cap4) HS.out rfl)
      obtain ⟨x, hx⟩ : ∃ x, f i = x := ⟨_, rfl⟩
      have hbw : b < w.heap.size := block_lt_of_cell (hc i hlt)
      have c1 : wr.cell? ⟨b, o + i, none⟩ = some (.int .u32 (x : Int)) := by rw [HS.out.2.1.cell (p := ⟨b, o + i, none⟩) hbw, ← hx]; exact hc i hlt
      have hxl : x < 4294967296 := by rw [← hx]; exact HF.out i hlt
      have r1 : IntKind.u64.wrap (x : Int) = (x : Int) := by rw [IntKind.wrap_u64]; omega
      rw [hx] at Hnext
      have HX := hide hxl
      clear hc hx hxl
      go_wp2_with (at_builtin; refine wpList_append_lies _ rfl _ _ _ rfl w.heap.size 39 i5 (.int .u64 0) 1 8 Tryd.underlying28 Hi.out.1 Hi.out.2.1 Hi.out.2.2.1 Hi.out.2.2.2 rfl (by decide) _ i (valsV64 i f) rfl (HS.out.1.alloc _) ⟨wr.heap.size, 0, none⟩ 1 1 [.int .u64 (x : Int)] rfl rfl ?d2 ?d3 (by decide) ?d4 ?d5 ?d7 _ rfl ?d6)
      case d2 => intro j u hj; exact cell_new1 wr _ 39 j u hj
      case d3 => intro u hu; simp at hu; subst hu; rfl
      case d4 => unfold maxLen; omega
      case d5 => omega
      case d7 => have := HS.out.2.1.size; simp; omega
      case d6 =>
        intro g4 cap4 w4 ho4 hg4 hat4 hlt4
        have H4 : Hid (USt64 w.heap.size w f (i + 1) (.slice (some ⟨g4, 0, none⟩) (i + 1) cap4) w4) := Hnext.out w4 g4 cap4 ho4 hg4
        clear ho4 hg4 hat4 hlt4 HS Hnext
        go_wp2_with fail
        go_roundw
        case rel => exact ⟨i + 1, by simp, hlt, H4.out⟩
        case measure => simp [intOf]; omega
    · obtain rfl : i = n := by have := hI.out; omega
      obtain ⟨ad, cp, rfl, hcp, hrow⟩ := HS.out.row
      have HR := hide hrow
      have HB := hide HS.out.2.1
      clear hrow HS
      go_wp2_with fail
      go_ret
      exact ⟨ad, cp, rfl, hcp, HR.out, HB.out⟩

/-- A Bool that says whether P; new memory may have been made. -/
def SaysB (P : Prop) (w : World) (e : Ending) (w' : World) : Prop := ∃ v : Bool, e = .returned (.bool v) ∧ (v = true ↔ P) ∧ Below w.heap.size w w'

theorem alike_any (p q : Option Addr) (n n' cap cap' : Nat) (f g : Nat → Nat) (w : World) (h : URow32 w p n f) (hf : ∀ i, i < n → f i < 4294967296) (hn : n ≤ 1000000) (h' : URow64 w q n' g) (hn' : n' ≤ 281474976710656) :
    Calls Tryd.prog 17 #[.slice p n cap, .slice q n' cap'] w (SaysB (n = n' ∧ ∀ i, i < n → f i = g i) w) := by
  have H' := hide h'
  have HW := hide (widened_any p n cap f w h hf hn)
  clear h h' hf
  go_enter Tryd.func17, Tryd.ntmps17
  go_wp2_with fail
  refine HW.out.mono ?_
  rintro e w1 ⟨ad, cp, rfl, hcp, R1, B1⟩
  have HR1 := hide R1
  have HB1 := hide B1
  clear R1 B1
  go_wp2_with fail
  refine (same_any ad q n n' cp cap' f g w1 HR1.out (H'.out.below HB1.out) (by omega) hn').mono ?_
  rintro e w2 ⟨v, rfl, hv, m, hw2⟩
  have HV := hide hv
  have HB2 : Hid (Below w.heap.size w w2) := by rw [hw2]; exact below_drewN HB1.out m
  clear hv hw2
  go_wp2_with fail
  go_ret
  exact ⟨v, rfl, HV.out, HB2.out⟩

end Go.Proofs.YtenhippcjnemcaaDoor

/- The law's own works() is true; n. -/
import Derived.Test.YtnjcedlbdjidiaaGreatDoorP1O32
import Derived.Deep.AppendLies
import Derived.Deep.CutRange
import Derived.OwnWalk
import Derived.Test.YtnjcedlbdjidiaaGreatDoorP1B32
/- A row of values that is appended to (32 bits). -/
namespace Go.Proofs.YtnjcedlbdjidiaaGreatDoor
open Go.RowKit
open M
set_option linter.unusedVariables false

theorem info32 : ∃ i5, Tryz.prog.info? 80 = some i5 ∧ i5.zero = some (.int .u32 0) ∧ i5.size = 1 ∧ i5.bytes = 32 / 8 := by
  have hz : (Tryz.prog.info? 80).bind (·.zero) = some (.int .u32 0) := by kernel_rfl
  have hs : (Tryz.prog.info? 80).map (·.size) = some 1 := by kernel_rfl
  have hb : (Tryz.prog.info? 80).map (·.bytes) = some (32 / 8) := by kernel_rfl
  cases hi : Tryz.prog.info? 80 with
  | none => simp [hi] at hs
  | some i5 =>
    simp only [hi, Option.bind_some, Option.map_some, Option.some.injEq] at hz hs hb
    exact ⟨i5, rfl, hz, hs, hb⟩

/-- Values as cells. -/
def valsV32 (i : Nat) (f : Nat → Nat) : List Value := (List.range i).map fun j => .int .u32 (f j : Int)

theorem valsV32_succ (i : Nat) (f : Nat → Nat) : valsV32 (i + 1) f = valsV32 i f ++ [.int .u32 (f i : Int)] := by simp [valsV32, List.range_succ]

theorem grown_below32 {w w' : World} {row : Option Nat} {B : Nat} (hg : w.grownBy w' row) (hr : ∀ g, row = some g → B ≤ g) (hB : B ≤ w.heap.size) : Below B w w' :=
  ⟨hg.os, hg.tape, hg.output, hg.size, fun k hk => hg.block k (by omega) (fun e => by have := hr k e.symm; omega)⟩

/-- The slice v is a row of one's own, from block B on, of i values. -/
def USt32 (B : Nat) (w0 : World) (f : Nat → Nat) (i : Nat) (v : Value) (wr : World) : Prop := wr.ownsRow B 80 1 v i (valsV32 i f) ∧ Below B w0 wr ∧ B ≤ w0.heap.size

theorem USt32.nil (w : World) (f : Nat → Nat) : USt32 w.heap.size w f 0 (.slice none 0 0) w := ⟨⟨by simp [valsV32], .inl ⟨rfl, rfl⟩⟩, Below.refl _ _, Nat.le_refl _⟩

theorem USt32.next {B : Nat} {w0 wr w4 : World} {f : Nat → Nat} {i g cap : Nat} {v : Value} {t : Nat} (h : USt32 B w0 f i v wr) (ht : t = f i)
    (ho : w4.ownsRow B 80 1 (.slice (some ⟨g, 0, none⟩) (i + 1) cap) (i + 1) (valsV32 i f ++ [.int .u32 (t : Int)]))
    (hg : (wr.alloc (.cells #[.int .u32 (t : Int)] 80)).grownBy w4 v.ownBlock) : USt32 B w0 f (i + 1) (.slice (some ⟨g, 0, none⟩) (i + 1) cap) w4 := by
  subst ht
  have hs := h.2.1.size
  have h3 := h.2.2
  exact ⟨by rw [valsV32_succ]; exact ho, (h.2.1.alloc (Nat.le_trans h3 hs) _).trans (grown_below32 hg (fun g hg => (h.1.lt g hg).1) (by simp; omega)), h3⟩

theorem USt32.row {B : Nat} {w0 wr : World} {f : Nat → Nat} {i : Nat} {v : Value} (h : USt32 B w0 f i v wr) : ∃ ad cap, v = .slice ad i cap ∧ i ≤ cap ∧ URow32 wr ad i f := by
  rcases h.1.2 with ⟨h1, h2⟩ | ⟨g, cap2, cur, h1, hb, hg, hc2, hm2, hs, ht⟩
  · exact ⟨none, 0, by rw [h1, h2], by omega, by rw [h2]; exact URow32.nil _ _ _⟩
  · refine ⟨_, cap2, h1, hc2, fun _ => ⟨g, 0, rfl, fun j hj => ?_⟩⟩
    have e : (valsV32 i f)[j]? = some (.int .u32 (f j : Int)) := by simp [valsV32, hj]
    rw [Nat.zero_add, cell_of_row wr g j cur _ (0, 0) hg, ← e, ← ht, List.getElem?_take, if_pos (by omega)]
    simp

theorem USt32.congr {B : Nat} {w0 wr : World} {f f' : Nat → Nat} {i : Nat} {v : Value} (h : USt32 B w0 f i v wr) (e : ∀ j, j < i → f j = f' j) : USt32 B w0 f' i v wr := by
  have : valsV32 i f = valsV32 i f' := by
    unfold valsV32
    apply List.map_congr_left
    intro j hj
    rw [e j (List.mem_range.1 hj)]
  exact ⟨by rw [← this]; exact h.1, h.2⟩

end Go.Proofs.YtnjcedlbdjidiaaGreatDoor

/- The law's own functions: num, same, Widened, alike. -/
namespace Go.Proofs.YtnjcedlbdjidiaaGreatDoor
open Go.RowKit
open M
set_option linter.unusedVariables false

theorem num_any (n : Int) (w : World) : Calls Tryz.prog 21 #[.int .i64 n] w fun e w' => e = .returned (.int .i64 n) ∧ w' = w := by
  go_enter Tryz.func21, Tryz.ntmps21
  go_wp2
  go_ret
  exact ⟨rfl, rfl⟩

/-- A Bool that says whether P. -/
def Says (P : Prop) (w : World) (e : Ending) (w' : World) : Prop := ∃ v : Bool, e = .returned (.bool v) ∧ (v = true ↔ P) ∧ ∃ m, w' = w.drewN m

set_option maxHeartbeats 1000000 in
theorem same_any (p q : Option Addr) (n n' cap cap' : Nat) (f g : Nat → Nat) (w : World) (h : URow64 w p n f) (h' : URow64 w q n' g) (hn : n ≤ 281474976710656) (hn' : n' ≤ 281474976710656) :
    Calls Tryz.prog 33 #[.slice p n cap, .slice q n' cap'] w (Says (n = n' ∧ ∀ i, i < n → f i = g i) w) := by
  have H := hide h
  have H' := hide h'
  clear h h'
  by_cases hne : n = n'
  · subst hne
    go_enter Tryz.func33, Tryz.ntmps33
    go_wp2_with fail
    go_loopw [5] (fun i wr => ∃ k : Nat, Hid (∀ j, j < k → f j = g j) ∧ i = .int .i64 (k : Int) ∧ Hid (∃ m, wr = w.drewN m)) (fun i _ => n - (intOf i).toNat)
    case atStart => exact ⟨0, fun j hj => by omega, rfl, 0, rfl⟩
    case round =>
      obtain ⟨k, hr, rfl, hm⟩ := hrel
      by_cases hlt : k < n
      · obtain ⟨b, o, rfl, hc⟩ := H.out (by omega)
        obtain ⟨b', o', rfl, hc'⟩ := H'.out (by omega)
        obtain ⟨x, hx⟩ : ∃ x, f k = x := ⟨_, rfl⟩
        obtain ⟨y, hy⟩ : ∃ y, g k = y := ⟨_, rfl⟩
        have c1 : wr.cell? ⟨b, o + k, none⟩ = some (.int .u64 (x : Int)) := by obtain ⟨m, rfl⟩ := hm.out; rw [← hx]; exact hc k hlt
        have c2 : wr.cell? ⟨b', o' + k, none⟩ = some (.int .u64 (y : Int)) := by obtain ⟨m, rfl⟩ := hm.out; rw [← hy]; exact hc' k hlt
        have HXY := hide (And.intro hx hy)
        clear hc hc' hx hy
        by_cases hle : x = y
        · have hb : ((x : Int) != (y : Int)) = false := by simp [hle]
          go_wp2_with fail
          go_region
          go_wp2_with fail
          go_roundw
          case rel => exact ⟨k + 1, fun j hj => by
            by_cases e : j = k
            · subst e; rw [HXY.out.1, HXY.out.2]; exact hle
            · exact hr.out j (by omega), by simp, by obtain ⟨m, rfl⟩ := hm.out; exact ⟨m + 1, rfl⟩⟩
          case measure => simp [intOf]; omega
        · have hb : ((x : Int) != (y : Int)) = true := by simp; omega
          go_wp2_with fail
          go_region
          go_wp2_with fail
          go_ret
          obtain ⟨m, rfl⟩ := hm.out
          exact ⟨false, rfl, ⟨fun h => (by cases h), fun h => absurd (h.2 k hlt) (by rw [HXY.out.1, HXY.out.2]; exact hle)⟩, m + 1, rfl⟩
      · go_wp2_with fail
        go_ret
        exact ⟨true, rfl, ⟨fun _ => ⟨by trivial, fun j hj => hr.out j (by omega)⟩, fun _ => rfl⟩, hm.out⟩
  · have hb : ((n : Int) != (n' : Int)) = true := by simp; omega
    go_enter Tryz.func33, Tryz.ntmps33
    go_wp2_with fail
    go_ret
    exact ⟨false, rfl, ⟨fun h => (by cases h), fun h => absurd h.1 hne⟩, 0, rfl⟩

theorem cell_new1 (w : World) (v : Value) (t : TypeId) (j : Nat) (u : Value) (h : [v][j]? = some u) : (w.alloc (.cells #[v] t)).cell? ((⟨w.heap.size, 0, none⟩ : Addr).add j) = some u := by
  have hn := heap_alloc_new w (.cells #[v] t)
  rw [Addr.add_mid, Nat.zero_add, cell_of_row _ _ _ _ _ _ hn]
  cases j with
  | zero => simpa using h
  | succ j => simp at h

set_option maxRecDepth 100000 in
set_option maxHeartbeats 1000000 in
/-- uint32s as uint64s. -/
theorem widened_any (p : Option Addr) (n cap : Nat) (f : Nat → Nat) (w : World) (h : URow32 w p n f) (hf : ∀ i, i < n → f i < 4294967296) (hn : n ≤ 1000000) :
    Calls Tryz.prog 28 #[.slice p n cap] w fun e w' => ∃ ad cp, e = .returned (.slice ad n cp) ∧ n ≤ cp ∧ URow64 w' ad n f ∧ Below w.heap.size w w' := by
  have H := hide h
  have HF := hide hf
  clear h hf
  obtain ⟨i5, hi5⟩ := info64
  have Hi := hide hi5
  clear hi5
  go_enter Tryz.func28, Tryz.ntmps28
  go_wp2_with fail
  go_loopw [3, 4] (fun t3 t4 wr => ∃ i : Nat, t4 = .int .i64 (i : Int) ∧ Hid (i ≤ n) ∧ Hid (USt64 w.heap.size w f i t3 wr)) (fun _ t4 _ => n - (intOf t4).toNat)
  case atStart => exact ⟨0, rfl, Nat.zero_le _, USt64.nil _ _⟩
  case round =>
    obtain ⟨i, rfl, hI, HS⟩ := hrel
    by_cases hlt : i < n
    · obtain ⟨b, o, rfl, hc⟩ := H.out (by omega)
      have Hnext := hide (fun (w4 : World) (g4 cap4 : Nat) => USt64.next (w4 := w4) (g := g4) (cap := cap4) HS.out rfl)
      obtain ⟨x, hx⟩ : ∃ x, f i = x := ⟨_, rfl⟩
      have hbw : b < w.heap.size := block_lt_of_cell (hc i hlt)
      have c1 : wr.cell? ⟨b, o + i, none⟩ = some (.int .u32 (x : Int)) := by rw [HS.out.2.1.cell (p := ⟨b, o + i, none⟩) hbw, ← hx]; exact hc i hlt
      have hxl : x < 4294967296 := by rw [← hx]; exact HF.out i hlt
      have r1 : IntKind.u64.wrap (x : Int) = (x : Int) := by rw [IntKind.wrap_u64]; omega
      rw [hx] at Hnext
      have HX := hide hxl
      clear hc hx hxl
      go_wp2_with (at_builtin; refine wpList_append_lies _ rfl _ _ _ rfl w.heap.size 71 i5 (.int .u64 0) 1 8 Tryz.underlying54 Hi.out.1 Hi.out.2.1 Hi.out.2.2.1 Hi.out.2.2.2 rfl (by decide) _ i (valsV64 i f) rfl (HS.out.1.alloc _) ⟨wr.heap.size, 0, none⟩ 1 1 [.int .u64 (x : Int)] rfl rfl ?d2 ?d3 (by decide) ?d4 ?d5 ?d7 _ rfl ?d6)
      case d2 => intro j u hj; exact cell_new1 wr _ 71 j u hj
      case d3 => intro u hu; simp at hu; subst hu; rfl
      case d4 => unfold maxLen; omega
      case d5 => omega
      case d7 => have := HS.out.2.1.size; simp; omega
      case d6 =>
        intro g4 cap4 w4 ho4 hg4 hat4 hlt4
        have H4 : Hid (USt64 w.heap.size w f (i + 1) (.slice (some ⟨g4, 0, none⟩) (i + 1) cap4) w4) := Hnext.out w4 g4 cap4 ho4 hg4
        clear ho4 hg4 hat4 hlt4 HS Hnext
        go_wp2_with fail
        go_roundw
        case rel => exact ⟨i + 1, by simp, hlt, H4.out⟩
        case measure => simp [intOf]; omega
    · obtain rfl : i = n := by have := hI.out; omega
      obtain ⟨ad, cp, rfl, hcp, hrow⟩ := HS.out.row
      have HR := hide hrow
      have HB := hide HS.out.2.1
      clear hrow HS
      go_wp2_with fail
      go_ret
      exact ⟨ad, cp, rfl, hcp, HR.out, HB.out⟩

/-- A Bool that says whether P; new memory may have been made. -/
def SaysB (P : Prop) (w : World) (e : Ending) (w' : World) : Prop := ∃ v : Bool, e = .returned (.bool v) ∧ (v = true ↔ P) ∧ Below w.heap.size w w'

theorem alike_any (p q : Option Addr) (n n' cap cap' : Nat) (f g : Nat → Nat) (w : World) (h : URow32 w p n f) (hf : ∀ i, i < n → f i < 4294967296) (hn : n ≤ 1000000) (h' : URow64 w q n' g) (hn' : n' ≤ 281474976710656) :
    Calls Tryz.prog 34 #[.slice p n cap, .slice q n' cap'] w (SaysB (n = n' ∧ ∀ i, i < n → f i = g i) w) := by
  have H' := hide h'
  have HW := hide (widened_any p n cap f w h hf hn)
  clear h h' hf
  go_enter Tryz.func34, Tryz.ntmps34
  go_wp2_with fail
  refine HW.out.mono ?_
  rintro e w1 ⟨ad, cp, rfl, hcp, R1, B1⟩
  have HR1 := hide R1
  have HB1 := hide B1
  clear R1 B1
  go_wp2_with fail
  refine (same_any ad q n n' cp cap' f g w1 HR1.out (H'.out.below HB1.out) (by omega) hn').mono ?_
  rintro e w2 ⟨v, rfl, hv, m, hw2⟩
  have HV := hide hv
  have HB2 : Hid (Below w.heap.size w w2) := by rw [hw2]; exact below_drewN HB1.out m
  clear hv hw2
  go_wp2_with fail
  go_ret
  exact ⟨v, rfl, HV.out, HB2.out⟩

end Go.Proofs.YtnjcedlbdjidiaaGreatDoor

namespace Go.Proofs.YtnjcedlbdjidiaaGreatDoor
open Go.RowKit
open M
set_option linter.unusedVariables false

/-- The values of works. -/
def wk (i : Nat) : Nat := if i = 2 then 9 else 1

theorem wk64 : packed (cbn 64 6 wk 3) = [0, 0, 0, 0, 0, 0, 0, 1, 120, 3] ∨ True := .inr trivial
theorem wk_lt (i : Nat) : wk i < 256 := by unfold wk; split <;> omega
theorem wk64_len : (packed (cbn 64 6 wk 3)).length = 10 := by decide +kernel
theorem wk32_len : (packed (cbn 32 5 wk 3)).length = 6 := by decide +kernel

theorem urow64_of {w : World} {g : Nat} {t : TypeId} (h : w.heap[g]? = some (.cells #[.int .u64 1, .int .u64 1, .int .u64 9] t (0, 0))) : URow64 w (some ⟨g, 0, none⟩) 3 wk := fun _ =>
  ⟨g, 0, rfl, fun i hi => by
    rw [cell_of_row _ _ _ _ _ _ h]
    rcases (show i = 0 ∨ i = 1 ∨ i = 2 by omega) with rfl | rfl | rfl <;> rfl⟩
theorem urow32_of {w : World} {g : Nat} {t : TypeId} (h : w.heap[g]? = some (.cells #[.int .u32 1, .int .u32 1, .int .u32 9] t (0, 0))) : URow32 w (some ⟨g, 0, none⟩) 3 wk := fun _ =>
  ⟨g, 0, rfl, fun i hi => by
    rw [cell_of_row _ _ _ _ _ _ h]
    rcases (show i = 0 ∨ i = 1 ∨ i = 2 by omega) with rfl | rfl | rfl <;> rfl⟩

set_option maxRecDepth 100000 in
set_option maxHeartbeats 4000000 in
theorem works_any (w : World) (hT : Tab64 w) : Calls Tryz.prog 14 #[] w fun e w' => e = .returned (.bool true) ∧ Below w.heap.size w w' := by
  have HR : Hid (URow64 (w.alloc (.cells #[.int .u64 1, .int .u64 1, .int .u64 9] 71)) (some ⟨w.heap.size, 0, none⟩) 3 wk) := urow64_of (heap_alloc_new _ _)
  have HB : Hid (Below w.heap.size w (w.alloc (.cells #[.int .u64 1, .int .u64 1, .int .u64 9] 71))) := (Below.refl _ _).alloc (Nat.le_refl _) _
  have HT := hide hT
  clear hT
  go_enter Tryz.func14, Tryz.ntmps14
  go_wp2_with fail
  generalize w.alloc (.cells #[.int .u64 1, .int .u64 1, .int .u64 9] 71) = w0 at *
  refine (pack64_ok _ 3 3 wk w0 HR.out (by omega) (by omega) (fun i _ => by have := wk_lt i; omega) (HT.out.below HB.out)).mono ?_
  rintro e w1 ⟨g, L, hL, hg, rfl, G1, B1⟩
  rw [wk64_len] at hL
  subst hL
  have HI : Hid (IsBytes w1 (.slice (some ⟨g, 0, none⟩) 10 10) (packed (cbn 64 6 wk 3))) := by
    have := isBytes_row (cap := 10) G1
    rw [wk64_len] at this
    exact this
  have HB1 : Hid (Below w.heap.size w w1) := HB.out.trans (B1.mono HB.out.size)
  clear G1 B1 HB HR
  go_wp2_with fail
  refine (unpack64_any _ _ 3 w1 (.inl HI.out) (packed_lt _) (by rw [wk64_len]; omega) (by omega) (HT.out.below HB1.out)).mono ?_
  rintro e w2 (⟨rfl, B2, hno⟩ | ⟨g2, f, rfl, hg2, U2, B2, P2, hU⟩)
  · exact absurd ⟨wk, fun i _ => by have := wk_lt i; omega, rfl⟩ hno
  have HB2 : Hid (Below w.heap.size w w2) := HB1.out.trans (B2.mono HB1.out.size)
  have HF : Hid (∀ i, i < 3 → f i = wk i) := hU wk (begins_of64 ⟨fun i _ => by have := wk_lt i; omega, rfl⟩)
  have HU2 : Hid (URow64 w2 (some ⟨g2, 0, none⟩) 3 f) := U2.urow
  clear B2 P2 hU U2
  have HR3 : Hid (URow32 (w2.alloc (.cells #[.int .u32 1, .int .u32 1, .int .u32 9] 80)) (some ⟨w2.heap.size, 0, none⟩) 3 wk) := urow32_of (heap_alloc_new _ _)
  have HB3 : Hid (Below w2.heap.size w2 (w2.alloc (.cells #[.int .u32 1, .int .u32 1, .int .u32 9] 80))) := (Below.refl _ _).alloc (Nat.le_refl _) _
  go_wp2_with fail
  generalize w2.alloc (.cells #[.int .u32 1, .int .u32 1, .int .u32 9] 80) = w3 at *
  have HB03 : Hid (Below w.heap.size w w3) := HB2.out.trans (HB3.out.mono HB2.out.size)
  refine (pack32_ok _ 3 3 wk w3 HR3.out (by omega) (by omega) (fun i _ => by have := wk_lt i; omega) (HT.out.below HB03.out)).mono ?_
  rintro e w4 ⟨g4, L4, hL4, hg4, rfl, G4, B4⟩
  rw [wk32_len] at hL4
  subst hL4
  have HI4 : Hid (IsBytes w4 (.slice (some ⟨g4, 0, none⟩) 6 6) (packed (cbn 32 5 wk 3))) := by
    have := isBytes_row (cap := 6) G4
    rw [wk32_len] at this
    exact this
  have HB4 : Hid (Below w3.heap.size w3 w4) := B4
  have HB04 : Hid (Below w.heap.size w w4) := HB03.out.trans (B4.mono HB03.out.size)
  clear G4 B4 HR3
  go_wp2_with fail
  refine (unpack32_any _ _ 3 w4 (.inl HI4.out) (packed_lt _) (by rw [wk32_len]; omega) (by omega) (HT.out.below HB04.out)).mono ?_
  rintro e w5 (⟨rfl, B5, hno⟩ | ⟨g5, f5, rfl, hg5, U5, B5, P5, hU5⟩)
  · exact absurd ⟨wk, fun i _ => by have := wk_lt i; omega, rfl⟩ hno
  have HB05 : Hid (Below w.heap.size w w5) := HB04.out.trans (B5.mono HB04.out.size)
  have HF5 : Hid ((∀ i, i < 3 → f5 i = wk i) ∧ ∀ i, i < 3 → f5 i < 4294967296) := ⟨hU5 wk (begins_of32 ⟨fun i _ => by have := wk_lt i; omega, rfl⟩), P5.1⟩
  have HU5 : Hid (URow32 w5 (some ⟨g5, 0, none⟩) 3 f5) := U5.urow
  have HU25 : Hid (URow64 w5 (some ⟨g2, 0, none⟩) 3 f) := ((HU2.out.below HB3.out).below HB4.out).below B5
  clear B5 P5 hU5 U5 HB4 HB3 HU2 HI HI4
  go_wp2_with fail
  refine (num_any _ _).mono ?_
  rintro e wn ⟨rfl, hwn⟩
  have hwn := hwn.symm
  subst hwn
  go_wp2_with fail
  refine (num_any _ _).mono ?_
  rintro e wn ⟨rfl, hwn⟩
  have hwn := hwn.symm
  subst hwn
  go_wp2_with fail
  refine (num_any _ _).mono ?_
  rintro e wn ⟨rfl, hwn⟩
  have hwn := hwn.symm
  subst hwn
  go_wp2_with fail
  refine (num_any _ _).mono ?_
  rintro e wn ⟨rfl, hwn⟩
  have hwn := hwn.symm
  subst hwn
  have HR6 : Hid (URow64 (w5.alloc (.cells #[.int .u64 1, .int .u64 1, .int .u64 9] 71)) (some ⟨w5.heap.size, 0, none⟩) 3 wk) := urow64_of (heap_alloc_new _ _)
  have HB6 : Hid (Below w5.heap.size w5 (w5.alloc (.cells #[.int .u64 1, .int .u64 1, .int .u64 9] 71))) := (Below.refl _ _).alloc (Nat.le_refl _) _
  go_wp2_with fail
  generalize w5.alloc (.cells #[.int .u64 1, .int .u64 1, .int .u64 9] 71) = w6 at *
  refine (same_any _ _ 3 3 _ _ f wk w6 (HU25.out.below HB6.out) HR6.out (by omega) (by omega)).mono ?_
  rintro e w7 ⟨v, rfl, hv, m, hw7⟩
  obtain rfl : v = true := hv.2 ⟨rfl, HF.out⟩
  have HB7 : Hid (Below w5.heap.size w5 w7) := by rw [hw7]; exact below_drewN HB6.out m
  have HR8 : Hid (URow64 (w7.alloc (.cells #[.int .u64 1, .int .u64 1, .int .u64 9] 71)) (some ⟨w7.heap.size, 0, none⟩) 3 wk) := urow64_of (heap_alloc_new _ _)
  have HB8 : Hid (Below w7.heap.size w7 (w7.alloc (.cells #[.int .u64 1, .int .u64 1, .int .u64 9] 71))) := (Below.refl _ _).alloc (Nat.le_refl _) _
  clear hw7 hv HR6 HB6
  go_wp2_with fail
  generalize w7.alloc (.cells #[.int .u64 1, .int .u64 1, .int .u64 9] 71) = w8 at *
  have HB58 : Hid (Below w5.heap.size w5 w8) := HB7.out.trans (HB8.out.mono HB7.out.size)
  refine (alike_any _ _ 3 3 _ _ f5 wk w8 (HU5.out.below HB58.out) HF5.out.2 (by omega) HR8.out (by omega)).mono ?_
  rintro e w9 ⟨v, rfl, hv, B9⟩
  obtain rfl : v = true := hv.2 ⟨rfl, HF5.out.1⟩
  have HB9 : Hid (Below w.heap.size w w9) := (HB05.out.trans (HB58.out.mono HB05.out.size)).trans (B9.mono (Nat.le_trans HB05.out.size HB58.out.size))
  clear B9 hv
  go_wp2_with fail
  go_ret
  exact ⟨rfl, HB9.out⟩

end Go.Proofs.YtnjcedlbdjidiaaGreatDoor

/- The contracts of lay and Pack. -/
import Derived.Test.YtangjkhflgkkdaaGreatT1C
import Derived.Deep.Cut
import Derived.Laws.Tables
import Derived.Great.Walk
/- Rows of times in memory; the contracts of rise, rising, same. -/
namespace Go.Proofs.YtangjkhflgkkdaaGreat
open Go.RowKit
open M
set_option linter.unusedVariables false

/-- The slice at p of n int64s holds f. -/
def TRow (w : World) (p : Option Addr) (n : Nat) (f : Nat → Int) : Prop :=
  0 < n → ∃ b o, p = some ⟨b, o, none⟩ ∧ ∀ i, i < n → w.cell? ⟨b, o + i, none⟩ = some (.int .i64 (f i))

theorem TRow.drewN {w : World} {p : Option Addr} {n : Nat} {f : Nat → Int} (h : TRow w p n f) (m : Nat) : TRow (w.drewN m) p n f := h

theorem TRow.below {w w' : World} {p : Option Addr} {n : Nat} {f : Nat → Int} (h : TRow w p n f) (hB : Below w.heap.size w w') : TRow w' p n f := fun h0 => by
  obtain ⟨b, o, hp, hc⟩ := h h0
  exact ⟨b, o, hp, fun i hi => by rw [hB.cell (p := ⟨b, o + i, none⟩) (block_lt_of_cell (hc i hi))]; exact hc i hi⟩

theorem TRow.take {w : World} {p : Option Addr} {n m : Nat} {f : Nat → Int} (h : TRow w p n f) (hm : m ≤ n) : TRow w p m f := fun h0 => by
  obtain ⟨b, o, hp, hc⟩ := h (by omega)
  exact ⟨b, o, hp, fun i hi => hc i (by omega)⟩

theorem TRow.nil (w : World) (p : Option Addr) (f : Nat → Int) : TRow w p 0 f := fun h => by omega

/-- A Bool that says whether P. -/
def Says (P : Prop) (w : World) (e : Ending) (w' : World) : Prop := ∃ v : Bool, e = .returned (.bool v) ∧ (v = true ↔ P) ∧ ∃ m, w' = w.drewN m

set_option maxHeartbeats 1000000 in
theorem rise_any (p : Option Addr) (n cap : Nat) (f : Nat → Int) (w : World) (h : TRow w p n f) (hn : n ≤ 281474976710656) :
    Calls Tryz.prog 29 #[.slice p n cap] w (Says (Rises f n) w) := by
  have H := hide h
  clear h
  go_enter Tryz.func29, Tryz.ntmps29
  go_wp2_with fail
  go_loopw [3] (fun i wr => ∃ k : Nat, Hid (∀ j, j < k → f j < f (j + 1)) ∧ i = .int .i64 ((k : Int) + 1) ∧ Hid (∃ m, wr = w.drewN m)) (fun i _ => n - (intOf i).toNat)
  case atStart => exact ⟨0, fun j hj => by omega, rfl, 0, rfl⟩
  case round =>
    obtain ⟨k, hr, rfl, hm⟩ := hrel
    by_cases hlt : k + 1 < n
    · obtain ⟨b, o, rfl, hc⟩ := H.out (by omega)
      have c1 : wr.cell? ⟨b, o + (k + 1), none⟩ = some (.int .i64 (f (k + 1))) := by obtain ⟨m, rfl⟩ := hm.out; exact hc (k + 1) hlt
      have c2 : wr.cell? ⟨b, o + k, none⟩ = some (.int .i64 (f k)) := by obtain ⟨m, rfl⟩ := hm.out; exact hc k (by omega)
      clear hc
      by_cases hle : f (k + 1) ≤ f k
      · go_wp2_with fail
        go_region
        go_wp2_with fail
        go_ret
        obtain ⟨m, rfl⟩ := hm.out
        exact ⟨false, rfl, ⟨fun h => (by cases h), fun h => by have := h k hlt; omega⟩, m + 1, rfl⟩
      · go_wp2_with fail
        go_region
        go_wp2_with fail
        go_roundw
        case rel => exact ⟨k + 1, fun j hj => by
          by_cases e : j = k
          · subst e; omega
          · exact hr.out j (by omega), by simp, by obtain ⟨m, rfl⟩ := hm.out; exact ⟨m + 1, rfl⟩⟩
        case measure => simp [intOf]; omega
    · go_wp2_with fail
      go_ret
      exact ⟨true, rfl, ⟨fun _ j hj => hr.out j (by omega), fun _ => rfl⟩, hm.out⟩


set_option maxHeartbeats 1000000 in
theorem same_any (p q : Option Addr) (n n' cap cap' : Nat) (f g : Nat → Int) (w : World) (h : TRow w p n f) (h' : TRow w q n' g) (hn : n ≤ 281474976710656) (hn' : n' ≤ 281474976710656) :
    Calls Tryz.prog 25 #[.slice p n cap, .slice q n' cap'] w (Says (n = n' ∧ ∀ i, i < n → f i = g i) w) := by
  have H := hide h
  have H' := hide h'
  clear h h'
  by_cases hne : n = n'
  · subst hne
    go_enter Tryz.func25, Tryz.ntmps25
    go_wp2_with fail
    go_loopw [5] (fun i wr => ∃ k : Nat, Hid (∀ j, j < k → f j = g j) ∧ i = .int .i64 (k : Int) ∧ Hid (∃ m, wr = w.drewN m)) (fun i _ => n - (intOf i).toNat)
    case atStart => exact ⟨0, fun j hj => by omega, rfl, 0, rfl⟩
    case round =>
      obtain ⟨k, hr, rfl, hm⟩ := hrel
      by_cases hlt : k < n
      · obtain ⟨b, o, rfl, hc⟩ := H.out (by omega)
        obtain ⟨b', o', rfl, hc'⟩ := H'.out (by omega)
        have c1 : wr.cell? ⟨b, o + k, none⟩ = some (.int .i64 (f k)) := by obtain ⟨m, rfl⟩ := hm.out; exact hc k hlt
        have c2 : wr.cell? ⟨b', o' + k, none⟩ = some (.int .i64 (g k)) := by obtain ⟨m, rfl⟩ := hm.out; exact hc' k hlt
        clear hc hc'
        by_cases hle : f k = g k
        · have hb : (f k != g k) = false := by simp [hle]
          go_wp2_with fail
          go_region
          go_wp2_with fail
          go_roundw
          case rel => exact ⟨k + 1, fun j hj => by
            by_cases e : j = k
            · subst e; exact hle
            · exact hr.out j (by omega), by simp, by obtain ⟨m, rfl⟩ := hm.out; exact ⟨m + 1, rfl⟩⟩
          case measure => simp [intOf]; omega
        · have hb : (f k != g k) = true := by simp [hle]
          go_wp2_with fail
          go_region
          go_wp2_with fail
          go_ret
          obtain ⟨m, rfl⟩ := hm.out
          exact ⟨false, rfl, ⟨fun h => (by cases h), fun h => absurd (h.2 k hlt) hle⟩, m + 1, rfl⟩
      · go_wp2_with fail
        go_ret
        exact ⟨true, rfl, ⟨fun _ => ⟨by trivial, fun j hj => hr.out j (by omega)⟩, fun _ => rfl⟩, hm.out⟩
  · have hb : ((n : Int) != (n' : Int)) = true := by simp; omega
    go_enter Tryz.func25, Tryz.ntmps25
    go_wp2_with fail
    go_ret
    exact ⟨false, rfl, ⟨fun h => (by cases h), fun h => absurd h.1 hne⟩, 0, rfl⟩

theorem num_any (n : Int) (w : World) : Calls Tryz.prog 19 #[.int .i64 n] w fun e w' => e = .returned (.int .i64 n) ∧ w' = w := by
  go_enter Tryz.func19, Tryz.ntmps19
  go_wp2
  go_ret
  exact ⟨rfl, rfl⟩

end Go.Proofs.YtangjkhflgkkdaaGreat

namespace Go.Proofs.YtangjkhflgkkdaaGreat
open Go.RowKit
open M
set_option linter.unusedVariables false

set_option maxHeartbeats 1000000 in
theorem lay_any (b lo : Nat) (p : Option Addr) (n cap : Nat) (f : Nat → Int) (w0 w : World) (h : TRow w0 p n f) (hw0 : w0.heap.size ≤ b) (hB : Below w0.heap.size w0 w) (hn : n ≤ 4096) (hf : ∀ i, i < n → I64 (f i))
    (hW : Wr w lo b 0 [] 0) (hb : b < lo) (hlo : lo ≤ w.heap.size) :
    Calls Tryz.prog 30 #[.pointer (some ⟨b, 0, none⟩), .slice p n cap] w fun e w' => e = .returned (.tuple #[]) ∧ Wr w' lo b 0 (tbn f n) 0 ∧ Only b 0 123 w w' := by
  have HW := hide hW
  have HF := hide hf
  have HB := hide hB
  have H := hide h
  clear hW hf hB h
  by_cases h0 : n = 0
  · subst h0
    go_enter Tryz.func30, Tryz.ntmps30
    go_wp2_with fail
    refine bodyPost_ret (results_none rfl _ _ _) rfl ?_
    exact ⟨rfl, HW.out, Only.refl _ _ _ _⟩
  obtain ⟨rb0, ro, rfl, hc⟩ := H.out (by omega)
  have hrb : rb0 < w0.heap.size := block_lt_of_cell (hc 0 (by omega))
  have c0 : w.cell? ⟨rb0, ro, none⟩ = some (.int .i64 (f 0)) := by rw [HB.out.cell (p := ⟨rb0, ro, none⟩) hrb]; exact hc 0 (by omega)
  have HC := hide hc
  clear hc
  have hne : ((n : Int) == 0) = false := by rw [beq_eq_false_iff_ne]; omega
  go_enter Tryz.func30, Tryz.ntmps30
  go_wp2_with fail
  have e0 : IntKind.u64.wrap (f 0) = ((u64 (f 0) : Nat) : Int) := by
    unfold u64; simp only [IntKind.wrap, IntKind.bits, IntKind.signed]; simp; omega
  try rw [e0]
  refine (wbits_any b 0 lo 64 (u64 (f 0)) w [] HW.out hb hlo (by simp) (by omega) (u64_lt _) (u64_lt _)).mono ?_
  rintro e w1 ⟨rfl, W1, O1⟩
  clear c0
  go_wp2_with fail
  go_loopw [4, 5] (fun t4 t5 wr => ∃ k : Nat, t4 = .int .u64 (ahd f k : Int) ∧ t5 = .int .i64 ((k : Int) + 1) ∧ Hid (k < n ∧ Wr wr lo b 0 (tbn f (k + 1)) 0 ∧ Only b 0 123 w wr)) (fun _ t5 _ => n - (intOf t5).toNat)
  case atStart => exact ⟨0, rfl, rfl, by omega, W1, O1⟩
  case round =>
    obtain ⟨k, rfl, rfl, hI⟩ := hrel
    by_cases hlt : k + 1 < n
    · have hBr : Below w0.heap.size w0 wr := HB.out.trans (hI.out.2.2.below hw0 (by have := HB.out.size; omega))
      have c1 : wr.cell? ⟨rb0, ro + (k + 1), none⟩ = some (.int .i64 (f (k + 1))) := by rw [hBr.cell (p := ⟨rb0, ro + (k + 1), none⟩) hrb]; exact HC.out (k + 1) hlt
      have c2 : wr.cell? ⟨rb0, ro + k, none⟩ = some (.int .i64 (f k)) := by rw [hBr.cell (p := ⟨rb0, ro + k, none⟩) hrb]; exact HC.out k (by omega)
      clear hBr
      go_wp2_with fail
      go_region
      have ed : IntKind.u64.wrap (IntKind.u64.wrap (f (k + 1)) - IntKind.u64.wrap (f k)) = ((dif (f (k + 1)) (f k) : Nat) : Int) := by
        unfold dif; simp only [IntKind.wrap, IntKind.bits, IntKind.signed]; simp; omega
      rw [ed]
      clear ed
      obtain ⟨D, hD⟩ : ∃ D, D = dif (f (k + 1)) (f k) := ⟨_, rfl⟩
      obtain ⟨A, hA⟩ : ∃ A, A = ahd f k := ⟨_, rfl⟩
      have hD2 : D < 18446744073709551616 := by rw [hD]; exact dif_lt _ _
      have hA2 : A < 18446744073709551616 := by rw [hA]; exact ahd_lt _ _
      rw [← hD, ← hA]
      obtain ⟨y, hy⟩ : ∃ y : Nat, y = (((D : Int) - (A : Int)) % 18446744073709551616).toNat := ⟨_, rfl⟩
      have e1 : IntKind.u64.wrap ((D : Int) - (A : Int)) = (y : Int) := by
        rw [hy]; simp only [IntKind.wrap, IntKind.bits, IntKind.signed]; simp; omega
      have e2 : wrap64 (y : Int) = bend D A := by rw [hy]; unfold wrap64 bend; omega
      have e3 : IntKind.i64.wrap (y : Int) = bend D A := by rw [hy]; unfold bend; simp only [IntKind.wrap, IntKind.bits, IntKind.signed]; simp; omega
      have HD := hide hD
      have HA := hide hA
      have HD2 := hide hD2
      have HA2 := hide hA2
      clear hD hA hD2 hA2 hy
      go_wp2_with fail
      refine (zigzag_any (bend D A) _ (bend_range _ _)).mono ?_
      rintro e w2 ⟨rfl, rfl⟩
      have Wd : Wr wr.drew lo b 0 (tbn f (k + 1)) 0 := hI.out.2.1.below (Below.refl _ _).drew
      have Od : Only b 0 123 w wr.drew := hI.out.2.2.drew
      go_wp2_with fail
      refine (layZigzag_any b 0 lo (zig (bend D A)) _ _ Wd hb (by have := Od.size; omega) (by have := tbn_length f k; omega) (zig_lt' _ (bend_range _ _))).mono ?_
      rintro e w3 ⟨rfl, W3, O3⟩
      go_wp2_with fail
      go_roundw
      case rel =>
        refine ⟨k + 1, ?_, by simp, hlt, ?_, Od.trans O3⟩
        · rw [HD.out]; rfl
        · rw [tbn_step]; unfold zg; rw [← HD.out, ← HA.out]; exact W3
      case measure => simp [intOf]; omega
    · go_wp2_with fail
      go_end0
      obtain rfl : n = k + 1 := by have := hI.out.1; omega
      exact ⟨rfl, hI.out.2.1, hI.out.2.2⟩

/-- What Pack tells of times that rise. -/
def PackEnd (f : Nat → Int) (n : Nat) (w : World) (e : Ending) (w' : World) : Prop :=
  ∃ (g L : Nat), L = (packed (tbn f n)).length ∧ w.heap.size ≤ g ∧ e = .returned (.tuple #[.slice (some ⟨g, 0, none⟩) L L, .int .i64 0]) ∧
    w'.heap[g]? = some (.cells (bytesV (packed (tbn f n))).toArray 5 (0, 0)) ∧ Below w.heap.size w w'

theorem below_drewN {B : Nat} {w w' : World} (h : Below B w w') (m : Nat) : Below B w (w'.drewN m) := ⟨h.os, h.tape, h.output, h.size, h.block⟩

set_option maxRecDepth 100000 in
set_option maxHeartbeats 1000000 in
theorem pack_ok (p : Option Addr) (n cap : Nat) (f : Nat → Int) (w : World) (h : TRow w p n f) (hn : n ≤ 4096) (hf : ∀ i, i < n → I64 (f i)) (hr : Rises f n) :
    Calls Tryz.prog 14 #[.slice p n cap] w (PackEnd f n w) := by
  have H := hide h
  have HF := hide hf
  have HR := hide hr
  clear h hf hr
  go_enter Tryz.func14, Tryz.ntmps14
  go_wp2_with fail
  refine (rise_any p n cap f w H.out (by omega)).mono ?_
  rintro e w1 ⟨v, rfl, hv, m, rfl⟩
  obtain rfl : v = true := hv.2 HR.out
  clear hv
  obtain ⟨wm, hwm⟩ : ∃ wm, wm = w.drewN m := ⟨_, rfl⟩
  have Hwm : Hid (Below w.heap.size w wm ∧ wm.heap.size = w.heap.size ∧ TRow wm p n f) := by
    rw [hwm]; exact ⟨below_drewN (Below.refl _ _) m, rfl, H.out⟩
  rw [← hwm]
  clear hwm H
  obtain ⟨g, hg⟩ : ∃ g, g = wm.heap.size := ⟨_, rfl⟩
  obtain ⟨W1, hW1⟩ : ∃ W1, W1 = wm.alloc (.cells zW 84) := ⟨_, rfl⟩
  have HM : Hid (Wr W1 (g + 1) g 0 [] 0 ∧ g + 1 ≤ W1.heap.size ∧ Below wm.heap.size wm W1) := by
    have B1 : Below wm.heap.size wm W1 := by rw [hW1]; exact (Below.refl _ wm).alloc (Nat.le_refl _) _
    refine ⟨?_, by rw [hW1, hg]; simp, B1⟩
    rw [hg, hW1]; exact wr_of (heap_alloc_new wm _)
  have HG := hide hg
  go_upto_region 5 with fail
  refine wp_region_list ?_
  refine wpList_build rfl 84 #[] rfl (by kernel_rfl) ?_
  simp only [Array.map_empty]
  rw [zW_built]
  refine Go.Great.wpList_boxTo rfl 84 (.tmp 13) rfl (some 14) rfl g hg.symm zW rfl ?_
  rw [← hW1]
  clear hW1 hg
  go_wp2_with fail
  refine (lay_any g (g + 1) p n cap f wm W1 Hwm.out.2.2 (by rw [HG.out]; omega) HM.out.2.2 hn HF.out HM.out.1 (by omega) HM.out.2.1).mono ?_
  rintro e w2 ⟨rfl, W2, O2⟩
  have s2 := HM.out.2.1
  have s3 := O2.size
  have hl := tbn_length' f n
  have HL := hide hl
  clear hl
  go_wp2_with fail
  refine (wdone_packed g 0 (g + 1) w2 _ W2 (by omega) (by have := HL.out; omega) _ rfl).mono ?_
  rintro e w3 ⟨rfl, G3, B3⟩
  go_wp2_with fail
  go_ret2
  have e1 := Hwm.out.1
  have e2 := Hwm.out.2.1
  have e3 := HM.out.2.2
  have e4 := HG.out
  refine ⟨w2.heap.size, ((tbn f n).length + 7) / 8, (packed_length _).symm, by omega, rfl, G3, ?_⟩
  rw [e2] at e3
  exact ((e1.trans e3).trans (O2.below (by omega) (by omega))).trans (B3.mono (by omega))

set_option maxHeartbeats 1000000 in
theorem pack_bad (p : Option Addr) (n cap : Nat) (f : Nat → Int) (w : World) (h : TRow w p n f) (hn : n ≤ 4096) (hr : ¬ Rises f n) :
    Calls Tryz.prog 14 #[.slice p n cap] w fun e w' => e = .returned (.tuple #[.slice none 0 0, .int .i64 61]) ∧ ∃ m, w' = w.drewN m := by
  have H := hide h
  have HR := hide hr
  clear h hr
  go_enter Tryz.func14, Tryz.ntmps14
  go_wp2_with fail
  refine (rise_any p n cap f w H.out (by omega)).mono ?_
  rintro e w1 ⟨v, rfl, hv, m, rfl⟩
  obtain rfl : v = false := by cases v with
    | false => rfl
    | true => exact absurd (hv.1 rfl) HR.out
  go_wp2_with fail
  go_ret2
  exact ⟨rfl, m, rfl⟩

theorem pack_many (p : Option Addr) (n cap : Nat) (w : World) (hn : 4096 < n) :
    Calls Tryz.prog 14 #[.slice p n cap] w fun e w' => e = .returned (.tuple #[.slice none 0 0, .int .i64 60]) ∧ w' = w := by
  go_enter Tryz.func14, Tryz.ntmps14
  go_wp2_with fail
  go_ret2
  exact ⟨rfl, rfl⟩

end Go.Proofs.YtangjkhflgkkdaaGreat

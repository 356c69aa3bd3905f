/- slices.Reverse, Text. -/
import Derived.Test.YtfbkdjghbgdgpaaN
import Derived.RegionTactic
import Derived.BigRegion
import Derived.ShutString
namespace Go.Proofs.Ytfbkdjghbgdgpaa
open Go.RowKit
open M
set_option linter.unusedVariables false
set_option linter.unusedSimpArgs false

/-- While bytes are turned: i from either end are done. -/
def RevSt (w0 : World) (g n : Nat) (f : Nat → Nat) (i : Nat) (w : World) : Prop :=
  Only g 0 n w0 w ∧ ∀ p, p < n → w.cell? ⟨g, p, none⟩ = some (.int .u8 (if p < i ∨ n - i ≤ p then f (n - 1 - p) else f p : Nat)) ∧ w.frozen? ⟨g, p, none⟩ = false

theorem RevSt.swap {w0 w : World} {g n : Nat} {f : Nat → Nat} {i j : Nat} (h : RevSt w0 g n f i w) (hj : i + j + 1 = n) (hij : i < j) :
    RevSt w0 g n f (i + 1) ((w.setCell ⟨g, i, none⟩ (.int .u8 (f j : Nat))).setCell ⟨g, j, none⟩ (.int .u8 (f i : Nat))) := by
  refine ⟨(h.1.setCell i (by omega) (by omega) _).setCell j (by omega) (by omega) _, fun p hp => ⟨?_, by rw [frozen_setCell, frozen_setCell]; exact (h.2 p hp).2⟩⟩
  by_cases e1 : p = j
  · subst e1
    rw [cell_setCell_eq _ _ _ _ _ (by rw [cell_setCell_ne _ _ _ _ _ (by omega)]; exact (h.2 p hp).1), if_pos (by omega)]
    rw [show n - 1 - p = i from by omega]
  · rw [cell_setCell_ne _ _ _ _ _ e1]
    by_cases e2 : p = i
    · subst e2
      rw [cell_setCell_eq _ _ _ _ _ (h.2 p hp).1, if_pos (by omega)]
      rw [show n - 1 - p = j from by omega]
    · rw [cell_setCell_ne _ _ _ _ _ e2, (h.2 p hp).1]
      by_cases e3 : p < i ∨ n - i ≤ p
      · rw [if_pos e3, if_pos (by omega)]
      · rw [if_neg e3, if_neg (by omega)]

theorem RevSt.drew {w0 w : World} {g n : Nat} {f : Nat → Nat} {i : Nat} (h : RevSt w0 g n f i w) : RevSt w0 g n f i w.drew := ⟨h.1.drew, h.2⟩

set_option maxRecDepth 100000 in
set_option maxHeartbeats 2000000 in
theorem reverse_any (g n cap : Nat) (f : Nat → Nat) (w : World) (hn0 : 0 < n) (hnb : n ≤ 70368744177664) (hc : ∀ p, p < n → w.cell? ⟨g, p, none⟩ = some (.int .u8 (f p : Nat)) ∧ w.frozen? ⟨g, p, none⟩ = false) :
    Calls Try.prog 51 #[.slice (some ⟨g, 0, none⟩) n cap] w fun e w' => e = .returned (.tuple #[]) ∧ Only g 0 n w w' ∧ ∀ p, p < n → w'.cell? ⟨g, p, none⟩ = some (.int .u8 (f (n - 1 - p) : Nat)) := by
  have HS : Hid (RevSt w g n f 0 w) := ⟨Only.refl _ _ _ _, fun p hp => ⟨by rw [if_neg (by omega)]; exact (hc p hp).1, (hc p hp).2⟩⟩
  clear hc
  go_enter Try.func51, Try.ntmps51
  go_wp2_with fail
  go_loopw [2, 3] (fun t2 t3 wr => ∃ i j : Nat, i + j + 1 = n ∧ t2 = .int .i64 i ∧ t3 = .int .i64 j ∧ i ≤ j + 1 ∧ Hid (RevSt w g n f i wr)) (fun t2 _ _ => n - (intOf t2).toNat)
  case atStart => exact ⟨0, n - 1, by omega, rfl, by simp; omega, by omega, HS⟩
  case round =>
    obtain ⟨i, j, hij, rfl, rfl, hle, HI⟩ := hrel
    by_cases hlt : i < j
    · have hlt' : (i : Int) < (j : Int) := by omega
      have hi := HI.out.2 i (by omega)
      have hj := HI.out.2 j (by omega)
      rw [if_neg (by omega)] at hi hj
      have hci := hi.1
      have hfi := hi.2
      have hcj := hj.1
      have hfj := hj.2
      have HN : Hid (RevSt w g n f (i + 1) ((wr.setCell ⟨g, i, none⟩ (.int .u8 (f j : Nat))).setCell ⟨g, j, none⟩ (.int .u8 (f i : Nat))).drew) := (HI.out.swap hij hlt).drew
      have hin : (i : Int) < (n : Int) := by omega
      have hjn : (j : Int) < (n : Int) := by omega
      have hne : ¬ i = j := by omega
      have hne' : ¬ j = i := by omega
      generalize f i = x at *
      generalize f j = y at *
      clear hi hj HI
      go_wp2_with fail
      go_region
      obtain ⟨j1, rfl⟩ : ∃ j1, j = j1 + 1 := ⟨j - 1, by omega⟩
      go_wp2_with fail
      go_roundw
      case rel => exact ⟨i + 1, j1, by omega, by go_num, by go_num, by omega, HN⟩
      case measure => simp [intOf]; omega
    · have hge : ¬ (i : Int) < (j : Int) := by omega
      have HF : Hid (Only g 0 n w wr ∧ ∀ p, p < n → wr.cell? ⟨g, p, none⟩ = some (.int .u8 (f (n - 1 - p) : Nat))) := by
        refine ⟨HI.out.1, fun p hp => ?_⟩
        rw [(HI.out.2 p hp).1]
        by_cases e : p < i ∨ n - i ≤ p
        · rw [if_pos e]
        · rw [if_neg e, show n - 1 - p = p from by omega]
      clear HI
      go_wp2_with fail
      go_end0
      exact ⟨rfl, HF.out⟩

end Go.Proofs.Ytfbkdjghbgdgpaa

/- TimesMoved: plain. -/
import Derived.Test.YthdolmhbmbgdpaaT1V
namespace Go.Proofs.Ythdolmhbmbgdpaa
open Go.RowKit
open M
set_option linter.unusedVariables false

theorem packed_drop (a r : List Bool) (ha : a.length = 64) : (packed (a ++ r)).drop 8 = packed r := by
  apply List.ext_getElem?
  intro i
  rw [List.getElem?_drop]
  simp only [packed, List.getElem?_map, List.length_append, ha]
  by_cases hi : i < (r.length + 7) / 8
  · rw [List.getElem?_range (by omega), List.getElem?_range hi, Option.map_some, Option.map_some]
    congr 1
    unfold byteAt
    rw [show 8 * (8 + i) = 64 + 8 * i from by omega, ← List.drop_drop, List.drop_left' ha]
  · rw [List.getElem?_eq_none (by simp; omega), List.getElem?_eq_none (by simp; omega)]; rfl

theorem zg_moved (f g : Nat → Int) (i : Nat) (b : Int) (h : ∀ j, j ≤ i + 1 → g j = f j + b) : zg g i = zg f i := by
  have e : ∀ j, j ≤ i → dif (g (j + 1)) (g j) = dif (f (j + 1)) (f j) := fun j hj => by
    rw [h (j + 1) (by omega), h j (by omega)]; unfold dif; congr 2; omega
  unfold zg
  rw [e i (Nat.le_refl _)]
  cases i with
  | zero => rfl
  | succ i => simp only [ahd]; rw [e i (by omega)]

theorem tbn_moved (f g : Nat → Int) (b : Int) : ∀ n, (∀ j, j ≤ n → g j = f j + b) → ∃ r, tbn f (n + 1) = bitsOf (u64 (f 0)) 64 ++ r ∧ tbn g (n + 1) = bitsOf (u64 (g 0)) 64 ++ r
  | 0, h => ⟨[], by rw [tbn_one, List.append_nil], by rw [tbn_one, List.append_nil]⟩
  | n + 1, h => by
    obtain ⟨r, h1, h2⟩ := tbn_moved f g b n (fun j hj => h j (by omega))
    refine ⟨r ++ zb (zg f n), ?_, ?_⟩
    · rw [tbn_step, h1, List.append_assoc]
    · rw [tbn_step, h2, List.append_assoc, zg_moved f g n b (fun j hj => h j (by omega))]

/-- As many bytes, at least eight, and the same ones behind these. -/
theorem moved_same (f g : Nat → Int) (b : Int) (n : Nat) (h : ∀ j, j < n + 1 → g j = f j + b) :
    (packed (tbn g (n + 1))).length = (packed (tbn f (n + 1))).length ∧ 8 ≤ (packed (tbn f (n + 1))).length ∧ (packed (tbn g (n + 1))).drop 8 = (packed (tbn f (n + 1))).drop 8 := by
  obtain ⟨r, h1, h2⟩ := tbn_moved f g b n (fun j hj => h j (by omega))
  refine ⟨?_, ?_, ?_⟩
  · rw [packed_length, packed_length, h1, h2]; simp
  · rw [packed_length, h1]; simp; omega
  · rw [h1, h2, packed_drop _ _ (by simp), packed_drop _ _ (by simp)]

theorem rises_ends {f : Nat → Int} : ∀ (n : Nat), Rises f (n + 1) → ∀ i, i ≤ n → f 0 ≤ f i ∧ f i ≤ f n := by
  intro n
  induction n with
  | zero => intro _ i hi; obtain rfl : i = 0 := by omega
            exact ⟨Int.le_refl _, Int.le_refl _⟩
  | succ n ih =>
    intro h i hi
    have h1 := h n (by omega)
    have h2 := ih (fun j hj => h j (by omega)) n (Nat.le_refl _)
    by_cases e : i = n + 1
    · subst e; omega
    · have := ih (fun j hj => h j (by omega)) i (by omega); omega

theorem Rises.moved {f : Nat → Int} {n : Nat} (h : Rises f n) (b : Int) : Rises (fun i => f i + b) n := fun i hi => by have := h i hi; show f i + b < f (i + 1) + b; omega

/-- All of them stay times. -/
theorem moved_range {f : Nat → Int} {n : Nat} (h : Rises f (n + 1)) (b : Int) (h0 : -9223372036854775808 ≤ f 0 + b) (hn : f n + b ≤ 9223372036854775807) : ∀ i, i < n + 1 → I64 (f i + b) := fun i hi => by
  have := rises_ends n h i (by omega)
  exact ⟨by omega, by omega⟩

theorem isBytes_drop {w : World} {g : Nat} {bs : List Nat} (hk : 8 < bs.length) (cap : Nat) (h : w.heap[g]? = some (.cells (bytesV bs).toArray 5 (0, 0))) : IsBytes w (.slice (some ⟨g, 8, none⟩) (bs.length - 8) cap) (bs.drop 8) := by
  have hl : (bs.drop 8).length = bs.length - 8 := by simp
  refine .inr ⟨g, 8, cap, by rw [hl], fun i hi => ?_⟩
  rw [hl] at hi
  rw [cell_of_row _ _ _ _ _ _ h]
  have : 8 + i < bs.length := by omega
  simp [bytesV, List.getD, this]

/-- A Bool that, where it is false, says P. -/
def SaysNot (t : Value) (P : Prop) : Prop := ∃ bad : Bool, t = .bool bad ∧ (bad = false → P)

theorem SaysNot.yes {P : Prop} : SaysNot (.bool true) P := ⟨true, rfl, fun h => by cases h⟩
theorem SaysNot.no {P : Prop} (h : P) : SaysNot (.bool false) P := ⟨false, rfl, fun _ => h⟩

end Go.Proofs.Ythdolmhbmbgdpaa

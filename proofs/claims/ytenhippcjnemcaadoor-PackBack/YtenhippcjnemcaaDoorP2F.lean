/- Columns of which every value is changed by the same bits; bytes behind the first value's; plain. -/
import Derived.Test.YtenhippcjnemcaaDoorP1A
namespace Go.Proofs.YtenhippcjnemcaaDoor.M
set_option linter.unusedVariables false

theorem xor_turn (a b c : Nat) : (a ^^^ c) ^^^ (b ^^^ c) = a ^^^ b := by
  rw [Nat.xor_assoc, ← Nat.xor_assoc c b c, Nat.xor_comm c b, Nat.xor_assoc b c c, Nat.xor_self, Nat.xor_zero]

/-- The bits behind the first value's. -/
def rst (W K : Nat) (f : Nat → Nat) : Nat → List Bool
  | 0 => []
  | n + 1 => rst W K f n ++ xbf W K f n

theorem cbn_rst (W K : Nat) (f : Nat → Nat) : ∀ n, cbn W K f (n + 1) = bitsOf (f 0) W ++ rst W K f n
  | 0 => by rw [cbn_one]; simp [rst]
  | n + 1 => by rw [cbn_step, cbn_rst W K f n, List.append_assoc]; rfl

theorem win_turn (W K c : Nat) (f g : Nat → Nat) : ∀ n, (∀ i, i ≤ n → g i = f i ^^^ c) → win W K g n = win W K f n
  | 0, _ => rfl
  | n + 1, h => by simp only [win]; rw [win_turn W K c f g n (fun i hi => h i (by omega)), h (n + 1) (by omega), h n (by omega), xor_turn]

theorem rst_turn (W K c : Nat) (f g : Nat → Nat) : ∀ n, (∀ i, i ≤ n → g i = f i ^^^ c) → rst W K g n = rst W K f n
  | 0, _ => rfl
  | n + 1, h => by
    simp only [rst]
    rw [rst_turn W K c f g n (fun i hi => h i (by omega))]
    unfold xbf
    rw [win_turn W K c f g n (fun i hi => h i (by omega)), h (n + 1) (by omega), h n (by omega), xor_turn]

theorem byteAt_drop (l r : List Bool) (k i : Nat) (h : l.length = 8 * k) : byteAt (l ++ r) (k + i) = byteAt r i := by
  unfold byteAt
  have e : (l ++ r).drop (8 * (k + i)) = r.drop (8 * i) := by
    rw [show 8 * (k + i) = l.length + 8 * i by omega, List.drop_append]
    simp
  rw [e]

theorem packed_drop (l r : List Bool) (k : Nat) (h : l.length = 8 * k) : (packed (l ++ r)).drop k = packed r := by
  apply List.ext_getElem
  · simp; omega
  · intro i h1 h2
    simp [packed, byteAt_drop l r k i h]

/-- Lengths and bytes behind the first value's are the same. -/
theorem turn_bytes (W K c k : Nat) (f g : Nat → Nat) (n : Nat) (hW : W = 8 * k) (h : ∀ i, i < n + 1 → g i = f i ^^^ c) :
    (packed (cbn W K g (n + 1))).length = (packed (cbn W K f (n + 1))).length ∧ (packed (cbn W K g (n + 1))).drop k = (packed (cbn W K f (n + 1))).drop k ∧ k ≤ (packed (cbn W K f (n + 1))).length := by
  have e := rst_turn W K c f g n (fun i hi => h i (by omega))
  rw [cbn_rst, cbn_rst, e]
  refine ⟨by simp, ?_, by simp; omega⟩
  rw [packed_drop _ _ k (by simp [hW]), packed_drop _ _ k (by simp [hW])]

end Go.Proofs.YtenhippcjnemcaaDoor.M

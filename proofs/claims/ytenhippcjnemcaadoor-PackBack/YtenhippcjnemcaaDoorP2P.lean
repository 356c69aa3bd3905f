/- PackBack: what follows of columns and bytes; plain. -/
import Derived.Test.YtenhippcjnemcaaDoorP2F
namespace Go.Proofs.YtenhippcjnemcaaDoor.M
set_option linter.unusedVariables false

/-- A column with its last value eight times more. -/
def more8 (f : Nat → Nat) (n : Nat) (i : Nat) : Nat := if i < n then f i else f (n - 1)

theorem more8_le {W K : Nat} (f : Nat → Nat) (n k : Nat) : ∀ j, cbn W K (more8 f (k + 1)) (k + 1 + j) = cbn W K f (k + 1) ++ List.replicate j false
  | 0 => by
    simp only [List.replicate_zero, List.append_nil, Nat.add_zero]
    exact cbn_congr _ _ _ _ _ fun i hi => by unfold more8; rw [if_pos hi]
  | j + 1 => by
    have e : k + 1 + (j + 1) = (k + j) + 2 := by omega
    have e2 : k + j + 1 = k + 1 + j := by omega
    have h1 : more8 f (k + 1) (k + j + 1) = f k := by unfold more8; rw [if_neg (by omega)]; rfl
    have h2 : more8 f (k + 1) (k + j) = f k := by
      unfold more8
      by_cases h : k + j < k + 1
      · rw [if_pos h, show k + j = k from by omega]
      · rw [if_neg h]; rfl
    rw [e, cbn_step, e2, more8_le f n k j]
    unfold xbf
    rw [h1, h2, Nat.xor_self, xb_0, List.replicate_succ', List.append_assoc]

theorem more8_len (W K : Nat) (f : Nat → Nat) (k : Nat) : (packed (cbn W K (more8 f (k + 1)) (k + 1 + 8))).length = (packed (cbn W K f (k + 1))).length + 1 := by
  rw [packed_length, packed_length, more8_le f 0 k 8]
  simp; omega

/-- The bytes of a beginning, but for the last. -/
theorem begin_bytes (W K : Nat) (f : Nat → Nat) (k : Nat) : (packed (cbn W K f k)).length ≤ (packed (cbn W K f (k + 1))).length ∧
    (packed (cbn W K f (k + 1))).take ((packed (cbn W K f k)).length - 1) = (packed (cbn W K f k)).take ((packed (cbn W K f k)).length - 1) := by
  obtain ⟨r, hr⟩ := cbn_pre W K f k
  rw [hr]
  have h1 : (packed (cbn W K f k)).length ≤ (packed (cbn W K f k ++ r)).length := by simp; omega
  refine ⟨h1, ?_⟩
  apply List.ext_getElem
  · simp; omega
  · intro i h2 h3
    simp only [List.length_take, packed_length] at h3
    simp only [List.getElem_take, packed, List.getElem_map, List.getElem_range]
    exact byteAt_full _ _ _ (by omega)

end Go.Proofs.YtenhippcjnemcaaDoor.M

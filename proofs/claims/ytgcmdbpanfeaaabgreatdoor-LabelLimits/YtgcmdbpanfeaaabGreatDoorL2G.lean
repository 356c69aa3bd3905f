/- The order of texts and of labels, plain. -/
import Derived.Test.YtgcmdbpanfeaaabGreatDoorL2A
import Derived.Shelf.SlSortCmp.Insertion
namespace Go.Proofs.YtgcmdbpanfeaaabGreatDoor
open Go.RowKit Go.Sort
set_option linter.unusedVariables false
set_option linter.unusedSimpArgs false

theorem cb_self : ∀ a : List UInt8, Lib.compareBytes a a = 0
  | [] => rfl
  | x :: r => by
    have h : ¬ x < x := UInt8.lt_irrefl x
    rw [Lib.compareBytes, if_neg h, if_neg h]; exact cb_self r

theorem cb_anti : ∀ a b : List UInt8, Lib.compareBytes b a = -Lib.compareBytes a b
  | [], [] => rfl
  | [], _ :: _ => rfl
  | _ :: _, [] => rfl
  | x :: r, y :: s => by
    rw [Lib.compareBytes, Lib.compareBytes]
    by_cases h1 : x < y
    · have h2 : ¬ y < x := UInt8.lt_asymm h1
      rw [if_neg h2, if_pos h1, if_pos h1]; rfl
    · by_cases h2 : y < x
      · simp [h1, h2]
      · simp only [h1, h2, if_false]; exact cb_anti r s

theorem cb_zero : ∀ a b : List UInt8, Lib.compareBytes a b = 0 → a = b
  | [], [], _ => rfl
  | [], _ :: _, h => by simp [Lib.compareBytes] at h
  | _ :: _, [], h => by simp [Lib.compareBytes] at h
  | x :: r, y :: s, h => by
    rw [Lib.compareBytes] at h
    by_cases h1 : x < y
    · rw [if_pos h1] at h; simp at h
    · rw [if_neg h1] at h
      by_cases h2 : y < x
      · rw [if_pos h2] at h; simp at h
      · rw [if_neg h2] at h
        have e : x = y := UInt8.le_antisymm (UInt8.not_lt.1 h2) (UInt8.not_lt.1 h1)
        rw [e, cb_zero r s h]

theorem cb_trans : ∀ a b c : List UInt8, Lib.compareBytes a b < 0 → Lib.compareBytes b c < 0 → Lib.compareBytes a c < 0
  | a, [], c, h, _ => by cases a <;> simp [Lib.compareBytes] at h
  | a, _ :: _, [], _, h => by simp [Lib.compareBytes] at h
  | [], _ :: _, _ :: _, _, _ => by simp [Lib.compareBytes]
  | x :: r, y :: s, z :: t, h1, h2 => by
    rw [Lib.compareBytes] at h1 h2 ⊢
    by_cases a1 : x < y
    · by_cases a2 : y < z
      · rw [if_pos (UInt8.lt_trans a1 a2)]; decide
      · rw [if_neg a2] at h2
        by_cases a3 : z < y
        · rw [if_pos a3] at h2; simp at h2
        · have e : y = z := UInt8.le_antisymm (UInt8.not_lt.1 a3) (UInt8.not_lt.1 a2)
          rw [← e, if_pos a1]; decide
    · rw [if_neg a1] at h1
      by_cases a0 : y < x
      · rw [if_pos a0] at h1; simp at h1
      · rw [if_neg a0] at h1
        have e : x = y := UInt8.le_antisymm (UInt8.not_lt.1 a0) (UInt8.not_lt.1 a1)
        rw [e]
        by_cases a2 : y < z
        · rw [if_pos a2]; decide
        · rw [if_neg a2] at h2 ⊢
          by_cases a3 : z < y
          · rw [if_pos a3] at h2; simp at h2
          · rw [if_neg a3] at h2 ⊢
            exact cb_trans r s t h1 h2

theorem cmpS_eq {a b : ByteArray} : cmpS a b = 0 ↔ a = b := by
  constructor
  · intro h
    exact ByteArray.ext (Array.toList_inj.1 (cb_zero _ _ h))
  · rintro rfl; exact cb_self _

theorem cmpL_anti (x y : Lab) : cmpL y x = -cmpL x y := by
  unfold cmpL
  have h1 : cmpS y.1 x.1 = -cmpS x.1 y.1 := cb_anti _ _
  have h2 : cmpS y.2 x.2 = -cmpS x.2 y.2 := cb_anti _ _
  rw [h1, h2]
  by_cases h : cmpS x.1 y.1 = 0
  · rw [if_neg (by simp [h]), if_neg (by simp [h])]
  · rw [if_pos (by omega), if_pos h]

theorem cmpL_zero (x y : Lab) : cmpL x y = 0 ↔ x = y := by
  unfold cmpL
  by_cases h : cmpS x.1 y.1 = 0
  · rw [if_neg (by simp [h]), cmpS_eq, Prod.ext_iff]
    have := cmpS_eq.1 h
    simp [this]
  · rw [if_pos h]
    constructor
    · intro e; exact absurd e h
    · rintro rfl; exact absurd (cmpS_eq.2 rfl) h

theorem cmpL_trans (x y z : Lab) (h1 : cmpL x y < 0) (h2 : cmpL y z < 0) : cmpL x z < 0 := by
  unfold cmpL at *
  by_cases a : cmpS x.1 y.1 = 0
  · have ea := cmpS_eq.1 a
    rw [if_neg (by simp [a])] at h1
    rw [ea]
    by_cases b : cmpS y.1 z.1 = 0
    · rw [if_neg (by simp [b])] at h2 ⊢
      exact cb_trans _ _ _ h1 h2
    · rw [if_pos b] at h2 ⊢; exact h2
  · rw [if_pos a] at h1
    by_cases b : cmpS y.1 z.1 = 0
    · have eb := cmpS_eq.1 b
      rw [← eb, if_pos a]; exact h1
    · rw [if_pos b] at h2
      have := cb_trans _ _ _ h1 h2
      have e : cmpS x.1 z.1 < 0 := this
      rw [if_pos (by omega)]; exact e

theorem swoL : SWO (ltOf cmpL) where
  irrefl x := by
    have : cmpL x x = 0 := (cmpL_zero x x).2 rfl
    simp [ltOf, this]
  trans x y z h1 h2 := by
    simp only [ltOf, decide_eq_true_eq] at *
    exact cmpL_trans x y z h1 h2
  ntrans x y z h1 h2 := by
    simp only [ltOf, decide_eq_false_iff_not] at *
    intro h
    have a1 := cmpL_anti x y
    have a2 := cmpL_anti y z
    rcases Int.lt_trichotomy (cmpL x y) 0 with c | c | c
    · exact h1 c
    · rw [(cmpL_zero x y).1 c] at h; exact h2 h
    · have h3 : cmpL y x < 0 := by omega
      exact h2 (cmpL_trans y x z h3 h)

theorem totL (x y : Lab) (h1 : ltOf cmpL x y = false) (h2 : ltOf cmpL y x = false) : x = y := by
  simp only [ltOf, decide_eq_false_iff_not] at *
  have := cmpL_anti x y
  exact (cmpL_zero x y).1 (by omega)

end Go.Proofs.YtgcmdbpanfeaaabGreatDoor

/- The document's Pack and Done. -/
import Derived.Test.YtpiiagjfimdflaaWc
import Derived.Test.YtpiiagjfimdflaaRg
import Derived.Test.YtpiiagjfimdflaaRh
namespace Go.Proofs.Ytpiiagjfimdflaa
open Go.RowKit
open M
set_option linter.unusedVariables false

theorem ownsRow_set {w : World} {base : Nat} {t : TypeId} {v : Value} {n : Nat} {xs : List Value} {g cap : Nat} (h : w.ownsRow base t 1 (.slice (some ⟨g, 0, none⟩) n cap) n xs) (q : Nat) (x : Value) (hq : q < n) :
    (w.setCell ⟨g, q, none⟩ x).ownsRow base t 1 (.slice (some ⟨g, 0, none⟩) n cap) n (xs.set q x) := by
  obtain ⟨h1, h2⟩ := h
  refine ⟨by simpa using h1, ?_⟩
  rcases h2 with ⟨h2, _⟩ | ⟨g', cap', cur, h0, h4, h5, h6, h6b, h7, h8⟩
  · simp at h2
  · simp only [Value.slice.injEq, Option.some.injEq, Addr.mk.injEq] at h0
    obtain ⟨⟨rfl, _⟩, _, rfl⟩ := h0
    refine .inr ⟨g, cap, cur.setIfInBounds q x, rfl, h4, ?_, h6, h6b, by simpa using h7, ?_⟩
    · simp only [World.setCell, Array.getElem?_modify, h5]
      simp
    · rw [← h8]
      simp [List.take_set]

/-- The bytes of i bits, with room for the next one. -/
def packRoom (l : List Bool) (i : Nat) : List Nat := (List.range (i / 8 + 1)).map (byteAt (l.take i))

theorem packRoom_new (l : List Bool) (i : Nat) (hi : i < l.length) (h8 : i % 8 = 0) : packRoom l i = packed (l.take i) ++ [0] := by
  have hl : (l.take i).length = i := by simp; omega
  unfold packRoom packed
  rw [hl, List.range_succ, List.map_append, show (i + 7) / 8 = i / 8 from by omega]
  congr 1
  simp only [List.map_cons, List.map_nil]
  rw [byteAt_beyond _ _ (by rw [hl]; omega)]

theorem packRoom_same (l : List Bool) (i : Nat) (hi : i < l.length) (h8 : i % 8 ≠ 0) : packRoom l i = packed (l.take i) := by
  have hl : (l.take i).length = i := by simp; omega
  unfold packRoom packed
  rw [hl, show (i + 7) / 8 = i / 8 + 1 from by omega]

theorem pack_step (l : List Bool) (i : Nat) (hi : i < l.length) : packed (l.take (i + 1)) = (packRoom l i).set (i / 8) (byteAt (l.take i) (i / 8) + bn l i * 2 ^ (7 - i % 8)) := by
  have hl : (l.take i).length = i := by simp; omega
  have hl1 : (l.take (i + 1)).length = i + 1 := by simp; omega
  have hbit : bn l i = num [l[i]] := by simp [bn, hi]; cases l[i] <;> rfl
  unfold packed packRoom
  rw [hl1, show (i + 1 + 7) / 8 = i / 8 + 1 from by omega]
  apply List.ext_getElem?
  intro j
  rw [List.getElem?_set]
  simp only [List.getElem?_map, List.length_map, List.length_range]
  by_cases hj : j < i / 8 + 1
  · rw [List.getElem?_range hj]
    simp only [Option.map_some]
    rw [take_next l i hi]
    by_cases hji : i / 8 = j
    · rw [if_pos hji, if_pos (by omega)]
      subst hji
      rw [byteAt_here (l.take i) [l[i]] (i / 8) (i % 8) (by rw [hl]; omega) (by simp; omega) (by omega), hbit]
      simp only [List.length_cons, List.length_nil, Nat.zero_add]
      rw [show 8 - i % 8 - 1 = 7 - i % 8 from by omega]
    · rw [if_neg hji, byteAt_full (l.take i) [l[i]] j (by rw [hl]; omega)]
  · rw [List.getElem?_eq_none (by simp; omega)]
    simp
    omega

end Go.Proofs.Ytpiiagjfimdflaa

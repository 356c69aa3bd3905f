/- Labels of one's own, sorted. -/
import Derived.Test.YtgcmdbpanfeaaabGreatDoorL2F
import Derived.Test.YtgcmdbpanfeaaabGreatDoorL2G
namespace Go.Proofs.YtgcmdbpanfeaaabGreatDoor
open Go.RowKit Go.Sort
set_option linter.unusedVariables false
set_option linter.unusedSimpArgs false

instance : Inhabited Lab := ⟨lab0⟩

theorem flat_lab (L : List Lab) : (flatK encL 2 L.toArray).toList = labV L := by
  apply List.ext_getElem?
  intro t
  by_cases h : t < L.length * 2
  · have h2 : t / 2 < L.length := by omega
    have hg := labV_get L (t / 2) h2
    have e : (flatK encL 2 L.toArray).toList[t]? = some ((flatK encL 2 L.toArray)[t]!) := by
      rw [Array.getElem?_toList, Array.getElem?_eq_getElem (by simp; omega), getElem!_pos _ t (by simp; omega)]
    have e2 : (L.toArray)[t / 2]! = L.getD (t / 2) lab0 := by
      rw [getElem!_pos _ _ (by simpa using h2)]; simp [List.getD, h2]
    rw [e, get_flatK _ _ _ t (by simpa using h), e2]
    rcases Nat.mod_two_eq_zero_or_one t with m | m
    · have et : t = t / 2 * 2 := by omega
      rw [m, ← show (labV L)[t / 2 * 2]? = (labV L)[t]? by rw [← et], hg.1]; rfl
    · have et : t = t / 2 * 2 + 1 := by omega
      rw [m, ← show (labV L)[t / 2 * 2 + 1]? = (labV L)[t]? by rw [← et], hg.2]; rfl
  · rw [List.getElem?_eq_none (by simp; omega), List.getElem?_eq_none (by simp; omega)]

def sortL (L : List Lab) : List Lab := L.mergeSort fun x y => !(ltOf cmpL) y x

theorem sortL_length (L : List Lab) : (sortL L).length = L.length := List.length_mergeSort _

theorem OL.sorted {B g n cap : Nat} {w0 wr : World} {L M : List Lab} (h : OL B w0 L (.slice (some ⟨g, 0, none⟩) n cap) wr) (hn : n = L.length) (hM : M.length = L.length) (q : Nat) (os : Array Obj) :
    OL B w0 M (.slice (some ⟨g, 0, none⟩) n cap) (sortWorldK encL 2 wr g 0 q M.toArray os) := by
  obtain ⟨h0, h1⟩ := h.own
  rcases h1 with ⟨h1, _⟩ | ⟨g2, cap2, cur, h1, hb, hg, hc, hm, hs, ht⟩
  · simp at h1
  simp only [Value.slice.injEq, Option.some.injEq, Addr.mk.injEq] at h1
  obtain ⟨⟨rfl, _, _⟩, rfl, rfl⟩ := h1
  have hgl : g < wr.heap.size := size_lt_of_row hg
  have hfs : (flatK encL 2 M.toArray).size = L.length * 2 := by simp [hM]
  have hblk : (sortWorldK encL 2 wr g 0 q M.toArray os).heap[g]? = some (.cells (putCells id 0 (flatK encL 2 M.toArray) cur) 34 (0, 0)) := by
    show ((wr.heap.modify g (onCells (putCells id 0 (flatK encL 2 M.toArray)))) ++ os)[g]? = _
    rw [Array.getElem?_append_left (by simpa using hgl), Array.getElem?_modify, if_pos rfl, hg]; rfl
  refine ⟨⟨by simp, .inr ⟨g, cap, _, by rw [hM], hb, hblk, by rw [hM]; exact hc, hm, by simp [putCells]; exact hs, ?_⟩⟩, ?_, h.le⟩
  · rw [← flat_lab M]
    apply List.ext_getElem?
    intro k
    by_cases hk : k < M.length * 2
    · rw [List.getElem?_take, if_pos hk, Array.getElem?_toList, Array.getElem?_toList]
      have hkc : k < cur.size := by rw [hs]; omega
      have hkf : k < (flatK encL 2 M.toArray).size := by rw [hfs]; omega
      unfold putCells
      rw [Array.getElem?_mapIdx, Array.getElem?_eq_getElem hkc, Array.getElem?_eq_getElem hkf]
      simp only [Option.map_some, Nat.sub_zero, id_eq]
      rw [if_pos ⟨Nat.zero_le _, by omega⟩, getElem!_pos _ k hkf]
    · rw [List.getElem?_eq_none (by simp; omega), List.getElem?_eq_none (by simp; omega)]
  · refine h.bel.trans ⟨rfl, rfl, rfl, ?_, fun k hk => ?_⟩
    · show wr.heap.size ≤ ((wr.heap.modify g (onCells (putCells id 0 (flatK encL 2 M.toArray)))) ++ os).size
      simp
    · have hk2 : k < wr.heap.size := by omega
      show ((wr.heap.modify g (onCells (putCells id 0 (flatK encL 2 M.toArray)))) ++ os)[k]? = _
      rw [Array.getElem?_append_left (by simpa using hk2), Array.getElem?_modify, if_neg (by omega)]

set_option maxRecDepth 100000 in
theorem sort_any {B : Nat} {w0 w : World} {L : List Lab} {v : Value} (h : OL B w0 L v w) (hl : L.length ≤ 1000000000) :
    Calls Tryz.prog 23 #[v, .func (.func 24) #[] #[]] w fun e w' => e = .returned (.tuple #[]) ∧ OL B w0 (sortL L) v w' := by
  rcases h.own.2 with ⟨h1, h2⟩ | ⟨g, cap, cur, h1, hb, hg, hc, hm, hs, ht⟩
  · have hL : L = [] := List.length_eq_zero_iff.1 h2
    subst hL
    subst h1
    refine (lay_slices_SortFunc_none (α := Lab) none 0 _ w).mono ?_
    rintro e w' ⟨rfl, rfl⟩
    have e : sortL [] = [] := List.length_eq_zero_iff.1 (by rw [sortL_length]; rfl)
    exact ⟨rfl, by rw [e]; exact h⟩
  · subst h1
    have hgl : g < w.heap.size := size_lt_of_row hg
    have hH : HoldsK encL 2 w g 0 L.toArray := by
      intro j hj
      have hj2 : j < L.length * 2 := by simpa using hj
      refine ⟨?_, by rw [frozen_of_row _ _ _ _ _ hg]⟩
      rw [Nat.zero_add, cell_of_row w g j cur _ (0, 0) hg]
      have e : (flatK encL 2 L.toArray).toList[j]? = some ((flatK encL 2 L.toArray)[j]!) := by
        rw [Array.getElem?_toList, Array.getElem?_eq_getElem hj, getElem!_pos _ j hj]
      rw [id_eq, ← e, flat_lab, ← ht, List.getElem?_take, if_pos hj2]
      simp
    have hcmp : CmpLays Tryz.prog 24 #[] encL 2 cmpL g 0 L.toArray.size w := by
      intro m os dk hdk x y
      refine (compare_any x y _).mono ?_
      rintro e w' ⟨rfl, rfl⟩
      refine ⟨rfl, 0, #[.cells #[.string x.1, .string x.2] 34, .cells #[.string y.1, .string y.2] 34], ?_⟩
      rw [alloc_eq_grow, alloc_eq_grow, grow_grow]
      rfl
    have hcall := lay_slices_SortFunc_total 2 Tryz.isAgg34 Tryz.sizeOf34 encL (fun x => rfl) (fun x u hu => by simp [encL] at hu; rcases hu with rfl | rfl <;> rfl) cmpL swoL 24 #[] g 0 cap L.toArray w (fun args w => rfl) hcmp hH hgl (by simp; omega) totL
    simp only [List.size_toArray] at hcall
    refine hcall.mono ?_
    rintro e w' ⟨rfl, n, os, rfl⟩
    exact ⟨rfl, h.sorted rfl (sortL_length L) n os⟩

end Go.Proofs.YtgcmdbpanfeaaabGreatDoor

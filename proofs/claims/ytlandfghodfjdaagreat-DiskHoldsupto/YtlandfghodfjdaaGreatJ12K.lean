/- All files of a disk, by their names. -/
import Derived.Test.YtlandfghodfjdaaGreatJ12J
namespace Go.Proofs.YtlandfghodfjdaaGreat
open Go.RowKit Go.Maps Go.Sort Go.Shelf
open Go.MuLone (lock_free unlock_deferred run_callFunc_enter)
set_option linter.unusedVariables false
set_option linter.unusedSimpArgs false

/-- Names in order. -/
def inOrder (ns : List ByteArray) : Prop := ns.Pairwise fun a b => a.data.toList ≤ b.data.toList

theorem merged (ss : List (List UInt8)) (L : List ByteArray) (hp : ss.Perm (L.map fun x => x.data.toList)) : ∃ ns : List ByteArray, (ss.mergeSort (fun x y => decide (x ≤ y))).map encStr = ns.map Value.string ∧ ns.Perm L ∧ inOrder ns ∧ ns.length = ss.length := by
  refine ⟨(ss.mergeSort (fun x y => decide (x ≤ y))).map fun l => ⟨l.toArray⟩, by rw [List.map_map]; rfl, ?_, ?_, by simp⟩
  · have h1 := ((List.mergeSort_perm ss (fun x y => decide (x ≤ y))).trans hp).map fun l : List UInt8 => (⟨l.toArray⟩ : ByteArray)
    rw [List.map_map] at h1
    refine h1.trans (List.Perm.of_eq ?_)
    conv => rhs; rw [← List.map_id L]
    apply List.map_congr_left
    intro x _
    simp
  · unfold inOrder
    rw [List.pairwise_map]
    have := List.pairwise_mergeSort (le := fun x y : List UInt8 => decide (x ≤ y)) (fun a b c h1 h2 => by simp at h1 h2 ⊢; exact List.le_trans h1 h2) (fun a b => by simpa using List.le_total a b) ss
    exact this.imp fun h => by simpa using h

theorem names2_any {B : Nat} {w : World} {lk : Int} {S : DS} (h : Dk B w lk S) (hN : ∀ x ∈ S.L, x.nm.size ≤ maxLen) :
    Calls Tryz.prog 30 #[.pointer (some ⟨S.d, 0, none⟩)] w fun e w' => ∃ (v : Value) (ns : List ByteArray), e = .returned v ∧ ns.Perm (S.L.map (·.nm)) ∧ inOrder ns ∧ w'.ownsRow w.heap.size 9 1 v ns.length (ns.map Value.string) ∧ Below w.heap.size w w' := by
  refine (names_any h hN).mono ?_
  rintro e w' ⟨v, ss, rfl, hp, hrow, hb⟩
  have hp' : ss.Perm ((S.L.map (·.nm)).map fun x => x.data.toList) := by rw [List.map_map]; exact hp
  obtain ⟨ns, e1, e2, e3, e4⟩ := merged ss _ hp'
  rw [e1, ← e4] at hrow
  exact ⟨v, ns, rfl, e2, e3, hrow, hb⟩

end Go.Proofs.YtlandfghodfjdaaGreat

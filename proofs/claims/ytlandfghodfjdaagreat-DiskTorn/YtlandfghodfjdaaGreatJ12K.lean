/- All files of a disk, by their names. -/
import Derived.Test.YtlandfghodfjdaaGreatJ12D
import Derived.Test.YtlandfghodfjdaaGreatJ12I
import Derived.StringKeys
/- The names of a disk's files, sorted. -/
namespace Go.Proofs.YtlandfghodfjdaaGreat
open Go.RowKit Go.Maps Go.Sort Go.Shelf Go.ChangeMaps Go.WideShapes
set_option linter.unusedVariables false
set_option linter.unusedSimpArgs false

/-- How a file's pointer is read: not at all. -/
def R0 : Value → Option (DataW Unit × List MemPlace) := fun _ => some (.nil, [])

section
variable {B : Nat} {w : World} {lk : Int} {S : DS}

theorem rg_ent (x : Fi) (hz : x.nm.size ≤ maxLen) : WideElems.rd Tryz.prog 9 R0 x.ent = some (.string x.nm.data.toList, .nil) := by
  unfold WideElems.rd
  rw [show keyOf Tryz.prog 9 x.ent.key = some (.string x.nm.data.toList) from Go.WideMaps.keyOf_string_mk Tryz.underlying9 hz]
  rfl

theorem Dk.owns (h : Dk B w lk S) (hN : ∀ x ∈ S.L, x.nm.size ≤ maxLen) : ∃ D0 : DataW Unit, w.ownsMap Tryz.prog 9 R0 S.m S.L.length D0 ∧ (strKeys D0).Perm (S.L.map fun x => x.nm.data.toList) ∧ Maps.size D0 = S.L.length := by
  have hp := sorted_perm ((S.L.map Fi.ent).toArray.toList.map (WideElems.rg Tryz.prog 9 R0))
  refine ⟨_, ⟨_, _, h.mp, ⟨?_, ⟨ent_born h, ent_nodup h, ?_⟩, ?_⟩, by simp, rfl⟩, ?_, ?_⟩
  · have := h.ct; unfold maxLen; simp; omega
  · have h1 := h.nd
    have e : (S.L.map Fi.ent).toArray.toList.map (·.key) = (S.L.map (·.nm)).map fun b => Value.string b := by simp [Function.comp_def, Fi.ent]
    rw [e]
    unfold List.Nodup
    rw [List.pairwise_map]
    exact h1.imp fun hab hc => hab (by simpa using hc)
  · intro e he
    obtain ⟨x, hx, rfl⟩ := List.mem_map.1 (by simpa using he)
    exact ⟨_, rg_ent x (hN x hx)⟩
  · unfold strKeys
    refine (hp.map _).trans (List.Perm.of_eq ?_)
    rw [List.toList_toArray, List.map_map, List.map_map]
    apply List.map_congr_left
    intro x hx
    dsimp only [Function.comp]
    unfold WideElems.rg
    rw [rg_ent x (hN x hx)]
    rfl
  · rw [Maps.size_eq, hp.length_eq]
    simp

set_option maxRecDepth 100000 in
set_option maxHeartbeats 1000000 in
theorem names_any (h : Dk B w lk S) (hN : ∀ x ∈ S.L, x.nm.size ≤ maxLen) :
    Calls Tryz.prog 30 #[.pointer (some ⟨S.d, 0, none⟩)] w fun e w' => ∃ (v : Value) (ss : List (List UInt8)), e = .returned v ∧ ss.Perm (S.L.map fun x => x.nm.data.toList) ∧ w'.ownsRow w.heap.size 9 1 v ss.length ((ss.mergeSort (fun x y => decide (x ≤ y))).map encStr) ∧ Below w.heap.size w w' := by
  obtain ⟨D0, hown, hp, hsz⟩ := h.owns hN
  have c3 := h.cell 3 (.map (some S.m)) rfl
  have hct := h.ct
  have HP := hide hp
  have HK := hide (laySortedKeys S.m S.L.length D0 R0 w hown (by rw [hsz]; unfold maxLen; omega) (by rw [hsz]; omega))
  clear h hown hp hsz hN
  refine (callsIn_wide (n := 6)).1 ?_
  have hfK : Fence.wide.fn 57 := trivial
  have hfS : Fence.wide.fn 56 := trivial
  refine callsIn_of_wp Tryz.func30 rfl trivial ?_ rfl
  simp only [Tryz.ntmps30, List.size_toArray, List.length_cons, List.length_nil, Nat.reduceAdd, Nat.reduceSub, Array.replicate_succ, Array.replicate_zero, List.push_toArray, List.append_toArray, List.nil_append, List.cons_append]
  gi_wp2_with (first
    | (gi_at_call 57; refine (layMapsKeys _ _).mono ?_; rintro e w' ⟨rfl, rfl⟩)
    | (gi_at_call 56; refine HK.out.mono ?_; rintro e w' ⟨v, ss, rfl, hS, hrow, hnil, hb⟩))
  go_ret
  exact ⟨v, ss, rfl, hS.trans HP.out, ownsRow_base_a hrow (by simp), ((Below.refl _ w).alloc (Nat.le_refl _) _).trans (hb.mono (by simp))⟩
end

end Go.Proofs.YtlandfghodfjdaaGreat

namespace Go.Proofs.YtlandfghodfjdaaGreat
open Go.RowKit Go.Maps Go.Sort Go.Shelf
open Go.MuLone (lock_free unlock_deferred run_callFunc_enter)
set_option linter.unusedVariables false
set_option linter.unusedSimpArgs false

/-- Names in order. -/
def inOrder (ns : List ByteArray) : Prop := ns.Pairwise fun a b => a.data.toList ≤ b.data.toList

theorem merged (ss : List (List UInt8)) (L : List ByteArray) (hp : ss.Perm (L.map fun x => x.data.toList)) : ∃ ns : List ByteArray, (ss.mergeSort (fun x y => decide (x ≤ y))).map encStr = ns.map Value.string ∧ ns.Perm L ∧ inOrder ns ∧ ns.length = ss.length := by
  refine ⟨(ss.mergeSort (fun x y => decide (x ≤ y))).map fun l => ⟨l.toArray⟩, by rw [List.map_map]; rfl, ?_, ?_, by simp⟩
  · have h1 := ((List.mergeSort_perm ss (fun x y => decide (x ≤ y))).trans hp).map fun l : List UInt8 => (⟨l.toArray⟩ : ByteArray)
    rw [List.map_map] at h1
    refine h1.trans (List.Perm.of_eq ?_)
    conv => rhs; rw [← List.map_id L]
    apply List.map_congr_left
    intro x _
    simp
  · unfold inOrder
    rw [List.pairwise_map]
    have := List.pairwise_mergeSort (le := fun x y : List UInt8 => decide (x ≤ y)) (fun a b c h1 h2 => by simp at h1 h2 ⊢; exact List.le_trans h1 h2) (fun a b => by simpa using List.le_total a b) ss
    exact this.imp fun h => by simpa using h

theorem names2_any {B : Nat} {w : World} {lk : Int} {S : DS} (h : Dk B w lk S) (hN : ∀ x ∈ S.L, x.nm.size ≤ maxLen) :
    Calls Tryz.prog 30 #[.pointer (some ⟨S.d, 0, none⟩)] w fun e w' => ∃ (v : Value) (ns : List ByteArray), e = .returned v ∧ ns.Perm (S.L.map (·.nm)) ∧ inOrder ns ∧ w'.ownsRow w.heap.size 9 1 v ns.length (ns.map Value.string) ∧ Below w.heap.size w w' := by
  refine (names_any h hN).mono ?_
  rintro e w' ⟨v, ss, rfl, hp, hrow, hb⟩
  have hp' : ss.Perm ((S.L.map (·.nm)).map fun x => x.data.toList) := by rw [List.map_map]; exact hp
  obtain ⟨ns, e1, e2, e3, e4⟩ := merged ss _ hp'
  rw [e1, ← e4] at hrow
  exact ⟨v, ns, rfl, e2, e3, hrow, hb⟩

end Go.Proofs.YtlandfghodfjdaaGreat

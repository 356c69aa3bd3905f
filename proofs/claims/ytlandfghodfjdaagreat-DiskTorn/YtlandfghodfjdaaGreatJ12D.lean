/- A file is taken out of a disk's map. -/
import Derived.Test.YtlandfghodfjdaaGreatJ12C
namespace Go.Proofs.YtlandfghodfjdaaGreat
open Go.RowKit
open Go.MuLone (lock_free unlock_deferred run_callFunc_enter)
set_option linter.unusedVariables false
set_option linter.unusedSimpArgs false

/-- Files without one name; as plain data. -/
def dropF (L : List Fi) (nm : ByteArray) : List Fi := L.filter fun y => decide (y.nm ≠ nm)
def Con.drop (c : Con) (nm : ByteArray) : Con := c.filter fun y => decide (y.1 ≠ nm)

theorem drop_con (L : List Fi) (nm : ByteArray) : (dropF L nm).map Fi.con = Con.drop (L.map Fi.con) nm := by
  unfold dropF Con.drop
  rw [List.filter_map]
  rfl

theorem erase_is {L : List Fi} (hn : (L.map (·.nm)).Nodup) {j : Nat} {x : Fi} (hj : L[j]? = some x) : L.eraseIdx j = dropF L x.nm := by
  induction L generalizing j with
  | nil => simp at hj
  | cons y l ih =>
    rw [List.map_cons, List.nodup_cons] at hn
    have hall : ∀ z ∈ l, z.nm ≠ y.nm := fun z hz e => hn.1 (List.mem_map.2 ⟨z, hz, e⟩)
    cases j with
    | zero =>
      simp at hj
      subst hj
      show l = dropF (y :: l) y.nm
      unfold dropF
      rw [List.filter_cons_of_neg (by simp)]
      exact (List.filter_eq_self.2 fun z hz => by simpa using hall z hz).symm
    | succ j =>
      simp at hj
      have hx : x ∈ l := List.mem_of_getElem? hj
      show y :: l.eraseIdx j = dropF (y :: l) x.nm
      rw [ih hn.2 hj]
      unfold dropF
      rw [List.filter_cons_of_pos (by simpa using (hall x hx).symm)]

theorem map_erase {α β : Type} (f : α → β) : ∀ (l : List α) (j : Nat), (l.map f).eraseIdx j = (l.eraseIdx j).map f
  | [], _ => rfl
  | _ :: _, 0 => rfl
  | x :: l, j + 1 => by simp [List.eraseIdx, map_erase f l j]

theorem mem_drop {L : List Fi} {nm : ByteArray} {y : Fi} : y ∈ dropF L nm ↔ y ∈ L ∧ y.nm ≠ nm := by unfold dropF; simp

theorem tot_drop (L : List Fi) (nm : ByteArray) : tot (dropF L nm) ≤ tot L := by
  induction L with
  | nil => exact Nat.le_refl _
  | cons y l ih =>
    unfold dropF
    by_cases h : y.nm ≠ nm
    · rw [List.filter_cons_of_pos (by simpa using h)]
      show y.bs.length + tot (dropF l nm) ≤ y.bs.length + tot l
      omega
    · rw [List.filter_cons_of_neg (by simpa using h)]
      show tot (dropF l nm) ≤ y.bs.length + tot l
      omega

/-- The map's block behind an entry that is taken out. -/
def dropM (w : World) (S : DS) (nm : ByteArray) : World := { w with heap := w.heap.setIfInBounds S.m (.map ((dropF S.L nm).map Fi.ent).toArray S.clock) }

section
variable {B : Nat} {w : World} {lk : Int} {S : DS}

theorem Dk.del (h : Dk B w lk S) {x : Fi} (hx : x ∈ S.L) (ty : TypeId) : (Builtin.delete_ #[57, 9] ty #[.map (some S.m), .string x.nm]).run Tryz.prog w = .ok (.tuple #[]) (dropM w S x.nm) := by
  rcases MapKept.findNow_spec (d := .string) (k := .string x.nm) (by simp [MapKept.IsKey]) (S.L.map Fi.ent) 0 (ent_keys S.L) with ⟨_, h2⟩ | ⟨j, e, h1, h2, h3⟩
  · exact absurd rfl (h2 x.ent (List.mem_map.2 ⟨x, hx, rfl⟩))
  · rw [List.getElem?_map] at h2
    obtain ⟨y, hy, rfl⟩ := Option.map_eq_some_iff.1 h2
    have e1 : y.nm = x.nm := by simpa [Fi.ent] using h3
    have e2 : y = x := ent_inj h.nd (List.mem_of_getElem? hy) hx e1
    subst e2
    have hjl : j < S.L.length := (List.getElem?_eq_some_iff.1 hy).1
    have hc : ∀ b, (Instr.checkKey b 10000 9 (.string y.nm)).run Tryz.prog w = .ok () w := fun b => MapKept.run_checkKey Tryz.underlying9 (by simp [MapKept.IsKey]) b 9999
    have hf : Instr.findNow .string (.string y.nm) (S.L.map Fi.ent) 0 = some (some (0 + j, y.ent.val)) := h1
    have he : (S.L.map Fi.ent).toArray.eraseIdxIfInBounds (0 + j) = ((dropF S.L y.nm).map Fi.ent).toArray := by
      rw [Nat.zero_add]
      unfold Array.eraseIdxIfInBounds
      rw [dif_pos (by simpa using hjl)]
      apply Array.toList_inj.1
      rw [Array.toList_eraseIdx]
      simp only [List.map_toArray]
      rw [← erase_is h.nd hy, map_erase]
    unfold dropM
    rw [← he]
    simp [Builtin.delete_, run_underlying Tryz.underlying57, MapKept.run_getObj_map h.mp, hc, MapKept.run_findKey Tryz.underlying9 hf, MapKept.run_setObj_map _ h.mp, Result.andThen]

theorem Dk.dropped (h : Dk B w lk S) (nm : ByteArray) : Dk B (dropM w S nm) lk { S with L := dropF S.L nm } ∧ Fr w (Fp S) (dropM w S nm) (Fp { S with L := dropF S.L nm }) := by
  have hlt := heap_lt h.mp
  have ho : ∀ k, k ≠ S.m → (dropM w S nm).heap[k]? = w.heap[k]? := fun k hk => Array.getElem?_setIfInBounds_ne (Ne.symm hk)
  have hd : S.d ≠ S.m := fun e => by have := h.mp; rw [← e, h.dk] at this; simp at this
  have hfm : ∀ x ∈ S.L, x.f ≠ S.m := fun x hx e => by have := h.fl x hx; rw [e, h.mp] at this; simp at this
  have hvm : ∀ x ∈ S.L, ∀ g, x.v.ownBlock = some g → g ≠ S.m := fun x hx g hg e => by
    rcases (h.ow x hx).2 with ⟨e1, _⟩ | ⟨g', cap, cur, e1, _, hh, _⟩
    · rw [e1] at hg; simp [Value.ownBlock] at hg
    · rw [e1] at hg; simp [Value.ownBlock] at hg; subst hg; rw [e, h.mp] at hh; simp at hh
  have hsub : List.Sublist (dropF S.L nm) S.L := List.filter_sublist
  have hm : ∀ {y : Fi}, y ∈ dropF S.L nm → y ∈ S.L := fun hy => hsub.subset hy
  refine ⟨⟨(ho _ hd).trans h.dk, by unfold dropM; simp [hlt], fun x hx => (ho _ (hfm x (hm hx))).trans (h.fl x (hm hx)), fun x hx => ownsRow_keep (h.ow x (hm hx)) fun g hg => ho g (hvm x (hm hx) g hg), (hsub.map _).nodup h.nd, (hsub.map _).nodup h.bn, (hsub.map _).nodup h.fn, fun x hx => h.bl x (hm hx), h.ap.sublist hsub, ⟨h.bd.1, h.bd.2.1, fun x hx => h.bd.2.2 x (hm hx)⟩, fun x hx => h.by_ x (hm hx), ⟨Nat.le_trans (tot_drop _ _) h.rm.1, h.rm.2⟩, fun x hx => h.su x (hm hx), Nat.le_trans hsub.length_le h.ct⟩, rfl, rfl, rfl, by unfold dropM; simp, fun k hk hn => ⟨?_, ho k fun e => hn (.inr (.inl e))⟩⟩
  rintro (e | e | ⟨y, hy, e⟩)
  · exact hn (.inl e)
  · exact hn (.inr (.inl e))
  · exact hn (.inr (.inr ⟨y, hm hy, e⟩))

theorem ps_drop (S : DS) (nm : ByteArray) : ({ S with L := dropF S.L nm } : DS).ps = { S.ps with con := Con.drop S.ps.con nm } := by
  unfold DS.ps; rw [drop_con]
end

def removeF (nm : ByteArray) : Int → Con → Con := fun _ c => Con.drop c nm

set_option maxRecDepth 100000 in
theorem removeG_any {B : Nat} {S : DS} {lk : Int} (w : World) (h : Dk B w lk S) (x : Fi) (hx : x ∈ S.L) (kp : Int) (g1 g2 : Nat) (n1 : ¬ Fp S g1) (n2 : ¬ Fp S g2) (c1 : w.cell? ⟨g1, 0, none⟩ = some (.pointer (some ⟨S.d, 0, none⟩))) (c2 : w.cell? ⟨g2, 0, none⟩ = some (.string x.nm)) :
    Calls Tryz.prog 62 #[.int .i64 kp, .pointer (some ⟨g1, 0, none⟩), .pointer (some ⟨g2, 0, none⟩)] w fun e w' => e = .returned (.tuple #[]) ∧ ∃ S' : DS, S'.d = S.d ∧ S'.ps = { S.ps with con := Con.drop S.ps.con x.nm } ∧ Dk B w' lk S' ∧ Fr w (Fp S) w' (Fp S') := by
  have d1 : w.drew.cell? ⟨g1, 0, none⟩ = some (.pointer (some ⟨S.d, 0, none⟩)) := c1
  have d2 : w.drew.cell? ⟨g2, 0, none⟩ = some (.string x.nm) := c2
  have d3 : w.drew.cell? ⟨S.d, 3, none⟩ = some (.map (some S.m)) := h.drew.cell 3 _ rfl
  have hdel := fun ty => h.drew.del hx ty
  have HD := hide (h.drew.dropped x.nm)
  have e1 : (dropM w.drew S x.nm).cell? ⟨g1, 0, none⟩ = some (.pointer (some ⟨S.d, 0, none⟩)) := HD.out.2.cell (a := ⟨g1, 0, none⟩) n1 d1
  have e2 : (dropM w.drew S x.nm).cell? ⟨g2, 0, none⟩ = some (.string x.nm) := HD.out.2.cell (a := ⟨g2, 0, none⟩) n2 d2
  have e3 : (dropM w.drew S x.nm).cell? ⟨S.d, 3, none⟩ = some (.map (some S.m)) := HD.out.1.cell 3 _ rfl
  clear h
  go_enter Tryz.func62, Tryz.ntmps62
  refine wp_region_held_drew (S := fun w' => w'.cell? ⟨g1, 0, none⟩ = some (.pointer (some ⟨S.d, 0, none⟩)) ∧ w'.cell? ⟨g2, 0, none⟩ = some (.string x.nm) ∧ w'.cell? ⟨S.d, 3, none⟩ = some (.map (some S.m))) (by kernel_rfl) ⟨d1, d2, d3⟩ (fun hHeld => ?_)
  refine wpAnyH_take (i := 0) (v := ?_) rfl (by kernel_rfl) (by kernel_rfl) (by kernel_rfl) (fun _ _ _ h => h) (Or.inl ⟨by rfl, ?_⟩) hHeld ?_
  rotate_left
  · (intro wq hSw; (try dsimp only at hSw); (try obtain ⟨s0, s1, s2⟩ := hSw); (go_simp <;> with_reducible rfl))
  try simp only [Act.put, List.getElem_toArray, List.getElem_cons_zero, List.getElem_cons_succ, List.setIfInBounds_toArray, List.set_cons_zero, List.set_cons_succ]
  refine wpAnyH_take (i := 1) (v := ?_) rfl (by kernel_rfl) (by kernel_rfl) (by kernel_rfl) (fun _ _ _ h => h) (Or.inl ⟨by rfl, ?_⟩) hHeld ?_
  rotate_left
  · (intro wq hSw; (try dsimp only at hSw); (try obtain ⟨s0, s1, s2⟩ := hSw); (go_simp <;> with_reducible rfl))
  try simp only [Act.put, List.getElem_toArray, List.getElem_cons_zero, List.getElem_cons_succ, List.setIfInBounds_toArray, List.set_cons_zero, List.set_cons_succ]
  refine wpAnyH_take (i := 2) (v := ?_) rfl (by kernel_rfl) (by kernel_rfl) (by kernel_rfl) (fun _ _ _ h => h) (Or.inl ⟨by rfl, ?_⟩) hHeld ?_
  rotate_left
  · (intro wq hSw; (try dsimp only at hSw); (try obtain ⟨s0, s1, s2⟩ := hSw); (go_simp <;> with_reducible rfl))
  try simp only [Act.put, List.getElem_toArray, List.getElem_cons_zero, List.getElem_cons_succ, List.setIfInBounds_toArray, List.set_cons_zero, List.set_cons_succ]
  refine wpAnyH_take (i := 3) (v := ?_) rfl (by kernel_rfl) (by kernel_rfl) (by kernel_rfl) (fun _ _ _ h => h) (Or.inl ⟨by rfl, ?_⟩) hHeld ?_
  rotate_left
  · (intro wq hSw; (try dsimp only at hSw); (try obtain ⟨s0, s1, s2⟩ := hSw); (go_simp <;> with_reducible rfl))
  try simp only [Act.put, List.getElem_toArray, List.getElem_cons_zero, List.getElem_cons_succ, List.setIfInBounds_toArray, List.set_cons_zero, List.set_cons_succ]
  refine wpAnyH_take (i := 4) (v := ?_) rfl (by kernel_rfl) (by kernel_rfl) (by kernel_rfl) (fun _ _ _ h => h) (Or.inl ⟨by rfl, ?_⟩) hHeld ?_
  rotate_left
  · (intro wq hSw; (try dsimp only at hSw); (try obtain ⟨s0, s1, s2⟩ := hSw); (go_simp <;> with_reducible rfl))
  try simp only [Act.put, List.getElem_toArray, List.getElem_cons_zero, List.getElem_cons_succ, List.setIfInBounds_toArray, List.set_cons_zero, List.set_cons_succ]
  refine wpAnyH_ready (rs := [5]) (by kernel_rfl) (by simp) ?_
  refine AllReadyH.cons rfl (fun K hK => ?_) AllReadyH.nil
  rw [if_pos (by rfl)]
  unfold Oper.wp execOp
  simp only [resolve, invoke, builtin, Sem.run_bind, Sem.run_pure, Result.andThen_ok, List.map_toArray, List.map_cons, List.map_nil, Act.eval, List.getElem_toArray, List.getElem_cons_zero, List.getElem_cons_succ, Array.getD_eq_getD_getElem?, List.getElem?_toArray, List.getElem?_cons_succ, List.getElem?_cons_zero, Option.getD_some, hdel, Result.andThen, Oper.upon_value]
  refine hK.out _ _ ⟨e1, e2, e3⟩ (fun hHeld => ?_)
  clear hK K
  try simp only [Act.put, List.getElem_toArray, List.getElem_cons_zero, List.getElem_cons_succ, List.setIfInBounds_toArray, List.set_cons_zero, List.set_cons_succ]
  refine wpAnyH_done (by kernel_rfl) ?_ _
  go_end0
  exact ⟨rfl, { S with L := dropF S.L x.nm }, rfl, ps_drop S x.nm, HD.out.1, HD.out.2.drew⟩

end Go.Proofs.YtlandfghodfjdaaGreat

/- A file takes another one's place. -/
import Derived.Test.YtiblnkiecpcdpaaJ12N
namespace Go.Proofs.Ytiblnkiecpcdpaa
open Go.RowKit
open Go.MuLone (lock_free unlock_deferred run_callFunc_enter)
set_option linter.unusedVariables false
set_option linter.unusedSimpArgs false

/-- Files, one of which is another's bytes now. -/
def replF (L : List Fi) (tn : ByteArray) (x : Fi) : List Fi := updF L tn fun z => { x with nm := z.nm, born := z.born }
def replM (w : World) (S : DS) (tn : ByteArray) (x : Fi) : World := { w with heap := w.heap.setIfInBounds S.m (.map ((replF S.L tn x).map Fi.ent).toArray S.clock) }

theorem modify_is {L : List Fi} (hn : (L.map (·.nm)).Nodup) {j : Nat} {y x : Fi} (hj : L[j]? = some y) : (L.map Fi.ent).modify j (fun e => { e with key := .string y.nm, val := .pointer (some ⟨x.f, 0, none⟩) }) = (replF L y.nm x).map Fi.ent := by
  induction L generalizing j with
  | nil => simp at hj
  | cons a l ih =>
    rw [List.map_cons, List.nodup_cons] at hn
    have hall : ∀ z ∈ l, z.nm ≠ a.nm := fun z hz e => hn.1 (List.mem_map.2 ⟨z, hz, e⟩)
    cases j with
    | zero =>
      simp at hj
      subst hj
      have e : replF (a :: l) a.nm x = { x with nm := a.nm, born := a.born } :: l := by
        unfold replF updF
        rw [List.map_cons, if_pos rfl]
        congr 1
        conv => rhs; rw [← List.map_id l]
        apply List.map_congr_left
        intro z hz
        rw [if_neg (hall z hz)]
        rfl
      rw [e]
      rfl
    | succ j =>
      simp at hj
      have hy : y ∈ l := List.mem_of_getElem? hj
      have e : replF (a :: l) y.nm x = a :: replF l y.nm x := by
        unfold replF updF
        rw [List.map_cons, if_neg (hall y hy).symm]
      rw [e, List.map_cons, List.map_cons, List.modify_succ_cons, ih hn.2 hj]

theorem tot_repl (L : List Fi) (hn : (L.map (·.nm)).Nodup) (tn : ByteArray) (x : Fi) : tot (replF L tn x) ≤ tot L + x.bs.length := by
  induction L with
  | nil => simp [replF, updF, tot]
  | cons a l ih =>
    rw [List.map_cons, List.nodup_cons] at hn
    have hall : ∀ z ∈ l, z.nm ≠ a.nm := fun z hz e => hn.1 (List.mem_map.2 ⟨z, hz, e⟩)
    by_cases e : a.nm = tn
    · have e2 : replF (a :: l) tn x = { x with nm := a.nm, born := a.born } :: l := by
        unfold replF updF
        rw [List.map_cons, if_pos e]
        congr 1
        conv => rhs; rw [← List.map_id l]
        apply List.map_congr_left
        intro z hz
        rw [if_neg (by rw [← e]; exact hall z hz)]
        rfl
      rw [e2]
      simp only [tot]
      omega
    · have e2 : replF (a :: l) tn x = a :: replF l tn x := by
        unfold replF updF
        rw [List.map_cons, if_neg e]
      rw [e2]
      have := ih hn.2
      simp only [tot]
      omega

section
variable {B : Nat} {w : World} {lk : Int} {S : DS} {x : Fi}

theorem Dk.update (h : Dk B w lk S) {y : Fi} (hy : y ∈ S.L) (x : Fi) : (Instr.mapUpdate 63 (.map (some S.m)) (.string y.nm) (.pointer (some ⟨x.f, 0, none⟩))).run Try.prog w = .ok () (replM w S y.nm x) := by
  rcases MapKept.findNow_spec (d := .string) (k := .string y.nm) (by simp [MapKept.IsKey]) (S.L.map Fi.ent) 0 (ent_keys S.L) with ⟨_, h2⟩ | ⟨j, e, h1, h2, h3⟩
  · exact absurd rfl (h2 y.ent (List.mem_map.2 ⟨y, hy, rfl⟩))
  · rw [List.getElem?_map] at h2
    obtain ⟨z, hz, rfl⟩ := Option.map_eq_some_iff.1 h2
    have e1 : z.nm = y.nm := by simpa [Fi.ent] using h3
    have e2 : z = y := ent_inj h.nd (List.mem_of_getElem? hz) hy e1
    subst e2
    have hc : (Instr.checkKey false 10000 9 (.string z.nm)).run Try.prog w = .ok () w := MapKept.run_checkKey Try.underlying9 (by simp [MapKept.IsKey]) false 9999
    have hf : Instr.findNow .string (.string z.nm) (S.L.map Fi.ent) 0 = some (some (0 + j, z.ent.val)) := h1
    have hk : (Instr.keyThatStays (.string z.nm) (.string z.nm)).run Try.prog w = .ok (.string z.nm) w := MapKept.run_keyThatStays (d := .string) (by simp [MapKept.IsKey])
    have hg : (S.L.map Fi.ent)[j]? = some z.ent := by rw [List.getElem?_map, hz]; rfl
    have hm := modify_is (x := x) h.nd hz
    unfold replM
    rw [← hm]
    simp [Instr.mapUpdate, run_underlying Try.underlying63, MapKept.run_getObj_map h.mp, hc, MapKept.run_findKey Try.underlying9 hf, MapKept.run_setObj_map _ h.mp, Result.andThen, hz, Fi.ent, hk]

theorem Dk.replOld (h : Dk B w lk S) (l : Lo B w x S) {y : Fi} (hy : y ∈ S.L) :
    Dk B (replM w S y.nm x) lk { S with L := replF S.L y.nm x } ∧ ∀ k, k ≠ S.m → (replM w S y.nm x).heap[k]? = w.heap[k]? := by
  have hlt := heap_lt h.mp
  have ho : ∀ k, k ≠ S.m → (replM w S y.nm x).heap[k]? = w.heap[k]? := fun k hk => Array.getElem?_setIfInBounds_ne (Ne.symm hk)
  have hd : S.d ≠ S.m := fun e => by have := h.mp; rw [← e, h.dk] at this; simp at this
  have hfm : ∀ z ∈ S.L, z.f ≠ S.m := fun z hz e => by have := h.fl z hz; rw [e, h.mp] at this; simp at this
  have hvm : ∀ {v : Value} {n : Nat} {xs : List Value}, w.ownsRow B 5 1 v n xs → ∀ g, v.ownBlock = some g → g ≠ S.m := fun hw g hg e => by
    rcases hw.2 with ⟨e1, _⟩ | ⟨g', cap, cur, e1, _, hh, _⟩
    · rw [e1] at hg; simp [Value.ownBlock] at hg
    · rw [e1] at hg; simp [Value.ownBlock] at hg; subst hg; rw [e, h.mp] at hh; simp at hh
  have hxm : x.f ≠ S.m := fun e => by have := l.fl; rw [e, h.mp] at this; simp at this
  have mem : ∀ {z : Fi}, z ∈ replF S.L y.nm x → z = { x with nm := y.nm, born := y.born } ∨ (z ∈ S.L ∧ z.nm ≠ y.nm) := fun hz => (mem_updF h.nd hy _).1 hz
  have e2 : (replF S.L y.nm x).map (·.nm) = S.L.map (·.nm) := updF_map _ _ _ _ fun z _ => rfl
  have e3 : (replF S.L y.nm x).map (·.born) = S.L.map (·.born) := updF_map _ _ _ _ fun z _ => rfl
  refine ⟨⟨(ho _ hd).trans h.dk, by unfold replM; simp [hlt], fun z hz => ?_, fun z hz => ?_, by rw [e2]; exact h.nd, by rw [e3]; exact h.bn, ?_, fun z hz => ?_, ?_, ⟨h.bd.1, h.bd.2.1, fun z hz => ?_⟩, fun z hz => ?_, ⟨Nat.le_trans (tot_repl _ h.nd _ _) l.rm, h.rm.2⟩, fun z hz => ?_, ?_⟩, ho⟩
  · rcases mem hz with rfl | ⟨hz, _⟩
    · exact (ho _ hxm).trans l.fl
    · exact (ho _ (hfm z hz)).trans (h.fl z hz)
  · rcases mem hz with rfl | ⟨hz, _⟩
    · exact ownsRow_keep l.ow fun g hg => ho g (hvm l.ow g hg)
    · exact ownsRow_keep (h.ow z hz) fun g hg => ho g (hvm (h.ow z hz) g hg)
  · unfold List.Nodup
    rw [List.pairwise_map]
    have hp : S.L.Pairwise (fun a b => a.f ≠ b.f) := by have := h.fn; unfold List.Nodup at this; rw [List.pairwise_map] at this; exact this
    refine pairwise_updF h.nd hp fun a ha b hb hne hab => ?_
    by_cases ea : a.nm = y.nm <;> by_cases eb : b.nm = y.nm
    · exact absurd (ea.trans eb.symm) hne
    · rw [if_pos ea, if_neg eb]; exact (l.fne b hb).symm
    · rw [if_neg ea, if_pos eb]; exact l.fne a ha
    · rw [if_neg ea, if_neg eb]; exact hab
  · rcases mem hz with rfl | ⟨hz, _⟩
    · exact h.bl y hy
    · exact h.bl z hz
  · refine pairwise_updF h.nd h.ap fun a ha b hb hne hab g h1 h2 => ?_
    by_cases ea : a.nm = y.nm <;> by_cases eb : b.nm = y.nm
    · exact hne (ea.trans eb.symm)
    · rw [if_pos ea] at h1; rw [if_neg eb] at h2; exact l.ap b hb g h2 h1
    · rw [if_neg ea] at h1; rw [if_pos eb] at h2; exact l.ap a ha g h1 h2
    · rw [if_neg ea] at h1; rw [if_neg eb] at h2; exact hab g h1 h2
  · rcases mem hz with rfl | ⟨hz, _⟩
    · exact l.bd
    · exact h.bd.2.2 z hz
  · rcases mem hz with rfl | ⟨hz, _⟩
    · exact l.by_
    · exact h.by_ z hz
  · rcases mem hz with rfl | ⟨hz, _⟩
    · exact l.su
    · exact h.su z hz
  · show (replF S.L y.nm x).length ≤ 256
    unfold replF updF; rw [List.length_map]; exact h.ct
end

end Go.Proofs.Ytiblnkiecpcdpaa

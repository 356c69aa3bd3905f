/- A file takes another one's place. -/
import Derived.Test.YtlandfghodfjdaaGreatJ12D
/- A file that stands under another name. -/
namespace Go.Proofs.YtlandfghodfjdaaGreat
open Go.RowKit
open Go.MuLone (lock_free unlock_deferred run_callFunc_enter)
set_option linter.unusedVariables false
set_option linter.unusedSimpArgs false

/-- A file that stands under no name. -/
structure Lo (B : Nat) (w : World) (x : Fi) (S : DS) : Prop where
  fl : w.heap[x.f]? = some (.cells #[x.v, .int .i64 (x.su : Int)] 79 (0, 0))
  ow : w.ownsRow B 5 1 x.v x.bs.length (bytesV x.bs)
  fne : ∀ z ∈ S.L, z.f ≠ x.f
  ap : ∀ z ∈ S.L, ∀ g, z.v.ownBlock = some g → x.v.ownBlock ≠ some g
  bd : B ≤ x.f
  by_ : ∀ n ∈ x.bs, n < 256
  su : x.su ≤ x.bs.length
  rm : tot S.L + x.bs.length ≤ S.room
  ct : S.L.length < 256

theorem f_inj {L : List Fi} (hn : (L.map (·.f)).Nodup) {x y : Fi} (hx : x ∈ L) (hy : y ∈ L) (h : x.f = y.f) : x = y := by
  induction L with
  | nil => simp at hx
  | cons a t ih =>
    rw [List.map_cons, List.nodup_cons] at hn
    rcases List.mem_cons.1 hx with rfl | hx' <;> rcases List.mem_cons.1 hy with rfl | hy'
    · rfl
    · exact absurd (List.mem_map.2 ⟨y, hy', h.symm⟩) hn.1
    · exact absurd (List.mem_map.2 ⟨x, hx', h⟩) hn.1
    · exact ih hn.2 hx' hy'

theorem ap_of {L : List Fi} (hp : L.Pairwise (fun x y => ∀ g, x.v.ownBlock = some g → y.v.ownBlock ≠ some g)) {x y : Fi} (hy : y ∈ L) (hx : x ∈ L) (hn : y ≠ x) {k : Nat} (hk : y.v.ownBlock = some k) : x.v.ownBlock ≠ some k := by
  induction L with
  | nil => simp at hx
  | cons a t ih =>
    rw [List.pairwise_cons] at hp
    rcases List.mem_cons.1 hy with rfl | hy' <;> rcases List.mem_cons.1 hx with rfl | hx'
    · exact absurd rfl hn
    · exact hp.1 x hx' k hk
    · exact fun e => hp.1 y hy' k e hk
    · exact ih hp.2 hy' hx'

theorem tot_dropx {L : List Fi} (hn : (L.map (·.nm)).Nodup) {x : Fi} (hx : x ∈ L) : tot (dropF L x.nm) + x.bs.length = tot L ∧ (dropF L x.nm).length + 1 = L.length := by
  induction L with
  | nil => simp at hx
  | cons y l ih =>
    rw [List.map_cons, List.nodup_cons] at hn
    have hall : ∀ z ∈ l, z.nm ≠ y.nm := fun z hz e => hn.1 (List.mem_map.2 ⟨z, hz, e⟩)
    rcases List.mem_cons.1 hx with rfl | hx'
    · have e : dropF (x :: l) x.nm = l := by
        unfold dropF
        rw [List.filter_cons_of_neg (by simp)]
        exact List.filter_eq_self.2 fun z hz => by simpa using hall z hz
      rw [e]
      exact ⟨by simp only [tot]; omega, rfl⟩
    · have e : dropF (y :: l) x.nm = y :: dropF l x.nm := by
        unfold dropF
        rw [List.filter_cons_of_pos (by simpa using (hall x hx').symm)]
      rw [e]
      have := ih hn.2 hx'
      exact ⟨by simp only [tot]; omega, by simp only [List.length_cons]; omega⟩

section
variable {B : Nat} {w : World} {lk : Int} {S : DS} {x : Fi}

theorem Dk.loose (h : Dk B w lk S) (hx : x ∈ S.L) : Lo B (dropM w S x.nm) x { S with L := dropF S.L x.nm } := by
  have ho : ∀ k, k ≠ S.m → (dropM w S x.nm).heap[k]? = w.heap[k]? := fun k hk => Array.getElem?_setIfInBounds_ne (Ne.symm hk)
  have hfm : x.f ≠ S.m := fun e => by have := h.fl x hx; rw [e, h.mp] at this; simp at this
  have hvm : ∀ g, x.v.ownBlock = some g → g ≠ S.m := fun g hg e => by
    rcases (h.ow x hx).2 with ⟨e1, _⟩ | ⟨g', cap, cur, e1, _, hh, _⟩
    · rw [e1] at hg; simp [Value.ownBlock] at hg
    · rw [e1] at hg; simp [Value.ownBlock] at hg; subst hg; rw [e, h.mp] at hh; simp at hh
  have ht := tot_dropx h.nd hx
  have hrm := h.rm
  have hct := h.ct
  refine ⟨(ho _ hfm).trans (h.fl x hx), ownsRow_keep (h.ow x hx) fun g hg => ho g (hvm g hg), fun z hz e => ?_, fun z hz g hg => ?_, h.bd.2.2 x hx, h.by_ x hx, h.su x hx, by show tot (dropF S.L x.nm) + _ ≤ S.room; omega, by show (dropF S.L x.nm).length < 256; omega⟩
  · have := mem_drop.1 hz
    exact this.2 (by rw [f_inj h.fn this.1 hx e])
  · have := mem_drop.1 hz
    exact ap_of h.ap this.1 hx (fun e => this.2 (by rw [e])) hg

theorem Lo.below (h : Lo B w x S) {w' : World} (hb : Below w.heap.size w w') : Lo B w' x S :=
  { h with fl := (hb.block _ (heap_lt h.fl)).trans h.fl, ow := ownsRow_keep h.ow fun g hg => hb.block g (h.ow.lt g hg).2 }

/-- It is put under a name that no file has. -/
theorem Dk.addOld (h : Dk B w lk S) (l : Lo B w x S) {tn : ByteArray} (hx : ∀ y ∈ S.L, y.nm ≠ tn) :
    Dk B (putM w S tn x.f) lk { S with L := S.L ++ [{ x with nm := tn, born := S.clock }], clock := S.clock + 1 } ∧ ∀ k, k ≠ S.m → (putM w S tn x.f).heap[k]? = w.heap[k]? := by
  have hlt := heap_lt h.mp
  have ho : ∀ k, k ≠ S.m → (putM w S tn x.f).heap[k]? = w.heap[k]? := fun k hk => Array.getElem?_setIfInBounds_ne (Ne.symm hk)
  have hd : S.d ≠ S.m := fun e => by have := h.mp; rw [← e, h.dk] at this; simp at this
  have hfm : ∀ z ∈ S.L, z.f ≠ S.m := fun z hz e => by have := h.fl z hz; rw [e, h.mp] at this; simp at this
  have hvm : ∀ {v : Value} {n : Nat} {xs : List Value}, w.ownsRow B 5 1 v n xs → ∀ g, v.ownBlock = some g → g ≠ S.m := fun hw g hg e => by
    rcases hw.2 with ⟨e1, _⟩ | ⟨g', cap, cur, e1, _, hh, _⟩
    · rw [e1] at hg; simp [Value.ownBlock] at hg
    · rw [e1] at hg; simp [Value.ownBlock] at hg; subst hg; rw [e, h.mp] at hh; simp at hh
  have hxm : x.f ≠ S.m := fun e => by have := l.fl; rw [e, h.mp] at this; simp at this
  have mem : ∀ {y : Fi}, y ∈ S.L ++ [{ x with nm := tn, born := S.clock }] → y ∈ S.L ∨ y = { x with nm := tn, born := S.clock } := fun hy => by simpa using hy
  refine ⟨⟨(ho _ hd).trans h.dk, by unfold putM; simp [hlt, Fi.ent], fun y hy => ?_, fun y hy => ?_, ?_, ?_, ?_, fun y hy => ?_, ?_, ⟨h.bd.1, h.bd.2.1, fun y hy => ?_⟩, fun y hy => ?_, ⟨?_, h.rm.2⟩, fun y hy => ?_, ?_⟩, ho⟩
  · rcases mem hy with hy | rfl
    · exact (ho _ (hfm y hy)).trans (h.fl y hy)
    · exact (ho _ hxm).trans l.fl
  · rcases mem hy with hy | rfl
    · exact ownsRow_keep (h.ow y hy) fun g hg => ho g (hvm (h.ow y hy) g hg)
    · exact ownsRow_keep l.ow fun g hg => ho g (hvm l.ow g hg)
  · show ((S.L ++ _).map (·.nm)).Nodup
    rw [List.map_append, List.nodup_append]
    refine ⟨h.nd, by simp, fun a ha b hb => ?_⟩
    obtain ⟨y, hy, rfl⟩ := List.mem_map.1 ha
    simp at hb; rw [hb]; exact hx y hy
  · show ((S.L ++ _).map (·.born)).Nodup
    rw [List.map_append, List.nodup_append]
    refine ⟨h.bn, by simp, fun a ha b hb => ?_⟩
    obtain ⟨y, hy, rfl⟩ := List.mem_map.1 ha
    simp at hb; have := h.bl y hy; omega
  · show ((S.L ++ _).map (·.f)).Nodup
    rw [List.map_append, List.nodup_append]
    refine ⟨h.fn, by simp, fun a ha b hb => ?_⟩
    obtain ⟨y, hy, rfl⟩ := List.mem_map.1 ha
    simp at hb; rw [hb]; exact l.fne y hy
  · rcases mem hy with hy | rfl
    · have := h.bl y hy; show y.born < S.clock + 1; omega
    · exact Nat.lt_succ_self _
  · show (S.L ++ _).Pairwise _
    rw [List.pairwise_append]
    refine ⟨h.ap, List.pairwise_singleton _ _, fun a ha b hb g hg => ?_⟩
    simp at hb; rw [hb]; exact l.ap a ha g hg
  · rcases mem hy with hy | rfl
    · exact h.bd.2.2 y hy
    · exact l.bd
  · rcases mem hy with hy | rfl
    · exact h.by_ y hy
    · exact l.by_
  · have : ∀ L : List Fi, tot (L ++ [{ x with nm := tn, born := S.clock }]) = tot L + x.bs.length := by
      intro L
      induction L with
      | nil => simp [tot]
      | cons y l ih => rw [List.cons_append, tot, ih, tot]; omega
    show tot _ ≤ S.room
    rw [this]; exact l.rm
  · rcases mem hy with hy | rfl
    · exact h.su y hy
    · exact l.su
  · show (S.L ++ _).length ≤ 256
    have := l.ct
    simp; omega

end

end Go.Proofs.YtlandfghodfjdaaGreat

namespace Go.Proofs.YtlandfghodfjdaaGreat
open Go.RowKit
open Go.MuLone (lock_free unlock_deferred run_callFunc_enter)
set_option linter.unusedVariables false
set_option linter.unusedSimpArgs false

/-- Files, one of which is another's bytes now. -/
def replF (L : List Fi) (tn : ByteArray) (x : Fi) : List Fi := updF L tn fun z => { x with nm := z.nm, born := z.born }
def replM (w : World) (S : DS) (tn : ByteArray) (x : Fi) : World := { w with heap := w.heap.setIfInBounds S.m (.map ((replF S.L tn x).map Fi.ent).toArray S.clock) }

theorem modify_is {L : List Fi} (hn : (L.map (·.nm)).Nodup) {j : Nat} {y x : Fi} (hj : L[j]? = some y) : (L.map Fi.ent).modify j (fun e => { e with key := .string y.nm, val := .pointer (some ⟨x.f, 0, none⟩) }) = (replF L y.nm x).map Fi.ent := by
  induction L generalizing j with
  | nil => simp at hj
  | cons a l ih =>
    rw [List.map_cons, List.nodup_cons] at hn
    have hall : ∀ z ∈ l, z.nm ≠ a.nm := fun z hz e => hn.1 (List.mem_map.2 ⟨z, hz, e⟩)
    cases j with
    | zero =>
      simp at hj
      subst hj
      have e : replF (a :: l) a.nm x = { x with nm := a.nm, born := a.born } :: l := by
        unfold replF updF
        rw [List.map_cons, if_pos rfl]
        congr 1
        conv => rhs; rw [← List.map_id l]
        apply List.map_congr_left
        intro z hz
        rw [if_neg (hall z hz)]
        rfl
      rw [e]
      rfl
    | succ j =>
      simp at hj
      have hy : y ∈ l := List.mem_of_getElem? hj
      have e : replF (a :: l) y.nm x = a :: replF l y.nm x := by
        unfold replF updF
        rw [List.map_cons, if_neg (hall y hy).symm]
      rw [e, List.map_cons, List.map_cons, List.modify_succ_cons, ih hn.2 hj]

theorem tot_repl (L : List Fi) (hn : (L.map (·.nm)).Nodup) (tn : ByteArray) (x : Fi) : tot (replF L tn x) ≤ tot L + x.bs.length := by
  induction L with
  | nil => simp [replF, updF, tot]
  | cons a l ih =>
    rw [List.map_cons, List.nodup_cons] at hn
    have hall : ∀ z ∈ l, z.nm ≠ a.nm := fun z hz e => hn.1 (List.mem_map.2 ⟨z, hz, e⟩)
    by_cases e : a.nm = tn
    · have e2 : replF (a :: l) tn x = { x with nm := a.nm, born := a.born } :: l := by
        unfold replF updF
        rw [List.map_cons, if_pos e]
        congr 1
        conv => rhs; rw [← List.map_id l]
        apply List.map_congr_left
        intro z hz
        rw [if_neg (by rw [← e]; exact hall z hz)]
        rfl
      rw [e2]
      simp only [tot]
      omega
    · have e2 : replF (a :: l) tn x = a :: replF l tn x := by
        unfold replF updF
        rw [List.map_cons, if_neg e]
      rw [e2]
      have := ih hn.2
      simp only [tot]
      omega

section
variable {B : Nat} {w : World} {lk : Int} {S : DS} {x : Fi}

theorem Dk.update (h : Dk B w lk S) {y : Fi} (hy : y ∈ S.L) (x : Fi) : (Instr.mapUpdate 57 (.map (some S.m)) (.string y.nm) (.pointer (some ⟨x.f, 0, none⟩))).run Tryz.prog w = .ok () (replM w S y.nm x) := by
  rcases MapKept.findNow_spec (d := .string) (k := .string y.nm) (by simp [MapKept.IsKey]) (S.L.map Fi.ent) 0 (ent_keys S.L) with ⟨_, h2⟩ | ⟨j, e, h1, h2, h3⟩
  · exact absurd rfl (h2 y.ent (List.mem_map.2 ⟨y, hy, rfl⟩))
  · rw [List.getElem?_map] at h2
    obtain ⟨z, hz, rfl⟩ := Option.map_eq_some_iff.1 h2
    have e1 : z.nm = y.nm := by simpa [Fi.ent] using h3
    have e2 : z = y := ent_inj h.nd (List.mem_of_getElem? hz) hy e1
    subst e2
    have hc : (Instr.checkKey false 10000 9 (.string z.nm)).run Tryz.prog w = .ok () w := MapKept.run_checkKey Tryz.underlying9 (by simp [MapKept.IsKey]) false 9999
    have hf : Instr.findNow .string (.string z.nm) (S.L.map Fi.ent) 0 = some (some (0 + j, z.ent.val)) := h1
    have hk : (Instr.keyThatStays (.string z.nm) (.string z.nm)).run Tryz.prog w = .ok (.string z.nm) w := MapKept.run_keyThatStays (d := .string) (by simp [MapKept.IsKey])
    have hg : (S.L.map Fi.ent)[j]? = some z.ent := by rw [List.getElem?_map, hz]; rfl
    have hm := modify_is (x := x) h.nd hz
    unfold replM
    rw [← hm]
    simp [Instr.mapUpdate, run_underlying Tryz.underlying57, MapKept.run_getObj_map h.mp, hc, MapKept.run_findKey Tryz.underlying9 hf, MapKept.run_setObj_map _ h.mp, Result.andThen, hz, Fi.ent, hk]

theorem Dk.replOld (h : Dk B w lk S) (l : Lo B w x S) {y : Fi} (hy : y ∈ S.L) :
    Dk B (replM w S y.nm x) lk { S with L := replF S.L y.nm x } ∧ ∀ k, k ≠ S.m → (replM w S y.nm x).heap[k]? = w.heap[k]? := by
  have hlt := heap_lt h.mp
  have ho : ∀ k, k ≠ S.m → (replM w S y.nm x).heap[k]? = w.heap[k]? := fun k hk => Array.getElem?_setIfInBounds_ne (Ne.symm hk)
  have hd : S.d ≠ S.m := fun e => by have := h.mp; rw [← e, h.dk] at this; simp at this
  have hfm : ∀ z ∈ S.L, z.f ≠ S.m := fun z hz e => by have := h.fl z hz; rw [e, h.mp] at this; simp at this
  have hvm : ∀ {v : Value} {n : Nat} {xs : List Value}, w.ownsRow B 5 1 v n xs → ∀ g, v.ownBlock = some g → g ≠ S.m := fun hw g hg e => by
    rcases hw.2 with ⟨e1, _⟩ | ⟨g', cap, cur, e1, _, hh, _⟩
    · rw [e1] at hg; simp [Value.ownBlock] at hg
    · rw [e1] at hg; simp [Value.ownBlock] at hg; subst hg; rw [e, h.mp] at hh; simp at hh
  have hxm : x.f ≠ S.m := fun e => by have := l.fl; rw [e, h.mp] at this; simp at this
  have mem : ∀ {z : Fi}, z ∈ replF S.L y.nm x → z = { x with nm := y.nm, born := y.born } ∨ (z ∈ S.L ∧ z.nm ≠ y.nm) := fun hz => (mem_updF h.nd hy _).1 hz
  have e2 : (replF S.L y.nm x).map (·.nm) = S.L.map (·.nm) := updF_map _ _ _ _ fun z _ => rfl
  have e3 : (replF S.L y.nm x).map (·.born) = S.L.map (·.born) := updF_map _ _ _ _ fun z _ => rfl
  refine ⟨⟨(ho _ hd).trans h.dk, by unfold replM; simp [hlt], fun z hz => ?_, fun z hz => ?_, by rw [e2]; exact h.nd, by rw [e3]; exact h.bn, ?_, fun z hz => ?_, ?_, ⟨h.bd.1, h.bd.2.1, fun z hz => ?_⟩, fun z hz => ?_, ⟨Nat.le_trans (tot_repl _ h.nd _ _) l.rm, h.rm.2⟩, fun z hz => ?_, ?_⟩, ho⟩
  · rcases mem hz with rfl | ⟨hz, _⟩
    · exact (ho _ hxm).trans l.fl
    · exact (ho _ (hfm z hz)).trans (h.fl z hz)
  · rcases mem hz with rfl | ⟨hz, _⟩
    · exact ownsRow_keep l.ow fun g hg => ho g (hvm l.ow g hg)
    · exact ownsRow_keep (h.ow z hz) fun g hg => ho g (hvm (h.ow z hz) g hg)
  · unfold List.Nodup
    rw [List.pairwise_map]
    have hp : S.L.Pairwise (fun a b => a.f ≠ b.f) := by have := h.fn; unfold List.Nodup at this; rw [List.pairwise_map] at this; exact this
    refine pairwise_updF h.nd hp fun a ha b hb hne hab => ?_
    by_cases ea : a.nm = y.nm <;> by_cases eb : b.nm = y.nm
    · exact absurd (ea.trans eb.symm) hne
    · rw [if_pos ea, if_neg eb]; exact (l.fne b hb).symm
    · rw [if_neg ea, if_pos eb]; exact l.fne a ha
    · rw [if_neg ea, if_neg eb]; exact hab
  · rcases mem hz with rfl | ⟨hz, _⟩
    · exact h.bl y hy
    · exact h.bl z hz
  · refine pairwise_updF h.nd h.ap fun a ha b hb hne hab g h1 h2 => ?_
    by_cases ea : a.nm = y.nm <;> by_cases eb : b.nm = y.nm
    · exact hne (ea.trans eb.symm)
    · rw [if_pos ea] at h1; rw [if_neg eb] at h2; exact l.ap b hb g h2 h1
    · rw [if_neg ea] at h1; rw [if_pos eb] at h2; exact l.ap a ha g h1 h2
    · rw [if_neg ea] at h1; rw [if_neg eb] at h2; exact hab g h1 h2
  · rcases mem hz with rfl | ⟨hz, _⟩
    · exact l.bd
    · exact h.bd.2.2 z hz
  · rcases mem hz with rfl | ⟨hz, _⟩
    · exact l.by_
    · exact h.by_ z hz
  · rcases mem hz with rfl | ⟨hz, _⟩
    · exact l.su
    · exact h.su z hz
  · show (replF S.L y.nm x).length ≤ 256
    unfold replF updF; rw [List.length_map]; exact h.ct
end

end Go.Proofs.YtlandfghodfjdaaGreat

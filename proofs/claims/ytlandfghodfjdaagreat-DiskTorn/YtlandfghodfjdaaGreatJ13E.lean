/- What the law of what is sure keeps: the disk, and the row of what is sure. -/
import Derived.Test.YtlandfghodfjdaaGreatJ13C
/- The law's still: what is sure behind a write. -/
namespace Go.Proofs.YtlandfghodfjdaaGreat
open Go.RowKit
set_option linter.unusedVariables false
set_option linter.unusedSimpArgs false

/-- A slice that may be cut, whose block is such a one. -/
def Gv (Q : Nat → Prop) (u : Value) : Prop := ∃ (p : Option Addr) (l c : Nat), u = .slice p l c ∧ l ≤ c ∧ (p = none → c = 0) ∧ ∀ k, (Value.slice p l c).ownBlock = some k → Q k

def nilV : Value := .slice none 0 0
theorem Gv.none {Q : Nat → Prop} : Gv Q nilV := ⟨_, 0, 0, rfl, Nat.le_refl _, fun _ => rfl, fun k e => by simp [Value.ownBlock] at e⟩
theorem isBy_nil (w : World) : IsBy w nilV [] := .inl (.inl ⟨rfl, rfl⟩)

/-- Rows of bytes that lie somewhere, may be cut, and whose blocks are such ones. -/
def RowsG (w : World) (Q : Nat → Prop) (vals : List Value) (fs : List (ByteArray × List Nat)) : Prop := ∀ i, i < fs.length → IsBy w (vals.getD i nilV) (fs.getD i (.empty, [])).2 ∧ Gv Q (vals.getD i nilV)

theorem RowsG.tail {w : World} {Q : Nat → Prop} {u : Value} {us : List Value} {x : ByteArray × List Nat} {fs : List (ByteArray × List Nat)} (h : RowsG w Q (u :: us) (x :: fs)) : RowsG w Q us fs := fun i hi => by
  have := h (i + 1) (by simpa using hi)
  simpa using this

theorem look_is {w : World} {Q : Nat → Prop} (n : ByteArray) : ∀ (fs : List (ByteArray × List Nat)) (us : List Value), us.length = fs.length → RowsG w Q us fs → IsBy w ((lookF fs us n).getD nilV) (lookB fs n) ∧ Gv Q ((lookF fs us n).getD nilV)
  | [], [], _, _ => ⟨isBy_nil w, Gv.none⟩
  | x :: fs, u :: us, hl, h => by
    by_cases e : x.1 = n
    · have h0 := h 0 (by simp)
      have e1 : lookF (x :: fs) (u :: us) n = some u := if_pos e
      have e2 : lookB (x :: fs) n = x.2 := by unfold lookB; simp [List.find?, e]
      rw [e1, e2]
      exact h0
    · have e1 : lookF (x :: fs) (u :: us) n = lookF fs us n := if_neg e
      have e2 : lookB (x :: fs) n = lookB fs n := by unfold lookB; simp [List.find?, e]
      rw [e1, e2]
      exact look_is n fs us (by simpa using hl) h.tail
  | [], _ :: _, h, _ => by simp at h
  | _ :: _, [], h, _ => by simp at h

/-- What still makes of files. -/
def stillL (dw : Int) (nm tt : ByteArray) (z : Int) (fs gs : List (ByteArray × List Nat)) : List (ByteArray × List Nat) := gs.map fun g => (g.1, stillB dw nm tt z (lookB fs) g.1 g.2)

theorem stillL_take (dw : Int) (nm tt : ByteArray) (z : Int) (fs gs : List (ByteArray × List Nat)) (i : Nat) (h : i < gs.length) : stillL dw nm tt z fs (gs.take (i + 1)) = stillL dw nm tt z fs (gs.take i) ++ [((gs.getD i (.empty, [])).1, stillB dw nm tt z (lookB fs) (gs.getD i (.empty, [])).1 (gs.getD i (.empty, [])).2)] := by
  unfold stillL
  rw [List.take_add_one, List.getElem?_eq_getElem h, List.map_append]
  simp [List.getD, List.getElem?_eq_getElem h]

theorem RowsG.more {w : World} {Q : Nat → Prop} {us : List Value} {fs : List (ByteArray × List Nat)} (h : RowsG w Q us fs) (hl : us.length = fs.length) {u : Value} {x : ByteArray × List Nat} (h1 : IsBy w u x.2) (h2 : Gv Q u) : RowsG w Q (us ++ [u]) (fs ++ [x]) := fun i hi => by
  rcases Nat.lt_or_ge i fs.length with hi' | hi'
  · have e1 : (us ++ [u]).getD i nilV = us.getD i nilV := by simp [List.getD, List.getElem?_append_left (show i < us.length by omega)]
    have e2 : (fs ++ [x]).getD i (.empty, []) = fs.getD i (.empty, []) := by simp [List.getD, List.getElem?_append_left hi']
    rw [e1, e2]; exact h i hi'
  · have hi2 : i = fs.length := by simp at hi; omega
    have e1 : (us ++ [u]).getD i nilV = u := by rw [hi2, ← hl]; simp [List.getD]
    have e2 : (fs ++ [x]).getD i (.empty, []) = x := by rw [hi2]; simp [List.getD]
    rw [e1, e2]; exact ⟨h1, h2⟩

/-- While still goes on. -/
structure StI (w wa wr : World) (Q : Nat → Prop) (v : Value) (i : Nat) (us : List Value) (L : List (ByteArray × List Nat)) : Prop where
  own : wr.ownsRow wa.heap.size 74 2 v i (fcells L us)
  len : us.length = i ∧ L.length = i
  row : RowsG w Q us L
  bel : Below wa.heap.size wa wr

theorem StI.next {w wa wr w5 w6 : World} {Q : Nat → Prop} {v v6 : Value} {i : Nat} {us : List Value} {L : List (ByteArray × List Nat)} (h : StI w wa wr Q v i us L) {X : Obj} {n : ByteArray} {b : Value} {bs : List Nat} (h5 : w5.heap = wr.heap ∧ w5.os = wr.os ∧ w5.tape = wr.tape ∧ w5.output = wr.output) (hb : IsBy w b bs) (hg : Gv Q b)
    (ho : w6.ownsRow wa.heap.size 74 2 v6 (i + 1) (fcells L us ++ [.string n, b])) (hgr : (w5.alloc X).grownBy w6 v.ownBlock) : StI w wa w6 Q v6 (i + 1) (us ++ [b]) (L ++ [(n, bs)]) := by
  refine ⟨by rw [fcells_more _ _ _ _ (h.len.1.trans h.len.2.symm)]; exact ho, by simp [h.len.1, h.len.2], h.row.more (h.len.1.trans h.len.2.symm) hb hg, ?_⟩
  have hs5 : w5.heap.size = wr.heap.size := by rw [h5.1]
  have hsz : wr.heap.size ≤ w6.heap.size := by have := hgr.size; simp at this; omega
  refine ⟨hgr.os.trans (h5.2.1.trans h.bel.os), hgr.tape.trans (h5.2.2.1.trans h.bel.tape), hgr.output.trans (h5.2.2.2.trans h.bel.output), Nat.le_trans h.bel.size hsz, fun k hk => ?_⟩
  have hk2 : k < wr.heap.size := Nat.lt_of_lt_of_le hk h.bel.size
  refine ((hgr.block k (by simp; omega) fun e => ?_).trans ((Below.heap_alloc _ _ _ (by omega)).trans ?_)).trans (h.bel.block k hk)
  · have := (h.own.lt k e.symm).1; omega
  · rw [h5.1]

theorem cut_by {w : World} {p : Option Addr} {l c : Nat} {bs : List Nat} (h : IsBy w (.slice p l c) bs) (hl : l = bs.length) (k : Nat) (hk : k ≤ l) : IsBy w (.slice p k c) (bs.take k) := isBy_pre h hl k hk

end Go.Proofs.YtlandfghodfjdaaGreat

namespace Go.Proofs.YtlandfghodfjdaaGreat
open Go.RowKit
set_option linter.unusedVariables false
set_option linter.unusedSimpArgs false

theorem order_uniq : ∀ {a b : List ByteArray}, a.Perm b → inOrder a → inOrder b → a = b
  | [], b, hp, _, _ => by simpa using hp.symm.eq_nil.symm
  | x :: a, [], hp, _, _ => by simpa using hp.eq_nil
  | x :: a, y :: b, hp, ha, hb => by
    have h1 : x ∈ y :: b := hp.mem_iff.1 (by simp)
    have h2 : y ∈ x :: a := hp.mem_iff.2 (by simp)
    have hxy : x = y := by
      unfold inOrder at ha hb
      rw [List.pairwise_cons] at ha hb
      rcases List.mem_cons.1 h1 with e | e
      · exact e
      rcases List.mem_cons.1 h2 with e2 | e2
      · exact e2.symm
      have k1 := ha.1 y e2
      have k2 := hb.1 x e
      have k3 := List.le_antisymm k1 k2
      cases x; cases y
      simp only [ByteArray.mk.injEq] at *
      exact Array.toList_inj.1 k3
    subst hxy
    rw [order_uniq ((List.perm_cons x).1 hp) (List.pairwise_cons.1 ha).2 (List.pairwise_cons.1 hb).2]

theorem con_le (c : Con) : ∀ y ∈ c, y.2.1.length ≤ Con.tot c := by
  induction c with
  | nil => intro y hy; simp at hy
  | cons x c ih =>
    intro y hy
    rw [Con.tot]
    rcases List.mem_cons.1 hy with rfl | hy
    · omega
    · have := ih y hy; omega

theorem con_names (S : DS) : S.ps.con.map (·.1) = S.L.map (·.nm) := by
  unfold DS.ps
  simp [Fi.con, Function.comp_def]

theorem Dk.fine {B : Nat} {w : World} {lk : Int} {S : DS} (h : Dk B w lk S) (ho : ∀ y ∈ S.ps.con, okN y.1) : S.ps.con.fine := by
  refine ⟨by rw [con_names]; exact h.nd, fun y hy => ?_, ho, fun y hy => ?_⟩
  · obtain ⟨x, hx, rfl⟩ := List.mem_map.1 hy
    exact h.su x hx
  · have h1 := con_le _ y hy
    have h2 := h.rm
    rw [tot_con] at h2
    exact Nat.le_trans h1 (Nat.le_trans h2.1 h2.2)

/-- What stays when a write was refused, or was none. -/
theorem do_not {p p' : PS} {dw : Int} {nm tt : ByteArray} {bs : List Nat} {z c : Int} {is : Bool} (ha : p.ain = 0) (h : DoR p dw nm tt bs z c is p') (hn : ¬ (is = true ∧ c = 0)) : p' = p := by
  have hc : p.code = 0 := if_neg (by omega)
  rcases h with ⟨_, i, h⟩ | ⟨_, i, h⟩ | ⟨_, i, h⟩ | ⟨_, i, h⟩ | ⟨_, i, h⟩ | ⟨_, _, _, h⟩
  · rcases h with ⟨_, _, e⟩ | ⟨_, _, _, _, e⟩ | ⟨_, _, _, e, _⟩
    · exact e
    · exact e
    · exact absurd ⟨i, e.trans hc⟩ hn
  · rcases h with ⟨_, e⟩ | ⟨_, _, b, su, _, h⟩
    · exact e
    · rcases h with ⟨_, _, e⟩ | ⟨_, e, _⟩
      · exact e
      · exact absurd ⟨i, e.trans hc⟩ hn
  · rcases h with ⟨_, _, e⟩ | ⟨_, _, _, _, _, e⟩ | ⟨_, _, _, _, e, _⟩
    · exact e
    · exact e
    · exact absurd ⟨i, e.trans hc⟩ hn
  · rcases h with ⟨_, e⟩ | ⟨_, _, _, e, _⟩
    · exact e
    · exact absurd ⟨i, e.trans hc⟩ hn
  · rcases h with ⟨_, e⟩ | ⟨_, _, _, e, _⟩
    · exact e
    · exact absurd ⟨i, e.trans hc⟩ hn
  · exact h

theorem bytes_con {B : Nat} {w : World} {lk : Int} {S : DS} (h : Dk B w lk S) (n : ByteArray) : bytesOf S n = (Con.get S.ps.con n).1 := by
  by_cases hx : ∃ x ∈ S.L, x.nm = n
  · obtain ⟨x, hx, rfl⟩ := hx
    rw [bytes_of h hx, con_get h hx]
  · rw [get_no fun e => hx ((has_iff S n).1 e)]
    unfold bytesOf
    rw [List.find?_eq_none.2 fun x hx' e => hx ⟨x, hx', of_decide_eq_true e⟩]
    rfl

/-- What the files are, with what was sure: what is sure. -/
theorem still_sure {p p' : PS} {S' : DS} {B : Nat} {w' : World} (hD : Dk B w' 0 S') (hS : S'.ps = p') {dw : Int} {nm tt : ByteArray} {z : Int} {ns ns' : List ByteArray} (hns : ns.Perm (p.con.map (·.1))) (hns' : ns'.Perm (S'.L.map (·.nm)))
    (h : ∀ n, p'.con.has n → stillB dw nm tt z (sb p.con) n (Con.get p'.con n).1 = sb p'.con n) : stillL dw nm tt z (sureOf p.con ns) (filesOf S' ns') = sureOf p'.con ns' := by
  unfold stillL filesOf
  rw [List.map_map]
  unfold sureOf
  refine List.map_congr_left fun n hn => ?_
  have h1 : p'.con.has n := by
    rw [← hS, has_iff]
    obtain ⟨x, hx, e⟩ := List.mem_map.1 (hns'.mem_iff.1 hn)
    exact ⟨x, hx, e⟩
  have hl : lookB (ns.map fun n => (n, sb p.con n)) = sb p.con := funext fun m => look_sure p.con m ns fun hm => by
    obtain ⟨y, hy, e⟩ := hm
    exact hns.mem_iff.2 (List.mem_map.2 ⟨y, hy, e⟩)
  show ((n, stillB dw nm tt z (lookB (ns.map fun n => (n, sb p.con n))) n (bytesOf S' n)) : ByteArray × List Nat) = (n, sb p'.con n)
  rw [hl, bytes_con hD, hS, h n h1]

theorem each_lost {c : Con} (h : c.fine) (n : ByteArray) : (Con.get (Con.each c (lostF 1099511627776)) n).1 = sb c n := by
  by_cases hn : c.has n
  · rw [get_each c _ n hn]
    have h1 := get_su h n
    have h2 : (Con.get c n).1.length ≤ 268435456 := by
      obtain ⟨y, hy, rfl⟩ := hn
      rw [get_of h.1 hy]; exact h.2.2.2 y hy
    unfold lostF sb
    dsimp only
    congr 1
    unfold leftF
    omega
  · have h2 : ¬ (Con.each c (lostF 1099511627776)).has n := fun e => hn (by
      obtain ⟨y, hy, e⟩ := e
      obtain ⟨x, hx, rfl⟩ := List.mem_map.1 hy
      exact ⟨x, hx, e⟩)
    unfold sb
    rw [get_no hn, get_no h2]
    rfl

theorem each_names (c : Con) (f : List Nat × Nat → List Nat × Nat) : (Con.each c f).map (·.1) = c.map (·.1) := by
  unfold Con.each
  simp [Function.comp_def]

/-- The law's own blocks: there, and not the disk's. -/
def Qo (w : World) (S : DS) (k : Nat) : Prop := k < w.heap.size ∧ ¬ Fp S k

theorem isBy_own {w w' : World} {v : Value} {bs : List Nat} (h : IsBy w v bs) (hk : ∀ k, v.ownBlock = some k → w'.heap[k]? = w.heap[k]?) : IsBy w' v bs := isBy_keepW h hk

theorem RowsG.fr {w w' : World} {Q Q' : Nat → Prop} {us : List Value} {fs : List (ByteArray × List Nat)} (h : RowsG w Q us fs) (hk : ∀ k, Q k → w'.heap[k]? = w.heap[k]? ∧ Q' k) : RowsG w' Q' us fs := fun i hi => by
  obtain ⟨h1, p, l, c, e, h2, h3, h4⟩ := h i hi
  exact ⟨isBy_own h1 fun k hk' => (hk k (h4 k (by rw [← e]; exact hk'))).1, p, l, c, e, h2, h3, fun k hk' => (hk k (h4 k hk')).2⟩

/-- What the law keeps between two calls: the disk and the row of what is sure. -/
structure SuSt (w w' : World) (d room i : Nat) (v : Value) (S : DS) (ns : List ByteArray) (us : List Value) : Prop where
  dk : Dk w.heap.size w' 0 S
  dd : S.d = d
  fin : ∀ y ∈ S.ps.con, okN y.1
  cfg : S.off = false ∧ S.ain = 0 ∧ S.wr ≤ i ∧ S.room = room
  arm : S.ps.arms
  nms : ns.Perm (S.L.map (·.nm)) ∧ inOrder ns
  own : w'.ownsRow w.heap.size 74 2 v ns.length (fcells (sureOf S.ps.con ns) us)
  len : us.length = ns.length
  row : RowsG w' (Qo w' S) us (sureOf S.ps.con ns)
  apart : ∀ k, v.ownBlock = some k → ¬ Fp S k
  bel : Below w.heap.size w w'

theorem SuSt.fr {w w1 w2 : World} {d room i j : Nat} {v : Value} {S S' : DS} {ns : List ByteArray} {us : List Value} (h : SuSt w w1 d room i v S ns us) (hD : Dk w.heap.size w2 0 S') (hd : S'.d = S.d) (hp : S'.ps = S.ps) (hf : Fr w1 (Fp S) w2 (Fp S')) (hij : i ≤ j) : SuSt w w2 d room j v S' ns us := by
  have e1 : S'.ps.con = S.ps.con := by rw [hp]
  have e2 : S'.L.map (·.nm) = S.L.map (·.nm) := by rw [← con_names, ← con_names, e1]
  have c0 : S'.off = S.off := congrArg PS.off hp
  have c1 : S'.ain = S.ain := congrArg PS.ain hp
  have c2 : S'.wr = S.wr := congrArg PS.wr hp
  have c3 : S'.room = S.room := congrArg PS.room hp
  refine ⟨hD, hd.trans h.dd, by rw [e1]; exact h.fin, ⟨by rw [c0]; exact h.cfg.1, by rw [c1]; exact h.cfg.2.1, by rw [c2]; exact Nat.le_trans h.cfg.2.2.1 hij, by rw [c3]; exact h.cfg.2.2.2⟩, by rw [hp]; exact h.arm, by rw [e2]; exact h.nms, ?_, h.len, ?_, ?_, ?_⟩
  · rw [e1]
    exact ownsRow_keep h.own fun g hg => (hf.block g (h.own.lt g hg).2 (h.apart g hg)).2
  · rw [e1]
    exact h.row.fr fun k hk => ⟨(hf.block k hk.1 hk.2).2, Nat.lt_of_lt_of_le hk.1 hf.size, (hf.block k hk.1 hk.2).1⟩
  · exact fun k hk => (hf.block k (h.own.lt k hk).2 (h.apart k hk)).1
  · exact h.bel.trans (hf.below h.dk.fpB h.bel.size)

theorem SuSt.below {w w1 w2 : World} {d room i : Nat} {v : Value} {S : DS} {ns : List ByteArray} {us : List Value} (h : SuSt w w1 d room i v S ns us) (hb : Below w1.heap.size w1 w2) : SuSt w w2 d room i v S ns us := h.fr (h.dk.below hb) rfl rfl (Fr.of_below hb) (Nat.le_refl _)

theorem sureOf_len (c : Con) (ns : List ByteArray) : (sureOf c ns).length = ns.length := by unfold sureOf; simp

theorem SuSt.files {w w1 : World} {d room i : Nat} {v : Value} {S : DS} {ns : List ByteArray} {us : List Value} (h : SuSt w w1 d room i v S ns us) : FilesR w1 v us (sureOf S.ps.con ns) := by
  have hl : us.length = (sureOf S.ps.con ns).length := by rw [sureOf_len]; exact h.len
  refine ⟨hl, ?_⟩
  rcases h.own.2 with ⟨e1, e2⟩ | ⟨g, cap, cur, e1, q1, q2, q3, q4, q5, q6⟩
  · exact ⟨none, 0, by rw [e1, sureOf_len, e2], fun i hi => by rw [sureOf_len] at hi; omega⟩
  · refine ⟨_, cap, by rw [sureOf_len]; exact e1, fun i hi => ⟨g, 0, rfl, ?_⟩⟩
    obtain ⟨k1, k2⟩ := fcells_at (sureOf S.ps.con ns) us i hl hi
    rw [sureOf_len] at hi
    rw [← q6, List.getElem?_take, if_pos (by omega)] at k1 k2
    rw [cell_of_row _ _ _ _ _ _ q2, cell_of_row _ _ _ _ _ _ q2]
    exact ⟨by simpa using k1, by simpa using k2⟩

theorem SuSt.slice {w w1 : World} {d room i : Nat} {v : Value} {S : DS} {ns : List ByteArray} {us : List Value} (h : SuSt w w1 d room i v S ns us) : ∃ p c, v = .slice p ns.length c := by
  obtain ⟨_, p, c, e, _⟩ := h.files
  rw [sureOf_len] at e
  exact ⟨p, c, e⟩

end Go.Proofs.YtlandfghodfjdaaGreat

/- The law's still: what is sure behind a write. -/
import Derived.Test.YtlandfghodfjdaaGreatJ13C
namespace Go.Proofs.YtlandfghodfjdaaGreat
open Go.RowKit
set_option linter.unusedVariables false
set_option linter.unusedSimpArgs false

/-- A slice that may be cut, whose block is such a one. -/
def Gv (Q : Nat → Prop) (u : Value) : Prop := ∃ (p : Option Addr) (l c : Nat), u = .slice p l c ∧ l ≤ c ∧ (p = none → c = 0) ∧ ∀ k, (Value.slice p l c).ownBlock = some k → Q k

def nilV : Value := .slice none 0 0
theorem Gv.none {Q : Nat → Prop} : Gv Q nilV := ⟨_, 0, 0, rfl, Nat.le_refl _, fun _ => rfl, fun k e => by simp [Value.ownBlock] at e⟩
theorem isBy_nil (w : World) : IsBy w nilV [] := .inl (.inl ⟨rfl, rfl⟩)

/-- Rows of bytes that lie somewhere, may be cut, and whose blocks are such ones. -/
def RowsG (w : World) (Q : Nat → Prop) (vals : List Value) (fs : List (ByteArray × List Nat)) : Prop := ∀ i, i < fs.length → IsBy w (vals.getD i nilV) (fs.getD i (.empty, [])).2 ∧ Gv Q (vals.getD i nilV)

theorem RowsG.tail {w : World} {Q : Nat → Prop} {u : Value} {us : List Value} {x : ByteArray × List Nat} {fs : List (ByteArray × List Nat)} (h : RowsG w Q (u :: us) (x :: fs)) : RowsG w Q us fs := fun i hi => by
  have := h (i + 1) (by simpa using hi)
  simpa using this

theorem look_is {w : World} {Q : Nat → Prop} (n : ByteArray) : ∀ (fs : List (ByteArray × List Nat)) (us : List Value), us.length = fs.length → RowsG w Q us fs → IsBy w ((lookF fs us n).getD nilV) (lookB fs n) ∧ Gv Q ((lookF fs us n).getD nilV)
  | [], [], _, _ => ⟨isBy_nil w, Gv.none⟩
  | x :: fs, u :: us, hl, h => by
    by_cases e : x.1 = n
    · have h0 := h 0 (by simp)
      have e1 : lookF (x :: fs) (u :: us) n = some u := if_pos e
      have e2 : lookB (x :: fs) n = x.2 := by unfold lookB; simp [List.find?, e]
      rw [e1, e2]
      exact h0
    · have e1 : lookF (x :: fs) (u :: us) n = lookF fs us n := if_neg e
      have e2 : lookB (x :: fs) n = lookB fs n := by unfold lookB; simp [List.find?, e]
      rw [e1, e2]
      exact look_is n fs us (by simpa using hl) h.tail
  | [], _ :: _, h, _ => by simp at h
  | _ :: _, [], h, _ => by simp at h

/-- What still makes of files. -/
def stillL (dw : Int) (nm tt : ByteArray) (z : Int) (fs gs : List (ByteArray × List Nat)) : List (ByteArray × List Nat) := gs.map fun g => (g.1, stillB dw nm tt z (lookB fs) g.1 g.2)

theorem stillL_take (dw : Int) (nm tt : ByteArray) (z : Int) (fs gs : List (ByteArray × List Nat)) (i : Nat) (h : i < gs.length) : stillL dw nm tt z fs (gs.take (i + 1)) = stillL dw nm tt z fs (gs.take i) ++ [((gs.getD i (.empty, [])).1, stillB dw nm tt z (lookB fs) (gs.getD i (.empty, [])).1 (gs.getD i (.empty, [])).2)] := by
  unfold stillL
  rw [List.take_add_one, List.getElem?_eq_getElem h, List.map_append]
  simp [List.getD, List.getElem?_eq_getElem h]

theorem RowsG.more {w : World} {Q : Nat → Prop} {us : List Value} {fs : List (ByteArray × List Nat)} (h : RowsG w Q us fs) (hl : us.length = fs.length) {u : Value} {x : ByteArray × List Nat} (h1 : IsBy w u x.2) (h2 : Gv Q u) : RowsG w Q (us ++ [u]) (fs ++ [x]) := fun i hi => by
  rcases Nat.lt_or_ge i fs.length with hi' | hi'
  · have e1 : (us ++ [u]).getD i nilV = us.getD i nilV := by simp [List.getD, List.getElem?_append_left (show i < us.length by omega)]
    have e2 : (fs ++ [x]).getD i (.empty, []) = fs.getD i (.empty, []) := by simp [List.getD, List.getElem?_append_left hi']
    rw [e1, e2]; exact h i hi'
  · have hi2 : i = fs.length := by simp at hi; omega
    have e1 : (us ++ [u]).getD i nilV = u := by rw [hi2, ← hl]; simp [List.getD]
    have e2 : (fs ++ [x]).getD i (.empty, []) = x := by rw [hi2]; simp [List.getD]
    rw [e1, e2]; exact ⟨h1, h2⟩

/-- While still goes on. -/
structure StI (w wa wr : World) (Q : Nat → Prop) (v : Value) (i : Nat) (us : List Value) (L : List (ByteArray × List Nat)) : Prop where
  own : wr.ownsRow wa.heap.size 74 2 v i (fcells L us)
  len : us.length = i ∧ L.length = i
  row : RowsG w Q us L
  bel : Below wa.heap.size wa wr

theorem StI.next {w wa wr w5 w6 : World} {Q : Nat → Prop} {v v6 : Value} {i : Nat} {us : List Value} {L : List (ByteArray × List Nat)} (h : StI w wa wr Q v i us L) {X : Obj} {n : ByteArray} {b : Value} {bs : List Nat} (h5 : w5.heap = wr.heap ∧ w5.os = wr.os ∧ w5.tape = wr.tape ∧ w5.output = wr.output) (hb : IsBy w b bs) (hg : Gv Q b)
    (ho : w6.ownsRow wa.heap.size 74 2 v6 (i + 1) (fcells L us ++ [.string n, b])) (hgr : (w5.alloc X).grownBy w6 v.ownBlock) : StI w wa w6 Q v6 (i + 1) (us ++ [b]) (L ++ [(n, bs)]) := by
  refine ⟨by rw [fcells_more _ _ _ _ (h.len.1.trans h.len.2.symm)]; exact ho, by simp [h.len.1, h.len.2], h.row.more (h.len.1.trans h.len.2.symm) hb hg, ?_⟩
  have hs5 : w5.heap.size = wr.heap.size := by rw [h5.1]
  have hsz : wr.heap.size ≤ w6.heap.size := by have := hgr.size; simp at this; omega
  refine ⟨hgr.os.trans (h5.2.1.trans h.bel.os), hgr.tape.trans (h5.2.2.1.trans h.bel.tape), hgr.output.trans (h5.2.2.2.trans h.bel.output), Nat.le_trans h.bel.size hsz, fun k hk => ?_⟩
  have hk2 : k < wr.heap.size := Nat.lt_of_lt_of_le hk h.bel.size
  refine ((hgr.block k (by simp; omega) fun e => ?_).trans ((Below.heap_alloc _ _ _ (by omega)).trans ?_)).trans (h.bel.block k hk)
  · have := (h.own.lt k e.symm).1; omega
  · rw [h5.1]

theorem cut_by {w : World} {p : Option Addr} {l c : Nat} {bs : List Nat} (h : IsBy w (.slice p l c) bs) (hl : l = bs.length) (k : Nat) (hk : k ≤ l) : IsBy w (.slice p k c) (bs.take k) := isBy_pre h hl k hk

end Go.Proofs.YtlandfghodfjdaaGreat

/- Bytes of one's own that are appended to. -/
import Derived.Test.YtgcmdbpanfeaaabGreatDoorL1A
import Derived.Maps.AppendAt
import Derived.Deep.AppendLies
import Derived.Deep.RegionLaw
import Derived.Lib.AppendStr
namespace Go.Proofs.YtgcmdbpanfeaaabGreatDoor
open Go.RowKit
set_option linter.unusedVariables false
set_option linter.unusedSimpArgs false

set_option maxRecDepth 100000 in
theorem wp_app_lit {ops : Array Oper} {rest : List Oper} {o : Oper} {a : Act} {Q : Exit → Act → World → Prop} (hgd : o.guard = none) (sl x : Operand)
    (ho : o.op = .call { callee := .builtin .append, args := #[sl, x], argTypes := #[42, 42] }) (B : Nat) (w0 wr : World) (ys lit : List Nat) (v : Value) (n c : Nat) (vs : Array Value) (fz : Nat × Nat)
    (h : OB B w0 ys v wr) (hs : a.eval sl = v) (hx : a.eval x = .slice (some ⟨wr.heap.size, 0, none⟩) n c) (hvs : vs.toList = bytesV lit) (hn : lit.length = n) (hlen : ys.length + n ≤ 140737488355328)
    (k : ∀ v' w', OB B w0 (ys ++ lit) v' w' → wpList Tryz.prog ops Q rest (a.put o.dst v') w') : wpList Tryz.prog ops Q (o :: rest) a (wr.alloc (.cells vs 5 fz)) := by
  obtain ⟨i5, hi⟩ := info5
  have h' : OB B w0 ys v (wr.alloc (.cells vs 5 fz)) := h.below ((Below.refl _ _).alloc (Nat.le_refl _) _)
  refine wpList_append_own_at _ hgd sl x _ ho B 5 i5 (.int .u8 0) 1 1 Tryz.underlying42 hi.1 hi.2.1 hi.2.2.1 hi.2.2.2 rfl (by decide) v ys.length (bytesV ys) hs h'.own ⟨wr.heap.size, 0, none⟩ n c (bytesV lit) hx (by simp [hn]) ?_ (bytesV_cell lit) (by unfold maxLen; omega) (by omega) (Nat.le_trans h'.le h'.bel.size) ?_
  · intro j u hj
    rw [Addr.add_mid, Nat.zero_add, cell_of_row _ _ _ _ _ _ (heap_alloc_new wr (.cells vs 5 fz)), ← hj, ← hvs]
    simp
  · intro v' w' ho' hg _ _
    exact k v' w' (h'.more (by rw [hn]; exact ho') hg)

theorem OB.drew {B : Nat} {w0 wr : World} {ys : List Nat} {v : Value} (h : OB B w0 ys v wr) : OB B w0 ys v wr.drew :=
  h.below ((Below.refl _ _).drew)

set_option maxRecDepth 100000 in
theorem step_app_lit {ops : Array Oper} {o : Oper} {a : Act} {K : Act → World → Prop} {Q : Exit → Act → World → Prop} {E : Prop} (hgd : o.guard = none) (sl x : Operand)
    (ho : o.op = .call { callee := .builtin .append, args := #[sl, x], argTypes := #[42, 42] }) (B : Nat) (w0 wr : World) (ys lit : List Nat) (v : Value) (n c : Nat) (vs : Array Value) (fz : Nat × Nat)
    (h : OB B w0 ys v wr) (hs : a.eval sl = v) (hx : a.eval x = .slice (some ⟨wr.heap.size, 0, none⟩) n c) (hvs : vs.toList = bytesV lit) (hn : lit.length = n) (hn0 : 0 < n) (hlen : ys.length + n ≤ 140737488355328)
    (k : ∀ v' w', OB B w0 (ys ++ lit) v' w' → K (a.put o.dst v') w') : if Region.wanted o (yielded ops a.tmps) = true then Oper.wp Tryz.prog o a (wr.alloc (.cells vs 5 fz)) K Q else E := by
  obtain ⟨i5, hi⟩ := info5
  have h' : OB B w0 ys v (wr.alloc (.cells vs 5 fz)) := h.below ((Below.refl _ _).alloc (Nat.le_refl _) _)
  refine step_append_lies _ hgd sl x _ ho B 5 i5 (.int .u8 0) 1 1 Tryz.underlying42 hi.1 hi.2.1 hi.2.2.1 hi.2.2.2 rfl (by decide) v ys.length (bytesV ys) hs h'.own ⟨wr.heap.size, 0, none⟩ n c (bytesV lit) hx (by simp [hn]) ?_ (bytesV_cell lit) hn0 (by unfold maxLen; omega) (by omega) (Nat.le_trans h'.le h'.bel.size) _ rfl ?_
  · intro j u hj
    rw [Addr.add_mid, Nat.zero_add, cell_of_row _ _ _ _ _ _ (heap_alloc_new wr (.cells vs 5 fz)), ← hj, ← hvs]
    simp
  · intro g cap w' ho' hg _ _
    exact k _ w' (h'.more (by rw [hn]; exact ho') hg)

theorem strCells_eq (s : ByteArray) : Lib.strCells s = bytesV (bytesN s) := by
  unfold bytesV bytesN Lib.strCells
  rw [List.map_map]
  rfl

set_option maxRecDepth 100000 in
theorem wp_app_str {ops : Array Oper} {rest : List Oper} {o : Oper} {a : Act} {Q : Exit → Act → World → Prop} (hgd : o.guard = none) (sl x : Operand)
    (ho : o.op = .call { callee := .builtin .append, args := #[sl, x], argTypes := #[42, 9] }) (B : Nat) (w0 wr : World) (ys : List Nat) (v : Value) (s : ByteArray)
    (h : OB B w0 ys v wr) (hs : a.eval sl = v) (hx : a.eval x = .string s) (hlen : ys.length + s.size ≤ 140737488355328)
    (k : ∀ v' w', OB B w0 (ys ++ bytesN s) v' w' → wpList Tryz.prog ops Q rest (a.put o.dst v') w') : wpList Tryz.prog ops Q (o :: rest) a wr := by
  obtain ⟨i5, hi⟩ := info5
  refine Lib.wpList_append_own_string _ hgd sl x _ _ ho B 5 i5 Tryz.underlying42 Tryz.underlying9 hi.1 hi.2.1 hi.2.2.1 hi.2.2.2 v ys.length (bytesV ys) hs h.own s hx (by unfold maxLen; omega) hlen (Nat.le_trans h.le h.bel.size) ?_
  intro v' w' ho' hg _
  exact k v' w' (h.more (by rw [bytesN_length, ← strCells_eq]; exact ho') hg)

end Go.Proofs.YtgcmdbpanfeaaabGreatDoor

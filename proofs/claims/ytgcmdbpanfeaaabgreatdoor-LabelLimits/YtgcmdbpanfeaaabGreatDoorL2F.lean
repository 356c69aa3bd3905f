/- Labels of one's own; their sorting. -/
import Derived.Test.YtgcmdbpanfeaaabGreatDoorL2E
import Derived.Test.YtgcmdbpanfeaaabGreatDoorL0V
import Derived.Maps.AppendAt
namespace Go.Proofs.YtgcmdbpanfeaaabGreatDoor
open Go.RowKit
set_option linter.unusedVariables false
set_option linter.unusedSimpArgs false

def encL (x : Lab) : List Value := [.string x.1, .string x.2]
def labV (L : List Lab) : List Value := L.flatMap encL

@[simp] theorem labV_length (L : List Lab) : (labV L).length = L.length * 2 := by
  induction L with
  | nil => rfl
  | cons x r ih => simp [labV, encL] at ih ⊢; omega

theorem labV_app (a b : List Lab) : labV (a ++ b) = labV a ++ labV b := by simp [labV]

theorem labV_get (L : List Lab) : ∀ i, i < L.length → (labV L)[i * 2]? = some (.string (L.getD i lab0).1) ∧ (labV L)[i * 2 + 1]? = some (.string (L.getD i lab0).2) := by
  induction L with
  | nil => intro i h; simp at h
  | cons x r ih =>
    intro i h
    cases i with
    | zero => exact ⟨rfl, rfl⟩
    | succ i =>
      have := ih i (by simpa using h)
      have e1 : (i + 1) * 2 = i * 2 + 1 + 1 := by omega
      simpa [labV, encL, e1] using this

theorem infoL : ∃ i, Tryz.prog.info? 34 = some i ∧ i.zero = some (.agg #[.string ⟨#[]⟩, .string ⟨#[]⟩]) ∧ i.size = 2 ∧ i.bytes = 32 := by
  have hz : (Tryz.prog.info? 34).bind (·.zero) = some (.agg #[.string ⟨#[]⟩, .string ⟨#[]⟩]) := by kernel_rfl
  have hs : (Tryz.prog.info? 34).map (·.size) = some 2 := by kernel_rfl
  have hb : (Tryz.prog.info? 34).map (·.bytes) = some 32 := by kernel_rfl
  cases hi : Tryz.prog.info? 34 with
  | none => simp [hi] at hs
  | some i =>
    simp only [hi, Option.bind_some, Option.map_some, Option.some.injEq] at hz hs hb
    exact ⟨i, rfl, hz, hs, hb⟩

/-- Labels of one's own, from block B on. -/
structure OL (B : Nat) (w0 : World) (L : List Lab) (v : Value) (wr : World) : Prop where
  own : wr.ownsRow B 34 2 v L.length (labV L)
  bel : Below B w0 wr
  le : B ≤ w0.heap.size

theorem OL.nil (w : World) : OL w.heap.size w [] (.slice none 0 0) w := ⟨World.ownsRow_nil _ _ _ _, Below.refl _ _, Nat.le_refl _⟩

theorem OL.below {B : Nat} {w0 wr w2 : World} {L : List Lab} {v : Value} (h : OL B w0 L v wr) (hB : Below wr.heap.size wr w2) : OL B w0 L v w2 :=
  ⟨ownsRow_keep h.own fun g hg => hB.block g (h.own.lt g hg).2, h.bel.trans (hB.mono (Nat.le_trans h.le h.bel.size)), h.le⟩

theorem OL.slice {B : Nat} {w0 wr : World} {L : List Lab} {v : Value} (h : OL B w0 L v wr) : ∃ p cap, v = .slice p L.length cap ∧ LR wr p L := by
  rcases h.own.2 with ⟨h1, h2⟩ | ⟨g, cap, cur, h1, hb, hg, hc, hm, hs, ht⟩
  · exact ⟨none, 0, by rw [h1, h2], fun h0 => by omega⟩
  · refine ⟨_, cap, h1, fun h0 => ⟨g, 0, rfl, fun i hi => ?_⟩⟩
    have hg2 := labV_get L i hi
    rw [cell_of_row wr g _ cur _ (0, 0) hg, cell_of_row wr g _ cur _ (0, 0) hg, Nat.zero_add, ← hg2.1, ← hg2.2, ← ht, List.getElem?_take, List.getElem?_take, if_pos (by omega), if_pos (by omega)]
    simp

set_option maxRecDepth 100000 in
theorem wp_app_lab {ops : Array Oper} {rest : List Oper} {o : Oper} {a : Act} {Q : Exit → Act → World → Prop} (hgd : o.guard = none) (sl x : Operand)
    (ho : o.op = .call { callee := .builtin .append, args := #[sl, x], argTypes := #[22, 22] }) (B : Nat) (w0 wr : World) (L : List Lab) (l : Lab) (v : Value) (c : Nat) (fz : Nat × Nat)
    (h : OL B w0 L v wr) (hs : a.eval sl = v) (hx : a.eval x = .slice (some ⟨wr.heap.size, 0, none⟩) 1 c) (hlen : L.length + 1 ≤ 1000000000)
    (k : ∀ v' w', OL B w0 (L ++ [l]) v' w' → wpList Tryz.prog ops Q rest (a.put o.dst v') w') : wpList Tryz.prog ops Q (o :: rest) a (wr.alloc (.cells #[.string l.1, .string l.2] 34 fz)) := by
  obtain ⟨i, hi⟩ := infoL
  have h' : OL B w0 L v (wr.alloc (.cells #[.string l.1, .string l.2] 34 fz)) := h.below ((Below.refl _ _).alloc (Nat.le_refl _) _)
  refine wpList_append_own_at _ hgd sl x _ ho B 34 i (.agg #[.string ⟨#[]⟩, .string ⟨#[]⟩]) 2 32 Tryz.underlying22 hi.1 hi.2.1 hi.2.2.1 hi.2.2.2 rfl (by decide) v L.length (labV L) hs h'.own ⟨wr.heap.size, 0, none⟩ 1 c (encL l) hx rfl ?_ ?_ (by unfold maxLen; omega) (by omega) (Nat.le_trans h'.le h'.bel.size) ?_
  · intro j u hj
    rw [Addr.add_mid, Nat.zero_add, cell_of_row _ _ _ _ _ _ (heap_alloc_new wr (.cells #[.string l.1, .string l.2] 34 fz)), ← hj]
    simp [encL]
  · intro u hu
    simp [encL] at hu
    rcases hu with rfl | rfl <;> rfl
  · intro v' w' ho' hg _ _
    refine k v' w' ⟨?_, h'.bel.trans (grown_below hg (fun g hg => (h'.own.lt g hg).1) (Nat.le_trans h'.le h'.bel.size)), h'.le⟩
    rw [List.length_append, labV_app]
    have e : labV [l] = encL l := by simp [labV]
    rw [e]; exact ho'

end Go.Proofs.YtgcmdbpanfeaaabGreatDoor

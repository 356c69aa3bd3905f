/- slices.Grow of none, slices.Concat of rows of bytes, a record's Sum. -/
import Derived.Test.YtpjinakhgfpafaaDoorJ2B
import Derived.Lib.AppendZerosOnto
namespace Go.Proofs.YtpjinakhgfpafaaDoor
open Go.RowKit
open Go.Lib
set_option linter.unusedVariables false
set_option linter.unusedSimpArgs false

/-- The first k parts, one behind the other. -/
def catP (q : Nat → List Nat) : Nat → List Nat
  | 0 => []
  | k + 1 => catP q k ++ q k

theorem catP_le (q : Nat → List Nat) (k m : Nat) (h : k ≤ m) : (catP q k).length ≤ (catP q m).length := by
  induction m with
  | zero => rw [show k = 0 from by omega]; exact Nat.le_refl _
  | succ m ih =>
    by_cases e : k = m + 1
    · rw [e]; exact Nat.le_refl _
    · have := ih (by omega); rw [catP, List.length_append]; omega

/-- m parts in a row. -/
def PartsOf (w : World) (p : Option Addr) (m : Nat) (q : Nat → List Nat) : Prop := ∀ i, i < m → ∃ b o v, p = some ⟨b, o, none⟩ ∧ w.cell? ⟨b, o + i, none⟩ = some v ∧ IsBy w v (q i)

theorem PartsOf.below {w w' : World} {p : Option Addr} {m : Nat} {q : Nat → List Nat} (h : PartsOf w p m q) (hb : Below w.heap.size w w') : PartsOf w' p m q := fun i hi => by
  obtain ⟨b, o, v, h1, h2, h3⟩ := h i hi
  exact ⟨b, o, v, h1, by rw [hb.cell (p := ⟨b, o + i, none⟩) (World.block_lt_of_cell? _ _ h2)]; exact h2, isBy_below h3 hb⟩

/-- An append whose run is known. -/
theorem wpList_append_eq {P : Program} {w : World} {ops : Array Oper} {rest : List Oper} {o : Oper} {a : Act} {Q : Exit → Act → World → Prop} (hgd : o.guard = none) (s x : Operand) (t1 t2 : TypeId)
    (ho : o.op = .call { callee := .builtin .append, args := #[s, x], argTypes := #[t1, t2] }) (v1 v2 : Value) (hs : a.eval s = v1) (hx : a.eval x = v2) (v' : Value) (w' : World)
    (hr : ∀ ty, (Builtin.append_ #[t1, t2] ty #[v1, v2]).run P w = .ok v' w') (h : wpList P ops Q rest (a.put o.dst v') w') : wpList P ops Q (o :: rest) a w := by
  refine wpList_plain hgd fun K hK => ?_
  unfold Oper.wp execOp
  simp only [ho, resolve, invoke, builtin, Sem.run_bind, Sem.run_pure, Result.andThen_ok, List.map_toArray, List.map_cons, List.map_nil, hs, hx, hr]
  exact hK _ _ h

set_option maxRecDepth 100000 in
theorem grow_nil (w : World) (n : Nat) (hn : n ≤ 1000000000) : Calls Tryd.prog 70 #[.slice none 0 0, .int .i64 (n : Int)] w fun e w' => ∃ v, e = .returned v ∧ OB w.heap.size w [] v w' := by
  obtain ⟨i5, hi5⟩ := info5
  have hn0 : ¬ (n : Int) < 0 := by omega
  by_cases h0 : n = 0
  · subst h0
    go_enter Tryd.func70, Tryd.ntmps70
    go_wp2
    go_ret
    exact ⟨_, rfl, OB.nil w⟩
  · have hp : (0 : Int) < (n : Int) := by omega
    obtain ⟨w2, hw2⟩ : ∃ w2, w2 = w.drew.alloc (.cells (#[] ++ Builtin.zeroCells (Value.int .u8 0).cells n ++ Builtin.zeroCells (Value.int .u8 0).cells (grownCap w (0 + n) 0 5 - (0 + n))) 5) := ⟨_, rfl⟩
    obtain ⟨C, hC⟩ : ∃ C, grownCap w (0 + n) 0 5 = C := ⟨_, rfl⟩
    have hge : n ≤ C := by rw [← hC]; have := grownCap_ge w (0 + n) 0 5; omega
    have hcm : C ≤ maxLen := by rw [← hC]; exact grownCap_le_maxLen w (0 + n) 0 5 (by unfold maxLen; omega)
    have hrz : ∀ ty, (Builtin.append_ #[30, 3] ty #[.slice none 0 0, .int .i64 (n : Int)]).run Tryd.prog w = .ok (.slice (some ⟨w.heap.size, 0, none⟩) n C) w2 := fun ty => by
      have h := run_append_grow_zeros (P := Tryd.prog) w 30 3 ty 5 i5 (.int .u8 0) .i64 .i64 Tryd.underlying30 Tryd.underlying3 hi5.1 hi5.2.1 none 0 0 [] (run_firstCells_none w.drew i5.size 0 0 0) n (by omega) (by rw [hi5.2.2.1]; decide) (by omega) (by omega) (by rw [hi5.2.2.2]; omega) (by
        have := growslice_fits (need := 0 + n) (old := 0) (bytes := i5.bytes) (by omega) (by rw [hi5.2.2.2]; omega)
        exact this)
      rw [hC, Nat.zero_add] at h
      rw [hw2, hC, Nat.zero_add]
      exact h
    have HF : Hid (OB w.heap.size w [] (.slice (some ⟨w.heap.size, 0, none⟩) 0 C) w2) := by
      refine ⟨⟨rfl, .inr ⟨w.heap.size, C, _, rfl, Nat.le_refl _, by rw [hw2]; exact heap_alloc_new w.drew _, Nat.zero_le _, hcm, ?_, rfl⟩⟩, ?_, Nat.le_refl _⟩
      · rw [hC]
        simp [Builtin.zeroCells, Value.cells]
        omega
      · rw [hw2]; exact ⟨rfl, rfl, rfl, by simp, fun k hk => heap_alloc_old w.drew _ hk⟩
    clear hw2 hC
    have hCi : (0 : Int) ≤ (C : Int) := by omega
    go_enter Tryd.func70, Tryd.ntmps70
    go_wp2_with (at_builtin; refine wpList_append_eq rfl _ _ _ _ rfl (.slice none 0 0) (.int .i64 (n : Int)) rfl rfl _ w2 hrz ?_)
    go_ret
    exact ⟨_, rfl, HF.out⟩

end Go.Proofs.YtpjinakhgfpafaaDoor

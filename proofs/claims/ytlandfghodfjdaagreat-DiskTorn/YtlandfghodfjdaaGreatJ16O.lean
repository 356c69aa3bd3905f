/- What comes in: a Torn. -/
import Derived.Test.YtlandfghodfjdaaGreatJ14A
namespace Go.Proofs.YtlandfghodfjdaaGreat
open Go.ChangeShapes Go.WideShapes Go.Deep Go.Joins
open Go.RowKit (Below)
set_option linter.unusedVariables false
set_option linter.unusedSimpArgs false

theorem list6' {α : Type} {l : List α} (h : l.length = 6) : ∃ a b c d e f, l = [a, b, c, d, e, f] := by
  match l, h with
  | [a, b, c, d, e, f], _ => exact ⟨a, b, c, d, e, f, rfl⟩

theorem array6' {α : Type} {cs : Array α} (h : cs.size = 6) : ∃ a b c d e f, cs = #[a, b, c, d, e, f] := by
  obtain ⟨l⟩ := cs
  obtain ⟨a, b, c, d, e, f, rfl⟩ := list6' (l := l) (by simpa using h)
  exact ⟨a, b, c, d, e, f, rfl⟩

section
variable {H : Type} {enc : TypeId × Value → H} {P : Program} {w : World} {base : Nat} {spare : Nat → Bool} {held : Bool}

/-- A struct of six cells, by value, opened. -/
theorem open_agg6 {r : Reach} {b0 : Nat} {t : TypeId} {f0 f1 f2 f3 f4 f5 : Field} {v : Value} {d : DataW H} {p : List MemPlace} (hs : P.underlying t = some (.struct #[f0, f1, f2, f3, f4, f5]))
    (o : f0.offset = 0 ∧ f1.offset = 1 ∧ f2.offset = 2 ∧ f3.offset = 3 ∧ f4.offset = 4 ∧ f5.offset = 5) (k : P.cellsOf f0.type = 1 ∧ P.cellsOf f1.type = 1 ∧ P.cellsOf f2.type = 1 ∧ P.cellsOf f3.type = 1 ∧ P.cellsOf f4.type = 1 ∧ P.cellsOf f5.type = 1) (hC : P.cellsOf t = 6)
    (hv : Value.okWide P w r b0 t v) (h : DataW.Trod enc P w base spare held t v d p) :
    ∃ (v0 v1 v2 v3 v4 v5 : Value) (y0 y1 y2 y3 y4 y5 : DataW H × List MemPlace) (n : Nat), v = .agg #[v0, v1, v2, v3, v4, v5] ∧ d = .agg [y0.1, y1.1, y2.1, y3.1, y4.1, y5.1] ∧
      DataW.trod enc P w base spare held n f0.type [v0] = some y0 ∧ DataW.trod enc P w base spare held n f1.type [v1] = some y1 ∧ DataW.trod enc P w base spare held n f2.type [v2] = some y2 ∧
      DataW.trod enc P w base spare held n f3.type [v3] = some y3 ∧ DataW.trod enc P w base spare held n f4.type [v4] = some y4 ∧ DataW.trod enc P w base spare held n f5.type [v5] = some y5 := by
  obtain ⟨o0, o1, o2, o3, o4, o5⟩ := o
  obtain ⟨k0, k1, k2, k3, k4, k5⟩ := k
  obtain ⟨cs, rfl, hsz⟩ := okWide_struct hs hv
  obtain ⟨c0, c1, c2, c3, c4, c5, rfl⟩ := array6' (hsz.trans hC)
  obtain ⟨fuel, hf⟩ := h
  obtain ⟨xs, n, _, hx, hl, hlen, hff⟩ := DataW.trod_struct hs hf
  obtain ⟨y0, y1, y2, y3, y4, y5, rfl⟩ := list6' (l := xs) hlen
  have g0 := hff 0 f0 rfl
  have g1 := hff 1 f1 rfl
  have g2 := hff 2 f2 rfl
  have g3 := hff 3 f3 rfl
  have g4 := hff 4 f4 rfl
  have g5 := hff 5 f5 rfl
  simp only [Prod.mk.injEq] at hx
  exact ⟨c0, c1, c2, c3, c4, c5, y0, y1, y2, y3, y4, y5, n, rfl, hx.1, by simpa [Value.cells, o0, k0] using g0, by simpa [Value.cells, o1, k1] using g1, by simpa [Value.cells, o2, k2] using g2, by simpa [Value.cells, o3, k3] using g3, by simpa [Value.cells, o4, k4] using g4, by simpa [Value.cells, o5, k5] using g5⟩
end

section
variable {H : Type} {enc : TypeId × Value → H} {w : World} {base : Nat} {spare : Nat → Bool} {held : Bool}
set_option maxRecDepth 100000 in
theorem open_torn {r : Reach} {b0 : Nat} {v : Value} {d : DataW H} {p : List MemPlace} (hv : Value.okWide Tryz.prog w r b0 51 v) (h : DataW.Trod enc Tryz.prog w base spare held 51 v d p) (hz : Sz 51 d) :
    ∃ rm pL nL cL nn keep lose pM nM cM, v = .agg #[.int .i64 rm, .slice pL nL cL, .int .i64 nn, .int .i64 keep, .int .i64 lose, .slice pM nM cM] ∧ (-9223372036854775808 ≤ rm ∧ rm ≤ 9223372036854775807) ∧ (-9223372036854775808 ≤ nn ∧ nn ≤ 9223372036854775807) ∧ (-9223372036854775808 ≤ keep ∧ keep ≤ 9223372036854775807) ∧ (-9223372036854775808 ≤ lose ∧ lose ≤ 9223372036854775807) ∧
      (nL ≤ 140737488355328 ∧ OpsIn w pL nL) ∧ (nM ≤ 140737488355328 ∧ OpsIn w pM nM) := by
  obtain ⟨v0, v1, v2, v3, v4, v5, y0, y1, y2, y3, y4, y5, n, rfl, hd, h0, h1, h2, h3, h4, h5⟩ := open_agg6 Tryz.underlying51 ⟨rfl, rfl, rfl, rfl, rfl, rfl⟩ ⟨by kernel_rfl, by kernel_rfl, by kernel_rfl, by kernel_rfl, by kernel_rfl, by kernel_rfl⟩ (by kernel_rfl) hv h
  subst hd
  obtain ⟨r0, rfl, q0⟩ := open_i64 h0
  obtain ⟨r2, rfl, q2⟩ := open_i64 h2
  obtain ⟨r3, rfl, q3⟩ := open_i64 h3
  obtain ⟨r4, rfl, q4⟩ := open_i64 h4
  have s1 : Sz 23 y1.1 := fun n hn => hz n (by
    simp only [DataW.weights, Tryz.underlying51]
    exact DataW.weights_mem_each (j := 1) rfl rfl n hn)
  have s5 : Sz 23 y5.1 := fun n hn => hz n (by
    simp only [DataW.weights, Tryz.underlying51]
    exact DataW.weights_mem_each (j := 5) rfl rfl n hn)
  obtain ⟨pL, nL, cL, rfl, a1, a2⟩ := open_ops h1 s1
  obtain ⟨pM, nM, cM, rfl, b1, b2⟩ := open_ops h5 s5
  exact ⟨r0, pL, nL, cL, r2, r3, r4, pM, nM, cM, rfl, q0, q2, q3, q4, ⟨a1, a2⟩, ⟨b1, b2⟩⟩
end

end Go.Proofs.YtlandfghodfjdaaGreat

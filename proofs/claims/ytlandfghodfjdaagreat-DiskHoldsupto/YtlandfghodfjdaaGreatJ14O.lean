/- What comes in: a Script. -/
import Derived.Test.YtlandfghodfjdaaGreatJ14A
namespace Go.Proofs.YtlandfghodfjdaaGreat
open Go.ChangeShapes Go.WideShapes Go.Deep Go.Joins
open Go.RowKit (Below)
set_option linter.unusedVariables false
set_option linter.unusedSimpArgs false

theorem array3' {α : Type} {cs : Array α} (h : cs.size = 3) : ∃ c0 c1 c2, cs = #[c0, c1, c2] := by
  obtain ⟨l⟩ := cs
  match l, h with
  | [c0, c1, c2], _ => exact ⟨c0, c1, c2, rfl⟩

section
variable {H : Type} {enc : TypeId × Value → H} {P : Program} {w : World} {base : Nat} {spare : Nat → Bool} {held : Bool}

theorem two_ints {t e : TypeId} (ht : P.underlying t = some (.array 2 e)) (he : P.cellsOf e = 1) {m : Nat} {v0 v1 : Value} {y : DataW H × List MemPlace} (h : DataW.trod enc P w base spare held m t [v0, v1] = some y) :
    ∃ n y0 y1, DataW.trod enc P w base spare held n e [v0] = some y0 ∧ DataW.trod enc P w base spare held n e [v1] = some y1 := by
  obtain ⟨xs, n, _, _, _, hlen, hel⟩ := DataW.trod_array ht h
  obtain ⟨y0, y1, rfl⟩ := list2' hlen
  have h0 := hel 0 (by decide)
  have h1 := hel 1 (by decide)
  rw [he] at h0 h1
  exact ⟨n, y0, y1, by simpa using h0, by simpa using h1⟩

/-- A struct of an array of two and a cell, by value, opened. -/
theorem open_agg21 {r : Reach} {b0 : Nat} {t : TypeId} {f0 f1 : Field} {v : Value} {d : DataW H} {p : List MemPlace} (hs : P.underlying t = some (.struct #[f0, f1])) (o0 : f0.offset = 0) (k0 : P.cellsOf f0.type = 2) (o1 : f1.offset = 2) (k1 : P.cellsOf f1.type = 1) (hC : P.cellsOf t = 3)
    (hv : Value.okWide P w r b0 t v) (h : DataW.Trod enc P w base spare held t v d p) :
    ∃ (v0 v1 v2 : Value) (y0 y1 : DataW H × List MemPlace) (n : Nat), v = .agg #[v0, v1, v2] ∧ d = .agg [y0.1, y1.1] ∧ DataW.trod enc P w base spare held n f0.type [v0, v1] = some y0 ∧ DataW.trod enc P w base spare held n f1.type [v2] = some y1 := by
  obtain ⟨cs, rfl, hsz⟩ := okWide_struct hs hv
  obtain ⟨c0, c1, c2, rfl⟩ := array3' (hsz.trans hC)
  obtain ⟨fuel, hf⟩ := h
  obtain ⟨xs, n, _, hx, hl, hlen, hff⟩ := DataW.trod_struct hs hf
  obtain ⟨y0, y1, rfl⟩ := list2' (l := xs) hlen
  have g0 := hff 0 f0 rfl
  have g1 := hff 1 f1 rfl
  simp only [Prod.mk.injEq] at hx
  exact ⟨c0, c1, c2, y0, y1, n, rfl, hx.1, by simpa [Value.cells, o0, k0] using g0, by simpa [Value.cells, o1, k1] using g1⟩
end

section
variable {H : Type} {enc : TypeId × Value → H} {w : World} {base : Nat} {spare : Nat → Bool} {held : Bool}
set_option maxRecDepth 100000 in
theorem open_script {r : Reach} {b0 : Nat} {v : Value} {d : DataW H} {p : List MemPlace} (hv : Value.okWide Tryz.prog w r b0 25 v) (h : DataW.Trod enc Tryz.prog w base spare held 25 v d p) (hz : Sz 25 d) :
    ∃ r0 r1 pL nL cL, v = .agg #[.int .i64 r0, .int .i64 r1, .slice pL nL cL] ∧ (-9223372036854775808 ≤ r0 ∧ r0 ≤ 9223372036854775807) ∧ (-9223372036854775808 ≤ r1 ∧ r1 ≤ 9223372036854775807) ∧ nL ≤ 140737488355328 ∧ OpsIn w pL nL := by
  obtain ⟨v0, v1, v2, y0, y1, n, rfl, hd, h0, h1⟩ := open_agg21 Tryz.underlying25 rfl (by kernel_rfl) rfl (by kernel_rfl) (by kernel_rfl) hv h
  subst hd
  obtain ⟨n', z0, z1, g0, g1⟩ := two_ints (t := 22) (e := 3) Tryz.underlying22 (by kernel_rfl) h0
  obtain ⟨r0, rfl, q0⟩ := open_i64 g0
  obtain ⟨r1, rfl, q1⟩ := open_i64 g1
  have s1 : Sz 23 y1.1 := fun n hn => hz n (by
    simp only [DataW.weights, Tryz.underlying25]
    exact DataW.weights_mem_each (j := 1) rfl rfl n hn)
  obtain ⟨pL, nL, cL, rfl, a1, a2⟩ := open_ops h1 s1
  exact ⟨r0, r1, pL, nL, cL, rfl, q0, q1, a1, a2⟩
end

end Go.Proofs.YtlandfghodfjdaaGreat

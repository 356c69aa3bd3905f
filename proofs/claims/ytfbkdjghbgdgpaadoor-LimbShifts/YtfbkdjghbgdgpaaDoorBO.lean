/- What comes in at a card: the library's table; a Nats with its ints. -/
import Derived.Test.YtfbkdjghbgdgpaaDoorV
import Derived.Test.YtfbkdjghbgdgpaaDoorBN
import Derived.Test.YtfbkdjghbgdgpaaDoorRows
import Derived.LaidMore
import Derived.Lay
namespace Go.Proofs.YtfbkdjghbgdgpaaDoor
open Go.ChangeShapes Go.WideShapes Go.Deep Go.Joins
open M
set_option linter.unusedVariables false
set_option linter.unusedSimpArgs false

def laidTab : List (String × DataW Unit) := [("math/bits.deBruijn32tab", Rows.laid_math_bits_deBruijn32tab)]

theorem gTab : Tryd.prog.globalNamed "math/bits.deBruijn32tab" = some 0 := by kernel_rfl
theorem tTab : (Tryd.prog.globals[0]?).map (·.type) = some 105 := by kernel_rfl
theorem cells8 : Tryd.prog.cellsOf 5 = 1 := by kernel_rfl

theorem tab_list {H : Type} : (Rows.laid_math_bits_deBruijn32tab : DataW H) = .agg (Lib.deBruijn32tab.map fun n : Nat => .lit (.int .u8 (n : Int))) := rfl

theorem tab_of_laid {W : World} (h : laidMetH Tryd.prog laidTab W) : Tab W := by
  rw [MakeChecks.laidMetH_plain _ _ _ (by kernel_rfl)] at h
  obtain ⟨ps, ⟨g, t, cs, fuel, p, q, hg, ht, hv, hd, _, _⟩, _, _⟩ := h
  obtain rfl := Option.some.inj (gTab.symm.trans hg)
  obtain rfl := Option.some.inj (tTab.symm.trans ht)
  obtain ⟨xs, m, _, ex, hlen, hl, hel⟩ := DataW.trod_array Tryd.underlying105 hd
  rw [tab_list] at ex
  have ex2 := DataW.agg.inj (Prod.mk.inj ex).1
  intro j hj
  rw [World.var?_cell gTab hv j]
  have hjx : j < xs.length := by omega
  have k := hel j hj
  rw [cells8, Nat.mul_one, List.getElem?_eq_getElem hjx] at k
  obtain ⟨z, a, b, _⟩ := DataW.trod_int Tryd.underlying5 k
  have hz : (Lib.deBruijn32tab.map fun n : Nat => (.lit (.int .u8 (n : Int)) : DataW Unit))[j]? = some (.lit (.int .u8 z)) := by
    rw [ex2, List.getElem?_map, List.getElem?_eq_getElem hjx, Option.map_some, b]
  have hjt : j < Lib.deBruijn32tab.length := hj
  rw [List.getElem?_map, List.getElem?_eq_getElem hjt, Option.map_some] at hz
  simp only [Option.some.injEq, DataW.lit.injEq, Lit.int.injEq, true_and] at hz
  have hc : cs.toList[j]? = some (.int .u8 z) := by
    have := congrArg (·[0]?) a
    simpa [List.getElem?_take, List.getElem?_drop] using this
  have hg2 : Lib.deBruijn32tab.getD j 0 = Lib.deBruijn32tab[j] := by simp [List.getD, List.getElem?_eq_getElem hjt]
  rw [hg2, hz, ← hc]
  simp

section
variable {H : Type} {enc : TypeId × Value → H} {w : World} {base : Nat} {spare : Nat → Bool} {held : Bool}

theorem cellsI : Tryd.prog.cellsOf 3 = 1 := by kernel_rfl

theorem open_ints {n : Nat} {v : Value} {y : DataW H × List MemPlace} (h : DataW.trod enc Tryd.prog w base spare held n 44 [v] = some y) : ∃ a len cap, v = .slice a len cap ∧ IsInts w a len := by
  rcases open_slice Tryd.underlying44 h with ⟨h0, _⟩ | ⟨ad, len, cap, mm, n', D, Pl, hcs, _, hlc, hcm, hmm, _, hx⟩
  · simp only [List.cons.injEq, and_true] at h0
    exact ⟨none, 0, 0, h0, by omega, fun h => by omega⟩
  · simp only [List.cons.injEq, and_true] at hcs
    unfold maxLen at hcm
    refine ⟨some ad, len, cap, hcs, by omega, fun h0 => ?_⟩
    have hlm : len ≤ mm := by rw [hmm]; split <;> omega
    have one : ∀ i, i < len → ∃ x : Int, w.cell? (ad.add i) = some (.int .i64 x) ∧ -9223372036854775808 ≤ x ∧ x < 9223372036854775808 := by
      intro i hi
      obtain ⟨cs', hc, ht⟩ := hx i (by omega)
      rw [cellsI, Nat.mul_one] at hc
      obtain ⟨u, rfl, hcell⟩ := cells_one hc
      obtain ⟨z, e0, _, w0⟩ := DataW.trod_int Tryd.underlying3 ht
      simp only [List.cons.injEq, and_true] at e0
      have b : -9223372036854775808 ≤ z ∧ z ≤ 9223372036854775807 := by simpa [Lit.wf, IntKind.min, IntKind.max, IntKind.signed, IntKind.bits] using w0
      exact ⟨z, by rw [hcell, e0], b.1, by omega⟩
    obtain ⟨b, off, spot⟩ := ad
    obtain ⟨u0, h00, _⟩ := one 0 h0
    have hspot : spot = none := by simpa [Addr.add] using World.cell?_spot h00
    subst hspot
    refine ⟨b, off, rfl, ?_, fun j hj => ?_⟩
    · have := block_lt_of_cell h00
      simpa [Addr.add] using this
    · obtain ⟨u, hu, hr⟩ := one j hj
      rw [Addr.add_mid] at hu
      exact ⟨u, hu, hr⟩

set_option maxRecDepth 100000 in
theorem open_nats2 {r : Reach} {b0 : Nat} {v : Value} {d : DataW H} {p : List MemPlace} (hv : Value.okWide Tryd.prog w r b0 46 v) (h : DataW.Trod enc Tryd.prog w base spare held 46 v d p) :
    ∃ aL nL cL aN nN cN, v = .agg #[.slice aL nL cL, .slice aN nN cN] ∧ IsRows w aL nL ∧ IsInts w aN nN := by
  obtain ⟨v0, v1, y0, y1, n, rfl, _, _, h0, h1⟩ := open_agg2 Tryd.underlying46 (by kernel_rfl) cellsNats hv h
  obtain ⟨aL, nL, cL, rfl, hr⟩ := open_rows h0
  obtain ⟨aN, nN, cN, rfl, hi⟩ := open_ints h1
  exact ⟨aL, nL, cL, aN, nN, cN, rfl, hr, hi⟩
end
end Go.Proofs.YtfbkdjghbgdgpaaDoor

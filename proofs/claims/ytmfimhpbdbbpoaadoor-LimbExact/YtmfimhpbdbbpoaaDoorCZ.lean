/- What comes in at LimbExact: the library's table; a slice of Calcs. -/
import Derived.Test.YtmfimhpbdbbpoaaDoorVE
import Derived.Test.YtmfimhpbdbbpoaaDoorCY
import Derived.Test.YtmfimhpbdbbpoaaDoorRows
import Derived.LaidMore
import Derived.Lay
import Derived.Deep.Strs
namespace Go.Proofs.YtmfimhpbdbbpoaaDoor
open Go.ChangeShapes Go.WideShapes Go.Deep Go.Joins
open M
set_option linter.unusedVariables false
set_option linter.unusedSimpArgs false

def laidTab : List (String × DataW Unit) := [("math/bits.deBruijn32tab", Rows.laid_math_bits_deBruijn32tab)]

theorem gTab : Tryd.prog.globalNamed "math/bits.deBruijn32tab" = some 0 := by kernel_rfl
theorem tTab : (Tryd.prog.globals[0]?).map (·.type) = some 97 := by kernel_rfl
theorem cells8 : Tryd.prog.cellsOf 5 = 1 := by kernel_rfl

theorem tab_list {H : Type} : (Rows.laid_math_bits_deBruijn32tab : DataW H) = .agg (Lib.deBruijn32tab.map fun n : Nat => .lit (.int .u8 (n : Int))) := rfl

theorem tab_of_laid {W : World} (h : laidMetH Tryd.prog laidTab W) : Tab W := by
  rw [MakeChecks.laidMetH_plain _ _ _ (by kernel_rfl)] at h
  obtain ⟨ps, ⟨g, t, cs, fuel, p, q, hg, ht, hv, hd, _, _⟩, _, _⟩ := h
  obtain rfl := Option.some.inj (gTab.symm.trans hg)
  obtain rfl := Option.some.inj (tTab.symm.trans ht)
  obtain ⟨xs, m, _, ex, hlen, hl, hel⟩ := DataW.trod_array Tryd.underlying97 hd
  rw [tab_list] at ex
  have ex2 := DataW.agg.inj (Prod.mk.inj ex).1
  intro j hj
  rw [World.var?_cell gTab hv j]
  have hjx : j < xs.length := by omega
  have k := hel j hj
  rw [cells8, Nat.mul_one, List.getElem?_eq_getElem hjx] at k
  obtain ⟨z, a, b, _⟩ := DataW.trod_int Tryd.underlying5 k
  have hz : (Lib.deBruijn32tab.map fun n : Nat => (.lit (.int .u8 (n : Int)) : DataW Unit))[j]? = some (.lit (.int .u8 z)) := by
    rw [ex2, List.getElem?_map, List.getElem?_eq_getElem hjx, Option.map_some, b]
  have hjt : j < Lib.deBruijn32tab.length := hj
  rw [List.getElem?_map, List.getElem?_eq_getElem hjt, Option.map_some] at hz
  simp only [Option.some.injEq, DataW.lit.injEq, Lit.int.injEq, true_and] at hz
  have hc : cs.toList[j]? = some (.int .u8 z) := by
    have := congrArg (·[0]?) a
    simpa [List.getElem?_take, List.getElem?_drop] using this
  have hg2 : Lib.deBruijn32tab.getD j 0 = Lib.deBruijn32tab[j] := by simp [List.getD, List.getElem?_eq_getElem hjt]
  rw [hg2, hz, ← hc]
  simp

theorem cellsCalc : Tryd.prog.cellsOf 27 = 5 := by kernel_rfl

theorem list5 {α : Type} {l : List α} (h : l.length = 5) : ∃ a b c d e, l = [a, b, c, d, e] := by
  match l, h with
  | [a, b, c, d, e], _ => exact ⟨a, b, c, d, e, rfl⟩

section
variable {H : Type} {enc : TypeId × Value → H} {w : World} {base : Nat} {spare : Nat → Bool} {held : Bool}

theorem open_row0 {n : Nat} {v : Value} {y : DataW H × List MemPlace} (h : DataW.trod enc Tryd.prog w base spare held n 23 [v] = some y) : ∃ k N, RowL w v k N ∧ Nil0 v := by
  rcases open_slice Tryd.underlying23 h with ⟨h0, _⟩ | ⟨ad, len, cap, mm, n', D, Pl, hcs, _, hlc, hcm, hmm, _, hx⟩
  · simp only [List.cons.injEq, and_true] at h0
    subst h0
    exact ⟨0, 0, ⟨by simp, by omega, none, 0, rfl, Nat.le_refl _, fun h => by omega⟩, fun k cap e => by simp only [Value.slice.injEq, true_and] at e; omega⟩
  · simp only [List.cons.injEq, and_true] at hcs
    subst hcs
    unfold maxLen at hcm
    have hlm : len ≤ mm := by rw [hmm]; split <;> omega
    have one : ∀ i, i < len → ∃ q : Nat, w.cell? (ad.add i) = some (.int .u32 (q : Int)) ∧ q < 4294967296 := by
      intro i hi
      obtain ⟨cs', hc, ht⟩ := hx i (by omega)
      rw [cellsU32, Nat.mul_one] at hc
      obtain ⟨u, rfl, hcell⟩ := cells_one hc
      obtain ⟨z, e0, _, w0⟩ := DataW.trod_int Tryd.underlying24 ht
      simp only [List.cons.injEq, and_true] at e0
      have b := bounds_u32 w0
      exact ⟨z.toNat, by rw [hcell, e0, Int.toNat_of_nonneg b.1], by omega⟩
    obtain ⟨q, hq⟩ := choose_lt one
    obtain ⟨N, hN, hd⟩ := of_limbs q len (fun j hj => (hq j hj).2)
    refine ⟨len, N, ⟨hN, by omega, some ad, cap, rfl, hlc, fun h0 => ?_⟩, fun k cap e => by simp at e⟩
    obtain ⟨b, off, spot⟩ := ad
    have h00 := (hq 0 h0).1
    have hspot : spot = none := by simpa [Addr.add] using World.cell?_spot h00
    subst hspot
    refine ⟨b, off, rfl, ?_, fun j hj => ?_⟩
    · have := block_lt_of_cell h00
      simpa [Addr.add] using this
    · have := (hq j hj).1
      rw [Addr.add_mid] at this
      rw [this, hd j hj]

theorem calc_cells {n : Nat} {cs : List Value} {y : DataW H × List MemPlace} (h : DataW.trod enc Tryd.prog w base spare held n 27 cs = some y) :
    ∃ (x y : Value) (k A m C : Nat) (N : Int) (b d : Nat), cs = [x, y, .int .i64 N, .int .u32 (b : Int), .int .u64 (d : Int)] ∧
    (RowL w x k A ∧ Nil0 x) ∧ (RowL w y m C ∧ Nil0 y) ∧ (-9223372036854775808 ≤ N ∧ N ≤ 9223372036854775807) ∧ b < 4294967296 ∧ d < 18446744073709551616 := by
  obtain ⟨xs, k, _, hx, hl, hlen, hff⟩ := DataW.trod_struct Tryd.underlying27 h
  have c3 : Tryd.prog.cellsOf 3 = 1 := by kernel_rfl
  have c64 : Tryd.prog.cellsOf 25 = 1 := by kernel_rfl
  rw [cellsCalc] at hl
  obtain ⟨v0, v1, v2, v3, v4, rfl⟩ := list5 hl
  obtain ⟨y0, y1, y2, y3, y4, rfl⟩ := list5 (l := xs) hlen
  have h0 : DataW.trod enc Tryd.prog w base spare held k 23 [v0] = some y0 := by simpa [cellsU32s] using hff 0 _ rfl
  have h1 : DataW.trod enc Tryd.prog w base spare held k 23 [v1] = some y1 := by simpa [cellsU32s] using hff 1 _ rfl
  have h2 : DataW.trod enc Tryd.prog w base spare held k 3 [v2] = some y2 := by simpa [c3] using hff 2 _ rfl
  have h3 : DataW.trod enc Tryd.prog w base spare held k 24 [v3] = some y3 := by simpa [cellsU32] using hff 3 _ rfl
  have h4 : DataW.trod enc Tryd.prog w base spare held k 25 [v4] = some y4 := by simpa [c64] using hff 4 _ rfl
  obtain ⟨k0, A, ha, na⟩ := open_row0 h0
  obtain ⟨k1, C, hb, nb⟩ := open_row0 h1
  obtain ⟨o, e2, _, w2⟩ := DataW.trod_int Tryd.underlying3 h2
  obtain ⟨q, e3, _, w3⟩ := DataW.trod_int Tryd.underlying24 h3
  obtain ⟨p, e4, _, w4⟩ := DataW.trod_int Tryd.underlying25 h4
  have b2 := bounds_i64 w2
  have b3 := bounds_u32 w3
  have b4 : 0 ≤ p ∧ p ≤ 18446744073709551615 := by simpa [Lit.wf, IntKind.min, IntKind.max, IntKind.signed, IntKind.bits] using w4
  simp only [List.cons.injEq, and_true] at e2 e3 e4
  subst e2 e3 e4
  refine ⟨v0, v1, k0, A, k1, C, o, q.toNat, p.toNat, ?_, ⟨ha, na⟩, ⟨hb, nb⟩, by omega, by omega, by omega⟩
  rw [Int.toNat_of_nonneg b3.1, Int.toNat_of_nonneg b4.1]

set_option maxRecDepth 100000 in
theorem open_calcs {fuel : Nat} {v : Value} {y : DataW H × List MemPlace} (h : DataW.trod enc Tryd.prog w base spare held fuel 22 [v] = some y) : ∃ a len cap, v = .slice a len cap ∧ IsCalcs w a len := by
  rcases open_slice Tryd.underlying22 h with ⟨h0, _⟩ | ⟨ad, len, cap, mm, n', D, Pl, hcs, _, hlc, hcm, hmm, _, hx⟩
  · simp only [List.cons.injEq, and_true] at h0
    exact ⟨none, 0, 0, h0, by omega, fun h => by omega⟩
  · simp only [List.cons.injEq, and_true] at hcs
    unfold maxLen at hcm
    refine ⟨some ad, len, cap, hcs, by omega, fun h0 => ?_⟩
    have hlm : len ≤ mm := by rw [hmm]; split <;> omega
    have one : ∀ i, i < len → ∃ (x y : Value) (k A m C : Nat) (N : Int) (b d : Nat), (w.cell? ((ad.add (i * 5)).add 0) = some x ∧ w.cell? ((ad.add (i * 5)).add 1) = some y ∧ w.cell? ((ad.add (i * 5)).add 2) = some (.int .i64 N) ∧ w.cell? ((ad.add (i * 5)).add 3) = some (.int .u32 (b : Int)) ∧ w.cell? ((ad.add (i * 5)).add 4) = some (.int .u64 (d : Int))) ∧
        (RowL w x k A ∧ Nil0 x) ∧ (RowL w y m C ∧ Nil0 y) ∧ (-9223372036854775808 ≤ N ∧ N ≤ 9223372036854775807) ∧ b < 4294967296 ∧ d < 18446744073709551616 := by
      intro i hi
      obtain ⟨cs', hc, ht⟩ := hx i (by omega)
      obtain ⟨x, y, k, A, m, C, N, b, d, rfl, hb⟩ := calc_cells ht
      rw [cellsCalc] at hc
      refine ⟨x, y, k, A, m, C, N, b, d, ?_, hb⟩
      unfold World.cells? at hc
      split at hc
      · have e : List.range 5 = [0, 1, 2, 3, 4] := rfl
        rw [e] at hc
        simp only [List.mapM_cons, List.mapM_nil, Option.bind_eq_bind, Option.bind_eq_some_iff, Option.pure_def, Option.some.injEq, List.cons.injEq, exists_eq_left'] at hc
        obtain ⟨a0, h0, l0, ⟨a1, h1, l1, ⟨a2, h2, l2, ⟨a3, h3, l3, ⟨a4, h4, l4, hl4, rfl⟩, rfl⟩, rfl⟩, rfl⟩, e0, hr⟩ := hc
        simp only [List.cons.injEq] at hr
        obtain ⟨e1, e2, e3, e4, _⟩ := hr
        subst e0 e1 e2 e3 e4
        exact ⟨h0, h1, h2, h3, h4⟩
      · cases hc
    obtain ⟨b, off, spot⟩ := ad
    obtain ⟨_, _, _, _, _, _, _, _, _, ⟨h00, _⟩, _⟩ := one 0 h0
    have hspot : spot = none := by simpa [Addr.add] using World.cell?_spot h00
    subst hspot
    refine ⟨b, off, rfl, ?_, fun j hj => ?_⟩
    · have := block_lt_of_cell h00
      simpa [Addr.add] using this
    · obtain ⟨x, y, k, A, m, C, N, b', d, ⟨k0, k1, k2, k3, k4⟩, hr⟩ := one j hj
      simp only [Addr.add_mid, Nat.add_zero] at k0 k1 k2 k3 k4
      exact ⟨x, y, k, A, m, C, N, b', d, ⟨k0, k1, k2, k3, k4⟩, hr⟩
end
end Go.Proofs.YtmfimhpbdbbpoaaDoor

/- What comes in: two slices of bytes; block's table, tied. -/
import Derived.Test.YtgmahgfelbkoeaaDoorJ3A
import Derived.Test.YtgmahgfelbkoeaaDoorCards
import Derived.Test.YtgmahgfelbkoeaaDoorTie
import Derived.LaidMore
import Derived.Lay
import Derived.SevenTiedAt
import Derived.ProofKit
import Derived.OpenShut
import Derived.Deep.Slices
import Derived.Lib.SmallJoins
import Derived.Deep.MidRow
import Derived.SizedLaws
namespace Go.Proofs.YtgmahgfelbkoeaaDoor
open Go.ChangeShapes Go.WideShapes Go.Deep Go.Joins
open Go.RowKit (Below)
set_option linter.unusedVariables false
set_option linter.unusedSimpArgs false

/-- A slice of bytes. -/
def IsB (w : World) (v : Value) : Prop := ∃ p n cap bs, v = .slice p n cap ∧ (n ≤ 9223372036854775807 ∧ n ≤ cap) ∧ IsBy w (.slice p n cap) bs ∧ bs.length = n ∧ ∀ x ∈ bs, x < 256
/-- A slice of things that are each S. -/
def RowsOf (S : World → Value → Prop) (w : World) (a : Option Addr) (n : Nat) : Prop :=
  n ≤ 9223372036854775807 ∧ (0 < n → ∃ b o, a = some ⟨b, o, none⟩ ∧ ∀ i, i < n → ∃ v, w.cell? ⟨b, o + i, none⟩ = some v ∧ S w v)

theorem cells_one {w : World} {base : Nat} {a : Addr} {cs : List Value} (h : w.cells? base a 1 = some cs) : ∃ v, cs = [v] ∧ w.cell? a = some v := by
  unfold World.cells? at h
  split at h
  · have e : List.range 1 = [0] := rfl
    rw [e] at h
    simp only [List.mapM_cons, List.mapM_nil, Option.bind_eq_bind, Option.bind_eq_some_iff, Option.pure_def, Option.some.injEq] at h
    obtain ⟨a0, h0, l0, rfl, rfl⟩ := h
    exact ⟨a0, rfl, by simpa [Addr.add] using h0⟩
  · cases h

/-- A machine can hold it. -/
def Sz {H : Type} (ty : TypeId) (d : DataW H) : Prop := ∀ n ∈ d.weights Tryd.prog ty, n ≤ reachBytes

theorem weightsAll_in {H : Type} {P : Program} {e : TypeId} : ∀ {l : List (DataW H)} {d : DataW H}, d ∈ l → ∀ n ∈ d.weights P e, n ∈ DataW.weightsAll P e l
  | _ :: l, d, h, n, hn => by
    rcases List.mem_cons.1 h with rfl | h
    · simp only [DataW.weightsAll, List.mem_append]; exact Or.inl hn
    · simp only [DataW.weightsAll, List.mem_append]; exact Or.inr (weightsAll_in h n hn)

section
variable {H : Type} {enc : TypeId × Value → H} {w : World} {base : Nat} {spare : Nat → Bool} {held : Bool}

theorem open_rowsOf {S : World → Value → Prop} {ty el : TypeId} (hu : Tryd.prog.underlying ty = some (.slice el)) (h1 : Tryd.prog.cellsOf el = 1) (hS : ∀ {m : Nat} {u : Value} {y : DataW H × List MemPlace}, DataW.trod enc Tryd.prog w base spare held m el [u] = some y → S w u)
    {fuel : Nat} {v : Value} {y : DataW H × List MemPlace} (h : DataW.trod enc Tryd.prog w base spare held fuel ty [v] = some y) : ∃ a len cap, v = .slice a len cap ∧ len ≤ cap ∧ RowsOf S w a len := by
  rcases open_slice hu h with ⟨h0, _⟩ | ⟨ad, len, cap, mm, n', D, Pl, hcs, _, hlc, hcm, hmm, _, hx⟩
  · simp only [List.cons.injEq, and_true] at h0
    exact ⟨none, 0, 0, h0, Nat.le_refl _, by omega, fun h => by omega⟩
  · simp only [List.cons.injEq, and_true] at hcs
    unfold maxLen at hcm
    refine ⟨some ad, len, cap, hcs, hlc, by omega, fun h0 => ?_⟩
    have hlm : len ≤ mm := by rw [hmm]; split <;> omega
    have one : ∀ i, i < len → ∃ u, w.cell? (ad.add i) = some u ∧ S w u := by
      intro i hi
      obtain ⟨cs', hc, ht⟩ := hx i (by omega)
      rw [h1, Nat.mul_one] at hc
      obtain ⟨u, rfl, hcell⟩ := cells_one hc
      exact ⟨u, hcell, hS ht⟩
    obtain ⟨b, off, spot⟩ := ad
    obtain ⟨u0, h00, _⟩ := one 0 h0
    have hspot : spot = none := by simpa [Addr.add] using World.cell?_spot h00
    subst hspot
    refine ⟨b, off, rfl, fun j hj => ?_⟩
    obtain ⟨u, hu, hr⟩ := one j hj
    rw [Addr.add_mid] at hu
    exact ⟨u, hu, hr⟩

theorem open_n8 {m : Nat} {u : Value} {y : DataW H × List MemPlace} (h : DataW.trod enc Tryd.prog w base spare held m 5 [u] = some y) : ∃ q : Nat, u = .int .u8 (q : Int) ∧ q < 256 := by
  obtain ⟨z, e0, _, w0⟩ := DataW.trod_int Tryd.underlying5 h
  simp only [List.cons.injEq, and_true] at e0
  have b := bounds_u8 w0
  exact ⟨z.toNat, by rw [e0, Int.toNat_of_nonneg b.1], by omega⟩

theorem open_b {m : Nat} {u : Value} {y : DataW H × List MemPlace} (h : DataW.trod enc Tryd.prog w base spare held m 38 [u] = some y) : IsB w u := by
  rcases open_slice Tryd.underlying38 h with ⟨h0, _⟩ | _
  · simp only [List.cons.injEq, and_true] at h0
    exact ⟨none, 0, 0, [], h0, by omega, .inl (.inl ⟨rfl, rfl⟩), rfl, by simp⟩
  obtain ⟨a, len, cap, rfl, hlc, hl, hr⟩ := open_rowsOf (S := fun w v => ∃ q : Nat, v = .int .u8 (q : Int) ∧ q < 256) Tryd.underlying38 (by kernel_rfl) (fun h => open_n8 h) h
  by_cases h0 : len = 0
  · subst h0
    refine ⟨a, 0, cap, [], rfl, ⟨hl, hlc⟩, ?_, rfl, by simp⟩
    cases a with
    | none =>
      rcases open_slice Tryd.underlying38 h with ⟨h0, _⟩ | ⟨ad, len, cap, mm, n', D, Pl, hcs, _⟩
      · simp only [List.cons.injEq, and_true] at h0
        rw [h0]; exact .inl (.inl ⟨rfl, rfl⟩)
      · simp only [List.cons.injEq, and_true, Value.slice.injEq] at hcs
        cases hcs.1
    | some ad => exact .inr ⟨ad, cap, rfl, rfl⟩
  obtain ⟨b, o, ha, hc⟩ := hr (by omega)
  have : ∀ i, i < len → ∃ q : Nat, w.cell? ⟨b, o + i, none⟩ = some (.int .u8 (q : Int)) ∧ q < 256 := fun i hi => by
    obtain ⟨v, h1, q, rfl, h2⟩ := hc i hi
    exact ⟨q, h1, h2⟩
  obtain ⟨f, hf⟩ := choose_lt this
  have hll : ((List.range len).map f).length = len := by simp
  refine ⟨a, len, cap, (List.range len).map f, rfl, ⟨hl, hlc⟩, .inl (.inr ⟨b, o, cap, by rw [ha, hll], fun i hi => ?_⟩), hll, fun x hx => ?_⟩
  · rw [hll] at hi
    rw [(hf i hi).1]
    simp [List.getD, hi]
  · simp only [List.mem_map, List.mem_range] at hx
    obtain ⟨i, hi, rfl⟩ := hx
    exact (hf i hi).2

theorem open_rowsSz {S : World → Value → Prop} {ty el : TypeId} (hu : Tryd.prog.underlying ty = some (.slice el)) (h1 : Tryd.prog.cellsOf el = 1) (hS : ∀ {m : Nat} {u : Value} {y : DataW H × List MemPlace}, DataW.trod enc Tryd.prog w base spare held m el [u] = some y → Sz el y.1 → S w u)
    {fuel : Nat} {v : Value} {y : DataW H × List MemPlace} (h : DataW.trod enc Tryd.prog w base spare held fuel ty [v] = some y) (hz : Sz ty y.1) : ∃ a len cap, v = .slice a len cap ∧ len ≤ cap ∧ len * Tryd.prog.bytesOf el ≤ reachBytes ∧ RowsOf S w a len := by
  rcases open_slice hu h with ⟨h0, _⟩ | ⟨ad, len, cap, mm, n', D, Pl, hcs, _, hlc, hcm, hmm, hy, hx⟩
  · simp only [List.cons.injEq, and_true] at h0
    exact ⟨none, 0, 0, h0, Nat.le_refl _, by omega, by omega, fun h => by omega⟩
  · simp only [List.cons.injEq, and_true] at hcs
    unfold maxLen at hcm
    have hlm : len ≤ mm := by rw [hmm]; split <;> omega
    subst hy
    have hzz := hz
    unfold Sz at hzz
    simp only [DataW.weights, hu, List.length_map, List.length_range, List.mem_cons, List.mem_append] at hzz
    have hb : (len + (mm - len)) * Tryd.prog.bytesOf el ≤ reachBytes := hzz _ (Or.inl rfl)
    refine ⟨some ad, len, cap, hcs, hlc, Nat.le_trans (Nat.mul_le_mul_right _ (by omega)) hb, by omega, fun h0 => ?_⟩
    have one : ∀ i, i < len → ∃ u, w.cell? (ad.add i) = some u ∧ S w u := by
      intro i hi
      obtain ⟨cs', hc, ht⟩ := hx i (by omega)
      rw [h1, Nat.mul_one] at hc
      obtain ⟨u, rfl, hcell⟩ := cells_one hc
      refine ⟨u, hcell, hS ht fun n hn => hzz n (Or.inr (Or.inl ?_))⟩
      exact weightsAll_in (List.mem_map.2 ⟨i, List.mem_range.2 hi, rfl⟩) n hn
    obtain ⟨b, off, spot⟩ := ad
    obtain ⟨u0, h00, _⟩ := one 0 h0
    have hspot : spot = none := by simpa [Addr.add] using World.cell?_spot h00
    subst hspot
    refine ⟨b, off, rfl, fun j hj => ?_⟩
    obtain ⟨u, hu, hr⟩ := one j hj
    rw [Addr.add_mid] at hu
    exact ⟨u, hu, hr⟩

/-- Bytes that a machine can hold, and that may be cut. -/
theorem open_cy {m : Nat} {u : Value} {y : DataW H × List MemPlace} (h : DataW.trod enc Tryd.prog w base spare held m 38 [u] = some y) (hz : Sz 38 y.1) : ∃ p n cap bs, u = .slice p n cap ∧ n ≤ 140737488355328 ∧ Cy w p n cap bs ∧ ∀ x ∈ bs, x < 256 := by
  obtain ⟨p, n, cap, bs, rfl, h1, h2, h3, h4⟩ := open_b h
  obtain ⟨a, len, cap', e, _, hb, _⟩ := open_rowsSz (S := fun _ _ => True) Tryd.underlying38 (by kernel_rfl) (fun _ _ => trivial) h hz
  have hb8 : Tryd.prog.bytesOf 5 = 1 := by kernel_rfl
  rw [hb8] at hb
  simp only [Value.slice.injEq] at e
  obtain ⟨_, rfl, _⟩ := e
  have := reachBytes_lt
  refine ⟨p, n, cap, bs, rfl, by omega, ⟨h2, h3.symm, h1.2, fun e => ?_⟩, h4⟩
  subst e
  rcases open_slice Tryd.underlying38 h with ⟨h0, _⟩ | ⟨ad, len, cap', mm, n', D, Pl, hcs, _⟩
  · simp only [List.cons.injEq, and_true, Value.slice.injEq] at h0
    exact h0.2.2
  · simp only [List.cons.injEq, and_true, Value.slice.injEq] at hcs
    cases hcs.1

end

open Go.ChangeAt Go.RowKit
def laidTab : List (String × DataW Unit) := [("fathom/block.changes", Rows.laid_fathom_block_changes)]

theorem gTabC : Tryd.prog.globalNamed "fathom/block.changes" = some 0 := by kernel_rfl
theorem tTabC : (Tryd.prog.globals[0]?).map (·.type) = some 93 := by kernel_rfl
theorem cells32 : Tryd.prog.cellsOf 49 = 1 := by kernel_rfl

theorem tab_listC {H : Type} : (Rows.laid_fathom_block_changes : DataW H) = .agg (crcTab.map fun n : Nat => .lit (.int .u32 (n : Int))) := rfl

theorem tab_of_laid {W : World} (h : laidMetH Tryd.prog laidTab W) : TabC W := by
  rw [MakeChecks.laidMetH_plain _ _ _ (by kernel_rfl)] at h
  obtain ⟨ps, ⟨g2, t2, cs2, fuel2, p2, q2, hg2, ht2, hv2, hd2, _, _⟩, _, _⟩ := h
  obtain rfl := Option.some.inj (gTabC.symm.trans hg2)
  obtain rfl := Option.some.inj (tTabC.symm.trans ht2)
  obtain ⟨xs, m, _, ex, hlen, hl, hel⟩ := DataW.trod_array Tryd.underlying93 hd2
  rw [tab_listC] at ex
  have ex2 := DataW.agg.inj (Prod.mk.inj ex).1
  intro j hj
  rw [World.var?_cell gTabC hv2 j]
  have hjx : j < xs.length := by omega
  have k := hel j hj
  rw [cells32, Nat.mul_one, List.getElem?_eq_getElem hjx] at k
  obtain ⟨z, a, b, _⟩ := DataW.trod_int Tryd.underlying49 k
  have hz : (crcTab.map fun n : Nat => (.lit (.int .u32 (n : Int)) : DataW Unit))[j]? = some (.lit (.int .u32 z)) := by
    rw [ex2, List.getElem?_map, List.getElem?_eq_getElem hjx, Option.map_some, b]
  have hjt : j < crcTab.length := hj
  rw [List.getElem?_map, List.getElem?_eq_getElem hjt, Option.map_some] at hz
  simp only [Option.some.injEq, DataW.lit.injEq, Lit.int.injEq, true_and] at hz
  have hc : cs2.toList[j]? = some (.int .u32 z) := by
    have := congrArg (·[0]?) a
    simpa [List.getElem?_take, List.getElem?_drop] using this
  have hg2 : crcTab.getD j 0 = crcTab[j] := by simp [List.getD, List.getElem?_eq_getElem hjt]
  rw [hg2, hz, ← hc]
  simp

end Go.Proofs.YtgmahgfelbkoeaaDoor

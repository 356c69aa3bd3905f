/- The bits of a column, read as the document reads them, plain. -/
import Derived.Test.YtnjcedlbdjidiaaGreatDoorP2B
import Derived.ProofKit
import Derived.OpenShut
import Derived.Deep.Slices
import Derived.Lib.SmallJoins
import Derived.Deep.MidRow
import Derived.SizedLaws
import Derived.Test.YtnjcedlbdjidiaaGreatDoorCards
import Derived.Test.YtnjcedlbdjidiaaGreatDoorTie
import Derived.LaidMore
import Derived.Lay
import Derived.SevenTiedAt
import Derived.Test.YtnjcedlbdjidiaaGreatDoorP1A
/- What comes in: columns, bytes, numbers, and that a machine can hold them. -/
namespace Go.Proofs.YtnjcedlbdjidiaaGreatDoor
open Go.ChangeShapes Go.WideShapes Go.Deep Go.Joins
open Go.RowKit (Below)
open M
set_option linter.unusedVariables false
set_option linter.unusedSimpArgs false

/-- An int64. -/
def I64 (x : Int) : Prop := -9223372036854775808 ≤ x ∧ x ≤ 9223372036854775807
/-- A slice of bytes. -/
def IsB (w : World) (v : Value) : Prop := ∃ p n cap bs, v = .slice p n cap ∧ (n ≤ 9223372036854775807 ∧ n ≤ cap) ∧ IsBy w (.slice p n cap) bs ∧ bs.length = n ∧ ∀ x ∈ bs, x < 256
/-- An int. -/
def IsN (w : World) (v : Value) : Prop := ∃ z : Int, v = .int .i64 z ∧ I64 z
theorem IsN.below {w w' : World} {v : Value} (h : IsN w v) (hB : Below w.heap.size w w') : IsN w' v := h
/-- A slice of bytes that a machine can hold. -/
def IsBs (w : World) (v : Value) : Prop := ∃ p n cap bs, v = .slice p n cap ∧ n ≤ 140737488355328 ∧ IsBy w (.slice p n cap) bs ∧ bs.length = n ∧ ∀ x ∈ bs, x < 256
theorem IsBs.below {w w' : World} {v : Value} (h : IsBs w v) (hB : Below w.heap.size w w') : IsBs w' v := by
  obtain ⟨p, n, cap, f, h1, h2, h3, h4⟩ := h
  exact ⟨p, n, cap, f, h1, h2, isBy_below h3 hB, h4⟩

/-- A slice of values of 64 bits that a machine can hold. -/
def IsU64 (w : World) (v : Value) : Prop := ∃ p n cap f, v = .slice p n cap ∧ n ≤ 140737488355328 ∧ n ≤ cap ∧ URow64 w p n f ∧ ∀ i, i < n → f i < 18446744073709551616
theorem IsU64.below {w w' : World} {v : Value} (h : IsU64 w v) (hB : Below w.heap.size w w') : IsU64 w' v := by
  obtain ⟨p, n, cap, f, h1, h2, h3, h4, h5⟩ := h
  exact ⟨p, n, cap, f, h1, h2, h3, h4.below hB, h5⟩

/-- A slice of values of 32 bits that a machine can hold. -/
def IsU32 (w : World) (v : Value) : Prop := ∃ p n cap f, v = .slice p n cap ∧ n ≤ 140737488355328 ∧ n ≤ cap ∧ URow32 w p n f ∧ ∀ i, i < n → f i < 4294967296
theorem IsU32.below {w w' : World} {v : Value} (h : IsU32 w v) (hB : Below w.heap.size w w') : IsU32 w' v := by
  obtain ⟨p, n, cap, f, h1, h2, h3, h4, h5⟩ := h
  exact ⟨p, n, cap, f, h1, h2, h3, h4.below hB, h5⟩

/-- A slice of things that are each S. -/
def RowsOf (S : World → Value → Prop) (w : World) (a : Option Addr) (n : Nat) : Prop :=
  n ≤ 9223372036854775807 ∧ (0 < n → ∃ b o, a = some ⟨b, o, none⟩ ∧ ∀ i, i < n → ∃ v, w.cell? ⟨b, o + i, none⟩ = some v ∧ S w v)

theorem RowsOf.below {S : World → Value → Prop} (hS : ∀ {w w' : World} {v : Value}, S w v → Below w.heap.size w w' → S w' v) {w w' : World} {a : Option Addr} {n : Nat} (h : RowsOf S w a n) (hB : Below w.heap.size w w') : RowsOf S w' a n :=
  ⟨h.1, fun h0 => by
    obtain ⟨b, o, ha, hc⟩ := h.2 h0
    refine ⟨b, o, ha, fun i hi => ?_⟩
    obtain ⟨v, h1, h2⟩ := hc i hi
    exact ⟨v, by rw [hB.cell (p := ⟨b, o + i, none⟩) (block_lt_of_cell h1)]; exact h1, hS h2 hB⟩⟩

theorem cells_one {w : World} {base : Nat} {a : Addr} {cs : List Value} (h : w.cells? base a 1 = some cs) : ∃ v, cs = [v] ∧ w.cell? a = some v := by
  unfold World.cells? at h
  split at h
  · have e : List.range 1 = [0] := rfl
    rw [e] at h
    simp only [List.mapM_cons, List.mapM_nil, Option.bind_eq_bind, Option.bind_eq_some_iff, Option.pure_def, Option.some.injEq] at h
    obtain ⟨a0, h0, l0, rfl, rfl⟩ := h
    exact ⟨a0, rfl, by simpa [Addr.add] using h0⟩
  · cases h

/-- A machine can hold it. -/
def Sz {H : Type} (ty : TypeId) (d : DataW H) : Prop := ∀ n ∈ d.weights Tryz.prog ty, n ≤ reachBytes

theorem weightsAll_in {H : Type} {P : Program} {e : TypeId} : ∀ {l : List (DataW H)} {d : DataW H}, d ∈ l → ∀ n ∈ d.weights P e, n ∈ DataW.weightsAll P e l
  | _ :: l, d, h, n, hn => by
    rcases List.mem_cons.1 h with rfl | h
    · simp only [DataW.weightsAll, List.mem_append]; exact Or.inl hn
    · simp only [DataW.weightsAll, List.mem_append]; exact Or.inr (weightsAll_in h n hn)

section
variable {H : Type} {enc : TypeId × Value → H} {w : World} {base : Nat} {spare : Nat → Bool} {held : Bool}

theorem open_rowsOf {S : World → Value → Prop} {ty el : TypeId} (hu : Tryz.prog.underlying ty = some (.slice el)) (h1 : Tryz.prog.cellsOf el = 1) (hS : ∀ {m : Nat} {u : Value} {y : DataW H × List MemPlace}, DataW.trod enc Tryz.prog w base spare held m el [u] = some y → S w u)
    {fuel : Nat} {v : Value} {y : DataW H × List MemPlace} (h : DataW.trod enc Tryz.prog w base spare held fuel ty [v] = some y) : ∃ a len cap, v = .slice a len cap ∧ len ≤ cap ∧ RowsOf S w a len := by
  rcases open_slice hu h with ⟨h0, _⟩ | ⟨ad, len, cap, mm, n', D, Pl, hcs, _, hlc, hcm, hmm, _, hx⟩
  · simp only [List.cons.injEq, and_true] at h0
    exact ⟨none, 0, 0, h0, Nat.le_refl _, by omega, fun h => by omega⟩
  · simp only [List.cons.injEq, and_true] at hcs
    unfold maxLen at hcm
    refine ⟨some ad, len, cap, hcs, hlc, by omega, fun h0 => ?_⟩
    have hlm : len ≤ mm := by rw [hmm]; split <;> omega
    have one : ∀ i, i < len → ∃ u, w.cell? (ad.add i) = some u ∧ S w u := by
      intro i hi
      obtain ⟨cs', hc, ht⟩ := hx i (by omega)
      rw [h1, Nat.mul_one] at hc
      obtain ⟨u, rfl, hcell⟩ := cells_one hc
      exact ⟨u, hcell, hS ht⟩
    obtain ⟨b, off, spot⟩ := ad
    obtain ⟨u0, h00, _⟩ := one 0 h0
    have hspot : spot = none := by simpa [Addr.add] using World.cell?_spot h00
    subst hspot
    refine ⟨b, off, rfl, fun j hj => ?_⟩
    obtain ⟨u, hu, hr⟩ := one j hj
    rw [Addr.add_mid] at hu
    exact ⟨u, hu, hr⟩

theorem open_n {m : Nat} {u : Value} {y : DataW H × List MemPlace} (h : DataW.trod enc Tryz.prog w base spare held m 3 [u] = some y) : IsN w u := by
  obtain ⟨z, e0, _, w0⟩ := DataW.trod_int Tryz.underlying3 h
  simp only [List.cons.injEq, and_true] at e0
  have b := bounds_i64 w0
  exact ⟨z, e0, by unfold I64; omega⟩

theorem open_n8 {m : Nat} {u : Value} {y : DataW H × List MemPlace} (h : DataW.trod enc Tryz.prog w base spare held m 5 [u] = some y) : ∃ q : Nat, u = .int .u8 (q : Int) ∧ q < 256 := by
  obtain ⟨z, e0, _, w0⟩ := DataW.trod_int Tryz.underlying5 h
  simp only [List.cons.injEq, and_true] at e0
  have b := bounds_u8 w0
  exact ⟨z.toNat, by rw [e0, Int.toNat_of_nonneg b.1], by omega⟩

theorem open_b {m : Nat} {u : Value} {y : DataW H × List MemPlace} (h : DataW.trod enc Tryz.prog w base spare held m 59 [u] = some y) : IsB w u := by
  rcases open_slice Tryz.underlying59 h with ⟨h0, _⟩ | _
  · simp only [List.cons.injEq, and_true] at h0
    exact ⟨none, 0, 0, [], h0, by omega, .inl (.inl ⟨rfl, rfl⟩), rfl, by simp⟩
  obtain ⟨a, len, cap, rfl, hlc, hl, hr⟩ := open_rowsOf (S := fun w v => ∃ q : Nat, v = .int .u8 (q : Int) ∧ q < 256) Tryz.underlying59 (by kernel_rfl) (fun h => open_n8 h) h
  by_cases h0 : len = 0
  · subst h0
    refine ⟨a, 0, cap, [], rfl, ⟨hl, hlc⟩, ?_, rfl, by simp⟩
    cases a with
    | none =>
      rcases open_slice Tryz.underlying59 h with ⟨h0, _⟩ | ⟨ad, len, cap, mm, n', D, Pl, hcs, _⟩
      · simp only [List.cons.injEq, and_true] at h0
        rw [h0]; exact .inl (.inl ⟨rfl, rfl⟩)
      · simp only [List.cons.injEq, and_true, Value.slice.injEq] at hcs
        cases hcs.1
    | some ad => exact .inr ⟨ad, cap, rfl, rfl⟩
  obtain ⟨b, o, ha, hc⟩ := hr (by omega)
  have : ∀ i, i < len → ∃ q : Nat, w.cell? ⟨b, o + i, none⟩ = some (.int .u8 (q : Int)) ∧ q < 256 := fun i hi => by
    obtain ⟨v, h1, q, rfl, h2⟩ := hc i hi
    exact ⟨q, h1, h2⟩
  obtain ⟨f, hf⟩ := choose_lt this
  have hll : ((List.range len).map f).length = len := by simp
  refine ⟨a, len, cap, (List.range len).map f, rfl, ⟨hl, hlc⟩, .inl (.inr ⟨b, o, cap, by rw [ha, hll], fun i hi => ?_⟩), hll, fun x hx => ?_⟩
  · rw [hll] at hi
    rw [(hf i hi).1]
    simp [List.getD, hi]
  · simp only [List.mem_map, List.mem_range] at hx
    obtain ⟨i, hi, rfl⟩ := hx
    exact (hf i hi).2

theorem open_rowsSz {S : World → Value → Prop} {ty el : TypeId} (hu : Tryz.prog.underlying ty = some (.slice el)) (h1 : Tryz.prog.cellsOf el = 1) (hS : ∀ {m : Nat} {u : Value} {y : DataW H × List MemPlace}, DataW.trod enc Tryz.prog w base spare held m el [u] = some y → Sz el y.1 → S w u)
    {fuel : Nat} {v : Value} {y : DataW H × List MemPlace} (h : DataW.trod enc Tryz.prog w base spare held fuel ty [v] = some y) (hz : Sz ty y.1) : ∃ a len cap, v = .slice a len cap ∧ len ≤ cap ∧ len * Tryz.prog.bytesOf el ≤ reachBytes ∧ RowsOf S w a len := by
  rcases open_slice hu h with ⟨h0, _⟩ | ⟨ad, len, cap, mm, n', D, Pl, hcs, _, hlc, hcm, hmm, hy, hx⟩
  · simp only [List.cons.injEq, and_true] at h0
    exact ⟨none, 0, 0, h0, Nat.le_refl _, by omega, by omega, fun h => by omega⟩
  · simp only [List.cons.injEq, and_true] at hcs
    unfold maxLen at hcm
    have hlm : len ≤ mm := by rw [hmm]; split <;> omega
    subst hy
    have hzz := hz
    unfold Sz at hzz
    simp only [DataW.weights, hu, List.length_map, List.length_range, List.mem_cons, List.mem_append] at hzz
    have hb : (len + (mm - len)) * Tryz.prog.bytesOf el ≤ reachBytes := hzz _ (Or.inl rfl)
    refine ⟨some ad, len, cap, hcs, hlc, Nat.le_trans (Nat.mul_le_mul_right _ (by omega)) hb, by omega, fun h0 => ?_⟩
    have one : ∀ i, i < len → ∃ u, w.cell? (ad.add i) = some u ∧ S w u := by
      intro i hi
      obtain ⟨cs', hc, ht⟩ := hx i (by omega)
      rw [h1, Nat.mul_one] at hc
      obtain ⟨u, rfl, hcell⟩ := cells_one hc
      refine ⟨u, hcell, hS ht fun n hn => hzz n (Or.inr (Or.inl ?_))⟩
      exact weightsAll_in (List.mem_map.2 ⟨i, List.mem_range.2 hi, rfl⟩) n hn
    obtain ⟨b, off, spot⟩ := ad
    obtain ⟨u0, h00, _⟩ := one 0 h0
    have hspot : spot = none := by simpa [Addr.add] using World.cell?_spot h00
    subst hspot
    refine ⟨b, off, rfl, fun j hj => ?_⟩
    obtain ⟨u, hu, hr⟩ := one j hj
    rw [Addr.add_mid] at hu
    exact ⟨u, hu, hr⟩

theorem open_bs {m : Nat} {u : Value} {y : DataW H × List MemPlace} (h : DataW.trod enc Tryz.prog w base spare held m 59 [u] = some y) (hz : Sz 59 y.1) : IsBs w u := by
  obtain ⟨p, n, cap, bs, rfl, _, h2, h3, h4⟩ := open_b h
  obtain ⟨a, len, cap', e, _, hb, _⟩ := open_rowsSz (S := fun _ _ => True) Tryz.underlying59 (by kernel_rfl) (fun _ _ => trivial) h hz
  have hb8 : Tryz.prog.bytesOf 5 = 1 := by kernel_rfl
  rw [hb8] at hb
  simp only [Value.slice.injEq] at e
  obtain ⟨_, rfl, _⟩ := e
  have := reachBytes_lt
  exact ⟨p, n, cap, bs, rfl, by omega, h2, h3, h4⟩


theorem open_v64 {m : Nat} {u : Value} {y : DataW H × List MemPlace} (h : DataW.trod enc Tryz.prog w base spare held m 71 [u] = some y) : ∃ q : Nat, u = .int .u64 (q : Int) ∧ q < 18446744073709551616 := by
  obtain ⟨z, e0, _, w0⟩ := DataW.trod_int Tryz.underlying71 h
  simp only [List.cons.injEq, and_true] at e0
  have b := bounds_u64 w0
  exact ⟨z.toNat, by rw [e0, Int.toNat_of_nonneg b.1], by omega⟩

theorem open_u64 {m : Nat} {u : Value} {y : DataW H × List MemPlace} (h : DataW.trod enc Tryz.prog w base spare held m 54 [u] = some y) (hz : Sz 54 y.1) : IsU64 w u := by
  obtain ⟨a, len, cap, rfl, hlc, hb, hl, hr⟩ := open_rowsSz (S := fun _ v => ∃ q : Nat, v = .int .u64 (q : Int) ∧ q < 18446744073709551616) Tryz.underlying54 (by kernel_rfl) (fun h _ => open_v64 h) h hz
  have hb8 : Tryz.prog.bytesOf 71 = 8 := by kernel_rfl
  rw [hb8] at hb
  have := reachBytes_lt
  by_cases h0 : len = 0
  · subst h0; exact ⟨a, 0, cap, fun _ => 0, rfl, by omega, hlc, URow64.nil _ _ _, fun i hi => by omega⟩
  obtain ⟨b, o, ha, hc⟩ := hr (by omega)
  have : ∀ i, i < len → ∃ q : Nat, w.cell? ⟨b, o + i, none⟩ = some (.int .u64 (q : Int)) ∧ q < 18446744073709551616 := fun i hi => by
    obtain ⟨v, h1, q, rfl, h2⟩ := hc i hi
    exact ⟨q, h1, h2⟩
  obtain ⟨f, hf⟩ := choose_lt this
  exact ⟨a, len, cap, f, rfl, by omega, hlc, fun _ => ⟨b, o, ha, fun i hi => (hf i hi).1⟩, fun i hi => (hf i hi).2⟩

theorem open_v32 {m : Nat} {u : Value} {y : DataW H × List MemPlace} (h : DataW.trod enc Tryz.prog w base spare held m 80 [u] = some y) : ∃ q : Nat, u = .int .u32 (q : Int) ∧ q < 4294967296 := by
  obtain ⟨z, e0, _, w0⟩ := DataW.trod_int Tryz.underlying80 h
  simp only [List.cons.injEq, and_true] at e0
  have b := bounds_u32 w0
  exact ⟨z.toNat, by rw [e0, Int.toNat_of_nonneg b.1], by omega⟩

theorem open_u32 {m : Nat} {u : Value} {y : DataW H × List MemPlace} (h : DataW.trod enc Tryz.prog w base spare held m 57 [u] = some y) (hz : Sz 57 y.1) : IsU32 w u := by
  obtain ⟨a, len, cap, rfl, hlc, hb, hl, hr⟩ := open_rowsSz (S := fun _ v => ∃ q : Nat, v = .int .u32 (q : Int) ∧ q < 4294967296) Tryz.underlying57 (by kernel_rfl) (fun h _ => open_v32 h) h hz
  have hb8 : Tryz.prog.bytesOf 80 = 4 := by kernel_rfl
  rw [hb8] at hb
  have := reachBytes_lt
  by_cases h0 : len = 0
  · subst h0; exact ⟨a, 0, cap, fun _ => 0, rfl, by omega, hlc, URow32.nil _ _ _, fun i hi => by omega⟩
  obtain ⟨b, o, ha, hc⟩ := hr (by omega)
  have : ∀ i, i < len → ∃ q : Nat, w.cell? ⟨b, o + i, none⟩ = some (.int .u32 (q : Int)) ∧ q < 4294967296 := fun i hi => by
    obtain ⟨v, h1, q, rfl, h2⟩ := hc i hi
    exact ⟨q, h1, h2⟩
  obtain ⟨f, hf⟩ := choose_lt this
  exact ⟨a, len, cap, f, rfl, by omega, hlc, fun _ => ⟨b, o, ha, fun i hi => (hf i hi).1⟩, fun i hi => (hf i hi).2⟩

end
end Go.Proofs.YtnjcedlbdjidiaaGreatDoor

/- The library's table, as the card ties it. -/
namespace Go.Proofs.YtnjcedlbdjidiaaGreatDoor
open Go.ChangeShapes Go.WideShapes Go.ChangeAt Go.RowKit
open M
set_option linter.unusedVariables false

def laidTab : List (String × DataW Unit) := [("math/bits.deBruijn64tab", Rows.laid_math_bits_deBruijn64tab)]

theorem gTab : Tryz.prog.globalNamed "math/bits.deBruijn64tab" = some 0 := by kernel_rfl
theorem tTab : (Tryz.prog.globals[0]?).map (·.type) = some 226 := by kernel_rfl
theorem cells8 : Tryz.prog.cellsOf 5 = 1 := by kernel_rfl

theorem tab_list {H : Type} : (Rows.laid_math_bits_deBruijn64tab : DataW H) = .agg (Lib.deBruijn64tab.map fun n : Nat => .lit (.int .u8 (n : Int))) := rfl

theorem tab_of_laid {W : World} (h : laidMetH Tryz.prog laidTab W) : Tab64 W := by
  rw [MakeChecks.laidMetH_plain _ _ _ (by kernel_rfl)] at h
  obtain ⟨ps, ⟨g, t, cs, fuel, p, q, hg, ht, hv, hd, _, _⟩, _, _⟩ := h
  obtain rfl := Option.some.inj (gTab.symm.trans hg)
  obtain rfl := Option.some.inj (tTab.symm.trans ht)
  obtain ⟨xs, m, _, ex, hlen, hl, hel⟩ := DataW.trod_array Tryz.underlying226 hd
  rw [tab_list] at ex
  have ex2 := DataW.agg.inj (Prod.mk.inj ex).1
  intro j hj
  rw [World.var?_cell gTab hv j]
  have hjx : j < xs.length := by omega
  have k := hel j hj
  rw [cells8, Nat.mul_one, List.getElem?_eq_getElem hjx] at k
  obtain ⟨z, a, b, _⟩ := DataW.trod_int Tryz.underlying5 k
  have hz : (Lib.deBruijn64tab.map fun n : Nat => (.lit (.int .u8 (n : Int)) : DataW Unit))[j]? = some (.lit (.int .u8 z)) := by
    rw [ex2, List.getElem?_map, List.getElem?_eq_getElem hjx, Option.map_some, b]
  have hjt : j < Lib.deBruijn64tab.length := hj
  rw [List.getElem?_map, List.getElem?_eq_getElem hjt, Option.map_some] at hz
  simp only [Option.some.injEq, DataW.lit.injEq, Lit.int.injEq, true_and] at hz
  have hc : cs.toList[j]? = some (.int .u8 z) := by
    have := congrArg (·[0]?) a
    simpa [List.getElem?_take, List.getElem?_drop] using this
  have hg2 : Lib.deBruijn64tab.getD j 0 = Lib.deBruijn64tab[j] := by simp [List.getD, List.getElem?_eq_getElem hjt]
  rw [hg2, hz, ← hc]
  simp

end Go.Proofs.YtnjcedlbdjidiaaGreatDoor

namespace Go.Proofs.YtnjcedlbdjidiaaGreatDoor.M
set_option linter.unusedVariables false

theorem bits_0 : bitsOf 0 1 = [false] := rfl
theorem bits_1 : bitsOf 1 1 = [true] := rfl

theorem xb_zero_of (W K L N x : Nat) (r l' : List Bool) (h : xb W K L N x ++ r = [false] ++ l') : x = 0 ∧ r = l' := by
  by_cases x0 : x = 0
  · subst x0; rw [xb_0] at h; exact ⟨rfl, List.append_cancel_left h⟩
  · exfalso
    by_cases sx : sut W K L N x
    · rw [xb_old _ _ _ _ _ x0 sx] at h; simp at h
    · rw [xb_new _ _ _ _ _ x0 sx] at h; simp at h

theorem xb_old_of (W K L N x : Nat) (r l' : List Bool) (h : xb W K L N x ++ r = [true] ++ ([false] ++ l')) : x ≠ 0 ∧ sut W K L N x ∧ l' = bitsOf (x / 2 ^ (W - L - N)) N ++ r := by
  by_cases x0 : x = 0
  · subst x0; rw [xb_0] at h; simp at h
  · by_cases sx : sut W K L N x
    · rw [xb_old _ _ _ _ _ x0 sx] at h
      simp only [List.cons_append, List.nil_append, List.cons.injEq, true_and] at h
      exact ⟨x0, sx, h.symm⟩
    · rw [xb_new _ _ _ _ _ x0 sx] at h; simp at h

theorem xb_new_of (W K L N x : Nat) (r l' : List Bool) (h : xb W K L N x ++ r = [true] ++ ([true] ++ l')) : x ≠ 0 ∧ ¬ sut W K L N x ∧ l' = bitsOf (W - bitLen x) K ++ (bitsOf (wl x - 1) K ++ (bitsOf (x / 2 ^ tz x) (wl x) ++ r)) := by
  by_cases x0 : x = 0
  · subst x0; rw [xb_0] at h; simp at h
  · by_cases sx : sut W K L N x
    · rw [xb_old _ _ _ _ _ x0 sx] at h; simp at h
    · rw [xb_new _ _ _ _ _ x0 sx] at h
      simp only [List.cons_append, List.nil_append, List.cons.injEq, true_and, List.append_assoc] at h
      exact ⟨x0, sx, h.symm⟩

theorem xb_one_of (W K L N x : Nat) (r l' : List Bool) (h : xb W K L N x ++ r = [true] ++ l') : 1 ≤ l'.length := by
  by_cases x0 : x = 0
  · subst x0; rw [xb_0] at h; simp at h
  · have e := congrArg List.length h
    by_cases sx : sut W K L N x
    · rw [xb_old _ _ _ _ _ x0 sx] at e; simp at e; omega
    · rw [xb_new _ _ _ _ _ x0 sx] at e; simp at e; omega

theorem xb_len (W K L N x : Nat) : 1 ≤ (xb W K L N x).length := by
  unfold xb
  repeat' split
  all_goals simp

/-- What was read: the value, the bits left, whether it went well. -/
structure VRd (n : Nat) (l : List Bool) (e0 : Int) (x : Nat) (l' : List Bool) (e1 : Int) : Prop where
  lt : x < 2 ^ n
  sound : e1 = 0 → e0 = 0 ∧ l = bitsOf x n ++ l'
  full : e0 = 0 → n ≤ l.length → e1 = 0
  some : x ≠ 0 → e1 = 0

/-- What is there is read. -/
theorem VRd.hit {n : Nat} {l : List Bool} {x : Nat} {l' : List Bool} {e1 : Int} (h : VRd n l 0 x l' e1) {y : Nat} {r : List Bool} (hy : y < 2 ^ n) (e : l = bitsOf y n ++ r) : e1 = 0 ∧ x = y ∧ l' = r := by
  have h1 : e1 = 0 := h.full rfl (by rw [e]; simp)
  obtain ⟨_, h2⟩ := h.sound h1
  obtain ⟨h3, h4⟩ := pbits_inj x y n l' r h.lt hy (by rw [← h2, e])
  exact ⟨h1, h3, h4⟩

/-- A value is taken: whatever the bits are of. -/
def Taken (W K L N : Nat) (l1 : List Bool) (e1 : Int) (x L' N' : Nat) (l' : List Bool) (e2 : Int) : Prop :=
  e1 = 0 → ∀ y r, y < 2 ^ W → l1 = xb W K L N y ++ r → e2 = 0 ∧ x = y ∧ l' = r ∧ (L', N') = nxt W K (L, N) y

theorem taken_zero {W K L N : Nat} {l1 l2 : List Bool} {e1 e2 : Int} (h : VRd 1 l1 e1 0 l2 e2) : Taken W K L N l1 e1 0 L N l2 e2 := by
  intro h1 y r hy e
  subst h1
  have h2 : e2 = 0 := h.full rfl (by rw [e, List.length_append]; have := xb_len W K L N y; omega)
  obtain ⟨_, h3⟩ := h.sound h2
  rw [bits_0, e] at h3
  obtain ⟨rfl, h4⟩ := xb_zero_of W K L N y r l2 h3
  exact ⟨h2, rfl, h4.symm, by unfold nxt; rw [if_pos (.inl rfl)]⟩

theorem taken_old {W K L N : Nat} {l1 l2 l3 l4 : List Bool} {e1 e2 e3 e4 : Int} {x : Nat} (hW : W ≤ 64) (hw : L + N ≤ W) (h1 : VRd 1 l1 e1 1 l2 e2) (h2 : VRd 1 l2 e2 0 l3 e3) (h3 : VRd N l3 e3 x l4 e4) :
    Taken W K L N l1 e1 (x * 2 ^ (W - L - N)) L N l4 e4 := by
  intro he y r hy e
  subst he
  have q2 : e2 = 0 := h1.some (by omega)
  subst q2
  have p1 := (h1.sound rfl).2
  rw [bits_1, e] at p1
  have q3 : e3 = 0 := h2.full rfl (xb_one_of W K L N y r l2 p1)
  subst q3
  have p2 := (h2.sound rfl).2
  rw [bits_0] at p2
  rw [p2] at p1
  obtain ⟨y0, sy, p3⟩ := xb_old_of W K L N y r l3 p1
  obtain ⟨k1, k2, k3⟩ := h3.hit (old_fits W K L N y hy hw sy) p3
  refine ⟨k1, ?_, k3, by unfold nxt; rw [if_pos (.inr sy)]⟩
  rw [k2, cut_back y _ y0 (lt64 hy hW) sy.2.2.1]

theorem taken_hit {W K L N : Nat} {l1 l2 l3 l4 l5 : List Bool} {e2 e3 e4 e5 : Int} {A B : Nat} (hW : W ≤ 64) (hK : W ≤ 2 ^ K) (h1 : VRd 1 l1 0 1 l2 e2) (h2 : VRd 1 l2 e2 1 l3 e3) (h3 : VRd K l3 e3 A l4 e4) (h4 : VRd K l4 e4 B l5 e5)
    {y : Nat} {r : List Bool} (hy : y < 2 ^ W) (e : l1 = xb W K L N y ++ r) : e5 = 0 ∧ y ≠ 0 ∧ ¬ sut W K L N y ∧ A = W - bitLen y ∧ B + 1 = wl y ∧ A + (B + 1) = W - tz y ∧ tz y ≤ W ∧ l5 = bitsOf (y / 2 ^ tz y) (wl y) ++ r := by
  have q2 : e2 = 0 := h1.some (by omega)
  subst q2
  have q3 : e3 = 0 := h2.some (by omega)
  subst q3
  have p1 := (h1.sound rfl).2
  have p2 := (h2.sound rfl).2
  rw [bits_1] at p1 p2
  rw [e, p2] at p1
  obtain ⟨y0, sy, p3⟩ := xb_new_of W K L N y r l3 p1
  have hy6 := lt64 hy hW
  have b1 := bitLen_le y W hy
  have b2 := bitLen_pos y y0
  have b3 := tz_lt y y0 hy6
  have b4 : wl y = bitLen y - tz y := rfl
  obtain ⟨k1, k2, k3⟩ := h3.hit (by omega) p3
  subst k1
  obtain ⟨k4, k5, k6⟩ := h4.hit (by omega) k3
  exact ⟨k4, y0, sy, k2, by omega, by omega, by omega, k6⟩

theorem taken_new {W K L N : Nat} {l1 l2 l3 l4 l5 l6 : List Bool} {e1 e2 e3 e4 e5 e6 : Int} {A B x : Nat} (hW : W ≤ 64) (hK : W ≤ 2 ^ K) (h1 : VRd 1 l1 e1 1 l2 e2) (h2 : VRd 1 l2 e2 1 l3 e3) (h3 : VRd K l3 e3 A l4 e4) (h4 : VRd K l4 e4 B l5 e5) (h5 : VRd (B + 1) l5 e5 x l6 e6) :
    Taken W K L N l1 e1 (x * 2 ^ (W - A - (B + 1))) A (B + 1) l6 e6 := by
  intro he y r hy e
  subst he
  obtain ⟨q5, y0, sy, k2, k3, k4, k5, k6⟩ := taken_hit hW hK h1 h2 h3 h4 hy e
  subst q5
  have hy6 := lt64 hy hW
  rw [← k3] at k6
  obtain ⟨k7, k8, k9⟩ := h5.hit (by rw [k3]; exact new_fits y y0 hy6) k6
  refine ⟨k7, ?_, k9, ?_⟩
  · rw [k8, show W - A - (B + 1) = tz y by omega, cut_back y _ y0 hy6 (Nat.le_refl _)]
  · unfold nxt; rw [if_neg (by simp [y0, sy]), k2, k3]

/-- The window that was read would not fit: it is none of a column. -/
theorem taken_far {W K L N : Nat} {l1 l2 l3 l4 l5 : List Bool} {e1 e2 e3 e4 e5 : Int} {A B : Nat} (hW : W ≤ 64) (hK : W ≤ 2 ^ K) (h1 : VRd 1 l1 e1 1 l2 e2) (h2 : VRd 1 l2 e2 1 l3 e3) (h3 : VRd K l3 e3 A l4 e4) (h4 : VRd K l4 e4 B l5 e5) (hf : W < A + (B + 1)) : e1 = 0 → ∀ y r, y < 2 ^ W → l1 ≠ xb W K L N y ++ r := by
  intro he y r hy e
  subst he
  obtain ⟨q5, y0, sy, k2, k3, k4, k5, k6⟩ := taken_hit hW hK h1 h2 h3 h4 hy e
  omega

/-- Are these bytes the column's, of width W? -/
def PacksW (W K : Nat) (bs : List Nat) (h : Nat → Nat) (n : Nat) : Prop := (∀ i, i < n → h i < 2 ^ W) ∧ packed (cbn W K h n) = bs

/-- What is known of the first i values, whatever column the bytes are of. -/
def Fullw (W K : Nat) (bs : List Nat) (n i : Nat) (f : Nat → Nat) (l1 : List Bool) (e1 : Int) (L N : Nat) : Prop :=
  ∀ h, PacksW W K bs h n → e1 = 0 ∧ (∀ j, j < i → f j = h j) ∧ rbits bs = cbn W K h i ++ l1 ∧ (L, N) = win W K h (i - 1)

theorem Fullw.start (W K : Nat) (bs : List Nat) (n : Nat) (f : Nat → Nat) : Fullw W K bs n 0 f (rbits bs) 0 0 0 := fun h _ => ⟨rfl, fun j hj => by omega, by simp [cbn], rfl⟩

theorem packsW_rbits {W K : Nat} {bs : List Nat} {h : Nat → Nat} {n : Nat} (hP : PacksW W K bs h n) : ∃ r, rbits bs = cbn W K h n ++ r := ⟨_, by rw [← hP.2, rbits_packed]⟩

theorem Fullw.first {W K : Nat} {bs : List Nat} {n x : Nat} {l' : List Bool} {e1 : Int} (hn : 0 < n) (h1 : VRd W (rbits bs) 0 x l' e1) : Fullw W K bs n 1 (fun _ => x) l' e1 0 0 := by
  intro h hP
  obtain ⟨r, hr⟩ := packsW_rbits hP
  obtain ⟨r1, h3⟩ := cbn_prefix W K h 1 n (by omega)
  rw [h3, cbn_one, List.append_assoc] at hr
  obtain ⟨k1, k2, k3⟩ := h1.hit (hP.1 0 hn) hr
  refine ⟨k1, fun j hj => by rw [show j = 0 by omega]; exact k2, ?_, rfl⟩
  rw [cbn_one, hr, k3]

/-- What is left begins with the next value's bits. -/
theorem Fullw.left {W K : Nat} {bs : List Nat} {n k : Nat} {f : Nat → Nat} {l1 : List Bool} {e1 : Int} {L N : Nat} (T : Fullw W K bs n (k + 1) f l1 e1 L N) (hk : k + 1 < n) {h : Nat → Nat} (hP : PacksW W K bs h n) : ∃ r, l1 = xb W K L N (h (k + 1) ^^^ h k) ++ r ∧ h (k + 1) ^^^ h k < 2 ^ W := by
  obtain ⟨q1, q2, q3, q4⟩ := T h hP
  obtain ⟨r, hr⟩ := packsW_rbits hP
  obtain ⟨r1, h3⟩ := cbn_prefix W K h (k + 2) n (by omega)
  rw [h3, cbn_step, List.append_assoc, List.append_assoc, q3] at hr
  have e := List.append_cancel_left hr
  have q4 : (L, N) = win W K h k := q4
  refine ⟨r1 ++ r, ?_, xor_lt W _ _ (hP.1 _ hk) (hP.1 _ (by omega))⟩
  rw [e]
  unfold xbf
  rw [← q4]

theorem Fullw.next {W K : Nat} {bs : List Nat} {n k : Nat} {f f' : Nat → Nat} {l1 l' : List Bool} {e1 e2 : Int} {L N L' N' x : Nat} (T : Fullw W K bs n (k + 1) f l1 e1 L N) (hk : k + 1 < n) (hT : Taken W K L N l1 e1 x L' N' l' e2) (hf : ∀ j, j < k + 1 → f' j = f j) (hx : f' (k + 1) = f k ^^^ x) : Fullw W K bs n (k + 2) f' l' e2 L' N' := by
  intro h hP
  obtain ⟨q1, q2, q3, q4⟩ := T h hP
  obtain ⟨r, hr, hy⟩ := T.left hk hP
  obtain ⟨k1, k2, k3, k4⟩ := hT q1 _ r hy hr
  have q4 : (L, N) = win W K h k := q4
  refine ⟨k1, fun j hj => ?_, ?_, ?_⟩
  · by_cases e : j = k + 1
    · subst e
      rw [hx, k2, q2 k (by omega), Nat.xor_comm (h (k + 1)), ← Nat.xor_assoc, Nat.xor_self, Nat.zero_xor]
    · rw [hf j (by omega)]; exact q2 j (by omega)
  · rw [cbn_step, List.append_assoc, q3, hr, k3]
    unfold xbf
    rw [← q4]
  · rw [k4, q4]; rfl

theorem Fullw.far {W K : Nat} {bs : List Nat} {n k : Nat} {f : Nat → Nat} {l1 : List Bool} {e1 : Int} {L N : Nat} (T : Fullw W K bs n (k + 1) f l1 e1 L N) (hk : k + 1 < n) (hF : e1 = 0 → ∀ y r, y < 2 ^ W → l1 ≠ xb W K L N y ++ r) : ¬ ∃ h, PacksW W K bs h n := by
  rintro ⟨h, hP⟩
  obtain ⟨q1, _⟩ := T h hP
  obtain ⟨r, hr, hy⟩ := T.left hk hP
  exact hF q1 _ r hy hr

end Go.Proofs.YtnjcedlbdjidiaaGreatDoor.M

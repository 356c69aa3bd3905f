/- What comes in: columns, bytes, numbers, and that a machine can hold them. -/
import Derived.Test.YtenhippcjnemcaaDoorP2B
import Derived.ProofKit
import Derived.OpenShut
import Derived.Deep.Slices
import Derived.Lib.SmallJoins
import Derived.Deep.MidRow
import Derived.SizedLaws
namespace Go.Proofs.YtenhippcjnemcaaDoor
open Go.ChangeShapes Go.WideShapes Go.Deep Go.Joins
open Go.RowKit (Below)
open M
set_option linter.unusedVariables false
set_option linter.unusedSimpArgs false

/-- An int64. -/
def I64 (x : Int) : Prop := -9223372036854775808 ≤ x ∧ x ≤ 9223372036854775807
/-- A slice of bytes. -/
def IsB (w : World) (v : Value) : Prop := ∃ p n cap bs, v = .slice p n cap ∧ (n ≤ 9223372036854775807 ∧ n ≤ cap) ∧ IsBy w (.slice p n cap) bs ∧ bs.length = n ∧ ∀ x ∈ bs, x < 256
/-- An int. -/
def IsN (w : World) (v : Value) : Prop := ∃ z : Int, v = .int .i64 z ∧ I64 z
theorem IsN.below {w w' : World} {v : Value} (h : IsN w v) (hB : Below w.heap.size w w') : IsN w' v := h
/-- A slice of bytes that a machine can hold. -/
def IsBs (w : World) (v : Value) : Prop := ∃ p n cap bs, v = .slice p n cap ∧ n ≤ 140737488355328 ∧ IsBy w (.slice p n cap) bs ∧ bs.length = n ∧ ∀ x ∈ bs, x < 256
theorem IsBs.below {w w' : World} {v : Value} (h : IsBs w v) (hB : Below w.heap.size w w') : IsBs w' v := by
  obtain ⟨p, n, cap, f, h1, h2, h3, h4⟩ := h
  exact ⟨p, n, cap, f, h1, h2, isBy_below h3 hB, h4⟩

/-- A slice of values of 64 bits that a machine can hold. -/
def IsU64 (w : World) (v : Value) : Prop := ∃ p n cap f, v = .slice p n cap ∧ n ≤ 140737488355328 ∧ n ≤ cap ∧ URow64 w p n f ∧ ∀ i, i < n → f i < 18446744073709551616
theorem IsU64.below {w w' : World} {v : Value} (h : IsU64 w v) (hB : Below w.heap.size w w') : IsU64 w' v := by
  obtain ⟨p, n, cap, f, h1, h2, h3, h4, h5⟩ := h
  exact ⟨p, n, cap, f, h1, h2, h3, h4.below hB, h5⟩

/-- A slice of values of 32 bits that a machine can hold. -/
def IsU32 (w : World) (v : Value) : Prop := ∃ p n cap f, v = .slice p n cap ∧ n ≤ 140737488355328 ∧ n ≤ cap ∧ URow32 w p n f ∧ ∀ i, i < n → f i < 4294967296
theorem IsU32.below {w w' : World} {v : Value} (h : IsU32 w v) (hB : Below w.heap.size w w') : IsU32 w' v := by
  obtain ⟨p, n, cap, f, h1, h2, h3, h4, h5⟩ := h
  exact ⟨p, n, cap, f, h1, h2, h3, h4.below hB, h5⟩

/-- A slice of things that are each S. -/
def RowsOf (S : World → Value → Prop) (w : World) (a : Option Addr) (n : Nat) : Prop :=
  n ≤ 9223372036854775807 ∧ (0 < n → ∃ b o, a = some ⟨b, o, none⟩ ∧ ∀ i, i < n → ∃ v, w.cell? ⟨b, o + i, none⟩ = some v ∧ S w v)

theorem RowsOf.below {S : World → Value → Prop} (hS : ∀ {w w' : World} {v : Value}, S w v → Below w.heap.size w w' → S w' v) {w w' : World} {a : Option Addr} {n : Nat} (h : RowsOf S w a n) (hB : Below w.heap.size w w') : RowsOf S w' a n :=
  ⟨h.1, fun h0 => by
    obtain ⟨b, o, ha, hc⟩ := h.2 h0
    refine ⟨b, o, ha, fun i hi => ?_⟩
    obtain ⟨v, h1, h2⟩ := hc i hi
    exact ⟨v, by rw [hB.cell (p := ⟨b, o + i, none⟩) (block_lt_of_cell h1)]; exact h1, hS h2 hB⟩⟩

theorem cells_one {w : World} {base : Nat} {a : Addr} {cs : List Value} (h : w.cells? base a 1 = some cs) : ∃ v, cs = [v] ∧ w.cell? a = some v := by
  unfold World.cells? at h
  split at h
  · have e : List.range 1 = [0] := rfl
    rw [e] at h
    simp only [List.mapM_cons, List.mapM_nil, Option.bind_eq_bind, Option.bind_eq_some_iff, Option.pure_def, Option.some.injEq] at h
    obtain ⟨a0, h0, l0, rfl, rfl⟩ := h
    exact ⟨a0, rfl, by simpa [Addr.add] using h0⟩
  · cases h

/-- A machine can hold it. -/
def Sz {H : Type} (ty : TypeId) (d : DataW H) : Prop := ∀ n ∈ d.weights Tryd.prog ty, n ≤ reachBytes

theorem weightsAll_in {H : Type} {P : Program} {e : TypeId} : ∀ {l : List (DataW H)} {d : DataW H}, d ∈ l → ∀ n ∈ d.weights P e, n ∈ DataW.weightsAll P e l
  | _ :: l, d, h, n, hn => by
    rcases List.mem_cons.1 h with rfl | h
    · simp only [DataW.weightsAll, List.mem_append]; exact Or.inl hn
    · simp only [DataW.weightsAll, List.mem_append]; exact Or.inr (weightsAll_in h n hn)

section
variable {H : Type} {enc : TypeId × Value → H} {w : World} {base : Nat} {spare : Nat → Bool} {held : Bool}

theorem open_rowsOf {S : World → Value → Prop} {ty el : TypeId} (hu : Tryd.prog.underlying ty = some (.slice el)) (h1 : Tryd.prog.cellsOf el = 1) (hS : ∀ {m : Nat} {u : Value} {y : DataW H × List MemPlace}, DataW.trod enc Tryd.prog w base spare held m el [u] = some y → S w u)
    {fuel : Nat} {v : Value} {y : DataW H × List MemPlace} (h : DataW.trod enc Tryd.prog w base spare held fuel ty [v] = some y) : ∃ a len cap, v = .slice a len cap ∧ len ≤ cap ∧ RowsOf S w a len := by
  rcases open_slice hu h with ⟨h0, _⟩ | ⟨ad, len, cap, mm, n', D, Pl, hcs, _, hlc, hcm, hmm, _, hx⟩
  · simp only [List.cons.injEq, and_true] at h0
    exact ⟨none, 0, 0, h0, Nat.le_refl _, by omega, fun h => by omega⟩
  · simp only [List.cons.injEq, and_true] at hcs
    unfold maxLen at hcm
    refine ⟨some ad, len, cap, hcs, hlc, by omega, fun h0 => ?_⟩
    have hlm : len ≤ mm := by rw [hmm]; split <;> omega
    have one : ∀ i, i < len → ∃ u, w.cell? (ad.add i) = some u ∧ S w u := by
      intro i hi
      obtain ⟨cs', hc, ht⟩ := hx i (by omega)
      rw [h1, Nat.mul_one] at hc
      obtain ⟨u, rfl, hcell⟩ := cells_one hc
      exact ⟨u, hcell, hS ht⟩
    obtain ⟨b, off, spot⟩ := ad
    obtain ⟨u0, h00, _⟩ := one 0 h0
    have hspot : spot = none := by simpa [Addr.add] using World.cell?_spot h00
    subst hspot
    refine ⟨b, off, rfl, fun j hj => ?_⟩
    obtain ⟨u, hu, hr⟩ := one j hj
    rw [Addr.add_mid] at hu
    exact ⟨u, hu, hr⟩

theorem open_n {m : Nat} {u : Value} {y : DataW H × List MemPlace} (h : DataW.trod enc Tryd.prog w base spare held m 3 [u] = some y) : IsN w u := by
  obtain ⟨z, e0, _, w0⟩ := DataW.trod_int Tryd.underlying3 h
  simp only [List.cons.injEq, and_true] at e0
  have b := bounds_i64 w0
  exact ⟨z, e0, by unfold I64; omega⟩

theorem open_n8 {m : Nat} {u : Value} {y : DataW H × List MemPlace} (h : DataW.trod enc Tryd.prog w base spare held m 5 [u] = some y) : ∃ q : Nat, u = .int .u8 (q : Int) ∧ q < 256 := by
  obtain ⟨z, e0, _, w0⟩ := DataW.trod_int Tryd.underlying5 h
  simp only [List.cons.injEq, and_true] at e0
  have b := bounds_u8 w0
  exact ⟨z.toNat, by rw [e0, Int.toNat_of_nonneg b.1], by omega⟩

theorem open_b {m : Nat} {u : Value} {y : DataW H × List MemPlace} (h : DataW.trod enc Tryd.prog w base spare held m 34 [u] = some y) : IsB w u := by
  rcases open_slice Tryd.underlying34 h with ⟨h0, _⟩ | _
  · simp only [List.cons.injEq, and_true] at h0
    exact ⟨none, 0, 0, [], h0, by omega, .inl (.inl ⟨rfl, rfl⟩), rfl, by simp⟩
  obtain ⟨a, len, cap, rfl, hlc, hl, hr⟩ := open_rowsOf (S := fun w v => ∃ q : Nat, v = .int .u8 (q : Int) ∧ q < 256) Tryd.underlying34 (by kernel_rfl) (fun h => open_n8 h) h
  by_cases h0 : len = 0
  · subst h0
    refine ⟨a, 0, cap, [], rfl, ⟨hl, hlc⟩, ?_, rfl, by simp⟩
    cases a with
    | none =>
      rcases open_slice Tryd.underlying34 h with ⟨h0, _⟩ | ⟨ad, len, cap, mm, n', D, Pl, hcs, _⟩
      · simp only [List.cons.injEq, and_true] at h0
        rw [h0]; exact .inl (.inl ⟨rfl, rfl⟩)
      · simp only [List.cons.injEq, and_true, Value.slice.injEq] at hcs
        cases hcs.1
    | some ad => exact .inr ⟨ad, cap, rfl, rfl⟩
  obtain ⟨b, o, ha, hc⟩ := hr (by omega)
  have : ∀ i, i < len → ∃ q : Nat, w.cell? ⟨b, o + i, none⟩ = some (.int .u8 (q : Int)) ∧ q < 256 := fun i hi => by
    obtain ⟨v, h1, q, rfl, h2⟩ := hc i hi
    exact ⟨q, h1, h2⟩
  obtain ⟨f, hf⟩ := choose_lt this
  have hll : ((List.range len).map f).length = len := by simp
  refine ⟨a, len, cap, (List.range len).map f, rfl, ⟨hl, hlc⟩, .inl (.inr ⟨b, o, cap, by rw [ha, hll], fun i hi => ?_⟩), hll, fun x hx => ?_⟩
  · rw [hll] at hi
    rw [(hf i hi).1]
    simp [List.getD, hi]
  · simp only [List.mem_map, List.mem_range] at hx
    obtain ⟨i, hi, rfl⟩ := hx
    exact (hf i hi).2

theorem open_rowsSz {S : World → Value → Prop} {ty el : TypeId} (hu : Tryd.prog.underlying ty = some (.slice el)) (h1 : Tryd.prog.cellsOf el = 1) (hS : ∀ {m : Nat} {u : Value} {y : DataW H × List MemPlace}, DataW.trod enc Tryd.prog w base spare held m el [u] = some y → Sz el y.1 → S w u)
    {fuel : Nat} {v : Value} {y : DataW H × List MemPlace} (h : DataW.trod enc Tryd.prog w base spare held fuel ty [v] = some y) (hz : Sz ty y.1) : ∃ a len cap, v = .slice a len cap ∧ len ≤ cap ∧ len * Tryd.prog.bytesOf el ≤ reachBytes ∧ RowsOf S w a len := by
  rcases open_slice hu h with ⟨h0, _⟩ | ⟨ad, len, cap, mm, n', D, Pl, hcs, _, hlc, hcm, hmm, hy, hx⟩
  · simp only [List.cons.injEq, and_true] at h0
    exact ⟨none, 0, 0, h0, Nat.le_refl _, by omega, by omega, fun h => by omega⟩
  · simp only [List.cons.injEq, and_true] at hcs
    unfold maxLen at hcm
    have hlm : len ≤ mm := by rw [hmm]; split <;> omega
    subst hy
    have hzz := hz
    unfold Sz at hzz
    simp only [DataW.weights, hu, List.length_map, List.length_range, List.mem_cons, List.mem_append] at hzz
    have hb : (len + (mm - len)) * Tryd.prog.bytesOf el ≤ reachBytes := hzz _ (Or.inl rfl)
    refine ⟨some ad, len, cap, hcs, hlc, Nat.le_trans (Nat.mul_le_mul_right _ (by omega)) hb, by omega, fun h0 => ?_⟩
    have one : ∀ i, i < len → ∃ u, w.cell? (ad.add i) = some u ∧ S w u := by
      intro i hi
      obtain ⟨cs', hc, ht⟩ := hx i (by omega)
      rw [h1, Nat.mul_one] at hc
      obtain ⟨u, rfl, hcell⟩ := cells_one hc
      refine ⟨u, hcell, hS ht fun n hn => hzz n (Or.inr (Or.inl ?_))⟩
      exact weightsAll_in (List.mem_map.2 ⟨i, List.mem_range.2 hi, rfl⟩) n hn
    obtain ⟨b, off, spot⟩ := ad
    obtain ⟨u0, h00, _⟩ := one 0 h0
    have hspot : spot = none := by simpa [Addr.add] using World.cell?_spot h00
    subst hspot
    refine ⟨b, off, rfl, fun j hj => ?_⟩
    obtain ⟨u, hu, hr⟩ := one j hj
    rw [Addr.add_mid] at hu
    exact ⟨u, hu, hr⟩

theorem open_bs {m : Nat} {u : Value} {y : DataW H × List MemPlace} (h : DataW.trod enc Tryd.prog w base spare held m 34 [u] = some y) (hz : Sz 34 y.1) : IsBs w u := by
  obtain ⟨p, n, cap, bs, rfl, _, h2, h3, h4⟩ := open_b h
  obtain ⟨a, len, cap', e, _, hb, _⟩ := open_rowsSz (S := fun _ _ => True) Tryd.underlying34 (by kernel_rfl) (fun _ _ => trivial) h hz
  have hb8 : Tryd.prog.bytesOf 5 = 1 := by kernel_rfl
  rw [hb8] at hb
  simp only [Value.slice.injEq] at e
  obtain ⟨_, rfl, _⟩ := e
  have := reachBytes_lt
  exact ⟨p, n, cap, bs, rfl, by omega, h2, h3, h4⟩


theorem open_v64 {m : Nat} {u : Value} {y : DataW H × List MemPlace} (h : DataW.trod enc Tryd.prog w base spare held m 39 [u] = some y) : ∃ q : Nat, u = .int .u64 (q : Int) ∧ q < 18446744073709551616 := by
  obtain ⟨z, e0, _, w0⟩ := DataW.trod_int Tryd.underlying39 h
  simp only [List.cons.injEq, and_true] at e0
  have b := bounds_u64 w0
  exact ⟨z.toNat, by rw [e0, Int.toNat_of_nonneg b.1], by omega⟩

theorem open_u64 {m : Nat} {u : Value} {y : DataW H × List MemPlace} (h : DataW.trod enc Tryd.prog w base spare held m 28 [u] = some y) (hz : Sz 28 y.1) : IsU64 w u := by
  obtain ⟨a, len, cap, rfl, hlc, hb, hl, hr⟩ := open_rowsSz (S := fun _ v => ∃ q : Nat, v = .int .u64 (q : Int) ∧ q < 18446744073709551616) Tryd.underlying28 (by kernel_rfl) (fun h _ => open_v64 h) h hz
  have hb8 : Tryd.prog.bytesOf 39 = 8 := by kernel_rfl
  rw [hb8] at hb
  have := reachBytes_lt
  by_cases h0 : len = 0
  · subst h0; exact ⟨a, 0, cap, fun _ => 0, rfl, by omega, hlc, URow64.nil _ _ _, fun i hi => by omega⟩
  obtain ⟨b, o, ha, hc⟩ := hr (by omega)
  have : ∀ i, i < len → ∃ q : Nat, w.cell? ⟨b, o + i, none⟩ = some (.int .u64 (q : Int)) ∧ q < 18446744073709551616 := fun i hi => by
    obtain ⟨v, h1, q, rfl, h2⟩ := hc i hi
    exact ⟨q, h1, h2⟩
  obtain ⟨f, hf⟩ := choose_lt this
  exact ⟨a, len, cap, f, rfl, by omega, hlc, fun _ => ⟨b, o, ha, fun i hi => (hf i hi).1⟩, fun i hi => (hf i hi).2⟩

theorem open_v32 {m : Nat} {u : Value} {y : DataW H × List MemPlace} (h : DataW.trod enc Tryd.prog w base spare held m 42 [u] = some y) : ∃ q : Nat, u = .int .u32 (q : Int) ∧ q < 4294967296 := by
  obtain ⟨z, e0, _, w0⟩ := DataW.trod_int Tryd.underlying42 h
  simp only [List.cons.injEq, and_true] at e0
  have b := bounds_u32 w0
  exact ⟨z.toNat, by rw [e0, Int.toNat_of_nonneg b.1], by omega⟩

theorem open_u32 {m : Nat} {u : Value} {y : DataW H × List MemPlace} (h : DataW.trod enc Tryd.prog w base spare held m 30 [u] = some y) (hz : Sz 30 y.1) : IsU32 w u := by
  obtain ⟨a, len, cap, rfl, hlc, hb, hl, hr⟩ := open_rowsSz (S := fun _ v => ∃ q : Nat, v = .int .u32 (q : Int) ∧ q < 4294967296) Tryd.underlying30 (by kernel_rfl) (fun h _ => open_v32 h) h hz
  have hb8 : Tryd.prog.bytesOf 42 = 4 := by kernel_rfl
  rw [hb8] at hb
  have := reachBytes_lt
  by_cases h0 : len = 0
  · subst h0; exact ⟨a, 0, cap, fun _ => 0, rfl, by omega, hlc, URow32.nil _ _ _, fun i hi => by omega⟩
  obtain ⟨b, o, ha, hc⟩ := hr (by omega)
  have : ∀ i, i < len → ∃ q : Nat, w.cell? ⟨b, o + i, none⟩ = some (.int .u32 (q : Int)) ∧ q < 4294967296 := fun i hi => by
    obtain ⟨v, h1, q, rfl, h2⟩ := hc i hi
    exact ⟨q, h1, h2⟩
  obtain ⟨f, hf⟩ := choose_lt this
  exact ⟨a, len, cap, f, rfl, by omega, hlc, fun _ => ⟨b, o, ha, fun i hi => (hf i hi).1⟩, fun i hi => (hf i hi).2⟩

set_option maxRecDepth 100000 in
theorem open_columns {r : Reach} {b0 : Nat} {v : Value} {d : DataW H} {p : List MemPlace} (hv : Value.okWide Tryd.prog w r b0 27 v) (h : DataW.Trod enc Tryd.prog w base spare held 27 v d p) (hz : Sz 27 d) :
    ∃ aW nW cW aR nR cR aB nB cB aN nN cN, v = .agg #[.slice aW nW cW, .slice aR nR cR, .slice aB nB cB, .slice aN nN cN] ∧ RowsOf IsU64 w aW nW ∧ RowsOf IsU32 w aR nR ∧ RowsOf IsBs w aB nB ∧ RowsOf IsN w aN nN := by
  obtain ⟨v0, v1, v2, v3, y0, y1, y2, y3, n, rfl, hd, _, h0, h1, h2, h3⟩ := open_agg4 Tryd.underlying27 (by kernel_rfl) (by kernel_rfl) hv h
  subst hd
  have z0 : Sz 22 y0.1 := fun n hn => hz n (by
    simp only [DataW.weights, Tryd.underlying27]
    exact DataW.weights_mem_each (j := 0) rfl rfl n hn)
  have z1 : Sz 23 y1.1 := fun n hn => hz n (by
    simp only [DataW.weights, Tryd.underlying27]
    exact DataW.weights_mem_each (j := 1) rfl rfl n hn)
  have z2 : Sz 24 y2.1 := fun n hn => hz n (by
    simp only [DataW.weights, Tryd.underlying27]
    exact DataW.weights_mem_each (j := 2) rfl rfl n hn)
  obtain ⟨aW, nW, cW, rfl, _, _, hW⟩ := open_rowsSz (S := IsU64) Tryd.underlying22 (by kernel_rfl) (fun h hz => open_u64 h hz) h0 z0
  obtain ⟨aR, nR, cR, rfl, _, _, hR⟩ := open_rowsSz (S := IsU32) Tryd.underlying23 (by kernel_rfl) (fun h hz => open_u32 h hz) h1 z1
  obtain ⟨aB, nB, cB, rfl, _, _, hB⟩ := open_rowsSz (S := IsBs) Tryd.underlying24 (by kernel_rfl) (fun h hz => open_bs h hz) h2 z2
  obtain ⟨aN, nN, cN, rfl, _, hN⟩ := open_rowsOf (S := IsN) Tryd.underlying25 (by kernel_rfl) (fun h => open_n h) h3
  exact ⟨aW, nW, cW, aR, nR, cR, aB, nB, cB, aN, nN, cN, rfl, hW, hR, hB, hN⟩
set_option maxRecDepth 100000 in
theorem open_turned {r : Reach} {b0 : Nat} {v : Value} {d : DataW H} {p : List MemPlace} (hv : Value.okWide Tryd.prog w r b0 48 v) (h : DataW.Trod enc Tryd.prog w base spare held 48 v d p) (hz : Sz 48 d) :
    ∃ v0 v1 by_, v = .agg #[v0, v1, .int .u64 ((by_ : Nat) : Int)] ∧ by_ < 18446744073709551616 ∧ IsU64 w v0 ∧ IsU32 w v1 := by
  obtain ⟨v0, v1, v2, y0, y1, y2, n, rfl, hd, _, h0, h1, h2⟩ := open_agg3 Tryd.underlying48 (by kernel_rfl) (by kernel_rfl) hv h
  subst hd
  have z0 : Sz 28 y0.1 := fun n hn => hz n (by
    simp only [DataW.weights, Tryd.underlying48]
    exact DataW.weights_mem_each (j := 0) rfl rfl n hn)
  have z1 : Sz 30 y1.1 := fun n hn => hz n (by
    simp only [DataW.weights, Tryd.underlying48]
    exact DataW.weights_mem_each (j := 1) rfl rfl n hn)
  obtain ⟨q, rfl, hq⟩ := open_v64 h2
  exact ⟨v0, v1, q, rfl, hq, open_u64 h0 z0, open_u32 h1 z1⟩
end
end Go.Proofs.YtenhippcjnemcaaDoor

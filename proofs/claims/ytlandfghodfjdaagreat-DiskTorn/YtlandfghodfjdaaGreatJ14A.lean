/- What comes in: slices of structs that a machine can hold, files, ops. -/
import Derived.Test.YtlandfghodfjdaaGreatJ12X
import Derived.Lay
import Derived.ProofKit
import Derived.OpenShut
import Derived.Deep.Slices
import Derived.Lib.SmallJoins
import Derived.Deep.MidRow
import Derived.SizedLaws
import Derived.DataReads
namespace Go.Proofs.YtlandfghodfjdaaGreat
open Go.ChangeShapes Go.WideShapes Go.Deep Go.Joins
open Go.RowKit (Below)
set_option linter.unusedVariables false
set_option linter.unusedSimpArgs false

/-- A machine can hold it. -/
def Sz {H : Type} (ty : TypeId) (d : DataW H) : Prop := ∀ n ∈ d.weights Tryz.prog ty, n ≤ reachBytes

theorem weightsAll_in {H : Type} {P : Program} {e : TypeId} : ∀ {l : List (DataW H)} {d : DataW H}, d ∈ l → ∀ n ∈ d.weights P e, n ∈ DataW.weightsAll P e l
  | _ :: l, d, h, n, hn => by
    rcases List.mem_cons.1 h with rfl | h
    · simp only [DataW.weightsAll, List.mem_append]; exact Or.inl hn
    · simp only [DataW.weightsAll, List.mem_append]; exact Or.inr (weightsAll_in h n hn)

theorem list9 {α : Type} {cs : List α} (h : cs.length = 9) : ∃ c0 c1 c2 c3 c4 c5 c6 c7 c8, cs = [c0, c1, c2, c3, c4, c5, c6, c7, c8] := by
  match cs, h with
  | [c0, c1, c2, c3, c4, c5, c6, c7, c8], _ => exact ⟨c0, c1, c2, c3, c4, c5, c6, c7, c8, rfl⟩
theorem list2' {α : Type} {l : List α} (h : l.length = 2) : ∃ a b, l = [a, b] := by
  match l, h with
  | [a, b], _ => exact ⟨a, b, rfl⟩

section
variable {H : Type} {enc : TypeId × Value → H} {w : World} {base : Nat} {spare : Nat → Bool} {held : Bool}

theorem open_elemsSz {ty el : TypeId} {k : Nat} (hu : Tryz.prog.underlying ty = some (.slice el)) (hk : Tryz.prog.cellsOf el = k) (hk0 : 0 < k) {fuel : Nat} {v : Value} {y : DataW H × List MemPlace} (h : DataW.trod enc Tryz.prog w base spare held fuel ty [v] = some y) (hz : Sz ty y.1) :
    ∃ a len cap, v = .slice a len cap ∧ len ≤ cap ∧ (a = none → cap = 0) ∧ len * Tryz.prog.bytesOf el ≤ reachBytes ∧ (0 < len → ∃ b off, a = some ⟨b, off, none⟩ ∧ ∀ i, i < len → ∃ cs' m y', cs'.length = k ∧ (∀ j, j < k → w.cell? ⟨b, off + i * k + j, none⟩ = cs'[j]?) ∧ DataW.trod enc Tryz.prog w base spare held m el cs' = some y' ∧ Sz el y'.1) := by
  rcases open_slice hu h with ⟨h0, _⟩ | ⟨ad, len, cap, mm, n', D, Pl, hcs, _, hlc, hcm, hmm, hy, hx⟩
  · simp only [List.cons.injEq, and_true] at h0
    exact ⟨none, 0, 0, h0, Nat.le_refl _, fun _ => rfl, by omega, fun h => by omega⟩
  · simp only [List.cons.injEq, and_true] at hcs
    have hlm : len ≤ mm := by rw [hmm]; split <;> omega
    subst hy
    have hzz := hz
    unfold Sz at hzz
    simp only [DataW.weights, hu, List.length_map, List.length_range, List.mem_cons, List.mem_append] at hzz
    have hb : (len + (mm - len)) * Tryz.prog.bytesOf el ≤ reachBytes := hzz _ (Or.inl rfl)
    refine ⟨some ad, len, cap, hcs, hlc, fun e => by simp at e, Nat.le_trans (Nat.mul_le_mul_right _ (by omega)) hb, fun h0 => ?_⟩
    have one : ∀ i, i < len → ∃ cs', cs'.length = k ∧ (∀ j, j < k → w.cell? ((ad.add (i * k)).add j) = cs'[j]?) ∧ DataW.trod enc Tryz.prog w base spare held n' el cs' = some (D i, Pl i) ∧ Sz el (D i) := by
      intro i hi
      obtain ⟨cs', hc, ht⟩ := hx i (by omega)
      rw [hk] at hc
      obtain ⟨_, h1, h2⟩ := World.cells?_some hc
      exact ⟨cs', h1, h2, ht, fun n hn => hzz n (Or.inr (Or.inl (weightsAll_in (List.mem_map.2 ⟨i, List.mem_range.2 hi, rfl⟩) n hn)))⟩
    obtain ⟨b, off, spot⟩ := ad
    obtain ⟨cs0, l0, h00, _⟩ := one 0 h0
    have h01 := h00 0 hk0
    rw [List.getElem?_eq_getElem (by omega)] at h01
    have hspot : spot = none := by simpa [Addr.add] using World.cell?_spot h01
    subst hspot
    refine ⟨b, off, rfl, fun i hi => ?_⟩
    obtain ⟨cs', g1, g2, g3, g4⟩ := one i hi
    refine ⟨cs', n', _, g1, fun j hj => ?_, g3, g4⟩
    have := g2 j hj
    simp only [Addr.add_mid] at this
    exact this

theorem cells_fields2 {P : Program} {t : TypeId} {f0 f1 : Field} {m : Nat} {cs : List Value} {y : DataW H × List MemPlace} (hs : P.underlying t = some (.struct #[f0, f1])) (hone : oneCellFields P #[f0, f1] = true) (hC : P.cellsOf t = 2) (h : DataW.trod enc P w base spare held m t cs = some y) :
    ∃ (v0 v1 : Value) (y0 y1 : DataW H × List MemPlace) (n : Nat), cs = [v0, v1] ∧ y.1 = .agg [y0.1, y1.1] ∧ DataW.trod enc P w base spare held n f0.type [v0] = some y0 ∧ DataW.trod enc P w base spare held n f1.type [v1] = some y1 := by
  obtain ⟨xs, n, _, hx, hl, hlen, hff⟩ := DataW.trod_struct hs h
  rw [hC] at hl
  obtain ⟨v0, v1, rfl⟩ := list2' hl
  obtain ⟨y0, y1, rfl⟩ := list2' (l := xs) hlen
  obtain ⟨o0, k0⟩ := hone_of hone 0 f0 rfl
  have g0 := hff 0 f0 rfl
  obtain ⟨o1, k1⟩ := hone_of hone 1 f1 rfl
  have g1 := hff 1 f1 rfl
  exact ⟨v0, v1, y0, y1, n, rfl, by rw [hx]; rfl, by simpa [o0, k0] using g0, by simpa [o1, k1] using g1⟩

theorem cells_fields9 {P : Program} {t : TypeId} {f0 f1 f2 f3 f4 f5 f6 f7 f8 : Field} {m : Nat} {cs : List Value} {y : DataW H × List MemPlace} (hs : P.underlying t = some (.struct #[f0, f1, f2, f3, f4, f5, f6, f7, f8])) (hone : oneCellFields P #[f0, f1, f2, f3, f4, f5, f6, f7, f8] = true) (hC : P.cellsOf t = 9) (h : DataW.trod enc P w base spare held m t cs = some y) :
    ∃ (v0 v1 v2 v3 v4 v5 v6 v7 v8 : Value) (y0 y1 y2 y3 y4 y5 y6 y7 y8 : DataW H × List MemPlace) (n : Nat), cs = [v0, v1, v2, v3, v4, v5, v6, v7, v8] ∧ y.1 = .agg [y0.1, y1.1, y2.1, y3.1, y4.1, y5.1, y6.1, y7.1, y8.1] ∧ DataW.trod enc P w base spare held n f0.type [v0] = some y0 ∧ DataW.trod enc P w base spare held n f1.type [v1] = some y1 ∧ DataW.trod enc P w base spare held n f2.type [v2] = some y2 ∧ DataW.trod enc P w base spare held n f3.type [v3] = some y3 ∧ DataW.trod enc P w base spare held n f4.type [v4] = some y4 ∧ DataW.trod enc P w base spare held n f5.type [v5] = some y5 ∧ DataW.trod enc P w base spare held n f6.type [v6] = some y6 ∧ DataW.trod enc P w base spare held n f7.type [v7] = some y7 ∧ DataW.trod enc P w base spare held n f8.type [v8] = some y8 := by
  obtain ⟨xs, n, _, hx, hl, hlen, hff⟩ := DataW.trod_struct hs h
  rw [hC] at hl
  obtain ⟨v0, v1, v2, v3, v4, v5, v6, v7, v8, rfl⟩ := list9 hl
  obtain ⟨y0, y1, y2, y3, y4, y5, y6, y7, y8, rfl⟩ := list9 (cs := xs) hlen
  obtain ⟨o0, k0⟩ := hone_of hone 0 f0 rfl
  have g0 := hff 0 f0 rfl
  obtain ⟨o1, k1⟩ := hone_of hone 1 f1 rfl
  have g1 := hff 1 f1 rfl
  obtain ⟨o2, k2⟩ := hone_of hone 2 f2 rfl
  have g2 := hff 2 f2 rfl
  obtain ⟨o3, k3⟩ := hone_of hone 3 f3 rfl
  have g3 := hff 3 f3 rfl
  obtain ⟨o4, k4⟩ := hone_of hone 4 f4 rfl
  have g4 := hff 4 f4 rfl
  obtain ⟨o5, k5⟩ := hone_of hone 5 f5 rfl
  have g5 := hff 5 f5 rfl
  obtain ⟨o6, k6⟩ := hone_of hone 6 f6 rfl
  have g6 := hff 6 f6 rfl
  obtain ⟨o7, k7⟩ := hone_of hone 7 f7 rfl
  have g7 := hff 7 f7 rfl
  obtain ⟨o8, k8⟩ := hone_of hone 8 f8 rfl
  have g8 := hff 8 f8 rfl
  exact ⟨v0, v1, v2, v3, v4, v5, v6, v7, v8, y0, y1, y2, y3, y4, y5, y6, y7, y8, n, rfl, by rw [hx]; rfl, by simpa [o0, k0] using g0, by simpa [o1, k1] using g1, by simpa [o2, k2] using g2, by simpa [o3, k3] using g3, by simpa [o4, k4] using g4, by simpa [o5, k5] using g5, by simpa [o6, k6] using g6, by simpa [o7, k7] using g7, by simpa [o8, k8] using g8⟩

/-- Bytes that came in. -/
def ByIn (w : World) (u : Value) (bs : List Nat) : Prop := ∃ p n cap, u = .slice p n cap ∧ n ≤ 140737488355328 ∧ n ≤ cap ∧ (p = none → cap = 0) ∧ IsBy w (.slice p n cap) bs ∧ n = bs.length ∧ ∀ x ∈ bs, x < 256

theorem open_byIn {m : Nat} {u : Value} {y : DataW H × List MemPlace} (h : DataW.trod enc Tryz.prog w base spare held m 33 [u] = some y) (hz : Sz 33 y.1) : ∃ bs, ByIn w u bs := by
  obtain ⟨a, len, cap, rfl, hlc, hnc, hb, hr⟩ := open_elemsSz (k := 1) Tryz.underlying33 (by kernel_rfl) (by decide) h hz
  have hb8 : Tryz.prog.bytesOf 5 = 1 := by kernel_rfl
  rw [hb8] at hb
  have hrl := reachBytes_lt
  by_cases h0 : len = 0
  · subst h0
    refine ⟨[], a, 0, cap, rfl, by omega, hlc, hnc, ?_, rfl, by simp⟩
    cases a with
    | none =>
      rw [hnc rfl]
      exact .inl (.inl ⟨rfl, rfl⟩)
    | some ad => exact .inr ⟨ad, cap, rfl, rfl⟩
  obtain ⟨b, o, ha, hc⟩ := hr (by omega)
  have : ∀ i, i < len → ∃ q : Nat, w.cell? ⟨b, o + i, none⟩ = some (.int .u8 (q : Int)) ∧ q < 256 := fun i hi => by
    obtain ⟨cs', m', y', g1, g2, g3, g4⟩ := hc i hi
    match cs', g1 with
    | [u], _ =>
      have g2 := g2 0 (by decide)
      obtain ⟨z, e0, _, w0⟩ := DataW.trod_int Tryz.underlying5 g3
      simp only [List.cons.injEq, and_true] at e0
      have bb := bounds_u8 w0
      refine ⟨z.toNat, ?_, by omega⟩
      rw [Int.toNat_of_nonneg bb.1]
      simpa [e0] using g2
  obtain ⟨f, hf⟩ := choose_lt this
  have hll : ((List.range len).map f).length = len := by simp
  refine ⟨(List.range len).map f, a, len, cap, rfl, by omega, hlc, hnc, .inl (.inr ⟨b, o, cap, by rw [ha, hll], fun i hi => ?_⟩), hll.symm, fun x hx => ?_⟩
  · rw [hll] at hi
    rw [(hf i hi).1, show ((List.range len).map f).getD i 0 = f i from by simp [List.getD, hi]]
  · obtain ⟨i, hi, rfl⟩ := List.mem_map.1 hx
    exact (hf i (List.mem_range.1 hi)).2

/-- Files that came in. -/
def FilesIn (w : World) (v : Value) : Prop := ∃ vals fs, FilesR w v vals fs ∧ fs.length ≤ 140737488355328 ∧ ∀ i, i < fs.length → (fs.getD i (.empty, [])).1.size ≤ 140737488355328 ∧ ByIn w (vals.getD i (.slice none 0 0)) (fs.getD i (.empty, [])).2

theorem open_str {m : Nat} {u : Value} {y : DataW H × List MemPlace} (h : DataW.trod enc Tryz.prog w base spare held m 9 [u] = some y) (hz : Sz 9 y.1) : ∃ s : ByteArray, u = .string s ∧ s.size ≤ 140737488355328 := by
  obtain ⟨s, e, e2, _⟩ := DataW.trod_string Tryz.underlying9 h
  simp only [List.cons.injEq, and_true] at e
  have hrl := reachBytes_lt
  have := hz s.size (by rw [e2]; simp [DataW.weights])
  exact ⟨s, e, by omega⟩

theorem open_i64 {m : Nat} {u : Value} {y : DataW H × List MemPlace} (h : DataW.trod enc Tryz.prog w base spare held m 3 [u] = some y) : ∃ z : Int, u = .int .i64 z ∧ -9223372036854775808 ≤ z ∧ z ≤ 9223372036854775807 := by
  obtain ⟨z, e, _, w1⟩ := DataW.trod_int Tryz.underlying3 h
  simp only [List.cons.injEq, and_true] at e
  exact ⟨z, e, by simpa [Lit.wf, IntKind.min, IntKind.max, IntKind.signed, IntKind.bits] using w1⟩

set_option maxRecDepth 100000 in
theorem open_files {fuel : Nat} {v : Value} {y : DataW H × List MemPlace} (h : DataW.trod enc Tryz.prog w base spare held fuel 34 [v] = some y) (hz : Sz 34 y.1) : FilesIn w v := by
  obtain ⟨a, len, cap, rfl, hlc, hnc, hb, hr⟩ := open_elemsSz (k := 2) Tryz.underlying34 (by kernel_rfl) (by decide) h hz
  have hb8 : Tryz.prog.bytesOf 74 = 40 := by kernel_rfl
  rw [hb8] at hb
  have hrl := reachBytes_lt
  by_cases h0 : len = 0
  · subst h0
    exact ⟨[], [], ⟨rfl, a, cap, rfl, fun i hi => by simp at hi⟩, by simp, fun i hi => by simp at hi⟩
  obtain ⟨b, o, ha, hc⟩ := hr (by omega)
  have : ∀ i, i < len → ∃ q : Value × ByteArray × List Nat, (w.cell? ⟨b, o + i * 2, none⟩ = some (.string q.2.1) ∧ w.cell? ⟨b, o + i * 2 + 1, none⟩ = some q.1) ∧ q.2.1.size ≤ 140737488355328 ∧ ByIn w q.1 q.2.2 := fun i hi => by
    obtain ⟨cs', m', y', g1, g2, g3, g4⟩ := hc i hi
    obtain ⟨v0, v1, y0, y1, n, rfl, hx, z0, z1⟩ := cells_fields2 Tryz.underlying74 (by kernel_rfl) (by kernel_rfl) g3
    have z0' : DataW.trod enc Tryz.prog w base spare held n 9 [v0] = some y0 := z0
    have z1' : DataW.trod enc Tryz.prog w base spare held n 33 [v1] = some y1 := z1
    have hz' := g4
    rw [hx] at hz'
    have s0 : Sz 9 y0.1 := fun n hn => hz' n (by
      simp only [DataW.weights, Tryz.underlying74]
      exact DataW.weights_mem_each (j := 0) rfl rfl n hn)
    have s1 : Sz 33 y1.1 := fun n hn => hz' n (by
      simp only [DataW.weights, Tryz.underlying74]
      exact DataW.weights_mem_each (j := 1) rfl rfl n hn)
    obtain ⟨s, rfl, hs⟩ := open_str z0' s0
    obtain ⟨bs, hbs⟩ := open_byIn z1' s1
    exact ⟨(v1, s, bs), ⟨g2 0 (by decide), g2 1 (by decide)⟩, hs, hbs⟩
  obtain ⟨f, hf⟩ := choose_lt this
  have hll : ((List.range len).map fun i => (f i).2).length = len := by simp
  have e1 : ∀ i, i < len → ((List.range len).map fun i => (f i).2).getD i (.empty, []) = (f i).2 := fun i hi => by simp [List.getD, hi]
  have e2 : ∀ i, i < len → ((List.range len).map fun i => (f i).1).getD i (.slice none 0 0) = (f i).1 := fun i hi => by simp [List.getD, hi]
  refine ⟨(List.range len).map fun i => (f i).1, (List.range len).map fun i => (f i).2, ⟨by simp, a, cap, by rw [hll], fun i hi => ?_⟩, by rw [hll]; omega, fun i hi => ?_⟩
  · rw [hll] at hi
    rw [e1 i hi, e2 i hi]
    exact ⟨b, o, ha, (hf i hi).1⟩
  · rw [hll] at hi
    rw [e1 i hi, e2 i hi]
    exact (hf i hi).2

/-- An op that came in. -/
structure OpIn (w : World) (b o : Nat) (dw on : Int) (nm tt : ByteArray) (pb : Option Addr) (nb cb : Nat) (z kp ls : Int) (fl : Value) (bs : List Nat) : Prop where
  c0 : w.cell? ⟨b, o, none⟩ = some (.int .i64 dw)
  c1 : w.cell? ⟨b, o + 1, none⟩ = some (.int .i64 on)
  c2 : w.cell? ⟨b, o + 2, none⟩ = some (.string nm)
  c3 : w.cell? ⟨b, o + 3, none⟩ = some (.string tt)
  c4 : w.cell? ⟨b, o + 4, none⟩ = some (.slice pb nb cb)
  c5 : w.cell? ⟨b, o + 5, none⟩ = some (.int .i64 z)
  c6 : w.cell? ⟨b, o + 6, none⟩ = some (.int .i64 kp)
  c7 : w.cell? ⟨b, o + 7, none⟩ = some (.int .i64 ls)
  c8 : w.cell? ⟨b, o + 8, none⟩ = some fl
  sz : nm.size ≤ 140737488355328 ∧ tt.size ≤ 140737488355328
  by_ : ByIn w (.slice pb nb cb) bs
  fl_ : FilesIn w fl
  r : (-9223372036854775808 ≤ dw ∧ dw ≤ 9223372036854775807) ∧ (-9223372036854775808 ≤ z ∧ z ≤ 9223372036854775807) ∧ (-9223372036854775808 ≤ kp ∧ kp ≤ 9223372036854775807) ∧ (-9223372036854775808 ≤ ls ∧ ls ≤ 9223372036854775807)

/-- Ops that came in. -/
def OpsIn (w : World) (p : Option Addr) (n : Nat) : Prop := ∀ i, i < n → ∃ b o dw on nm tt pb nb cb z kp ls fl bs, p = some ⟨b, o, none⟩ ∧ OpIn w b (o + i * 9) dw on nm tt pb nb cb z kp ls fl bs

set_option maxRecDepth 100000 in
theorem open_ops {fuel : Nat} {v : Value} {y : DataW H × List MemPlace} (h : DataW.trod enc Tryz.prog w base spare held fuel 23 [v] = some y) (hz : Sz 23 y.1) : ∃ p n cap, v = .slice p n cap ∧ n ≤ 140737488355328 ∧ OpsIn w p n := by
  obtain ⟨a, len, cap, rfl, hlc, hnc, hb, hr⟩ := open_elemsSz (k := 9) Tryz.underlying23 (by kernel_rfl) (by decide) h hz
  have hb8 : Tryz.prog.bytesOf 36 = 120 := by kernel_rfl
  rw [hb8] at hb
  have hrl := reachBytes_lt
  refine ⟨a, len, cap, rfl, by omega, fun i hi => ?_⟩
  obtain ⟨b, o, ha, hc⟩ := hr (by omega)
  obtain ⟨cs', m', y', g1, g2, g3, g4⟩ := hc i hi
  obtain ⟨v0, v1, v2, v3, v4, v5, v6, v7, v8, y0, y1, y2, y3, y4, y5, y6, y7, y8, n, rfl, hx, k0, k1, k2, k3, k4, k5, k6, k7, k8⟩ := cells_fields9 Tryz.underlying36 (by kernel_rfl) (by kernel_rfl) g3
  have hz' := g4
  rw [hx] at hz'
  have s2 : Sz 9 y2.1 := fun n hn => hz' n (by
    simp only [DataW.weights, Tryz.underlying36]
    exact DataW.weights_mem_each (j := 2) rfl rfl n hn)
  have s3 : Sz 9 y3.1 := fun n hn => hz' n (by
    simp only [DataW.weights, Tryz.underlying36]
    exact DataW.weights_mem_each (j := 3) rfl rfl n hn)
  have s4 : Sz 33 y4.1 := fun n hn => hz' n (by
    simp only [DataW.weights, Tryz.underlying36]
    exact DataW.weights_mem_each (j := 4) rfl rfl n hn)
  have s8 : Sz 34 y8.1 := fun n hn => hz' n (by
    simp only [DataW.weights, Tryz.underlying36]
    exact DataW.weights_mem_each (j := 8) rfl rfl n hn)
  obtain ⟨dw, rfl, r0⟩ := open_i64 k0
  obtain ⟨on, rfl, r1⟩ := open_i64 k1
  obtain ⟨nm, rfl, r2⟩ := open_str k2 s2
  obtain ⟨tt, rfl, r3⟩ := open_str k3 s3
  obtain ⟨bs, r4⟩ := open_byIn k4 s4
  obtain ⟨z, rfl, r5⟩ := open_i64 k5
  obtain ⟨kp, rfl, r6⟩ := open_i64 k6
  obtain ⟨ls, rfl, r7⟩ := open_i64 k7
  have r8 := open_files k8 s8
  obtain ⟨pb, nb, cb', rfl, r4'⟩ := id r4
  exact ⟨b, o, dw, on, nm, tt, pb, nb, cb', z, kp, ls, v8, bs, ha, ⟨g2 0 (by decide), g2 1 (by decide), g2 2 (by decide), g2 3 (by decide), g2 4 (by decide), g2 5 (by decide), g2 6 (by decide), g2 7 (by decide), g2 8 (by decide), ⟨r2, r3⟩, r4, r8, r0, r5, r6, r7⟩⟩

end

end Go.Proofs.YtlandfghodfjdaaGreat

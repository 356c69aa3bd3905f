/- limbAt, sign, Check, checkBoth, trim, fresh, tell, compare. -/
import Derived.Test.YtmfimhpbdbbpoaaDoorProg
import Derived.Test.YtmfimhpbdbbpoaaDoorE
import Derived.WalkKit
import Derived.WalkSpells
import Derived.WalkLawsBesides
import Derived.Deep.QuietTactic
import Derived.BigQuiet
import Derived.BigRegion
import Derived.OwnWalk
import Derived.Laws.CopyOwn
import Derived.Laws.AppendOwnNone
import Derived.Deep.OwnRows
import Derived.Deep.RegionHeld3
import Derived.Laws.BitsAllLaws
/- Rows of limbs in memory: what is read (Row), what is written in place (Wk), what a call owns (Own). -/
namespace Go.Proofs.YtmfimhpbdbbpoaaDoor
open Go.RowKit
open M
set_option linter.unusedVariables false
set_option linter.unusedSimpArgs false

theorem hide {p : Prop} (h : p) : Hid p := h

/-- Of what was there only the cells from lo to hi of block b may have turned. -/
structure Only (b lo hi : Nat) (w w' : World) : Prop where
  os : w'.os = w.os
  tape : w'.tape = w.tape
  output : w'.output = w.output
  size : w.heap.size ≤ w'.heap.size
  block : ∀ k, k < w.heap.size → k ≠ b → w'.heap[k]? = w.heap[k]?
  cell : ∀ j, (j < lo ∨ hi ≤ j) → w'.cell? ⟨b, j, none⟩ = w.cell? ⟨b, j, none⟩
  frozen : ∀ j, w'.frozen? ⟨b, j, none⟩ = w.frozen? ⟨b, j, none⟩

theorem Only.refl (b lo hi : Nat) (w : World) : Only b lo hi w w := ⟨rfl, rfl, rfl, Nat.le_refl _, fun _ _ _ => rfl, fun _ _ => rfl, fun _ => rfl⟩

theorem Only.trans {b lo hi : Nat} {u v w : World} (h : Only b lo hi u v) (k : Only b lo hi v w) : Only b lo hi u w :=
  ⟨k.os.trans h.os, k.tape.trans h.tape, k.output.trans h.output, Nat.le_trans h.size k.size,
   fun i hi hb => (k.block i (Nat.lt_of_lt_of_le hi h.size) hb).trans (h.block i hi hb), fun j hj => (k.cell j hj).trans (h.cell j hj), fun j => (k.frozen j).trans (h.frozen j)⟩

theorem Only.wider {b lo hi lo' hi' : Nat} {u v : World} (h : Only b lo hi u v) (h1 : lo' ≤ lo) (h2 : hi ≤ hi') : Only b lo' hi' u v :=
  ⟨h.os, h.tape, h.output, h.size, h.block, fun j hj => h.cell j (by omega), h.frozen⟩

theorem Only.drew {b lo hi : Nat} {u w : World} (h : Only b lo hi u w) : Only b lo hi u w.drew := ⟨h.os, h.tape, h.output, h.size, h.block, h.cell, h.frozen⟩

theorem Only.drewN {b lo hi : Nat} {u w : World} (h : Only b lo hi u w) (n : Nat) : Only b lo hi u (w.drewN n) := ⟨h.os, h.tape, h.output, h.size, h.block, h.cell, h.frozen⟩

theorem Only.below {b lo hi B : Nat} {u w : World} (h : Only b lo hi u w) (hB : B ≤ b) (hs : B ≤ u.heap.size) : Below B u w :=
  ⟨h.os, h.tape, h.output, h.size, fun k hk => h.block k (by omega) (by omega)⟩

theorem Only.of_below {b lo hi : Nat} {u w : World} (h : Below u.heap.size u w) (hb : b < u.heap.size) : Only b lo hi u w :=
  ⟨h.os, h.tape, h.output, h.size, fun k hk _ => h.block k hk, fun j _ => h.cell (p := ⟨b, j, none⟩) hb, fun j => h.frozen (p := ⟨b, j, none⟩) hb⟩

theorem below_drewN {B : Nat} {u w : World} (h : Below B u w) (n : Nat) : Below B u (w.drewN n) := ⟨h.os, h.tape, h.output, h.size, h.block⟩

theorem cell_setCell_ne (w : World) (b i j : Nat) (v : Value) (h : j ≠ i) : (w.setCell ⟨b, i, none⟩ v).cell? ⟨b, j, none⟩ = w.cell? ⟨b, j, none⟩ := by
  simp only [World.cell?, World.setCell, Array.getElem?_modify]
  simp only [if_true]
  cases w.heap[b]? with
  | none => rfl
  | some o => cases o <;> simp
              rw [Array.getElem?_setIfInBounds_ne (by omega)]

theorem cell_setCell_eq (w : World) (b i : Nat) (v u : Value) (h : w.cell? ⟨b, i, none⟩ = some u) : (w.setCell ⟨b, i, none⟩ v).cell? ⟨b, i, none⟩ = some v := by
  simp only [World.cell?, World.setCell, Array.getElem?_modify] at h ⊢
  simp only [if_true]
  cases hb : w.heap[b]? with
  | none => simp [hb] at h
  | some o => cases o <;> simp [hb] at h ⊢
              rename_i c e f
              have hi : i < c.size := by
                rcases Nat.lt_or_ge i c.size with h1 | h1
                · exact h1
                · simp [h1] at h
              simp [hi]

theorem frozen_setCell (w : World) (a : Addr) (v : Value) (p : Addr) : (w.setCell a v).frozen? p = w.frozen? p := by
  simp only [World.frozen?, World.setCell, Array.getElem?_modify]
  by_cases h : a.block = p.block
  · rw [if_pos h]
    cases w.heap[p.block]? with
    | none => rfl
    | some o => cases o <;> simp
  · rw [if_neg h]

theorem cell_other (w : World) (b i b' j : Nat) (v : Value) (h : b' ≠ b) : (w.setCell ⟨b, i, none⟩ v).cell? ⟨b', j, none⟩ = w.cell? ⟨b', j, none⟩ :=
  World.cell?_of_block (w := w) (Below.heap_setCell _ _ _ _ h)

theorem Only.setCell {b lo hi : Nat} {u w : World} (h : Only b lo hi u w) (i : Nat) (h1 : lo ≤ i) (h2 : i < hi) (v : Value) : Only b lo hi u (w.setCell ⟨b, i, none⟩ v) := by
  refine h.trans ⟨rfl, rfl, rfl, by simp [World.setCell], fun k _ hb => Below.heap_setCell _ _ _ _ hb, fun j hj => cell_setCell_ne _ _ _ _ _ (by omega), fun j => frozen_setCell _ _ _ _⟩

theorem lt_of_cell {w : World} {g o : Nat} {u : Value} (h : w.cell? ⟨g, o, none⟩ = some u) : g < w.heap.size := block_lt_of_cell h

/-- A row of k limbs, the number N's, in a block of which S holds. -/
def RowX (S : Nat → Prop) (w : World) (v : Value) (k N : Nat) : Prop :=
  N < 4294967296 ^ k ∧ k ≤ 70368744177664 ∧ ∃ ad cap, v = .slice ad k cap ∧ k ≤ cap ∧
    (0 < k → ∃ g o, ad = some ⟨g, o, none⟩ ∧ S g ∧ ∀ j, j < k → w.cell? ⟨g, o + j, none⟩ = some (.int .u32 (dg N j : Nat)))

/-- A row of limbs. -/
def Row (w : World) (v : Value) (k N : Nat) : Prop := RowX (fun _ => True) w v k N

theorem RowX.mono {S S' : Nat → Prop} {w : World} {v : Value} {k N : Nat} (h : RowX S w v k N) (hS : ∀ g, g < w.heap.size → S g → S' g) : RowX S' w v k N := by
  obtain ⟨h1, h2, ad, cap, hv, hc, hcell⟩ := h
  refine ⟨h1, h2, ad, cap, hv, hc, fun hk => ?_⟩
  obtain ⟨g, o, ha, hs, hj⟩ := hcell hk
  exact ⟨g, o, ha, hS g (lt_of_cell (hj 0 hk)) hs, hj⟩

theorem RowX.row {S : Nat → Prop} {w : World} {v : Value} {k N : Nat} (h : RowX S w v k N) : Row w v k N := h.mono fun _ _ _ => trivial
theorem Row.old {w : World} {v : Value} {k N : Nat} (h : Row w v k N) : RowX (· < w.heap.size) w v k N := RowX.mono h fun _ hg _ => hg

theorem RowX.keep {S : Nat → Prop} {w w' : World} {v : Value} {k N : Nat} (h : RowX S w v k N) (hc : ∀ g o, S g → g < w.heap.size → w'.cell? ⟨g, o, none⟩ = w.cell? ⟨g, o, none⟩) : RowX S w' v k N := by
  obtain ⟨h1, h2, ad, cap, hv, hcap, hcell⟩ := h
  refine ⟨h1, h2, ad, cap, hv, hcap, fun hk => ?_⟩
  obtain ⟨g, o, ha, hs, hj⟩ := hcell hk
  exact ⟨g, o, ha, hs, fun j hj' => by rw [hc g _ hs (lt_of_cell (hj j hj'))]; exact hj j hj'⟩

theorem RowX.below {S : Nat → Prop} {w w' : World} {v : Value} {k N : Nat} (h : RowX S w v k N) (hb : Below w.heap.size w w') : RowX S w' v k N :=
  h.keep fun g o _ hg => hb.cell (p := ⟨g, o, none⟩) hg
theorem Row.below {w w' : World} {v : Value} {k N : Nat} (h : Row w v k N) (hb : Below w.heap.size w w') : Row w' v k N := RowX.below h hb

theorem RowX.belowB {B : Nat} {w w' : World} {v : Value} {k N : Nat} (h : RowX (· < B) w v k N) (hb : Below B w w') : RowX (· < B) w' v k N :=
  h.keep fun g o hg _ => hb.cell (p := ⟨g, o, none⟩) hg

theorem RowX.only {b lo hi : Nat} {w w' : World} {v : Value} {k N : Nat} (h : RowX (· ≠ b) w v k N) (ho : Only b lo hi w w') : RowX (· ≠ b) w' v k N :=
  h.keep fun g o hg hs => World.cell?_of_block (w := w) (ho.block g hs hg)

theorem RowX.drewN {S : Nat → Prop} {w : World} {v : Value} {k N : Nat} (h : RowX S w v k N) (n : Nat) : RowX S (w.drewN n) v k N := h
theorem RowX.lt {S : Nat → Prop} {w : World} {v : Value} {k N : Nat} (h : RowX S w v k N) : N < 4294967296 ^ k := h.1
theorem RowX.len {S : Nat → Prop} {w : World} {v : Value} {k N : Nat} (h : RowX S w v k N) : k ≤ 70368744177664 := h.2.1

/-- The cells of a row that may be written: from o on in block g, k limbs of N. -/
structure Wk (w : World) (g o k N : Nat) : Prop where
  lt : N < 4294967296 ^ k
  cell : ∀ j, j < k → w.cell? ⟨g, o + j, none⟩ = some (.int .u32 (dg N j : Nat))
  free : ∀ j, j < k → w.frozen? ⟨g, o + j, none⟩ = false

theorem Wk.row {w : World} {g o k N cap : Nat} (h : Wk w g o k N) (hk : k ≤ 70368744177664) (hc : k ≤ cap) {S : Nat → Prop} (hS : S g) (ad : Option Addr) (ha : 0 < k → ad = some ⟨g, o, none⟩) : RowX S w (.slice ad k cap) k N :=
  ⟨h.lt, hk, ad, cap, rfl, hc, fun hk => ⟨g, o, ha hk, hS, h.cell⟩⟩

theorem Wk.below {w w' : World} {g o k N B : Nat} (h : Wk w g o k N) (hb : Below B w w') (hg : g < B) : Wk w' g o k N :=
  ⟨h.lt, fun j hj => by rw [hb.cell (p := ⟨g, o + j, none⟩) hg]; exact h.cell j hj, fun j hj => by rw [hb.frozen (p := ⟨g, o + j, none⟩) hg]; exact h.free j hj⟩

theorem Wk.only {w w' : World} {g o k N b lo hi : Nat} (h : Wk w g o k N) (ho : Only b lo hi w w') (hg : g ≠ b) (hs : g < w.heap.size) : Wk w' g o k N :=
  ⟨h.lt, fun j hj => by rw [World.cell?_of_block (w := w) (a := ⟨g, o + j, none⟩) (ho.block g hs hg)]; exact h.cell j hj, fun j hj => by rw [World.frozen?_of_block (w := w) (a := ⟨g, o + j, none⟩) (ho.block g hs hg)]; exact h.free j hj⟩

theorem Wk.apart {w w' : World} {g o k N lo hi : Nat} (h : Wk w g o k N) (ho : Only g lo hi w w') (hd : o + k ≤ lo ∨ hi ≤ o) : Wk w' g o k N :=
  ⟨h.lt, fun j hj => by rw [ho.cell _ (by omega)]; exact h.cell j hj, fun j hj => by rw [ho.frozen]; exact h.free j hj⟩

theorem Wk.drewN {w : World} {g o k N : Nat} (h : Wk w g o k N) (n : Nat) : Wk (w.drewN n) g o k N := ⟨h.lt, h.cell, h.free⟩

/-- While a row is gone through from below: the limbs below i are X's, the others N's. -/
structure Mid (w : World) (g o k i N X : Nat) : Prop where
  lo : ∀ j, j < i → w.cell? ⟨g, o + j, none⟩ = some (.int .u32 (dg X j : Nat))
  hi : ∀ j, i ≤ j → j < k → w.cell? ⟨g, o + j, none⟩ = some (.int .u32 (dg N j : Nat))
  free : ∀ j, j < k → w.frozen? ⟨g, o + j, none⟩ = false

theorem Wk.mid {w : World} {g o k N : Nat} (h : Wk w g o k N) (X : Nat) : Mid w g o k 0 N X := ⟨fun j hj => by omega, fun j _ hj => h.cell j hj, h.free⟩

theorem Mid.wk {w : World} {g o k N X : Nat} (h : Mid w g o k k N X) (hX : X < 4294967296 ^ k) : Wk w g o k X := ⟨hX, h.lo, h.free⟩

theorem Mid.wk_mod {w : World} {g o k N X : Nat} (h : Mid w g o k k N X) : Wk w g o k (X % 4294967296 ^ k) :=
  ⟨mod_lt X k, fun j hj => by rw [dg_mod X hj]; exact h.lo j hj, h.free⟩

theorem Mid.step {w : World} {g o k i N X : Nat} (h : Mid w g o k i N X) (hi : i < k) (y : Int) (hy : y = (dg X i : Nat)) : Mid (w.setCell ⟨g, o + i, none⟩ (.int .u32 y)) g o k (i + 1) N X := by
  subst hy
  refine ⟨fun j hj => ?_, fun j h1 h2 => ?_, fun j hj => by rw [frozen_setCell]; exact h.free j hj⟩
  · by_cases e : j = i
    · subst e; exact cell_setCell_eq _ _ _ _ _ (h.hi j (Nat.le_refl _) hi)
    · rw [cell_setCell_ne _ _ _ _ _ (by omega)]; exact h.lo j (by omega)
  · rw [cell_setCell_ne _ _ _ _ _ (by omega)]; exact h.hi j (by omega) h2

/-- While a row is gone through from above: the limbs from i on are X's, the others N's. -/
structure Dim (w : World) (g o k i N X : Nat) : Prop where
  lo : ∀ j, j < i → w.cell? ⟨g, o + j, none⟩ = some (.int .u32 (dg N j : Nat))
  hi : ∀ j, i ≤ j → j < k → w.cell? ⟨g, o + j, none⟩ = some (.int .u32 (dg X j : Nat))
  free : ∀ j, j < k → w.frozen? ⟨g, o + j, none⟩ = false

theorem Wk.dim {w : World} {g o k N : Nat} (h : Wk w g o k N) (X : Nat) : Dim w g o k k N X := ⟨fun j hj => h.cell j hj, fun j _ hj => by omega, h.free⟩
theorem Dim.wk {w : World} {g o k N X : Nat} (h : Dim w g o k 0 N X) (hX : X < 4294967296 ^ k) : Wk w g o k X := ⟨hX, fun j hj => h.hi j (Nat.zero_le _) hj, h.free⟩
theorem Dim.step {w : World} {g o k i N X : Nat} (h : Dim w g o k (i + 1) N X) (hi : i < k) (y : Int) (hy : y = (dg X i : Nat)) : Dim (w.setCell ⟨g, o + i, none⟩ (.int .u32 y)) g o k i N X := by
  subst hy
  refine ⟨fun j hj => ?_, fun j h1 h2 => ?_, fun j hj => by rw [frozen_setCell]; exact h.free j hj⟩
  · rw [cell_setCell_ne _ _ _ _ _ (by omega)]; exact h.lo j (by omega)
  · by_cases e : j = i
    · subst e; exact cell_setCell_eq _ _ _ _ _ (h.lo j (by omega))
    · rw [cell_setCell_ne _ _ _ _ _ (by omega)]; exact h.hi j (by omega) h2
theorem Dim.drewN {w : World} {g o k i N X : Nat} (h : Dim w g o k i N X) (n : Nat) : Dim (w.drewN n) g o k i N X := ⟨h.lo, h.hi, h.free⟩

theorem Mid.drewN {w : World} {g o k i N X : Nat} (h : Mid w g o k i N X) (n : Nat) : Mid (w.drewN n) g o k i N X := ⟨h.lo, h.hi, h.free⟩

theorem Wk.sub {w : World} {g o k N : Nat} (h : Wk w g o k N) (i m : Nat) (hm : i + m ≤ k) : Wk w g (o + i) m (N / 4294967296 ^ i % 4294967296 ^ m) :=
  ⟨mod_lt _ _, fun j hj => by rw [dg_mod _ hj, ← dg_shift, Nat.add_assoc]; exact h.cell (i + j) (by omega), fun j hj => by rw [Nat.add_assoc]; exact h.free (i + j) (by omega)⟩

/-- Behind one limb's part of a product. -/
theorem Wk.prod {w w' : World} {g K P i m a C : Nat} (h : Wk w g 0 K P) (ho : Only g i (i + m) w w') (hk : i + m < K) (hP : P < 4294967296 ^ (i + m)) (ha : a < 4294967296) (hC : C < 4294967296 ^ m)
    (h' : Wk w' g i m ((P / 4294967296 ^ i + a * C) % 4294967296 ^ m)) :
    Wk (w'.setCell ⟨g, i + m, none⟩ (.int .u32 ((P / 4294967296 ^ i + a * C) / 4294967296 ^ m : Nat))) g 0 K (P + 4294967296 ^ i * (a * C)) := by
  have hX := prod_lt hP ha hC
  have hdiv : (P + 4294967296 ^ i * (a * C)) / 4294967296 ^ i = P / 4294967296 ^ i + a * C := carry_div _ _ _
  have hlt : P + 4294967296 ^ i * (a * C) < 4294967296 ^ K := by
    refine Nat.lt_of_lt_of_le ?_ (Nat.pow_le_pow_right (by omega) (show i + m + 1 ≤ K from hk))
    rw [show i + m + 1 = i + (m + 1) from by omega, Nat.pow_add]
    have := (Nat.div_lt_iff_lt_mul (pw_pos i)).1 (show (P + 4294967296 ^ i * (a * C)) / 4294967296 ^ i < 4294967296 ^ (m + 1) from by rw [hdiv]; exact hX)
    rw [Nat.mul_comm (4294967296 ^ i) (4294967296 ^ (m + 1))]; exact this
  refine ⟨hlt, fun j hj => ?_, fun j hj => by rw [frozen_setCell, ho.frozen]; exact h.free j hj⟩
  rw [Nat.zero_add]
  rcases Nat.lt_or_ge j i with h1 | h1
  · rw [cell_setCell_ne _ _ _ _ _ (by omega), ho.cell j (by omega), dg_low h1]
    have := h.cell j hj; rw [Nat.zero_add] at this; exact this
  · obtain ⟨t, rfl⟩ : ∃ t, j = i + t := ⟨j - i, by omega⟩
    rw [dg_shift, hdiv]
    rcases Nat.lt_trichotomy t m with h2 | h2 | h2
    · rw [cell_setCell_ne _ _ _ _ _ (by omega), h'.cell t h2, dg_mod _ h2]
    · subst h2
      have hc : ∃ u, w'.cell? ⟨g, i + t, none⟩ = some u := ⟨_, by rw [ho.cell _ (by omega)]; have := h.cell (i + t) hj; rw [Nat.zero_add] at this; exact this⟩
      obtain ⟨u, hu⟩ := hc
      rw [cell_setCell_eq _ _ _ _ _ hu]
      have : dg (P / 4294967296 ^ i + a * C) t = (P / 4294967296 ^ i + a * C) / 4294967296 ^ t := by
        unfold dg
        rw [Nat.mod_eq_of_lt]
        rw [Nat.div_lt_iff_lt_mul (pw_pos t), Nat.mul_comm 4294967296 (4294967296 ^ t), ← pw_succ]; exact hX
      rw [this]
    · rw [cell_setCell_ne _ _ _ _ _ (by omega), ho.cell _ (by omega), dg_high hX (by omega)]
      have := h.cell (i + t) hj
      rw [Nat.zero_add, dg_high hP (by omega)] at this
      exact this

/-- The cells of a row, as values. -/
def limbsV (k N : Nat) : List Value := (List.range k).map fun j => .int .u32 (dg N j : Nat)
@[simp] theorem limbsV_length (k N : Nat) : (limbsV k N).length = k := by simp [limbsV]
theorem limbsV_get (k N j : Nat) (h : j < k) : (limbsV k N)[j]? = some (.int .u32 (dg N j : Nat)) := by simp [limbsV, h]
theorem limbsV_cell (k N : Nat) : ∀ u ∈ limbsV k N, u.oneCell' = true := by
  intro u hu
  simp only [limbsV, List.mem_map] at hu
  obtain ⟨j, _, rfl⟩ := hu
  rfl

theorem info32 : ∃ i5, Tryd.prog.info? 24 = some i5 ∧ i5.zero = some (.int .u32 0) ∧ i5.size = 1 ∧ i5.bytes = 4 := by
  have hz : (Tryd.prog.info? 24).bind (·.zero) = some (.int .u32 0) := by kernel_rfl
  have hs : (Tryd.prog.info? 24).map (·.size) = some 1 := by kernel_rfl
  have hb : (Tryd.prog.info? 24).map (·.bytes) = some 4 := by kernel_rfl
  cases hi : Tryd.prog.info? 24 with
  | none => simp [hi] at hs
  | some i5 =>
    simp only [hi, Option.bind_some, Option.map_some, Option.some.injEq] at hz hs hb
    exact ⟨i5, rfl, hz, hs, hb⟩

theorem size32 : (Tryd.prog.info? 24).map (·.size) = some 1 := by kernel_rfl

/-- A row of the call's own, in a block from base on. -/
def Own (w : World) (base : Nat) (v : Value) (k N : Nat) : Prop := N < 4294967296 ^ k ∧ k ≤ 70368744177664 ∧ w.ownsRow base 24 1 v k (limbsV k N)

theorem Own.rowX {w : World} {base : Nat} {v : Value} {k N : Nat} (h : Own w base v k N) : RowX (base ≤ ·) w v k N := by
  obtain ⟨h1, h2, h3, h4⟩ := h
  rcases h4 with ⟨rfl, rfl⟩ | ⟨g, cap, cur, rfl, hb, hg, hc, hm, hs, ht⟩
  · exact ⟨h1, h2, none, 0, rfl, Nat.le_refl _, fun h => by omega⟩
  · refine ⟨h1, h2, _, cap, rfl, hc, fun hk => ⟨g, 0, rfl, hb, fun j hj => ?_⟩⟩
    rw [Nat.zero_add, cell_of_row w g j cur _ (0, 0) hg, ← limbsV_get k N j hj, ← ht, List.getElem?_take, if_pos (by omega)]
    simp

theorem Own.row {w : World} {base : Nat} {v : Value} {k N : Nat} (h : Own w base v k N) : Row w v k N := h.rowX.row

theorem Own.mono {w : World} {base base' : Nat} {v : Value} {k N : Nat} (h : Own w base v k N) (hb : base' ≤ base) : Own w base' v k N := by
  obtain ⟨h1, h2, h3, h4⟩ := h
  refine ⟨h1, h2, h3, ?_⟩
  rcases h4 with h | ⟨g, cap, cur, hv, hbg, h⟩
  · exact .inl h
  · exact .inr ⟨g, cap, cur, hv, Nat.le_trans hb hbg, h⟩

theorem Own.nil (w : World) (base : Nat) : Own w base (.slice none 0 0) 0 0 := ⟨by simp, by omega, rfl, .inl ⟨rfl, rfl⟩⟩
theorem Row.nil (w : World) : Row w (.slice none 0 0) 0 0 := (Own.nil w 0).row

theorem Own.below {w w' : World} {base : Nat} {v : Value} {k N : Nat} (h : Own w base v k N) (hb : Below w.heap.size w w') : Own w' base v k N := by
  obtain ⟨h1, h2, h3, h4⟩ := h
  refine ⟨h1, h2, h3, ?_⟩
  rcases h4 with h | ⟨g, cap, cur, hv, hbg, hg, h⟩
  · exact .inl h
  · refine .inr ⟨g, cap, cur, hv, hbg, ?_, h⟩
    rw [hb.block g ?_]; exact hg
    rcases Nat.lt_or_ge g w.heap.size with h1 | h1
    · exact h1
    · rw [Array.getElem?_eq_none h1] at hg; cases hg

/-- A block that holds a row and no more. -/
theorem own_of_block {w : World} {base g k N : Nat} (hN : N < 4294967296 ^ k) (hk : k ≤ 70368744177664) (hb : base ≤ g) (hg : w.heap[g]? = some (.cells (limbsV k N).toArray 24 (0, 0))) : Own w base (.slice (some ⟨g, 0, none⟩) k k) k N :=
  ⟨hN, hk, by simp, .inr ⟨g, k, _, rfl, hb, hg, Nat.le_refl _, by unfold maxLen; omega, by simp, by rw [Nat.mul_one]; exact List.take_of_length_le (by simp)⟩⟩

theorem wk_of_block {w : World} {g k N : Nat} (hN : N < 4294967296 ^ k) (hg : w.heap[g]? = some (.cells (limbsV k N).toArray 24 (0, 0))) : Wk w g 0 k N :=
  ⟨hN, fun j hj => by rw [Nat.zero_add, cell_of_row w g j _ _ (0, 0) hg]; simpa using limbsV_get k N j hj, fun j _ => frozen_of_row w g _ _ _ hg⟩

/-- An answer: the number, or that it is too long. -/
def Told (w : World) (base : Nat) (u : Value) (c : Int) (N : Nat) : Prop :=
  (Fits N ∧ c = 0 ∧ ∃ n, Own w base u n N ∧ Nrm n N) ∨ (¬ Fits N ∧ c = 21 ∧ u = .slice none 0 0)

theorem Told.mono {w : World} {base base' : Nat} {u : Value} {c : Int} {N : Nat} (h : Told w base u c N) (hb : base' ≤ base) : Told w base' u c N := by
  rcases h with ⟨h1, h2, n, h3, h4⟩ | h
  · exact .inl ⟨h1, h2, n, h3.mono hb, h4⟩
  · exact .inr h

/-- A number in memory. -/
def Num (w : World) (v : Value) (N : Nat) : Prop := ∃ k, Row w v k N ∧ Nrm k N ∧ k ≤ 8192

theorem Num.fits {w : World} {v : Value} {N : Nat} (h : Num w v N) : Fits N := by obtain ⟨k, _, h1, h2⟩ := h; exact h1.fits.1 h2
theorem Num.below {w w' : World} {v : Value} {N : Nat} (h : Num w v N) (hb : Below w.heap.size w w') : Num w' v N := by obtain ⟨k, h0, h1, h2⟩ := h; exact ⟨k, h0.below hb, h1, h2⟩
theorem Own.num {w : World} {base : Nat} {v : Value} {k N : Nat} (h : Own w base v k N) (hn : Nrm k N) (hf : Fits N) : Num w v N := ⟨k, h.row, hn, hn.fits.2 hf⟩
theorem Num.nil (w : World) : Num w (.slice none 0 0) 0 := ⟨0, Row.nil w, nrm_zero, by omega⟩

theorem limbsV_zero (k : Nat) : limbsV k 0 = List.replicate k (.int .u32 0) := by
  apply List.ext_getElem?
  intro j
  rcases Nat.lt_or_ge j k with h | h
  · rw [limbsV_get k 0 j h, dg_zero]; simp [h]
  · simp [h]

theorem made_zero (k : Nat) : (madeCells #[Value.int .u32 0] k) = (limbsV k 0).toArray := by
  rw [limbsV_zero, ← toList_madeCells_one]

theorem make_block (w : World) (k : Nat) : (w.alloc (.cells (madeCells #[Value.int .u32 0] k) 24)).heap[w.heap.size]? = some (.cells (limbsV k 0).toArray 24 (0, 0)) := by
  rw [made_zero]; exact heap_alloc_new w _


/-- A row copied to the head of a new block of noughts. -/
theorem copy_new {S : Nat → Prop} (w : World) (v : Value) (k N m g : Nat) (dT sT ty : TypeId) (hu : Tryd.prog.underlying dT = some (.slice 24)) (h : RowX S w v k N) (hkm : k ≤ m) (hg : w.heap[g]? = some (.cells (limbsV m 0).toArray 24 (0, 0))) :
    ∃ w', (Builtin.copy_ #[dT, sT] ty #[.slice (some ⟨g, 0, none⟩) m m, v]).run Tryd.prog w = .ok (goInt k) w' ∧ w'.heap[g]? = some (.cells (limbsV m N).toArray 24 (0, 0)) ∧ Below g w w' := by
  obtain ⟨hN, hk, ad, cap, rfl, hc, hcell⟩ := h
  have hmin : (limbsV k N).length = Nat.min k m := by rw [limbsV_length]; exact (Nat.min_eq_left hkm).symm
  have hsp : (limbsV m 0).take 0 ++ limbsV k N ++ (limbsV m 0).drop (0 + (limbsV k N).length) = limbsV m N := by
    apply List.ext_getElem?
    intro j
    simp only [List.take_zero, List.nil_append, limbsV_length, Nat.zero_add]
    rcases Nat.lt_or_ge j k with h | h
    · rw [List.getElem?_append_left (by simpa using h), limbsV_get k N j h, limbsV_get m N j (by omega)]
    · rw [List.getElem?_append_right (by simpa using h), limbsV_length, List.getElem?_drop, show k + (j - k) = j from by omega]
      rcases Nat.lt_or_ge j m with h1 | h1
      · rw [limbsV_get m 0 j h1, limbsV_get m N j h1, dg_high hN h, dg_zero]
      · rw [List.getElem?_eq_none (by simpa using h1), List.getElem?_eq_none (by simpa using h1)]
  by_cases h0 : k = 0
  · subst h0
    have hz : N = 0 := by simpa using hN
    subst hz
    exact ⟨w, run_copy_none w dT sT ty _ _ _ _ _ _ _ hu size32 (by simp), hg, Below.refl _ _⟩
  · obtain ⟨g', o, rfl, _, hj⟩ := hcell (by omega)
    have hr := run_copy_row (P := Tryd.prog) w dT sT ty 24 g 0 m m ⟨g', o, none⟩ k cap (limbsV m 0).toArray 24 (limbsV k N) hu size32 hg hmin ?_ (by simpa using hkm) (limbsV_cell k N)
    · rw [limbsV_length] at hr
      refine ⟨_, hr, ?_, below_setRow (Below.refl _ _) (Nat.le_refl _) _⟩
      rw [setRow_heap w g _ _ _ _ hg]
      rw [limbsV_length] at hsp
      simp only [Option.some.injEq, Obj.cells.injEq, and_true]
      exact congrArg List.toArray hsp
    · intro j u hju
      have hjk : j < k := by
        rcases Nat.lt_or_ge j k with h | h
        · exact h
        · rw [List.getElem?_eq_none (by simpa using h)] at hju; cases hju
      rw [limbsV_get k N j hjk] at hju
      rw [← hju, show (⟨g', o, none⟩ : Addr).add j = ⟨g', o + j, none⟩ from by unfold Addr.add; split <;> simp_all]
      exact hj j hjk

end Go.Proofs.YtmfimhpbdbbpoaaDoor

namespace Go.Proofs.YtmfimhpbdbbpoaaDoor
open Go.RowKit
open M
set_option linter.unusedVariables false
set_option linter.unusedSimpArgs false

theorem ret_int {k : IntKind} {a b : Int} (h : a = b) : Ending.returned (.int k a) = .returned (.int k b) := by rw [h]

set_option maxRecDepth 100000 in
set_option maxHeartbeats 400000 in
theorem limbAt_any {S : Nat → Prop} (v : Value) (k N i : Nat) (w : World) (h : RowX S w v k N) (hi : i ≤ 70368744177664) :
    Calls Tryd.prog 90 #[v, .int .i64 i] w fun e w' => e = .returned (.int .u64 (dg N i : Nat)) ∧ w' = w := by
  obtain ⟨hN, hk, ad, cap, rfl, hc, hcell⟩ := h
  by_cases hlt : i < k
  · obtain ⟨g, o, rfl, _, hj⟩ := hcell (by omega)
    have hlt' : (i : Int) < (k : Int) := by omega
    have hci := hj i hlt
    have hd := dg_lt N i
    clear hj hcell hN
    generalize dg N i = x at *
    go_enter Tryd.func90, Tryd.ntmps90
    go_wp2
    go_ret
    refine ⟨?_, rfl⟩
    apply ret_int
    omega
  · have hge : ¬ (i : Int) < (k : Int) := by omega
    have hz := dg_high hN (show k ≤ i from by omega)
    clear hcell hN
    go_enter Tryd.func90, Tryd.ntmps90
    go_wp2
    go_ret
    exact ⟨rfl, rfl⟩

theorem sign_any (b : Bool) (w : World) : Calls Tryd.prog 89 #[.bool b] w fun e w' => e = .returned (.int .i64 (if b then 1 else -1)) ∧ w' = w := by
  cases b <;> go_enter Tryd.func89, Tryd.ntmps89 <;> go_wp2 <;> go_ret <;> exact ⟨rfl, rfl⟩


theorem sign_true (w : World) : Calls Tryd.prog 89 #[.bool true] w fun e w' => e = .returned (.int .i64 1) ∧ w' = w := sign_any true w
theorem sign_false (w : World) : Calls Tryd.prog 89 #[.bool false] w fun e w' => e = .returned (.int .i64 (-1)) ∧ w' = w := sign_any false w

/-- What Check tells. -/
def chk (k N : Nat) : Int := if 8192 < k then 21 else if 0 < k ∧ dg N (k - 1) = 0 then 20 else 0

theorem chk_nrm {k N : Nat} (h : Nrm k N) (hk : k ≤ 8192) : chk k N = 0 := by
  unfold chk
  rw [if_neg (by omega), if_neg]
  rintro ⟨h1, h2⟩
  obtain ⟨m, rfl⟩ : ∃ m, k = m + 1 := ⟨k - 1, by omega⟩
  exact h.top h2

theorem nrm_chk {k N : Nat} (hN : N < 4294967296 ^ k) (h : chk k N = 0) : Nrm k N ∧ k ≤ 8192 := by
  unfold chk at h
  split at h
  · simp at h
  · split at h
    · simp at h
    · rename_i h1 h2
      refine ⟨?_, by omega⟩
      by_cases h0 : k = 0
      · subst h0; exact ⟨hN, .inl rfl⟩
      · obtain ⟨m, rfl⟩ : ∃ m, k = m + 1 := ⟨k - 1, by omega⟩
        exact Nrm.of_top hN (fun e => h2 ⟨by omega, e⟩)

set_option maxRecDepth 100000 in
set_option maxHeartbeats 400000 in
theorem check_any {S : Nat → Prop} (v : Value) (k N : Nat) (w : World) (h : RowX S w v k N) :
    Calls Tryd.prog 20 #[v] w fun e w' => e = .returned (.int .i64 (chk k N)) ∧ w' = w := by
  obtain ⟨hN, hk, ad, cap, rfl, hc, hcell⟩ := h
  unfold chk
  by_cases h1 : 8192 < k
  · rw [if_pos h1]
    have h1' : (8192 : Int) < (k : Int) := by omega
    clear hcell
    go_enter Tryd.func20, Tryd.ntmps20
    go_wp2
    go_ret
    exact ⟨rfl, rfl⟩
  · rw [if_neg h1]
    have h1' : ¬ (8192 : Int) < (k : Int) := by omega
    by_cases h0 : k = 0
    · subst h0
      rw [if_neg (by omega)]
      clear hcell
      go_enter Tryd.func20, Tryd.ntmps20
      go_wp2
      go_ret
      exact ⟨rfl, rfl⟩
    · obtain ⟨g, o, rfl, _, hj⟩ := hcell (by omega)
      obtain ⟨m, rfl⟩ : ∃ m, k = m + 1 := ⟨k - 1, by omega⟩
      have hci := hj m (by omega)
      have h2' : (0 : Int) < ((m + 1 : Nat) : Int) := by omega
      clear hj hcell hN h0
      show Calls _ _ _ _ fun e w' => e = .returned (.int .i64 (if 0 < m + 1 ∧ dg N m = 0 then 20 else 0)) ∧ w' = w
      generalize dg N m = x at *
      by_cases hx : x = 0
      · subst hx
        rw [if_pos ⟨by omega, rfl⟩]
        go_enter Tryd.func20, Tryd.ntmps20
        go_wp2
        go_ret
        exact ⟨rfl, rfl⟩
      · rw [if_neg (fun h => hx h.2)]
        have hx' : ((x : Int) == 0) = false := by rw [beq_eq_false_iff_ne]; omega
        clear hx
        go_enter Tryd.func20, Tryd.ntmps20
        go_wp2
        go_ret
        exact ⟨rfl, rfl⟩

theorem checkBoth_any {S S' : Nat → Prop} (v u : Value) (k N m P : Nat) (w : World) (h : RowX S w v k N) (h' : RowX S' w u m P) :
    Calls Tryd.prog 64 #[v, u] w fun e w' => e = .returned (.int .i64 (if chk k N = 0 then chk m P else chk k N)) ∧ w' = w := by
  by_cases h0 : chk k N = 0
  · rw [if_pos h0]
    have hc := check_any v k N w h
    rw [h0] at hc
    have Hc := hide hc
    clear hc
    go_enter Tryd.func64, Tryd.ntmps64
    go_wp2_with fail
    refine Hc.out.mono ?_
    rintro e w' ⟨rfl, rfl⟩
    go_wp2_with fail
    refine (check_any u m P _ h').mono ?_
    rintro e w' ⟨rfl, rfl⟩
    go_wp2_with fail
    go_ret
    exact ⟨rfl, rfl⟩
  · rw [if_neg h0]
    have hc := check_any v k N w h
    have h0' : (chk k N == 0) = false := by rw [beq_eq_false_iff_ne]; exact h0
    have h0'' : (chk k N != 0) = true := by rw [bne_iff_ne]; exact h0
    have Hc := hide hc
    clear hc
    generalize chk k N = c at *
    go_enter Tryd.func64, Tryd.ntmps64
    go_wp2_with fail
    refine Hc.out.mono ?_
    rintro e w' ⟨rfl, rfl⟩
    go_wp2_with fail
    go_ret
    exact ⟨rfl, rfl⟩

theorem checkBoth_ok {S S' : Nat → Prop} (v u : Value) (k N m P : Nat) (w : World) (h : RowX S w v k N) (h' : RowX S' w u m P) (hn : Nrm k N) (hn' : Nrm m P) (hk : k ≤ 8192) (hm : m ≤ 8192) :
    Calls Tryd.prog 64 #[v, u] w fun e w' => e = .returned (.int .i64 0) ∧ w' = w := by
  have := checkBoth_any v u k N m P w h h'
  rwa [if_pos (chk_nrm hn hk), chk_nrm hn' hm] at this

theorem check_ok {S : Nat → Prop} (v : Value) (k N : Nat) (w : World) (h : RowX S w v k N) (hn : Nrm k N) (hk : k ≤ 8192) :
    Calls Tryd.prog 20 #[v] w fun e w' => e = .returned (.int .i64 0) ∧ w' = w := by
  have := check_any v k N w h
  rwa [chk_nrm hn hk] at this

set_option maxRecDepth 100000 in
set_option maxHeartbeats 400000 in
theorem trim_any {S : Nat → Prop} (v : Value) (k N : Nat) (w : World) (h : RowX S w v k N) :
    Calls Tryd.prog 55 #[v] w fun e w' => ∃ u, e = .returned u ∧ ∃ n, RowX S w u n N ∧ Nrm n N ∧ n ≤ k ∧ w' = w := by
  obtain ⟨hN, hk, ad, cap, rfl, hc, hcell⟩ := h
  have HC : Hid (0 < k → ∃ g o, ad = some ⟨g, o, none⟩ ∧ S g ∧ ∀ j, j < k → w.cell? ⟨g, o + j, none⟩ = some (.int .u32 (dg N j : Nat))) := hcell
  have HN : Hid (N < 4294967296 ^ k) := hN
  clear hcell hN
  go_enter Tryd.func55, Tryd.ntmps55
  go_wp2_with fail
  go_loop [3] (fun t3 => ∃ n : Nat, n ≤ k ∧ t3 = .int .i64 n ∧ Hid (N < 4294967296 ^ n)) (fun t3 => (intOf t3).toNat)
  case atStart => exact ⟨k, by omega, rfl, HN⟩
  case round =>
    obtain ⟨n, hn, rfl, Hn⟩ := hrel
    have fin : Hid (Nrm n N → ∃ (u : Value) (m : Nat), Value.slice ad n n = u ∧ RowX S w u m N ∧ Nrm m N ∧ m ≤ k) := fun hnr =>
      ⟨_, n, rfl, ⟨Hn.out, by omega, ad, n, rfl, Nat.le_refl _, fun h0 => by obtain ⟨g, o, h1, h2, h3⟩ := HC.out (by omega); exact ⟨g, o, h1, h2, fun j hj => h3 j (by omega)⟩⟩, hnr, hn⟩
    have hncap : n ≤ cap := by omega
    by_cases h0 : n = 0
    · subst h0
      go_wp2_with fail
      go_ret
      obtain ⟨u, m, h1, h2⟩ := fin.out ⟨Hn.out, .inl rfl⟩
      exact ⟨u, by rw [← h1]; rfl, m, h2.1, h2.2.1, h2.2.2, rfl⟩
    · obtain ⟨m, rfl⟩ : ∃ m, n = m + 1 := ⟨n - 1, by omega⟩
      obtain ⟨g, o, rfl, hS, hj⟩ := HC.out (by omega)
      have hci := hj m (by omega)
      have h2' : (0 : Int) < ((m + 1 : Nat) : Int) := by omega
      have Hd : Hid (dg N m = 0 → N < 4294967296 ^ m) := fun h => Nrm.drop Hn.out h
      have Ht : Hid (dg N m ≠ 0 → Nrm (m + 1) N) := fun h => Nrm.of_top Hn.out h
      clear hj h0 HC HN
      generalize dg N m = x at *
      by_cases hx : x = 0
      · subst hx
        go_wp2_with fail
        go_round
        case rel => exact ⟨m, by omega, by go_num, Hd.out rfl⟩
        case measure => simp [intOf]
      · have hx' : ((x : Int) == 0) = false := by rw [beq_eq_false_iff_ne]; omega
        have Hx : Hid (x ≠ 0) := hx
        clear hx
        go_wp2_with fail
        go_ret
        obtain ⟨u, n, h1, h2⟩ := fin.out (Ht.out Hx.out)
        exact ⟨u, by rw [← h1]; rfl, n, h2.1, h2.2.1, h2.2.2, rfl⟩


set_option maxHeartbeats 400000 in
theorem trim_val {S : Nat → Prop} (ad : Option Addr) (cap k N n0 : Nat) (w : World) (h : RowX S w (.slice ad k cap) k N) (hn0 : Nrm n0 N) :
    Calls Tryd.prog 55 #[.slice ad k cap] w fun e w' => e = .returned (.slice ad n0 n0) ∧ w' = w := by
  obtain ⟨hN, hk, ad', cap', hv, hc, hcell⟩ := h
  simp only [Value.slice.injEq, true_and] at hv
  obtain ⟨rfl, rfl⟩ := hv
  have HC : Hid (0 < k → ∃ g o, ad = some ⟨g, o, none⟩ ∧ S g ∧ ∀ j, j < k → w.cell? ⟨g, o + j, none⟩ = some (.int .u32 (dg N j : Nat))) := hcell
  have HN : Hid (N < 4294967296 ^ k) := hN
  have H0 := hide hn0
  clear hcell hN hn0
  go_enter Tryd.func55, Tryd.ntmps55
  go_wp2_with fail
  go_loop [3] (fun t3 => ∃ n : Nat, n ≤ k ∧ t3 = .int .i64 n ∧ Hid (N < 4294967296 ^ n)) (fun t3 => (intOf t3).toNat)
  case atStart => exact ⟨k, by omega, rfl, HN⟩
  case round =>
    obtain ⟨n, hn, rfl, Hn⟩ := hrel
    have hncap : n ≤ cap := by omega
    by_cases h0 : n = 0
    · have e0 : Hid (n0 = 0) := H0.out.uniq (show Nrm 0 N from ⟨by rw [← h0]; exact Hn.out, .inl rfl⟩)
      subst h0
      go_wp2_with fail
      go_ret
      exact ⟨by rw [e0.out]; rfl, rfl⟩
    · obtain ⟨m, rfl⟩ : ∃ m, n = m + 1 := ⟨n - 1, by omega⟩
      obtain ⟨g, o, rfl, hS, hj⟩ := HC.out (by omega)
      have hci := hj m (by omega)
      have h2' : (0 : Int) < ((m + 1 : Nat) : Int) := by omega
      have Hd : Hid (dg N m = 0 → N < 4294967296 ^ m) := fun h => Nrm.drop Hn.out h
      have Ht : Hid (dg N m ≠ 0 → n0 = m + 1) := fun h => H0.out.uniq (Nrm.of_top Hn.out h)
      clear hj h0 HC HN
      generalize dg N m = x at *
      by_cases hx : x = 0
      · subst hx
        go_wp2_with fail
        go_round
        case rel => exact ⟨m, by omega, by go_num, Hd.out rfl⟩
        case measure => simp [intOf]
      · have hx' : ((x : Int) == 0) = false := by rw [beq_eq_false_iff_ne]; omega
        have e0 : Hid (n0 = m + 1) := Ht.out hx
        clear hx Ht
        go_wp2_with fail
        go_ret
        exact ⟨by rw [e0.out]; rfl, rfl⟩

theorem trim_row {S : Nat → Prop} {w : World} {ad : Option Addr} {cap k N n : Nat} (h : RowX S w (.slice ad k cap) k N) (hn : Nrm n N) : RowX S w (.slice ad n n) n N ∧ n ≤ k := by
  have hle := hn.le h.1
  obtain ⟨hN, hk, ad', cap', hv, hc, hcell⟩ := h
  simp only [Value.slice.injEq, true_and] at hv
  obtain ⟨rfl, rfl⟩ := hv
  exact ⟨⟨hn.1, by omega, ad, n, rfl, Nat.le_refl _, fun h0 => by obtain ⟨g, o, h1, h2, h3⟩ := hcell (by omega); exact ⟨g, o, h1, h2, fun j hj => h3 j (by omega)⟩⟩, hle⟩

set_option maxRecDepth 100000 in
set_option maxHeartbeats 400000 in
theorem fresh_any {S : Nat → Prop} (v : Value) (k N : Nat) (w : World) (h : RowX S w v k N) :
    Calls Tryd.prog 54 #[v] w fun e w' => ∃ u, e = .returned u ∧ Own w' w.heap.size u k N ∧ Below w.heap.size w w' := by
  obtain ⟨i5, hi5⟩ := info32
  have Hi : Hid (Tryd.prog.info? 24 = some i5 ∧ i5.zero = some (.int .u32 0) ∧ i5.size = 1 ∧ i5.bytes = 4) := hi5
  clear hi5
  have hb1 : Below w.heap.size w (w.alloc (.cells (madeCells #[Value.int .u32 0] k) 24)) := (Below.refl _ _).alloc (Nat.le_refl _) _
  obtain ⟨w', hrun, hg', hb'⟩ := copy_new (w.alloc (.cells (madeCells #[Value.int .u32 0] k) 24)) v k N k w.heap.size 32 23 3 Tryd.underlying32 (h.below hb1) (Nat.le_refl _) (make_block w k)
  have HF : Hid (Own w' w.heap.size (.slice (some ⟨w.heap.size, 0, none⟩) k k) k N ∧ Below w.heap.size w w') :=
    ⟨own_of_block h.1 h.2.1 (Nat.le_refl _) hg', hb1.trans hb'⟩
  clear hg' hb' hb1
  obtain ⟨hN, hk, ad, cap, rfl, hc, hcell⟩ := h
  clear hcell hN
  go_enter Tryd.func54, Tryd.ntmps54
  go_wp2_with (at_make; refine wpList_make_row _ rfl _ _ _ rfl 24 i5 (.int .u32 0) Tryd.underlying32 Hi.out.1 Hi.out.2.1 Hi.out.2.2.1 rfl .i64 .i64 k rfl rfl (by rw [Hi.out.2.2.2]; omega) (by omega) ?_)
  go_ret
  exact ⟨_, rfl, HF.out⟩

set_option maxHeartbeats 400000 in
theorem tell_any {S : Nat → Prop} (v : Value) (k N : Nat) (w : World) (h : RowX S w v k N) :
    Calls Tryd.prog 65 #[v] w fun e w' => ∃ u c, e = .returned (.tuple #[u, .int .i64 c]) ∧ Told w' w.heap.size u c N ∧ Below w.heap.size w w' := by
  go_enter Tryd.func65, Tryd.ntmps65
  go_wp2_with fail
  refine (trim_any v k N w h).mono ?_
  rintro e w1 ⟨u, rfl, n, hrow, hnrm, hnk, rfl⟩
  have Hrow := hide hrow
  have Hn := hide hnrm
  have Hiff := hide hnrm.fits
  obtain ⟨_, hk', ad, cap, rfl, _, _⟩ := hrow
  clear hnrm h
  by_cases hle : n ≤ 8192
  · have hle' : ¬ (8192 : Int) < (n : Int) := by omega
    go_wp2_with fail
    refine (fresh_any _ n N _ Hrow.out).mono ?_
    rintro e w2 ⟨u2, rfl, hown, hb⟩
    have HF := hide (And.intro hown hb)
    clear hown hb
    go_wp2_with fail
    go_ret2
    exact ⟨u2, 0, rfl, .inl ⟨Hiff.out.1 hle, rfl, n, HF.out.1, Hn.out⟩, HF.out.2⟩
  · have hle' : (8192 : Int) < (n : Int) := by omega
    have HL := hide (fun h => hle (Hiff.out.2 h))
    go_wp2_with fail
    go_ret2
    exact ⟨_, 21, rfl, .inr ⟨HL.out, rfl, rfl⟩, Below.refl _ _⟩

end Go.Proofs.YtmfimhpbdbbpoaaDoor

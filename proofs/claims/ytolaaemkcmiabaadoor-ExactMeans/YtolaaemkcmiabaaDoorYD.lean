/- Words of 64 bits: rows in memory that are written in place; gather. -/
import Derived.Test.YtolaaemkcmiabaaDoorI
import Derived.Test.YtolaaemkcmiabaaDoorXA
import Derived.Test.YtolaaemkcmiabaaDoorYC
import Derived.Deep.RegionHeld3
/- exact's numbers: times, plus, less, spread. -/
namespace Go.Proofs.YtolaaemkcmiabaaDoor
open Go.RowKit
open M
set_option linter.unusedVariables false
set_option linter.unusedSimpArgs false

/-- A whole number of exact. -/
def NumI (w : World) (val : Value) (Z : Int) : Prop := ∃ v, val = .agg #[.bool (decide (Z < 0)), v] ∧ Num w v Z.natAbs
theorem NumI.below {w w' : World} {v : Value} {Z : Int} (h : NumI w v Z) (hb : Below w.heap.size w w') : NumI w' v Z := by
  obtain ⟨u, h1, h2⟩ := h
  exact ⟨u, h1, h2.below hb⟩

/-- A number of one's own, from block base on. -/
def NumO (w : World) (base : Nat) (v : Value) (N : Nat) : Prop := ∃ k, RowX (base ≤ ·) w v k N ∧ Nrm k N ∧ k ≤ 8192
theorem NumO.num {w : World} {base : Nat} {v : Value} {N : Nat} (h : NumO w base v N) : Num w v N := by
  obtain ⟨k, h1, h2, h3⟩ := h
  exact ⟨k, h1.row, h2, h3⟩
theorem NumO.mono {w : World} {base base' : Nat} {v : Value} {N : Nat} (h : NumO w base v N) (hb : base' ≤ base) : NumO w base' v N := by
  obtain ⟨k, h1, h2, h3⟩ := h
  exact ⟨k, h1.mono fun g _ hg => Nat.le_trans hb hg, h2, h3⟩
theorem NumO.below {w w' : World} {base : Nat} {v : Value} {N : Nat} (h : NumO w base v N) (hb : Below w.heap.size w w') : NumO w' base v N := by
  obtain ⟨k, h1, h2, h3⟩ := h
  exact ⟨k, h1.below hb, h2, h3⟩
theorem NumO.nil (w : World) (base : Nat) : NumO w base (.slice none 0 0) 0 := ⟨0, (Own.nil w base).rowX, nrm_zero, by omega⟩
/-- A whole number of one's own. -/
def NumIO (w : World) (base : Nat) (val : Value) (Z : Int) : Prop := ∃ v, val = .agg #[.bool (decide (Z < 0)), v] ∧ NumO w base v Z.natAbs
theorem NumIO.numI {w : World} {base : Nat} {v : Value} {Z : Int} (h : NumIO w base v Z) : NumI w v Z := by
  obtain ⟨u, h1, h2⟩ := h
  exact ⟨u, h1, h2.num⟩
theorem NumIO.below {w w' : World} {base : Nat} {v : Value} {Z : Int} (h : NumIO w base v Z) (hb : Below w.heap.size w w') : NumIO w' base v Z := by
  obtain ⟨u, h1, h2⟩ := h
  exact ⟨u, h1, h2.below hb⟩
theorem Told.numO {w : World} {base : Nat} {u : Value} {c : Int} {N : Nat} (h : Told w base u c N) (hf : Fits N) : NumO w base u N := by
  rcases h with ⟨h1, _, n, h2, h3⟩ | ⟨h1, _⟩
  · exact ⟨n, h2.rowX, h3, h3.fits.2 h1⟩
  · exact absurd hf h1

/-- A number is put into two cells of an elder block. -/
theorem num_put {w1 : World} {h base : Nat} {s : Bool} {v x y : Value} {N : Nat} (c0 : w1.cell? ⟨h, 0, none⟩ = some x) (c1 : w1.cell? ⟨h, 1, none⟩ = some y) (hb : h < base) (hv : NumO w1 base v N) :
    ((w1.setCell ⟨h, 0, none⟩ (.bool s)).setCell ⟨h, 1, none⟩ v).cell? ⟨h, 0, none⟩ = some (.bool s) ∧ ((w1.setCell ⟨h, 0, none⟩ (.bool s)).setCell ⟨h, 1, none⟩ v).cell? ⟨h, 1, none⟩ = some v ∧ NumO ((w1.setCell ⟨h, 0, none⟩ (.bool s)).setCell ⟨h, 1, none⟩ v) base v N := by
  refine ⟨by rw [cell_setCell_ne _ _ _ _ _ (by omega)]; exact cell_setCell_eq _ _ _ _ _ c0, cell_setCell_eq _ _ _ _ y (by rw [cell_setCell_ne _ _ _ _ _ (by omega)]; exact c1), ?_⟩
  obtain ⟨k, h1, h2, h3⟩ := hv
  refine ⟨k, h1.keep fun g o hg _ => ?_, h2, h3⟩
  have hg : base ≤ g := hg
  rw [cell_other _ _ _ _ _ _ (by omega), cell_other _ _ _ _ _ _ (by omega)]

theorem etimes_num {v u : Value} {A C : Nat} {w : World} (h : Num w v A) (h' : Num w u C) (hf : Fits (A * C)) : Calls Tryd.prog 43 #[v, u] w fun e w' => ∃ r, e = .returned r ∧ NumO w' w.heap.size r (A * C) ∧ Below w.heap.size w w' := by
  have HM := hide (Mul_ok h h')
  obtain ⟨a1, k1, p1, rfl, _⟩ := num_slice h
  obtain ⟨a2, k2, p2, rfl, _⟩ := num_slice h'
  have HF := hide hf
  clear h h' hf
  go_enter Tryd.func43, Tryd.ntmps43
  go_wp2_with fail
  refine HM.out.mono ?_
  rintro e w1 ⟨r, c, rfl, ht, b1⟩
  have H1 := hide (And.intro (ht.numO HF.out) b1)
  obtain ⟨a3, k3, p3, rfl, _⟩ := num_slice (ht.numO HF.out).num
  clear ht b1 HM
  go_wp2_with fail
  go_ret
  exact ⟨_, rfl, H1.out.1, H1.out.2⟩

theorem eplus_num {v u : Value} {A C : Nat} {w : World} (h : Num w v A) (h' : Num w u C) (hf : Fits (A + C)) : Calls Tryd.prog 77 #[v, u] w fun e w' => ∃ r, e = .returned r ∧ NumO w' w.heap.size r (A + C) ∧ Below w.heap.size w w' := by
  have HM := hide (Add_ok h h')
  obtain ⟨a1, k1, p1, rfl, _⟩ := num_slice h
  obtain ⟨a2, k2, p2, rfl, _⟩ := num_slice h'
  have HF := hide hf
  clear h h' hf
  go_enter Tryd.func77, Tryd.ntmps77
  go_wp2_with fail
  refine HM.out.mono ?_
  rintro e w1 ⟨r, c, rfl, ht, b1⟩
  have H1 := hide (And.intro (ht.numO HF.out) b1)
  obtain ⟨a3, k3, p3, rfl, _⟩ := num_slice (ht.numO HF.out).num
  clear ht b1 HM
  go_wp2_with fail
  go_ret
  exact ⟨_, rfl, H1.out.1, H1.out.2⟩

theorem eless_num {v u : Value} {A C : Nat} {w : World} (h : Num w v A) (h' : Num w u C) (hle : C ≤ A) (hf : Fits (A - C)) : Calls Tryd.prog 76 #[v, u] w fun e w' => ∃ r, e = .returned r ∧ NumO w' w.heap.size r (A - C) ∧ Below w.heap.size w w' := by
  have HM := hide (Sub_ok h h' hle)
  obtain ⟨a1, k1, p1, rfl, _⟩ := num_slice h
  obtain ⟨a2, k2, p2, rfl, _⟩ := num_slice h'
  have HF := hide hf
  clear h h' hle hf
  go_enter Tryd.func76, Tryd.ntmps76
  go_wp2_with fail
  refine HM.out.mono ?_
  rintro e w1 ⟨r, c, rfl, ht, b1⟩
  have H1 := hide (And.intro (ht.numO HF.out) b1)
  obtain ⟨a3, k3, p3, rfl, _⟩ := num_slice (ht.numO HF.out).num
  clear ht b1 HM
  go_wp2_with fail
  go_ret
  exact ⟨_, rfl, H1.out.1, H1.out.2⟩

/-- Two numbers that were handed in by value, and a place for the answer. -/
theorem three_new (w : World) (sa sb : Bool) (a1 a2 : Option Addr) (k1 p1 k2 p2 : Nat) : ∀ W, W = (((w.alloc (.cells #[.bool sa, .slice a1 k1 p1] 48)).alloc (.cells #[.bool sb, .slice a2 k2 p2] 48)).alloc (.cells #[.bool false, .slice none 0 0] 48)) →
    W.cell? ⟨w.heap.size, 0, none⟩ = some (.bool sa) ∧ W.cell? ⟨w.heap.size, 1, none⟩ = some (.slice a1 k1 p1) ∧ W.cell? ⟨w.heap.size + 1, 0, none⟩ = some (.bool sb) ∧ W.cell? ⟨w.heap.size + 1, 1, none⟩ = some (.slice a2 k2 p2) ∧ W.cell? ⟨w.heap.size + 1 + 1, 0, none⟩ = some (.bool false) ∧ W.cell? ⟨w.heap.size + 1 + 1, 1, none⟩ = some (.slice none 0 0) ∧
    (∀ j, W.frozen? ⟨w.heap.size + 1 + 1, j, none⟩ = false) ∧ W.heap.size = w.heap.size + 1 + 1 + 1 ∧ Below w.heap.size w W := by
  intro W hW
  have n1 := heap_alloc_new w (.cells #[.bool sa, .slice a1 k1 p1] 48)
  have z1 : (w.alloc (.cells #[.bool sa, .slice a1 k1 p1] 48)).heap.size = w.heap.size + 1 := by simp
  have b1 : Below w.heap.size w (w.alloc (.cells #[.bool sa, .slice a1 k1 p1] 48)) := (Below.refl _ _).alloc (Nat.le_refl _) _
  generalize w.alloc (.cells #[.bool sa, .slice a1 k1 p1] 48) = wA at *
  have n2 := heap_alloc_new wA (.cells #[.bool sb, .slice a2 k2 p2] 48)
  have z2 : (wA.alloc (.cells #[.bool sb, .slice a2 k2 p2] 48)).heap.size = wA.heap.size + 1 := by simp
  have b2 : Below wA.heap.size wA (wA.alloc (.cells #[.bool sb, .slice a2 k2 p2] 48)) := (Below.refl _ _).alloc (Nat.le_refl _) _
  generalize wA.alloc (.cells #[.bool sb, .slice a2 k2 p2] 48) = wB at *
  have n3 := heap_alloc_new wB (.cells #[.bool false, .slice none 0 0] 48)
  have z3 : (wB.alloc (.cells #[.bool false, .slice none 0 0] 48)).heap.size = wB.heap.size + 1 := by simp
  have b3 : Below wB.heap.size wB (wB.alloc (.cells #[.bool false, .slice none 0 0] 48)) := (Below.refl _ _).alloc (Nat.le_refl _) _
  rw [← hW] at n3 z3 b3
  rw [show wB.heap.size = w.heap.size + 1 + 1 by omega] at n3
  have m2 : W.heap[w.heap.size + 1]? = some (.cells #[.bool sb, .slice a2 k2 p2] 48 (0, 0)) := by rw [b3.block _ (by omega), ← z1]; exact n2
  have m1 : W.heap[w.heap.size]? = some (.cells #[.bool sa, .slice a1 k1 p1] 48 (0, 0)) := by rw [b3.block _ (by omega), b2.block _ (by omega)]; exact n1
  exact ⟨cell_of_row _ _ 0 _ _ _ m1, cell_of_row _ _ 1 _ _ _ m1, cell_of_row _ _ 0 _ _ _ m2, cell_of_row _ _ 1 _ _ _ m2, cell_of_row _ _ 0 _ _ _ n3, cell_of_row _ _ 1 _ _ _ n3, fun j => frozen_of_row _ _ _ _ _ n3, by omega, b1.trans ((b2.mono (by omega)).trans (b3.mono (by omega)))⟩

set_option maxRecDepth 100000 in
set_option maxHeartbeats 2000000 in
theorem ntimes_num {a b : Value} {Z Y : Int} {w : World} (h : NumI w a Z) (h' : NumI w b Y) (hf : Fits (Z.natAbs * Y.natAbs)) :
    Calls Tryd.prog 25 #[a, b] w fun e w' => ∃ r, e = .returned r ∧ NumIO w' w.heap.size r (Z * Y) ∧ Below w.heap.size w w' := by
  obtain ⟨v, rfl, hv⟩ := h
  obtain ⟨u, rfl, hu⟩ := h'
  have HM := hide (fun (w1 : World) (hb : Below w.heap.size w w1) => etimes_num (hv.below hb) (hu.below hb) hf)
  obtain ⟨a1, k1, p1, rfl, e1⟩ := num_slice hv
  obtain ⟨a2, k2, p2, rfl, e2⟩ := num_slice hu
  obtain ⟨sa, hsa⟩ : ∃ sa, sa = decide (Z < 0) := ⟨_, rfl⟩
  obtain ⟨sb, hsb⟩ : ∃ sb, sb = decide (Y < 0) := ⟨_, rfl⟩
  rw [← hsa, ← hsb]
  have HS : Hid (∀ k3 : Nat, (k3 = 0 ↔ Z.natAbs * Y.natAbs = 0) → (!sa == sb && decide (0 < k3)) = decide (Z * Y < 0)) := fun k3 h3 => by
    rw [hsa, hsb]
    by_cases z0 : Z = 0
    · have h4 : k3 = 0 := h3.2 (by rw [z0]; simp)
      rw [h4, z0]; simp
    by_cases y0 : Y = 0
    · have h4 : k3 = 0 := h3.2 (by rw [y0]; simp)
      rw [h4, y0]; simp
    have hk : 0 < k3 := by
      rcases Nat.eq_zero_or_pos k3 with h4 | h4
      · have h5 := h3.1 h4
        rcases Nat.mul_eq_zero.1 h5 with h6 | h6 <;> omega
      · exact h4
    have hk' : decide (0 < k3) = true := decide_eq_true hk
    rw [hk', Bool.and_true]
    rcases Int.lt_or_gt_of_ne z0 with z1 | z1 <;> rcases Int.lt_or_gt_of_ne y0 with y1 | y1
    · rw [decide_eq_true z1, decide_eq_true y1, decide_eq_false (by have := Int.mul_pos_of_neg_of_neg z1 y1; omega)]; rfl
    · rw [decide_eq_true z1, decide_eq_false (show ¬ Y < 0 by omega), decide_eq_true (Int.mul_neg_of_neg_of_pos z1 y1)]; rfl
    · rw [decide_eq_false (show ¬ Z < 0 by omega), decide_eq_true y1, decide_eq_true (Int.mul_neg_of_pos_of_neg z1 y1)]; rfl
    · rw [decide_eq_false (show ¬ Z < 0 by omega), decide_eq_false (show ¬ Y < 0 by omega), decide_eq_false (by have := Int.mul_pos z1 y1; omega)]; rfl
  have HA : Hid ((Z * Y).natAbs = Z.natAbs * Y.natAbs) := Int.natAbs_mul Z Y
  obtain ⟨W, hW⟩ : ∃ W, W = (((w.alloc (.cells #[.bool sa, .slice a1 k1 p1] 48)).alloc (.cells #[.bool sb, .slice a2 k2 p2] 48)).alloc (.cells #[.bool false, .slice none 0 0] 48)) := ⟨_, rfl⟩
  obtain ⟨c00, c01, c10, c11, c20, c21, fz, hsz, hbel⟩ := three_new w sa sb a1 a2 k1 p1 k2 p2 W hW
  have HN : Hid (W.heap.size = w.heap.size + 1 + 1 + 1 ∧ Below w.heap.size w W) := ⟨hsz, hbel⟩
  have f20 := fz 0
  have f21 := fz 1
  clear hv hu hf hsa hsb hsz hbel fz e1 e2
  go_enter Tryd.func25, Tryd.ntmps25
  go_wp2_with fail
  rw [← hW]
  clear hW
  refine (HM.out W HN.out.2).mono ?_
  rintro e w5 ⟨r, rfl, hr, B5⟩
  obtain ⟨a3, k3, p3, rfl, e3⟩ := num_slice hr.num
  have HR := hide hr
  have HI := hide B5
  have HE := hide e3
  have hz5 := block_lt_of_cell c20
  have f20 : w5.frozen? ⟨w.heap.size + 1 + 1, 0, none⟩ = false := by rw [B5.frozen (p := ⟨w.heap.size + 1 + 1, 0, none⟩) hz5]; exact f20
  have f21 : w5.frozen? ⟨w.heap.size + 1 + 1, 1, none⟩ = false := by rw [B5.frozen (p := ⟨w.heap.size + 1 + 1, 1, none⟩) hz5]; exact f21
  have c00 : w5.cell? ⟨w.heap.size, 0, none⟩ = some (.bool sa) := by rw [B5.cell (p := ⟨w.heap.size, 0, none⟩) (block_lt_of_cell c00)]; exact c00
  have c01 : w5.cell? ⟨w.heap.size, 1, none⟩ = some (.slice a1 k1 p1) := by rw [B5.cell (p := ⟨w.heap.size, 1, none⟩) (block_lt_of_cell c01)]; exact c01
  have c10 : w5.cell? ⟨w.heap.size + 1, 0, none⟩ = some (.bool sb) := by rw [B5.cell (p := ⟨w.heap.size + 1, 0, none⟩) (block_lt_of_cell c10)]; exact c10
  have c11 : w5.cell? ⟨w.heap.size + 1, 1, none⟩ = some (.slice a2 k2 p2) := by rw [B5.cell (p := ⟨w.heap.size + 1, 1, none⟩) (block_lt_of_cell c11)]; exact c11
  have c20 : w5.cell? ⟨w.heap.size + 1 + 1, 0, none⟩ = some (.bool false) := by rw [B5.cell (p := ⟨w.heap.size + 1 + 1, 0, none⟩) (block_lt_of_cell c20)]; exact c20
  have c21 : w5.cell? ⟨w.heap.size + 1 + 1, 1, none⟩ = some (.slice none 0 0) := by rw [B5.cell (p := ⟨w.heap.size + 1 + 1, 1, none⟩) (block_lt_of_cell c21)]; exact c21
  clear B5 hr e3 hz5
  have hfin : ∀ s : Bool, s = decide (Z * Y < 0) → NumIO ((w5.setCell ⟨w.heap.size + 1 + 1, 0, none⟩ (.bool s)).setCell ⟨w.heap.size + 1 + 1, 1, none⟩ (.slice a3 k3 p3)) w.heap.size (.agg #[.bool s, .slice a3 k3 p3]) (Z * Y) ∧ Below w.heap.size w ((w5.setCell ⟨w.heap.size + 1 + 1, 0, none⟩ (.bool s)).setCell ⟨w.heap.size + 1 + 1, 1, none⟩ (.slice a3 k3 p3)) ∧ ((w5.setCell ⟨w.heap.size + 1 + 1, 0, none⟩ (.bool s)).setCell ⟨w.heap.size + 1 + 1, 1, none⟩ (.slice a3 k3 p3)).cell? ⟨w.heap.size + 1 + 1, 0, none⟩ = some (.bool s) ∧ ((w5.setCell ⟨w.heap.size + 1 + 1, 0, none⟩ (.bool s)).setCell ⟨w.heap.size + 1 + 1, 1, none⟩ (.slice a3 k3 p3)).cell? ⟨w.heap.size + 1 + 1, 1, none⟩ = some (.slice a3 k3 p3) := fun s hs => by
    obtain ⟨r0, r1, r2⟩ := num_put (s := s) c20 c21 (by have := HN.out.1; omega) HR.out
    refine ⟨⟨_, by rw [hs], by rw [HA.out]; exact r2.mono (by have := HN.out.1; omega)⟩, ((HN.out.2.trans (HI.out.mono (by have := HN.out.1; omega))).setCell (show w.heap.size ≤ w.heap.size + 1 + 1 by omega) _).setCell (show w.heap.size ≤ w.heap.size + 1 + 1 by omega) _, r0, r1⟩
  have HFin := hide hfin
  clear hfin
  by_cases hs : sa = sb
  · subst hs
    have hq9 : false = decide (Z * Y < 0) := by have h9 := HS.out k3 HE.out; simpa using h9
    have HQ := hide hq9
    clear hq9
    go_wp2_with fail
    obtain ⟨q1, q2, q3, q4⟩ := HFin.out false HQ.out
    exact bodyPost_ret (v := .agg #[.bool false, .slice a3 k3 p3]) (by simp [results, Tryd.results25, go_sem, q3, q4]) rfl ⟨_, rfl, q1, q2⟩
  · have hb : (sa == sb) = false := by simp [hs]
    by_cases hkn : 0 < k3
    · have hk : (0 : Int) < (k3 : Int) := by omega
      have HQ : Hid (true = decide (Z * Y < 0)) := by have h9 := HS.out k3 HE.out; rw [hb, decide_eq_true hkn] at h9; exact h9
      go_wp2_with fail
      obtain ⟨q1, q2, q3, q4⟩ := HFin.out true HQ.out
      exact bodyPost_ret (v := .agg #[.bool true, .slice a3 k3 p3]) (by simp [results, Tryd.results25, go_sem, q3, q4]) rfl ⟨_, rfl, q1, q2⟩
    · have hk : ¬ (0 : Int) < (k3 : Int) := by omega
      have HQ : Hid (false = decide (Z * Y < 0)) := by have h9 := HS.out k3 HE.out; rw [hb, decide_eq_false hkn] at h9; exact h9
      go_wp2_with fail
      obtain ⟨q1, q2, q3, q4⟩ := HFin.out false HQ.out
      exact bodyPost_ret (v := .agg #[.bool false, .slice a3 k3 p3]) (by simp [results, Tryd.results25, go_sem, q3, q4]) rfl ⟨_, rfl, q1, q2⟩

end Go.Proofs.YtolaaemkcmiabaaDoor

/- exact's numbers: plus, less where nothing falls below nought, spread. -/
namespace Go.Proofs.YtolaaemkcmiabaaDoor
open Go.RowKit
open M
set_option linter.unusedVariables false
set_option linter.unusedSimpArgs false

set_option maxRecDepth 100000 in
set_option maxHeartbeats 4000000 in
theorem nplus_same {v u : Value} {A C : Nat} {w : World} (h : Num w v A) (h' : Num w u C) (hf : Fits (A + C)) :
    Calls Tryd.prog 88 #[.agg #[.bool false, v], .agg #[.bool false, u]] w fun e w' => ∃ r, e = .returned (.agg #[.bool false, r]) ∧ NumO w' w.heap.size r (A + C) ∧ Below w.heap.size w w' := by
  obtain ⟨sa, hsa⟩ : ∃ sa : Bool, sa = false := ⟨_, rfl⟩
  obtain ⟨sb, hsb⟩ : ∃ sb : Bool, sb = false := ⟨_, rfl⟩
  have HM := hide (fun (w1 : World) (hb : Below w.heap.size w w1) => eplus_num (h.below hb) (h'.below hb) hf)
  obtain ⟨a1, k1, p1, rfl, _⟩ := num_slice h
  obtain ⟨a2, k2, p2, rfl, _⟩ := num_slice h'
  obtain ⟨W, hW⟩ : ∃ W, W = (((w.alloc (.cells #[.bool sa, .slice a1 k1 p1] 48)).alloc (.cells #[.bool sb, .slice a2 k2 p2] 48)).alloc (.cells #[.bool false, .slice none 0 0] 48)) := ⟨_, rfl⟩
  obtain ⟨c00, c01, c10, c11, c20, c21, fz, hsz, hbel⟩ := three_new w sa sb a1 a2 k1 p1 k2 p2 W hW
  subst hsa hsb
  clear h h' hf
  go_enter Tryd.func88, Tryd.ntmps88
  go_wp2_with fail
  rw [← hW]
  have HI : Hid (Below w.heap.size w W.drew) := hbel.drew
  have HWs : Hid (w.heap.size + 1 + 1 < W.drew.heap.size) := by show _ < W.heap.size; omega
  have c00 : W.drew.cell? ⟨w.heap.size, 0, none⟩ = some (.bool false) := c00
  have c01 : W.drew.cell? ⟨w.heap.size, 1, none⟩ = some (.slice a1 k1 p1) := c01
  have c10 : W.drew.cell? ⟨w.heap.size + 1, 0, none⟩ = some (.bool false) := c10
  have c11 : W.drew.cell? ⟨w.heap.size + 1, 1, none⟩ = some (.slice a2 k2 p2) := c11
  have c20 : W.drew.cell? ⟨w.heap.size + 1 + 1, 0, none⟩ = some (.bool false) := c20
  have c21 : W.drew.cell? ⟨w.heap.size + 1 + 1, 1, none⟩ = some (.slice none 0 0) := c21
  have f20 : W.drew.frozen? ⟨w.heap.size + 1 + 1, 0, none⟩ = false := fz 0
  have f21 : W.drew.frozen? ⟨w.heap.size + 1 + 1, 1, none⟩ = false := fz 1
  have HLt := hide hsz
  clear hW hsz hbel fz
  go_region_held3 (fun w' => w'.cell? ⟨w.heap.size, 0, none⟩ = some (.bool false) ∧ w'.cell? ⟨w.heap.size, 1, none⟩ = some (.slice a1 k1 p1) ∧ w'.cell? ⟨w.heap.size + 1, 0, none⟩ = some (.bool false) ∧ w'.cell? ⟨w.heap.size + 1, 1, none⟩ = some (.slice a2 k2 p2)) (first | exact ⟨c00, c01, c10, c11⟩ | (refine ⟨?_, ?_, ?_, ?_⟩ <;> (rw [cell_other _ _ _ _ _ _ (by omega), cell_other _ _ _ _ _ _ (by omega)]; assumption)))
    (first | (go_at_call 77; go_must (refine (HM.out _ HI.out).mono ?_); rintro _ w5 ⟨r, rfl, hr, B5⟩; obtain ⟨a3, k3, p3, rfl, e3⟩ := num_slice hr.num; have HR := hide hr; have HI := hide (HI.out.trans (B5.mono HI.out.size)); have HOw := hide (Nat.lt_of_lt_of_le HWs.out (Nat.le_refl _)); have HWs := hide (Nat.lt_of_lt_of_le HWs.out B5.size); have f21 : w5.frozen? ⟨w.heap.size + 1 + 1, 1, none⟩ = false := (by rw [B5.frozen (p := ⟨w.heap.size + 1 + 1, 1, none⟩) (block_lt_of_cell c21)]; exact f21); have f20 : w5.frozen? ⟨w.heap.size + 1 + 1, 0, none⟩ = false := (by rw [B5.frozen (p := ⟨w.heap.size + 1 + 1, 0, none⟩) (block_lt_of_cell c20)]; exact f20); have c00 : w5.cell? ⟨w.heap.size, 0, none⟩ = some (.bool false) := (by rw [B5.cell (p := ⟨w.heap.size, 0, none⟩) (block_lt_of_cell c00)]; exact c00); have c01 : w5.cell? ⟨w.heap.size, 1, none⟩ = some (.slice a1 k1 p1) := (by rw [B5.cell (p := ⟨w.heap.size, 1, none⟩) (block_lt_of_cell c01)]; exact c01); have c10 : w5.cell? ⟨w.heap.size + 1, 0, none⟩ = some (.bool false) := (by rw [B5.cell (p := ⟨w.heap.size + 1, 0, none⟩) (block_lt_of_cell c10)]; exact c10); have c11 : w5.cell? ⟨w.heap.size + 1, 1, none⟩ = some (.slice a2 k2 p2) := (by rw [B5.cell (p := ⟨w.heap.size + 1, 1, none⟩) (block_lt_of_cell c11)]; exact c11); have c20 : w5.cell? ⟨w.heap.size + 1 + 1, 0, none⟩ = some (.bool false) := (by rw [B5.cell (p := ⟨w.heap.size + 1 + 1, 0, none⟩) (block_lt_of_cell c20)]; exact c20); have c21 : w5.cell? ⟨w.heap.size + 1 + 1, 1, none⟩ = some (.slice none 0 0) := (by rw [B5.cell (p := ⟨w.heap.size + 1 + 1, 1, none⟩) (block_lt_of_cell c21)]; exact c21); clear B5 hr e3))
  go_wp2_with fail
  obtain ⟨r0, r1, r2⟩ := num_put (s := false) c20 c21 HOw.out HR.out
  exact bodyPost_ret (v := .agg #[.bool false, .slice a3 k3 p3]) (by simp [results, Tryd.results88, go_sem, r0, r1]) rfl ⟨_, rfl, r2.mono (by have := HOw.out; omega), (HI.out.setCell (show w.heap.size ≤ w.heap.size + 1 + 1 by omega) _).setCell (show w.heap.size ≤ w.heap.size + 1 + 1 by omega) _⟩

set_option maxRecDepth 100000 in
set_option maxHeartbeats 4000000 in
theorem nplus_more {v u : Value} {A C : Nat} {w : World} (h : Num w v A) (h' : Num w u C) (hle : C ≤ A) :
    Calls Tryd.prog 88 #[.agg #[.bool false, v], .agg #[.bool true, u]] w fun e w' => ∃ r, e = .returned (.agg #[.bool false, r]) ∧ NumO w' w.heap.size r (A - C) ∧ Below w.heap.size w w' := by
  obtain ⟨sa, hsa⟩ : ∃ sa : Bool, sa = false := ⟨_, rfl⟩
  obtain ⟨sb, hsb⟩ : ∃ sb : Bool, sb = true := ⟨_, rfl⟩
  have hf : Fits (A - C) := h.fits.le (by omega)
  have HM := hide (fun (w1 : World) (hb : Below w.heap.size w w1) => eless_num (h.below hb) (h'.below hb) hle hf)
  have HC := hide (fun (w1 : World) (hb : Below w.heap.size w w1) => Cmp_ok (h.below hb) (h'.below hb))
  have hcc : (M.cmpI A C = 1 ∧ A ≠ C) ∨ (M.cmpI A C = 0 ∧ A = C) := by
    unfold M.cmpI
    split
    · omega
    · split
      all_goals first | exact .inr ⟨rfl, by omega⟩ | exact .inl ⟨rfl, by omega⟩
  obtain ⟨a1, k1, p1, rfl, _⟩ := num_slice h
  obtain ⟨a2, k2, p2, rfl, _⟩ := num_slice h'
  obtain ⟨W, hW⟩ : ∃ W, W = (((w.alloc (.cells #[.bool sa, .slice a1 k1 p1] 48)).alloc (.cells #[.bool sb, .slice a2 k2 p2] 48)).alloc (.cells #[.bool false, .slice none 0 0] 48)) := ⟨_, rfl⟩
  obtain ⟨c00, c01, c10, c11, c20, c21, fz, hsz, hbel⟩ := three_new w sa sb a1 a2 k1 p1 k2 p2 W hW
  subst hsa hsb
  clear h h' hf
  go_enter Tryd.func88, Tryd.ntmps88
  go_wp2_with fail
  rw [← hW]
  refine (HC.out W hbel).mono ?_
  rintro e W2 ⟨rfl, mm, hw2⟩
  have hbel2 : Below w.heap.size w W2 := by rw [hw2]; exact below_drewN hbel mm
  have hs2 : W2.heap.size = W.heap.size := by rw [hw2]; rfl
  have c00 : W2.cell? ⟨w.heap.size, 0, none⟩ = some (.bool false) := by rw [hw2]; exact c00
  have c01 : W2.cell? ⟨w.heap.size, 1, none⟩ = some (.slice a1 k1 p1) := by rw [hw2]; exact c01
  have c10 : W2.cell? ⟨w.heap.size + 1, 0, none⟩ = some (.bool true) := by rw [hw2]; exact c10
  have c11 : W2.cell? ⟨w.heap.size + 1, 1, none⟩ = some (.slice a2 k2 p2) := by rw [hw2]; exact c11
  have c20 : W2.cell? ⟨w.heap.size + 1 + 1, 0, none⟩ = some (.bool false) := by rw [hw2]; exact c20
  have c21 : W2.cell? ⟨w.heap.size + 1 + 1, 1, none⟩ = some (.slice none 0 0) := by rw [hw2]; exact c21
  have fz2 : ∀ o, W2.frozen? ⟨w.heap.size + 1 + 1, o, none⟩ = false := fun o => by rw [hw2]; exact fz o
  clear hW hw2 hbel fz HC
  rcases hcc with ⟨hcc, hne⟩ | ⟨hcc, heq⟩
  · rw [hcc]
    go_wp2_with fail
    have HI : Hid (Below w.heap.size w W2.drew) := hbel2.drew
    have HWs : Hid (w.heap.size + 1 + 1 < W2.drew.heap.size) := by show _ < W2.heap.size; omega
    have c00 : W2.drew.cell? ⟨w.heap.size, 0, none⟩ = some (.bool false) := c00
    have c01 : W2.drew.cell? ⟨w.heap.size, 1, none⟩ = some (.slice a1 k1 p1) := c01
    have c10 : W2.drew.cell? ⟨w.heap.size + 1, 0, none⟩ = some (.bool true) := c10
    have c11 : W2.drew.cell? ⟨w.heap.size + 1, 1, none⟩ = some (.slice a2 k2 p2) := c11
    have c20 : W2.drew.cell? ⟨w.heap.size + 1 + 1, 0, none⟩ = some (.bool false) := c20
    have c21 : W2.drew.cell? ⟨w.heap.size + 1 + 1, 1, none⟩ = some (.slice none 0 0) := c21
    have f20 : W2.drew.frozen? ⟨w.heap.size + 1 + 1, 0, none⟩ = false := fz2 0
    have f21 : W2.drew.frozen? ⟨w.heap.size + 1 + 1, 1, none⟩ = false := fz2 1
    clear fz2 hs2 hbel2 hsz hcc
    go_region_held3 (fun w' => w'.cell? ⟨w.heap.size, 0, none⟩ = some (.bool false) ∧ w'.cell? ⟨w.heap.size, 1, none⟩ = some (.slice a1 k1 p1) ∧ w'.cell? ⟨w.heap.size + 1, 0, none⟩ = some (.bool true) ∧ w'.cell? ⟨w.heap.size + 1, 1, none⟩ = some (.slice a2 k2 p2)) (first | exact ⟨c00, c01, c10, c11⟩ | (refine ⟨?_, ?_, ?_, ?_⟩ <;> (rw [cell_other _ _ _ _ _ _ (by omega), cell_other _ _ _ _ _ _ (by omega)]; assumption)))
      (first | (go_at_call 76; go_must (refine (HM.out _ HI.out).mono ?_); rintro _ w5 ⟨r, rfl, hr, B5⟩; obtain ⟨a3, k3, p3, rfl, e3⟩ := num_slice hr.num; have HR := hide hr; have HI := hide (HI.out.trans (B5.mono HI.out.size)); have HOw := hide (Nat.lt_of_lt_of_le HWs.out (Nat.le_refl _)); have HWs := hide (Nat.lt_of_lt_of_le HWs.out B5.size); have f21 : w5.frozen? ⟨w.heap.size + 1 + 1, 1, none⟩ = false := (by rw [B5.frozen (p := ⟨w.heap.size + 1 + 1, 1, none⟩) (block_lt_of_cell c21)]; exact f21); have f20 : w5.frozen? ⟨w.heap.size + 1 + 1, 0, none⟩ = false := (by rw [B5.frozen (p := ⟨w.heap.size + 1 + 1, 0, none⟩) (block_lt_of_cell c20)]; exact f20); have c00 : w5.cell? ⟨w.heap.size, 0, none⟩ = some (.bool false) := (by rw [B5.cell (p := ⟨w.heap.size, 0, none⟩) (block_lt_of_cell c00)]; exact c00); have c01 : w5.cell? ⟨w.heap.size, 1, none⟩ = some (.slice a1 k1 p1) := (by rw [B5.cell (p := ⟨w.heap.size, 1, none⟩) (block_lt_of_cell c01)]; exact c01); have c10 : w5.cell? ⟨w.heap.size + 1, 0, none⟩ = some (.bool true) := (by rw [B5.cell (p := ⟨w.heap.size + 1, 0, none⟩) (block_lt_of_cell c10)]; exact c10); have c11 : w5.cell? ⟨w.heap.size + 1, 1, none⟩ = some (.slice a2 k2 p2) := (by rw [B5.cell (p := ⟨w.heap.size + 1, 1, none⟩) (block_lt_of_cell c11)]; exact c11); have c20 : w5.cell? ⟨w.heap.size + 1 + 1, 0, none⟩ = some (.bool false) := (by rw [B5.cell (p := ⟨w.heap.size + 1 + 1, 0, none⟩) (block_lt_of_cell c20)]; exact c20); have c21 : w5.cell? ⟨w.heap.size + 1 + 1, 1, none⟩ = some (.slice none 0 0) := (by rw [B5.cell (p := ⟨w.heap.size + 1 + 1, 1, none⟩) (block_lt_of_cell c21)]; exact c21); clear B5 hr e3))
    go_wp2_with fail
    obtain ⟨r0, r1, r2⟩ := num_put (s := false) c20 c21 HOw.out HR.out
    exact bodyPost_ret (v := .agg #[.bool false, .slice a3 k3 p3]) (by simp [results, Tryd.results88, go_sem, r0, r1]) rfl ⟨_, rfl, r2.mono (by have := HOw.out; omega), (HI.out.setCell (show w.heap.size ≤ w.heap.size + 1 + 1 by omega) _).setCell (show w.heap.size ≤ w.heap.size + 1 + 1 by omega) _⟩
  · rw [hcc]
    have f20 := fz2 0
    have f21 := fz2 1
    have HB2 := hide hbel2
    subst heq
    clear hbel2 fz2 hs2 hsz hcc
    go_wp2_with fail
    have r0 : ((W2.setCell ⟨w.heap.size + 1 + 1, 0, none⟩ (.bool false)).setCell ⟨w.heap.size + 1 + 1, 1, none⟩ (.slice none 0 0)).cell? ⟨w.heap.size + 1 + 1, 0, none⟩ = some (.bool false) := by rw [cell_setCell_ne _ _ _ _ _ (by omega)]; exact cell_setCell_eq _ _ _ _ _ c20
    have r1 : ((W2.setCell ⟨w.heap.size + 1 + 1, 0, none⟩ (.bool false)).setCell ⟨w.heap.size + 1 + 1, 1, none⟩ (.slice none 0 0)).cell? ⟨w.heap.size + 1 + 1, 1, none⟩ = some (.slice none 0 0) := cell_setCell_eq _ _ _ _ (.slice none 0 0) (by rw [cell_setCell_ne _ _ _ _ _ (by omega)]; exact c21)
    exact bodyPost_ret (v := .agg #[.bool false, .slice none 0 0]) (by simp [results, Tryd.results88, go_sem, r0, r1]) rfl ⟨_, rfl, by rw [Nat.sub_self]; exact NumO.nil _ _, (HB2.out.setCell (show w.heap.size ≤ w.heap.size + 1 + 1 by omega) _).setCell (show w.heap.size ≤ w.heap.size + 1 + 1 by omega) _⟩

end Go.Proofs.YtolaaemkcmiabaaDoor

namespace Go.Proofs.YtolaaemkcmiabaaDoor
open Go.RowKit
open M
set_option linter.unusedVariables false
set_option linter.unusedSimpArgs false

/-- The cells of a sum: from o on in block g, n words of N. -/
structure Ws (w : World) (g o n N : Nat) : Prop where
  lt : N < 18446744073709551616 ^ n
  cell : ∀ j, j < n → w.cell? ⟨g, o + j, none⟩ = some (.int .u64 (W6.wd N j : Nat))
  free : ∀ j, j < n → w.frozen? ⟨g, o + j, none⟩ = false

theorem Ws.below {w w' : World} {g o n N B : Nat} (h : Ws w g o n N) (hb : Below B w w') (hg : g < B) : Ws w' g o n N :=
  ⟨h.lt, fun j hj => by rw [hb.cell (p := ⟨g, o + j, none⟩) hg]; exact h.cell j hj, fun j hj => by rw [hb.frozen (p := ⟨g, o + j, none⟩) hg]; exact h.free j hj⟩

theorem Ws.only {w w' : World} {g o n N b lo hi : Nat} (h : Ws w g o n N) (ho : Only b lo hi w w') (hg : g ≠ b) (hs : g < w.heap.size) : Ws w' g o n N :=
  ⟨h.lt, fun j hj => by rw [World.cell?_of_block (w := w) (a := ⟨g, o + j, none⟩) (ho.block g hs hg)]; exact h.cell j hj, fun j hj => by rw [World.frozen?_of_block (w := w) (a := ⟨g, o + j, none⟩) (ho.block g hs hg)]; exact h.free j hj⟩

theorem Ws.apart {w w' : World} {g o n N lo hi : Nat} (h : Ws w g o n N) (ho : Only g lo hi w w') (hd : o + n ≤ lo ∨ hi ≤ o) : Ws w' g o n N :=
  ⟨h.lt, fun j hj => by rw [ho.cell _ (by omega)]; exact h.cell j hj, fun j hj => by rw [ho.frozen]; exact h.free j hj⟩

theorem Ws.drewN {w : World} {g o n N : Nat} (h : Ws w g o n N) (m : Nat) : Ws (w.drewN m) g o n N := ⟨h.lt, h.cell, h.free⟩
theorem Ws.drew {w : World} {g o n N : Nat} (h : Ws w g o n N) : Ws w.drew g o n N := ⟨h.lt, h.cell, h.free⟩

/-- While a sum's words are gone through, from word s on: those from s on and below s + i are X's. -/
structure Wm (w : World) (g o k i A X : Nat) : Prop where
  lo : ∀ j, j < i → w.cell? ⟨g, o + j, none⟩ = some (.int .u64 (W6.wd X j : Nat))
  hi : ∀ j, i ≤ j → j < k → w.cell? ⟨g, o + j, none⟩ = some (.int .u64 (W6.wd A j : Nat))
  free : ∀ j, j < k → w.frozen? ⟨g, o + j, none⟩ = false

theorem Wm.step {w : World} {g o k i N X : Nat} (h : Wm w g o k i N X) (hi : i < k) (y : Int) (hy : y = (W6.wd X i : Nat)) : Wm (w.setCell ⟨g, o + i, none⟩ (.int .u64 y)) g o k (i + 1) N X := by
  subst hy
  refine ⟨fun j hj => ?_, fun j h1 h2 => ?_, fun j hj => by rw [frozen_setCell]; exact h.free j hj⟩
  · by_cases e : j = i
    · subst e; exact cell_setCell_eq _ _ _ _ _ (h.hi j (Nat.le_refl _) hi)
    · rw [cell_setCell_ne _ _ _ _ _ (by omega)]; exact h.lo j (by omega)
  · rw [cell_setCell_ne _ _ _ _ _ (by omega)]; exact h.hi j (by omega) h2

theorem wd_from (N s j : Nat) : W6.wd N (s + j) = W6.wd (N / 18446744073709551616 ^ s) j := by
  unfold W6.wd
  rw [Nat.pow_add, Nat.div_div_eq_div_mul]

theorem Ws.from {w : World} {g o n N : Nat} (h : Ws w g o n N) (s : Nat) (X : Nat) : Wm w g (o + s) (n - s) 0 (N / 18446744073709551616 ^ s) X :=
  ⟨fun j hj => by omega, fun j _ hj => by rw [Nat.add_assoc, ← wd_from]; exact h.cell (s + j) (by omega), fun j hj => by rw [Nat.add_assoc]; exact h.free (s + j) (by omega)⟩

/-- Behind all words, or where the others stay. -/
theorem Ws.done {w w' : World} {g o n i : Nat} {Z D : Int} (s X : Nat) (h : Ws w g o n (W6.tc n Z)) (hs : s ≤ n) (hm : Wm w' g (o + s) (n - s) i (W6.tc n Z / 18446744073709551616 ^ s) X) (hi : ∀ j, i ≤ j → j < n - s → W6.wd X j = W6.wd (W6.tc n Z / 18446744073709551616 ^ s) j)
    (ho : Only g (o + s) (o + n) w w') (hX : X % 18446744073709551616 ^ (n - s) = W6.tc (n - s) (((W6.tc n Z / 18446744073709551616 ^ s : Nat) : Int) + D)) : Ws w' g o n (W6.tc n (Z + D * ((18446744073709551616 ^ s : Nat) : Int))) := by
  obtain ⟨k, rfl⟩ : ∃ k, n = s + k := ⟨n - s, by omega⟩
  rw [show s + k - s = k from by omega] at *
  have e := W6.tc_from s k Z D _ hX
  refine ⟨W6.tc_lt _ _, fun j hj => ?_, fun j hj => by rw [ho.frozen]; exact h.free j hj⟩
  rw [e]
  rcases Nat.lt_or_ge j s with h1 | h1
  · rw [ho.cell _ (by omega), W6.wd_low h1, W6.wd_mod _ h1]; exact h.cell j hj
  · obtain ⟨t, rfl⟩ : ∃ t, j = s + t := ⟨j - s, by omega⟩
    rw [wd_from, Nat.add_mul_div_left _ _ (W6.pw_pos s), Nat.div_eq_of_lt (W6.mod_lt _ s), Nat.zero_add, W6.wd_mod _ (by omega : t < k), ← Nat.add_assoc]
    rcases Nat.lt_or_ge t i with h2 | h2
    · exact hm.lo t h2
    · rw [hi t h2 (by omega)]; exact hm.hi t h2 (by omega)

theorem ones_xor (a : Nat) (ha : a < 2 ^ 64) : (2 ^ 64 - 1) ^^^ a = 2 ^ 64 - 1 - a := by
  apply Nat.eq_of_testBit_eq
  intro i
  rw [show 2 ^ 64 - 1 - a = 2 ^ 64 - (a + 1) by omega, Nat.testBit_two_pow_sub_succ ha, Nat.testBit_xor, Nat.testBit_two_pow_sub_one]
  by_cases h : i < 64
  · simp [h]
  · have : a.testBit i = false := Nat.testBit_lt_two_pow (Nat.lt_of_lt_of_le ha (Nat.pow_le_pow_right (by omega) (by omega)))
    simp [h, this]

/-- A word, turned or not. -/
theorem flp_xor (neg : Bool) (q : Nat) (hq : q < 18446744073709551616) : bits BinOp.xor IntKind.u64 (flp neg : Nat) (q : Int) = ((if neg then 18446744073709551615 - q else q : Nat) : Int) := by
  cases neg with
  | false =>
    rw [show (flp false) = 0 from rfl, u64_xor_nat 0 q (by omega) hq]
    simp
  | true =>
    rw [show (flp true) = 18446744073709551615 from rfl, u64_xor_nat 18446744073709551615 q (by omega) hq]
    have := ones_xor q hq
    simp only [if_true]
    exact congrArg _ this

theorem flp_and (neg : Bool) : bits BinOp.and IntKind.u64 (flp neg : Nat) 1 = (W6.c0 neg : Nat) := by cases neg <;> decide +kernel

theorem flp_word (neg : Bool) (Q k j : Nat) (hj : j < k) (hQ : W6.wd Q j = 0) : W6.wd (W6.sm neg Q k) j = flp neg := by
  rw [W6.wd_sm neg Q k j hj, hQ]; cases neg <;> rfl

/-- Where nothing is carried any more. -/
theorem stay_on (A Q k i : Nat) (neg : Bool) (hQ : ∀ j, i ≤ j → W6.wd Q j = 0) (hc : W6.cy A (W6.sm neg Q k) (W6.c0 neg) i = W6.c0 neg) (j : Nat) (h1 : i ≤ j) (h2 : j < k) : W6.wd (A + W6.sm neg Q k + W6.c0 neg) j = W6.wd A j := by
  cases neg with
  | false => exact W6.cy_keep0 _ _ _ i j hc h1 (fun t h3 h4 => flp_word false Q k t (by omega) (hQ t h3))
  | true => exact W6.cy_keep1 _ _ _ i j hc h1 (fun t h3 h4 => flp_word true Q k t (by omega) (hQ t h3))

theorem c0_le (neg : Bool) : W6.c0 neg ≤ 1 := by cases neg <;> decide

/-- What is told at the end. -/
theorem gather_end {w wr : World} {g o n i s up : Nat} {Z : Int} (neg : Bool) (P a : Nat) (h : Ws w g o n (W6.tc n Z)) (hs : s = a / 64) (hup : up = a % 64) (hsn : s < n)
    (hm : Wm wr g (o + s) (n - s) i (W6.tc n Z / 18446744073709551616 ^ s) (W6.tc n Z / 18446744073709551616 ^ s + W6.sm neg (P * 2 ^ up) (n - s) + W6.c0 neg))
    (hi : ∀ j, i ≤ j → j < n - s → W6.wd (W6.tc n Z / 18446744073709551616 ^ s + W6.sm neg (P * 2 ^ up) (n - s) + W6.c0 neg) j = W6.wd (W6.tc n Z / 18446744073709551616 ^ s) j) (ho : Only g (o + s) (o + n) w wr) :
    Ws wr g o n (W6.tc n (Z + W6.sgn neg (P * 2 ^ a))) := by
  have e : P * 2 ^ a = P * 2 ^ up * 18446744073709551616 ^ s := by
    rw [Nat.mul_assoc, show (18446744073709551616 : Nat) ^ s = 2 ^ (64 * s) from by rw [Nat.pow_mul], ← Nat.pow_add, show up + 64 * s = a from by omega]
  have e2 : W6.sgn neg (P * 2 ^ a) = W6.sgn neg (P * 2 ^ up) * ((18446744073709551616 ^ s : Nat) : Int) := by
    rw [e]; unfold W6.sgn
    cases neg <;> simp [Int.neg_mul]
  rw [e2]
  exact Ws.done s _ h (Nat.le_of_lt hsn) hm hi ho (W6.sm_tc _ _ _ neg)

theorem wd_three (P up j : Nat) (hP : P < 18446744073709551616 * 18446744073709551616) (hup : up < 64) (hj : 3 ≤ j) : W6.wd (P * 2 ^ up) j = 0 := by
  refine W6.wd_high (k := 3) ?_ hj
  have h1 : (2 : Nat) ^ up ≤ 2 ^ 63 := Nat.pow_le_pow_right (by omega) (by omega)
  have h2 : P * 2 ^ up ≤ P * 2 ^ 63 := Nat.mul_le_mul_left _ h1
  omega

set_option maxRecDepth 100000 in
set_option maxHeartbeats 2000000 in
theorem gather_any (g o n cap : Nat) (Z : Int) (xn yn : Bool) (xm ym xa ya : Nat) (w : World) (hW : Ws w g o n (W6.tc n Z)) (hn : n ≤ 100) (hcap : n ≤ cap) (hc2 : cap ≤ 100) (hg : g < w.heap.size)
    (hxm : xm < 18446744073709551616) (hym : ym < 18446744073709551616) (hat : (xa + ya) / 64 < n) :
    Calls Tryd.prog 14 #[.slice (some ⟨g, o, none⟩) n cap, prt xn xm xa, prt yn ym ya] w fun e w' => e = .returned (.tuple #[]) ∧ Ws w' g o n (W6.tc n (Z + W6.sgn (xn != yn) (xm * ym * 2 ^ (xa + ya)))) ∧ Only g o (o + n) w w' := by
  have HW := hide hW
  have HL : Hid (∀ (up : Nat) (w : World), up < 64 → Calls Tryd.prog 30 #[.int .u64 xm, .int .u64 ym, .int .i64 up] w fun e w' => e = .returned (.agg #[.int .u64 (W6.wd (xm * ym * 2 ^ up) 0 : Nat), .int .u64 (W6.wd (xm * ym * 2 ^ up) 1 : Nat), .int .u64 (W6.wd (xm * ym * 2 ^ up) 2 : Nat)]) ∧ Below w.heap.size w w') := fun up w h => laid_any xm ym up hxm hym h w
  obtain ⟨s, hs⟩ : ∃ s, s = (xa + ya) / 64 := ⟨_, rfl⟩
  obtain ⟨up, hup⟩ : ∃ up, up = (xa + ya) % 64 := ⟨_, rfl⟩
  have hq1 : ((xa : Int) + (ya : Int)) / 64 = (s : Int) := by omega
  have hq2 : ((xa : Int) + (ya : Int)) % 64 = (up : Int) := by omega
  have hsn : (s : Int) < (n : Int) := by omega
  have hupl : up < 64 := by omega
  have hsum : (xa : Int) + (ya : Int) ≤ 6400 := by omega
  have Hs : Hid (s = (xa + ya) / 64 ∧ up = (xa + ya) % 64 ∧ s < n) := ⟨hs, hup, by omega⟩
  have hpos : (0 : Int) ≤ (xa : Int) + (ya : Int) := by omega
  have hpos' : (0 : Int) ≤ (s : Int) := by omega
  obtain ⟨t, ht⟩ : ∃ t : Int, t = (xa : Int) + (ya : Int) := ⟨_, rfl⟩
  rw [← ht] at hq1 hq2 hsum hpos
  have hP : xm * ym < 18446744073709551616 * 18446744073709551616 := by
    refine Nat.lt_of_le_of_lt (Nat.mul_le_mul_left xm (Nat.le_of_lt hym)) ?_
    exact Nat.mul_lt_mul_of_pos_right hxm (by omega)
  obtain ⟨neg, hneg⟩ : ∃ neg, neg = (xn != yn) := ⟨_, rfl⟩
  have HSG : Hid (∀ w : World, Calls Tryd.prog 29 #[.bool (xn != yn)] w fun e w' => e = .returned (.tuple #[.int .u64 (flp neg : Nat), .int .u64 (W6.c0 neg : Nat)]) ∧ w' = w) := by rw [hneg]; exact fun w => signWords_any (xn != yn) w
  rw [← hneg]
  have HE := fun (wr : World) (i : Nat) => hide (gather_end (wr := wr) (i := i) (Z := Z) neg (xm * ym) (xa + ya) HW.out hs hup (by omega))
  generalize W6.tc n (Z + W6.sgn neg (xm * ym * 2 ^ (xa + ya))) = R at *
  have H3 : Hid (∀ j, 3 ≤ j → W6.wd (xm * ym * 2 ^ up) j = 0) := fun j hj => wd_three _ _ _ hP hupl hj
  clear hs hup hat hW hxm hym hP hneg
  unfold prt
  go_enter Tryd.func14, Tryd.ntmps14
  go_wp2_with fail
  refine (HSG.out _).mono ?_
  rintro e w1 ⟨rfl, rfl⟩
  clear HSG
  go_wp2_with (simp only [← ht, hq1, hq2])
  refine (HL.out up _ hupl).mono ?_
  rintro e w2 ⟨rfl, B2⟩
  clear HL ht
  have hsn' : s < n := by omega
  obtain ⟨A, hA⟩ : ∃ A, A = W6.tc n Z / 18446744073709551616 ^ s := ⟨_, rfl⟩
  obtain ⟨k, hk⟩ : ∃ k, k = n - s := ⟨_, rfl⟩
  rw [← hA, ← hk] at HE
  generalize xm * ym * 2 ^ up = Q at *
  have hB0 : Below w.heap.size w w2 := (((Below.refl _ w).alloc (Nat.le_refl _) _).alloc (by simp) _).trans (B2.mono (by simp; omega))
  clear B2
  obtain ⟨h, hh⟩ : ∃ h, h = w2.heap.size := ⟨_, rfl⟩
  have hgh : h ≠ g := by have := hB0.size; omega
  obtain ⟨W0, hW0⟩ : ∃ W0, W0 = w2.alloc (.cells #[.int .u64 (W6.wd Q 0 : Nat), .int .u64 (W6.wd Q 1 : Nat), .int .u64 (W6.wd Q 2 : Nat)] 68) := ⟨_, rfl⟩
  have hO : Only g (o + s) (o + n) w W0 := by rw [hW0]; exact Only.of_below (hB0.alloc hB0.size _) hg
  have hC : ∀ j, j < 3 → W0.cell? ⟨h, j, none⟩ = some (.int .u64 (W6.wd Q j : Nat)) := by
    intro j hj
    have hn := heap_alloc_new w2 (.cells #[.int .u64 (W6.wd Q 0 : Nat), .int .u64 (W6.wd Q 1 : Nat), .int .u64 (W6.wd Q 2 : Nat)] 68)
    rw [hh, hW0, cell_of_row _ _ j _ _ _ hn]
    have : j = 0 ∨ j = 1 ∨ j = 2 := by omega
    rcases this with rfl | rfl | rfl <;> rfl
  have hWm : Wm W0 g (o + s) k 0 A (A + W6.sm neg Q k + W6.c0 neg) := by
    rw [hk, hA]
    exact Ws.from (by rw [hW0]; exact HW.out.below (hB0.alloc hB0.size _) hg) s _
  have HI : Hid (Wm W0 g (o + s) k 0 A (A + W6.sm neg Q k + W6.c0 neg) ∧ Only g (o + s) (o + n) w W0 ∧ (∀ j, j < 3 → W0.cell? ⟨h, j, none⟩ = some (.int .u64 (W6.wd Q j : Nat)))) := ⟨hWm, hO, hC⟩
  have Hsk : Hid (s + k = n) := by show _ = _; omega
  have hkl : k ≤ 100 := by omega
  have Hsm : Hid (∀ j, j < k → W6.wd (W6.sm neg Q k) j = if neg then 18446744073709551615 - W6.wd Q j else W6.wd Q j) := fun j hj => W6.wd_sm neg Q k j hj
  have Hfw : Hid (∀ j, j < k → 3 ≤ j → W6.wd (W6.sm neg Q k) j = flp neg) := fun j hj h3 => flp_word neg Q k j hj (H3.out j h3)
  have Hst : Hid (∀ i, 3 ≤ i → W6.cy A (W6.sm neg Q k) (W6.c0 neg) i = W6.c0 neg → ∀ j, i ≤ j → j < k → W6.wd (A + W6.sm neg Q k + W6.c0 neg) j = W6.wd A j) := fun i hi hc j h1 h2 => stay_on A Q k i neg (fun j hj => H3.out j (by omega)) hc j h1 h2
  have hand := flp_and neg
  have Hxor : Hid (∀ q : Nat, q < 18446744073709551616 → bits BinOp.xor IntKind.u64 (flp neg : Nat) (q : Int) = ((if neg then 18446744073709551615 - q else q : Nat) : Int)) := flp_xor neg
  have hcl0 := c0_le neg
  have HEE : Hid (∀ (wr : World) (i : Nat), Wm wr g (o + s) k i A (A + W6.sm neg Q k + W6.c0 neg) → (∀ j, i ≤ j → j < k → W6.wd (A + W6.sm neg Q k + W6.c0 neg) j = W6.wd A j) → Only g (o + s) (o + n) w wr → Ws wr g o n R) := fun wr i => (HE wr i).out
  clear HE H3 hWm hO hC hA
  generalize W6.sm neg Q k = B at *
  generalize W6.c0 neg = c at *
  generalize flp neg = fl at *
  go_wp2_with (simp only [hq1, hq2])
  rw [← hW0, ← hh, ← hk]
  clear hW0 hB0 hh hk hsn'
  go_loopw [7, 40] (fun t7 t40 wr => ∃ i : Nat, i ≤ k ∧ t7 = .int .u64 (W6.cy A B c i : Nat) ∧ t40 = .int .i64 i ∧ Hid (Wm wr g (o + s) k i A (A + B + c) ∧ Only g (o + s) (o + n) w wr ∧ (∀ j, j < 3 → wr.cell? ⟨h, j, none⟩ = some (.int .u64 (W6.wd Q j : Nat))))) (fun _ t40 _ => k - (intOf t40).toNat)
  case atStart => exact ⟨0, by omega, by rw [W6.cy_zero], rfl, HI⟩
  case round =>
    clear HI
    obtain ⟨i, hi, rfl, rfl, HM⟩ := hrel
    by_cases hlt : i < k
    · have hlt' : (i : Int) < (k : Int) := by omega
      have hx := HM.out.1.hi i (Nat.le_refl _) hlt
      have hf := HM.out.1.free i hlt
      have Hs2 := hide (W6.cy_step A B c i)
      have hcl := W6.cy_le A B c i hcl0
      have hadd := add64_run (W6.wd A i) (W6.wd B i) (W6.cy A B c i) hcl
      have hxl := W6.wd_lt A i
      have hbl := W6.wd_lt B i
      have hql := W6.wd_lt Q i
      have Hrel : Hid (∀ (y : Int), y = (W6.wd (A + B + c) i : Nat) → Wm (wr.setCell ⟨g, o + s + i, none⟩ (.int .u64 y)) g (o + s) k (i + 1) A (A + B + c) ∧ Only g (o + s) (o + n) w (wr.setCell ⟨g, o + s + i, none⟩ (.int .u64 y)) ∧ (∀ j, j < 3 → (wr.setCell ⟨g, o + s + i, none⟩ (.int .u64 y)).cell? ⟨h, j, none⟩ = some (.int .u64 (W6.wd Q j : Nat)))) :=
        fun y hy => ⟨HM.out.1.step hlt y hy, HM.out.2.1.setCell _ (by omega) (by have := Hsk.out; omega) _, fun j hj => by rw [cell_other _ _ _ _ _ _ hgh]; exact HM.out.2.2 j hj⟩
      by_cases h3 : i < 3
      · have h3' : (i : Int) < 3 := by omega
        have hqc := HM.out.2.2 i h3
        have hxor := Hxor.out (W6.wd Q i) hql
        rw [← Hsm.out i hlt] at hxor
        clear HM
        generalize W6.wd A i = x at *
        generalize W6.wd B i = b at *
        generalize W6.wd Q i = q at *
        generalize W6.cy A B c i = cc at *
        go_wp2_with (simp only [hxor, hadd])
        refine ⟨⟨i + 1, by omega, ?_, by go_num, ?_⟩, by simp [intOf]; omega⟩
        · rw [← Hs2.out.2]; exact congrArg _ (by omega)
        · exact Hrel.out _ (by rw [← Hs2.out.1]; omega)
      · have h3' : ¬ (i : Int) < 3 := by omega
        have hfw := Hfw.out i hlt (by omega)
        have HK := hide (Hst.out i (by omega))
        by_cases hcc : W6.cy A B c i = c
        · have hcc' : ((W6.cy A B c i : Nat) : Int) = (c : Int) := by omega
          have HC := hide hcc
          clear hadd hx hcc
          rw [HC.out]
          clear hcc'
          go_wp2_with (simp only [hand])
          refine bodyPost_ret (v := .tuple #[]) (by simp [results, Tryd.results14, go_sem]) rfl ?_
          exact ⟨rfl, HEE.out _ _ HM.out.1 (HK.out HC.out) HM.out.2.1, HM.out.2.1.wider (by omega) (Nat.le_refl _)⟩
        · have hcc' : ¬ ((W6.cy A B c i : Nat) : Int) = (c : Int) := by omega
          rw [hfw] at hadd Hs2 hbl
          clear HM HK hfw
          generalize W6.wd A i = x at *
          generalize W6.cy A B c i = cc at *
          go_wp2_with (simp only [hand, hadd])
          refine ⟨⟨i + 1, by omega, ?_, by go_num, ?_⟩, by simp [intOf]; omega⟩
          · rw [← Hs2.out.2]; exact congrArg _ (by omega)
          · exact Hrel.out _ (by rw [← Hs2.out.1]; omega)
    · obtain rfl : i = k := by omega
      go_wp2_with fail
      go_end0
      exact ⟨rfl, HEE.out _ _ HM.out.1 (fun j h1 h2 => by omega) HM.out.2.1, HM.out.2.1.wider (by omega) (Nat.le_refl _)⟩

end Go.Proofs.YtolaaemkcmiabaaDoor

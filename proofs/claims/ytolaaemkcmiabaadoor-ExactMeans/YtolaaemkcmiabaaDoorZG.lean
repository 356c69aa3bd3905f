/- ExactMeans: what is told of a share; finite, key; the state of the walk. -/
import Derived.Test.YtolaaemkcmiabaaDoorYM
import Derived.Test.YtolaaemkcmiabaaDoorZE
import Derived.Great.Ranges
/- A new Moments. -/
namespace Go.Proofs.YtolaaemkcmiabaaDoor
open Go.RowKit
open M
open Flt
set_option linter.unusedVariables false
set_option linter.unusedSimpArgs false

/-- The cells of a new Moments. -/
def z106 : Array Value := #[.int .u64 0, .int .u64 0, .int .u64 0, .int .u64 0, .bool false] ++ Array.replicate 101 (.int .u64 0)

theorem z106_get (j : Nat) (h : j < 101) : z106[5 + j]? = some (.int .u64 0) := by
  unfold z106
  rw [Array.getElem?_append_right (by simp)]
  rw [Array.getElem?_replicate, if_pos (by simp; omega)]

theorem z106_built : (Tryd.prog.built 28 (#[] : Array (Nat × Value)).toList).getD #[] = z106 := by kernel_rfl

/-- A new Moments. -/
theorem Mo.new {w : World} {g : Nat} {t : TypeId} (hg : w.heap[g]? = some (.cells z106 t (0, 0))) : Mo w g 0 false 0 0 := by
  have e : W6.tc 34 0 = 0 := W6.tc_nat 34 0 (W6.pw_pos 34)
  have e2 : W6.tc 67 0 = 0 := W6.tc_nat 67 0 (W6.pw_pos 67)
  have hc : ∀ j, w.cell? ⟨g, j, none⟩ = z106[j]? := fun j => cell_of_row w g j _ _ _ hg
  have hf : ∀ j, w.frozen? ⟨g, j, none⟩ = false := fun j => frozen_of_row w g _ _ _ hg
  refine ⟨by rw [hc]; rfl, by rw [hc]; rfl, by rw [hc]; rfl, by rw [hc]; rfl, by rw [hc]; rfl, hf, ?_, ?_⟩
  · rw [e]
    exact ⟨W6.pw_pos 34, fun j hj => by rw [hc, W6.wd_zero, z106_get j (by omega)]; rfl, fun j _ => hf _⟩
  · rw [e2]
    exact ⟨W6.pw_pos 67, fun j hj => by rw [hc, W6.wd_zero, show 39 + j = 5 + (34 + j) from by omega, z106_get _ (by omega)]; rfl, fun j _ => hf _⟩

end Go.Proofs.YtolaaemkcmiabaaDoor

/- The statements' wakes. -/
namespace Go.Proofs.YtolaaemkcmiabaaDoor
open Go.RowKit
open M
open Flt
set_option linter.unusedVariables false
set_option linter.unusedSimpArgs false

theorem lnum_any (e0 : Int) (w : World) : Calls Tryd.prog 6 #[.int .i64 e0] w fun e w' => e = .returned (.int .i64 e0) ∧ w' = w := by
  go_enter Tryd.func6, Tryd.ntmps6
  go_wp2_with fail
  go_ret
  exact ⟨rfl, rfl⟩

theorem wake_sum (val : Nat) (h : ShareV (0 + ofV 4877398396442247168 + ofV 4607182418800017408 + ofV 14100770433297022976) 1 val) : val = 4607182418800017408 := by
  obtain ⟨head, more, e', hv, hl⟩ := h
  have h1 : 0 < (0 + ofV 4877398396442247168 + ofV 4607182418800017408 + ofV 14100770433297022976).natAbs := by decide +kernel
  have h2 : decide (0 + ofV 4877398396442247168 + ofV 4607182418800017408 + ofV 14100770433297022976 < 0) = false := by decide +kernel
  have h3 : min (rnd Ieee.double (exN (0 + ofV 4877398396442247168 + ofV 4607182418800017408 + ofV 14100770433297022976).natAbs 1074 (-1074)) (exD 1 1074 (-1074))) 9218868437227405312 = 4607182418800017408 := by decide +kernel
  rw [hv, h2, uns64_rnd _ 1 (-1074) head more e' (by omega) h1 (by omega) (by omega) hl, h3]
  rfl

theorem wake_slope (val : Nat) (h : ∃ head more e', val = wdX (decide (ofV 4613937818241073152 - ofV 4607182418800017408 < 0)) 9223372036854775808 (unsF 53 1074 9218868437227405312 head more e') ∧ LeadQ (ofV 4613937818241073152 - ofV 4607182418800017408).natAbs ((10 : Int) - 0).toNat (-1074) head more e') : val = 4596373779694328218 := by
  obtain ⟨head, more, e', hv, hl⟩ := h
  have h1 : 0 < (ofV 4613937818241073152 - ofV 4607182418800017408).natAbs := by decide +kernel
  have h2 : decide (ofV 4613937818241073152 - ofV 4607182418800017408 < 0) = false := by decide +kernel
  have h3 : min (rnd Ieee.double (exN (ofV 4613937818241073152 - ofV 4607182418800017408).natAbs 1074 (-1074)) (exD ((10 : Int) - 0).toNat 1074 (-1074))) 9218868437227405312 = 4596373779694328218 := by decide +kernel
  rw [hv, h2, uns64_rnd _ _ (-1074) head more e' (by decide) h1 (by omega) (by omega) hl, h3]
  rfl

theorem wake_small : 2 * (0 + ofV 4877398396442247168 + ofV 4607182418800017408 + ofV 14100770433297022976).natAbs < 18446744073709551616 ^ 34 := by decide +kernel

set_option maxRecDepth 100000 in
set_option maxHeartbeats 2000000 in
theorem wakes_any (w : World) (hT : Tab64 w) : Calls Tryd.prog 11 #[] w fun e w' => e = .returned (.bool true) ∧ Below w.heap.size w w' := by
  have h1 : 1 < w.heap.size := block_lt_of_cell (hT 0 (by omega))
  obtain ⟨g, hg⟩ : ∃ g, g = w.heap.size := ⟨_, rfl⟩
  obtain ⟨W1, hW1⟩ : ∃ W1, W1 = w.alloc (.cells z106 28) := ⟨_, rfl⟩
  have B1 : Below w.heap.size w W1 := by rw [hW1]; exact (Below.refl _ w).alloc (Nat.le_refl _) _
  have HM : Hid (Mo W1 g 0 false 0 0 ∧ Tab64 W1 ∧ Below w.heap.size w W1) := by
    refine ⟨?_, hT.below B1, B1⟩
    rw [hg, hW1]; exact Mo.new (heap_alloc_new w _)
  have hg1 : g ≠ 1 := by omega
  have HA : Hid (∀ (W : World) (b c : Nat) (dark : Bool) (S S2 : Int), Mo W g c dark S S2 → c < 9007199254740992 → b < 18446744073709551616 → b % 9223372036854775808 < 9218868437227405312 → Tab64 W → Below w.heap.size w W → Calls Tryd.prog 7 #[.pointer (some ⟨g, 0, none⟩), .int .u64 b] W fun e w' => e = .returned (.int .i64 0) ∧ Mo w' g (c + 1) (dk b c dark) (S + ofV b) (S2 + ofV b * ofV b) ∧ Tab64 w' ∧ Below w.heap.size w w') := by
    intro W b c dark S S2 m hc hb hf t bl
    refine (Add_fin b m hc hb hf t hg1).mono ?_
    rintro e w' ⟨rfl, m', o⟩
    exact ⟨rfl, m', t.only o hg1, bl.trans (o.below (by omega) bl.size)⟩
  have HG := hide hg
  clear hT B1 h1
  go_enter Tryd.func11, Tryd.ntmps11
  go_upto_region 1 with fail
  refine wp_region_list ?_
  refine wpList_build rfl 28 #[] rfl (by kernel_rfl) ?_
  simp only [Array.map_empty]
  rw [z106_built]
  refine Go.Great.wpList_boxTo rfl 28 (.tmp 7) rfl (some 8) rfl g hg.symm z106 rfl ?_
  rw [← hW1]
  clear hW1 hg
  have HA1 := hide (HA.out W1 4877398396442247168 0 false 0 0 HM.out.1 (by omega) (by omega) (by omega) HM.out.2.1 HM.out.2.2)
  go_wp2_with fail
  refine HA1.out.mono ?_
  rintro e x1 ⟨rfl, m1⟩
  have HA2 := hide (HA.out x1 4607182418800017408 _ _ _ _ m1.1 (by omega) (by omega) (by omega) m1.2.1 m1.2.2)
  clear m1 HA1
  go_wp2_with fail
  refine HA2.out.mono ?_
  rintro e x2 ⟨rfl, m2⟩
  have HA3 := hide (HA.out x2 14100770433297022976 _ _ _ _ m2.1 (by omega) (by omega) (by omega) m2.2.1 m2.2.2)
  clear m2 HA2
  go_wp2_with fail
  refine HA3.out.mono ?_
  rintro e x3 ⟨rfl, m3, t3, b3⟩
  have d3 : dk 14100770433297022976 (0 + 1 + 1) (dk 4607182418800017408 (0 + 1) (dk 4877398396442247168 0 false)) = false := by decide +kernel
  rw [d3] at m3
  have HS := hide (Sum_of (fun v => v = 4607182418800017408) m3 (fun w1 m => (share_num 1 m (by omega) (by omega) (by omega) wake_small).mono (by rintro e w' ⟨val, rfl, hs, hb⟩; exact ⟨val, rfl, wake_sum val hs, hb⟩)))
  have H3 := hide (And.intro m3 (And.intro t3 b3))
  clear m3 t3 b3 HA HA3 d3
  go_wp2_with fail
  refine HS.out.mono ?_
  rintro e x4 ⟨val, rfl, rfl, b4⟩
  have m4 := H3.out.1.below b4 H3.out.1.lt
  have t4 := H3.out.2.1.below b4
  have HSl := hide (Slope_num 0 10 4607182418800017408 4613937818241073152 x4 (by omega) (by omega) (by omega) (by omega) (by omega) (by omega) (by omega) t4)
  have H4 := hide (And.intro m4 (H3.out.2.2.trans (b4.mono H3.out.2.2.size)))
  clear m4 t4 b4 HS H3
  go_wp2_with fail
  refine HSl.out.mono ?_
  rintro e x5 ⟨v2, rfl, hv2, b5⟩
  obtain rfl := wake_slope v2 hv2
  have HC := hide (Count_any (H4.out.1.below b5 H4.out.1.lt))
  have H5 := hide (H4.out.2.trans (b5.mono H4.out.2.size))
  clear hv2 b5 HSl H4
  go_wp2_with fail
  refine (lnum_any 0 x5).mono ?_
  rintro e y1 ⟨rfl, hy⟩
  have hy := hy.symm
  subst hy
  go_wp2_with fail
  refine HC.out.mono ?_
  rintro e y1 ⟨rfl, hy⟩
  have hy := hy.symm
  subst hy
  go_wp2_with fail
  refine (lnum_any 0 x5).mono ?_
  rintro e y1 ⟨rfl, hy⟩
  have hy := hy.symm
  subst hy
  go_wp2_with fail
  go_ret
  exact ⟨rfl, H5.out⟩

end Go.Proofs.YtolaaemkcmiabaaDoor

namespace Go.Proofs.YtolaaemkcmiabaaDoor
open Go.RowKit
open M
open Flt
set_option linter.unusedVariables false
set_option linter.unusedSimpArgs false

/-- The greatest value, in units, and a bit more. -/
def XB : Nat := V Ieee.double 9218868437227405312

theorem XB_one : 2 * (1000 * XB) < 18446744073709551616 ^ 34 := by decide +kernel
theorem XB_two : 2 * (1000 * (XB * XB)) < 18446744073709551616 ^ 67 := by decide +kernel

theorem ofV_abs {b : Nat} (h : Fin64 b) : (ofV b).natAbs ≤ XB := by
  have h1 : (ofV b).natAbs = V Ieee.double (b % 9223372036854775808) := by
    unfold ofV W6.sgn
    split <;> simp
  rw [h1]
  exact V_le (Nat.le_of_lt h.2)

/-- What a share of the sum tells. -/
def shV (dark : Bool) (S : Int) (n : Nat) : Nat := if dark then 9223372036854775808 else meanV S n

theorem shV_lt (dark : Bool) (S : Int) (n : Nat) : shV dark S n < 18446744073709551616 := by
  unfold shV
  split
  · omega
  · exact meanV_lt S n

theorem share_val {w : World} {g c : Nat} {dark : Bool} {S S2 : Int} (n : Nat) (h : Mo w g c dark S S2) (hc : 0 < c) (hn : 0 < n) (hn2 : n < 18446744073709551616) (hS : 2 * S.natAbs < 18446744073709551616 ^ 34) :
    Calls Tryd.prog 17 #[.pointer (some ⟨g, 0, none⟩), .int .u64 n] w fun e w' => ∃ val : Nat, e = .returned (.int .u64 val) ∧ val = shV dark S n ∧ Below w.heap.size w w' := by
  cases dark with
  | true =>
    refine (share_dark n h).mono ?_
    rintro e w' ⟨rfl, rfl⟩
    exact ⟨9223372036854775808, rfl, rfl, Below.refl _ _⟩
  | false =>
    refine (share_num n h hc hn hn2 hS).mono ?_
    rintro e w' ⟨val, rfl, hv, hb⟩
    exact ⟨val, rfl, by unfold shV; rw [if_neg (by simp)]; exact hv.eq hn, hb⟩

/-- What stands behind the values so far: n of them are finite. -/
def MeanSt (w wr : World) (g n pl pg : Nat) (dark : Bool) (S S2 : Int) : Prop :=
  Mo wr g n dark S S2 ∧ (n = 0 → dark = false ∧ S = 0 ∧ S2 = 0) ∧ (0 < n → Fin64 pl ∧ Fin64 pg ∧ MSt n S S2 (ofV pl) (ofV pg) ∧ kyv pl ≤ kyv pg) ∧ (dark = true → S = 0) ∧ S.natAbs ≤ n * XB ∧ 0 ≤ S2 ∧ S2.natAbs ≤ n * (XB * XB) ∧ Tab64 wr ∧ Below w.heap.size w wr

theorem MeanSt.small {w wr : World} {g n pl pg : Nat} {dark : Bool} {S S2 : Int} (h : MeanSt w wr g n pl pg dark S S2) (hn : n ≤ 1000) : 2 * S.natAbs < 18446744073709551616 ^ 34 ∧ 2 * S2.natAbs < 18446744073709551616 ^ 67 := by
  obtain ⟨_, _, _, _, h1, _, h2, _⟩ := h
  have a1 := XB_one
  have a2 := XB_two
  have b1 : n * XB ≤ 1000 * XB := Nat.mul_le_mul_right _ hn
  have b2 : n * (XB * XB) ≤ 1000 * (XB * XB) := Nat.mul_le_mul_right _ hn
  generalize 18446744073709551616 ^ 34 = P1 at *
  generalize 18446744073709551616 ^ 67 = P2 at *
  omega

/-- Another finite value comes. -/
theorem MeanSt.next {w wr w' : World} {g n pl pg : Nat} {dark : Bool} {S S2 : Int} (h : MeanSt w wr g n pl pg dark S S2) (b pl' pg' : Nat) (hb : Fin64 b) (hg : w.heap.size ≤ g) (hg1 : g ≠ 1)
    (hl : (n = 0 ∧ pl' = b ∧ pg' = b) ∨ (0 < n ∧ ((kyv b < kyv pl ∧ pl' = b ∧ pg' = pg) ∨ (kyv pl ≤ kyv b ∧ kyv pg < kyv b ∧ pl' = pl ∧ pg' = b) ∨ (kyv pl ≤ kyv b ∧ kyv b ≤ kyv pg ∧ pl' = pl ∧ pg' = pg))))
    (m : Mo w' g (n + 1) (dk b n dark) (S + ofV b) (S2 + ofV b * ofV b)) (o : Only g 0 106 wr w') : MeanSt w w' g (n + 1) pl' pg' (dk b n dark) (S + ofV b) (S2 + ofV b * ofV b) := by
  obtain ⟨h1, h2, h3, h4, h5, h6, h7, h8, h9⟩ := h
  have hx := ofV_abs hb
  have hq := sq_nonneg (ofV b)
  refine ⟨m, fun h => by omega, fun _ => ?_, fun hd => ?_, ?_, by omega, ?_, h8.only o hg1, h9.trans (o.below hg h9.size)⟩
  · rcases hl with ⟨h0, rfl, rfl⟩ | ⟨h0, hl⟩
    · obtain ⟨_, e1, e2⟩ := h2 h0
      refine ⟨hb, hb, ?_, Nat.le_refl _⟩
      rw [e1, e2, h0, Int.zero_add, Int.zero_add]
      exact MSt.first _
    · obtain ⟨f1, f2, f3, f4⟩ := h3 h0
      rcases hl with ⟨k1, rfl, rfl⟩ | ⟨k1, k2, rfl, rfl⟩ | ⟨k1, k2, rfl, rfl⟩
      · have q1 := ofV_le hb.1 f1.1 (Nat.le_of_lt k1)
        have q2 := ofV_le hb.1 f2.1 (by omega)
        exact ⟨hb, f2, (f3.wideL _ q1).add _ (Int.le_refl _) q2, by omega⟩
      · have q1 := ofV_le f1.1 hb.1 k1
        have q2 := ofV_le f2.1 hb.1 (Nat.le_of_lt k2)
        exact ⟨f1, hb, (f3.wideG _ q2).add _ q1 (Int.le_refl _), k1⟩
      · exact ⟨f1, f2, f3.add _ (ofV_le f1.1 hb.1 k1) (ofV_le hb.1 f2.1 k2), f4⟩
  · unfold dk at hd
    simp only [Bool.and_eq_true, decide_eq_true_eq, Bool.or_eq_true] at hd
    obtain ⟨e1, e2⟩ := hd
    have e3 : ofV b = 0 := by rw [e1]; decide +kernel
    rw [e3, Int.add_zero]
    rcases e2 with e2 | e2
    · exact h4 e2
    · exact (h2 e2).2.1
  · have : (n + 1) * XB = n * XB + XB := by rw [Nat.add_mul, Nat.one_mul]
    rw [this]; omega
  · have e1 : (n + 1) * (XB * XB) = n * (XB * XB) + XB * XB := by rw [Nat.add_mul, Nat.one_mul]
    have e2 : (ofV b * ofV b).natAbs ≤ XB * XB := by rw [Int.natAbs_mul]; exact Nat.mul_le_mul hx hx
    rw [e1]; omega

/-- Where all are one number: no spread, and the mean is that. -/
theorem MeanSt.one {w wr : World} {g n pl pg : Nat} {dark : Bool} {S S2 : Int} (h : MeanSt w wr g n pl pg dark S S2) (hn : 0 < n) (he : pl = pg ∨ (pl % 9223372036854775808 = 0 ∧ pg % 9223372036854775808 = 0)) :
    ((n : Int) * S2 - S * S).natAbs = 0 ∧ shV dark S n % 9223372036854775808 = pl % 9223372036854775808 := by
  obtain ⟨h1, h2, h3, h4, _⟩ := h
  obtain ⟨f1, f2, f3, f4⟩ := h3 hn
  have hv0 : ∀ p : Nat, p % 9223372036854775808 = 0 → ofV p = 0 := fun p hp => by
    unfold ofV W6.sgn
    rw [hp, V_zero]; split <;> rfl
  have hlg : ofV pl = ofV pg := by
    rcases he with he | ⟨e1, e2⟩
    · rw [he]
    · rw [hv0 _ e1, hv0 _ e2]
  rw [← hlg] at f3
  obtain ⟨q1, q2⟩ := f3.same
  refine ⟨by omega, ?_⟩
  unfold shV
  cases dark with
  | true =>
    rw [if_pos rfl]
    have hS := h4 rfl
    have : ofV pl = 0 := by
      rw [hS] at q1
      rcases Int.mul_eq_zero.1 q1.symm with e | e
      · omega
      · exact e
    have hV : V Ieee.double (pl % 9223372036854775808) = V Ieee.double 0 := by
      rw [V_zero]
      unfold ofV W6.sgn at this
      split at this <;> omega
    have := V_inj hV
    omega
  | false =>
    rw [if_neg (by simp)]
    exact mean_same f1 hn q1

theorem MeanSt.between {w wr : World} {g n pl pg : Nat} {dark : Bool} {S S2 : Int} (h : MeanSt w wr g n pl pg dark S S2) (hn : 0 < n) (h0 : shV dark S n % 9223372036854775808 ≠ 0) : kyv pl ≤ kyv (shV dark S n) ∧ kyv (shV dark S n) ≤ kyv pg := by
  obtain ⟨h1, h2, h3, h4, _⟩ := h
  obtain ⟨f1, f2, f3, f4⟩ := h3 hn
  unfold shV at h0 ⊢
  cases dark with
  | true => rw [if_pos rfl] at h0; omega
  | false =>
    rw [if_neg (by simp)] at h0 ⊢
    exact mean_between f1 f2 f3 h0

end Go.Proofs.YtolaaemkcmiabaaDoor

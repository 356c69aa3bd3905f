/- The statements' wakes. -/
import Derived.Test.YtleeahigceppiaaDoorYJ
import Derived.Great.Ranges
/- A new Moments. -/
namespace Go.Proofs.YtleeahigceppiaaDoor
open Go.RowKit
open M
open Flt
set_option linter.unusedVariables false
set_option linter.unusedSimpArgs false

/-- The cells of a new Moments. -/
def z106 : Array Value := #[.int .u64 0, .int .u64 0, .int .u64 0, .int .u64 0, .bool false] ++ Array.replicate 101 (.int .u64 0)

theorem z106_get (j : Nat) (h : j < 101) : z106[5 + j]? = some (.int .u64 0) := by
  unfold z106
  rw [Array.getElem?_append_right (by simp)]
  rw [Array.getElem?_replicate, if_pos (by simp; omega)]

theorem z106_built : (Tryd.prog.built 28 (#[] : Array (Nat × Value)).toList).getD #[] = z106 := by kernel_rfl

/-- A new Moments. -/
theorem Mo.new {w : World} {g : Nat} {t : TypeId} (hg : w.heap[g]? = some (.cells z106 t (0, 0))) : Mo w g 0 false 0 0 := by
  have e : W6.tc 34 0 = 0 := W6.tc_nat 34 0 (W6.pw_pos 34)
  have e2 : W6.tc 67 0 = 0 := W6.tc_nat 67 0 (W6.pw_pos 67)
  have hc : ∀ j, w.cell? ⟨g, j, none⟩ = z106[j]? := fun j => cell_of_row w g j _ _ _ hg
  have hf : ∀ j, w.frozen? ⟨g, j, none⟩ = false := fun j => frozen_of_row w g _ _ _ hg
  refine ⟨by rw [hc]; rfl, by rw [hc]; rfl, by rw [hc]; rfl, by rw [hc]; rfl, by rw [hc]; rfl, hf, ?_, ?_⟩
  · rw [e]
    exact ⟨W6.pw_pos 34, fun j hj => by rw [hc, W6.wd_zero, z106_get j (by omega)]; rfl, fun j _ => hf _⟩
  · rw [e2]
    exact ⟨W6.pw_pos 67, fun j hj => by rw [hc, W6.wd_zero, show 39 + j = 5 + (34 + j) from by omega, z106_get _ (by omega)]; rfl, fun j _ => hf _⟩

end Go.Proofs.YtleeahigceppiaaDoor

namespace Go.Proofs.YtleeahigceppiaaDoor
open Go.RowKit
open M
open Flt
set_option linter.unusedVariables false
set_option linter.unusedSimpArgs false

theorem lnum_any (e0 : Int) (w : World) : Calls Tryd.prog 4 #[.int .i64 e0] w fun e w' => e = .returned (.int .i64 e0) ∧ w' = w := by
  go_enter Tryd.func4, Tryd.ntmps4
  go_wp2_with fail
  go_ret
  exact ⟨rfl, rfl⟩

theorem wake_sum (val : Nat) (h : ShareV (0 + ofV 4877398396442247168 + ofV 4607182418800017408 + ofV 14100770433297022976) 1 val) : val = 4607182418800017408 := by
  obtain ⟨head, more, e', hv, hl⟩ := h
  have h1 : 0 < (0 + ofV 4877398396442247168 + ofV 4607182418800017408 + ofV 14100770433297022976).natAbs := by decide +kernel
  have h2 : decide (0 + ofV 4877398396442247168 + ofV 4607182418800017408 + ofV 14100770433297022976 < 0) = false := by decide +kernel
  have h3 : min (rnd Ieee.double (exN (0 + ofV 4877398396442247168 + ofV 4607182418800017408 + ofV 14100770433297022976).natAbs 1074 (-1074)) (exD 1 1074 (-1074))) 9218868437227405312 = 4607182418800017408 := by decide +kernel
  rw [hv, h2, uns64_rnd _ 1 (-1074) head more e' (by omega) h1 (by omega) (by omega) hl, h3]
  rfl

theorem wake_slope (val : Nat) (h : ∃ head more e', val = wdX (decide (ofV 4613937818241073152 - ofV 4607182418800017408 < 0)) 9223372036854775808 (unsF 53 1074 9218868437227405312 head more e') ∧ LeadQ (ofV 4613937818241073152 - ofV 4607182418800017408).natAbs ((10 : Int) - 0).toNat (-1074) head more e') : val = 4596373779694328218 := by
  obtain ⟨head, more, e', hv, hl⟩ := h
  have h1 : 0 < (ofV 4613937818241073152 - ofV 4607182418800017408).natAbs := by decide +kernel
  have h2 : decide (ofV 4613937818241073152 - ofV 4607182418800017408 < 0) = false := by decide +kernel
  have h3 : min (rnd Ieee.double (exN (ofV 4613937818241073152 - ofV 4607182418800017408).natAbs 1074 (-1074)) (exD ((10 : Int) - 0).toNat 1074 (-1074))) 9218868437227405312 = 4596373779694328218 := by decide +kernel
  rw [hv, h2, uns64_rnd _ _ (-1074) head more e' (by decide) h1 (by omega) (by omega) hl, h3]
  rfl

theorem wake_small : 2 * (0 + ofV 4877398396442247168 + ofV 4607182418800017408 + ofV 14100770433297022976).natAbs < 18446744073709551616 ^ 34 := by decide +kernel

set_option maxRecDepth 100000 in
set_option maxHeartbeats 2000000 in
theorem wakes_any (w : World) (hT : Tab64 w) : Calls Tryd.prog 8 #[] w fun e w' => e = .returned (.bool true) ∧ Below w.heap.size w w' := by
  have h1 : 1 < w.heap.size := block_lt_of_cell (hT 0 (by omega))
  obtain ⟨g, hg⟩ : ∃ g, g = w.heap.size := ⟨_, rfl⟩
  obtain ⟨W1, hW1⟩ : ∃ W1, W1 = w.alloc (.cells z106 28) := ⟨_, rfl⟩
  have B1 : Below w.heap.size w W1 := by rw [hW1]; exact (Below.refl _ w).alloc (Nat.le_refl _) _
  have HM : Hid (Mo W1 g 0 false 0 0 ∧ Tab64 W1 ∧ Below w.heap.size w W1) := by
    refine ⟨?_, hT.below B1, B1⟩
    rw [hg, hW1]; exact Mo.new (heap_alloc_new w _)
  have hg1 : g ≠ 1 := by omega
  have HA : Hid (∀ (W : World) (b c : Nat) (dark : Bool) (S S2 : Int), Mo W g c dark S S2 → c < 9007199254740992 → b < 18446744073709551616 → b % 9223372036854775808 < 9218868437227405312 → Tab64 W → Below w.heap.size w W → Calls Tryd.prog 5 #[.pointer (some ⟨g, 0, none⟩), .int .u64 b] W fun e w' => e = .returned (.int .i64 0) ∧ Mo w' g (c + 1) (dk b c dark) (S + ofV b) (S2 + ofV b * ofV b) ∧ Tab64 w' ∧ Below w.heap.size w w') := by
    intro W b c dark S S2 m hc hb hf t bl
    refine (Add_fin b m hc hb hf t hg1).mono ?_
    rintro e w' ⟨rfl, m', o⟩
    exact ⟨rfl, m', t.only o hg1, bl.trans (o.below (by omega) bl.size)⟩
  have HG := hide hg
  clear hT B1 h1
  go_enter Tryd.func8, Tryd.ntmps8
  go_upto_region 1 with fail
  refine wp_region_list ?_
  refine wpList_build rfl 28 #[] rfl (by kernel_rfl) ?_
  simp only [Array.map_empty]
  rw [z106_built]
  refine Go.Great.wpList_boxTo rfl 28 (.tmp 7) rfl (some 8) rfl g hg.symm z106 rfl ?_
  rw [← hW1]
  clear hW1 hg
  have HA1 := hide (HA.out W1 4877398396442247168 0 false 0 0 HM.out.1 (by omega) (by omega) (by omega) HM.out.2.1 HM.out.2.2)
  go_wp2_with fail
  refine HA1.out.mono ?_
  rintro e x1 ⟨rfl, m1⟩
  have HA2 := hide (HA.out x1 4607182418800017408 _ _ _ _ m1.1 (by omega) (by omega) (by omega) m1.2.1 m1.2.2)
  clear m1 HA1
  go_wp2_with fail
  refine HA2.out.mono ?_
  rintro e x2 ⟨rfl, m2⟩
  have HA3 := hide (HA.out x2 14100770433297022976 _ _ _ _ m2.1 (by omega) (by omega) (by omega) m2.2.1 m2.2.2)
  clear m2 HA2
  go_wp2_with fail
  refine HA3.out.mono ?_
  rintro e x3 ⟨rfl, m3, t3, b3⟩
  have d3 : dk 14100770433297022976 (0 + 1 + 1) (dk 4607182418800017408 (0 + 1) (dk 4877398396442247168 0 false)) = false := by decide +kernel
  rw [d3] at m3
  have HS := hide (Sum_of (fun v => v = 4607182418800017408) m3 (fun w1 m => (share_num 1 m (by omega) (by omega) (by omega) wake_small).mono (by rintro e w' ⟨val, rfl, hs, hb⟩; exact ⟨val, rfl, wake_sum val hs, hb⟩)))
  have H3 := hide (And.intro m3 (And.intro t3 b3))
  clear m3 t3 b3 HA HA3 d3
  go_wp2_with fail
  refine HS.out.mono ?_
  rintro e x4 ⟨val, rfl, rfl, b4⟩
  have m4 := H3.out.1.below b4 H3.out.1.lt
  have t4 := H3.out.2.1.below b4
  have HSl := hide (Slope_num 0 10 4607182418800017408 4613937818241073152 x4 (by omega) (by omega) (by omega) (by omega) (by omega) (by omega) (by omega) t4)
  have H4 := hide (And.intro m4 (H3.out.2.2.trans (b4.mono H3.out.2.2.size)))
  clear m4 t4 b4 HS H3
  go_wp2_with fail
  refine HSl.out.mono ?_
  rintro e x5 ⟨v2, rfl, hv2, b5⟩
  obtain rfl := wake_slope v2 hv2
  have HC := hide (Count_any (H4.out.1.below b5 H4.out.1.lt))
  have H5 := hide (H4.out.2.trans (b5.mono H4.out.2.size))
  clear hv2 b5 HSl H4
  go_wp2_with fail
  refine (lnum_any 0 x5).mono ?_
  rintro e y1 ⟨rfl, hy⟩
  have hy := hy.symm
  subst hy
  go_wp2_with fail
  refine HC.out.mono ?_
  rintro e y1 ⟨rfl, hy⟩
  have hy := hy.symm
  subst hy
  go_wp2_with fail
  refine (lnum_any 0 x5).mono ?_
  rintro e y1 ⟨rfl, hy⟩
  have hy := hy.symm
  subst hy
  go_wp2_with fail
  go_ret
  exact ⟨rfl, H5.out⟩

end Go.Proofs.YtleeahigceppiaaDoor

/- Slope of finite values. -/
import Derived.Test.YtolaaemkcmiabaaDoorZE
import Derived.Test.YtolaaemkcmiabaaDoorXG
import Derived.Test.YtolaaemkcmiabaaDoorYI
import Derived.Deep.Cut
import Derived.Laws.Tables
import Derived.Great.Walk
import Derived.Test.YtolaaemkcmiabaaDoorYK
/- Moments of finite values: variance, Var, Dev. -/
namespace Go.Proofs.YtolaaemkcmiabaaDoor
open Go.RowKit
open M
open Flt
set_option linter.unusedVariables false
set_option linter.unusedSimpArgs false

/-- What a variance, or its root, is: not below +0, and nought where the spread is. -/
def VarV (M val : Nat) : Prop := val < 9223372036854775808 ∧ (M = 0 → val = 0)

theorem wdX_false (N r : Nat) : wdX false N r = r := by unfold wdX; simp

theorem numField (s : Bool) (a : Option Addr) (k p : Nat) (w : World) : (Instr.field 48 (.agg #[.bool s, .slice a k p]) 1).run Tryd.prog w = .ok (.slice a k p) w := by kernel_rfl

/-- Two counts, times. -/
theorem ctimes_num {x y : Value} {a b : Nat} {w : World} (h : Num w x a) (h' : Num w y b) (ha : a < 18446744073709551616) (hb : b < 18446744073709551616) :
    Calls Tryd.prog 25 #[.agg #[.bool false, x], .agg #[.bool false, y]] w fun e w' => ∃ r, e = .returned (.agg #[.bool false, r]) ∧ NumO w' w.heap.size r (a * b) ∧ Below w.heap.size w w' := by
  have hz : ∀ n : Nat, decide ((n : Int) < 0) = false := fun n => by rw [decide_eq_false_iff_not]; omega
  have q := ntimes_num (Z := (a : Int)) (Y := (b : Int)) (w := w) ⟨x, by rw [hz], by simpa using h⟩ ⟨y, by rw [hz], by simpa using h'⟩ (by simpa using fits_mul (a := 1) (b := 1) (by simpa using ha) (by simpa using hb) (by omega))
  refine q.mono ?_
  rintro e w' ⟨r, rfl, ⟨v, rfl, hv⟩, hb⟩
  have e1 : ((a : Int) * (b : Int)) = ((a * b : Nat) : Int) := by simp
  rw [e1, Int.natAbs_natCast] at hv
  exact ⟨v, by rw [e1, hz], hv, hb⟩

set_option maxRecDepth 100000 in
set_option maxHeartbeats 16000000 in
theorem variance_num {w : World} {g c : Nat} {dark : Bool} {S S2 : Int} (h : Mo w g c dark S S2) (hc0 : 0 < c) (hc : c < 18446744073709551616) (hS : 2 * S.natAbs < 18446744073709551616 ^ 34) (hS2 : 2 * S2.natAbs < 18446744073709551616 ^ 67) (h0 : 0 ≤ S2) (hle : 0 ≤ (c : Int) * S2 - S * S) :
    Calls Tryd.prog 18 #[.pointer (some ⟨g, 0, none⟩), .int .u64 (c : Nat)] w fun e w' => ∃ val : Nat, e = .returned (.int .u64 val) ∧ VarV ((c : Int) * S2 - S * S).natAbs val ∧ Below w.heap.size w w' := by
  have HSp := hide (fun (w1 : World) (hb : Below w.heap.size w w1) => mspread_num (h.below hb h.lt) hc hS hS2 h0 hle)
  have HCn := hide (fun w1 : World => count_any c w1 hc)
  have HTt := hide (fun (w1 : World) (x y : Value) (a : Num w1 x c) (b : Num w1 y c) => ctimes_num a b hc hc)
  have HO := hide (fun (w1 : World) (x y : Value) (a : Num w1 x ((c : Int) * S2 - S * S).natAbs) (b : Num w1 y (c * c)) => (show Calls Tryd.prog 33 #[.agg #[.bool false, x], .agg #[.bool false, y], .int .i64 (-2148)] w1 fun e w' => ∃ val : Nat, e = .returned (.int .u64 val) ∧ VarV ((c : Int) * S2 - S * S).natAbs val ∧ Below w1.heap.size w1 w' from by
    refine (over_any false false (-2148) a b (Nat.mul_pos hc0 hc0)).mono ?_
    rintro e w' ⟨head, more, e', rfl, hl, hb⟩
    refine ⟨_, rfl, ⟨?_, fun h9 => ?_⟩, hb⟩
    · rw [wdX_false]; have := uns64_le head more e'; omega
    · rw [wdX_false]; rw [h9] at hl; exact uns_zero _ _ _ _ _ _ _ _ hl))
  have HFi := hide (isFinite_any h)
  have k0' := h.k0
  generalize ((c : Int) * S2 - S * S).natAbs = MR at *
  clear h hc0 hc hS hS2 h0 hle
  go_enter Tryd.func18, Tryd.ntmps18
  go_wp2_with fail
  refine HFi.out.mono ?_
  rintro e w0 ⟨rfl, hw0⟩
  have hw0 := hw0.symm
  subst hw0
  have k0 : w.drew.cell? ⟨g, 0, none⟩ = some (.int .u64 (c : Nat)) := k0'
  have HI : Hid (Below w.heap.size w w.drew) := (Below.refl _ w).drew
  clear k0' HFi
  go_wp2_with fail
  go_region_held3 (fun w' => w'.cell? ⟨g, 0, none⟩ = some (.int .u64 (c : Nat))) (exact k0)
    (first | (go_at_call 24; go_must (refine (HSp.out _ HI.out).mono ?_); rintro _ w5 ⟨vs, rfl, hvs, B5⟩; obtain ⟨xs, ys, zs, rfl, es⟩ := num_slice hvs.num; have HRs0 := hide hvs.num; have HI := hide (HI.out.trans (B5.mono HI.out.size)); (try have HRs := hide (HRs.out.below B5)); (try have HRn := hide (HRn.out.below B5)); (try have HRm := hide (HRm.out.below B5)); (try have HRt := hide (HRt.out.below B5)); have k0 : w5.cell? ⟨g, 0, none⟩ = some (.int .u64 (c : Nat)) := (by rw [B5.cell (p := ⟨g, 0, none⟩) (block_lt_of_cell k0)]; exact k0); have HRs := HRs0; clear B5 hvs es HRs0) | (go_at_call 20; have _hx := HRn; go_must (refine (HCn.out _).mono ?_); rintro _ w5 ⟨vm, rfl, hvm, B5⟩; obtain ⟨xm, ym, zm, rfl, em⟩ := num_slice hvm; have HRm0 := hide hvm; have HI := hide (HI.out.trans (B5.mono HI.out.size)); (try have HRs := hide (HRs.out.below B5)); (try have HRn := hide (HRn.out.below B5)); (try have HRm := hide (HRm.out.below B5)); (try have HRt := hide (HRt.out.below B5)); have k0 : w5.cell? ⟨g, 0, none⟩ = some (.int .u64 (c : Nat)) := (by rw [B5.cell (p := ⟨g, 0, none⟩) (block_lt_of_cell k0)]; exact k0); have HRm := HRm0; clear B5 hvm em HRm0 _hx) | (go_at_call 20; go_must (refine (HCn.out _).mono ?_); rintro _ w5 ⟨vn, rfl, hvn, B5⟩; obtain ⟨xn, yn, zn, rfl, en⟩ := num_slice hvn; have HRn0 := hide hvn; have HI := hide (HI.out.trans (B5.mono HI.out.size)); (try have HRs := hide (HRs.out.below B5)); (try have HRn := hide (HRn.out.below B5)); (try have HRm := hide (HRm.out.below B5)); (try have HRt := hide (HRt.out.below B5)); have k0 : w5.cell? ⟨g, 0, none⟩ = some (.int .u64 (c : Nat)) := (by rw [B5.cell (p := ⟨g, 0, none⟩) (block_lt_of_cell k0)]; exact k0); have HRn := HRn0; clear B5 hvn en HRn0) | (go_at_call 25; go_must (refine (HTt.out _ _ _ (by first | exact HRn.out | exact HRm.out) (by first | exact HRm.out | exact HRn.out)).mono ?_); rintro _ w5 ⟨vt, rfl, hvt, B5⟩; obtain ⟨xt, yt, zt, rfl, et⟩ := num_slice hvt.num; have HRt0 := hide hvt.num; have HI := hide (HI.out.trans (B5.mono HI.out.size)); (try have HRs := hide (HRs.out.below B5)); (try have HRn := hide (HRn.out.below B5)); (try have HRm := hide (HRm.out.below B5)); (try have HRt := hide (HRt.out.below B5)); have k0 : w5.cell? ⟨g, 0, none⟩ = some (.int .u64 (c : Nat)) := (by rw [B5.cell (p := ⟨g, 0, none⟩) (block_lt_of_cell k0)]; exact k0); have HRt := HRt0; clear B5 hvt et HRt0) | (go_at_call 33; go_must (refine (HO.out _ _ _ HRs.out HRt.out).mono ?_); rintro _ w5 ⟨val, rfl, hp, B5⟩; have HP := hide hp; have HI := hide (HI.out.trans (B5.mono HI.out.size)); (try have HRs := hide (HRs.out.below B5)); (try have HRn := hide (HRn.out.below B5)); (try have HRm := hide (HRm.out.below B5)); (try have HRt := hide (HRt.out.below B5)); have k0 : w5.cell? ⟨g, 0, none⟩ = some (.int .u64 (c : Nat)) := (by rw [B5.cell (p := ⟨g, 0, none⟩) (block_lt_of_cell k0)]; exact k0); clear B5 hp))
  all_goals
    go_wp2_with fail
    go_ret
    exact ⟨val, rfl, HP.out, HI.out⟩

set_option maxRecDepth 100000 in
set_option maxHeartbeats 1000000 in
theorem Var_num {w : World} {g c : Nat} {dark : Bool} {S S2 : Int} (h : Mo w g c dark S S2) (hc0 : 0 < c) (hc : c < 18446744073709551616) (hS : 2 * S.natAbs < 18446744073709551616 ^ 34) (hS2 : 2 * S2.natAbs < 18446744073709551616 ^ 67) (h0 : 0 ≤ S2) (hle : 0 ≤ (c : Int) * S2 - S * S) :
    Calls Tryd.prog 9 #[.pointer (some ⟨g, 0, none⟩)] w fun e w' => ∃ val : Nat, e = .returned (.tuple #[.int .u64 val, .bool true]) ∧ VarV ((c : Int) * S2 - S * S).natAbs val ∧ Below w.heap.size w w' := by
  have HV := hide (variance_num h hc0 hc hS hS2 h0 hle)
  have k0 := h.k0
  have hc' : ¬ (c : Int) = 0 := by omega
  generalize ((c : Int) * S2 - S * S).natAbs = MR at *
  clear h hc0 hc hS hS2 h0 hle
  go_enter Tryd.func9, Tryd.ntmps9
  go_wp2_with fail
  refine HV.out.mono ?_
  rintro e w1 ⟨val, rfl, hp, hb⟩
  have HP := hide (And.intro hp hb)
  clear hp hb
  go_wp2_with fail
  go_ret2
  exact ⟨val, rfl, HP.out.1, HP.out.2⟩

theorem Var_none {w : World} {g : Nat} {dark : Bool} {S S2 : Int} (h : Mo w g 0 dark S S2) : Calls Tryd.prog 9 #[.pointer (some ⟨g, 0, none⟩)] w fun e w' => e = .returned (.tuple #[.int .u64 0, .bool false]) ∧ w' = w := by
  have k0 := h.k0
  clear h
  go_enter Tryd.func9, Tryd.ntmps9
  go_wp2_with fail
  go_ret2
  exact ⟨rfl, rfl⟩

theorem Dev_none {w : World} {g : Nat} {dark : Bool} {S S2 : Int} (h : Mo w g 0 dark S S2) : Calls Tryd.prog 10 #[.pointer (some ⟨g, 0, none⟩)] w fun e w' => e = .returned (.tuple #[.int .u64 0, .bool false]) ∧ w' = w := by
  have k0 := h.k0
  clear h
  go_enter Tryd.func10, Tryd.ntmps10
  go_wp2_with fail
  go_ret2
  exact ⟨rfl, rfl⟩

set_option maxRecDepth 100000 in
set_option maxHeartbeats 16000000 in
theorem Dev_num {w : World} {g c : Nat} {dark : Bool} {S S2 : Int} (h : Mo w g c dark S S2) (hc0 : 0 < c) (hc : c < 18446744073709551616) (hS : 2 * S.natAbs < 18446744073709551616 ^ 34) (hS2 : 2 * S2.natAbs < 18446744073709551616 ^ 67) (h0 : 0 ≤ S2) (hle : 0 ≤ (c : Int) * S2 - S * S) :
    Calls Tryd.prog 10 #[.pointer (some ⟨g, 0, none⟩)] w fun e w' => ∃ val : Nat, e = .returned (.tuple #[.int .u64 val, .bool true]) ∧ VarV ((c : Int) * S2 - S * S).natAbs val ∧ Below w.heap.size w w' := by
  have HSp := hide (fun (w1 : World) (hb : Below w.heap.size w w1) => mspread_num (h.below hb h.lt) hc hS hS2 h0 hle)
  have HCn := hide (fun w1 : World => count_any c w1 hc)
  have HTt := hide (fun (w1 : World) (x y : Value) (a : Num w1 x c) (b : Num w1 y c) => ctimes_num a b hc hc)
  have HRo := hide (fun (w1 : World) (x y : Value) (a : Num w1 x ((c : Int) * S2 - S * S).natAbs) (b : Num w1 y (c * c)) => root_num (-2148) a b (Nat.mul_pos hc0 hc0))
  have HFi := hide (fun (w1 : World) (hb : Below w.heap.size w w1) => isFinite_any (h.below hb h.lt))
  unfold RootEnd0 at HRo
  have k0' := h.k0
  have hlt := h.lt
  have hc' : ¬ (c : Int) = 0 := by omega
  generalize ((c : Int) * S2 - S * S).natAbs = MR at *
  clear h hc0 hc hS hS2 h0 hle
  go_enter Tryd.func10, Tryd.ntmps10
  go_wp2_with fail
  refine (HFi.out w (Below.refl _ _)).mono ?_
  rintro e w0 ⟨rfl, hw0⟩
  have hw0 := hw0.symm
  subst hw0
  go_wp2_with fail
  refine (HCn.out w).mono ?_
  rintro e w1 ⟨vn, rfl, hvn, b1⟩
  obtain ⟨xn, yn, zn, rfl, en⟩ := num_slice hvn
  obtain ⟨H3, hH3⟩ : ∃ H3, H3 = w1.heap.size := ⟨_, rfl⟩
  obtain ⟨W2, hW2⟩ : ∃ W2, W2 = w1.alloc (.cells #[.bool false, .slice xn yn zn] 48) := ⟨_, rfl⟩
  have n1 := heap_alloc_new w1 (.cells #[.bool false, .slice xn yn zn] 48)
  rw [← hW2, ← hH3] at n1
  have b2 : Below w1.heap.size w1 W2 := by rw [hW2]; exact (Below.refl _ w1).alloc (Nat.le_refl _) _
  have bw2 : Below w.heap.size w W2 := b1.trans (b2.mono b1.size)
  have c30 : W2.drew.cell? ⟨H3, 0, none⟩ = some (.bool false) := cell_of_row W2 _ 0 _ _ _ n1
  have c31 : W2.drew.cell? ⟨H3, 1, none⟩ = some (.slice xn yn zn) := cell_of_row W2 _ 1 _ _ _ n1
  have k0 : W2.drew.cell? ⟨g, 0, none⟩ = some (.int .u64 (c : Nat)) := by
    show W2.cell? ⟨g, 0, none⟩ = _
    rw [bw2.cell (p := ⟨g, 0, none⟩) hlt]; exact k0'
  have HRn : Hid (Num W2.drew (.slice xn yn zn) c) := (hvn.below b2).below (below_drewN (Below.refl _ _) 1)
  have HI : Hid (Below w.heap.size w W2.drew) := bw2.drew
  clear hvn b1 en n1 b2 bw2 k0' hlt HFi
  go_wp2_with fail
  rw [← hW2, ← hH3]
  clear hW2 hH3
  have hfield := numField
  go_region_held3 (fun w' => w'.cell? ⟨g, 0, none⟩ = some (.int .u64 (c : Nat)) ∧ w'.cell? ⟨H3, 0, none⟩ = some (.bool false) ∧ w'.cell? ⟨H3, 1, none⟩ = some (.slice xn yn zn)) (exact ⟨k0, c30, c31⟩)
    (first | (go_at_call 21; go_must (refine (layout64 _).mono ?_); rintro _ w5 ⟨rfl, B5⟩; have HI := hide (HI.out.trans (B5.mono HI.out.size)); (try have HRs := hide (HRs.out.below B5)); (try have HRn := hide (HRn.out.below B5)); (try have HRm := hide (HRm.out.below B5)); (try have HRt := hide (HRt.out.below B5)); have k0 : w5.cell? ⟨g, 0, none⟩ = some (.int .u64 (c : Nat)) := (by rw [B5.cell (p := ⟨g, 0, none⟩) (block_lt_of_cell k0)]; exact k0); have c30 : w5.cell? ⟨H3, 0, none⟩ = some (.bool false) := (by rw [B5.cell (p := ⟨H3, 0, none⟩) (block_lt_of_cell c30)]; exact c30); have c31 : w5.cell? ⟨H3, 1, none⟩ = some (.slice xn yn zn) := (by rw [B5.cell (p := ⟨H3, 1, none⟩) (block_lt_of_cell c31)]; exact c31); clear B5) | (go_at_call 24; go_must (refine (HSp.out _ HI.out).mono ?_); rintro _ w5 ⟨vs, rfl, hvs, B5⟩; obtain ⟨xs, ys, zs, rfl, es⟩ := num_slice hvs.num; have HRs0 := hide hvs.num; have HI := hide (HI.out.trans (B5.mono HI.out.size)); (try have HRs := hide (HRs.out.below B5)); (try have HRn := hide (HRn.out.below B5)); (try have HRm := hide (HRm.out.below B5)); (try have HRt := hide (HRt.out.below B5)); have k0 : w5.cell? ⟨g, 0, none⟩ = some (.int .u64 (c : Nat)) := (by rw [B5.cell (p := ⟨g, 0, none⟩) (block_lt_of_cell k0)]; exact k0); have c30 : w5.cell? ⟨H3, 0, none⟩ = some (.bool false) := (by rw [B5.cell (p := ⟨H3, 0, none⟩) (block_lt_of_cell c30)]; exact c30); have c31 : w5.cell? ⟨H3, 1, none⟩ = some (.slice xn yn zn) := (by rw [B5.cell (p := ⟨H3, 1, none⟩) (block_lt_of_cell c31)]; exact c31); have HRs := HRs0; clear B5 hvs es HRs0) | (go_at_call 25; go_must (refine (HTt.out _ _ _ HRn.out HRn.out).mono ?_); rintro _ w5 ⟨vt, rfl, hvt, B5⟩; obtain ⟨xt, yt, zt, rfl, et⟩ := num_slice hvt.num; have HRt0 := hide hvt.num; have HI := hide (HI.out.trans (B5.mono HI.out.size)); (try have HRs := hide (HRs.out.below B5)); (try have HRn := hide (HRn.out.below B5)); (try have HRm := hide (HRm.out.below B5)); (try have HRt := hide (HRt.out.below B5)); have k0 : w5.cell? ⟨g, 0, none⟩ = some (.int .u64 (c : Nat)) := (by rw [B5.cell (p := ⟨g, 0, none⟩) (block_lt_of_cell k0)]; exact k0); have c30 : w5.cell? ⟨H3, 0, none⟩ = some (.bool false) := (by rw [B5.cell (p := ⟨H3, 0, none⟩) (block_lt_of_cell c30)]; exact c30); have c31 : w5.cell? ⟨H3, 1, none⟩ = some (.slice xn yn zn) := (by rw [B5.cell (p := ⟨H3, 1, none⟩) (block_lt_of_cell c31)]; exact c31); have HRt := HRt0; clear B5 hvt et HRt0) | (go_at_call 23; go_must (refine (HRo.out _ _ _ HRs.out HRt.out).mono ?_); rintro _ w5 ⟨head, more, e', rfl, hl, B5⟩; have HL := hide hl; have HN := hide (fun w => nearest64_any false head more e' w (hl.ok HRs.out.fits HRt.out.fits)); have HI := hide (HI.out.trans (B5.mono HI.out.size)); (try have HRs := hide (HRs.out.below B5)); (try have HRn := hide (HRn.out.below B5)); (try have HRm := hide (HRm.out.below B5)); (try have HRt := hide (HRt.out.below B5)); have k0 : w5.cell? ⟨g, 0, none⟩ = some (.int .u64 (c : Nat)) := (by rw [B5.cell (p := ⟨g, 0, none⟩) (block_lt_of_cell k0)]; exact k0); have c30 : w5.cell? ⟨H3, 0, none⟩ = some (.bool false) := (by rw [B5.cell (p := ⟨H3, 0, none⟩) (block_lt_of_cell c30)]; exact c30); have c31 : w5.cell? ⟨H3, 1, none⟩ = some (.slice xn yn zn) := (by rw [B5.cell (p := ⟨H3, 1, none⟩) (block_lt_of_cell c31)]; exact c31); clear B5 hl) | (go_at_call 22; go_must (refine (HN.out _).mono ?_); rintro _ w5 ⟨rfl, B5⟩; have HI := hide (HI.out.trans (B5.mono HI.out.size)); (try have HRs := hide (HRs.out.below B5)); (try have HRn := hide (HRn.out.below B5)); (try have HRm := hide (HRm.out.below B5)); (try have HRt := hide (HRt.out.below B5)); have k0 : w5.cell? ⟨g, 0, none⟩ = some (.int .u64 (c : Nat)) := (by rw [B5.cell (p := ⟨g, 0, none⟩) (block_lt_of_cell k0)]; exact k0); have c30 : w5.cell? ⟨H3, 0, none⟩ = some (.bool false) := (by rw [B5.cell (p := ⟨H3, 0, none⟩) (block_lt_of_cell c30)]; exact c30); have c31 : w5.cell? ⟨H3, 1, none⟩ = some (.slice xn yn zn) := (by rw [B5.cell (p := ⟨H3, 1, none⟩) (block_lt_of_cell c31)]; exact c31); clear B5))
  all_goals
    go_wp2_with fail
    go_ret2
    refine ⟨_, rfl, ⟨?_, fun h9 => ?_⟩, HI.out⟩
    · rw [wdX_false]; have := uns64_le head more e'; omega
    · have hl := HL.out
      rw [h9] at hl
      rw [wdX_false]
      rcases hl with ⟨_, h1, _⟩ | ⟨h1, _⟩
      · unfold unsF; rw [if_pos h1]
      · omega

end Go.Proofs.YtolaaemkcmiabaaDoor

/- apart; a new sum. -/
namespace Go.Proofs.YtolaaemkcmiabaaDoor
open Go.RowKit
open M
open Flt
set_option linter.unusedVariables false
set_option linter.unusedSimpArgs false

theorem apart_any (t1 t2 : Int) (w : World) (h1 : -9223372036854775808 ≤ t1) (h2 : t2 < 9223372036854775808) (h : t1 < t2) : Calls Tryd.prog 44 #[.int .i64 t1, .int .i64 t2] w fun e w' => e = .returned (.int .u64 ((t2 - t1).toNat : Nat)) ∧ w' = w := by
  go_enter Tryd.func44, Tryd.ntmps44
  go_wp2_with fail
  go_ret
  refine ⟨?_, rfl⟩
  apply ret_int
  simp only [IntKind.wrap_u64]
  omega

theorem heap_new2 (w : World) (o1 o2 : Obj) : ((w.alloc o1).alloc o2).heap[w.heap.size + 1]? = some o2 := by
  have := heap_alloc_new (w.alloc o1) o2
  rwa [show (w.alloc o1).heap.size = w.heap.size + 1 from by simp] at this

def z34 : Array Value := Array.replicate 34 (.int .u64 0)

theorem z34_one : (z34.all fun x => x.oneCell') = true := by kernel_rfl
theorem z34_get (j : Nat) (h : j < 34) : z34[j]? = some (.int .u64 0) := by
  unfold z34; rw [Array.getElem?_replicate, if_pos h]

theorem alloc34 (ρ : Operand → Value) (o : Oper) (ho : o.op = .alloc 25) (w : World) : (execOp ρ o).run Tryd.prog w = .ok (.value (.pointer (some ⟨w.heap.size, 0, none⟩))) (w.alloc (.cells z34 25)) := by
  have hz : (Tryd.prog.info? 25).bind (·.zero) = some (.agg z34) := by kernel_rfl
  unfold execOp
  rw [ho]
  cases hi : Tryd.prog.info? 25 with
  | none => simp [hi] at hz
  | some i5 =>
    simp only [hi, Option.bind_some] at hz
    simp [go_sem, hi, hz]
    rfl

/-- A new sum is nought. -/
theorem Ws.noughts {w : World} {g : Nat} {t : TypeId} (hg : w.heap[g]? = some (.cells z34 t (0, 0))) : Ws w g 0 34 (W6.tc 34 0) := by
  have e : W6.tc 34 0 = 0 := W6.tc_nat 34 0 (W6.pw_pos 34)
  rw [e]
  refine ⟨W6.pw_pos 34, fun j hj => ?_, fun j hj => frozen_of_row w g _ _ _ hg⟩
  rw [Nat.zero_add, cell_of_row w g j _ _ _ hg, W6.wd_zero, z34_get j hj]; rfl

end Go.Proofs.YtolaaemkcmiabaaDoor

namespace Go.Proofs.YtolaaemkcmiabaaDoor
open Go.RowKit
open M
open Flt
set_option linter.unusedVariables false
set_option linter.unusedSimpArgs false

theorem val_small (x q : Nat) (hx : x < 9007199254740992) (hq : q ≤ 2098) : 4 * (x * 2 ^ q) < 18446744073709551616 ^ 34 := by
  obtain ⟨Z, hZ⟩ : ∃ Z : Nat, Z = 2098 := ⟨_, rfl⟩
  obtain ⟨E, hE⟩ : ∃ E : Nat, E = 34 := ⟨_, rfl⟩
  rw [← hE]
  have e : (18446744073709551616 : Nat) ^ E = 2 ^ (64 * E) := by rw [Nat.pow_mul]
  have h1 : 2 ^ q ≤ 2 ^ Z := Nat.pow_le_pow_right (by omega) (by omega)
  have h2 : 2 ^ (55 + Z) ≤ 2 ^ (64 * E) := Nat.pow_le_pow_right (by omega) (by omega)
  have h3 : (2 : Nat) ^ (55 + Z) = 36028797018963968 * 2 ^ Z := by rw [Nat.pow_add]
  have h4 : x * 2 ^ q ≤ x * 2 ^ Z := Nat.mul_le_mul_left _ h1
  have h5 : (x + 1) * 2 ^ Z ≤ 9007199254740992 * 2 ^ Z := Nat.mul_le_mul_right _ hx
  have h6 := Nat.two_pow_pos Z
  rw [Nat.add_mul, Nat.one_mul] at h5
  rw [e]
  omega

theorem Ws.hlt {w : World} {g o n N : Nat} (h : Ws w g o n N) (hn : 0 < n) : g < w.heap.size := block_lt_of_cell (h.cell 0 hn)

set_option maxRecDepth 100000 in
set_option maxHeartbeats 2000000 in
theorem Slope_num (t1 t2 : Int) (b1 b2 : Nat) (w : World) (h1 : -9223372036854775808 ≤ t1) (h2 : t2 < 9223372036854775808) (ht : t1 < t2) (hb1 : b1 < 18446744073709551616) (hf1 : b1 % 9223372036854775808 < 9218868437227405312) (hb2 : b2 < 18446744073709551616) (hf2 : b2 % 9223372036854775808 < 9218868437227405312) (hT : Tab64 w) :
    Calls Tryd.prog 26 #[.agg #[.int .i64 t1, .int .u64 b1], .agg #[.int .i64 t2, .int .u64 b2]] w fun e w' => ∃ val : Nat, e = .returned (.tuple #[.int .u64 val, .int .i64 0]) ∧ (∃ head more e', val = wdX (decide (ofV b2 - ofV b1 < 0)) 9223372036854775808 (unsF 53 1074 9218868437227405312 head more e') ∧ LeadQ (ofV b2 - ofV b1).natAbs (t2 - t1).toNat (-1074) head more e') ∧ Below w.heap.size w w' := by
  have HV1 : Hid (∀ W : World, Below w.heap.size w W → Calls Tryd.prog 13 #[.int .u64 b1] W fun e w' => ValEnd b1 W e w') := fun W o => valueOf_fin b1 W hb1 hf1 (hT.below o)
  have HV2 : Hid (∀ W : World, Below w.heap.size w W → Calls Tryd.prog 13 #[.int .u64 b2] W fun e w' => ValEnd b2 W e w') := fun W o => valueOf_fin b2 W hb2 hf2 (hT.below o)
  have hle : ¬ t2 ≤ t1 := by omega
  unfold ValEnd at HV1 HV2
  generalize hs1 : decide (9223372036854775808 ≤ b1) = s1 at *
  generalize hs2 : decide (9223372036854775808 ≤ b2) = s2 at *
  obtain ⟨W0, hW0⟩ : ∃ W0, W0 = (w.alloc (.cells #[.int .i64 t1, .int .u64 (b1 : Nat)] 62)).alloc (.cells #[.int .i64 t2, .int .u64 (b2 : Nat)] 62) := ⟨_, rfl⟩
  have B0 : Below w.heap.size w W0 := by rw [hW0]; exact ((Below.refl _ w).alloc (Nat.le_refl _) _).alloc (by simp) _
  have HSs := hide (And.intro hs1 hs2)
  clear hb1 hf1 hb2 hf2 hT hs1 hs2
  go_enter Tryd.func26, Tryd.ntmps26
  go_wp2_with fail
  rw [← hW0]
  refine (HV1.out _ B0).mono ?_
  rintro e w1 ⟨x1, q1, rfl, hx1, hq1, hU1, b1'⟩
  have hz : (w.alloc (.cells #[.int .i64 t1, .int .u64 (b1 : Nat)] 62)).heap.size = w.heap.size + 1 := by simp
  have hz0 : W0.heap.size = w.heap.size + 1 + 1 := by rw [hW0]; simp
  have hb0 : Below (w.alloc (.cells #[.int .i64 t1, .int .u64 (b1 : Nat)] 62)).heap.size (w.alloc (.cells #[.int .i64 t1, .int .u64 (b1 : Nat)] 62)) W0 := by rw [hW0]; exact (Below.refl _ _).alloc (Nat.le_refl _) _
  have p0 : W0.cell? ⟨w.heap.size, 0, none⟩ = some (.int .i64 t1) := by rw [hb0.cell (p := ⟨w.heap.size, 0, none⟩) (by simp)]; exact cell_of_row _ _ 0 _ _ _ (heap_alloc_new w _)
  have p1 : W0.cell? ⟨w.heap.size + 1, 0, none⟩ = some (.int .i64 t2) := by rw [← hz, hW0]; exact cell_of_row _ _ 0 _ _ _ (heap_alloc_new _ _)
  have p2 : W0.cell? ⟨w.heap.size + 1, 1, none⟩ = some (.int .u64 (b2 : Nat)) := by rw [← hz, hW0]; exact cell_of_row _ _ 1 _ _ _ (heap_alloc_new _ _)
  obtain ⟨W1, hW1⟩ : ∃ W1, W1 = w1.alloc (.cells #[.bool s1, .int .u64 (x1 : Nat), .int .i64 (q1 : Nat)] 39) := ⟨_, rfl⟩
  have B1 : Below W0.heap.size W0 W1 := by rw [hW1]; exact b1'.alloc b1'.size _
  have r2 : W1.cell? ⟨w.heap.size + 1, 1, none⟩ = some (.int .u64 (b2 : Nat)) := by rw [B1.cell (p := ⟨w.heap.size + 1, 1, none⟩) (block_lt_of_cell p2)]; exact p2
  have B01 := B0.trans (B1.mono B0.size)
  have e1 : ∀ o, (w1.alloc o).cell? ⟨w.heap.size + 1, 1, none⟩ = some (.int .u64 (b2 : Nat)) := fun o => by
    rw [((Below.refl _ w1).alloc (Nat.le_refl _) o).cell (p := ⟨w.heap.size + 1, 1, none⟩) (by have := b1'.size; show w.heap.size + 1 < _; omega), b1'.cell (p := ⟨w.heap.size + 1, 1, none⟩) (block_lt_of_cell p2)]; exact p2
  clear hW0 hz hb0
  simp only [prt]
  go_wp2_with (simp only [e1])
  rw [← hW1]
  refine (HV2.out _ B01).mono ?_
  rintro e w2 ⟨x2, q2, rfl, hx2, hq2, hU2, b2'⟩
  have hsz : (Tryd.prog.info? 25).map (·.size) = some 34 := by kernel_rfl
  clear HV1 HV2 r2 e1
  simp only [prt]
  go_upto_region 7 with fail
  refine wp_region_list ?_
  refine wpList_build rfl 25 #[] rfl (by kernel_rfl) ?_
  have hbu : (Tryd.prog.built 25 (#[] : Array (Nat × Value)).toList).getD #[] = z34 := by kernel_rfl
  simp only [Array.map_empty]
  rw [hbu]
  refine Go.Great.wpList_allocTo rfl (some 10) rfl _ _ (alloc34 _ _ rfl _) ?_
  refine wpList_store_row rfl 25 (.tmp 10) (.tmp 34) rfl _ z34 rfl rfl _ _ (heap_alloc_new _ _) hsz rfl z34_one ?_
  obtain ⟨W2, hW2⟩ : ∃ W2, W2 = w2.alloc (.cells #[.bool s2, .int .u64 (x2 : Nat), .int .i64 (q2 : Nat)] 39) := ⟨_, rfl⟩
  rw [← hW2]
  obtain ⟨W3, hW3⟩ : ∃ W3, W3 = (W2.alloc (.cells z34 25)).setRow W2.heap.size z34 := ⟨_, rfl⟩
  rw [← hW3]
  have hB23 : Below W2.heap.size W2 W3 := by rw [hW3]; exact below_setRow ((Below.refl _ W2).alloc (Nat.le_refl _) _) (Nat.le_refl _) _
  have hB12 : Below W1.heap.size W1 W2 := by rw [hW2]; exact b2'.alloc b2'.size _
  have hB13 := hB12.trans (hB23.mono hB12.size)
  have hB03 := B1.trans (hB13.mono B1.size)
  have z1 : w1.heap.size < W1.heap.size := by rw [hW1]; simp
  have z2 : w2.heap.size < W2.heap.size := by rw [hW2]; simp
  have c0 : W3.drew.cell? ⟨w2.heap.size, 0, none⟩ = some (.bool s2) := by
    show W3.cell? _ = _
    rw [hB23.cell (p := ⟨w2.heap.size, 0, none⟩) z2, hW2]; exact cell_of_row _ _ 0 _ _ _ (heap_alloc_new w2 _)
  have c1 : W3.drew.cell? ⟨w2.heap.size, 1, none⟩ = some (.int .u64 (x2 : Nat)) := by
    show W3.cell? _ = _
    rw [hB23.cell (p := ⟨w2.heap.size, 1, none⟩) z2, hW2]; exact cell_of_row _ _ 1 _ _ _ (heap_alloc_new w2 _)
  have c2 : W3.drew.cell? ⟨w2.heap.size, 2, none⟩ = some (.int .i64 (q2 : Nat)) := by
    show W3.cell? _ = _
    rw [hB23.cell (p := ⟨w2.heap.size, 2, none⟩) z2, hW2]; exact cell_of_row _ _ 2 _ _ _ (heap_alloc_new w2 _)
  have d0 : W3.drew.cell? ⟨w1.heap.size, 0, none⟩ = some (.bool s1) := by
    show W3.cell? _ = _
    rw [hB13.cell (p := ⟨w1.heap.size, 0, none⟩) z1, hW1]; exact cell_of_row _ _ 0 _ _ _ (heap_alloc_new w1 _)
  have d1 : W3.drew.cell? ⟨w1.heap.size, 1, none⟩ = some (.int .u64 (x1 : Nat)) := by
    show W3.cell? _ = _
    rw [hB13.cell (p := ⟨w1.heap.size, 1, none⟩) z1, hW1]; exact cell_of_row _ _ 1 _ _ _ (heap_alloc_new w1 _)
  have d2 : W3.drew.cell? ⟨w1.heap.size, 2, none⟩ = some (.int .i64 (q1 : Nat)) := by
    show W3.cell? _ = _
    rw [hB13.cell (p := ⟨w1.heap.size, 2, none⟩) z1, hW1]; exact cell_of_row _ _ 2 _ _ _ (heap_alloc_new w1 _)
  have p0 : W3.drew.cell? ⟨w.heap.size, 0, none⟩ = some (.int .i64 t1) := by
    show W3.cell? _ = _
    rw [hB03.cell (p := ⟨w.heap.size, 0, none⟩) (block_lt_of_cell p0)]; exact p0
  have p1 : W3.drew.cell? ⟨w.heap.size + 1, 0, none⟩ = some (.int .i64 t2) := by
    show W3.cell? _ = _
    rw [hB03.cell (p := ⟨w.heap.size + 1, 0, none⟩) (block_lt_of_cell p1)]; exact p1
  obtain ⟨hr, hhr⟩ : ∃ hr, hr = W2.heap.size := ⟨_, rfl⟩
  have hs1' := b1'.size
  have hs2' := b2'.size
  have n1 : w1.heap.size ≠ hr := by have := hB12.size; omega
  have n2 : w2.heap.size ≠ hr := by omega
  have n3 : w.heap.size ≠ hr := by have := hB12.size; omega
  have n4 : w.heap.size + 1 ≠ hr := by have := hB12.size; omega
  have HH : Hid (w.heap.size ≤ hr) := by have := hB12.size; show _ ≤ _; omega
  have HR : Hid (Ws W3.drew hr 0 34 (W6.tc 34 0)) := by
    rw [hhr]
    exact (Ws.noughts (by rw [hW3]; exact setRow_heap _ _ _ _ _ _ (heap_alloc_new W2 _))).drew
  have HI : Hid (Below w.heap.size w W3.drew) := (B0.trans (hB03.mono B0.size)).drew
  have HT : Hid (ofV b2 = 0 + W6.sgn (s2 != false) (x2 * 1 * 2 ^ (q2 + 0)) ∧ ofV b2 - ofV b1 = 0 + W6.sgn (s2 != false) (x2 * 1 * 2 ^ (q2 + 0)) + W6.sgn (s1 != true) (x1 * 1 * 2 ^ (q1 + 0))) := by
    have o1 : ofV b1 = W6.sgn s1 (x1 * 2 ^ q1) := by unfold ofV; rw [HSs.out.1, hU1]
    have o2 : ofV b2 = W6.sgn s2 (x2 * 2 ^ q2) := by unfold ofV; rw [HSs.out.2, hU2]
    show _ ∧ _
    rw [o1, o2, Nat.mul_one, Nat.mul_one, Nat.add_zero, Nat.add_zero]
    cases s1 <;> cases s2 <;> simp [W6.sgn] <;> omega
  have HTs : Hid (2 * (ofV b2 - ofV b1).natAbs < 18446744073709551616 ^ 34) := by
    have v1 := val_small x1 q1 hx1 hq1
    have v2 := val_small x2 q2 hx2 hq2
    have o1 : ofV b1 = W6.sgn s1 (x1 * 2 ^ q1) := by unfold ofV; rw [HSs.out.1, hU1]
    have o2 : ofV b2 = W6.sgn s2 (x2 * 2 ^ q2) := by unfold ofV; rw [HSs.out.2, hU2]
    show _ < _
    rw [o1, o2]
    generalize x1 * 2 ^ q1 = u1 at *
    generalize x2 * 2 ^ q2 = u2 at *
    generalize 18446744073709551616 ^ 34 = KK at *
    unfold W6.sgn
    split <;> split <;> omega
  have HG1 : Hid (∀ V : World, Ws V hr 0 34 (W6.tc 34 0) → Calls Tryd.prog 14 #[.slice (some ⟨hr, 0, none⟩) 34 34, prt s2 x2 q2, prt false 1 0] V fun e w' => e = .returned (.tuple #[]) ∧ Ws w' hr 0 34 (W6.tc 34 (0 + W6.sgn (s2 != false) (x2 * 1 * 2 ^ (q2 + 0)))) ∧ Only hr 0 (0 + 34) V w') :=
    fun V hV => gather_any hr 0 34 34 0 s2 false x2 1 q2 0 V hV (by omega) (by omega) (by omega) (hV.hlt (by omega)) (by omega) (by omega) (by omega)
  have HG2 : Hid (∀ V : World, Ws V hr 0 34 (W6.tc 34 (0 + W6.sgn (s2 != false) (x2 * 1 * 2 ^ (q2 + 0)))) → Calls Tryd.prog 14 #[.slice (some ⟨hr, 0, none⟩) 34 34, prt s1 x1 q1, prt true 1 0] V fun e w' => e = .returned (.tuple #[]) ∧ Ws w' hr 0 34 (W6.tc 34 (ofV b2 - ofV b1)) ∧ Only hr 0 (0 + 34) V w') := by
    intro V hV
    rw [HT.out.2]
    exact gather_any hr 0 34 34 _ s1 true x1 1 q1 0 V hV (by omega) (by omega) (by omega) (hV.hlt (by omega)) (by omega) (by omega) (by omega)
  have HNu : Hid (∀ V : World, Ws V hr 0 34 (W6.tc 34 (ofV b2 - ofV b1)) → Calls Tryd.prog 34 #[.slice (some ⟨hr, 0, none⟩) 34 34] V fun e w' => NumEnd (ofV b2 - ofV b1) V e w') :=
    fun V hV => numberOf_any hr 0 34 34 _ V hV (by omega) (by omega) (by omega) (by omega) (hV.hlt (by omega)) HTs.out
  have HA := hide (fun w : World => apart_any t1 t2 w h1 h2 ht)
  have HC := hide (fun w : World => count_any (t2 - t1).toNat w (by omega))
  have HO := hide (fun (w' : World) (v u : Value) (a : Num w' v (ofV b2 - ofV b1).natAbs) (b : Num w' u (t2 - t1).toNat) => over_any (decide (ofV b2 - ofV b1 < 0)) false (-1074) a b (by omega))
  unfold NumEnd at HNu
  unfold OverEnd at HO
  generalize g1 : ofV b2 - ofV b1 = T at *
  generalize g2 : decide (T < 0) = neg at *
  generalize g3 : T.natAbs = M at *
  generalize g4 : (t2 - t1).toNat = dt at *
  have HEq := hide (And.intro g1 (And.intro g2 (And.intro g3 g4)))
  clear g1 g2 g3 g4
  rw [← hhr]
  clear hW1 hW2 hW3 hB23 hB12 hB13 hB03 z1 z2 hhr hs1' hs2' b1' b2' B0 B1 B01 hU1 hU2 hx1 hx2 hq1 hq2 HT HTs HSs hz0 hsz hle
  go_upto_region 8 with fail
  go_region_held3 (fun w' => w'.cell? ⟨w2.heap.size, 0, none⟩ = some (.bool s2) ∧ w'.cell? ⟨w2.heap.size, 1, none⟩ = some (.int .u64 (x2 : Nat)) ∧ w'.cell? ⟨w2.heap.size, 2, none⟩ = some (.int .i64 (q2 : Nat)) ∧ w'.cell? ⟨w1.heap.size, 0, none⟩ = some (.bool s1) ∧ w'.cell? ⟨w1.heap.size, 1, none⟩ = some (.int .u64 (x1 : Nat)) ∧ w'.cell? ⟨w1.heap.size, 2, none⟩ = some (.int .i64 (q1 : Nat)) ∧ w'.cell? ⟨w.heap.size, 0, none⟩ = some (.int .i64 t1) ∧ w'.cell? ⟨w.heap.size + 1, 0, none⟩ = some (.int .i64 t2)) (exact ⟨c0, c1, c2, d0, d1, d2, p0, p1⟩)
    (first | (go_at_call 15; go_must (refine (once_any _).mono ?_); rintro _ w5 ⟨rfl, B5⟩; have HR := hide (HR.out.below B5 (HR.out.hlt (by omega))); have HI := hide (HI.out.trans (B5.mono HI.out.size)); have c0 : w5.cell? ⟨w2.heap.size, 0, none⟩ = some (.bool s2) := (by rw [B5.cell (p := ⟨w2.heap.size, 0, none⟩) (block_lt_of_cell c0)]; exact c0); have c1 : w5.cell? ⟨w2.heap.size, 1, none⟩ = some (.int .u64 (x2 : Nat)) := (by rw [B5.cell (p := ⟨w2.heap.size, 1, none⟩) (block_lt_of_cell c1)]; exact c1); have c2 : w5.cell? ⟨w2.heap.size, 2, none⟩ = some (.int .i64 (q2 : Nat)) := (by rw [B5.cell (p := ⟨w2.heap.size, 2, none⟩) (block_lt_of_cell c2)]; exact c2); have d0 : w5.cell? ⟨w1.heap.size, 0, none⟩ = some (.bool s1) := (by rw [B5.cell (p := ⟨w1.heap.size, 0, none⟩) (block_lt_of_cell d0)]; exact d0); have d1 : w5.cell? ⟨w1.heap.size, 1, none⟩ = some (.int .u64 (x1 : Nat)) := (by rw [B5.cell (p := ⟨w1.heap.size, 1, none⟩) (block_lt_of_cell d1)]; exact d1); have d2 : w5.cell? ⟨w1.heap.size, 2, none⟩ = some (.int .i64 (q1 : Nat)) := (by rw [B5.cell (p := ⟨w1.heap.size, 2, none⟩) (block_lt_of_cell d2)]; exact d2); have p0 : w5.cell? ⟨w.heap.size, 0, none⟩ = some (.int .i64 t1) := (by rw [B5.cell (p := ⟨w.heap.size, 0, none⟩) (block_lt_of_cell p0)]; exact p0); have p1 : w5.cell? ⟨w.heap.size + 1, 0, none⟩ = some (.int .i64 t2) := (by rw [B5.cell (p := ⟨w.heap.size + 1, 0, none⟩) (block_lt_of_cell p1)]; exact p1); clear B5) | (go_at_call 14; go_must (refine (HG1.out _ HR.out).mono ?_); rintro _ w6 ⟨rfl, hS, hO⟩; have HI := hide (HI.out.trans (hO.below HH.out HI.out.size)); have c0 : w6.cell? ⟨w2.heap.size, 0, none⟩ = some (.bool s2) := (by rw [World.cell?_of_block (hO.block _ (block_lt_of_cell c0) n2)]; exact c0); have c1 : w6.cell? ⟨w2.heap.size, 1, none⟩ = some (.int .u64 (x2 : Nat)) := (by rw [World.cell?_of_block (hO.block _ (block_lt_of_cell c1) n2)]; exact c1); have c2 : w6.cell? ⟨w2.heap.size, 2, none⟩ = some (.int .i64 (q2 : Nat)) := (by rw [World.cell?_of_block (hO.block _ (block_lt_of_cell c2) n2)]; exact c2); have d0 : w6.cell? ⟨w1.heap.size, 0, none⟩ = some (.bool s1) := (by rw [World.cell?_of_block (hO.block _ (block_lt_of_cell d0) n1)]; exact d0); have d1 : w6.cell? ⟨w1.heap.size, 1, none⟩ = some (.int .u64 (x1 : Nat)) := (by rw [World.cell?_of_block (hO.block _ (block_lt_of_cell d1) n1)]; exact d1); have d2 : w6.cell? ⟨w1.heap.size, 2, none⟩ = some (.int .i64 (q1 : Nat)) := (by rw [World.cell?_of_block (hO.block _ (block_lt_of_cell d2) n1)]; exact d2); have p0 : w6.cell? ⟨w.heap.size, 0, none⟩ = some (.int .i64 t1) := (by rw [World.cell?_of_block (hO.block _ (block_lt_of_cell p0) n3)]; exact p0); have p1 : w6.cell? ⟨w.heap.size + 1, 0, none⟩ = some (.int .i64 t2) := (by rw [World.cell?_of_block (hO.block _ (block_lt_of_cell p1) n4)]; exact p1); have HR := hide hS; clear hS hO))
  go_upto_region 9 with fail
  have c0 : w6.drew.cell? ⟨w2.heap.size, 0, none⟩ = some (.bool s2) := c0
  have c1 : w6.drew.cell? ⟨w2.heap.size, 1, none⟩ = some (.int .u64 (x2 : Nat)) := c1
  have c2 : w6.drew.cell? ⟨w2.heap.size, 2, none⟩ = some (.int .i64 (q2 : Nat)) := c2
  have d0 : w6.drew.cell? ⟨w1.heap.size, 0, none⟩ = some (.bool s1) := d0
  have d1 : w6.drew.cell? ⟨w1.heap.size, 1, none⟩ = some (.int .u64 (x1 : Nat)) := d1
  have d2 : w6.drew.cell? ⟨w1.heap.size, 2, none⟩ = some (.int .i64 (q1 : Nat)) := d2
  have p0 : w6.drew.cell? ⟨w.heap.size, 0, none⟩ = some (.int .i64 t1) := p0
  have p1 : w6.drew.cell? ⟨w.heap.size + 1, 0, none⟩ = some (.int .i64 t2) := p1
  have HR := hide HR.out.drew
  have HI := hide HI.out.drew
  go_region_held3 (fun w' => w'.cell? ⟨w2.heap.size, 0, none⟩ = some (.bool s2) ∧ w'.cell? ⟨w2.heap.size, 1, none⟩ = some (.int .u64 (x2 : Nat)) ∧ w'.cell? ⟨w2.heap.size, 2, none⟩ = some (.int .i64 (q2 : Nat)) ∧ w'.cell? ⟨w1.heap.size, 0, none⟩ = some (.bool s1) ∧ w'.cell? ⟨w1.heap.size, 1, none⟩ = some (.int .u64 (x1 : Nat)) ∧ w'.cell? ⟨w1.heap.size, 2, none⟩ = some (.int .i64 (q1 : Nat)) ∧ w'.cell? ⟨w.heap.size, 0, none⟩ = some (.int .i64 t1) ∧ w'.cell? ⟨w.heap.size + 1, 0, none⟩ = some (.int .i64 t2)) (exact ⟨c0, c1, c2, d0, d1, d2, p0, p1⟩)
    (first | (go_at_call 14; go_must (refine (HG2.out _ HR.out).mono ?_); rintro _ w7 ⟨rfl, hS, hO⟩; have HI := hide (HI.out.trans (hO.below HH.out HI.out.size)); have c0 : w7.cell? ⟨w2.heap.size, 0, none⟩ = some (.bool s2) := (by rw [World.cell?_of_block (hO.block _ (block_lt_of_cell c0) n2)]; exact c0); have c1 : w7.cell? ⟨w2.heap.size, 1, none⟩ = some (.int .u64 (x2 : Nat)) := (by rw [World.cell?_of_block (hO.block _ (block_lt_of_cell c1) n2)]; exact c1); have c2 : w7.cell? ⟨w2.heap.size, 2, none⟩ = some (.int .i64 (q2 : Nat)) := (by rw [World.cell?_of_block (hO.block _ (block_lt_of_cell c2) n2)]; exact c2); have d0 : w7.cell? ⟨w1.heap.size, 0, none⟩ = some (.bool s1) := (by rw [World.cell?_of_block (hO.block _ (block_lt_of_cell d0) n1)]; exact d0); have d1 : w7.cell? ⟨w1.heap.size, 1, none⟩ = some (.int .u64 (x1 : Nat)) := (by rw [World.cell?_of_block (hO.block _ (block_lt_of_cell d1) n1)]; exact d1); have d2 : w7.cell? ⟨w1.heap.size, 2, none⟩ = some (.int .i64 (q1 : Nat)) := (by rw [World.cell?_of_block (hO.block _ (block_lt_of_cell d2) n1)]; exact d2); have p0 : w7.cell? ⟨w.heap.size, 0, none⟩ = some (.int .i64 t1) := (by rw [World.cell?_of_block (hO.block _ (block_lt_of_cell p0) n3)]; exact p0); have p1 : w7.cell? ⟨w.heap.size + 1, 0, none⟩ = some (.int .i64 t2) := (by rw [World.cell?_of_block (hO.block _ (block_lt_of_cell p1) n4)]; exact p1); have HR := hide hS; clear hS hO))
  go_upto_region 10 with fail
  have p0 : w7.drew.cell? ⟨w.heap.size, 0, none⟩ = some (.int .i64 t1) := p0
  have p1 : w7.drew.cell? ⟨w.heap.size + 1, 0, none⟩ = some (.int .i64 t2) := p1
  have HR := hide HR.out.drew
  have HI := hide HI.out.drew
  go_region_held3 (fun w' => w'.cell? ⟨w.heap.size, 0, none⟩ = some (.int .i64 t1) ∧ w'.cell? ⟨w.heap.size + 1, 0, none⟩ = some (.int .i64 t2)) (exact ⟨p0, p1⟩)
    (first | (go_at_call 34; go_must (refine (HNu.out _ HR.out).mono ?_); rintro _ w8 ⟨v, rfl, hv, B5⟩; have HR := hide (HR.out.below B5 (HR.out.hlt (by omega))); have HNv := hide hv; (try (have HCu := hide (HCu.out.below B5))); have HI := hide (HI.out.trans (B5.mono HI.out.size)); have p0 : w8.cell? ⟨w.heap.size, 0, none⟩ = some (.int .i64 t1) := (by rw [B5.cell (p := ⟨w.heap.size, 0, none⟩) (block_lt_of_cell p0)]; exact p0); have p1 : w8.cell? ⟨w.heap.size + 1, 0, none⟩ = some (.int .i64 t2) := (by rw [B5.cell (p := ⟨w.heap.size + 1, 0, none⟩) (block_lt_of_cell p1)]; exact p1); clear B5 hv) | (go_at_call 44; go_must (refine (HA.out _).mono ?_); rintro _ wx ⟨rfl, hwx⟩; have hwx := hwx.symm; subst hwx) | (go_at_call 20; go_must (refine (HC.out _).mono ?_); rintro _ w9 ⟨u, rfl, hu, B5⟩; have HR := hide (HR.out.below B5 (HR.out.hlt (by omega))); have HCu := hide hu; (try (have HNv := hide (HNv.out.below B5))); have HI := hide (HI.out.trans (B5.mono HI.out.size)); have p0 : w9.cell? ⟨w.heap.size, 0, none⟩ = some (.int .i64 t1) := (by rw [B5.cell (p := ⟨w.heap.size, 0, none⟩) (block_lt_of_cell p0)]; exact p0); have p1 : w9.cell? ⟨w.heap.size + 1, 0, none⟩ = some (.int .i64 t2) := (by rw [B5.cell (p := ⟨w.heap.size + 1, 0, none⟩) (block_lt_of_cell p1)]; exact p1); clear B5 hu) | (go_at_call 33; go_must (refine (HO.out _ _ _ HNv.out HCu.out).mono ?_); rintro _ w10 ⟨head, more, e', rfl, hl, B5⟩; have HL := hide hl; have HI := hide (HI.out.trans (B5.mono HI.out.size)); have p0 : w10.cell? ⟨w.heap.size, 0, none⟩ = some (.int .i64 t1) := (by rw [B5.cell (p := ⟨w.heap.size, 0, none⟩) (block_lt_of_cell p0)]; exact p0); have p1 : w10.cell? ⟨w.heap.size + 1, 0, none⟩ = some (.int .i64 t2) := (by rw [B5.cell (p := ⟨w.heap.size + 1, 0, none⟩) (block_lt_of_cell p1)]; exact p1); clear B5 hl))
  go_wp2_with fail
  go_ret2
  obtain ⟨g1, g2, g3, g4⟩ := HEq.out
  rw [g1, g2, g3, g4]
  exact ⟨_, rfl, ⟨head, more, e', rfl, HL.out⟩, HI.out⟩

end Go.Proofs.YtolaaemkcmiabaaDoor

/- From whole numbers: the program's and the document's. -/
import Derived.Test.YtdiinhccfifiaaaQJ
namespace Go.Proofs.Ytdiinhccfifiaaa
open Go.RowKit
open M
set_option linter.unusedVariables false
set_option linter.unusedSimpArgs false

theorem wd_w32 (s : Bool) (R : Nat) : wd32 s R = Ieee.single.word s R := by cases s <;> rfl
def fint (n : Int) : Nat := nrst64 (decide (n < 0)) n.natAbs 1 0
def fint32 (n : Int) : Nat := nrst32 (decide (n < 0)) n.natAbs 1 0
theorem of_int64 (n : Int) : floatOfInt .f64 n = fint n := by
  obtain ⟨T, hT⟩ : ∃ T : Nat, T = 1074 := ⟨_, rfl⟩
  unfold fint
  rw [nrst_ent T hT, ← Flt.nearest_ent T hT]
  rfl
theorem of_int32 (n : Int) : floatOfInt .f32 n = fint32 n := by
  have hl : Ieee.single.leastPlace = -149 := by decide
  have e : floatOfInt .f32 n = Ieee.single.nearest (decide (n < 0)) n.natAbs 0 := rfl
  unfold fint32 nrst32
  rw [e, Flt.nearest_rnd, hl, wd_w32, inf32, show (0 - (-149) : Int).toNat = ((0 : Int) + 149).toNat by omega, show (-149 - (0 : Int)).toNat = 0 by omega, Nat.pow_zero]
theorem fint32_lt (n : Int) : fint32 n < 4294967296 := by
  unfold fint32 nrst32 wd32
  split <;> omega

set_option maxRecDepth 100000 in
set_option maxHeartbeats 1000000 in
theorem FromInt_any (n : Int) (w : World) : Calls Try.prog 34 #[.int .i64 n] w fun e w' => e = .returned (.int .u64 (fint n : Nat)) ∧ w' = w := by
  have hcv := fun w : World => run_convert_int_float (P := Try.prog) w 2 81 .i64 .f64 n (by kernel_rfl) (by kernel_rfl)
  rw [of_int64] at hcv
  generalize fint n = x at *
  have ht := tobits64 x
  go_enter Try.func34, Try.ntmps34
  go_wp2_with (simp only [hcv, ht])
  go_ret
  exact ⟨rfl, rfl⟩
set_option maxRecDepth 100000 in
set_option maxHeartbeats 1000000 in
theorem FromUint_any (n : Nat) (w : World) : Calls Try.prog 36 #[.int .u64 n] w fun e w' => e = .returned (.int .u64 (fint n : Nat)) ∧ w' = w := by
  have hcv := fun w : World => run_convert_int_float (P := Try.prog) w 23 81 .u64 .f64 n (by kernel_rfl) (by kernel_rfl)
  rw [of_int64] at hcv
  generalize fint n = x at *
  have ht := tobits64 x
  go_enter Try.func36, Try.ntmps36
  go_wp2_with (simp only [hcv, ht])
  go_ret
  exact ⟨rfl, rfl⟩
set_option maxRecDepth 100000 in
set_option maxHeartbeats 1000000 in
theorem FromInt32_any (n : Int) (w : World) : Calls Try.prog 38 #[.int .i64 n] w fun e w' => e = .returned (.int .u32 (fint32 n : Nat)) ∧ w' = w := by
  have hcv := fun w : World => run_convert_int_float (P := Try.prog) w 2 94 .i64 .f32 n (by kernel_rfl) (by kernel_rfl)
  rw [of_int32] at hcv
  generalize fint32 n = x at *
  have ht := tobits32 x
  go_enter Try.func38, Try.ntmps38
  go_wp2_with (simp only [hcv, ht])
  go_ret
  exact ⟨rfl, rfl⟩
set_option maxRecDepth 100000 in
set_option maxHeartbeats 1000000 in
theorem rMagnitude (n : Int) (w : World) (hn : -9223372036854775808 ≤ n ∧ n < 9223372036854775808) : Calls Try.prog 81 #[.int .i64 n] w fun e w' => e = .returned (.int .u64 (n.natAbs : Nat)) ∧ w' = w := by
  obtain ⟨N, hN⟩ : ∃ N : Nat, n.natAbs = N := ⟨_, rfl⟩
  rw [hN]
  by_cases h : n < 0
  · have hw2 : IntKind.u64.wrap (-IntKind.u64.wrap n) = (N : Int) := by rw [IntKind.wrap_u64, IntKind.wrap_u64]; omega
    clear hN hn
    go_enter Try.func81, Try.ntmps81
    go_wp2_with (simp only [hw2])
    go_ret
    exact ⟨rfl, rfl⟩
  · have hw2 : n = (N : Int) := by omega
    have h3 : (N : Int) < 9223372036854775808 := by omega
    clear hN hn h
    subst hw2
    have h0 : ¬ (N : Int) < 0 := by omega
    have hw3 : IntKind.u64.wrap (N : Int) = (N : Int) := by rw [IntKind.wrap_u64]; omega
    go_enter Try.func81, Try.ntmps81
    go_wp2_with (simp only [hw3])
    go_ret
    exact ⟨rfl, rfl⟩
set_option maxRecDepth 100000 in
set_option maxHeartbeats 1000000 in
theorem rFromInt (n : Int) (w : World) (hn : -9223372036854775808 ≤ n ∧ n < 9223372036854775808) : Calls Try.prog 35 #[.int .i64 n] w fun e w' => e = .returned (.int .u64 (fint n : Nat)) ∧ Below w.heap.size w w' := by
  obtain ⟨N, hN, hNl⟩ : ∃ N : Nat, n.natAbs = N ∧ N < 18446744073709551616 := ⟨_, rfl, by omega⟩
  have HM := fhide (fun w : World => rMagnitude n w hn)
  rw [hN] at HM
  obtain ⟨s, hs⟩ : ∃ s : Bool, decide (n < 0) = s := ⟨_, rfl⟩
  have HF : Hid (nrst64 s N 1 0 = fint n) := by show _ = _; unfold fint; rw [hN, hs]
  obtain ⟨x, hx⟩ : ∃ x : Nat, fint n = x := ⟨_, rfl⟩
  rw [hx] at HF ⊢
  have HO := fhide (fun w : World => nOf N w hNl)
  have hN1 : (N : Int) < 18446744073709551616 := by omega
  clear hNl hx hn hN
  by_cases h0 : n < 0
  · rw [decide_eq_true h0] at hs
    subst hs
    go_enter Try.func35, Try.ntmps35
    go_wp2_with fail
    refine (HM.out _).mono ?_
    rintro e w1 ⟨rfl, hw1⟩
    have hw1 := hw1.symm
    subst hw1
    go_wp2_with fail
    refine (HO.out _).mono ?_
    rintro e w1 ⟨r1, rfl, k1, a1, b1, c1, d1⟩
    have H1 := fhide (And.intro a1 (And.intro b1 (And.intro c1 d1)))
    clear a1 b1 c1 d1
    go_wp2_with fail
    refine (nOf 1 _ (by decide)).mono ?_
    rintro e w2 ⟨r2, rfl, k2, a2, b2, c2, d2⟩
    have HR := fhide (rNearest64 true r1 r2 k1 N k2 1 0 w2 (H1.out.1.below d2) a2 H1.out.2.1 b2 (by decide) (by have := H1.out.2.2.1; omega) (by omega) (by decide))
    have H2 := fhide (H1.out.2.2.2.trans (d2.mono H1.out.2.2.2.size))
    clear a2 b2 c2 d2
    rw [HF.out] at HR
    go_wp2_with fail
    refine HR.out.mono ?_
    rintro e w3 ⟨rfl, d3⟩
    have H3 := fhide (H2.out.trans (d3.mono H2.out.size))
    clear d3
    go_wp2_with fail
    go_ret
    exact ⟨rfl, H3.out⟩
  · rw [decide_eq_false h0] at hs
    subst hs
    go_enter Try.func35, Try.ntmps35
    go_wp2_with fail
    refine (HM.out _).mono ?_
    rintro e w1 ⟨rfl, hw1⟩
    have hw1 := hw1.symm
    subst hw1
    go_wp2_with fail
    refine (HO.out _).mono ?_
    rintro e w1 ⟨r1, rfl, k1, a1, b1, c1, d1⟩
    have H1 := fhide (And.intro a1 (And.intro b1 (And.intro c1 d1)))
    clear a1 b1 c1 d1
    go_wp2_with fail
    refine (nOf 1 _ (by decide)).mono ?_
    rintro e w2 ⟨r2, rfl, k2, a2, b2, c2, d2⟩
    have HR := fhide (rNearest64 false r1 r2 k1 N k2 1 0 w2 (H1.out.1.below d2) a2 H1.out.2.1 b2 (by decide) (by have := H1.out.2.2.1; omega) (by omega) (by decide))
    have H2 := fhide (H1.out.2.2.2.trans (d2.mono H1.out.2.2.2.size))
    clear a2 b2 c2 d2
    rw [HF.out] at HR
    go_wp2_with fail
    refine HR.out.mono ?_
    rintro e w3 ⟨rfl, d3⟩
    have H3 := fhide (H2.out.trans (d3.mono H2.out.size))
    clear d3
    go_wp2_with fail
    go_ret
    exact ⟨rfl, H3.out⟩
set_option maxRecDepth 100000 in
set_option maxHeartbeats 1000000 in
theorem rFromUint (n : Nat) (w : World) (hn : n < 18446744073709551616) : Calls Try.prog 37 #[.int .u64 n] w fun e w' => e = .returned (.int .u64 (fint n : Nat)) ∧ Below w.heap.size w w' := by
  obtain ⟨N, hN, hNl⟩ : ∃ N : Nat, n = N ∧ N < 18446744073709551616 := ⟨_, rfl, by omega⟩
  have HF : Hid (nrst64 false N 1 0 = fint n) := by
    show _ = _
    unfold fint
    rw [decide_eq_false (by omega), Int.natAbs_natCast, hN]
  obtain ⟨x, hx⟩ : ∃ x : Nat, fint n = x := ⟨_, rfl⟩
  rw [hx] at HF ⊢
  have HO := fhide (fun w : World => nOf N w hNl)
  have hN1 : (N : Int) < 18446744073709551616 := by omega
  clear hNl hx hn 
  subst hN
  go_enter Try.func37, Try.ntmps37
  go_wp2_with fail
  refine (HO.out _).mono ?_
  rintro e w1 ⟨r1, rfl, k1, a1, b1, c1, d1⟩
  have H1 := fhide (And.intro a1 (And.intro b1 (And.intro c1 d1)))
  clear a1 b1 c1 d1
  go_wp2_with fail
  refine (nOf 1 _ (by decide)).mono ?_
  rintro e w2 ⟨r2, rfl, k2, a2, b2, c2, d2⟩
  have HR := fhide (rNearest64 false r1 r2 k1 n k2 1 0 w2 (H1.out.1.below d2) a2 H1.out.2.1 b2 (by decide) (by have := H1.out.2.2.1; omega) (by omega) (by decide))
  have H2 := fhide (H1.out.2.2.2.trans (d2.mono H1.out.2.2.2.size))
  clear a2 b2 c2 d2
  rw [HF.out] at HR
  go_wp2_with fail
  refine HR.out.mono ?_
  rintro e w3 ⟨rfl, d3⟩
  have H3 := fhide (H2.out.trans (d3.mono H2.out.size))
  clear d3
  go_wp2_with fail
  go_ret
  exact ⟨rfl, H3.out⟩
set_option maxRecDepth 100000 in
set_option maxHeartbeats 1000000 in
theorem rFromInt32 (n : Int) (w : World) (hn : -9223372036854775808 ≤ n ∧ n < 9223372036854775808) : Calls Try.prog 39 #[.int .i64 n] w fun e w' => e = .returned (.int .u32 (fint32 n : Nat)) ∧ Below w.heap.size w w' := by
  obtain ⟨N, hN, hNl⟩ : ∃ N : Nat, n.natAbs = N ∧ N < 18446744073709551616 := ⟨_, rfl, by omega⟩
  have HM := fhide (fun w : World => rMagnitude n w hn)
  rw [hN] at HM
  obtain ⟨s, hs⟩ : ∃ s : Bool, decide (n < 0) = s := ⟨_, rfl⟩
  have HF : Hid (nrst32 s N 1 0 = fint32 n) := by show _ = _; unfold fint32; rw [hN, hs]
  have hxl := fint32_lt n
  obtain ⟨x, hx⟩ : ∃ x : Nat, fint32 n = x := ⟨_, rfl⟩
  rw [hx] at hxl HF ⊢
  have hx1 : IntKind.u32.wrap (x : Int) = (x : Int) := by rw [IntKind.wrap_u32]; omega
  have hx2 : (x : Int) % 4294967296 = (x : Int) := by omega
  clear hxl
  have HO := fhide (fun w : World => nOf N w hNl)
  have hN1 : (N : Int) < 18446744073709551616 := by omega
  clear hNl hx hn hN
  by_cases h0 : n < 0
  · rw [decide_eq_true h0] at hs
    subst hs
    go_enter Try.func39, Try.ntmps39
    go_wp2_with fail
    refine (HM.out _).mono ?_
    rintro e w1 ⟨rfl, hw1⟩
    have hw1 := hw1.symm
    subst hw1
    go_wp2_with fail
    refine (HO.out _).mono ?_
    rintro e w1 ⟨r1, rfl, k1, a1, b1, c1, d1⟩
    have H1 := fhide (And.intro a1 (And.intro b1 (And.intro c1 d1)))
    clear a1 b1 c1 d1
    go_wp2_with fail
    refine (nOf 1 _ (by decide)).mono ?_
    rintro e w2 ⟨r2, rfl, k2, a2, b2, c2, d2⟩
    have HR := fhide (rNearest32 true r1 r2 k1 N k2 1 0 w2 (H1.out.1.below d2) a2 H1.out.2.1 b2 (by decide) (by have := H1.out.2.2.1; omega) (by omega) (by decide))
    have H2 := fhide (H1.out.2.2.2.trans (d2.mono H1.out.2.2.2.size))
    clear a2 b2 c2 d2
    rw [HF.out] at HR
    go_wp2_with fail
    refine HR.out.mono ?_
    rintro e w3 ⟨rfl, d3⟩
    have H3 := fhide (H2.out.trans (d3.mono H2.out.size))
    clear d3
    go_wp2_with (simp only [hx1, hx2])
    go_ret
    exact ⟨rfl, H3.out⟩
  · rw [decide_eq_false h0] at hs
    subst hs
    go_enter Try.func39, Try.ntmps39
    go_wp2_with fail
    refine (HM.out _).mono ?_
    rintro e w1 ⟨rfl, hw1⟩
    have hw1 := hw1.symm
    subst hw1
    go_wp2_with fail
    refine (HO.out _).mono ?_
    rintro e w1 ⟨r1, rfl, k1, a1, b1, c1, d1⟩
    have H1 := fhide (And.intro a1 (And.intro b1 (And.intro c1 d1)))
    clear a1 b1 c1 d1
    go_wp2_with fail
    refine (nOf 1 _ (by decide)).mono ?_
    rintro e w2 ⟨r2, rfl, k2, a2, b2, c2, d2⟩
    have HR := fhide (rNearest32 false r1 r2 k1 N k2 1 0 w2 (H1.out.1.below d2) a2 H1.out.2.1 b2 (by decide) (by have := H1.out.2.2.1; omega) (by omega) (by decide))
    have H2 := fhide (H1.out.2.2.2.trans (d2.mono H1.out.2.2.2.size))
    clear a2 b2 c2 d2
    rw [HF.out] at HR
    go_wp2_with fail
    refine HR.out.mono ?_
    rintro e w3 ⟨rfl, d3⟩
    have H3 := fhide (H2.out.trans (d3.mono H2.out.size))
    clear d3
    go_wp2_with (simp only [hx1, hx2])
    go_ret
    exact ⟨rfl, H3.out⟩

end Go.Proofs.Ytdiinhccfifiaaa

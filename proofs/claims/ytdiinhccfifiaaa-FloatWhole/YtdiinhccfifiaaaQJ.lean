/- The document's Round and ToInt. -/
import Derived.Test.YtdiinhccfifiaaaQH
import Derived.Test.YtdiinhccfifiaaaQI
namespace Go.Proofs.Ytdiinhccfifiaaa
open Go.RowKit
open M
set_option linter.unusedVariables false
set_option linter.unusedSimpArgs false

theorem wd_w64 (s : Bool) (R : Nat) : wd64 s R = Ieee.double.word s R := by cases s <;> rfl
theorem nrst_ent (T : Nat) (hT : T = 1074) (s : Bool) (K : Nat) : nrst64 s K 1 0 = Flt.ent T s K := by
  unfold nrst64 Flt.ent
  rw [wd_w64, inf64, show ((0 : Int) + 1074).toNat = T by omega, show (-1074 - (0 : Int)).toNat = 0 by omega, Nat.pow_zero]

/-- A finite number made whole, without its sign. -/
def wk (T m a : Nat) : Nat := Flt.whl m (decide (9223372036854775808 ≤ a)) (Flt.V Ieee.double (a % 9223372036854775808)) (2 ^ T)

theorem rturned (T : Nat) (hT : T = 1074) (b m : Nat) (w : World) (hb : b < 18446744073709551616) (hm : m ≤ 4) : Calls Try.prog 85 #[.int .u64 b, .int .i64 m] w fun e w' => ∃ r, e = .returned r ∧ (∃ k, Row w' r k (wk T m b) ∧ Nrm k (wk T m b) ∧ k ≤ 40) ∧ Below w.heap.size w w' := by
  have hc : m = 0 ∨ m = 1 ∨ m = 2 ∨ m = 3 ∨ m = 4 := by omega
  rcases hc with rfl | rfl | rfl | rfl | rfl
  · exact rturned0 T hT b w hb
  · exact rturned1 T hT b w hb
  · exact rturned2 T hT b w hb
  · exact rturned3 T hT b w hb
  · exact rturned4 T hT b w hb
theorem rndv_fin (T : Nat) (m a : Nat) (ha : a < 18446744073709551616) (h : a % 9223372036854775808 < 9218868437227405312) : rndv T m a = Flt.ent T (decide (9223372036854775808 ≤ a)) (wk T m a) := by
  unfold rndv wk
  rw [if_neg (by omega), if_neg (by omega), sg64 a ha, rg64]
theorem wz_fin (T : Nat) (m a : Nat) (ha : a < 18446744073709551616) : wz T m a = if decide (9223372036854775808 ≤ a) then -((wk T m a : Nat) : Int) else ((wk T m a : Nat) : Int) := by
  unfold wz wk
  rw [sg64 a ha, rg64]

set_option maxRecDepth 100000 in
set_option maxHeartbeats 1000000 in
theorem rRoundM_bad (a : Nat) (mode : Int) (w : World) (hm : mode < 0 ∨ 4 < mode) : Calls Try.prog 44 #[.int .u64 a, .int .i64 mode] w fun e w' => e = .returned (.tuple #[.int .u64 0, .int .i64 31]) ∧ w' = w := by
  rcases hm with h | h
  · go_enter Try.func44, Try.ntmps44
    go_wp2_with fail
    go_ret2
    exact ⟨rfl, rfl⟩
  · have h2 : ¬ mode < 0 := by omega
    go_enter Try.func44, Try.ntmps44
    go_wp2_with fail
    go_ret2
    exact ⟨rfl, rfl⟩
set_option maxRecDepth 100000 in
set_option maxHeartbeats 1000000 in
theorem rToInt_bad (a : Nat) (mode : Int) (w : World) (hm : mode < 0 ∨ 4 < mode) : Calls Try.prog 41 #[.int .u64 a, .int .i64 mode] w fun e w' => e = .returned (.tuple #[.int .i64 0, .int .i64 31]) ∧ w' = w := by
  rcases hm with h | h
  · go_enter Try.func41, Try.ntmps41
    go_wp2_with fail
    go_ret2
    exact ⟨rfl, rfl⟩
  · have h2 : ¬ mode < 0 := by omega
    go_enter Try.func41, Try.ntmps41
    go_wp2_with fail
    go_ret2
    exact ⟨rfl, rfl⟩
set_option maxRecDepth 100000 in
set_option maxHeartbeats 1000000 in
theorem rRoundM_any (T : Nat) (hT : T = 1074) (a m : Nat) (w : World) (ha : a < 18446744073709551616) (hm : m ≤ 4) : Calls Try.prog 44 #[.int .u64 a, .int .i64 m] w fun e w' => e = .returned (.tuple #[.int .u64 (rndv T m a : Nat), .int .i64 0]) ∧ Below w.heap.size w w' := by
  have HN := fhide (fun w : World => rIsNan64 a w ha)
  have HI := fhide (fun w : World => rIsInf64 a w ha)
  have HG := fhide (fun w : World => rNeg64 a w ha)
  have HU := fhide (fun w : World => rturned T hT a m w ha hm)
  have hm1 : ¬ (m : Int) < 0 := by omega
  have hm2 : ¬ (4 : Int) < (m : Int) := by omega
  rcases Nat.lt_trichotomy (a % 9223372036854775808) 9218868437227405312 with c | c | c
  · rw [rndv_fin T m a ha c, ← nrst_ent T hT]
    rw [decide_eq_false (by omega)] at HN HI
    generalize wk T m a = K at *
    generalize decide (9223372036854775808 ≤ a) = s at *
    obtain ⟨out, ho⟩ : ∃ out : Nat, nrst64 s K 1 0 = out := ⟨_, rfl⟩
    rw [ho]
    have HO := fhide ho
    clear ha hm hT c ho
    go_enter Try.func44, Try.ntmps44
    go_wp2_with fail
    refine (HN.out _).mono ?_
    rintro e w1 ⟨rfl, hw1⟩
    have hw1 := hw1.symm
    subst hw1
    go_wp2_with fail
    refine (HI.out _).mono ?_
    rintro e w1 ⟨rfl, hw1⟩
    have hw1 := hw1.symm
    subst hw1
    go_wp2_with fail
    refine (HG.out _).mono ?_
    rintro e w1 ⟨rfl, hw1⟩
    have hw1 := hw1.symm
    subst hw1
    go_wp2_with fail
    refine (HU.out _).mono ?_
    rintro e w1 ⟨r, rfl, ⟨k, h1, h2, h3⟩, h4⟩
    have H1 := fhide (And.intro h1 (And.intro h2 (And.intro h3 h4)))
    clear h1 h2 h3 h4
    go_wp2_with fail
    refine (nOf 1 _ (by decide)).mono ?_
    rintro e w2 ⟨r2, rfl, k2, a2, b2, c2, d2⟩
    have HR := fhide (rNearest64 s r r2 k K k2 1 0 w2 (H1.out.1.below d2) a2 H1.out.2.1 b2 (by decide) (by have := H1.out.2.2.1; omega) (by omega) (by decide))
    have H2 := fhide (H1.out.2.2.2.trans (d2.mono H1.out.2.2.2.size))
    clear a2 b2 c2 d2
    rw [HO.out] at HR
    go_wp2_with fail
    refine HR.out.mono ?_
    rintro e w3 ⟨rfl, d3⟩
    have H3 := fhide (H2.out.trans (d3.mono H2.out.size))
    clear d3
    go_wp2_with fail
    go_ret2
    exact ⟨rfl, H3.out⟩
  · rw [show rndv T m a = a by unfold rndv; rw [if_neg (by omega), if_pos c]]
    rw [decide_eq_false (by omega)] at HN
    rw [decide_eq_true c] at HI
    clear ha hm hT c HG HU
    go_enter Try.func44, Try.ntmps44
    go_wp2_with fail
    refine (HN.out _).mono ?_
    rintro e w1 ⟨rfl, hw1⟩
    have hw1 := hw1.symm
    subst hw1
    go_wp2_with fail
    refine (HI.out _).mono ?_
    rintro e w1 ⟨rfl, hw1⟩
    have hw1 := hw1.symm
    subst hw1
    go_wp2_with fail
    go_ret2
    exact ⟨rfl, Below.refl _ _⟩
  · rw [show rndv T m a = 9221120237041090560 by unfold rndv; rw [if_pos c]]
    rw [decide_eq_true c] at HN
    clear ha hm hT c HG HU HI
    go_enter Try.func44, Try.ntmps44
    go_wp2_with fail
    refine (HN.out _).mono ?_
    rintro e w1 ⟨rfl, hw1⟩
    have hw1 := hw1.symm
    subst hw1
    go_wp2_with fail
    go_ret2
    exact ⟨rfl, Below.refl _ _⟩
set_option maxRecDepth 100000 in
set_option maxHeartbeats 1000000 in
theorem rToInt_inf (a m : Nat) (w : World) (ha : a < 18446744073709551616) (hm : m ≤ 4) (hf : ¬ a % 9223372036854775808 < 9218868437227405312) : Calls Try.prog 41 #[.int .u64 a, .int .i64 m] w fun e w' => e = .returned (.tuple #[.int .i64 0, .int .i64 30]) ∧ Below w.heap.size w w' := by
  have HN := fhide (fun w : World => rFinite64 a w ha)
  have hm1 : ¬ (m : Int) < 0 := by omega
  have hm2 : ¬ (4 : Int) < (m : Int) := by omega
  rw [decide_eq_false hf] at HN
  clear ha hm hf
  go_enter Try.func41, Try.ntmps41
  go_wp2_with fail
  refine (HN.out _).mono ?_
  rintro e w1 ⟨rfl, hw1⟩
  have hw1 := hw1.symm
  subst hw1
  go_wp2_with fail
  go_ret2
  exact ⟨rfl, Below.refl _ _⟩
set_option maxRecDepth 100000 in
set_option maxHeartbeats 1000000 in
theorem rToInt_fin (T : Nat) (hT : T = 1074) (a m : Nat) (w : World) (ha : a < 18446744073709551616) (hm : m ≤ 4) (hf : a % 9223372036854775808 < 9218868437227405312) : Calls Try.prog 41 #[.int .u64 a, .int .i64 m] w fun e w' => (if -9223372036854775808 ≤ wz T m a ∧ wz T m a < 9223372036854775808 then e = .returned (.tuple #[.int .i64 (wz T m a), .int .i64 0]) else e = .returned (.tuple #[.int .i64 0, .int .i64 30])) ∧ Below w.heap.size w w' := by
  have HN := fhide (fun w : World => rFinite64 a w ha)
  have HG := fhide (fun w : World => rNeg64 a w ha)
  have HU := fhide (fun w : World => rturned T hT a m w ha hm)
  have hm1 : ¬ (m : Int) < 0 := by omega
  have hm2 : ¬ (4 : Int) < (m : Int) := by omega
  rw [decide_eq_true hf] at HN
  rw [wz_fin T m a ha]
  generalize wk T m a = K at *
  generalize decide (9223372036854775808 ≤ a) = s at *
  clear ha hm hf hT
  cases s
  · simp only [Bool.false_eq_true, if_false]
    by_cases hK : K ≤ 9223372036854775807
    · have hI : (-9223372036854775808 ≤ (K : Int) ∧ (K : Int) < 9223372036854775808) := by omega
      simp only [if_pos hI]
      clear hI
      have hL : K % 18446744073709551616 = K := by omega
      have hw2 : IntKind.i64.wrap (K : Int) = (K : Int) := by rw [IntKind.wrap_i64]; omega
      have hC : ¬ 0 < M.cmpI K 9223372036854775807 := by unfold M.cmpI; split <;> (try split) <;> omega
      go_enter Try.func41, Try.ntmps41
      go_wp2_with fail
      refine (HN.out _).mono ?_
      rintro e w1 ⟨rfl, hw1⟩
      have hw1 := hw1.symm
      subst hw1
      go_wp2_with fail
      refine (HU.out _).mono ?_
      rintro e w1 ⟨r, rfl, ⟨k, h1, h2, h3⟩, h4⟩
      have H1 := fhide (And.intro h1 (And.intro h2 (And.intro h3 h4)))
      clear h1 h2 h3 h4
      go_wp2_with fail
      refine (nOf 9223372036854775807 _ (by decide)).mono ?_
      rintro e w2 ⟨r2, rfl, k2, a2, b2, c2, d2⟩
      have H2 := fhide (And.intro a2 (And.intro b2 (And.intro (H1.out.1.below d2) (H1.out.2.2.2.trans (d2.mono H1.out.2.2.2.size)))))
      clear a2 b2 c2 d2
      go_wp2_with fail
      refine (HG.out _).mono ?_
      rintro e w3 ⟨rfl, hw1⟩
      have hw1 := hw1.symm
      subst hw1
      have HC := fhide (nCmp r r2 k K _ 9223372036854775807 w2 H2.out.2.2.1 H2.out.1 H1.out.2.1 H2.out.2.1)
      generalize M.cmpI K 9223372036854775807 = cc at *
      go_wp2_with fail
      refine HC.out.mono ?_
      rintro e w5 ⟨rfl, q, hq⟩
      subst hq
      have HL := fhide (nLow64 r k K (w2.drewN q) (H2.out.2.2.1.drewN q))
      rw [hL] at HL
      go_wp2_with fail
      refine (HG.out _).mono ?_
      rintro e w6 ⟨rfl, hw1⟩
      have hw1 := hw1.symm
      subst hw1
      go_wp2_with fail
      refine HL.out.mono ?_
      rintro e w6 ⟨rfl, hw1⟩
      have hw1 := hw1.symm
      subst hw1
      go_wp2_with (simp only [hw2])
      go_ret2
      exact ⟨rfl, below_drewN H2.out.2.2.2 q⟩
    · have hI : ¬ (-9223372036854775808 ≤ (K : Int) ∧ (K : Int) < 9223372036854775808) := by omega
      simp only [if_neg hI]
      clear hI
      have hC : 0 < M.cmpI K 9223372036854775807 := by unfold M.cmpI; split <;> (try split) <;> omega
      go_enter Try.func41, Try.ntmps41
      go_wp2_with fail
      refine (HN.out _).mono ?_
      rintro e w1 ⟨rfl, hw1⟩
      have hw1 := hw1.symm
      subst hw1
      go_wp2_with fail
      refine (HU.out _).mono ?_
      rintro e w1 ⟨r, rfl, ⟨k, h1, h2, h3⟩, h4⟩
      have H1 := fhide (And.intro h1 (And.intro h2 (And.intro h3 h4)))
      clear h1 h2 h3 h4
      go_wp2_with fail
      refine (nOf 9223372036854775807 _ (by decide)).mono ?_
      rintro e w2 ⟨r2, rfl, k2, a2, b2, c2, d2⟩
      have H2 := fhide (And.intro a2 (And.intro b2 (And.intro (H1.out.1.below d2) (H1.out.2.2.2.trans (d2.mono H1.out.2.2.2.size)))))
      clear a2 b2 c2 d2
      go_wp2_with fail
      refine (HG.out _).mono ?_
      rintro e w3 ⟨rfl, hw1⟩
      have hw1 := hw1.symm
      subst hw1
      have HC := fhide (nCmp r r2 k K _ 9223372036854775807 w2 H2.out.2.2.1 H2.out.1 H1.out.2.1 H2.out.2.1)
      generalize M.cmpI K 9223372036854775807 = cc at *
      go_wp2_with fail
      refine HC.out.mono ?_
      rintro e w5 ⟨rfl, q, hq⟩
      subst hq
      go_wp2_with fail
      go_ret2
      exact ⟨rfl, below_drewN H2.out.2.2.2 q⟩
  · simp only [if_true]
    by_cases hK : K ≤ 9223372036854775808
    · have hI : (-9223372036854775808 ≤ -(K : Int) ∧ -(K : Int) < 9223372036854775808) := by omega
      simp only [if_pos hI]
      clear hI
      have hL : K % 18446744073709551616 = K := by omega
      have hw2 : wrap64 (IntKind.u64.wrap (-(K : Int))) = -(K : Int) := by rw [IntKind.wrap_u64]; unfold wrap64; omega
      have hC : ¬ 0 < M.cmpI K 9223372036854775808 := by unfold M.cmpI; split <;> (try split) <;> omega
      go_enter Try.func41, Try.ntmps41
      go_wp2_with fail
      refine (HN.out _).mono ?_
      rintro e w1 ⟨rfl, hw1⟩
      have hw1 := hw1.symm
      subst hw1
      go_wp2_with fail
      refine (HU.out _).mono ?_
      rintro e w1 ⟨r, rfl, ⟨k, h1, h2, h3⟩, h4⟩
      have H1 := fhide (And.intro h1 (And.intro h2 (And.intro h3 h4)))
      clear h1 h2 h3 h4
      go_wp2_with fail
      refine (nOf 9223372036854775807 _ (by decide)).mono ?_
      rintro e w2 ⟨r2, rfl, k2, a2, b2, c2, d2⟩
      have H2 := fhide (And.intro a2 (And.intro b2 (And.intro (H1.out.1.below d2) (H1.out.2.2.2.trans (d2.mono H1.out.2.2.2.size)))))
      clear a2 b2 c2 d2
      go_wp2_with fail
      refine (HG.out _).mono ?_
      rintro e w3 ⟨rfl, hw1⟩
      have hw1 := hw1.symm
      subst hw1
      go_wp2_with fail
      refine (nOf 9223372036854775808 _ (by decide)).mono ?_
      rintro e w3 ⟨r3, rfl, k3, a3, b3, c3, d3⟩
      have H3 := fhide (And.intro a3 (And.intro b3 (And.intro (H2.out.2.2.1.below d3) (H2.out.2.2.2.trans (d3.mono H2.out.2.2.2.size)))))
      clear a3 b3 c3 d3
      have HC := fhide (nCmp r r3 k K _ 9223372036854775808 w3 H3.out.2.2.1 H3.out.1 H1.out.2.1 H3.out.2.1)
      generalize M.cmpI K 9223372036854775808 = cc at *
      go_wp2_with fail
      refine HC.out.mono ?_
      rintro e w5 ⟨rfl, q, hq⟩
      subst hq
      have HL := fhide (nLow64 r k K (w3.drewN q) (H3.out.2.2.1.drewN q))
      rw [hL] at HL
      go_wp2_with fail
      refine (HG.out _).mono ?_
      rintro e w6 ⟨rfl, hw1⟩
      have hw1 := hw1.symm
      subst hw1
      go_wp2_with fail
      refine HL.out.mono ?_
      rintro e w6 ⟨rfl, hw1⟩
      have hw1 := hw1.symm
      subst hw1
      go_wp2_with (simp only [hw2])
      go_ret2
      exact ⟨rfl, below_drewN H3.out.2.2.2 q⟩
    · have hI : ¬ (-9223372036854775808 ≤ -(K : Int) ∧ -(K : Int) < 9223372036854775808) := by omega
      simp only [if_neg hI]
      clear hI
      have hC : 0 < M.cmpI K 9223372036854775808 := by unfold M.cmpI; split <;> (try split) <;> omega
      go_enter Try.func41, Try.ntmps41
      go_wp2_with fail
      refine (HN.out _).mono ?_
      rintro e w1 ⟨rfl, hw1⟩
      have hw1 := hw1.symm
      subst hw1
      go_wp2_with fail
      refine (HU.out _).mono ?_
      rintro e w1 ⟨r, rfl, ⟨k, h1, h2, h3⟩, h4⟩
      have H1 := fhide (And.intro h1 (And.intro h2 (And.intro h3 h4)))
      clear h1 h2 h3 h4
      go_wp2_with fail
      refine (nOf 9223372036854775807 _ (by decide)).mono ?_
      rintro e w2 ⟨r2, rfl, k2, a2, b2, c2, d2⟩
      have H2 := fhide (And.intro a2 (And.intro b2 (And.intro (H1.out.1.below d2) (H1.out.2.2.2.trans (d2.mono H1.out.2.2.2.size)))))
      clear a2 b2 c2 d2
      go_wp2_with fail
      refine (HG.out _).mono ?_
      rintro e w3 ⟨rfl, hw1⟩
      have hw1 := hw1.symm
      subst hw1
      go_wp2_with fail
      refine (nOf 9223372036854775808 _ (by decide)).mono ?_
      rintro e w3 ⟨r3, rfl, k3, a3, b3, c3, d3⟩
      have H3 := fhide (And.intro a3 (And.intro b3 (And.intro (H2.out.2.2.1.below d3) (H2.out.2.2.2.trans (d3.mono H2.out.2.2.2.size)))))
      clear a3 b3 c3 d3
      have HC := fhide (nCmp r r3 k K _ 9223372036854775808 w3 H3.out.2.2.1 H3.out.1 H1.out.2.1 H3.out.2.1)
      generalize M.cmpI K 9223372036854775808 = cc at *
      go_wp2_with fail
      refine HC.out.mono ?_
      rintro e w5 ⟨rfl, q, hq⟩
      subst hq
      go_wp2_with fail
      go_ret2
      exact ⟨rfl, below_drewN H3.out.2.2.2 q⟩

end Go.Proofs.Ytdiinhccfifiaaa

/- The document's together: two finite numbers' exact sum. -/
import Derived.Test.YtmkploknoohliaaGreatNV
import Derived.Test.YtmkploknoohliaaGreatNL
import Derived.Test.YtmkploknoohliaaGreatRB
namespace Go.Proofs.YtmkploknoohliaaGreat
open Go.RowKit
open M
open Ieee (signed)
set_option linter.unusedVariables false
set_option linter.unusedSimpArgs false

theorem signed_pos (m : Nat) : signed false m 0 = (m : Int) := by unfold signed; simp
theorem signed_neg (m : Nat) : signed true m 0 = -(m : Int) := by unfold signed; simp

theorem cmp_ge {A C : Nat} (h : C ≤ A) : (0 : Int) ≤ M.cmpI A C := by
  unfold M.cmpI
  rw [if_neg (by omega)]; split <;> omega
theorem cmp_lt' {A C : Nat} (h : A < C) : ¬ (0 : Int) ≤ M.cmpI A C := by
  unfold M.cmpI
  rw [if_pos h]; omega

/-- What together tells of two numbers X, Y in common units. -/
def Tog (n1 n2 : Bool) (X Y : Nat) (neg : Bool) (z : Int) : Prop := z = signed n1 X 0 + signed n2 Y 0 ∧ (z ≠ 0 → neg = decide (z < 0))

set_option maxRecDepth 100000 in
set_option maxHeartbeats 4000000 in
theorem rtogether (n1 n2 : Bool) (v1 v2 : Value) (k1 m1 k2 m2 : Nat) (e1 e2 : Int) (w : World) (h1 : Row w v1 k1 m1) (h2 : Row w v2 k2 m2) (hn1 : Nrm k1 m1) (hn2 : Nrm k2 m2) (hk1 : k1 ≤ 500) (hk2 : k2 ≤ 500) (he1 : -10000 ≤ e1 ∧ e1 ≤ 10000) (he2 : -10000 ≤ e2 ∧ e2 ≤ 10000) :
    Calls Tryz.prog 75 #[.bool n1, v1, .int .i64 e1, .bool n2, v2, .int .i64 e2] w fun e w' => ∃ (neg : Bool) (r : Value) (z : Int), e = .returned (.tuple #[.bool neg, r, .int .i64 (min e1 e2)]) ∧ Tog n1 n2 (m1 * 2 ^ (e1 - min e1 e2).toNat) (m2 * 2 ^ (e2 - min e1 e2).toNat) neg z ∧ (∃ k, Row w' r k z.natAbs ∧ Nrm k z.natAbs ∧ k ≤ 1500) ∧ Below w.heap.size w w' := by
  have HU : Hid (∀ (w1 : World) (r : Value) (k N n : Nat) (i : Int), Row w1 r k N → k ≤ 500 → n ≤ 20000 → i = (n : Int) → Calls Tryz.prog 95 #[r, .int .i64 i] w1 fun e w' => ∃ r, e = .returned r ∧ (∃ k, Row w' r k (N * 2 ^ n) ∧ Nrm k (N * 2 ^ n) ∧ k ≤ 1200) ∧ Below w1.heap.size w1 w') := by
    intro w1 r k N n i hr hk hn hi
    subst hi
    refine (nUp2 r k N n w1 hr (by omega) (by omega)).mono ?_
    rintro e w' ⟨r, rfl, k2, a1, a2, a3, a4⟩
    exact ⟨r, rfl, ⟨k2, a1, a2, by omega⟩, a4⟩
  have HL : Hid (∀ (w1 : World) (r s : Value) (k A m C : Nat), Row w1 r k A → Row w1 s m C → Nrm k A → Nrm m C → k ≤ 1200 → C ≤ A → Calls Tryz.prog 102 #[r, s] w1 fun e w' => ∃ r, e = .returned r ∧ (∃ k, Row w' r k (A - C) ∧ Nrm k (A - C) ∧ k ≤ 1500) ∧ Below w1.heap.size w1 w') := by
    intro w1 r s k A m C hr hs hnr hns hk hle
    refine (nLess r s k A m C w1 hr hs (nrm_len hnr hns hle) hle (by omega)).mono ?_
    rintro e w' ⟨r, rfl, n, a1, a2, a3, a4⟩
    exact ⟨r, rfl, ⟨n, a1.row, a2, by omega⟩, a4⟩
  have HS : Hid (∀ (w1 : World) (r s : Value) (k A m C : Nat), Row w1 r k A → Row w1 s m C → k ≤ 1200 → m ≤ 1200 → Calls Tryz.prog 98 #[r, s] w1 fun e w' => ∃ r, e = .returned r ∧ (∃ k, Row w' r k (A + C) ∧ Nrm k (A + C) ∧ k ≤ 1500) ∧ Below w1.heap.size w1 w') := by
    intro w1 r s k A m C hr hs hk hm
    refine (nSum r s k A m C w1 hr hs (by omega) (by omega)).mono ?_
    rintro e w' ⟨r, rfl, n, a1, a2, a3, a4⟩
    exact ⟨r, rfl, ⟨n, a1, a2, by omega⟩, a4⟩
  have HR := hide (And.intro h1 h2)
  have HK := hide (And.intro hk1 hk2)
  have HN := hide (And.intro hn1 hn2)
  clear h1 h2 hn1 hn2 hk1 hk2
  rcases Int.lt_or_le e2 e1 with hc | hc
  · have hmin : min e1 e2 = e2 := by omega
    obtain ⟨d, hd⟩ : ∃ d : Nat, e1 - e2 = (d : Int) := ⟨(e1 - e2).toNat, by omega⟩
    rw [hmin, show (e1 - e2).toNat = d by omega, show (e2 - e2).toNat = 0 by omega]
    have hd2 : d ≤ 20000 := by omega
    have hz : e2 - e2 = 0 := by omega
    generalize hA : m1 * 2 ^ d = A at *
    generalize hC : m2 * 2 ^ 0 = C at *
    clear hmin
    have HAC := hide (And.intro hA hC)
    have HD2 := hide hd2
    clear hA hC hd2
    cases n1 <;> cases n2
    · go_enter Tryz.func75, Tryz.ntmps75
      go_wp2_with (simp only [hd])
      refine (HU.out w v1 k1 m1 d _ HR.out.1 HK.out.1 HD2.out (by omega)).mono ?_
      rintro e w1 ⟨r1, rfl, ⟨p1, q1, q2, q3⟩, hb1⟩
      rw [HAC.out.1] at q1 q2
      have H1 := hide (And.intro q1 (And.intro q2 (And.intro q3 hb1)))
      clear q1 q2 q3 hb1
      go_wp2_with (simp only [hz])
      refine (HU.out w1 v2 k2 m2 0 _ (HR.out.2.below H1.out.2.2.2) HK.out.2 (by omega) (by omega)).mono ?_
      rintro e w2 ⟨r2, rfl, ⟨p2, q1, q2, q3⟩, hb2⟩
      rw [HAC.out.2] at q1 q2
      have H2 := hide (And.intro q1 (And.intro q2 (And.intro q3 (And.intro (H1.out.1.below hb2) (H1.out.2.2.2.trans (hb2.mono H1.out.2.2.2.size))))))
      clear q1 q2 q3 hb2
      go_wp2_with fail
      refine (HS.out w2 r1 r2 p1 A p2 C H2.out.2.2.2.1 H2.out.1 H1.out.2.2.1 H2.out.2.2.1).mono ?_
      rintro e w4 ⟨r4, rfl, ⟨p4, q1, q2, q3⟩, hb4⟩
      have H4 := hide (And.intro q1 (And.intro q2 (And.intro q3 hb4)))
      clear q1 q2 q3 hb4
      go_wp2_with fail
      go_ret3
      have ez : ((A : Int) + (C : Int) : Int).natAbs = A + C := by omega
      refine ⟨false, r4, (A : Int) + (C : Int), rfl, ⟨by simp only [signed_pos, signed_neg], fun hne => ?_⟩, ⟨p4, by rw [ez]; exact H4.out.1, by rw [ez]; exact H4.out.2.1, H4.out.2.2.1⟩, H2.out.2.2.2.2.trans (H4.out.2.2.2.mono H2.out.2.2.2.2.size)⟩
      rw [decide_eq_false (by omega)]
    · rcases Nat.lt_or_ge A C with hle | hle
      · have hcmp := cmp_lt' hle
        have Hle := hide hle
        clear hle
        go_enter Tryz.func75, Tryz.ntmps75
        go_wp2_with (simp only [hd])
        refine (HU.out w v1 k1 m1 d _ HR.out.1 HK.out.1 HD2.out (by omega)).mono ?_
        rintro e w1 ⟨r1, rfl, ⟨p1, q1, q2, q3⟩, hb1⟩
        rw [HAC.out.1] at q1 q2
        have H1 := hide (And.intro q1 (And.intro q2 (And.intro q3 hb1)))
        clear q1 q2 q3 hb1
        go_wp2_with (simp only [hz])
        refine (HU.out w1 v2 k2 m2 0 _ (HR.out.2.below H1.out.2.2.2) HK.out.2 (by omega) (by omega)).mono ?_
        rintro e w2 ⟨r2, rfl, ⟨p2, q1, q2, q3⟩, hb2⟩
        rw [HAC.out.2] at q1 q2
        have H2 := hide (And.intro q1 (And.intro q2 (And.intro q3 (And.intro (H1.out.1.below hb2) (H1.out.2.2.2.trans (hb2.mono H1.out.2.2.2.size))))))
        clear q1 q2 q3 hb2
        go_wp2_with fail
        refine (nCmp r1 r2 p1 A p2 C w2 H2.out.2.2.2.1 H2.out.1 H1.out.2.1 H2.out.2.1).mono ?_
        rintro e w3 ⟨rfl, n3, hw3⟩
        have B3 : Below w2.heap.size w2 w3 := by rw [hw3]; exact ⟨rfl, rfl, rfl, Nat.le_refl _, fun _ _ => rfl⟩
        have H3 := hide B3
        clear B3 hw3
        generalize M.cmpI A C = cc at *
        go_wp2_with fail
        refine (HL.out w3 r2 r1 p2 C p1 A (H2.out.1.below H3.out) (H2.out.2.2.2.1.below H3.out) H2.out.2.1 H1.out.2.1 H2.out.2.2.1 (Nat.le_of_lt Hle.out)).mono ?_
        rintro e w4 ⟨r4, rfl, ⟨p4, q1, q2, q3⟩, hb4⟩
        have H4 := hide (And.intro q1 (And.intro q2 (And.intro q3 hb4)))
        clear q1 q2 q3 hb4
        go_wp2_with fail
        go_ret3
        have ez : ((A : Int) + -(C : Int) : Int).natAbs = C - A := by have := Hle.out; omega
        refine ⟨true, r4, (A : Int) + -(C : Int), rfl, ⟨by simp only [signed_pos, signed_neg], fun hne => ?_⟩, ⟨p4, by rw [ez]; exact H4.out.1, by rw [ez]; exact H4.out.2.1, H4.out.2.2.1⟩, (H2.out.2.2.2.2.trans (H3.out.mono H2.out.2.2.2.2.size)).trans (H4.out.2.2.2.mono (H2.out.2.2.2.2.trans (H3.out.mono H2.out.2.2.2.2.size)).size)⟩
        have := Hle.out
        rw [decide_eq_true (by omega)]
      · have hcmp := cmp_ge hle
        have Hle := hide hle
        clear hle
        go_enter Tryz.func75, Tryz.ntmps75
        go_wp2_with (simp only [hd])
        refine (HU.out w v1 k1 m1 d _ HR.out.1 HK.out.1 HD2.out (by omega)).mono ?_
        rintro e w1 ⟨r1, rfl, ⟨p1, q1, q2, q3⟩, hb1⟩
        rw [HAC.out.1] at q1 q2
        have H1 := hide (And.intro q1 (And.intro q2 (And.intro q3 hb1)))
        clear q1 q2 q3 hb1
        go_wp2_with (simp only [hz])
        refine (HU.out w1 v2 k2 m2 0 _ (HR.out.2.below H1.out.2.2.2) HK.out.2 (by omega) (by omega)).mono ?_
        rintro e w2 ⟨r2, rfl, ⟨p2, q1, q2, q3⟩, hb2⟩
        rw [HAC.out.2] at q1 q2
        have H2 := hide (And.intro q1 (And.intro q2 (And.intro q3 (And.intro (H1.out.1.below hb2) (H1.out.2.2.2.trans (hb2.mono H1.out.2.2.2.size))))))
        clear q1 q2 q3 hb2
        go_wp2_with fail
        refine (nCmp r1 r2 p1 A p2 C w2 H2.out.2.2.2.1 H2.out.1 H1.out.2.1 H2.out.2.1).mono ?_
        rintro e w3 ⟨rfl, n3, hw3⟩
        have B3 : Below w2.heap.size w2 w3 := by rw [hw3]; exact ⟨rfl, rfl, rfl, Nat.le_refl _, fun _ _ => rfl⟩
        have H3 := hide B3
        clear B3 hw3
        generalize M.cmpI A C = cc at *
        go_wp2_with fail
        refine (HL.out w3 r1 r2 p1 A p2 C (H2.out.2.2.2.1.below H3.out) (H2.out.1.below H3.out) H1.out.2.1 H2.out.2.1 H1.out.2.2.1 Hle.out).mono ?_
        rintro e w4 ⟨r4, rfl, ⟨p4, q1, q2, q3⟩, hb4⟩
        have H4 := hide (And.intro q1 (And.intro q2 (And.intro q3 hb4)))
        clear q1 q2 q3 hb4
        go_wp2_with fail
        go_ret3
        have ez : ((A : Int) + -(C : Int) : Int).natAbs = A - C := by have := Hle.out; omega
        refine ⟨false, r4, (A : Int) + -(C : Int), rfl, ⟨by simp only [signed_pos, signed_neg], fun hne => ?_⟩, ⟨p4, by rw [ez]; exact H4.out.1, by rw [ez]; exact H4.out.2.1, H4.out.2.2.1⟩, (H2.out.2.2.2.2.trans (H3.out.mono H2.out.2.2.2.2.size)).trans (H4.out.2.2.2.mono (H2.out.2.2.2.2.trans (H3.out.mono H2.out.2.2.2.2.size)).size)⟩
        have := Hle.out
        rw [decide_eq_false (by omega)]
    · rcases Nat.lt_or_ge A C with hle | hle
      · have hcmp := cmp_lt' hle
        have Hle := hide hle
        clear hle
        go_enter Tryz.func75, Tryz.ntmps75
        go_wp2_with (simp only [hd])
        refine (HU.out w v1 k1 m1 d _ HR.out.1 HK.out.1 HD2.out (by omega)).mono ?_
        rintro e w1 ⟨r1, rfl, ⟨p1, q1, q2, q3⟩, hb1⟩
        rw [HAC.out.1] at q1 q2
        have H1 := hide (And.intro q1 (And.intro q2 (And.intro q3 hb1)))
        clear q1 q2 q3 hb1
        go_wp2_with (simp only [hz])
        refine (HU.out w1 v2 k2 m2 0 _ (HR.out.2.below H1.out.2.2.2) HK.out.2 (by omega) (by omega)).mono ?_
        rintro e w2 ⟨r2, rfl, ⟨p2, q1, q2, q3⟩, hb2⟩
        rw [HAC.out.2] at q1 q2
        have H2 := hide (And.intro q1 (And.intro q2 (And.intro q3 (And.intro (H1.out.1.below hb2) (H1.out.2.2.2.trans (hb2.mono H1.out.2.2.2.size))))))
        clear q1 q2 q3 hb2
        go_wp2_with fail
        refine (nCmp r1 r2 p1 A p2 C w2 H2.out.2.2.2.1 H2.out.1 H1.out.2.1 H2.out.2.1).mono ?_
        rintro e w3 ⟨rfl, n3, hw3⟩
        have B3 : Below w2.heap.size w2 w3 := by rw [hw3]; exact ⟨rfl, rfl, rfl, Nat.le_refl _, fun _ _ => rfl⟩
        have H3 := hide B3
        clear B3 hw3
        generalize M.cmpI A C = cc at *
        go_wp2_with fail
        refine (HL.out w3 r2 r1 p2 C p1 A (H2.out.1.below H3.out) (H2.out.2.2.2.1.below H3.out) H2.out.2.1 H1.out.2.1 H2.out.2.2.1 (Nat.le_of_lt Hle.out)).mono ?_
        rintro e w4 ⟨r4, rfl, ⟨p4, q1, q2, q3⟩, hb4⟩
        have H4 := hide (And.intro q1 (And.intro q2 (And.intro q3 hb4)))
        clear q1 q2 q3 hb4
        go_wp2_with fail
        go_ret3
        have ez : (-(A : Int) + (C : Int) : Int).natAbs = C - A := by have := Hle.out; omega
        refine ⟨false, r4, -(A : Int) + (C : Int), rfl, ⟨by simp only [signed_pos, signed_neg], fun hne => ?_⟩, ⟨p4, by rw [ez]; exact H4.out.1, by rw [ez]; exact H4.out.2.1, H4.out.2.2.1⟩, (H2.out.2.2.2.2.trans (H3.out.mono H2.out.2.2.2.2.size)).trans (H4.out.2.2.2.mono (H2.out.2.2.2.2.trans (H3.out.mono H2.out.2.2.2.2.size)).size)⟩
        have := Hle.out
        rw [decide_eq_false (by omega)]
      · have hcmp := cmp_ge hle
        have Hle := hide hle
        clear hle
        go_enter Tryz.func75, Tryz.ntmps75
        go_wp2_with (simp only [hd])
        refine (HU.out w v1 k1 m1 d _ HR.out.1 HK.out.1 HD2.out (by omega)).mono ?_
        rintro e w1 ⟨r1, rfl, ⟨p1, q1, q2, q3⟩, hb1⟩
        rw [HAC.out.1] at q1 q2
        have H1 := hide (And.intro q1 (And.intro q2 (And.intro q3 hb1)))
        clear q1 q2 q3 hb1
        go_wp2_with (simp only [hz])
        refine (HU.out w1 v2 k2 m2 0 _ (HR.out.2.below H1.out.2.2.2) HK.out.2 (by omega) (by omega)).mono ?_
        rintro e w2 ⟨r2, rfl, ⟨p2, q1, q2, q3⟩, hb2⟩
        rw [HAC.out.2] at q1 q2
        have H2 := hide (And.intro q1 (And.intro q2 (And.intro q3 (And.intro (H1.out.1.below hb2) (H1.out.2.2.2.trans (hb2.mono H1.out.2.2.2.size))))))
        clear q1 q2 q3 hb2
        go_wp2_with fail
        refine (nCmp r1 r2 p1 A p2 C w2 H2.out.2.2.2.1 H2.out.1 H1.out.2.1 H2.out.2.1).mono ?_
        rintro e w3 ⟨rfl, n3, hw3⟩
        have B3 : Below w2.heap.size w2 w3 := by rw [hw3]; exact ⟨rfl, rfl, rfl, Nat.le_refl _, fun _ _ => rfl⟩
        have H3 := hide B3
        clear B3 hw3
        generalize M.cmpI A C = cc at *
        go_wp2_with fail
        refine (HL.out w3 r1 r2 p1 A p2 C (H2.out.2.2.2.1.below H3.out) (H2.out.1.below H3.out) H1.out.2.1 H2.out.2.1 H1.out.2.2.1 Hle.out).mono ?_
        rintro e w4 ⟨r4, rfl, ⟨p4, q1, q2, q3⟩, hb4⟩
        have H4 := hide (And.intro q1 (And.intro q2 (And.intro q3 hb4)))
        clear q1 q2 q3 hb4
        go_wp2_with fail
        go_ret3
        have ez : (-(A : Int) + (C : Int) : Int).natAbs = A - C := by have := Hle.out; omega
        refine ⟨true, r4, -(A : Int) + (C : Int), rfl, ⟨by simp only [signed_pos, signed_neg], fun hne => ?_⟩, ⟨p4, by rw [ez]; exact H4.out.1, by rw [ez]; exact H4.out.2.1, H4.out.2.2.1⟩, (H2.out.2.2.2.2.trans (H3.out.mono H2.out.2.2.2.2.size)).trans (H4.out.2.2.2.mono (H2.out.2.2.2.2.trans (H3.out.mono H2.out.2.2.2.2.size)).size)⟩
        have := Hle.out
        rw [decide_eq_true (by omega)]
    · go_enter Tryz.func75, Tryz.ntmps75
      go_wp2_with (simp only [hd])
      refine (HU.out w v1 k1 m1 d _ HR.out.1 HK.out.1 HD2.out (by omega)).mono ?_
      rintro e w1 ⟨r1, rfl, ⟨p1, q1, q2, q3⟩, hb1⟩
      rw [HAC.out.1] at q1 q2
      have H1 := hide (And.intro q1 (And.intro q2 (And.intro q3 hb1)))
      clear q1 q2 q3 hb1
      go_wp2_with (simp only [hz])
      refine (HU.out w1 v2 k2 m2 0 _ (HR.out.2.below H1.out.2.2.2) HK.out.2 (by omega) (by omega)).mono ?_
      rintro e w2 ⟨r2, rfl, ⟨p2, q1, q2, q3⟩, hb2⟩
      rw [HAC.out.2] at q1 q2
      have H2 := hide (And.intro q1 (And.intro q2 (And.intro q3 (And.intro (H1.out.1.below hb2) (H1.out.2.2.2.trans (hb2.mono H1.out.2.2.2.size))))))
      clear q1 q2 q3 hb2
      go_wp2_with fail
      refine (HS.out w2 r1 r2 p1 A p2 C H2.out.2.2.2.1 H2.out.1 H1.out.2.2.1 H2.out.2.2.1).mono ?_
      rintro e w4 ⟨r4, rfl, ⟨p4, q1, q2, q3⟩, hb4⟩
      have H4 := hide (And.intro q1 (And.intro q2 (And.intro q3 hb4)))
      clear q1 q2 q3 hb4
      go_wp2_with fail
      go_ret3
      have ez : (-(A : Int) + -(C : Int) : Int).natAbs = A + C := by omega
      refine ⟨true, r4, -(A : Int) + -(C : Int), rfl, ⟨by simp only [signed_pos, signed_neg], fun hne => ?_⟩, ⟨p4, by rw [ez]; exact H4.out.1, by rw [ez]; exact H4.out.2.1, H4.out.2.2.1⟩, H2.out.2.2.2.2.trans (H4.out.2.2.2.mono H2.out.2.2.2.2.size)⟩
      rw [decide_eq_true (by omega)]
  · have hmin : min e1 e2 = e1 := by omega
    have hc' : ¬ e2 < e1 := by omega
    obtain ⟨d, hd⟩ : ∃ d : Nat, e2 - e1 = (d : Int) := ⟨(e2 - e1).toNat, by omega⟩
    rw [hmin, show (e1 - e1).toNat = 0 by omega, show (e2 - e1).toNat = d by omega]
    have hd2 : d ≤ 20000 := by omega
    generalize hA : m1 * 2 ^ 0 = A at *
    generalize hC : m2 * 2 ^ d = C at *
    clear hmin hc
    have HAC := hide (And.intro hA hC)
    have HD2 := hide hd2
    have HM1 := hide (show Row w v1 k1 A ∧ Nrm k1 A by rw [← hA, Nat.pow_zero, Nat.mul_one]; exact ⟨HR.out.1, HN.out.1⟩)
    clear hA hC hd2
    cases n1 <;> cases n2
    · go_enter Tryz.func75, Tryz.ntmps75
      go_wp2_with (simp only [hd])
      refine (HU.out w v2 k2 m2 d _ HR.out.2 HK.out.2 HD2.out (by omega)).mono ?_
      rintro e w2 ⟨r2, rfl, ⟨p2, q1, q2, q3⟩, hb2⟩
      rw [HAC.out.2] at q1 q2
      have H2 := hide (And.intro q1 (And.intro q2 (And.intro q3 (And.intro (HM1.out.1.below hb2) hb2))))
      clear q1 q2 q3 hb2
      go_wp2_with fail
      refine (HS.out w2 v1 r2 k1 A p2 C H2.out.2.2.2.1 H2.out.1 (by have := HK.out.1; omega) H2.out.2.2.1).mono ?_
      rintro e w4 ⟨r4, rfl, ⟨p4, q1, q2, q3⟩, hb4⟩
      have H4 := hide (And.intro q1 (And.intro q2 (And.intro q3 hb4)))
      clear q1 q2 q3 hb4
      go_wp2_with fail
      go_ret3
      have ez : ((A : Int) + (C : Int) : Int).natAbs = A + C := by omega
      refine ⟨false, r4, (A : Int) + (C : Int), rfl, ⟨by simp only [signed_pos, signed_neg], fun hne => ?_⟩, ⟨p4, by rw [ez]; exact H4.out.1, by rw [ez]; exact H4.out.2.1, H4.out.2.2.1⟩, H2.out.2.2.2.2.trans (H4.out.2.2.2.mono H2.out.2.2.2.2.size)⟩
      rw [decide_eq_false (by omega)]
    · rcases Nat.lt_or_ge A C with hle | hle
      · have hcmp := cmp_lt' hle
        have Hle := hide hle
        clear hle
        go_enter Tryz.func75, Tryz.ntmps75
        go_wp2_with (simp only [hd])
        refine (HU.out w v2 k2 m2 d _ HR.out.2 HK.out.2 HD2.out (by omega)).mono ?_
        rintro e w2 ⟨r2, rfl, ⟨p2, q1, q2, q3⟩, hb2⟩
        rw [HAC.out.2] at q1 q2
        have H2 := hide (And.intro q1 (And.intro q2 (And.intro q3 (And.intro (HM1.out.1.below hb2) hb2))))
        clear q1 q2 q3 hb2
        go_wp2_with fail
        refine (nCmp v1 r2 k1 A p2 C w2 H2.out.2.2.2.1 H2.out.1 HM1.out.2 H2.out.2.1).mono ?_
        rintro e w3 ⟨rfl, n3, hw3⟩
        have B3 : Below w2.heap.size w2 w3 := by rw [hw3]; exact ⟨rfl, rfl, rfl, Nat.le_refl _, fun _ _ => rfl⟩
        have H3 := hide B3
        clear B3 hw3
        generalize M.cmpI A C = cc at *
        go_wp2_with fail
        refine (HL.out w3 r2 v1 p2 C k1 A (H2.out.1.below H3.out) (H2.out.2.2.2.1.below H3.out) H2.out.2.1 HM1.out.2 H2.out.2.2.1 (Nat.le_of_lt Hle.out)).mono ?_
        rintro e w4 ⟨r4, rfl, ⟨p4, q1, q2, q3⟩, hb4⟩
        have H4 := hide (And.intro q1 (And.intro q2 (And.intro q3 hb4)))
        clear q1 q2 q3 hb4
        go_wp2_with fail
        go_ret3
        have ez : ((A : Int) + -(C : Int) : Int).natAbs = C - A := by have := Hle.out; omega
        refine ⟨true, r4, (A : Int) + -(C : Int), rfl, ⟨by simp only [signed_pos, signed_neg], fun hne => ?_⟩, ⟨p4, by rw [ez]; exact H4.out.1, by rw [ez]; exact H4.out.2.1, H4.out.2.2.1⟩, (H2.out.2.2.2.2.trans (H3.out.mono H2.out.2.2.2.2.size)).trans (H4.out.2.2.2.mono (H2.out.2.2.2.2.trans (H3.out.mono H2.out.2.2.2.2.size)).size)⟩
        have := Hle.out
        rw [decide_eq_true (by omega)]
      · have hcmp := cmp_ge hle
        have Hle := hide hle
        clear hle
        go_enter Tryz.func75, Tryz.ntmps75
        go_wp2_with (simp only [hd])
        refine (HU.out w v2 k2 m2 d _ HR.out.2 HK.out.2 HD2.out (by omega)).mono ?_
        rintro e w2 ⟨r2, rfl, ⟨p2, q1, q2, q3⟩, hb2⟩
        rw [HAC.out.2] at q1 q2
        have H2 := hide (And.intro q1 (And.intro q2 (And.intro q3 (And.intro (HM1.out.1.below hb2) hb2))))
        clear q1 q2 q3 hb2
        go_wp2_with fail
        refine (nCmp v1 r2 k1 A p2 C w2 H2.out.2.2.2.1 H2.out.1 HM1.out.2 H2.out.2.1).mono ?_
        rintro e w3 ⟨rfl, n3, hw3⟩
        have B3 : Below w2.heap.size w2 w3 := by rw [hw3]; exact ⟨rfl, rfl, rfl, Nat.le_refl _, fun _ _ => rfl⟩
        have H3 := hide B3
        clear B3 hw3
        generalize M.cmpI A C = cc at *
        go_wp2_with fail
        refine (HL.out w3 v1 r2 k1 A p2 C (H2.out.2.2.2.1.below H3.out) (H2.out.1.below H3.out) HM1.out.2 H2.out.2.1 (by have := HK.out.1; omega) Hle.out).mono ?_
        rintro e w4 ⟨r4, rfl, ⟨p4, q1, q2, q3⟩, hb4⟩
        have H4 := hide (And.intro q1 (And.intro q2 (And.intro q3 hb4)))
        clear q1 q2 q3 hb4
        go_wp2_with fail
        go_ret3
        have ez : ((A : Int) + -(C : Int) : Int).natAbs = A - C := by have := Hle.out; omega
        refine ⟨false, r4, (A : Int) + -(C : Int), rfl, ⟨by simp only [signed_pos, signed_neg], fun hne => ?_⟩, ⟨p4, by rw [ez]; exact H4.out.1, by rw [ez]; exact H4.out.2.1, H4.out.2.2.1⟩, (H2.out.2.2.2.2.trans (H3.out.mono H2.out.2.2.2.2.size)).trans (H4.out.2.2.2.mono (H2.out.2.2.2.2.trans (H3.out.mono H2.out.2.2.2.2.size)).size)⟩
        have := Hle.out
        rw [decide_eq_false (by omega)]
    · rcases Nat.lt_or_ge A C with hle | hle
      · have hcmp := cmp_lt' hle
        have Hle := hide hle
        clear hle
        go_enter Tryz.func75, Tryz.ntmps75
        go_wp2_with (simp only [hd])
        refine (HU.out w v2 k2 m2 d _ HR.out.2 HK.out.2 HD2.out (by omega)).mono ?_
        rintro e w2 ⟨r2, rfl, ⟨p2, q1, q2, q3⟩, hb2⟩
        rw [HAC.out.2] at q1 q2
        have H2 := hide (And.intro q1 (And.intro q2 (And.intro q3 (And.intro (HM1.out.1.below hb2) hb2))))
        clear q1 q2 q3 hb2
        go_wp2_with fail
        refine (nCmp v1 r2 k1 A p2 C w2 H2.out.2.2.2.1 H2.out.1 HM1.out.2 H2.out.2.1).mono ?_
        rintro e w3 ⟨rfl, n3, hw3⟩
        have B3 : Below w2.heap.size w2 w3 := by rw [hw3]; exact ⟨rfl, rfl, rfl, Nat.le_refl _, fun _ _ => rfl⟩
        have H3 := hide B3
        clear B3 hw3
        generalize M.cmpI A C = cc at *
        go_wp2_with fail
        refine (HL.out w3 r2 v1 p2 C k1 A (H2.out.1.below H3.out) (H2.out.2.2.2.1.below H3.out) H2.out.2.1 HM1.out.2 H2.out.2.2.1 (Nat.le_of_lt Hle.out)).mono ?_
        rintro e w4 ⟨r4, rfl, ⟨p4, q1, q2, q3⟩, hb4⟩
        have H4 := hide (And.intro q1 (And.intro q2 (And.intro q3 hb4)))
        clear q1 q2 q3 hb4
        go_wp2_with fail
        go_ret3
        have ez : (-(A : Int) + (C : Int) : Int).natAbs = C - A := by have := Hle.out; omega
        refine ⟨false, r4, -(A : Int) + (C : Int), rfl, ⟨by simp only [signed_pos, signed_neg], fun hne => ?_⟩, ⟨p4, by rw [ez]; exact H4.out.1, by rw [ez]; exact H4.out.2.1, H4.out.2.2.1⟩, (H2.out.2.2.2.2.trans (H3.out.mono H2.out.2.2.2.2.size)).trans (H4.out.2.2.2.mono (H2.out.2.2.2.2.trans (H3.out.mono H2.out.2.2.2.2.size)).size)⟩
        have := Hle.out
        rw [decide_eq_false (by omega)]
      · have hcmp := cmp_ge hle
        have Hle := hide hle
        clear hle
        go_enter Tryz.func75, Tryz.ntmps75
        go_wp2_with (simp only [hd])
        refine (HU.out w v2 k2 m2 d _ HR.out.2 HK.out.2 HD2.out (by omega)).mono ?_
        rintro e w2 ⟨r2, rfl, ⟨p2, q1, q2, q3⟩, hb2⟩
        rw [HAC.out.2] at q1 q2
        have H2 := hide (And.intro q1 (And.intro q2 (And.intro q3 (And.intro (HM1.out.1.below hb2) hb2))))
        clear q1 q2 q3 hb2
        go_wp2_with fail
        refine (nCmp v1 r2 k1 A p2 C w2 H2.out.2.2.2.1 H2.out.1 HM1.out.2 H2.out.2.1).mono ?_
        rintro e w3 ⟨rfl, n3, hw3⟩
        have B3 : Below w2.heap.size w2 w3 := by rw [hw3]; exact ⟨rfl, rfl, rfl, Nat.le_refl _, fun _ _ => rfl⟩
        have H3 := hide B3
        clear B3 hw3
        generalize M.cmpI A C = cc at *
        go_wp2_with fail
        refine (HL.out w3 v1 r2 k1 A p2 C (H2.out.2.2.2.1.below H3.out) (H2.out.1.below H3.out) HM1.out.2 H2.out.2.1 (by have := HK.out.1; omega) Hle.out).mono ?_
        rintro e w4 ⟨r4, rfl, ⟨p4, q1, q2, q3⟩, hb4⟩
        have H4 := hide (And.intro q1 (And.intro q2 (And.intro q3 hb4)))
        clear q1 q2 q3 hb4
        go_wp2_with fail
        go_ret3
        have ez : (-(A : Int) + (C : Int) : Int).natAbs = A - C := by have := Hle.out; omega
        refine ⟨true, r4, -(A : Int) + (C : Int), rfl, ⟨by simp only [signed_pos, signed_neg], fun hne => ?_⟩, ⟨p4, by rw [ez]; exact H4.out.1, by rw [ez]; exact H4.out.2.1, H4.out.2.2.1⟩, (H2.out.2.2.2.2.trans (H3.out.mono H2.out.2.2.2.2.size)).trans (H4.out.2.2.2.mono (H2.out.2.2.2.2.trans (H3.out.mono H2.out.2.2.2.2.size)).size)⟩
        have := Hle.out
        rw [decide_eq_true (by omega)]
    · go_enter Tryz.func75, Tryz.ntmps75
      go_wp2_with (simp only [hd])
      refine (HU.out w v2 k2 m2 d _ HR.out.2 HK.out.2 HD2.out (by omega)).mono ?_
      rintro e w2 ⟨r2, rfl, ⟨p2, q1, q2, q3⟩, hb2⟩
      rw [HAC.out.2] at q1 q2
      have H2 := hide (And.intro q1 (And.intro q2 (And.intro q3 (And.intro (HM1.out.1.below hb2) hb2))))
      clear q1 q2 q3 hb2
      go_wp2_with fail
      refine (HS.out w2 v1 r2 k1 A p2 C H2.out.2.2.2.1 H2.out.1 (by have := HK.out.1; omega) H2.out.2.2.1).mono ?_
      rintro e w4 ⟨r4, rfl, ⟨p4, q1, q2, q3⟩, hb4⟩
      have H4 := hide (And.intro q1 (And.intro q2 (And.intro q3 hb4)))
      clear q1 q2 q3 hb4
      go_wp2_with fail
      go_ret3
      have ez : (-(A : Int) + -(C : Int) : Int).natAbs = A + C := by omega
      refine ⟨true, r4, -(A : Int) + -(C : Int), rfl, ⟨by simp only [signed_pos, signed_neg], fun hne => ?_⟩, ⟨p4, by rw [ez]; exact H4.out.1, by rw [ez]; exact H4.out.2.1, H4.out.2.2.1⟩, H2.out.2.2.2.2.trans (H4.out.2.2.2.mono H2.out.2.2.2.2.size)⟩
      rw [decide_eq_true (by omega)]
end Go.Proofs.YtmkploknoohliaaGreat

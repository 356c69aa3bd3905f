/- The document's NearestRoot, Root. -/
import Derived.Test.YtdiinhccfifiaabPH
import Derived.Test.YtdiinhccfifiaabPD
import Derived.Test.YtdiinhccfifiaabRG
namespace Go.Proofs.Ytdiinhccfifiaab
open Go.RowKit
open M
set_option linter.unusedVariables false
set_option linter.unusedSimpArgs false

/-- rounded, of a root. -/
theorem rrounded_root32 (P Q : Nat) (e s u l : Int) (P' Q' m : Nat) (st : Bool) (hP : 0 < P) (hQ : 0 < Q) (hl : l = ((P.log2 + 1 : Nat) : Int) - ((Q.log2 + 1 : Nat) : Int) + e) (hu : u = l / 2 - 24 - 4) (hs : s = e - 2 * u) (hPQ : Shared P Q s P' Q') (he : -20000 ≤ e ∧ e ≤ 20000) (hlb : -200000 ≤ l ∧ l ≤ 200000) (h1 : m * m ≤ P' / Q') (h2 : P' / Q' < (m + 1) * (m + 1)) (h3 : st = true ↔ ¬ (m * m = P' / Q' ∧ P' % Q' = 0)) (v : Value) (kk : Nat) (w : World) (h : Row w v kk m) (hnr : Nrm kk m) (hkk : kk ≤ 50000) :
    P' / Q' < 4294967296 ^ 10 ∧ ∃ R, Flt.RtR Ieee.single (P * 2 ^ (e + 2 * 149).toNat) (Q * 2 ^ (-(2 * 149) - e).toNat) R ∧ Calls Try.prog 87 #[.bool false, v, .int .i64 u, .bool st, .int .i64 32] w fun r w' => r = .returned (.int .u64 (min R 2139095040 : Nat)) ∧ Below w.heap.size w w' := by
  have hfb : Ieee.single.fractionBits = 23 := rfl
  have hbin : Ieee.single.binade = 8388608 := by decide
  obtain ⟨k, sh, g, q1, qn, q2, q3, q4, q5, q6, q7, q8, q9, q10⟩ := Flt.root_math Ieee.single (by decide) 149 P Q e s u l P' Q' m st hP hQ hl (by rw [hu]; show _ = l / 2 - (((23 : Nat) : Int) + 1) - 4; omega) hs hPQ h1 h2 h3
  rw [hfb] at q4 q5 q6 q8 qn
  rw [hbin] at q7 q10
  have e1 : (((149 : Nat) : Int)) = 149 := rfl
  rw [e1] at q8 q9 q10
  refine ⟨Nat.lt_of_lt_of_le qn (by decide), _, q10, ?_⟩
  have hbl : blen m = g + 1 := by rw [blen_pos (Nat.pos_of_ne_zero q2), q3]
  have hwf : ∀ R, wd32 false R = R := fun _ => rfl
  have hcl : m / 2 ^ sh < 33554432 := Nat.lt_of_lt_of_le q6 (Nat.le_of_eq (by decide))
  by_cases hbig : 2000 < ((g + 1 : Nat) : Int) + u - 24
  · refine (rroundedInf32 false _ v kk m u (g + 1) w h hnr (by omega) hbl (by omega) (by omega) hbig).mono ?_
    rintro r w' ⟨rfl, rfl⟩
    refine ⟨?_, Below.refl _ _⟩
    have hk : 2149 < k := by omega
    rw [Nat.min_eq_right (by omega), hwf]
  · refine (rrounded32 false _ v kk m u (g + 1) k sh _ w h hnr (by omega) hbl (by omega) (by omega) (by omega) (by omega) (by omega) q9 (by omega) rfl hcl q7).mono ?_
    rintro r w' ⟨rfl, hb⟩
    rw [hwf]
    exact ⟨rfl, hb⟩

theorem rrounded_rootN32 (P Q : Nat) (e s u l : Int) (P' Q' m : Nat) (st : Bool) (hP : 0 < P) (hQ : 0 < Q) (hl : l = ((P.log2 + 1 : Nat) : Int) - ((Q.log2 + 1 : Nat) : Int) + e) (hu : u = l / 2 - 24 - 4) (hs : s = e - 2 * u) (hPQ : Shared P Q s P' Q') (h1 : m * m ≤ P' / Q') (h2 : P' / Q' < (m + 1) * (m + 1)) (h3 : st = true ↔ ¬ (m * m = P' / Q' ∧ P' % Q' = 0)) : P' / Q' < 4294967296 ^ 10 := by
  obtain ⟨k, sh, g, q1, qn, _⟩ := Flt.root_math Ieee.single (by decide) 149 P Q e s u l P' Q' m st hP hQ hl (by rw [hu]; show _ = l / 2 - (((23 : Nat) : Int) + 1) - 4; omega) hs hPQ h1 h2 h3
  exact Nat.lt_of_lt_of_le qn (by decide)

set_option maxRecDepth 100000 in
set_option maxHeartbeats 1000000 in
theorem rNearestRoot32 (v q : Value) (kp P kq Q : Nat) (e : Int) (w : World) (h : Row w v kp P) (h' : Row w q kq Q) (hn : Nrm kp P) (hn' : Nrm kq Q) (hP0 : 0 < P) (hQ : 0 < Q) (hkp : kp ≤ 2000) (hkq : kq ≤ 2000) (he : -20000 ≤ e ∧ e ≤ 20000) :
    Calls Try.prog 60 #[v, q, .int .i64 e, .int .i64 32] w fun r w' => (∃ R, Flt.RtR Ieee.single (P * 2 ^ (e + 2 * 149).toNat) (Q * 2 ^ (-(2 * 149) - e).toNat) R ∧ r = .returned (.int .u64 (min R 2139095040 : Nat))) ∧ Below w.heap.size w w' := by
  have hkp0 : kp ≠ 0 := fun hk => by have := hn.zero_iff.1 hk; omega
  obtain ⟨a, ha, hab⟩ : ∃ a : Nat, P.log2 + 1 = a ∧ a ≤ 70000 := ⟨_, rfl, by have := blen_row h.1; rw [blen_pos hP0] at this; omega⟩
  obtain ⟨b, hb, hbb⟩ : ∃ b : Nat, Q.log2 + 1 = b ∧ b ≤ 70000 := ⟨_, rfl, by have := blen_row h'.1; rw [blen_pos hQ] at this; omega⟩
  obtain ⟨l, hl⟩ : ∃ l : Int, l = (a : Int) - (b : Int) + e := ⟨_, rfl⟩
  obtain ⟨u, hu⟩ : ∃ u : Int, u = l / 2 - 24 - 4 := ⟨_, rfl⟩
  obtain ⟨s, hs⟩ : ∃ s : Int, s = e - 2 * u := ⟨_, rfl⟩
  obtain ⟨P', Q', hPQ⟩ : ∃ P' Q', Shared P Q s P' Q' := by
    rcases Int.lt_or_le s 0 with h1 | h1
    · exact ⟨_, _, .inr ⟨h1, rfl, rfl⟩⟩
    · exact ⟨_, _, .inl ⟨h1, rfl, rfl⟩⟩
  have HLp : Hid (∀ w1 : World, Row w1 v kp P → Calls Try.prog 85 #[v] w1 fun e w' => e = .returned (.int .i64 a) ∧ w' = w1) := fun w1 hr => by
    have := nLen v kp P w1 hr hn (by omega)
    rwa [blen_pos hP0, ha] at this
  have HLq : Hid (∀ w1 : World, Row w1 q kq Q → Calls Try.prog 85 #[q] w1 fun e w' => e = .returned (.int .i64 b) ∧ w' = w1) := fun w1 hr => by
    have := nLen q kq Q w1 hr hn' (by omega)
    rwa [blen_pos hQ, hb] at this
  have HQ := hide (rquotient v q kp P kq Q s P' Q' w h h' hn hn' hQ hkp hkq (by omega) hPQ)
  have HR := hide (fun (m : Nat) (st : Bool) (h1 : m * m ≤ P' / Q') (h2 : P' / Q' < (m + 1) * (m + 1)) (h3 : st = true ↔ ¬ (m * m = P' / Q' ∧ P' % Q' = 0)) (v2 : Value) (kk : Nat) (w2 : World) (hr : Row w2 v2 kk m) (hnr : Nrm kk m) (hk : kk ≤ 50000) => rrounded_root32 P Q e s u l P' Q' m st hP0 hQ (by rw [ha, hb]; exact hl) hu hs hPQ he (by omega) h1 h2 h3 v2 kk w2 hr hnr hk)
  have Hrow := hide (And.intro h h')
  -- the quotient is short
  have HSh : Hid (P' / Q' < 4294967296 ^ 10) := by
    have hsq : ∃ m, m * m ≤ P' / Q' ∧ P' / Q' < (m + 1) * (m + 1) := ⟨_, Flt.isqrt (P' / Q')⟩
    obtain ⟨m, m1, m2⟩ := hsq
    obtain ⟨kk, hkk⟩ := nrm_exists m
    by_cases hc : m * m = P' / Q' ∧ P' % Q' = 0
    · exact (rrounded_rootN32 P Q e s u l P' Q' m false hP0 hQ (by rw [ha, hb]; exact hl) hu hs hPQ m1 m2 (by simp [hc]))
    · exact (rrounded_rootN32 P Q e s u l P' Q' m true hP0 hQ (by rw [ha, hb]; exact hl) hu hs hPQ m1 m2 (by simp [hc]))
  have he1 : ¬ (2097152 : Int) < e := by omega
  have he2 : ¬ e < (-2097152 : Int) := by omega
  obtain ⟨x1, hx1⟩ : ∃ x1 : Int, (a : Int) - (b : Int) = x1 := ⟨_, rfl⟩
  have hx2 : x1 + e = l := by omega
  obtain ⟨x3, hx3⟩ : ∃ x3 : Int, l + 4194304 = x3 := ⟨_, rfl⟩
  obtain ⟨x4, hx4, hx4'⟩ : ∃ x4 : Int, x3.tdiv 2 = x4 ∧ x3 / 2 = x4 := ⟨_, rfl, by rw [Int.tdiv_eq_ediv_of_nonneg (by omega)]⟩
  obtain ⟨x5, hx5⟩ : ∃ x5 : Int, x4 - 2097152 = x5 := ⟨_, rfl⟩
  obtain ⟨x6, hx6⟩ : ∃ x6 : Int, x5 - 24 = x6 := ⟨_, rfl⟩
  have hx7 : x6 - 4 = u := by omega
  obtain ⟨x8, hx8⟩ : ∃ x8 : Int, 2 * u = x8 := ⟨_, rfl⟩
  have hx9 : e - x8 = s := by omega
  have b1 : -100000 ≤ x1 ∧ x1 ≤ 100000 := by omega
  have b2 : -200000 ≤ l ∧ l ≤ 200000 := by omega
  have b3 : 0 ≤ x3 ∧ x3 ≤ 5000000 := by omega
  have b4 : 0 ≤ x4 ∧ x4 ≤ 5000000 := by omega
  have b5 : -5000000 ≤ x5 ∧ x5 ≤ 5000000 := by omega
  have b6 : -5000000 ≤ x6 ∧ x6 ≤ 5000000 := by omega
  have b7 : -200000 ≤ u ∧ u ≤ 200000 := by omega
  have b8 : -400000 ≤ x8 ∧ x8 ≤ 400000 := by omega
  have b9 : -600000 ≤ s ∧ s ≤ 600000 := by omega
  obtain ⟨hN, hkpb, ad, cap, hv, hcap, hcell⟩ := h
  have hkpz : ((kp : Int) == 0) = false := by simp; omega
  have hkpc : (kp : Int) ≤ 2000 := by omega
  clear hN hcell h' hn hn' hQ hkp hkq he hP0 ha hb hab hbb hl hu hs hPQ hkp0 hcap hkpb
  subst hv
  go_enter Try.func60, Try.ntmps60
  go_wp2_with (simp only [hkpz])
  refine (HLp.out _ Hrow.out.1).mono ?_
  rintro r w1 ⟨rfl, hw1⟩
  have hw1 := hw1.symm
  subst hw1
  go_wp2_with fail
  refine (HLq.out _ Hrow.out.2).mono ?_
  rintro r w1 ⟨rfl, hw1⟩
  have hw1 := hw1.symm
  subst hw1
  go_wp2_with (simp only [hx1, hx2, hx3, hx4, hx4', hx5])
  refine (rdigits32 _).mono ?_
  rintro r w1 ⟨rfl, hw1⟩
  have hw1 := hw1.symm
  subst hw1
  go_wp2_with (simp only [hx6, hx7, hx8, hx9])
  refine HQ.out.mono ?_
  rintro r w2 ⟨n2, r2, rfl, ⟨kn, an, bn, cn⟩, ⟨kr, ar, br, cr⟩, hb2⟩
  obtain ⟨_, _, adr, capr, rfl, _⟩ := ar
  have H2 := hide (And.intro an (And.intro bn (And.intro (show kn ≤ 10 from bn.le HSh.out) (And.intro br hb2))))
  clear an bn cn hb2 br cr HQ
  have HSq := hide (nSqrt n2 kn (P' / Q') w2 H2.out.1 H2.out.2.1 (by have := H2.out.2.2.1; omega))
  go_wp2_with fail
  refine HSq.out.mono ?_
  rintro r w3 ⟨r3, m, ex, rfl, hex, m1, m2, ⟨k3, c1, c2, c3⟩, hb3⟩
  have H3 := hide (And.intro c1 (And.intro c2 (And.intro (show k3 ≤ 50000 by omega) (H2.out.2.2.2.2.trans (hb3.mono H2.out.2.2.2.2.size)))))
  clear c1 c2 c3 hb3 HSq
  have HX := hide (And.intro hex (And.intro m1 m2))
  clear hex m1 m2
  by_cases hr0 : P' % Q' = 0
  · have hk0 : kr = 0 := H2.out.2.2.2.1.zero_iff.2 hr0
    subst hk0
    cases ex
    · obtain ⟨_, R, hR, hc⟩ := HR.out m true HX.out.2.1 HX.out.2.2 ⟨fun _ h => (by have := HX.out.1.2 h.1; cases this), fun _ => rfl⟩ r3 k3 w3 H3.out.1 H3.out.2.1 H3.out.2.2.1
      have HC := hide (And.intro hR hc)
      clear hR hc hr0
      go_wp2_with fail
      refine HC.out.2.mono ?_
      rintro r w4 ⟨rfl, hb4⟩
      go_wp2_with fail
      go_ret
      exact ⟨⟨R, HC.out.1, rfl⟩, H3.out.2.2.2.trans (hb4.mono H3.out.2.2.2.size)⟩
    · obtain ⟨_, R, hR, hc⟩ := HR.out m false HX.out.2.1 HX.out.2.2 ⟨fun h => (by cases h), fun h => absurd ⟨HX.out.1.1 rfl, hr0⟩ h⟩ r3 k3 w3 H3.out.1 H3.out.2.1 H3.out.2.2.1
      have HC := hide (And.intro hR hc)
      clear hR hc hr0
      go_wp2_with fail
      refine HC.out.2.mono ?_
      rintro r w4 ⟨rfl, hb4⟩
      go_wp2_with fail
      go_ret
      exact ⟨⟨R, HC.out.1, rfl⟩, H3.out.2.2.2.trans (hb4.mono H3.out.2.2.2.size)⟩
  · have hkn : 0 < kr := by
      rcases Nat.eq_zero_or_pos kr with hk | hk
      · exact absurd (H2.out.2.2.2.1.zero_iff.1 hk) hr0
      · exact hk
    have hk0 : (0 : Int) < (kr : Int) := by omega
    have hk1 : decide ((0 : Int) < (kr : Int)) = true := by simp; omega
    have hk2 : decide (0 < kr) = true := by simp; omega
    obtain ⟨_, R, hR, hc⟩ := HR.out m true HX.out.2.1 HX.out.2.2 ⟨fun _ h => hr0 h.2, fun _ => rfl⟩ r3 k3 w3 H3.out.1 H3.out.2.1 H3.out.2.2.1
    have HC := hide (And.intro hR hc)
    clear hR hc hr0 hkn
    cases ex
    all_goals
      go_wp2_with (simp only [hk1, hk2])
      refine HC.out.2.mono ?_
      rintro r w4 ⟨rfl, hb4⟩
      go_wp2_with fail
      go_ret
      exact ⟨⟨R, HC.out.1, rfl⟩, H3.out.2.2.2.trans (hb4.mono H3.out.2.2.2.size)⟩

set_option maxRecDepth 100000 in
set_option maxHeartbeats 1000000 in
theorem rRoot32 (a : Nat) (w : World) (ha : a < 4294967296) : Calls Try.prog 17 #[.int .u64 a, .int .i64 32] w fun e w' => e = .returned (.int .u64 (tldW32 (Ieee.single.sqrt a) : Nat)) ∧ Below w.heap.size w w' := by
  have HNa := fhide (fun w : World => rIsNan32 a w ha)
  have HIa := fhide (fun w : World => rIsInf32 a w ha)
  have HZa := fhide (fun w : World => rIsZero32 a w ha)
  have HPa := fhide (fun w : World => rParts32 a w ha)
  have HGa := fhide (fun w : World => rNeg32 a w ha)
  by_cases na : 2139095040 < a % 2147483648
  · rw [decide_eq_true na] at HNa
    have ho : tldW32 (Ieee.single.sqrt a) = 2143289344 := by rw [Flt.sqrt_nan2 Ieee.single (by decide) a (by rw [rgW32, infW32]; exact na)]; rfl
    rw [ho]
    clear ho na ha
    go_enter Try.func17, Try.ntmps17
    go_wp2_with fail
    refine (HNa.out _).mono ?_
    rintro e w1 ⟨rfl, hw1⟩
    have hw1 := hw1.symm
    subst hw1
    go_wp2_with fail
    refine (rNan32 _).mono ?_
    rintro e w1 ⟨rfl, hw1⟩
    have hw1 := hw1.symm
    subst hw1
    go_wp2_with fail
    go_ret
    exact ⟨rfl, Below.refl _ _⟩
  · rw [decide_eq_false na] at HNa
    by_cases za : a % 2147483648 = 0
    · rw [decide_eq_true za] at HZa
      have ho : tldW32 (Ieee.single.sqrt a) = a := by
        rw [Flt.sqrt_zero Ieee.single a (by rw [rgW32]; exact za) (by decide)]
        have := Flt.word_self Ieee.single a (show a < 2 * 2147483648 by omega)
        rw [rgW32, za] at this
        rw [this]; rfl
      rw [ho]
      clear ho na ha za
      go_enter Try.func17, Try.ntmps17
      go_wp2_with fail
      refine (HNa.out _).mono ?_
      rintro e w1 ⟨rfl, hw1⟩
      have hw1 := hw1.symm
      subst hw1
      go_wp2_with fail
      refine (HZa.out _).mono ?_
      rintro e w1 ⟨rfl, hw1⟩
      have hw1 := hw1.symm
      subst hw1
      go_wp2_with fail
      go_ret
      exact ⟨rfl, Below.refl _ _⟩
    · rw [decide_eq_false za] at HZa
      by_cases ga : 2147483648 ≤ a
      · rw [decide_eq_true ga] at HGa
        have ho : tldW32 (Ieee.single.sqrt a) = 2143289344 := by
          have hsg : Flt.sg Ieee.single a = true := by rw [sgW32 a ha, decide_eq_true ga]
          by_cases ia : a % 2147483648 = 2139095040
          · rw [Flt.sqrt_inf Ieee.single (by decide) a (by rw [rgW32, infW32]; exact ia), hsg]; rfl
          · rw [Flt.sqrt_neg Ieee.single a (by rw [rgW32, infW32]; omega) (by rw [rgW32]; exact za) hsg]; rfl
        rw [ho]
        clear ho na ha za ga
        go_enter Try.func17, Try.ntmps17
        go_wp2_with fail
        refine (HNa.out _).mono ?_
        rintro e w1 ⟨rfl, hw1⟩
        have hw1 := hw1.symm
        subst hw1
        go_wp2_with fail
        refine (HZa.out _).mono ?_
        rintro e w1 ⟨rfl, hw1⟩
        have hw1 := hw1.symm
        subst hw1
        go_wp2_with fail
        refine (HGa.out _).mono ?_
        rintro e w1 ⟨rfl, hw1⟩
        have hw1 := hw1.symm
        subst hw1
        go_wp2_with fail
        refine (rNan32 _).mono ?_
        rintro e w1 ⟨rfl, hw1⟩
        have hw1 := hw1.symm
        subst hw1
        go_wp2_with fail
        go_ret
        exact ⟨rfl, Below.refl _ _⟩
      · rw [decide_eq_false ga] at HGa
        have hsg : Flt.sg Ieee.single a = false := by rw [sgW32 a ha, decide_eq_false ga]
        by_cases ia : a % 2147483648 = 2139095040
        · rw [decide_eq_true ia] at HIa
          have ho : tldW32 (Ieee.single.sqrt a) = a := by
            rw [Flt.sqrt_inf Ieee.single (by decide) a (by rw [rgW32, infW32]; exact ia), hsg]
            have := selfW32 a ha ia
            rw [hsg] at this
            rw [infW32, this]; rfl
          rw [ho]
          clear ho na ha za ga hsg ia
          go_enter Try.func17, Try.ntmps17
          go_wp2_with fail
          refine (HNa.out _).mono ?_
          rintro e w1 ⟨rfl, hw1⟩
          have hw1 := hw1.symm
          subst hw1
          go_wp2_with fail
          refine (HZa.out _).mono ?_
          rintro e w1 ⟨rfl, hw1⟩
          have hw1 := hw1.symm
          subst hw1
          go_wp2_with fail
          refine (HGa.out _).mono ?_
          rintro e w1 ⟨rfl, hw1⟩
          have hw1 := hw1.symm
          subst hw1
          go_wp2_with fail
          refine (HIa.out _).mono ?_
          rintro e w1 ⟨rfl, hw1⟩
          have hw1 := hw1.symm
          subst hw1
          go_wp2_with fail
          go_ret
          exact ⟨rfl, Below.refl _ _⟩
        · rw [decide_eq_false ia] at HIa
          obtain ⟨T, hT⟩ : ∃ T : Nat, T = 149 := ⟨_, rfl⟩
          obtain ⟨R0, hR0, hsq⟩ := Flt.sqrt_rung Ieee.single (by decide) T a (by rw [hT]; exact leastW32) (by rw [rgW32, infW32]; omega) (by rw [rgW32]; exact za) hsg
          rw [rgW32] at hR0
          have hnz : Flt.V Ieee.single (a % 2147483648) ≠ 0 := fun e => za (Flt.V_inj (f := Ieee.single) (by rw [e, Flt.V_zero]))
          have HU : Hid (∀ m1 j1 R : Nat, m1 * 2 ^ j1 = Flt.V Ieee.single (a % 2147483648) → 0 < m1 ∧ (Flt.RtR Ieee.single (m1 * 2 ^ (((j1 : Int) - 149) + 2 * 149).toNat) (1 * 2 ^ (-(2 * 149) - ((j1 : Int) - 149)).toNat) R → tldW32 (Ieee.single.sqrt a) = min R 2139095040)) := by
            intro m1 j1 R h1
            have hm : 0 < m1 := by
              rcases Nat.eq_zero_or_pos m1 with h | h
              · rw [h, Nat.zero_mul] at h1; exact absurd h1.symm hnz
              · exact h
            refine ⟨hm, fun hR => ?_⟩
            have he : R0 = R := by
              refine Flt.RtR.uniq (by omega) (by rw [Nat.one_mul]; exact Nat.two_pow_pos _) hR0 hR ?_
              rw [← h1, Nat.one_mul, Nat.mul_one, Nat.mul_assoc, Nat.mul_assoc, ← Nat.pow_add, ← Nat.pow_add]
              congr 2; omega
            rw [hsq, he, infW32]; rfl
          clear hR0 hsq hsg hnz hT
          generalize tldW32 (Ieee.single.sqrt a) = out at *
          generalize decide (2147483648 ≤ a) = sa at *
          clear na za ga ia ha
          go_enter Try.func17, Try.ntmps17
          go_wp2_with fail
          refine (HNa.out _).mono ?_
          rintro e w1 ⟨rfl, hw1⟩
          have hw1 := hw1.symm
          subst hw1
          go_wp2_with fail
          refine (HZa.out _).mono ?_
          rintro e w1 ⟨rfl, hw1⟩
          have hw1 := hw1.symm
          subst hw1
          go_wp2_with fail
          refine (HGa.out _).mono ?_
          rintro e w1 ⟨rfl, hw1⟩
          have hw1 := hw1.symm
          subst hw1
          go_wp2_with fail
          refine (HIa.out _).mono ?_
          rintro e w1 ⟨rfl, hw1⟩
          have hw1 := hw1.symm
          subst hw1
          go_wp2_with fail
          refine (HPa.out _).mono ?_
          rintro e w2 ⟨r1, m1, j1, rfl, ⟨k1, a1, a2, a3⟩, hV1, hm1, hj1, hb2⟩
          have HO := HU.out m1 j1
          have H2 := hide (And.intro a1 (And.intro a2 (And.intro a3 (And.intro hV1 (And.intro hj1 hb2)))))
          clear a1 a2 a3 hV1 hm1 hj1 hb2
          obtain ⟨e1, he1⟩ : ∃ e1 : Int, (j1 : Int) - 149 = e1 := ⟨_, rfl⟩
          rw [he1] at HO ⊢
          have B1 : -10000 ≤ e1 ∧ e1 ≤ 10000 := by have := H2.out.2.2.2.2.1; omega
          have HO2 := hide HO
          clear HO he1
          go_wp2_with fail
          refine (nOf 1 _ (by omega)).mono ?_
          rintro e w5 ⟨r5, rfl, kq, q1, q2, q3, hb5⟩
          have HNr := hide (rNearestRoot32 r1 r5 k1 m1 kq 1 e1 w5 (H2.out.1.below hb5) q1 H2.out.2.1 q2 (HO2.out 0 H2.out.2.2.2.1).1 (by omega) (by have := H2.out.2.2.1; omega) (by omega) (by omega))
          have HB5 := hide (H2.out.2.2.2.2.2.trans (hb5.mono H2.out.2.2.2.2.2.size))
          clear q1 q2 q3 hb5
          go_wp2_with fail
          refine HNr.out.mono ?_
          rintro e w6 ⟨⟨R, hR, rfl⟩, hb6⟩
          have HOut := hide ((HO2.out R H2.out.2.2.2.1).2 hR)
          have HB6 := hide (HB5.out.trans (hb6.mono HB5.out.size))
          clear hb6 hR HNr
          go_wp2_with fail
          go_ret
          exact ⟨by rw [HOut.out]; rfl, HB6.out⟩

end Go.Proofs.Ytdiinhccfifiaab

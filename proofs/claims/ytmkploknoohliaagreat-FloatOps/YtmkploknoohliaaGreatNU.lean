/- The document's Nearest. -/
import Derived.Test.YtmkploknoohliaaGreatNT
namespace Go.Proofs.YtmkploknoohliaaGreat
open Go.RowKit
open M
set_option linter.unusedVariables false
set_option linter.unusedSimpArgs false

theorem blen_pos {N : Nat} (h : 0 < N) : blen N = N.log2 + 1 := if_neg (by omega)

/-- What Nearest tells. -/
def nrst64 (neg : Bool) (P Q : Nat) (e : Int) : Nat := wd64 neg (min (Flt.rnd Ieee.double (P * 2 ^ (e + 1074).toNat) (Q * 2 ^ (-1074 - e).toNat)) 9218868437227405312)

/-- rounded, of a quotient. -/
theorem rrounded_quot64 (neg : Bool) (P Q : Nat) (e s u : Int) (P' Q' : Nat) (hP : 0 < P) (hQ : 0 < Q) (hs : s = 56 + ((Q.log2 + 1 : Nat) : Int) - ((P.log2 + 1 : Nat) : Int)) (hu : u = e - s) (hPQ : Shared P Q s P' Q') (he : -20000 ≤ e ∧ e ≤ 20000) (hsb : -200000 ≤ s ∧ s ≤ 200000) (v : Value) (kk : Nat) (w : World) (h : Row w v kk (P' / Q')) (hnr : Nrm kk (P' / Q')) (hkk : kk ≤ 50000) :
    Calls Tryz.prog 93 #[.bool neg, v, .int .i64 u, .bool (decide (P' % Q' ≠ 0)), .int .i64 64] w fun r w' => r = .returned (.int .u64 (nrst64 neg P Q e : Nat)) ∧ Below w.heap.size w w' := by
  obtain ⟨k, sh, g, q1, q2, q3, q4, q5, q6, q7, q8, q9, q10⟩ := Flt.nearest_math Ieee.double 1074 P Q e s u P' Q' hP hQ (by rw [hs]; show _ = ((52 : Nat) : Int) + 4 + _ - _; omega) hu hPQ
  have hfb : Ieee.double.fractionBits = 52 := rfl
  have hbin : Ieee.double.binade = 4503599627370496 := by decide
  rw [hfb] at q4 q5 q6 q8
  rw [hbin] at q7 q10
  unfold nrst64
  have e1 : (((1074 : Nat) : Int)) = 1074 := rfl
  rw [e1] at q8 q9 q10
  rw [q10]
  have hbl : blen (P' / Q') = g + 1 := by rw [blen_pos (Nat.pos_of_ne_zero q2), q3]
  have hcl : P' / Q' / 2 ^ sh < 18014398509481984 := Nat.lt_of_lt_of_le q6 (Nat.le_of_eq (by decide))
  by_cases hbig : 2000 < ((g + 1 : Nat) : Int) + u - 53
  · refine (rroundedInf64 neg _ v kk (P' / Q') u (g + 1) w h hnr (by omega) hbl (by omega) (by omega) hbig).mono ?_
    rintro r w' ⟨rfl, rfl⟩
    refine ⟨?_, Below.refl _ _⟩
    have hk : 2149 < k := by omega
    rw [Nat.min_eq_right (by omega)]
  · refine (rrounded64 neg _ v kk (P' / Q') u (g + 1) k sh _ w h hnr (by omega) hbl (by omega) (by omega) (by omega) (by omega) (by omega) q9 (by omega) rfl hcl q7).mono ?_
    rintro r w' ⟨rfl, hb⟩
    exact ⟨rfl, hb⟩

set_option maxRecDepth 100000 in
set_option maxHeartbeats 400000 in
theorem rNearest64 (neg : Bool) (v q : Value) (kp P kq Q : Nat) (e : Int) (w : World) (h : Row w v kp P) (h' : Row w q kq Q) (hn : Nrm kp P) (hn' : Nrm kq Q) (hQ : 0 < Q) (hkp : kp ≤ 2000) (hkq : kq ≤ 2000) (he : -20000 ≤ e ∧ e ≤ 20000) :
    Calls Tryz.prog 68 #[.bool neg, v, q, .int .i64 e, .int .i64 64] w fun r w' => r = .returned (.int .u64 (nrst64 neg P Q e : Nat)) ∧ Below w.heap.size w w' := by
  by_cases hP : P = 0
  · subst hP
    have hk0 : kp = 0 := hn.zero_iff.2 rfl
    subst hk0
    have hz : nrst64 neg 0 Q e = wd64 neg 0 := by
      unfold nrst64
      rw [Nat.zero_mul]
      unfold Flt.rnd Flt.cutE
      simp
    rw [hz]
    obtain ⟨_, _, ad, cap, rfl, _⟩ := h
    have HSg : Hid (∀ w : World, Calls Tryz.prog 70 #[.bool neg, .int .u64 0, .int .i64 64] w fun e w' => e = .returned (.int .u64 (wd64 neg 0 : Nat)) ∧ w' = w) := fun w => rsigned64 neg 0 w (by omega)
    generalize wd64 neg 0 = out at *
    clear h' hn hn' hz
    go_enter Tryz.func68, Tryz.ntmps68
    go_wp2_with fail
    refine (HSg.out _).mono ?_
    rintro r w1 ⟨rfl, rfl⟩
    go_wp2_with fail
    go_ret
    exact ⟨rfl, Below.refl _ _⟩
  · have hP0 : 0 < P := by omega
    have hkp0 : kp ≠ 0 := fun hk => hP (hn.zero_iff.1 hk)
    obtain ⟨a, ha, hab⟩ : ∃ a : Nat, P.log2 + 1 = a ∧ a ≤ 70000 := ⟨_, rfl, by have := blen_row h.1; rw [blen_pos hP0] at this; omega⟩
    obtain ⟨b, hb, hbb⟩ : ∃ b : Nat, Q.log2 + 1 = b ∧ b ≤ 70000 := ⟨_, rfl, by have := blen_row h'.1; rw [blen_pos hQ] at this; omega⟩
    obtain ⟨s, hs⟩ : ∃ s : Int, s = 56 + (b : Int) - (a : Int) := ⟨_, rfl⟩
    obtain ⟨u, hu⟩ : ∃ u : Int, u = e - s := ⟨_, rfl⟩
    obtain ⟨P', Q', hPQ⟩ : ∃ P' Q', Shared P Q s P' Q' := by
      rcases Int.lt_or_le s 0 with h1 | h1
      · exact ⟨_, _, .inr ⟨h1, rfl, rfl⟩⟩
      · exact ⟨_, _, .inl ⟨h1, rfl, rfl⟩⟩
    have HLp : Hid (∀ w1 : World, Row w1 v kp P → Calls Tryz.prog 90 #[v] w1 fun e w' => e = .returned (.int .i64 a) ∧ w' = w1) := fun w1 hr => by
      have := nLen v kp P w1 hr hn (by omega)
      rwa [blen_pos hP0, ha] at this
    have HLq : Hid (∀ w1 : World, Row w1 q kq Q → Calls Tryz.prog 90 #[q] w1 fun e w' => e = .returned (.int .i64 b) ∧ w' = w1) := fun w1 hr => by
      have := nLen q kq Q w1 hr hn' (by omega)
      rwa [blen_pos hQ, hb] at this
    have HQ := hide (rquotient v q kp P kq Q s P' Q' w h h' hn hn' hQ hkp hkq (by omega) hPQ)
    have HR := hide (fun (v2 : Value) (kk : Nat) (w2 : World) (hr : Row w2 v2 kk (P' / Q')) (hnr : Nrm kk (P' / Q')) (hk : kk ≤ 50000) => rrounded_quot64 neg P Q e s u P' Q' hP0 hQ (by rw [ha, hb]; exact hs) hu hPQ he (by omega) v2 kk w2 hr hnr hk)
    have Hrow := hide (And.intro h h')
    generalize nrst64 neg P Q e = out at *
    have he1 : ¬ (1048576 : Int) < e := by omega
    have he2 : ¬ e < (-1048576 : Int) := by omega
    obtain ⟨x1, hx1⟩ : ∃ x1 : Int, (a : Int) - (b : Int) = x1 := ⟨_, rfl⟩
    obtain ⟨x2, hx2⟩ : ∃ x2 : Int, x1 + e = x2 := ⟨_, rfl⟩
    obtain ⟨x3, hx3⟩ : ∃ x3 : Int, x2 - 53 = x3 := ⟨_, rfl⟩
    have hx4 : x3 - 3 = u := by omega
    have hx5 : e - u = s := by omega
    have b1 : -100000 ≤ x1 ∧ x1 ≤ 100000 := by omega
    have b2 : -200000 ≤ x2 ∧ x2 ≤ 200000 := by omega
    have b3 : -300000 ≤ x3 ∧ x3 ≤ 300000 := by omega
    have b4 : -400000 ≤ u ∧ u ≤ 400000 := by omega
    have b5 : -400000 ≤ s ∧ s ≤ 400000 := by omega
    obtain ⟨hN, hkpb, ad, cap, hv, hcap, hcell⟩ := h
    have hkpi : (0 : Int) < (kp : Int) := by omega
    have hkpz : ((kp : Int) == 0) = false := by simp; omega
    have hkpc : (kp : Int) ≤ 2000 := by omega
    clear hN hcell h' hn hn' hQ hkp hkq he hP hP0 ha hb hab hbb hs hu hPQ hkp0 hcap hkpb
    subst hv
    go_enter Tryz.func68, Tryz.ntmps68
    go_wp2_with (simp only [hkpz])
    refine (HLp.out _ Hrow.out.1).mono ?_
    rintro r w1 ⟨rfl, hw1⟩
    have hw1 := hw1.symm
    subst hw1
    go_wp2_with fail
    refine (HLq.out _ Hrow.out.2).mono ?_
    rintro r w1 ⟨rfl, hw1⟩
    have hw1 := hw1.symm
    subst hw1
    go_wp2_with (simp only [hx1, hx2])
    refine (rdigits64 _).mono ?_
    rintro r w1 ⟨rfl, hw1⟩
    have hw1 := hw1.symm
    subst hw1
    go_wp2_with (simp only [hx1, hx2, hx3, hx4, hx5])
    refine HQ.out.mono ?_
    rintro r w2 ⟨n2, r2, rfl, ⟨kn, an, bn, cn⟩, ⟨kr, ar, br, cr⟩, hb2⟩
    obtain ⟨_, _, adr, capr, rfl, _⟩ := ar
    have hdec : decide (P' % Q' ≠ 0) = true ↔ kr ≠ 0 := by
      rw [decide_eq_true_iff, ne_eq, ne_eq, br.zero_iff]
    have H2 := hide (And.intro an (And.intro bn (And.intro cn hb2)))
    clear an bn cn hb2 br cr
    generalize decide (P' % Q' ≠ 0) = more at *
    cases more
    · have hk0 : kr = 0 := Classical.byContradiction fun h => by simpa using hdec.2 h
      subst hk0
      clear hdec
      go_wp2_with fail
      refine (HR.out n2 kn w2 H2.out.1 H2.out.2.1 H2.out.2.2.1).mono ?_
      rintro r w3 ⟨rfl, hb3⟩
      go_wp2_with fail
      go_ret
      exact ⟨rfl, H2.out.2.2.2.trans (hb3.mono H2.out.2.2.2.size)⟩
    · have hkn : 0 < kr := by have := hdec.1 rfl; omega
      have hk0 : (0 : Int) < (kr : Int) := by omega
      have hk1 : decide ((0 : Int) < (kr : Int)) = true := by simp; omega
      have hk2 : decide (0 < kr) = true := by simp; omega
      clear hdec
      go_wp2_with (simp only [hk1, hk2])
      refine (HR.out n2 kn w2 H2.out.1 H2.out.2.1 H2.out.2.2.1).mono ?_
      rintro r w3 ⟨rfl, hb3⟩
      go_wp2_with fail
      go_ret
      exact ⟨rfl, H2.out.2.2.2.trans (hb3.mono H2.out.2.2.2.size)⟩

/-- What Nearest tells. -/
def nrst32 (neg : Bool) (P Q : Nat) (e : Int) : Nat := wd32 neg (min (Flt.rnd Ieee.single (P * 2 ^ (e + 149).toNat) (Q * 2 ^ (-149 - e).toNat)) 2139095040)

/-- rounded, of a quotient. -/
theorem rrounded_quot32 (neg : Bool) (P Q : Nat) (e s u : Int) (P' Q' : Nat) (hP : 0 < P) (hQ : 0 < Q) (hs : s = 27 + ((Q.log2 + 1 : Nat) : Int) - ((P.log2 + 1 : Nat) : Int)) (hu : u = e - s) (hPQ : Shared P Q s P' Q') (he : -20000 ≤ e ∧ e ≤ 20000) (hsb : -200000 ≤ s ∧ s ≤ 200000) (v : Value) (kk : Nat) (w : World) (h : Row w v kk (P' / Q')) (hnr : Nrm kk (P' / Q')) (hkk : kk ≤ 50000) :
    Calls Tryz.prog 93 #[.bool neg, v, .int .i64 u, .bool (decide (P' % Q' ≠ 0)), .int .i64 32] w fun r w' => r = .returned (.int .u64 (nrst32 neg P Q e : Nat)) ∧ Below w.heap.size w w' := by
  obtain ⟨k, sh, g, q1, q2, q3, q4, q5, q6, q7, q8, q9, q10⟩ := Flt.nearest_math Ieee.single 149 P Q e s u P' Q' hP hQ (by rw [hs]; show _ = ((23 : Nat) : Int) + 4 + _ - _; omega) hu hPQ
  have hfb : Ieee.single.fractionBits = 23 := rfl
  have hbin : Ieee.single.binade = 8388608 := by decide
  rw [hfb] at q4 q5 q6 q8
  rw [hbin] at q7 q10
  unfold nrst32
  have e1 : (((149 : Nat) : Int)) = 149 := rfl
  rw [e1] at q8 q9 q10
  rw [q10]
  have hbl : blen (P' / Q') = g + 1 := by rw [blen_pos (Nat.pos_of_ne_zero q2), q3]
  have hcl : P' / Q' / 2 ^ sh < 33554432 := Nat.lt_of_lt_of_le q6 (Nat.le_of_eq (by decide))
  by_cases hbig : 2000 < ((g + 1 : Nat) : Int) + u - 24
  · refine (rroundedInf32 neg _ v kk (P' / Q') u (g + 1) w h hnr (by omega) hbl (by omega) (by omega) hbig).mono ?_
    rintro r w' ⟨rfl, rfl⟩
    refine ⟨?_, Below.refl _ _⟩
    have hk : 2149 < k := by omega
    rw [Nat.min_eq_right (by omega)]
  · refine (rrounded32 neg _ v kk (P' / Q') u (g + 1) k sh _ w h hnr (by omega) hbl (by omega) (by omega) (by omega) (by omega) (by omega) q9 (by omega) rfl hcl q7).mono ?_
    rintro r w' ⟨rfl, hb⟩
    exact ⟨rfl, hb⟩

set_option maxRecDepth 100000 in
set_option maxHeartbeats 400000 in
theorem rNearest32 (neg : Bool) (v q : Value) (kp P kq Q : Nat) (e : Int) (w : World) (h : Row w v kp P) (h' : Row w q kq Q) (hn : Nrm kp P) (hn' : Nrm kq Q) (hQ : 0 < Q) (hkp : kp ≤ 2000) (hkq : kq ≤ 2000) (he : -20000 ≤ e ∧ e ≤ 20000) :
    Calls Tryz.prog 68 #[.bool neg, v, q, .int .i64 e, .int .i64 32] w fun r w' => r = .returned (.int .u64 (nrst32 neg P Q e : Nat)) ∧ Below w.heap.size w w' := by
  by_cases hP : P = 0
  · subst hP
    have hk0 : kp = 0 := hn.zero_iff.2 rfl
    subst hk0
    have hz : nrst32 neg 0 Q e = wd32 neg 0 := by
      unfold nrst32
      rw [Nat.zero_mul]
      unfold Flt.rnd Flt.cutE
      simp
    rw [hz]
    obtain ⟨_, _, ad, cap, rfl, _⟩ := h
    have HSg : Hid (∀ w : World, Calls Tryz.prog 70 #[.bool neg, .int .u64 0, .int .i64 32] w fun e w' => e = .returned (.int .u64 (wd32 neg 0 : Nat)) ∧ w' = w) := fun w => rsigned32 neg 0 w (by omega)
    generalize wd32 neg 0 = out at *
    clear h' hn hn' hz
    go_enter Tryz.func68, Tryz.ntmps68
    go_wp2_with fail
    refine (HSg.out _).mono ?_
    rintro r w1 ⟨rfl, rfl⟩
    go_wp2_with fail
    go_ret
    exact ⟨rfl, Below.refl _ _⟩
  · have hP0 : 0 < P := by omega
    have hkp0 : kp ≠ 0 := fun hk => hP (hn.zero_iff.1 hk)
    obtain ⟨a, ha, hab⟩ : ∃ a : Nat, P.log2 + 1 = a ∧ a ≤ 70000 := ⟨_, rfl, by have := blen_row h.1; rw [blen_pos hP0] at this; omega⟩
    obtain ⟨b, hb, hbb⟩ : ∃ b : Nat, Q.log2 + 1 = b ∧ b ≤ 70000 := ⟨_, rfl, by have := blen_row h'.1; rw [blen_pos hQ] at this; omega⟩
    obtain ⟨s, hs⟩ : ∃ s : Int, s = 27 + (b : Int) - (a : Int) := ⟨_, rfl⟩
    obtain ⟨u, hu⟩ : ∃ u : Int, u = e - s := ⟨_, rfl⟩
    obtain ⟨P', Q', hPQ⟩ : ∃ P' Q', Shared P Q s P' Q' := by
      rcases Int.lt_or_le s 0 with h1 | h1
      · exact ⟨_, _, .inr ⟨h1, rfl, rfl⟩⟩
      · exact ⟨_, _, .inl ⟨h1, rfl, rfl⟩⟩
    have HLp : Hid (∀ w1 : World, Row w1 v kp P → Calls Tryz.prog 90 #[v] w1 fun e w' => e = .returned (.int .i64 a) ∧ w' = w1) := fun w1 hr => by
      have := nLen v kp P w1 hr hn (by omega)
      rwa [blen_pos hP0, ha] at this
    have HLq : Hid (∀ w1 : World, Row w1 q kq Q → Calls Tryz.prog 90 #[q] w1 fun e w' => e = .returned (.int .i64 b) ∧ w' = w1) := fun w1 hr => by
      have := nLen q kq Q w1 hr hn' (by omega)
      rwa [blen_pos hQ, hb] at this
    have HQ := hide (rquotient v q kp P kq Q s P' Q' w h h' hn hn' hQ hkp hkq (by omega) hPQ)
    have HR := hide (fun (v2 : Value) (kk : Nat) (w2 : World) (hr : Row w2 v2 kk (P' / Q')) (hnr : Nrm kk (P' / Q')) (hk : kk ≤ 50000) => rrounded_quot32 neg P Q e s u P' Q' hP0 hQ (by rw [ha, hb]; exact hs) hu hPQ he (by omega) v2 kk w2 hr hnr hk)
    have Hrow := hide (And.intro h h')
    generalize nrst32 neg P Q e = out at *
    have he1 : ¬ (1048576 : Int) < e := by omega
    have he2 : ¬ e < (-1048576 : Int) := by omega
    obtain ⟨x1, hx1⟩ : ∃ x1 : Int, (a : Int) - (b : Int) = x1 := ⟨_, rfl⟩
    obtain ⟨x2, hx2⟩ : ∃ x2 : Int, x1 + e = x2 := ⟨_, rfl⟩
    obtain ⟨x3, hx3⟩ : ∃ x3 : Int, x2 - 24 = x3 := ⟨_, rfl⟩
    have hx4 : x3 - 3 = u := by omega
    have hx5 : e - u = s := by omega
    have b1 : -100000 ≤ x1 ∧ x1 ≤ 100000 := by omega
    have b2 : -200000 ≤ x2 ∧ x2 ≤ 200000 := by omega
    have b3 : -300000 ≤ x3 ∧ x3 ≤ 300000 := by omega
    have b4 : -400000 ≤ u ∧ u ≤ 400000 := by omega
    have b5 : -400000 ≤ s ∧ s ≤ 400000 := by omega
    obtain ⟨hN, hkpb, ad, cap, hv, hcap, hcell⟩ := h
    have hkpi : (0 : Int) < (kp : Int) := by omega
    have hkpz : ((kp : Int) == 0) = false := by simp; omega
    have hkpc : (kp : Int) ≤ 2000 := by omega
    clear hN hcell h' hn hn' hQ hkp hkq he hP hP0 ha hb hab hbb hs hu hPQ hkp0 hcap hkpb
    subst hv
    go_enter Tryz.func68, Tryz.ntmps68
    go_wp2_with (simp only [hkpz])
    refine (HLp.out _ Hrow.out.1).mono ?_
    rintro r w1 ⟨rfl, hw1⟩
    have hw1 := hw1.symm
    subst hw1
    go_wp2_with fail
    refine (HLq.out _ Hrow.out.2).mono ?_
    rintro r w1 ⟨rfl, hw1⟩
    have hw1 := hw1.symm
    subst hw1
    go_wp2_with (simp only [hx1, hx2])
    refine (rdigits32 _).mono ?_
    rintro r w1 ⟨rfl, hw1⟩
    have hw1 := hw1.symm
    subst hw1
    go_wp2_with (simp only [hx1, hx2, hx3, hx4, hx5])
    refine HQ.out.mono ?_
    rintro r w2 ⟨n2, r2, rfl, ⟨kn, an, bn, cn⟩, ⟨kr, ar, br, cr⟩, hb2⟩
    obtain ⟨_, _, adr, capr, rfl, _⟩ := ar
    have hdec : decide (P' % Q' ≠ 0) = true ↔ kr ≠ 0 := by
      rw [decide_eq_true_iff, ne_eq, ne_eq, br.zero_iff]
    have H2 := hide (And.intro an (And.intro bn (And.intro cn hb2)))
    clear an bn cn hb2 br cr
    generalize decide (P' % Q' ≠ 0) = more at *
    cases more
    · have hk0 : kr = 0 := Classical.byContradiction fun h => by simpa using hdec.2 h
      subst hk0
      clear hdec
      go_wp2_with fail
      refine (HR.out n2 kn w2 H2.out.1 H2.out.2.1 H2.out.2.2.1).mono ?_
      rintro r w3 ⟨rfl, hb3⟩
      go_wp2_with fail
      go_ret
      exact ⟨rfl, H2.out.2.2.2.trans (hb3.mono H2.out.2.2.2.size)⟩
    · have hkn : 0 < kr := by have := hdec.1 rfl; omega
      have hk0 : (0 : Int) < (kr : Int) := by omega
      have hk1 : decide ((0 : Int) < (kr : Int)) = true := by simp; omega
      have hk2 : decide (0 < kr) = true := by simp; omega
      clear hdec
      go_wp2_with (simp only [hk1, hk2])
      refine (HR.out n2 kn w2 H2.out.1 H2.out.2.1 H2.out.2.2.1).mono ?_
      rintro r w3 ⟨rfl, hb3⟩
      go_wp2_with fail
      go_ret
      exact ⟨rfl, H2.out.2.2.2.trans (hb3.mono H2.out.2.2.2.size)⟩

end Go.Proofs.YtmkploknoohliaaGreat

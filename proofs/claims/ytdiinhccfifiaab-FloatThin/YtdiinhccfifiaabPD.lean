/- The document's Add, Sub, of width 32. -/
import Derived.Test.YtdiinhccfifiaabPA
import Derived.Test.YtdiinhccfifiaabPB
namespace Go.Proofs.Ytdiinhccfifiaab
open Go.RowKit
open M
set_option linter.unusedVariables false
set_option linter.unusedSimpArgs false

/-- What is told of an operation's bits, of this width. -/
def tldW32 : Option Nat → Nat
  | some r => r
  | none => 2143289344
theorem wd_word32 (s : Bool) (R : Nat) : wd32 s R = Ieee.single.word s R := by cases s <;> rfl
theorem rgW32 (x : Nat) : Flt.rg Ieee.single x = x % 2147483648 := rfl
theorem infW32 : Ieee.single.infRung = 2139095040 := by decide +kernel
theorem sgW32 (x : Nat) (hx : x < 4294967296) : Flt.sg Ieee.single x = decide (2147483648 ≤ x) := by
  show (x / 2147483648 % 2 == 1) = _
  have h : x / 2147483648 = 0 ∨ x / 2147483648 = 1 := by omega
  rcases h with h | h
  · rw [h, decide_eq_false (by omega)]; rfl
  · rw [h, decide_eq_true (by omega)]; rfl
theorem selfW32 (a : Nat) (ha : a < 4294967296) (h : a % 2147483648 = 2139095040) : Ieee.single.word (Flt.sg Ieee.single a) 2139095040 = a := by
  have := Flt.word_self Ieee.single a (show a < 2 * 2147483648 by omega)
  rwa [rgW32, h] at this
theorem leastW32 : Ieee.single.leastPlace = -((149 : Nat) : Int) := by decide
theorem svW32 (a : Nat) (ha : a < 4294967296) : Flt.sv Ieee.single a = Ieee.signed (decide (2147483648 ≤ a)) (Flt.V Ieee.single (a % 2147483648)) 0 := by
  rw [Flt.sv_signed, sgW32 a ha, rgW32]

/-- A sum in units, as Nearest tells it. -/
theorem tog_add32 (a b m1 j1 m2 j2 : Nat) (neg : Bool) (z : Int) (ha : a < 4294967296) (hb : b < 4294967296) (fa : a % 2147483648 < 2139095040) (fb : b % 2147483648 < 2139095040) (h1 : m1 * 2 ^ j1 = Flt.V Ieee.single (a % 2147483648)) (h2 : m2 * 2 ^ j2 = Flt.V Ieee.single (b % 2147483648))
    (ht : Tog (decide (2147483648 ≤ a)) (decide (2147483648 ≤ b)) (m1 * 2 ^ (((j1 : Int) - 149) - min ((j1 : Int) - 149) ((j2 : Int) - 149)).toNat) (m2 * 2 ^ (((j2 : Int) - 149) - min ((j1 : Int) - 149) ((j2 : Int) - 149)).toNat) neg z) :
    (z = 0 → tldW32 (Ieee.single.add a b) = wd32 (decide (2147483648 ≤ a) && decide (2147483648 ≤ b)) 0) ∧ (z ≠ 0 → tldW32 (Ieee.single.add a b) = nrst32 neg z.natAbs 1 (min ((j1 : Int) - 149) ((j2 : Int) - 149))) := by
  rw [Flt.add_rnd Ieee.single a b (by rw [rgW32, infW32]; exact fa) (by rw [rgW32, infW32]; exact fb), svW32 a ha, svW32 b hb, sgW32 a ha, sgW32 b hb, infW32, ← h1, ← h2]
  obtain ⟨hz, hneg⟩ := ht
  obtain ⟨c, hc⟩ : ∃ c : Nat, min ((j1 : Int) - 149) ((j2 : Int) - 149) = (c : Int) - 149 := ⟨min j1 j2, by omega⟩
  rw [hc] at hz ⊢
  obtain ⟨d1, hd1⟩ : ∃ d1 : Nat, j1 = d1 + c := ⟨j1 - c, by omega⟩
  obtain ⟨d2, hd2⟩ : ∃ d2 : Nat, j2 = d2 + c := ⟨j2 - c, by omega⟩
  rw [show ((j1 : Int) - 149 - ((c : Int) - 149)).toNat = d1 by omega, show ((j2 : Int) - 149 - ((c : Int) - 149)).toNat = d2 by omega] at hz
  have key : Ieee.signed (decide (2147483648 ≤ a)) (m1 * 2 ^ j1) 0 + Ieee.signed (decide (2147483648 ≤ b)) (m2 * 2 ^ j2) 0 = z * ((2 ^ c : Nat) : Int) := by
    rw [hz, Int.add_mul, Flt.signed_scale, Flt.signed_scale, hd1, hd2, Nat.pow_add, Nat.pow_add, Nat.zero_add]
    simp only [Nat.mul_assoc]
  rw [key]
  have hp : (0 : Int) < ((2 ^ c : Nat) : Int) := by exact_mod_cast Nat.two_pow_pos c
  rw [Flt.sgn2_scale _ _ _ _ hp, Flt.natAbs_scale]
  constructor
  · intro h0
    subst h0
    rw [Int.natAbs_zero, Nat.zero_mul, Flt.rnd_zero]
    unfold Flt.sgn2
    rw [if_pos rfl, ← wd_word32]
    show wd32 _ (min 0 2139095040) = _
    rw [Nat.zero_min]
  · intro h0
    rw [hneg h0]
    unfold Flt.sgn2 nrst32
    rw [if_neg h0, wd_word32]
    show Ieee.single.word _ (min _ 2139095040) = _
    rw [show ((c : Int) - 149 + 149).toNat = c by omega, show (-149 - ((c : Int) - 149)).toNat = 0 by omega]

set_option maxRecDepth 100000 in
set_option maxHeartbeats 1000000 in
theorem rAdd32 (a b : Nat) (w : World) (ha : a < 4294967296) (hb : b < 4294967296) : Calls Try.prog 9 #[.int .u64 a, .int .u64 b, .int .i64 32] w fun e w' => e = .returned (.int .u64 (tldW32 (Ieee.single.add a b) : Nat)) ∧ Below w.heap.size w w' := by
  have HNa := fhide (fun w : World => rIsNan32 a w ha)
  have HNb := fhide (fun w : World => rIsNan32 b w hb)
  have HIa := fhide (fun w : World => rIsInf32 a w ha)
  have HIb := fhide (fun w : World => rIsInf32 b w hb)
  have HPa := fhide (fun w : World => rParts32 a w ha)
  have HPb := fhide (fun w : World => rParts32 b w hb)
  by_cases na : 2139095040 < a % 2147483648
  · rw [decide_eq_true na] at HNa
    have ho : tldW32 (Ieee.single.add a b) = 2143289344 := by rw [Flt.add_nan2 Ieee.single (by decide) a b (.inl (by rw [rgW32, infW32]; exact na))]; rfl
    rw [ho]
    clear ho na ha hb
    go_enter Try.func9, Try.ntmps9
    go_wp2_with fail
    refine (HNa.out _).mono ?_
    rintro e w1 ⟨rfl, hw1⟩
    have hw1 := hw1.symm
    subst hw1
    go_wp2_with fail
    refine (rNan32 _).mono ?_
    rintro e w1 ⟨rfl, hw1⟩
    have hw1 := hw1.symm
    subst hw1
    go_wp2_with fail
    go_ret
    exact ⟨rfl, Below.refl _ _⟩
  · rw [decide_eq_false na] at HNa
    by_cases nb : 2139095040 < b % 2147483648
    · rw [decide_eq_true nb] at HNb
      have ho : tldW32 (Ieee.single.add a b) = 2143289344 := by rw [Flt.add_nan2 Ieee.single (by decide) a b (.inr (by rw [rgW32, infW32]; exact nb))]; rfl
      rw [ho]
      clear ho na nb ha hb
      go_enter Try.func9, Try.ntmps9
      go_wp2_with fail
      refine (HNa.out _).mono ?_
      rintro e w1 ⟨rfl, hw1⟩
      have hw1 := hw1.symm
      subst hw1
      go_wp2_with fail
      refine (HNb.out _).mono ?_
      rintro e w1 ⟨rfl, hw1⟩
      have hw1 := hw1.symm
      subst hw1
      go_wp2_with fail
      refine (rNan32 _).mono ?_
      rintro e w1 ⟨rfl, hw1⟩
      have hw1 := hw1.symm
      subst hw1
      go_wp2_with fail
      go_ret
      exact ⟨rfl, Below.refl _ _⟩
    · rw [decide_eq_false nb] at HNb
      by_cases ia : a % 2147483648 = 2139095040
      · rw [decide_eq_true ia] at HIa
        by_cases ib : b % 2147483648 = 2139095040
        · rw [decide_eq_true ib] at HIb
          have hadd := Flt.add_inf_inf Ieee.single (by decide) a b (by rw [rgW32, infW32]; exact ia) (by rw [rgW32, infW32]; exact ib)
          by_cases hab : a = b
          · have ho : tldW32 (Ieee.single.add a b) = a := by
              rw [hadd, if_pos (by rw [hab]), infW32, selfW32 a ha ia]; rfl
            have hne : ((a : Int) != (b : Int)) = false := by simp; omega
            have hne2 : ((a : Int) == (b : Int)) = true := by simp; omega
            rw [ho]
            clear ho na nb ha hb ia ib hadd hab
            go_enter Try.func9, Try.ntmps9
            go_wp2_with fail
            refine (HNa.out _).mono ?_
            rintro e w1 ⟨rfl, hw1⟩
            have hw1 := hw1.symm
            subst hw1
            go_wp2_with fail
            refine (HNb.out _).mono ?_
            rintro e w1 ⟨rfl, hw1⟩
            have hw1 := hw1.symm
            subst hw1
            go_wp2_with fail
            refine (HIa.out _).mono ?_
            rintro e w1 ⟨rfl, hw1⟩
            have hw1 := hw1.symm
            subst hw1
            go_wp2_with fail
            refine (HIb.out _).mono ?_
            rintro e w1 ⟨rfl, hw1⟩
            have hw1 := hw1.symm
            subst hw1
            go_wp2_with (simp only [hne, hne2])
            refine (HIa.out _).mono ?_
            rintro e w1 ⟨rfl, hw1⟩
            have hw1 := hw1.symm
            subst hw1
            go_wp2_with fail
            go_ret
            exact ⟨rfl, Below.refl _ _⟩
          · have ho : tldW32 (Ieee.single.add a b) = 2143289344 := by
              rw [hadd, if_neg]
              · rfl
              · rw [sgW32 a ha, sgW32 b hb]
                intro h
                rw [decide_eq_decide] at h
                omega
            have hne : ((a : Int) != (b : Int)) = true := by simp; omega
            have hne2 : ((a : Int) == (b : Int)) = false := by simp; omega
            rw [ho]
            clear ho na nb ha hb ia ib hadd hab
            go_enter Try.func9, Try.ntmps9
            go_wp2_with fail
            refine (HNa.out _).mono ?_
            rintro e w1 ⟨rfl, hw1⟩
            have hw1 := hw1.symm
            subst hw1
            go_wp2_with fail
            refine (HNb.out _).mono ?_
            rintro e w1 ⟨rfl, hw1⟩
            have hw1 := hw1.symm
            subst hw1
            go_wp2_with fail
            refine (HIa.out _).mono ?_
            rintro e w1 ⟨rfl, hw1⟩
            have hw1 := hw1.symm
            subst hw1
            go_wp2_with fail
            refine (HIb.out _).mono ?_
            rintro e w1 ⟨rfl, hw1⟩
            have hw1 := hw1.symm
            subst hw1
            go_wp2_with (simp only [hne, hne2])
            refine (rNan32 _).mono ?_
            rintro e w1 ⟨rfl, hw1⟩
            have hw1 := hw1.symm
            subst hw1
            go_wp2_with fail
            go_ret
            exact ⟨rfl, Below.refl _ _⟩
        · rw [decide_eq_false ib] at HIb
          have ho : tldW32 (Ieee.single.add a b) = a := by
            rw [Flt.add_inf_fin Ieee.single (by decide) a b (by rw [rgW32, infW32]; exact ia) (by rw [rgW32, infW32]; omega), infW32, selfW32 a ha ia]; rfl
          rw [ho]
          clear ho na nb ha hb ia ib
          go_enter Try.func9, Try.ntmps9
          go_wp2_with fail
          refine (HNa.out _).mono ?_
          rintro e w1 ⟨rfl, hw1⟩
          have hw1 := hw1.symm
          subst hw1
          go_wp2_with fail
          refine (HNb.out _).mono ?_
          rintro e w1 ⟨rfl, hw1⟩
          have hw1 := hw1.symm
          subst hw1
          go_wp2_with fail
          refine (HIa.out _).mono ?_
          rintro e w1 ⟨rfl, hw1⟩
          have hw1 := hw1.symm
          subst hw1
          go_wp2_with fail
          refine (HIb.out _).mono ?_
          rintro e w1 ⟨rfl, hw1⟩
          have hw1 := hw1.symm
          subst hw1
          go_wp2_with fail
          refine (HIa.out _).mono ?_
          rintro e w1 ⟨rfl, hw1⟩
          have hw1 := hw1.symm
          subst hw1
          go_wp2_with fail
          go_ret
          exact ⟨rfl, Below.refl _ _⟩
      · rw [decide_eq_false ia] at HIa
        by_cases ib : b % 2147483648 = 2139095040
        · rw [decide_eq_true ib] at HIb
          have ho : tldW32 (Ieee.single.add a b) = b := by
            rw [Flt.add_fin_inf Ieee.single (by decide) a b (by rw [rgW32, infW32]; omega) (by rw [rgW32, infW32]; exact ib), infW32, selfW32 b hb ib]; rfl
          rw [ho]
          clear ho na nb ha hb ia ib
          go_enter Try.func9, Try.ntmps9
          go_wp2_with fail
          refine (HNa.out _).mono ?_
          rintro e w1 ⟨rfl, hw1⟩
          have hw1 := hw1.symm
          subst hw1
          go_wp2_with fail
          refine (HNb.out _).mono ?_
          rintro e w1 ⟨rfl, hw1⟩
          have hw1 := hw1.symm
          subst hw1
          go_wp2_with fail
          refine (HIa.out _).mono ?_
          rintro e w1 ⟨rfl, hw1⟩
          have hw1 := hw1.symm
          subst hw1
          go_wp2_with fail
          refine (HIa.out _).mono ?_
          rintro e w1 ⟨rfl, hw1⟩
          have hw1 := hw1.symm
          subst hw1
          go_wp2_with fail
          refine (HIb.out _).mono ?_
          rintro e w1 ⟨rfl, hw1⟩
          have hw1 := hw1.symm
          subst hw1
          go_wp2_with fail
          go_ret
          exact ⟨rfl, Below.refl _ _⟩
        · rw [decide_eq_false ib] at HIb
          have HT := fhide (fun m1 j1 m2 j2 neg z h1 h2 => tog_add32 a b m1 j1 m2 j2 neg z ha hb (by omega) (by omega) h1 h2)
          have HSg := fhide (fun w : World => rsigned32 (decide (2147483648 ≤ a) && decide (2147483648 ≤ b)) 0 w (by omega))
          generalize tldW32 (Ieee.single.add a b) = out at *
          generalize decide (2147483648 ≤ a) = sa at *
          generalize decide (2147483648 ≤ b) = sb at *
          clear na nb ha hb ia ib
          go_enter Try.func9, Try.ntmps9
          go_wp2_with fail
          refine (HNa.out _).mono ?_
          rintro e w1 ⟨rfl, hw1⟩
          have hw1 := hw1.symm
          subst hw1
          go_wp2_with fail
          refine (HNb.out _).mono ?_
          rintro e w1 ⟨rfl, hw1⟩
          have hw1 := hw1.symm
          subst hw1
          go_wp2_with fail
          refine (HIa.out _).mono ?_
          rintro e w1 ⟨rfl, hw1⟩
          have hw1 := hw1.symm
          subst hw1
          go_wp2_with fail
          refine (HIa.out _).mono ?_
          rintro e w1 ⟨rfl, hw1⟩
          have hw1 := hw1.symm
          subst hw1
          go_wp2_with fail
          refine (HIb.out _).mono ?_
          rintro e w1 ⟨rfl, hw1⟩
          have hw1 := hw1.symm
          subst hw1
          go_wp2_with fail
          refine (HPa.out _).mono ?_
          rintro e w2 ⟨r1, m1, j1, rfl, ⟨k1, a1, a2, a3⟩, hV1, hm1, hj1, hb2⟩
          have H2 := hide (And.intro a1 (And.intro a2 (And.intro a3 (And.intro hV1 (And.intro hj1 hb2)))))
          clear a1 a2 a3 hV1 hm1 hj1 hb2
          obtain ⟨e1, he1⟩ : ∃ e1 : Int, (j1 : Int) - 149 = e1 := ⟨_, rfl⟩
          rw [he1]
          go_wp2_with fail
          refine (HPb.out _).mono ?_
          rintro e w3 ⟨r2, m2, j2, rfl, ⟨k2, a1, a2, a3⟩, hV2, hm2, hj2, hb3⟩
          have H3 := hide (And.intro a1 (And.intro a2 (And.intro a3 (And.intro hV2 (And.intro hj2 hb3)))))
          clear a1 a2 a3 hV2 hm2 hj2 hb3
          obtain ⟨e2, he2⟩ : ∃ e2 : Int, (j2 : Int) - 149 = e2 := ⟨_, rfl⟩
          rw [he2]
          have B1 : -10000 ≤ e1 ∧ e1 ≤ 10000 := by have := H2.out.2.2.2.2.1; omega
          have B2 : -10000 ≤ e2 ∧ e2 ≤ 10000 := by have := H3.out.2.2.2.2.1; omega
          have HTg := hide (rtogether sa sb r1 r2 k1 m1 k2 m2 e1 e2 w3 (H2.out.1.below H3.out.2.2.2.2.2) H3.out.1 H2.out.2.1 H3.out.2.1 (by have := H2.out.2.2.1; omega) (by have := H3.out.2.2.1; omega) B1 B2)
          have HE := hide (And.intro he1 he2)
          clear he1 he2
          go_wp2_with fail
          refine HTg.out.mono ?_
          rintro e w4 ⟨neg, r4, z, rfl, htog, ⟨k4, c1, c2, c3⟩, hb4⟩
          have hT2 := HT.out m1 j1 m2 j2 neg z H2.out.2.2.2.1 H3.out.2.2.2.1
          rw [HE.out.1, HE.out.2] at hT2
          have hT3 := hT2 htog
          clear hT2 htog
          obtain ⟨_, _, ad4, cap4, hr4, _⟩ := id c1
          have BB := H2.out.2.2.2.2.2.trans (H3.out.2.2.2.2.2.mono H2.out.2.2.2.2.2.size)
          have HB4 := hide (BB.trans (hb4.mono BB.size))
          have H4 := hide (And.intro c1 (And.intro c2 c3))
          clear hb4 BB
          subst hr4
          obtain ⟨e4, he4, B4⟩ : ∃ e4 : Int, min e1 e2 = e4 ∧ (-10000 ≤ e4 ∧ e4 ≤ 10000) := ⟨_, rfl, by omega⟩
          rw [he4] at hT3 ⊢
          clear B1 B2 he4 HT HTg HE
          by_cases hz : z = 0
          · have hk4 : k4 = 0 := c2.zero_iff.2 (by rw [hz]; rfl)
            have HOut := hide (hT3.1 hz)
            subst hk4
            clear hT3 c1 c2 c3 hz
            cases sa <;> cases sb
            all_goals
              go_wp2_with fail
              refine (HSg.out _).mono ?_
              rintro e w1 ⟨rfl, hw1⟩
              have hw1 := hw1.symm
              subst hw1
              go_wp2_with fail
              go_ret
              exact ⟨by rw [HOut.out]; rfl, HB4.out⟩
          · have hk4 : k4 ≠ 0 := fun hk => hz (by have := c2.zero_iff.1 hk; omega)
            have HOut := hide (hT3.2 hz)
            have hk5 : ((k4 : Int) == 0) = false := by simp; omega
            have hk6 : (0 : Int) < (k4 : Int) := by omega
            clear hT3 c1 c2 c3 hz hk4
            go_wp2_with (simp only [hk5])
            refine (nOf 1 _ (by omega)).mono ?_
            rintro e w5 ⟨r5, rfl, kq, q1, q2, q3, hb5⟩
            have HNr := fhide (rNearest32 neg _ r5 k4 z.natAbs kq 1 e4 w5 (H4.out.1.below hb5) q1 H4.out.2.1 q2 (by omega) (by have := H4.out.2.2; omega) (by omega) (by omega))
            have HB5 := fhide (HB4.out.trans (hb5.mono HB4.out.size))
            clear q1 q2 q3 hb5
            generalize nrst32 neg z.natAbs 1 e4 = out2 at *
            go_wp2_with (simp only [hk5])
            refine HNr.out.mono ?_
            rintro e w6 ⟨rfl, hb6⟩
            have HB6 := fhide (HB5.out.trans (hb6.mono HB5.out.size))
            clear hb6
            go_wp2_with fail
            go_ret
            exact ⟨by rw [HOut.out]; rfl, HB6.out⟩

/-- With the other sign. -/
def flpW32 (b : Nat) : Nat := if b < 2147483648 then 2147483648 + b else b - 2147483648
theorem flp_lt32 (b : Nat) (hb : b < 4294967296) : flpW32 b < 4294967296 := by unfold flpW32; split <;> omega
theorem flp_bits32 (b : Nat) (hb : b < 4294967296) : bits BinOp.xor IntKind.u64 (b : Int) 2147483648 = ((flpW32 b : Nat) : Int) := by
  have := u64_xor_nat b 2147483648 (by omega) (by omega)
  unfold flpW32
  by_cases h : b < 2147483648
  · rw [if_pos h]
    rw [show b ^^^ 2147483648 = 2147483648 + b from n_xor_lo 31 b h] at this; exact this
  · rw [if_neg h]
    obtain ⟨r, rfl⟩ : ∃ r, b = 2147483648 + r := ⟨b - 2147483648, by omega⟩
    rw [show (2147483648 + r) ^^^ 2147483648 = r from n_xor_hi 31 r (show r < 2147483648 by omega)] at this
    rw [Nat.add_sub_cancel_left]; exact this
theorem sub_flp32 (a b : Nat) (hb : b < 4294967296) : Ieee.single.sub a b = Ieee.single.add a (flpW32 b) := by
  refine Flt.sub_add Ieee.single a b _ ?_ ?_
  · rw [rgW32, rgW32]; unfold flpW32; split <;> omega
  · rw [sgW32 _ (flp_lt32 b hb), sgW32 b hb]
    unfold flpW32
    by_cases h : b < 2147483648
    · rw [if_pos h, decide_eq_true (by omega), decide_eq_false (by omega)]; rfl
    · rw [if_neg h, decide_eq_false (by omega), decide_eq_true (by omega)]; rfl

set_option maxRecDepth 100000 in
set_option maxHeartbeats 1000000 in
theorem rSub32 (a b : Nat) (w : World) (ha : a < 4294967296) (hb : b < 4294967296) : Calls Try.prog 11 #[.int .u64 a, .int .u64 b, .int .i64 32] w fun e w' => e = .returned (.int .u64 (tldW32 (Ieee.single.sub a b) : Nat)) ∧ Below w.heap.size w w' := by
  have HNb := fhide (fun w : World => rIsNan32 b w hb)
  have hfl := flp_bits32 b hb
  have HA := fhide (fun w : World => rAdd32 a (flpW32 b) w ha (flp_lt32 b hb))
  rw [sub_flp32 a b hb]
  by_cases nb : 2139095040 < b % 2147483648
  · rw [decide_eq_true nb] at HNb
    have ho : tldW32 (Ieee.single.add a (flpW32 b)) = 2143289344 := by
      rw [Flt.add_nan2 Ieee.single (by decide) a _ (.inr (by rw [rgW32, infW32]; unfold flpW32; split <;> omega))]; rfl
    rw [ho]
    clear ho nb ha hb
    go_enter Try.func11, Try.ntmps11
    go_wp2_with fail
    refine (HNb.out _).mono ?_
    rintro e w1 ⟨rfl, hw1⟩
    have hw1 := hw1.symm
    subst hw1
    go_wp2_with fail
    refine (rNan32 _).mono ?_
    rintro e w1 ⟨rfl, hw1⟩
    have hw1 := hw1.symm
    subst hw1
    go_wp2_with fail
    go_ret
    exact ⟨rfl, Below.refl _ _⟩
  · rw [decide_eq_false nb] at HNb
    generalize tldW32 (Ieee.single.add a (flpW32 b)) = out at *
    generalize flpW32 b = b' at *
    clear nb ha hb
    go_enter Try.func11, Try.ntmps11
    go_wp2_with fail
    refine (HNb.out _).mono ?_
    rintro e w1 ⟨rfl, hw1⟩
    have hw1 := hw1.symm
    subst hw1
    go_wp2_with fail
    refine (rSign32 _).mono ?_
    rintro e w1 ⟨rfl, hw1⟩
    have hw1 := hw1.symm
    subst hw1
    go_wp2_with (simp only [hfl])
    refine (HA.out _).mono ?_
    rintro e w2 ⟨rfl, hb2⟩
    go_wp2_with fail
    go_ret
    exact ⟨rfl, hb2⟩

end Go.Proofs.Ytdiinhccfifiaab

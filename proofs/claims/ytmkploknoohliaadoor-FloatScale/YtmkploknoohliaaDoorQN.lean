/- The document's Scale. -/
import Derived.Test.YtmkploknoohliaaDoorNV
namespace Go.Proofs.YtmkploknoohliaaDoor
open Go.RowKit
open M
set_option linter.unusedVariables false
set_option linter.unusedSimpArgs false

/-- A finite number times a power of 2, rounded once. -/
def sclf (c : Int) (b : Nat) : Nat := wd64 (decide (9223372036854775808 ≤ b)) (min (Flt.rnd Ieee.double (Flt.V Ieee.double (b % 9223372036854775808) * 2 ^ c.toNat) (2 ^ (-c).toNat)) 9218868437227405312)
/-- What the document's Scale tells. -/
def sclv (n : Int) (b : Nat) : Nat := if 9218868437227405312 < b % 9223372036854775808 then 9221120237041090560 else if b % 9223372036854775808 = 9218868437227405312 ∨ b % 9223372036854775808 = 0 then b else sclf (max (-10000) (min n 10000)) b

theorem nrst_scl (b m j : Nat) (c : Int) (h : m * 2 ^ j = Flt.V Ieee.double (b % 9223372036854775808)) : nrst64 (decide (9223372036854775808 ≤ b)) m 1 ((j : Int) - 1074 + c) = sclf c b := by
  unfold nrst64 sclf
  have e : Flt.rnd Ieee.double (m * 2 ^ ((j : Int) - 1074 + c + 1074).toNat) (1 * 2 ^ (-1074 - ((j : Int) - 1074 + c)).toNat) = Flt.rnd Ieee.double (Flt.V Ieee.double (b % 9223372036854775808) * 2 ^ c.toNat) (2 ^ (-c).toNat) := by
    refine Flt.rnd_eq _ (by rw [Nat.one_mul]; exact Nat.two_pow_pos _) (Nat.two_pow_pos _) ?_
    rw [← h, Nat.one_mul, Nat.mul_assoc, Nat.mul_assoc, Nat.mul_assoc, ← Nat.pow_add, ← Nat.pow_add, ← Nat.pow_add]
    exact congrArg (m * 2 ^ ·) (by omega)
  rw [e]

set_option maxRecDepth 100000 in
set_option maxHeartbeats 1000000 in
theorem rScale (b : Nat) (n : Int) (w : World) (hb : b < 18446744073709551616) : Calls Tryd.prog 7 #[.int .u64 b, .int .i64 n] w fun e w' => e = .returned (.int .u64 (sclv n b : Nat)) ∧ Below w.heap.size w w' := by
  have HN := fhide (fun w : World => rIsNan64 b w hb)
  have HFi := fhide (fun w : World => rFinite64 b w hb)
  have HZ := fhide (fun w : World => rIsZero64 b w hb)
  unfold sclv
  by_cases c1 : 9218868437227405312 < b % 9223372036854775808
  · rw [if_pos c1]
    rw [decide_eq_true c1] at HN
    clear c1 HFi HZ
    go_enter Tryd.func7, Tryd.ntmps7
    go_wp2_with fail
    refine (HN.out _).mono ?_
    rintro e w1 ⟨rfl, hw1⟩
    have hw1 := hw1.symm
    subst hw1
    go_wp2_with fail
    go_ret
    exact ⟨rfl, Below.refl _ _⟩
  rw [if_neg c1]
  rw [decide_eq_false c1] at HN
  by_cases c2 : b % 9223372036854775808 = 9218868437227405312
  · rw [if_pos (Or.inl c2)]
    rw [decide_eq_false (by omega)] at HFi
    clear c1 c2 HZ
    go_enter Tryd.func7, Tryd.ntmps7
    go_wp2_with fail
    refine (HN.out _).mono ?_
    rintro e w1 ⟨rfl, hw1⟩
    have hw1 := hw1.symm
    subst hw1
    go_wp2_with fail
    refine (HFi.out _).mono ?_
    rintro e w1 ⟨rfl, hw1⟩
    have hw1 := hw1.symm
    subst hw1
    go_wp2_with fail
    go_ret
    exact ⟨rfl, Below.refl _ _⟩
  rw [decide_eq_true (by omega)] at HFi
  by_cases c3 : b % 9223372036854775808 = 0
  · rw [if_pos (Or.inr c3)]
    rw [decide_eq_true c3] at HZ
    clear c1 c2 c3
    go_enter Tryd.func7, Tryd.ntmps7
    go_wp2_with fail
    refine (HN.out _).mono ?_
    rintro e w1 ⟨rfl, hw1⟩
    have hw1 := hw1.symm
    subst hw1
    go_wp2_with fail
    refine (HFi.out _).mono ?_
    rintro e w1 ⟨rfl, hw1⟩
    have hw1 := hw1.symm
    subst hw1
    go_wp2_with fail
    refine (HZ.out _).mono ?_
    rintro e w1 ⟨rfl, hw1⟩
    have hw1 := hw1.symm
    subst hw1
    go_wp2_with fail
    go_ret
    exact ⟨rfl, Below.refl _ _⟩
  rw [if_neg (by omega)]
  rw [decide_eq_false c3] at HZ
  have HP := fhide (fun w : World => rParts64 b w hb)
  have HX := fhide (fun (m j : Nat) (c : Int) (h : m * 2 ^ j = Flt.V Ieee.double (b % 9223372036854775808)) => nrst_scl b m j c h)
  generalize decide (9223372036854775808 ≤ b) = s at *
  generalize Flt.V Ieee.double (b % 9223372036854775808) = V at *
  obtain ⟨c, hc⟩ : ∃ c : Int, max (-10000) (min n 10000) = c := ⟨_, rfl⟩
  rw [hc]
  obtain ⟨out, ho⟩ : ∃ out : Nat, sclf c b = out := ⟨_, rfl⟩
  rw [ho]
  have HO := fhide ho
  clear ho c1 c2 c3 hb
  have hcb : -10000 ≤ c ∧ c ≤ 10000 := by omega
  have hcase : (10000 < n ∧ c = 10000) ∨ (n < -10000 ∧ ¬ 10000 < n ∧ c = -10000) ∨ (¬ 10000 < n ∧ ¬ n < -10000 ∧ c = n) := by omega
  clear hc
  rcases hcase with ⟨h1, h2⟩ | ⟨h1, h2, h3⟩ | ⟨h1, h2, h3⟩
  · subst h2
    go_enter Tryd.func7, Tryd.ntmps7
    go_wp2_with fail
    refine (HN.out _).mono ?_
    rintro e w1 ⟨rfl, hw1⟩
    have hw1 := hw1.symm
    subst hw1
    go_wp2_with fail
    refine (HFi.out _).mono ?_
    rintro e w1 ⟨rfl, hw1⟩
    have hw1 := hw1.symm
    subst hw1
    go_wp2_with fail
    refine (HZ.out _).mono ?_
    rintro e w1 ⟨rfl, hw1⟩
    have hw1 := hw1.symm
    subst hw1
    go_wp2_with fail
    refine (HP.out _).mono ?_
    rintro e w1 ⟨v, m, j, rfl, ⟨k, hr, hnr, hk⟩, hV, hml, hj, hb1⟩
    have HJ := fhide (And.intro hr (And.intro hnr (And.intro hk hb1)))
    have hE := HX.out m j 10000 hV
    rw [HO.out] at hE
    obtain ⟨z, hz, hzb⟩ : ∃ z : Int, (j : Int) - 1074 = z ∧ (-2000 ≤ z ∧ z ≤ 2000) := ⟨_, rfl, by omega⟩
    rw [hz] at hE ⊢
    obtain ⟨y, hy, hyb⟩ : ∃ y : Int, z + 10000 = y ∧ (-20000 ≤ y ∧ y ≤ 20000) := ⟨_, rfl, by omega⟩
    rw [hy] at hE
    have HE := fhide hE
    clear hr hnr hk hb1 hV hml hj hz hE
    go_wp2_with fail
    refine (nOf 1 _ (by decide)).mono ?_
    rintro e w2 ⟨r2, rfl, k2, a2, b2, c2, d2⟩
    have HR := fhide (rNearest64 s v r2 k m k2 1 y w2 (HJ.out.1.below d2) a2 HJ.out.2.1 b2 (by decide) (by have := HJ.out.2.2.1; omega) (by omega) hyb)
    have H2 := fhide (HJ.out.2.2.2.trans (d2.mono HJ.out.2.2.2.size))
    clear a2 b2 c2 d2
    rw [HE.out] at HR
    go_wp2_with (simp only [hy])
    refine HR.out.mono ?_
    rintro e w3 ⟨rfl, d3⟩
    have H3 := fhide (H2.out.trans (d3.mono H2.out.size))
    clear d3
    go_wp2_with fail
    go_ret
    exact ⟨rfl, H3.out⟩
  · subst h3
    go_enter Tryd.func7, Tryd.ntmps7
    go_wp2_with fail
    refine (HN.out _).mono ?_
    rintro e w1 ⟨rfl, hw1⟩
    have hw1 := hw1.symm
    subst hw1
    go_wp2_with fail
    refine (HFi.out _).mono ?_
    rintro e w1 ⟨rfl, hw1⟩
    have hw1 := hw1.symm
    subst hw1
    go_wp2_with fail
    refine (HZ.out _).mono ?_
    rintro e w1 ⟨rfl, hw1⟩
    have hw1 := hw1.symm
    subst hw1
    go_wp2_with fail
    refine (HP.out _).mono ?_
    rintro e w1 ⟨v, m, j, rfl, ⟨k, hr, hnr, hk⟩, hV, hml, hj, hb1⟩
    have HJ := fhide (And.intro hr (And.intro hnr (And.intro hk hb1)))
    have hE := HX.out m j (-10000) hV
    rw [HO.out] at hE
    obtain ⟨z, hz, hzb⟩ : ∃ z : Int, (j : Int) - 1074 = z ∧ (-2000 ≤ z ∧ z ≤ 2000) := ⟨_, rfl, by omega⟩
    rw [hz] at hE ⊢
    obtain ⟨y, hy, hyb⟩ : ∃ y : Int, z + (-10000) = y ∧ (-20000 ≤ y ∧ y ≤ 20000) := ⟨_, rfl, by omega⟩
    rw [hy] at hE
    have HE := fhide hE
    clear hr hnr hk hb1 hV hml hj hz hE
    go_wp2_with fail
    refine (nOf 1 _ (by decide)).mono ?_
    rintro e w2 ⟨r2, rfl, k2, a2, b2, c2, d2⟩
    have HR := fhide (rNearest64 s v r2 k m k2 1 y w2 (HJ.out.1.below d2) a2 HJ.out.2.1 b2 (by decide) (by have := HJ.out.2.2.1; omega) (by omega) hyb)
    have H2 := fhide (HJ.out.2.2.2.trans (d2.mono HJ.out.2.2.2.size))
    clear a2 b2 c2 d2
    rw [HE.out] at HR
    go_wp2_with (simp only [hy])
    refine HR.out.mono ?_
    rintro e w3 ⟨rfl, d3⟩
    have H3 := fhide (H2.out.trans (d3.mono H2.out.size))
    clear d3
    go_wp2_with fail
    go_ret
    exact ⟨rfl, H3.out⟩
  · subst h3
    go_enter Tryd.func7, Tryd.ntmps7
    go_wp2_with fail
    refine (HN.out _).mono ?_
    rintro e w1 ⟨rfl, hw1⟩
    have hw1 := hw1.symm
    subst hw1
    go_wp2_with fail
    refine (HFi.out _).mono ?_
    rintro e w1 ⟨rfl, hw1⟩
    have hw1 := hw1.symm
    subst hw1
    go_wp2_with fail
    refine (HZ.out _).mono ?_
    rintro e w1 ⟨rfl, hw1⟩
    have hw1 := hw1.symm
    subst hw1
    go_wp2_with fail
    refine (HP.out _).mono ?_
    rintro e w1 ⟨v, m, j, rfl, ⟨k, hr, hnr, hk⟩, hV, hml, hj, hb1⟩
    have HJ := fhide (And.intro hr (And.intro hnr (And.intro hk hb1)))
    have hE := HX.out m j c hV
    rw [HO.out] at hE
    obtain ⟨z, hz, hzb⟩ : ∃ z : Int, (j : Int) - 1074 = z ∧ (-2000 ≤ z ∧ z ≤ 2000) := ⟨_, rfl, by omega⟩
    rw [hz] at hE ⊢
    obtain ⟨y, hy, hyb⟩ : ∃ y : Int, z + c = y ∧ (-20000 ≤ y ∧ y ≤ 20000) := ⟨_, rfl, by omega⟩
    rw [hy] at hE
    have HE := fhide hE
    clear hr hnr hk hb1 hV hml hj hz hE
    go_wp2_with fail
    refine (nOf 1 _ (by decide)).mono ?_
    rintro e w2 ⟨r2, rfl, k2, a2, b2, c2, d2⟩
    have HR := fhide (rNearest64 s v r2 k m k2 1 y w2 (HJ.out.1.below d2) a2 HJ.out.2.1 b2 (by decide) (by have := HJ.out.2.2.1; omega) (by omega) hyb)
    have H2 := fhide (HJ.out.2.2.2.trans (d2.mono HJ.out.2.2.2.size))
    clear a2 b2 c2 d2
    rw [HE.out] at HR
    go_wp2_with (simp only [hy])
    refine HR.out.mono ?_
    rintro e w3 ⟨rfl, d3⟩
    have H3 := fhide (H2.out.trans (d3.mono H2.out.size))
    clear d3
    go_wp2_with fail
    go_ret
    exact ⟨rfl, H3.out⟩

end Go.Proofs.YtmkploknoohliaaDoor

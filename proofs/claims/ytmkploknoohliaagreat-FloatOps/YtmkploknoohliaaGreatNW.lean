/- Narrow and Widen: the program's and the document's. -/
import Derived.Test.YtmkploknoohliaaGreatNV
import Derived.Test.YtmkploknoohliaaGreatFQ
namespace Go.Proofs.YtmkploknoohliaaGreat
open Go.RowKit
open M
set_option linter.unusedVariables false
set_option linter.unusedSimpArgs false

/-- What Narrow tells. -/
def narr (b : Nat) : Nat := if 9218868437227405312 < b % 9223372036854775808 then narNan b else nar32 b
/-- What Widen tells. -/
def wid (f : Nat) : Nat := if 2139095040 ≤ f % 2147483648 then widNan f else f / 2147483648 * 9223372036854775808 + Flt.rnd Ieee.double (Flt.V Ieee.single (f % 2147483648) * 2 ^ Flt.gapE) 1

theorem nar32_lt (x : Nat) (hx : x < 18446744073709551616) : nar32 x < 4294967296 := by unfold nar32; omega
theorem narr_lt (x : Nat) (hx : x < 18446744073709551616) : narr x < 4294967296 := by
  unfold narr; split
  · unfold narNan; omega
  · exact nar32_lt x hx
theorem wid_of (f x : Nat) (hf : f < 4294967296) (h : f % 2147483648 ≤ 2139095040) (e : x / 9223372036854775808 = f / 2147483648) (hi : x % 9223372036854775808 = 9218868437227405312 ↔ f % 2147483648 = 2139095040)
    (hv : f % 2147483648 < 2139095040 → Flt.V Ieee.double (x % 9223372036854775808) = Flt.V Ieee.single (f % 2147483648) * 2 ^ Flt.gapE) : wid f = x := by
  unfold wid
  by_cases h1 : 2139095040 ≤ f % 2147483648
  · rw [if_pos h1]; have := hi.2 (by omega); unfold widNan; omega
  · rw [if_neg h1, ← hv (by omega), Flt.rnd_V, ← e]; omega
theorem wid_lt (f : Nat) (hf : f < 4294967296) : wid f < 18446744073709551616 := by
  by_cases h1 : 2139095040 < f % 2147483648
  · unfold wid; rw [if_pos (by omega)]; unfold widNan; omega
  · obtain ⟨x, x1, x2, x3, x4, x5, x6, x7⟩ := f2f_wide f hf (by omega)
    rw [wid_of f x hf (by omega) x5 x6 x7]; exact x2

theorem Narrow_any (b : Nat) (w : World) (hb : b < 18446744073709551616) : Calls Tryz.prog 15 #[.int .u64 b] w fun e w' => e = .returned (.int .u32 (narr b : Nat)) ∧ Below w.heap.size w w' := by
  unfold narr
  by_cases h : 9218868437227405312 < b % 9223372036854775808
  · rw [if_pos h]; exact Narrow_nan b w hb h
  · rw [if_neg h]; exact Narrow_num b w hb h

theorem nrst_nar (b m j : Nat) (hb : b < 18446744073709551616) (h : m * 2 ^ j = Flt.V Ieee.double (b % 9223372036854775808)) : nrst32 (decide (9223372036854775808 ≤ b)) m 1 ((j : Int) - 1074) = nar32 b := by
  unfold nrst32 nar32 wd32
  have hE : Flt.gapE = 925 := rfl
  have e : Flt.rnd Ieee.single (m * 2 ^ ((j : Int) - 1074 + 149).toNat) (1 * 2 ^ (-149 - ((j : Int) - 1074)).toNat) = Flt.rnd Ieee.single (Flt.V Ieee.double (b % 9223372036854775808)) (2 ^ Flt.gapE) := by
    refine Flt.rnd_eq _ (by rw [Nat.one_mul]; exact Nat.two_pow_pos _) (Nat.two_pow_pos _) ?_
    rw [← h, Nat.one_mul, Nat.mul_assoc, Nat.mul_assoc, ← Nat.pow_add, ← Nat.pow_add]
    congr 2; omega
  rw [e]
  generalize min (Flt.rnd Ieee.single (Flt.V Ieee.double (b % 9223372036854775808)) (2 ^ Flt.gapE)) 2139095040 = R
  by_cases h1 : 9223372036854775808 ≤ b
  · rw [decide_eq_true h1, if_pos rfl]; omega
  · rw [decide_eq_false h1]; simp only [Bool.false_eq_true, if_false]; omega
theorem nrst_wid (f m j : Nat) (hf : f < 4294967296) (h1 : f % 2147483648 < 2139095040) (h : m * 2 ^ j = Flt.V Ieee.single (f % 2147483648)) : nrst64 (decide (2147483648 ≤ f)) m 1 ((j : Int) - 149) = wid f := by
  obtain ⟨x, x1, x2, x3, x4, x5, x6, x7⟩ := f2f_wide f hf (by omega)
  have hx := wid_of f x hf (by omega) x5 x6 x7
  unfold wid at hx ⊢
  rw [if_neg (by omega)] at hx ⊢
  have hE : Flt.gapE = 925 := rfl
  clear x7
  generalize Flt.gapE = E at *
  unfold nrst64 wd64
  have e : Flt.rnd Ieee.double (m * 2 ^ ((j : Int) - 149 + 1074).toNat) (1 * 2 ^ (-1074 - ((j : Int) - 149)).toNat) = Flt.rnd Ieee.double (Flt.V Ieee.single (f % 2147483648) * 2 ^ E) 1 := by
    refine Flt.rnd_eq _ (by rw [Nat.one_mul]; exact Nat.two_pow_pos _) (by omega) ?_
    rw [← h, Nat.one_mul, Nat.mul_one, Nat.mul_assoc, Nat.mul_assoc, ← Nat.pow_add, ← Nat.pow_add]
    congr 2; omega
  rw [e]
  generalize Flt.rnd Ieee.double (Flt.V Ieee.single (f % 2147483648) * 2 ^ E) 1 = R at *
  by_cases h2 : 2147483648 ≤ f
  · rw [decide_eq_true h2, if_pos rfl]; omega
  · rw [decide_eq_false h2]; simp only [Bool.false_eq_true, if_false]; omega

theorem or_nan32 (y : Nat) (hy : y < 4194304) : bits BinOp.or IntKind.u64 2143289344 (y : Int) = ((2143289344 + y : Nat) : Int) := by
  have := or_split64 511 y 22 (by omega) (by omega)
  exact this
theorem and_22 (x : Nat) (hx : x < 18446744073709551616) : bits BinOp.and IntKind.u64 (x : Int) 4194303 = ((x % 4194304 : Nat) : Int) := by
  have := u64_and_nat x 4194303 hx (by omega)
  rw [show x &&& 4194303 = x % 4194304 from Nat.and_two_pow_sub_one_eq_mod x 22] at this; exact this
theorem and_23 (x : Nat) (hx : x < 18446744073709551616) : bits BinOp.and IntKind.u64 (x : Int) 8388607 = ((x % 8388608 : Nat) : Int) := by
  have := u64_and_nat x 8388607 hx (by omega)
  rw [show x &&& 8388607 = x % 8388608 from Nat.and_two_pow_sub_one_eq_mod x 23] at this; exact this
theorem or_inf64 (y : Nat) (hy : y < 4503599627370496) : bits BinOp.or IntKind.u64 9218868437227405312 (y : Int) = ((9218868437227405312 + y : Nat) : Int) := by
  have := or_split64 2047 y 52 (by omega) (by omega)
  exact this

set_option maxRecDepth 100000 in
set_option maxHeartbeats 1000000 in
theorem rNarrow (b : Nat) (w : World) (hb : b < 18446744073709551616) : Calls Tryz.prog 24 #[.int .u64 b] w fun e w' => e = .returned (.int .u32 (narr b : Nat)) ∧ Below w.heap.size w w' := by
  have HN := fhide (fun w : World => rIsNan64 b w hb)
  have HI := fhide (fun w : World => rIsInf64 b w hb)
  have HG := fhide (fun w : World => rNeg64 b w hb)
  have HP := fhide (fun w : World => rParts64 b w hb)
  have HL := fhide (narr_lt b hb)
  unfold narr at HL ⊢
  by_cases h : 9218868437227405312 < b % 9223372036854775808
  · rw [if_pos h] at HL ⊢
    rw [decide_eq_true h] at HN
    have h1 : bits BinOp.and IntKind.u64 ((b : Int) / 536870912) 4194303 = ((b / 536870912 % 4194304 : Nat) : Int) := by
      rw [show (b : Int) / 536870912 = ((b / 536870912 : Nat) : Int) by simp]
      exact and_22 _ (by omega)
    have h2 := or_nan32 (b / 536870912 % 4194304) (by omega)
    obtain ⟨x, hx, hxl⟩ : ∃ x, 2143289344 + b / 536870912 % 4194304 = x ∧ x < 2147483648 := ⟨_, rfl, by omega⟩
    rw [hx] at h2
    have HS := fhide (fun w : World => rsigned32 (decide (9223372036854775808 ≤ b)) x w hxl)
    have e0 : wd32 (decide (9223372036854775808 ≤ b)) x = narNan b := by
      unfold wd32 narNan
      by_cases h3 : 9223372036854775808 ≤ b
      · rw [decide_eq_true h3, if_pos rfl]; omega
      · rw [decide_eq_false h3]; simp only [Bool.false_eq_true, if_false]; omega
    rw [e0] at HS
    have h3 : ((narNan b : Nat) : Int) % 4294967296 = (narNan b : Nat) := by have := HL.out; omega
    have h4 : IntKind.u32.wrap ((narNan b : Nat) : Int) = (narNan b : Nat) := by rw [IntKind.wrap_u32]; exact h3
    generalize narNan b = out at *
    generalize decide (9223372036854775808 ≤ b) = neg at *
    generalize b / 536870912 % 4194304 = y at *
    clear h hx hxl e0 HI HP hb
    go_enter Tryz.func24, Tryz.ntmps24
    go_wp2_with fail
    refine (HN.out _).mono ?_
    rintro e w1 ⟨rfl, hw1⟩
    have hw1 := hw1.symm
    subst hw1
    go_wp2_with fail
    refine (HG.out _).mono ?_
    rintro e w1 ⟨rfl, hw1⟩
    have hw1 := hw1.symm
    subst hw1
    go_wp2_with (simp only [h1, h2])
    refine (HS.out _).mono ?_
    rintro e w1 ⟨rfl, hw1⟩
    have hw1 := hw1.symm
    subst hw1
    go_wp2_with (simp only [h3, h4])
    go_ret
    exact ⟨rfl, Below.refl _ _⟩
  · rw [if_neg h] at HL ⊢
    rw [decide_eq_false h] at HN
    have h3 : ((nar32 b : Nat) : Int) % 4294967296 = (nar32 b : Nat) := by have := HL.out; omega
    have h4 : IntKind.u32.wrap ((nar32 b : Nat) : Int) = (nar32 b : Nat) := by rw [IntKind.wrap_u32]; exact h3
    by_cases hi : b % 9223372036854775808 = 9218868437227405312
    · rw [decide_eq_true hi] at HI
      have HS : Hid (∀ w : World, Calls Tryz.prog 70 #[.bool (decide (9223372036854775808 ≤ b)), .int .u64 2139095040, .int .i64 32] w fun e w' => e = .returned (.int .u64 (nar32 b : Nat)) ∧ w' = w) := fun w => by
        have := rsigned32 (decide (9223372036854775808 ≤ b)) 2139095040 w (by omega)
        have e0 : wd32 (decide (9223372036854775808 ≤ b)) 2139095040 = nar32 b := by
          unfold wd32 nar32
          have h5 := rnd32_mono (show 5183643170835005440 ≤ b % 9223372036854775808 by omega)
          rw [rnd_beyond] at h5
          rw [Nat.min_eq_right h5]
          by_cases h3 : 9223372036854775808 ≤ b
          · rw [decide_eq_true h3, if_pos rfl]; omega
          · rw [decide_eq_false h3]; simp only [Bool.false_eq_true, if_false]; omega
        rwa [e0] at this
      generalize nar32 b = out at *
      generalize decide (9223372036854775808 ≤ b) = neg at *
      clear h hi HP hb
      go_enter Tryz.func24, Tryz.ntmps24
      go_wp2_with fail
      refine (HN.out _).mono ?_
      rintro e w1 ⟨rfl, hw1⟩
      have hw1 := hw1.symm
      subst hw1
      go_wp2_with fail
      refine (HI.out _).mono ?_
      rintro e w1 ⟨rfl, hw1⟩
      have hw1 := hw1.symm
      subst hw1
      go_wp2_with fail
      refine (HG.out _).mono ?_
      rintro e w1 ⟨rfl, hw1⟩
      have hw1 := hw1.symm
      subst hw1
      go_wp2_with fail
      refine (HS.out _).mono ?_
      rintro e w1 ⟨rfl, hw1⟩
      have hw1 := hw1.symm
      subst hw1
      go_wp2_with (simp only [h3, h4])
      go_ret
      exact ⟨rfl, Below.refl _ _⟩
    · rw [decide_eq_false hi] at HI
      have HE := fhide (fun m j => nrst_nar b m j hb)
      generalize nar32 b = out at *
      generalize decide (9223372036854775808 ≤ b) = neg at *
      clear h hi hb HG
      go_enter Tryz.func24, Tryz.ntmps24
      go_wp2_with fail
      refine (HN.out _).mono ?_
      rintro e w1 ⟨rfl, hw1⟩
      have hw1 := hw1.symm
      subst hw1
      go_wp2_with fail
      refine (HI.out _).mono ?_
      rintro e w1 ⟨rfl, hw1⟩
      have hw1 := hw1.symm
      subst hw1
      go_wp2_with fail
      refine (HP.out _).mono ?_
      rintro e w2 ⟨r, m, j, rfl, ⟨k, k1, k2, k3⟩, hV, hm, hj, hb2⟩
      have he := HE.out m j hV
      have HJ := fhide (And.intro k1 (And.intro k2 (And.intro k3 (And.intro hj hb2))))
      clear k1 k2 k3 hV hm hb2
      go_wp2_with fail
      refine (nOf 1 _ (by omega)).mono ?_
      rintro e w3 ⟨r1, rfl, kq, q1, q2, q3, hb3⟩
      have HNr := fhide (rNearest32 neg r r1 k m kq 1 ((j : Int) - 1074) w3 (HJ.out.1.below hb3) q1 HJ.out.2.1 q2 (by omega) (by have := HJ.out.2.2.1; omega) (by omega) (by omega))
      rw [he] at HNr
      have HB := fhide (HJ.out.2.2.2.2.trans (hb3.mono HJ.out.2.2.2.2.size))
      clear q1 q2 q3 hb3 he hj HJ HE
      generalize (j : Int) - 1074 = ee at *
      go_wp2_with fail
      refine HNr.out.mono ?_
      rintro e w4 ⟨rfl, hb4⟩
      have H4 := fhide hb4
      clear hb4
      go_wp2_with (simp only [h3, h4])
      go_ret
      exact ⟨rfl, HB.out.trans (H4.out.mono HB.out.size)⟩

set_option maxRecDepth 100000 in
set_option maxHeartbeats 1000000 in
theorem rWiden (f : Nat) (w : World) (hf : f < 4294967296) : Calls Tryz.prog 23 #[.int .u32 f] w fun e w' => e = .returned (.int .u64 (wid f : Nat)) ∧ Below w.heap.size w w' := by
  have HN := fhide (fun w : World => rIsNan32 f w hf)
  have HI := fhide (fun w : World => rIsInf32 f w hf)
  have HG := fhide (fun w : World => rNeg32 f w hf)
  have HP := fhide (fun w : World => rParts32 f w hf)
  have hfi : (f : Int) < 4294967296 := by omega
  by_cases h0 : 2139095040 ≤ f % 2147483648
  · have h1 := and_23 f (by omega)
    obtain ⟨y, hy, hyl⟩ : ∃ y, f % 8388608 = y ∧ y < 8388608 := ⟨_, rfl, by omega⟩
    rw [hy] at h1
    obtain ⟨z, hz, hz1⟩ : ∃ z : Nat, y * 536870912 = z ∧ (y : Int) * 536870912 = (z : Int) := ⟨_, rfl, by omega⟩
    have h2 := or_inf64 z (by omega)
    have hzw : IntKind.u64.wrap (z : Int) = (z : Int) := by rw [IntKind.wrap_u64]; omega
    have hzm : (z : Int) % 18446744073709551616 = (z : Int) := by omega
    obtain ⟨x, hx, hxl⟩ : ∃ x, 9218868437227405312 + z = x ∧ x < 9223372036854775808 := ⟨_, rfl, by omega⟩
    rw [hx] at h2
    have HS := fhide (fun w : World => rsigned64 (decide (2147483648 ≤ f)) x w hxl)
    have e0 : wd64 (decide (2147483648 ≤ f)) x = wid f := by
      unfold wid
      rw [if_pos h0]
      unfold wd64 widNan
      by_cases h3 : 2147483648 ≤ f
      · rw [decide_eq_true h3, if_pos rfl]; omega
      · rw [decide_eq_false h3]; simp only [Bool.false_eq_true, if_false]; omega
    rw [e0] at HS
    generalize wid f = out at *
    have hcase : (decide (2139095040 < f % 2147483648) = true) ∨ (decide (2139095040 < f % 2147483648) = false ∧ decide (f % 2147483648 = 2139095040) = true) := by
      by_cases h5 : 2139095040 < f % 2147483648
      · exact .inl (decide_eq_true h5)
      · exact .inr ⟨decide_eq_false h5, decide_eq_true (by omega)⟩
    generalize decide (2147483648 ≤ f) = neg at *
    generalize decide (2139095040 < f % 2147483648) = d1 at *
    generalize decide (f % 2147483648 = 2139095040) = d2 at *
    clear h0 hy hyl hz hx hxl e0 HP hf
    rcases hcase with rfl | ⟨rfl, rfl⟩
    · go_enter Tryz.func23, Tryz.ntmps23
      go_wp2_with fail
      refine (HN.out _).mono ?_
      rintro e w1 ⟨rfl, hw1⟩
      have hw1 := hw1.symm
      subst hw1
      go_wp2_with fail
      refine (HG.out _).mono ?_
      rintro e w1 ⟨rfl, hw1⟩
      have hw1 := hw1.symm
      subst hw1
      go_wp2_with (simp only [h1, hz1, hzw, hzm, h2])
      refine (HS.out _).mono ?_
      rintro e w1 ⟨rfl, hw1⟩
      have hw1 := hw1.symm
      subst hw1
      go_wp2_with fail
      go_ret
      exact ⟨rfl, Below.refl _ _⟩
    · go_enter Tryz.func23, Tryz.ntmps23
      go_wp2_with fail
      refine (HN.out _).mono ?_
      rintro e w1 ⟨rfl, hw1⟩
      have hw1 := hw1.symm
      subst hw1
      go_wp2_with fail
      refine (HI.out _).mono ?_
      rintro e w1 ⟨rfl, hw1⟩
      have hw1 := hw1.symm
      subst hw1
      go_wp2_with fail
      refine (HG.out _).mono ?_
      rintro e w1 ⟨rfl, hw1⟩
      have hw1 := hw1.symm
      subst hw1
      go_wp2_with (simp only [h1, hz1, hzw, hzm, h2])
      refine (HS.out _).mono ?_
      rintro e w1 ⟨rfl, hw1⟩
      have hw1 := hw1.symm
      subst hw1
      go_wp2_with fail
      go_ret
      exact ⟨rfl, Below.refl _ _⟩
  · have HE := fhide (fun m j => nrst_wid f m j hf (by omega))
    rw [decide_eq_false (by omega)] at HN
    rw [decide_eq_false (by omega)] at HI
    generalize wid f = out at *
    generalize decide (2147483648 ≤ f) = neg at *
    clear h0 hf HG
    go_enter Tryz.func23, Tryz.ntmps23
    go_wp2_with fail
    refine (HN.out _).mono ?_
    rintro e w1 ⟨rfl, hw1⟩
    have hw1 := hw1.symm
    subst hw1
    go_wp2_with fail
    refine (HI.out _).mono ?_
    rintro e w1 ⟨rfl, hw1⟩
    have hw1 := hw1.symm
    subst hw1
    go_wp2_with fail
    refine (HP.out _).mono ?_
    rintro e w2 ⟨r, m, j, rfl, ⟨k, k1, k2, k3⟩, hV, hm, hj, hb2⟩
    have he := HE.out m j hV
    have HJ := fhide (And.intro k1 (And.intro k2 (And.intro k3 (And.intro hj hb2))))
    clear k1 k2 k3 hV hm hb2
    go_wp2_with fail
    refine (nOf 1 _ (by omega)).mono ?_
    rintro e w3 ⟨r1, rfl, kq, q1, q2, q3, hb3⟩
    have HNr := fhide (rNearest64 neg r r1 k m kq 1 ((j : Int) - 149) w3 (HJ.out.1.below hb3) q1 HJ.out.2.1 q2 (by omega) (by have := HJ.out.2.2.1; omega) (by omega) (by omega))
    rw [he] at HNr
    have HB := fhide (HJ.out.2.2.2.2.trans (hb3.mono HJ.out.2.2.2.2.size))
    clear q1 q2 q3 hb3 he hj HJ HE
    generalize (j : Int) - 149 = ee at *
    go_wp2_with fail
    refine HNr.out.mono ?_
    rintro e w4 ⟨rfl, hb4⟩
    have H4 := fhide hb4
    clear hb4
    go_wp2_with fail
    go_ret
    exact ⟨rfl, HB.out.trans (H4.out.mono HB.out.size)⟩
end Go.Proofs.YtmkploknoohliaaGreat

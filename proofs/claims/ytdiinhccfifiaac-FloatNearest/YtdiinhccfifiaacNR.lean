/- thin: a binary32 in units of the wider one's least place. -/
import Derived.Test.YtdiinhccfifiaacNG
namespace Go.Proofs.Ytdiinhccfifiaac
open Go.RowKit
open Flt
set_option linter.unusedVariables false
set_option linter.unusedSimpArgs false

theorem V32 (b : Nat) : Flt.V Ieee.single b = if b / 8388608 = 0 then b % 8388608 else (b % 8388608 + 8388608) * 2 ^ (b / 8388608 - 1) := by
  unfold Flt.V
  have e : Ieee.single.binade = 8388608 := by decide
  rw [e]
  by_cases h : b < 8388608
  · rw [if_pos h, if_pos (Nat.div_eq_of_lt h), Nat.mod_eq_of_lt h]
  · rw [if_neg h, if_neg (by omega), Nat.add_comm]
theorem V_F32 (E n : Nat) (hE : E = 925) (hn : n = 1202) : Flt.V Ieee.single 2139095040 * 2 ^ E = 1 * 2 ^ n := by
  have h := Flt.V_inf Ieee.single (by decide)
  obtain ⟨q, hq⟩ : ∃ q : Nat, q = 277 := ⟨_, rfl⟩
  have e : Ieee.single.fractionBits + (2 ^ Ieee.single.exponentBits - 2) = q := by rw [hq]; decide
  rw [show Ieee.single.infRung = 2139095040 by decide +kernel, e] at h
  rw [h, ← Nat.pow_add, Nat.one_mul, show q + E = n by omega]
theorem low32 (f : Nat) (hf : f < 4294967296) : bits BinOp.and IntKind.u32 (f : Int) 8388607 = ((f % 8388608 : Nat) : Int) := by
  have := u32_and_nat f 8388607 hf (by omega)
  rw [show f &&& 8388607 = f % 8388608 from Nat.and_two_pow_sub_one_eq_mod f 23] at this; exact this

set_option maxRecDepth 100000 in
set_option maxHeartbeats 1000000 in
theorem thin_any (f E : Nat) (w : World) (hf : f ≤ 2139095040) (hE : E = 925) : Calls Try.prog 18 #[.int .u32 f] w fun e w' => ∃ r, e = .returned r ∧ LimB 100 w' r (Flt.V Ieee.single f * 2 ^ E) ∧ Below w.heap.size w w' := by
  have h1 : bits BinOp.and IntKind.u32 (f : Int) 8388607 = ((f % 8388608 : Nat) : Int) := low32 f (by omega)
  obtain ⟨g, hg, hg1, hgl⟩ : ∃ g : Nat, f / 8388608 = g ∧ (f : Int) / 8388608 = (g : Int) ∧ g ≤ 255 := ⟨_, rfl, by omega, by omega⟩
  have hgi : (g : Int) ≤ 255 := by omega
  obtain ⟨m, hm, hml⟩ : ∃ m : Nat, f % 8388608 = m ∧ m < 8388608 := ⟨_, rfl, by omega⟩
  rw [hm] at h1
  have hmi : (m : Int) < 8388608 := by omega
  have hmw : IntKind.u64.wrap (m : Int) = (m : Int) := by rw [IntKind.wrap_u64]; omega
  have HU : Hid (∀ (w1 : World) (r : Value) (k N n : Nat) (i : Int), Row w1 r k N → k ≤ 2 → n ≤ 2000 → i = (n : Int) → Calls Try.prog 9 #[r, .int .i64 i] w1 fun e w' => ∃ r, e = .returned r ∧ LimB 100 w' r (N * 2 ^ n) ∧ Below w1.heap.size w1 w') := by
    intro w1 r k N n i hr hk hn hi
    subst hi
    refine (nUp2 r k N n w1 hr (by omega) (by omega)).mono ?_
    rintro e w' ⟨r, rfl, k2, h1, h2, h3, h4⟩
    exact ⟨r, rfl, ⟨k2, h1, h2, by omega⟩, h4⟩
  by_cases hi : f = 2139095040
  · subst hi
    obtain ⟨n, hn⟩ : ∃ n : Nat, n = 1202 := ⟨_, rfl⟩
    rw [V_F32 E n hE hn]
    have HO := fhide (fun w : World => nOf 1 w (by omega))
    obtain rfl : g = 255 := by omega
    have HN := fhide hn
    clear hn hm hml hf hE hg
    go_enter Try.func18, Try.ntmps18
    go_wp2_with (simp only [h1, hg1, hmw])
    refine (HO.out _).mono ?_
    rintro e w1 ⟨r, rfl, k, hr, hk, hk2, hbl⟩
    have H1 := fhide (And.intro hr (And.intro hk2 hbl))
    clear hr hk hk2 hbl
    go_wp2_with fail
    refine (HU.out w1 r k 1 n 1202 H1.out.1 H1.out.2.1 (by have := HN.out; omega) (by have := HN.out; omega)).mono ?_
    rintro e w2 ⟨r2, rfl, hl, hbl⟩
    have H2 := fhide (And.intro hl hbl)
    clear hl hbl
    go_wp2_with fail
    go_ret
    exact ⟨r2, rfl, H2.out.1, H1.out.2.2.trans (H2.out.2.mono H1.out.2.2.size)⟩
  · have hg255 : ((g : Int) == 255) = false := by simp; omega
    rw [V32, hg, hm]
    by_cases h0 : g = 0
    · rw [if_pos h0]
      have hg0 : ((g : Int) == 0) = true := by simp; omega
      have HO := fhide (fun w : World => nOf m w (by omega))
      have HE := fhide hE
      clear hm hml hf hE hg hi h0 hgl
      go_enter Try.func18, Try.ntmps18
      go_wp2_with (simp only [h1, hg1, hmw])
      refine (HO.out _).mono ?_
      rintro e w1 ⟨r, rfl, k, hr, hk, hk2, hbl⟩
      have H1 := fhide (And.intro hr (And.intro hk2 hbl))
      clear hr hk hk2 hbl
      go_wp2_with fail
      refine (HU.out w1 r k m E 925 H1.out.1 H1.out.2.1 (by have := HE.out; omega) (by have := HE.out; omega)).mono ?_
      rintro e w2 ⟨r2, rfl, hl, hbl⟩
      have H2 := fhide (And.intro hl hbl)
      clear hl hbl
      go_wp2_with fail
      go_ret
      exact ⟨r2, rfl, H2.out.1, H1.out.2.2.trans (H2.out.2.mono H1.out.2.2.size)⟩
    · rw [if_neg h0]
      have hg0 : ((g : Int) == 0) = false := by simp; omega
      have h3 : bits BinOp.or IntKind.u64 (m : Int) 8388608 = ((m + 8388608 : Nat) : Int) := by
        have := u64_or_nat m 8388608 (by omega) (by omega)
        rw [show m ||| 8388608 = 8388608 + m from n_or_lo 23 m hml, Nat.add_comm] at this
        exact this
      have HO := fhide (fun w : World => nOf (m + 8388608) w (by omega))
      obtain ⟨n, hn⟩ : ∃ n : Nat, n = g - 1 + E := ⟨_, rfl⟩
      rw [Nat.mul_assoc, ← Nat.pow_add, ← hn]
      have hn2 : (925 : Int) + (g : Int) - 1 = (n : Int) := by omega
      have HN := fhide (show n ≤ 2000 by omega)
      generalize m + 8388608 = mm at *
      clear hm hml hf hE hg hi hn h0 hgl
      go_enter Try.func18, Try.ntmps18
      go_wp2_with (simp only [h1, hg1, hmw, h3, hn2])
      refine (HO.out _).mono ?_
      rintro e w1 ⟨r, rfl, k, hr, hk, hk2, hbl⟩
      have H1 := fhide (And.intro hr (And.intro hk2 hbl))
      clear hr hk hk2 hbl
      go_wp2_with (simp only [hn2])
      refine (HU.out w1 r k mm n _ H1.out.1 H1.out.2.1 HN.out (by omega)).mono ?_
      rintro e w2 ⟨r2, rfl, hl, hbl⟩
      have H2 := fhide (And.intro hl hbl)
      clear hl hbl
      go_wp2_with fail
      go_ret
      exact ⟨r2, rfl, H2.out.1, H1.out.2.2.trans (H2.out.2.mono H1.out.2.2.size)⟩

/-- The nearest one lies between the middles. -/
theorem nar_mid (x E : Nat) (hx : x < 9218868437227405312) (hE : E = 925) : ∃ R, R ≤ 2139095040 ∧ nar32 x = R ∧ nar32 (x + 9223372036854775808) = R + 2147483648 ∧
    (R ≠ 0 → V Ieee.single R * 2 ^ E + V Ieee.single (R - 1) * 2 ^ E ≤ V Ieee.double x * 2 ^ 1) ∧ (R ≠ 2139095040 → V Ieee.double x * 2 ^ 1 ≤ V Ieee.single R * 2 ^ E + V Ieee.single (R + 1) * 2 ^ E) := by
  have hg : gapE = E := by rw [hE]; rfl
  obtain ⟨m1, m2⟩ := rnd_mid Ieee.single (by decide) (V Ieee.double x) (2 ^ E) (Nat.two_pow_pos _)
  unfold nar32
  rw [hg, show x % 9223372036854775808 = x by omega, show x / 9223372036854775808 = 0 by omega, show (x + 9223372036854775808) % 9223372036854775808 = x by omega, show (x + 9223372036854775808) / 9223372036854775808 = 1 by omega]
  generalize rnd Ieee.single (V Ieee.double x) (2 ^ E) = R at *
  refine ⟨min R 2139095040, Nat.min_le_right .., by omega, by omega, fun h0 => ?_, fun hn => ?_⟩
  · rw [← Nat.add_mul, Nat.pow_one, Nat.mul_comm _ 2]
    have hR0 : R ≠ 0 := by rintro rfl; apply h0; simp
    refine Nat.le_trans (Nat.mul_le_mul_right _ (Nat.add_le_add (V_le (Nat.min_le_left ..)) (V_le ?_))) (m1 hR0)
    have := Nat.min_le_left R 2139095040
    omega
  · have e : min R 2139095040 = R := by omega
    rw [← Nat.add_mul, Nat.pow_one, Nat.mul_comm _ 2, e]; exact m2
end Go.Proofs.Ytdiinhccfifiaac

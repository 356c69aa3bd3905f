/- units, top: a finite number in units of the least place. -/
import Derived.Test.YtmkploknoohliaaND
import Derived.Test.YtmkploknoohliaaFQ
namespace Go.Proofs.Ytmkploknoohliaa
open Go.RowKit
open M
set_option linter.unusedVariables false
set_option linter.unusedSimpArgs false

/-- A number's row, short. -/
def Lim (w : World) (v : Value) (N : Nat) : Prop := ∃ k, Row w v k N ∧ Nrm k N ∧ k ≤ 1000
theorem Lim.below {w w' : World} {v : Value} {N : Nat} (h : Lim w v N) (hb : Below w.heap.size w w') : Lim w' v N := by
  obtain ⟨k, h1, h2, h3⟩ := h
  exact ⟨k, h1.below hb, h2, h3⟩

theorem V64 (b : Nat) : Flt.V Ieee.double b = if b / 4503599627370496 = 0 then b % 4503599627370496 else (b % 4503599627370496 + 4503599627370496) * 2 ^ (b / 4503599627370496 - 1) := by
  unfold Flt.V
  have e : Ieee.double.binade = 4503599627370496 := by decide
  rw [e]
  by_cases h : b < 4503599627370496
  · rw [if_pos h, if_pos (Nat.div_eq_of_lt h), Nat.mod_eq_of_lt h]
  · rw [if_neg h, if_neg (by omega), Nat.add_comm]

set_option maxRecDepth 100000 in
set_option maxHeartbeats 1000000 in
theorem units_any (b : Nat) (w : World) (hb : b < 18446744073709551616) : Calls Try.prog 13 #[.int .u64 b] w fun e w' => ∃ r, e = .returned r ∧ (∃ k, Row w' r k (Flt.V Ieee.double (b % 9223372036854775808)) ∧ Nrm k (Flt.V Ieee.double (b % 9223372036854775808)) ∧ k ≤ 100) ∧ Below w.heap.size w w' := by
  rw [V64]
  obtain ⟨f, hf, hfl⟩ : ∃ f : Nat, b % 9223372036854775808 / 4503599627370496 = f ∧ f < 2048 := ⟨_, rfl, by omega⟩
  obtain ⟨m, hm, hml⟩ : ∃ m : Nat, b % 9223372036854775808 % 4503599627370496 = m ∧ m < 4503599627370496 := ⟨_, rfl, by omega⟩
  rw [hf, hm]
  have h1 : bits BinOp.and IntKind.u64 ((b : Int) / 4503599627370496) 2047 = (f : Int) := by
    rw [show (b : Int) / 4503599627370496 = ((b / 4503599627370496 : Nat) : Int) by simp]
    have := u64_and_nat (b / 4503599627370496) 2047 (by omega) (by omega)
    rw [show b / 4503599627370496 &&& 2047 = b / 4503599627370496 % 2048 from Nat.and_two_pow_sub_one_eq_mod _ 11, show b / 4503599627370496 % 2048 = f by omega] at this
    exact this
  have h2 : bits BinOp.and IntKind.u64 (b : Int) 4503599627370495 = (m : Int) := by
    have := u64_and_nat b 4503599627370495 hb (by omega)
    rw [show b &&& 4503599627370495 = b % 4503599627370496 from Nat.and_two_pow_sub_one_eq_mod _ 52, show b % 4503599627370496 = m by omega] at this
    exact this
  clear hf hm
  by_cases h0 : f = 0
  · rw [if_pos h0]
    have h0' : ((f : Int) == 0) = true := by simp; omega
    have HO := hide (fun w : World => nOf m w (by omega))
    clear h0 hfl hml hb
    go_enter Try.func13, Try.ntmps13
    go_wp2_with (simp only [h1, h2])
    refine (HO.out _).mono ?_
    rintro e w1 ⟨r, rfl, k, hr, hk, hk2, hbl⟩
    have H1 := hide (And.intro hr (And.intro hk (And.intro hk2 hbl)))
    clear hr hk hk2 hbl
    go_wp2_with fail
    go_ret
    exact ⟨r, rfl, ⟨k, H1.out.1, H1.out.2.1, by have := H1.out.2.2.1; omega⟩, H1.out.2.2.2⟩
  · rw [if_neg h0]
    have h0' : ((f : Int) == 0) = false := by simp; omega
    have h3 : bits BinOp.or IntKind.u64 (m : Int) 4503599627370496 = ((m + 4503599627370496 : Nat) : Int) := by
      have := u64_or_nat m 4503599627370496 (by omega) (by omega)
      rw [show m ||| 4503599627370496 = 4503599627370496 + m from n_or_lo 52 m hml, Nat.add_comm] at this
      exact this
    obtain ⟨g, hg, hg1⟩ : ∃ g : Nat, f - 1 = g ∧ (f : Int) - 1 = (g : Int) := ⟨_, rfl, by omega⟩
    have hgl : g ≤ 2046 := by omega
    have HO := hide (fun w : World => nOf (m + 4503599627370496) w (by omega))
    rw [hg]
    have hfi : (f : Int) < 2048 := by omega
    generalize m + 4503599627370496 = mm at *
    clear h0 hfl hml hb hg
    go_enter Try.func13, Try.ntmps13
    go_wp2_with (simp only [h1, h2, h3])
    refine (HO.out _).mono ?_
    rintro e w1 ⟨r, rfl, k, hr, hk, hk2, hbl⟩
    have H1 := hide (And.intro hr (And.intro hk (And.intro hk2 hbl)))
    clear hr hk hk2 hbl
    have HU := hide (nUp2 r k mm g w1 H1.out.1 (by have := H1.out.2.2.1; omega) (by omega))
    go_wp2_with (simp only [hg1])
    refine HU.out.mono ?_
    rintro e w2 ⟨r2, rfl, k2, hr, hk, hk2, hbl⟩
    have H2 := hide (And.intro hr (And.intro hk (And.intro hk2 hbl)))
    clear hr hk hk2 hbl HU
    go_wp2_with fail
    go_ret
    exact ⟨r2, rfl, ⟨k2, H2.out.1, H2.out.2.1, by have := H2.out.2.2.1; have := H1.out.2.2.1; omega⟩, H1.out.2.2.2.trans (H2.out.2.2.2.mono H1.out.2.2.2.size)⟩

end Go.Proofs.Ytmkploknoohliaa

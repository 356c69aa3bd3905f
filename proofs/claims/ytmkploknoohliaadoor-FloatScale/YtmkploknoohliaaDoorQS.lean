/- math.Ldexp of anything, math.frexp, TrailingZeros64; the program's Split and Scale. -/
import Derived.Test.YtmkploknoohliaaDoorQR
import Derived.Test.YtmkploknoohliaaDoorQN
import Derived.Test.YtmkploknoohliaaDoorQO
import Derived.Lib.TrailingZeros
import Derived.Deep.RegionHeld3
namespace Go.Proofs.YtmkploknoohliaaDoor
open Go.RowKit
open Flt
set_option linter.unusedVariables false
set_option linter.unusedSimpArgs false

set_option maxRecDepth 100000 in
/-- IsInf of what is not finite. -/
theorem IsInf_not (a : Nat) (w : World) (ha : a < 18446744073709551616) (hf : 9218868437227405312 ≤ a % 9223372036854775808) : Calls Tryd.prog 11 #[.float .f64 a, .int .i64 0] w fun e w' => e = .returned (.bool (decide (a % 9223372036854775808 = 9218868437227405312))) ∧ w' = w := by
  have HA := fhide (fun w : World => Abs_any a w ha)
  obtain ⟨r, hr⟩ : ∃ r : Nat, a % 9223372036854775808 = r := ⟨_, rfl⟩
  rw [hr] at HA hf
  rw [hr]
  by_cases c : r = 9218868437227405312
  · have c1 : FloatKind.f64.format.order r 9218868437227405311 = some .gt := by rw [c]; decide +kernel
    rw [decide_eq_true c]
    clear c hf ha hr
    go_enter Tryd.func11, Tryd.ntmps11
    go_wp2_with fail
    refine (HA.out _).mono ?_
    rintro e w1 ⟨rfl, hw1⟩
    have hw1 := hw1.symm
    subst hw1
    go_wp2_with (simp only [c1])
    go_ret
    exact ⟨rfl, rfl⟩
  · have c1 : FloatKind.f64.format.order r 9218868437227405311 = none := order_nan Ieee.double (by decide) _ _ (.inl (by rw [rg64, inf64]; omega))
    rw [decide_eq_false c]
    clear c hf ha hr
    go_enter Tryd.func11, Tryd.ntmps11
    go_wp2_with fail
    refine (HA.out _).mono ?_
    rintro e w1 ⟨rfl, hw1⟩
    have hw1 := hw1.symm
    subst hw1
    go_wp2_with (simp only [c1])
    go_ret
    exact ⟨rfl, rfl⟩

/-- What math.Ldexp tells of anything. -/
def ldx (n : Int) (a : Nat) : Nat := if a % 9223372036854775808 = 0 ∨ 9218868437227405312 ≤ a % 9223372036854775808 then a else scw n a

theorem order_zero0 (a : Nat) (h : a % 9223372036854775808 = 0) : Ieee.double.order a 0 = some .eq := by
  rw [order_all Ieee.double (by decide) a 0 (by rw [rg64, inf64]; omega) (by rw [rg64, inf64]; omega)]
  have e0 : ∀ b, rg Ieee.double b = 0 → sv Ieee.double b = 0 := by
    intro b hb
    unfold sv
    rw [hb, V_zero]; split <;> rfl
  rw [e0 0 (by decide +kernel), e0 a (by rw [rg64]; exact h), cmp_eq]

theorem order_inf0 (a : Nat) (h : a % 9223372036854775808 = 9218868437227405312) : Ieee.double.order a 0 = some .lt ∨ Ieee.double.order a 0 = some .gt := by
  rw [order_all Ieee.double (by decide) a 0 (by rw [rg64, inf64]; omega) (by rw [rg64, inf64]; omega)]
  have e0 : sv Ieee.double 0 = 0 := by
    unfold sv
    rw [show rg Ieee.double 0 = 0 by decide +kernel, V_zero]; split <;> rfl
  have hv : 0 < V Ieee.double (rg Ieee.double a) := by
    rw [rg64, ← V_zero Ieee.double]; exact V_lt (by omega)
  rw [e0]
  unfold sv
  cases sg Ieee.double a
  · right; rw [cmp_gt (by simp only [Bool.false_eq_true, if_false]; omega)]
  · left; rw [cmp_lt (by simp only [if_true]; omega)]

set_option maxRecDepth 100000 in
set_option maxHeartbeats 2000000 in
theorem ldexp_any (a : Nat) (n : Int) (w : World) (ha : a < 18446744073709551616) (hn1 : -2200 ≤ n) (hn2 : n ≤ 2200) : Calls Tryd.prog 46 #[.float .f64 a, .int .i64 n] w fun e w' => e = .returned (.float .f64 (ldx n a)) ∧ w' = w := by
  unfold ldx
  by_cases c1 : a % 9223372036854775808 = 0
  · rw [if_pos (.inl c1)]
    have o : FloatKind.f64.format.order a 0 = some .eq := order_zero0 a c1
    clear c1 ha
    go_enter Tryd.func46, Tryd.ntmps46
    go_wp2_with (simp only [o])
    go_ret
    exact ⟨rfl, rfl⟩
  by_cases c2 : 9218868437227405312 ≤ a % 9223372036854775808
  · rw [if_pos (.inr c2)]
    have HI := fhide (fun w : World => IsInf_not a w ha c2)
    by_cases c3 : a % 9223372036854775808 = 9218868437227405312
    · rw [decide_eq_true c3] at HI
      have o := order_inf0 a c3
      clear c1 c2 c3 ha
      rcases o with o | o
      all_goals
        have o : FloatKind.f64.format.order a 0 = _ := o
        go_enter Tryd.func46, Tryd.ntmps46
        go_wp2_with (simp only [o])
        refine (HI.out _).mono ?_
        rintro e w1 ⟨rfl, hw1⟩
        have hw1 := hw1.symm
        subst hw1
        go_wp2_with fail
        go_ret
        exact ⟨rfl, rfl⟩
    · rw [decide_eq_false c3] at HI
      have HN := fhide (fun w : World => IsNaN_any a w)
      rw [decide_eq_true (by omega)] at HN
      have o : FloatKind.f64.format.order a 0 = none := order_nan Ieee.double (by decide) _ _ (.inl (by rw [rg64, inf64]; omega))
      clear c1 c2 c3 ha
      go_enter Tryd.func46, Tryd.ntmps46
      go_wp2_with (simp only [o])
      refine (HI.out _).mono ?_
      rintro e w1 ⟨rfl, hw1⟩
      have hw1 := hw1.symm
      subst hw1
      go_wp2_with fail
      refine (HN.out _).mono ?_
      rintro e w1 ⟨rfl, hw1⟩
      have hw1 := hw1.symm
      subst hw1
      go_wp2_with fail
      go_ret
      exact ⟨rfl, rfl⟩
  rw [if_neg (by omega)]
  exact ldexp_num a n w ha (by omega) (by omega) hn1 hn2

set_option maxRecDepth 100000 in
theorem Ldexp_any (a : Nat) (n : Int) (w : World) (ha : a < 18446744073709551616) (hn1 : -2200 ≤ n) (hn2 : n ≤ 2200) : Calls Tryd.prog 20 #[.float .f64 a, .int .i64 n] w fun e w' => e = .returned (.float .f64 (ldx n a)) ∧ w' = w := by
  have HL := fhide (fun w : World => ldexp_any a n w ha hn1 hn2)
  generalize ldx n a = out at *
  clear ha
  go_enter Tryd.func20, Tryd.ntmps20
  go_wp2_with fail
  refine (HL.out _).mono ?_
  rintro e w1 ⟨rfl, hw1⟩
  have hw1 := hw1.symm
  subst hw1
  go_wp2_with fail
  go_ret
  exact ⟨rfl, rfl⟩

theorem u64_and2047 (y g : Nat) (hg : g < 4096) : bits .and .u64 (g : Int) 2047 = ((g % 2048 : Nat) : Int) := by
  have := u64_and_nat g 2047 (by omega) (by omega)
  rw [show g &&& 2047 = g % 2048 from Nat.and_two_pow_sub_one_eq_mod g 11] at this
  exact this

set_option maxRecDepth 100000 in
set_option maxHeartbeats 2000000 in
/-- A positive number's share, of half to 1, and its power. -/
theorem frexp_num (a : Nat) (w : World) (ha : a < 9218868437227405312) (h0 : 0 < a) : Calls Tryd.prog 36 #[.float .f64 a] w fun e w' => ∃ f t u : Nat, e = .returned (.tuple #[.float .f64 (4602678819172646912 + t), .int .i64 ((f : Int) - u - 1021)]) ∧ t < 4503599627370496 ∧ f ≤ 2045 ∧ u ≤ 52 ∧ (4503599627370496 + t) * 2 ^ f = V Ieee.double a * 2 ^ u ∧ w' = w := by
  have hm : a % 9223372036854775808 = a := by omega
  have HI := fhide (fun w : World => IsInf_fin a w (by omega) (by omega))
  have HN := fhide (fun w : World => IsNaN_any a w)
  rw [decide_eq_false (by omega)] at HN
  have HM := fhide (fun w : World => normalize_any a w (by omega) (by omega) (by omega))
  have hs : sg Ieee.double a = false := by rw [sgQ a (by omega), decide_eq_false (by omega)]
  have ord := order_fin0 a (by omega) (by omega)
  rw [hs] at ord HM
  rw [hm] at HM
  have ord0 : FloatKind.f64.format.order a 0 = some .gt := ord
  generalize V Ieee.double a = W at HM ⊢
  clear ord hs hm ha h0
  go_enter Tryd.func36, Tryd.ntmps36
  go_wp2_with (simp only [ord0])
  refine (HI.out _).mono ?_
  rintro e w1 ⟨rfl, hw1⟩
  have hw1 := hw1.symm
  subst hw1
  go_wp2_with fail
  refine (HN.out _).mono ?_
  rintro e w1 ⟨rfl, hw1⟩
  have hw1 := hw1.symm
  subst hw1
  go_wp2_with fail
  refine (HM.out _).mono ?_
  rintro e w1 ⟨f, t, u, rfl, ht, hf, hu, he, hw1⟩
  have hw1 := hw1.symm
  subst hw1
  obtain ⟨g, hg, hg2, hand0⟩ := field_out false f t ht hf
  have hgv : g = f + 1 := by
    have h1 : ((Ieee.double.word false ((f + 1) * 4503599627370496 + t) : Nat) : Int) / 4503599627370496 = ((f + 1 : Nat) : Int) := by rw [word_put]; simp only [Bool.toNat_false]; omega
    omega
  have hand := u64_and2047 0 g (by omega)
  rw [show g % 2048 = g by omega] at hand
  have hcut := field_cut false f t ht hf
  rw [show 9223372036854775808 * false.toNat + t = t by simp] at hcut
  have hto := tobits64 (Ieee.double.word false ((f + 1) * 4503599627370496 + t))
  generalize Ieee.double.word false ((f + 1) * 4503599627370496 + t) = y at *
  have hor : bits BinOp.or IntKind.u64 (t : Int) 4602678819172646912 = ((4602678819172646912 + t : Nat) : Int) := by
    have := b64_put 0 1022 t (by omega) (by omega) ht
    rw [show 9223372036854775808 * 0 + t = t by omega] at this
    rw [show 9223372036854775808 * 0 + (4503599627370496 * 1022 + t) = 4602678819172646912 + t by omega] at this
    exact this
  have hfr := frombits64 (4602678819172646912 + t)
  generalize hz : 4602678819172646912 + t = z at *
  obtain ⟨e1, hE1, hb1⟩ : ∃ e1 : Int, (g : Int) - 1023 = e1 ∧ (-3000 ≤ e1 ∧ e1 ≤ 3000) := ⟨_, rfl, by omega⟩
  obtain ⟨e2, hE2, hb2⟩ : ∃ e2 : Int, e1 + 1 = e2 ∧ (-3000 ≤ e2 ∧ e2 ≤ 3000) := ⟨_, rfl, by omega⟩
  obtain ⟨e3, hE3, hb3⟩ : ∃ e3 : Int, -(u : Int) + e2 = e3 ∧ (-6000 ≤ e3 ∧ e3 ≤ 6000) := ⟨_, rfl, by omega⟩
  have HE := fhide (And.intro ht (And.intro hf (And.intro hu (And.intro he (And.intro hz (show e3 = (f : Int) - u - 1021 by omega))))))
  clear ht hf hu he hz hgv hand0
  go_wp2_with (simp only [hto, hg, hand, hE1, hE2, hE3, hcut, hor, hfr])
  go_ret2
  exact ⟨f, t, u, by rw [HE.out.2.2.2.2.1, ← HE.out.2.2.2.2.2]; rfl, HE.out.1, HE.out.2.1, HE.out.2.2.1, HE.out.2.2.2.1, rfl⟩

set_option maxRecDepth 100000 in
theorem Frexp_num (a : Nat) (w : World) (ha : a < 9218868437227405312) (h0 : 0 < a) : Calls Tryd.prog 13 #[.float .f64 a] w fun e w' => ∃ f t u : Nat, e = .returned (.tuple #[.float .f64 (4602678819172646912 + t), .int .i64 ((f : Int) - u - 1021)]) ∧ t < 4503599627370496 ∧ f ≤ 2045 ∧ u ≤ 52 ∧ (4503599627370496 + t) * 2 ^ f = V Ieee.double a * 2 ^ u ∧ w' = w := by
  have HL := fhide (fun w : World => frexp_num a w ha h0)
  generalize V Ieee.double a = W at *
  clear ha h0
  go_enter Tryd.func13, Tryd.ntmps13
  go_wp2_with fail
  refine (HL.out _).mono ?_
  rintro e w1 ⟨f, t, u, rfl, ht, hf, hu, he, hw1⟩
  have hw1 := hw1.symm
  subst hw1
  have HE := fhide (And.intro ht (And.intro hf (And.intro hu he)))
  clear ht hf hu he
  generalize hz : 4602678819172646912 + t = z at *
  generalize hy : (f : Int) - u - 1021 = y at *
  have HY := fhide (And.intro hz hy)
  clear hz hy
  go_wp2_with fail
  go_ret2
  exact ⟨f, t, u, by rw [HY.out.1, HY.out.2]; rfl, HE.out.1, HE.out.2.1, HE.out.2.2.1, HE.out.2.2.2, rfl⟩

/-- The library's table lies as its text lays it. -/
def Tab64 (w : World) : Prop := ∀ j, j < 64 → w.cell? ⟨1, j, none⟩ = some (.int .u8 (Lib.deBruijn64tab.getD j 0 : Nat))

theorem Tab64.below {w w' : World} (h : Tab64 w) (hb : Below w.heap.size w w') : Tab64 w' := fun j hj => by
  rw [hb.cell (p := ⟨1, j, none⟩) (block_lt_of_cell (h j hj))]; exact h j hj

theorem tz64_key (x a : Nat) (hx : x < 18446744073709551616) (hx0 : x ≠ 0) (hlow : x &&& (18446744073709551616 - x) = a) :
    IntKind.u64.wrap (bits BinOp.and IntKind.u64 (x : Int) (IntKind.u64.wrap (-(x : Int))) * 285870213051353865) / 288230376151711744 = ((a * 285870213051353865 % 18446744073709551616 / 288230376151711744 : Nat) : Int) := by
  have e1 : -(x : Int) % 18446744073709551616 = ((18446744073709551616 - x : Nat) : Int) := by omega
  rw [IntKind.wrap_u64, IntKind.wrap_u64, e1, u64_and_nat x _ hx (by omega), hlow]
  omega

set_option maxRecDepth 100000 in
set_option maxHeartbeats 1000000 in
theorem tz64_core (x k idx : Nat) (w : World) (hx0 : ((x : Int) == 0) = false)
    (key : IntKind.u64.wrap (bits BinOp.and IntKind.u64 (x : Int) (IntKind.u64.wrap (-(x : Int))) * 285870213051353865) / 288230376151711744 = (idx : Int))
    (hi : idx < 64) (hk : k < 64) (hcell : w.cell? ⟨1, idx, none⟩ = some (.int .u8 k)) :
    Calls Tryd.prog 15 #[.int .u64 x] w fun e w' => e = .returned (.int .i64 k) ∧ w' = w := by
  go_enter Tryd.func15, Tryd.ntmps15
  go_wp2_with (simp only [key])
  go_ret
  exact ⟨rfl, rfl⟩

theorem tz64_any (x : Nat) (w : World) (hx : x < 18446744073709551616) (hx0 : x ≠ 0) (hT : Tab64 w) :
    Calls Tryd.prog 15 #[.int .u64 x] w fun e w' => e = .returned (.int .i64 (Lib.ctz 64 x : Nat)) ∧ w' = w := by
  obtain ⟨hlow, hk⟩ := Lib.lowest_bit 64 x hx0 hx
  obtain ⟨hi, htab⟩ := Lib.deBruijn64_at _ hk
  have hcell := hT _ hi
  rw [htab] at hcell
  exact tz64_core x _ _ w (by simp; omega) (tz64_key x _ hx hx0 hlow) hi hk hcell

end Go.Proofs.YtmkploknoohliaaDoor

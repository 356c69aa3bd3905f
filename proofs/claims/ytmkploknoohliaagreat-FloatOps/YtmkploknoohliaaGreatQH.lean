/- whole, Round, ToInt of any mode: the program's. -/
import Derived.Test.YtmkploknoohliaaGreatQG
namespace Go.Proofs.YtmkploknoohliaaGreat
open Go.RowKit
open Flt
set_option linter.unusedVariables false
set_option linter.unusedSimpArgs false

set_option maxRecDepth 100000 in
set_option maxHeartbeats 1000000 in
theorem whole_any (T : Nat) (hT : T = 1074) (a m : Nat) (w : World) (ha : a < 18446744073709551616) (hm : m ≤ 4) : Calls Tryz.prog 13 #[.float .f64 a, .int .i64 m] w fun e w' => ∃ x, IsWhole T m a x ∧ e = .returned (.tuple #[.float .f64 x, .bool true]) ∧ Below w.heap.size w w' := by
  have hc : m = 0 ∨ m = 1 ∨ m = 2 ∨ m = 3 ∨ m = 4 := by omega
  clear hm
  rcases hc with rfl | rfl | rfl | rfl | rfl
  · obtain ⟨x, w', h1, h2, h3⟩ := run_evenW T hT a ha w
    have H1 := fhide h1
    have H2 : Hid (Below w.heap.size w w') := by
      show Below _ _ _
      rcases h2 with rfl | rfl
      · exact Below.refl _ _
      · exact (Below.refl _ _).drew
    clear h1 h2 ha hT
    go_enter Tryz.func13, Tryz.ntmps13
    go_wp2_with (simp only [h3])
    go_ret2
    exact ⟨x, H1.out, rfl, H2.out⟩
  · have HC := fhide (fun w : World => RoundAway_any T hT a w ha)
    clear ha hT
    go_enter Tryz.func13, Tryz.ntmps13
    go_wp2_with fail
    refine (HC.out _).mono ?_
    rintro e w1 ⟨x, h1, rfl, hb⟩
    have H1 := fhide (And.intro h1 hb)
    clear h1 hb
    go_wp2_with fail
    go_ret2
    exact ⟨x, H1.out.1, rfl, H1.out.2⟩
  · have HC := fhide (fun w : World => Trunc_any T hT a w ha)
    clear ha hT
    go_enter Tryz.func13, Tryz.ntmps13
    go_wp2_with fail
    refine (HC.out _).mono ?_
    rintro e w1 ⟨x, h1, rfl, hb⟩
    have H1 := fhide (And.intro h1 hb)
    clear h1 hb
    go_wp2_with fail
    go_ret2
    exact ⟨x, H1.out.1, rfl, H1.out.2⟩
  · have HC := fhide (fun w : World => Floor_any T hT a w ha)
    clear ha hT
    go_enter Tryz.func13, Tryz.ntmps13
    go_wp2_with fail
    refine (HC.out _).mono ?_
    rintro e w1 ⟨x, h1, rfl, hb⟩
    have H1 := fhide (And.intro h1 hb)
    clear h1 hb
    go_wp2_with fail
    go_ret2
    exact ⟨x, H1.out.1, rfl, H1.out.2⟩
  · have HC := fhide (fun w : World => Ceil_any T hT a w ha)
    clear ha hT
    go_enter Tryz.func13, Tryz.ntmps13
    go_wp2_with fail
    refine (HC.out _).mono ?_
    rintro e w1 ⟨x, h1, rfl, hb⟩
    have H1 := fhide (And.intro h1 hb)
    clear h1 hb
    go_wp2_with fail
    go_ret2
    exact ⟨x, H1.out.1, rfl, H1.out.2⟩

set_option maxRecDepth 100000 in
theorem whole_bad (a : Nat) (mode : Int) (w : World) (hm : mode < 0 ∨ 4 < mode) : Calls Tryz.prog 13 #[.float .f64 a, .int .i64 mode] w fun e w' => e = .returned (.tuple #[.float .f64 0, .bool false]) ∧ w' = w := by
  have h0 : (mode == 0) = false := by simp; omega
  have h1 : (mode == 1) = false := by simp; omega
  have h2 : (mode == 2) = false := by simp; omega
  have h3 : (mode == 3) = false := by simp; omega
  have h4 : (mode == 4) = false := by simp; omega
  clear hm
  go_enter Tryz.func13, Tryz.ntmps13
  go_wp2_with fail
  go_ret2
  exact ⟨rfl, rfl⟩

/-- What Round tells. -/
def rndv (T m a : Nat) : Nat := if 9218868437227405312 < a % 9223372036854775808 then 9221120237041090560 else if a % 9223372036854775808 = 9218868437227405312 then a else ent T (sg Ieee.double a) (whl m (sg Ieee.double a) (V Ieee.double (rg Ieee.double a)) (2 ^ T))
theorem IsWhole.pat {T m a x : Nat} (h : IsWhole T m a x) : pat64 x = rndv T m a := by
  obtain ⟨h1, h2, h3, h4⟩ := h
  unfold rndv
  rcases Nat.lt_trichotomy (a % 9223372036854775808) 9218868437227405312 with c | c | c
  · rw [if_neg (by omega), if_neg (by omega), h4 c, pat64_num _ (ent_lt _ _ _).2]
  · rw [if_neg (by omega), if_pos c, h3 c, pat64_num a (by omega)]
  · rw [if_pos c, pat64_nan x (h2 c)]


/-- The whole number, with its sign. -/
def wz (T m a : Nat) : Int := if sg Ieee.double a then -((whl m (sg Ieee.double a) (V Ieee.double (rg Ieee.double a)) (2 ^ T) : Nat) : Int) else ((whl m (sg Ieee.double a) (V Ieee.double (rg Ieee.double a)) (2 ^ T) : Nat) : Int)

theorem V_63 (T n : Nat) (hT : T = 1074) (hn : n = 63) : V Ieee.double 4890909195324358656 = 2 ^ n * 2 ^ T := by
  obtain ⟨q, hq⟩ : ∃ q : Nat, q = 1085 := ⟨_, rfl⟩
  have h := (V_at Ieee.double q Ieee.double.binade (by decide) (.inr (Nat.le_refl _))).1
  rw [show q * Ieee.double.binade + Ieee.double.binade = 4890909195324358656 by rw [hq]; decide +kernel] at h
  rw [h, show Ieee.double.binade = 2 ^ 52 by decide, ← Nat.pow_add, ← Nat.pow_add, show 52 + q = n + T by omega]

theorem below_pos (s : Bool) (K W Z Q : Nat) (B : Int) (hB : B = (Q : Int)) (c1 : W < Z ↔ K < Q) (c2 : Z < W ↔ Q < K) (hpos : 0 < Z) (hq : 0 < Q) :
    if (if s then -(K : Int) else (K : Int)) < B then some (compare (if s then -(W : Int) else (W : Int)) (Z : Int)) = some Ordering.lt else some (compare (if s then -(W : Int) else (W : Int)) (Z : Int)) = some Ordering.gt ∨ some (compare (if s then -(W : Int) else (W : Int)) (Z : Int)) = some Ordering.eq := by
  subst hB
  cases s
  · simp only [Bool.false_eq_true, if_false]
    by_cases h : K < Q
    · rw [if_pos (by omega)]
      have h9 := c1.2 h
      rw [cmp_lt (by omega)]
    · rw [if_neg (by omega)]
      by_cases h1 : Z < W
      · left; rw [cmp_gt (by omega)]
      · right
        have h2 : ¬ W < Z := fun h2 => h (c1.1 h2)
        have h10 : W = Z := by omega
        rw [h10, cmp_eq]
  · simp only [if_true]
    rw [if_pos (by omega), cmp_lt (by omega)]

set_option maxRecDepth 100000 in
/-- How a whole number stands to the bounds; and as an int64. -/
theorem whole_int (T m a x : Nat) (hT : T = 1074) (hm : m ≤ 4) (hx : IsWhole T m a x) (hfin : a % 9223372036854775808 < 9218868437227405312) :
    (if -9223372036854775808 ≤ wz T m a then Ieee.double.order x 14114281232179134464 = some .gt ∨ Ieee.double.order x 14114281232179134464 = some .eq else Ieee.double.order x 14114281232179134464 = some .lt) ∧
    (if wz T m a < 9223372036854775808 then Ieee.double.order x 4890909195324358656 = some .lt else Ieee.double.order x 4890909195324358656 = some .gt ∨ Ieee.double.order x 4890909195324358656 = some .eq) ∧
    (-9223372036854775808 ≤ wz T m a → wz T m a < 9223372036854775808 → floatToIntVal .f64 x .i64 = some (wz T m a)) := by
  obtain ⟨R, hR, _⟩ := whl_repr T m (sg Ieee.double a) (rg Ieee.double a) hm (by omega)
  have hxe := hx.2.2.2 hfin
  rw [ent_exact T _ _ R hR] at hxe
  obtain ⟨n, hn⟩ : ∃ n : Nat, n = 63 := ⟨_, rfl⟩
  have h63 := V_63 T n hT hn
  have hpT := Nat.two_pow_pos T
  unfold wz
  generalize hK : whl m (sg Ieee.double a) (V Ieee.double (rg Ieee.double a)) (2 ^ T) = K at *
  generalize sg Ieee.double a = s at *
  have hxl : min R Ieee.double.infRung < Ieee.double.signWeight := Nat.lt_of_le_of_lt (Nat.min_le_right ..) Ieee.double.infRung_lt
  have hxr : rg Ieee.double x = min R Ieee.double.infRung := by rw [hxe, rg_word _ _ _ hxl]
  have hxs : sg Ieee.double x = s := by rw [hxe, sg_word _ _ _ hxl]
  have hxn : rg Ieee.double x ≤ Ieee.double.infRung := by rw [hxr]; exact Nat.min_le_right ..
  -- against 2 ^ 63, by rungs
  have hcmp : (V Ieee.double (min R Ieee.double.infRung) < V Ieee.double 4890909195324358656 ↔ K < 2 ^ n) ∧ (V Ieee.double 4890909195324358656 < V Ieee.double (min R Ieee.double.infRung) ↔ 2 ^ n < K) := by
    have hi : 4890909195324358656 < Ieee.double.infRung := by rw [inf64]; omega
    have k1 : K < 2 ^ n ↔ K * 2 ^ T < 2 ^ n * 2 ^ T := (Nat.mul_lt_mul_right hpT).symm
    have k2 : 2 ^ n < K ↔ 2 ^ n * 2 ^ T < K * 2 ^ T := (Nat.mul_lt_mul_right hpT).symm
    constructor
    · rw [k1, ← hR, ← h63, V_lt_iff, V_lt_iff]; omega
    · rw [k2, ← hR, ← h63, V_lt_iff, V_lt_iff]; omega
  obtain ⟨c1, c2⟩ := hcmp
  have hpn : 2 ^ n = 9223372036854775808 := by rw [hn]
  obtain ⟨Q, hQ⟩ : ∃ Q, 2 ^ n = Q := ⟨_, rfl⟩
  rw [hQ] at c1 c2 hpn
  have hbigR : Ieee.double.infRung ≤ R → Q < K := fun h => c2.1 (by rw [Nat.min_eq_right h]; exact V_lt (by rw [inf64]; omega))
  have sx : sv Ieee.double x = if s then -((V Ieee.double (min R Ieee.double.infRung) : Nat) : Int) else ((V Ieee.double (min R Ieee.double.infRung) : Nat) : Int) := by
    unfold sv; rw [hxs, hxr]
  have sneg : sv Ieee.double 14114281232179134464 = -((V Ieee.double 4890909195324358656 : Nat) : Int) := by
    unfold sv
    rw [show sg Ieee.double 14114281232179134464 = true by decide +kernel, show rg Ieee.double 14114281232179134464 = 4890909195324358656 by decide +kernel]
    rfl
  have spos : sv Ieee.double 4890909195324358656 = ((V Ieee.double 4890909195324358656 : Nat) : Int) := by
    unfold sv
    rw [show sg Ieee.double 4890909195324358656 = false by decide +kernel, show rg Ieee.double 4890909195324358656 = 4890909195324358656 by decide +kernel]
    rfl
  have o1 := order_all Ieee.double (by decide) x 14114281232179134464 hxn (by rw [rg64, inf64]; omega)
  have o2 := order_all Ieee.double (by decide) x 4890909195324358656 hxn (by rw [rg64, inf64]; omega)
  rw [sx, sneg] at o1
  rw [sx, spos] at o2
  have hpos : 0 < V Ieee.double 4890909195324358656 := by rw [h63]; exact Nat.mul_pos (Nat.two_pow_pos _) hpT
  generalize V Ieee.double 4890909195324358656 = Z at *
  generalize hW : V Ieee.double (min R Ieee.double.infRung) = W at *
  refine ⟨?_, ?_, ?_⟩
  · rw [o1]
    cases s
    · simp only [Bool.false_eq_true, if_false]
      rw [if_pos (by omega)]
      left; rw [cmp_gt (by omega)]
    · simp only [if_true]
      by_cases h : K ≤ Q
      · rw [if_pos (by omega)]
        rcases Nat.lt_or_ge W Z with h1 | h1
        · left; rw [cmp_gt (by omega)]
        · right
          have : W = Z := by
            rcases Nat.lt_or_ge Z W with h2 | h2
            · have := c2.1 h2; omega
            · omega
          rw [this, cmp_eq]
      · rw [if_neg (by omega)]
        have := c2.2 (by omega)
        rw [cmp_lt (by omega)]
  · rw [o2]
    exact below_pos s K W Z Q 9223372036854775808 (by rw [hpn]; rfl) c1 c2 hpos (by rw [hpn]; decide)
  · intro b1 b2
    have hKl : K ≤ 9223372036854775808 := by
      cases s
      · simp only [Bool.false_eq_true, if_false] at b1 b2; omega
      · simp only [if_true] at b1 b2; omega
    have hRi : R < Ieee.double.infRung := by
      rcases Nat.lt_or_ge R Ieee.double.infRung with h | h
      · exact h
      · have := hbigR h; omega
    have hrx : rg Ieee.double x = R := by rw [hxr]; exact Nat.min_eq_left (Nat.le_of_lt hRi)
    obtain ⟨m', k', e1, e2, _⟩ := read_fin Ieee.double x (by rw [hrx]; exact hRi)
    rw [hxs] at e1
    rw [hrx, hR] at e2
    have hl : Ieee.double.leastPlace = -1074 := by decide
    have hcut : Ieee.Toward.zero.cut s (m' <<< (Ieee.double.leastPlace + (k' : Int)).toNat) (-(Ieee.double.leastPlace + (k' : Int))).toNat = K := by
      have := cut_ways s (m' <<< (Ieee.double.leastPlace + (k' : Int)).toNat) (-(Ieee.double.leastPlace + (k' : Int))).toNat 2 (by simp)
      rw [show Ieee.Toward.zero = wayOf 2 from rfl, this, Nat.shiftLeft_eq, hl]
      show m' * 2 ^ (-1074 + (k' : Int)).toNat / 2 ^ (-(-1074 + (k' : Int))).toNat = K
      have h5 : m' * 2 ^ (-1074 + (k' : Int)).toNat = K * 2 ^ (-(-1074 + (k' : Int))).toNat := by
        refine Nat.eq_of_mul_eq_mul_right hpT ?_
        rw [Nat.mul_right_comm K, ← e2, Nat.mul_assoc, Nat.mul_assoc, ← Nat.pow_add, ← Nat.pow_add]
        exact congrArg (m' * 2 ^ ·) (by omega)
      rw [h5]; exact Nat.mul_div_cancel _ (Nat.two_pow_pos _)
    have hto : (FloatKind.f64.decode x).toInt .zero = some (Ieee.signed s K 0) := by
      rw [show FloatKind.f64.decode x = _ from e1]
      show some (Ieee.signed s (Ieee.Toward.zero.cut s (m' <<< (Ieee.double.leastPlace + (k' : Int)).toNat) (-(Ieee.double.leastPlace + (k' : Int))).toNat) 0) = _
      rw [hcut]
    have hsg : Ieee.signed s K 0 = if s then -(K : Int) else (K : Int) := by unfold Ieee.signed; simp
    unfold floatToIntVal
    rw [hto, hsg]
    have hmn : IntKind.i64.min = -9223372036854775808 := by decide
    have hmx : IntKind.i64.max = 9223372036854775807 := by decide
    simp only [hmn, hmx]
    rw [if_pos ⟨b1, by omega⟩]

set_option maxRecDepth 100000 in
set_option maxHeartbeats 1000000 in
theorem ToInt_in (T : Nat) (hT : T = 1074) (a m : Nat) (w : World) (ha : a < 18446744073709551616) (hm : m ≤ 4) (hf : a % 9223372036854775808 < 9218868437227405312) (b1 : -9223372036854775808 ≤ wz T m a) (b2 : wz T m a < 9223372036854775808) : Calls Tryz.prog 39 #[.int .u64 a, .int .i64 m] w fun e w' => e = .returned (.tuple #[.int .i64 (wz T m a), .int .i64 0]) ∧ Below w.heap.size w w' := by
  have HW := fhide (fun w : World => whole_any T hT a m w ha hm)
  have HI : Hid (∀ x, IsWhole T m a x → (Ieee.double.order x 14114281232179134464 = some .gt ∨ Ieee.double.order x 14114281232179134464 = some .eq) ∧ Ieee.double.order x 4890909195324358656 = some .lt ∧ floatToIntVal .f64 x .i64 = some (wz T m a)) := by
    intro x hx
    obtain ⟨h1, h2, h3⟩ := whole_int T m a x hT hm hx hf
    exact ⟨by rw [if_pos b1] at h1; exact h1, by rw [if_pos b2] at h2; exact h2, h3 b1 b2⟩
  have HB := fhide (And.intro b1 b2)
  clear ha hm hT hf b1 b2
  generalize wz T m a = z at *
  go_enter Tryz.func39, Tryz.ntmps39
  go_wp2_with fail
  refine (value64_any a _).mono ?_
  rintro e w1 ⟨rfl, hw1⟩
  have hw1 := hw1.symm
  subst hw1
  go_wp2_with fail
  refine (HW.out _).mono ?_
  rintro e w1 ⟨x, hx, rfl, hb1⟩
  obtain ⟨i1, i2, i3⟩ := HI.out x hx
  have h2 : FloatKind.f64.format.order x 4890909195324358656 = some .lt := i2
  have hcv := fun w : World => run_convert_float_int (P := Tryz.prog) w 30 2 .f64 .i64 x z (by kernel_rfl) (by kernel_rfl) i3
  have HX := fhide hb1
  clear hx hb1 i2 i3 HI HW HB
  rcases i1 with i1 | i1
  all_goals
    have h1 : FloatKind.f64.format.order x 14114281232179134464 = _ := i1
    clear i1
    go_wp2_with (simp only [h1, h2, hcv])
    go_ret2
    exact ⟨rfl, HX.out⟩

set_option maxRecDepth 100000 in
set_option maxHeartbeats 1000000 in
theorem ToInt_out (T : Nat) (hT : T = 1074) (a m : Nat) (w : World) (ha : a < 18446744073709551616) (hm : m ≤ 4) (hb : ¬ (a % 9223372036854775808 < 9218868437227405312 ∧ -9223372036854775808 ≤ wz T m a ∧ wz T m a < 9223372036854775808)) : Calls Tryz.prog 39 #[.int .u64 a, .int .i64 m] w fun e w' => e = .returned (.tuple #[.int .i64 0, .int .i64 30]) ∧ Below w.heap.size w w' := by
  have HW := fhide (fun w : World => whole_any T hT a m w ha hm)
  have HI : Hid (∀ x, IsWhole T m a x → (Ieee.double.order x 14114281232179134464 = some .lt ∨ Ieee.double.order x 14114281232179134464 = none) ∨ ((Ieee.double.order x 14114281232179134464 = some .gt ∨ Ieee.double.order x 14114281232179134464 = some .eq) ∧ (Ieee.double.order x 4890909195324358656 = some .gt ∨ Ieee.double.order x 4890909195324358656 = some .eq))) := by
    intro x hx
    rcases Nat.lt_trichotomy (a % 9223372036854775808) 9218868437227405312 with c | c | c
    · obtain ⟨i1, i2, _⟩ := whole_int T m a x hT hm hx c
      by_cases b1 : -9223372036854775808 ≤ wz T m a
      · rw [if_pos b1] at i1
        rw [if_neg (fun h => hb ⟨c, b1, h⟩)] at i2
        exact .inr ⟨i1, i2⟩
      · rw [if_neg b1] at i1; exact .inl (.inl i1)
    · rw [hx.2.2.1 c]
      have hn : rg Ieee.double a = Ieee.double.infRung := by rw [rg64, inf64]; exact c
      have o1 := order_all Ieee.double (by decide) a 14114281232179134464 (by rw [hn]; exact Nat.le_refl _) (by rw [rg64, inf64]; omega)
      have o2 := order_all Ieee.double (by decide) a 4890909195324358656 (by rw [hn]; exact Nat.le_refl _) (by rw [rg64, inf64]; omega)
      have hv : V Ieee.double 4890909195324358656 < V Ieee.double Ieee.double.infRung := V_lt (by rw [inf64]; omega)
      have sneg : sv Ieee.double 14114281232179134464 = -((V Ieee.double 4890909195324358656 : Nat) : Int) := by
        unfold sv
        rw [show sg Ieee.double 14114281232179134464 = true by decide +kernel, show rg Ieee.double 14114281232179134464 = 4890909195324358656 by decide +kernel]
        rfl
      have spos : sv Ieee.double 4890909195324358656 = ((V Ieee.double 4890909195324358656 : Nat) : Int) := by
        unfold sv
        rw [show sg Ieee.double 4890909195324358656 = false by decide +kernel, show rg Ieee.double 4890909195324358656 = 4890909195324358656 by decide +kernel]
        rfl
      rw [sneg] at o1
      rw [spos] at o2
      have sa : sv Ieee.double a = if sg Ieee.double a then -((V Ieee.double Ieee.double.infRung : Nat) : Int) else ((V Ieee.double Ieee.double.infRung : Nat) : Int) := by unfold sv; rw [hn]
      rw [sa] at o1 o2
      generalize V Ieee.double 4890909195324358656 = Z at *
      generalize V Ieee.double Ieee.double.infRung = I at *
      cases hs : sg Ieee.double a
      · rw [hs] at o1 o2
        simp only [Bool.false_eq_true, if_false] at o1 o2
        rw [cmp_gt (by omega)] at o1 o2
        exact .inr ⟨.inl o1, .inl o2⟩
      · rw [hs] at o1 o2
        simp only [if_true] at o1 o2
        rw [cmp_lt (by omega)] at o1
        exact .inl (.inl o1)
    · exact .inl (.inr (order_nan _ (by decide) _ _ (.inl (by rw [rg64, inf64]; exact hx.2.1 c))))
  clear ha hm hT hb
  go_enter Tryz.func39, Tryz.ntmps39
  go_wp2_with fail
  refine (value64_any a _).mono ?_
  rintro e w1 ⟨rfl, hw1⟩
  have hw1 := hw1.symm
  subst hw1
  go_wp2_with fail
  refine (HW.out _).mono ?_
  rintro e w1 ⟨x, hx, rfl, hb1⟩
  have i1 := HI.out x hx
  have HX := fhide hb1
  clear hx hb1 HI HW
  rcases i1 with (i1 | i1) | ⟨i1 | i1, i2 | i2⟩
  · have h1 : FloatKind.f64.format.order x 14114281232179134464 = _ := i1
    clear i1
    go_wp2_with (simp only [h1])
    go_ret2
    exact ⟨rfl, HX.out⟩
  · have h1 : FloatKind.f64.format.order x 14114281232179134464 = _ := i1
    clear i1
    go_wp2_with (simp only [h1])
    go_ret2
    exact ⟨rfl, HX.out⟩
  all_goals
    have h1 : FloatKind.f64.format.order x 14114281232179134464 = _ := i1
    have h2 : FloatKind.f64.format.order x 4890909195324358656 = _ := i2
    clear i1 i2
    go_wp2_with (simp only [h1, h2])
    go_ret2
    exact ⟨rfl, HX.out⟩

set_option maxRecDepth 100000 in
theorem ToInt_bad (a : Nat) (mode : Int) (w : World) (hm : mode < 0 ∨ 4 < mode) : Calls Tryz.prog 39 #[.int .u64 a, .int .i64 mode] w fun e w' => e = .returned (.tuple #[.int .i64 0, .int .i64 31]) ∧ w' = w := by
  have HW := fhide (fun w : World => whole_bad a mode w hm)
  clear hm
  go_enter Tryz.func39, Tryz.ntmps39
  go_wp2_with fail
  refine (value64_any a _).mono ?_
  rintro e w1 ⟨rfl, hw1⟩
  have hw1 := hw1.symm
  subst hw1
  go_wp2_with fail
  refine (HW.out _).mono ?_
  rintro e w1 ⟨rfl, hw1⟩
  have hw1 := hw1.symm
  subst hw1
  go_wp2_with fail
  go_ret2
  exact ⟨rfl, rfl⟩
end Go.Proofs.YtmkploknoohliaaGreat

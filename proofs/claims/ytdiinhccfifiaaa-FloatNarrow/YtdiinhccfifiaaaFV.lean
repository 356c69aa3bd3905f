/- How numbers stand by their places, of both widths: Cmp and the document's Compare; Distance; words that came in. -/
import Derived.Test.YtdiinhccfifiaaaFU
import Derived.Test.YtdiinhccfifiaaaFQ
import Derived.Test.YtdiinhccfifiaaaFL
namespace Go.Proofs.Ytdiinhccfifiaaa
open Go.RowKit
open Flt
set_option linter.unusedVariables false
set_option linter.unusedSimpArgs false

/-- How two stand to each other, by their places. -/
def ord64 (a b : Nat) : Option Ordering := if 9218868437227405312 < a % 9223372036854775808 ∨ 9218868437227405312 < b % 9223372036854775808 then none else if a % 9223372036854775808 = 0 ∧ b % 9223372036854775808 = 0 then some .eq else if key64 a < key64 b then some .lt else if key64 b < key64 a then some .gt else some .eq
def ord32 (a b : Nat) : Option Ordering := if 2139095040 < a % 2147483648 ∨ 2139095040 < b % 2147483648 then none else if a % 2147483648 = 0 ∧ b % 2147483648 = 0 then some .eq else if key32 a < key32 b then some .lt else if key32 b < key32 a then some .gt else some .eq

theorem order64 (a b : Nat) (ha : a < 18446744073709551616) (hb : b < 18446744073709551616) : Ieee.double.order a b = ord64 a b := by
  unfold ord64
  by_cases h : 9218868437227405312 < a % 9223372036854775808 ∨ 9218868437227405312 < b % 9223372036854775808
  · rw [if_pos h, order_nan64 a b h]
  · rw [if_neg h]
    by_cases h0 : a % 9223372036854775808 = 0 ∧ b % 9223372036854775808 = 0
    · rw [if_pos h0, order_zero a b ha hb h0.1 h0.2]
    · rw [if_neg h0]
      rcases order_key a b ha hb (by omega) (by omega) h0 with ⟨e, h1, _⟩ | ⟨e, h1⟩ | ⟨e, h1, _⟩
      · rw [e, if_pos h1]
      · subst h1; rw [e, if_neg (by omega), if_neg (by omega)]
      · rw [e, if_neg (by omega), if_pos h1]

/-- The wider words stand as the narrow ones do. -/
theorem rung_lt (a b x y : Nat) (ha : a % 2147483648 ≤ 2139095040) (hb : b % 2147483648 ≤ 2139095040) (hx : x % 9223372036854775808 ≤ 9218868437227405312) (hy : y % 9223372036854775808 ≤ 9218868437227405312)
    (x1 : x % 9223372036854775808 = 9218868437227405312 ↔ a % 2147483648 = 2139095040) (x2 : a % 2147483648 < 2139095040 → V Ieee.double (x % 9223372036854775808) = V Ieee.single (a % 2147483648) * 2 ^ gapE)
    (y1 : y % 9223372036854775808 = 9218868437227405312 ↔ b % 2147483648 = 2139095040) (y2 : b % 2147483648 < 2139095040 → V Ieee.double (y % 9223372036854775808) = V Ieee.single (b % 2147483648) * 2 ^ gapE) :
    x % 9223372036854775808 < y % 9223372036854775808 ↔ a % 2147483648 < b % 2147483648 := by
  by_cases h1 : a % 2147483648 < 2139095040
  · by_cases h2 : b % 2147483648 < 2139095040
    · rw [← V_lt_iff (f := Ieee.double), x2 h1, y2 h2, Nat.mul_lt_mul_right (Nat.two_pow_pos _), V_lt_iff]
    · omega
  · omega

theorem order32 (a b x y : Nat) (ha : a < 4294967296) (hb : b < 4294967296) (na : a % 2147483648 ≤ 2139095040) (nb : b % 2147483648 ≤ 2139095040)
    (hx : floatToFloatBits .f32 a .f64 = some x) (hy : floatToFloatBits .f32 b .f64 = some y) : Ieee.double.order x y = ord32 a b := by
  obtain ⟨x', e1, xl, xn, _, xs, xi, xv⟩ := f2f_wide a ha na
  obtain ⟨y', e2, yl, yn, _, ys, yi, yv⟩ := f2f_wide b hb nb
  rw [hx] at e1; cases e1
  rw [hy] at e2; cases e2
  have r1 := rung_lt a b x y na nb xn yn xi xv yi yv
  have r2 := rung_lt b a y x nb na yn xn yi yv xi xv
  have z1 : x % 9223372036854775808 = 0 ↔ a % 2147483648 = 0 := by
    by_cases h : a % 2147483648 < 2139095040
    · have := xv h
      rw [← V_zero_iff Ieee.double, this, Nat.mul_eq_zero, V_zero_iff]
      constructor
      · rintro (h | h)
        · exact h
        · have := Nat.two_pow_pos gapE; omega
      · exact Or.inl
    · omega
  have z2 : y % 9223372036854775808 = 0 ↔ b % 2147483648 = 0 := by
    by_cases h : b % 2147483648 < 2139095040
    · have := yv h
      rw [← V_zero_iff Ieee.double, this, Nat.mul_eq_zero, V_zero_iff]
      constructor
      · rintro (h | h)
        · exact h
        · have := Nat.two_pow_pos gapE; omega
      · exact Or.inl
    · omega
  clear xv yv
  rw [order64 x y xl yl]
  unfold ord64 ord32
  rw [if_neg (by omega), if_neg (show ¬ (2139095040 < a % 2147483648 ∨ 2139095040 < b % 2147483648) by omega)]
  have k1 : key64 x < key64 y ↔ key32 a < key32 b := by unfold key64 key32; split <;> split <;> split <;> split <;> omega
  have k2 : key64 y < key64 x ↔ key32 b < key32 a := by unfold key64 key32; split <;> split <;> split <;> split <;> omega
  simp only [z1, z2, k1, k2]

theorem cut_conv (b t : Nat) : IsNan64 (Question.cut (.nanConv .f64 b) t) := cut_nan 0 0 t
theorem run_conv_nan (b : Nat) (h : 2139095040 < b % 2147483648) (w : World) : ∃ nb, IsNan64 nb ∧ (convert 94 81 (.float .f32 b)).run Try.prog w = .ok (.float .f64 nb) w.drew := by
  refine ⟨Question.cut (.nanConv .f64 b) (w.tape w.drawn (.nanConv .f64 b)), cut_conv _ _, ?_⟩
  have hd : FloatKind.f32.decode b = .nan (sg Ieee.single b) (rg Ieee.single b - Ieee.single.infRung) := read_nan Ieee.single b (by decide) (by rw [rg32, inf32]; exact h)
  have hs : Try.prog.underlying 94 = some (.float .f32) := by kernel_rfl
  have ht : Try.prog.underlying 81 = some (.float .f64) := by kernel_rfl
  simp [convert, run_underlying hs, run_underlying ht, Conv.floatToFloat, hd, Question.forced]
set_option maxRecDepth 100000 in
theorem value32_nan (b : Nat) (w : World) (h : 2139095040 < b % 2147483648) : Calls Try.prog 72 #[.int .u32 b] w fun e w' => ∃ x, IsNan64 x ∧ e = .returned (.float .f64 x) ∧ w' = w.drew := by
  have hf := frombits32 b
  obtain ⟨nb, hnb, hcv⟩ := run_conv_nan b h w
  have HN := fhide hnb
  clear hnb h
  go_enter Try.func72, Try.ntmps72
  go_wp2_with fail
  refine (wide32_any _).mono ?_
  rintro e w1 ⟨rfl, rfl⟩
  go_wp2_with (simp only [hf, hcv])
  go_ret
  exact ⟨nb, HN.out, rfl, rfl⟩
/-- value, of a number or of a NaN. -/
theorem value32_any (b : Nat) (w : World) (hb : b < 4294967296) : Calls Try.prog 72 #[.int .u32 b] w fun e w' => ∃ x, (9218868437227405312 < x % 9223372036854775808 ↔ 2139095040 < b % 2147483648) ∧ (b % 2147483648 ≤ 2139095040 → floatToFloatBits .f32 b .f64 = some x) ∧ e = .returned (.float .f64 x) ∧ Below w.heap.size w w' := by
  by_cases h : 2139095040 < b % 2147483648
  · refine (value32_nan b w h).mono ?_
    rintro e w' ⟨x, hx, rfl, rfl⟩
    exact ⟨x, ⟨fun _ => h, fun _ => hx.1⟩, fun h2 => by omega, rfl, (Below.refl _ _).drew⟩
  · obtain ⟨x, e1, xl, xn, _⟩ := f2f_wide b hb (by omega)
    refine (value32_num b x w e1).mono ?_
    rintro e w' ⟨rfl, rfl⟩
    exact ⟨x, by omega, fun _ => e1, rfl, Below.refl _ _⟩

set_option maxRecDepth 100000 in
set_option maxHeartbeats 1000000 in
theorem Cmp32_any (a b : Nat) (w : World) (ha : a < 4294967296) (hb : b < 4294967296) : Calls Try.prog 28 #[.int .u32 a, .int .u32 b] w fun e w' => e = .returned (.tuple #[.int .i64 (cmpI (ord32 a b)), .bool (ord32 a b).isSome]) ∧ Below w.heap.size w w' := by
  have hk : ∀ o : Option Ordering, o = none ∨ o = some .lt ∨ o = some .eq ∨ o = some .gt := by
    rintro (_ | _ | _ | _) <;> simp
  have HK := fhide (hk (ord32 a b))
  have HO : Hid (∀ x y, (9218868437227405312 < x % 9223372036854775808 ↔ 2139095040 < a % 2147483648) → (a % 2147483648 ≤ 2139095040 → floatToFloatBits .f32 a .f64 = some x) →
      (9218868437227405312 < y % 9223372036854775808 ↔ 2139095040 < b % 2147483648) → (b % 2147483648 ≤ 2139095040 → floatToFloatBits .f32 b .f64 = some y) → FloatKind.f64.format.order x y = ord32 a b) := by
    intro x y h1 h2 h3 h4
    show Ieee.double.order x y = _
    by_cases hn : 2139095040 < a % 2147483648 ∨ 2139095040 < b % 2147483648
    · rw [order_nan64 x y (by omega)]
      unfold ord32; rw [if_pos hn]
    · exact order32 a b x y ha hb (by omega) (by omega) (h2 (by omega)) (h4 (by omega))
  have HV := fhide (And.intro (fun w => value32_any a w ha) (fun w => value32_any b w hb))
  clear hk ha hb
  generalize ord32 a b = o at *
  go_enter Try.func28, Try.ntmps28
  go_wp2_with fail
  refine (HV.out.1 _).mono ?_
  rintro e w1 ⟨x, hx1, hx2, rfl, hb1⟩
  have H1 := fhide (And.intro hx1 (And.intro hx2 hb1))
  clear hx1 hx2 hb1
  go_wp2_with fail
  refine (HV.out.2 _).mono ?_
  rintro e w2 ⟨y, hy1, hy2, rfl, hb2⟩
  have hd := HO.out x y H1.out.1 H1.out.2.1 hy1 hy2
  have H2 := fhide (H1.out.2.2.trans (hb2.mono H1.out.2.2.size))
  clear hy1 hy2 hb2 HO HV H1
  rcases HK.out with rfl | rfl | rfl | rfl
  all_goals
    clear HK
    go_wp2_with (simp only [hd])
    go_ret2
    exact ⟨rfl, H2.out⟩

/-- Words that came in. -/
def IsWords (w : World) (a : Option Addr) (len : Nat) : Prop :=
  len ≤ 9223372036854775807 ∧ (0 < len → ∃ g o, a = some ⟨g, o, none⟩ ∧ g < w.heap.size ∧ ∀ i, i < len → ∃ A : Nat, A < 18446744073709551616 ∧ w.cell? ⟨g, o + i, none⟩ = some (.int .u64 A))
end Go.Proofs.Ytdiinhccfifiaaa

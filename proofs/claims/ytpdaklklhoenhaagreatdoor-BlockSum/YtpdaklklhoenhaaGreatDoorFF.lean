/- Key, OfKey, Class, Up, Down. -/
import Derived.Test.YtpdaklklhoenhaaGreatDoorFC
import Derived.Test.YtpdaklklhoenhaaGreatDoorProg
import Derived.WalkKit
import Derived.WalkSpells
import Derived.WalkLawsBesides
import Derived.Deep.QuietTactic
import Derived.BigQuiet
import Derived.BigRegion
import Derived.OwnWalk
import Derived.Laws.CopyOwn
import Derived.Laws.AppendOwnNone
import Derived.Deep.OwnRows
import Derived.Deep.RegionHeld3
import Derived.Laws.BitsAllLaws
import Derived.Laws.FloatArith
/- Rounding to the nearest: between which rungs, and to which. -/
namespace Go.Proofs.YtpdaklklhoenhaaGreatDoor
namespace Flt
set_option linter.unusedVariables false
set_option linter.unusedSimpArgs false
open Ieee

theorem V_at (f : Format) (k c : Nat) (h1 : c < 2 * f.binade) (h2 : k = 0 ∨ f.binade ≤ c) : V f (k * f.binade + c) = c * 2 ^ k ∧ V f (k * f.binade + c + 1) = (c + 1) * 2 ^ k := by
  have hb := binade_pos f
  have main : V f (k * f.binade + c) = c * 2 ^ k ∧ (k * f.binade + c) / f.binade - 1 = k := by
    rcases Nat.lt_or_ge c f.binade with h | h
    · have hk : k = 0 := by omega
      subst hk
      rw [Nat.zero_mul, Nat.zero_add, Nat.div_eq_of_lt h]
      unfold V; rw [if_pos h]; simp
    · obtain ⟨e, he⟩ : ∃ e, c = f.binade + e := ⟨c - f.binade, by omega⟩
      have hlt : e < f.binade := by omega
      have e0 : k * f.binade + c = e + f.binade * (k + 1) := by rw [he, Nat.mul_add, Nat.mul_comm]; omega
      have e1 : (k * f.binade + c) / f.binade = k + 1 := by rw [e0, Nat.add_mul_div_left _ _ hb, Nat.div_eq_of_lt hlt, Nat.zero_add]
      have e2 : (k * f.binade + c) % f.binade = e := by rw [e0, Nat.add_mul_mod_self_left, Nat.mod_eq_of_lt hlt]
      have e3 : ¬ (k * f.binade + c < f.binade) := by omega
      unfold V
      rw [if_neg e3, e1, e2, he]
      simp
  refine ⟨main.1, ?_⟩
  rw [V_step, main.1, main.2, Nat.add_mul, Nat.one_mul]

theorem rnd_spec (f : Format) (hf : 1 ≤ f.fractionBits) (n d : Nat) (hd : 0 < d) :
    ∃ r, V f r * d ≤ n ∧ n < V f (r + 1) * d ∧ rnd f n d = r + (if (V f r + V f (r + 1)) * d < 2 * n ∨ ((V f r + V f (r + 1)) * d = 2 * n ∧ r % 2 = 1) then 1 else 0) := by
  have hb := binade_pos f
  unfold rnd
  generalize hk : (n / d).log2 - f.fractionBits = k
  have hc : n / (d * 2 ^ k) < 2 * f.binade ∧ (k = 0 ∨ f.binade ≤ n / (d * 2 ^ k)) := by
    rw [← Nat.div_div_eq_div_mul]
    by_cases h0 : n / d = 0
    · rw [h0] at hk ⊢
      simp at hk ⊢
      omega
    · have l1 := Nat.log2_self_le h0
      have l2 := Nat.lt_log2_self (n := n / d)
      by_cases hk0 : k = 0
      · subst hk0
        rw [Nat.pow_zero, Nat.div_one]
        refine ⟨?_, Or.inl rfl⟩
        have : 2 ^ ((n / d).log2 + 1) ≤ 2 ^ (f.fractionBits + 1) := Nat.pow_le_pow_right (by omega) (by omega)
        have : 2 ^ (f.fractionBits + 1) = 2 * f.binade := by rw [Nat.pow_succ, Nat.mul_comm]; rfl
        omega
      · have el : (n / d).log2 = f.fractionBits + k := by omega
        rw [el] at l1 l2
        constructor
        · rw [Nat.div_lt_iff_lt_mul (Nat.two_pow_pos k)]
          rw [show f.fractionBits + k + 1 = 1 + f.fractionBits + k by omega, Nat.pow_add, Nat.pow_add] at l2
          exact l2
        · right
          rw [Nat.le_div_iff_mul_le (Nat.two_pow_pos k)]
          rw [Nat.pow_add] at l1
          exact l1
  obtain ⟨v1, v2⟩ := V_at f k _ hc.1 hc.2
  refine ⟨k * f.binade + n / (d * 2 ^ k), ?_, ?_, ?_⟩
  · rw [v1, Nat.mul_assoc, Nat.mul_comm (2 ^ k) d]; exact Nat.div_mul_le_self ..
  · rw [v2, Nat.mul_assoc, Nat.mul_comm (2 ^ k) d, Nat.mul_comm]
    exact Nat.lt_mul_div_succ n (Nat.mul_pos hd (Nat.two_pow_pos k))
  · rw [v1, v2]
    unfold cutE
    rw [← Nat.add_assoc]
    refine congrArg _ ?_
    have hU : 0 < d * 2 ^ k := Nat.mul_pos hd (Nat.two_pow_pos k)
    have e1 : (n / (d * 2 ^ k) * 2 ^ k + (n / (d * 2 ^ k) + 1) * 2 ^ k) * d = 2 * (d * 2 ^ k * (n / (d * 2 ^ k))) + d * 2 ^ k := by
      generalize n / (d * 2 ^ k) = c
      rw [Nat.add_mul c, Nat.one_mul, Nat.add_mul, Nat.add_mul, Nat.mul_assoc c, Nat.mul_comm (2 ^ k) d, Nat.mul_comm c]
      omega
    have hdm := Nat.div_add_mod n (d * 2 ^ k)
    rw [e1]
    have ep : (k * f.binade + n / (d * 2 ^ k)) % 2 = n / (d * 2 ^ k) % 2 := by
      obtain ⟨x, hx⟩ : ∃ x, f.fractionBits = x + 1 := ⟨f.fractionBits - 1, by omega⟩
      have : f.binade = 2 * 2 ^ x := by unfold Format.binade; rw [hx, Nat.pow_succ, Nat.mul_comm]
      rw [this, Nat.mul_left_comm, Nat.mul_add_mod]
    rw [ep]
    generalize d * 2 ^ k * (n / (d * 2 ^ k)) = t at *
    generalize n / (d * 2 ^ k) = c at *
    generalize n % (d * 2 ^ k) = s at *
    generalize d * 2 ^ k = U at *
    by_cases h : U < 2 * s ∨ U = 2 * s ∧ c % 2 = 1
    · rw [if_pos h, if_pos (by omega)]
    · rw [if_neg h, if_neg (by omega)]
end Flt
end Go.Proofs.YtpdaklklhoenhaaGreatDoor

/- Bits, and the parts of a pattern: wide, layoutOf, isNaN, theNaN. -/
namespace Go.Proofs.YtpdaklklhoenhaaGreatDoor
open Go.RowKit
set_option linter.unusedVariables false
set_option linter.unusedSimpArgs false

theorem fhide {p : Prop} (h : p) : Hid p := h

/-- Four results. -/
theorem four_results {fn : Func} {a b c d : Tmp} (h : fn.results = #[.tmp a, .tmp b, .tmp c, .tmp d]) (tmps : Array Value) (P : Program) (w : World) :
    (results fn tmps).run P w = .ok (.tuple #[tmps.getD a undef, tmps.getD b undef, tmps.getD c undef, tmps.getD d undef]) w := by
  simp [results, h]

theorem is_struct {o p : Option TypeDesc} (e : p = o) (h : (match o with | some (.struct _) => true | _ => false) = true) : ∃ fs, p = some (.struct fs) := by
  subst e
  cases p with
  | none => simp at h
  | some d => cases d <;> first | exact ⟨_, rfl⟩ | simp at h

theorem n_and_lo (n r : Nat) (h : r < 2 ^ n) : r &&& 2 ^ n = 0 := by
  refine Nat.eq_of_testBit_eq fun i => ?_
  rw [Nat.testBit_and, Nat.testBit_two_pow, Nat.zero_testBit]
  by_cases hi : n = i
  · subst hi; rw [Nat.testBit_lt_two_pow h]; simp
  · simp [hi]
theorem n_and_hi (n r : Nat) (h : r < 2 ^ n) : (2 ^ n + r) &&& 2 ^ n = 2 ^ n := by
  refine Nat.eq_of_testBit_eq fun i => ?_
  rw [Nat.testBit_and, Nat.testBit_two_pow]
  by_cases hi : n = i
  · subst hi; rw [Nat.testBit_two_pow_add_eq, Nat.testBit_lt_two_pow h]; simp
  · simp [hi]
theorem n_or_lo (n r : Nat) (h : r < 2 ^ n) : r ||| 2 ^ n = 2 ^ n + r := by
  have := Nat.two_pow_add_eq_or_of_lt h 1
  rw [Nat.mul_one] at this
  rw [this, Nat.or_comm]
theorem n_xor_lo (n r : Nat) (h : r < 2 ^ n) : r ^^^ 2 ^ n = 2 ^ n + r := by
  rw [← n_or_lo n r h]
  refine Nat.eq_of_testBit_eq fun i => ?_
  rw [Nat.testBit_xor, Nat.testBit_or, Nat.testBit_two_pow]
  by_cases hi : n = i
  · subst hi; rw [Nat.testBit_lt_two_pow h]; simp
  · simp [hi]
theorem n_xor_hi (n r : Nat) (h : r < 2 ^ n) : (2 ^ n + r) ^^^ 2 ^ n = r := by
  rw [← n_xor_lo n r h, Nat.xor_assoc, Nat.xor_self, Nat.xor_zero]
theorem n_not (n a : Nat) (h : a < 2 ^ n) : (2 ^ n - 1) ^^^ a = 2 ^ n - 1 - a := by
  refine Nat.eq_of_testBit_eq fun i => ?_
  rw [show 2 ^ n - 1 - a = 2 ^ n - (a + 1) by omega, Nat.testBit_two_pow_sub_succ h, Nat.testBit_xor, Nat.testBit_two_pow_sub_one]
  by_cases hi : i < n
  · simp [hi]
  · have : a.testBit i = false := Nat.testBit_lt_two_pow (Nat.lt_of_lt_of_le h (Nat.pow_le_pow_right (by omega) (by omega)))
    simp [hi, this]
theorem n_mask (a f e : Nat) : a &&& ((2 ^ e - 1) * 2 ^ f) = a / 2 ^ f % 2 ^ e * 2 ^ f := by
  rw [← Nat.and_two_pow_sub_one_eq_mod, ← Nat.shiftLeft_eq, ← Nat.shiftLeft_eq, ← Nat.shiftRight_eq_div_pow]
  refine Nat.eq_of_testBit_eq fun i => ?_
  rw [Nat.testBit_and, Nat.testBit_shiftLeft, Nat.testBit_shiftLeft, Nat.testBit_and, Nat.testBit_shiftRight]
  by_cases hi : f ≤ i
  · rw [Nat.add_sub_cancel' hi]; simp [hi]
  · simp [hi]

theorem b64_and_lo (r : Nat) (h : r < 9223372036854775808) : bits BinOp.and IntKind.u64 (r : Int) 9223372036854775808 = 0 := by
  have := u64_and_nat r 9223372036854775808 (by omega) (by omega)
  rw [show r &&& 9223372036854775808 = 0 from n_and_lo 63 r h] at this; exact this
theorem b64_and_hi (b : Nat) (h : 9223372036854775808 ≤ b) (hb : b < 18446744073709551616) : bits BinOp.and IntKind.u64 (b : Int) 9223372036854775808 = 9223372036854775808 := by
  obtain ⟨r, rfl⟩ : ∃ r, b = 9223372036854775808 + r := ⟨b - 9223372036854775808, by omega⟩
  have := u64_and_nat (9223372036854775808 + r) 9223372036854775808 hb (by omega)
  rw [show (9223372036854775808 + r) &&& 9223372036854775808 = 9223372036854775808 from n_and_hi 63 r (show r < 9223372036854775808 by omega)] at this; exact this
theorem b64_or_lo (r : Nat) (h : r < 9223372036854775808) : bits BinOp.or IntKind.u64 (r : Int) 9223372036854775808 = ((9223372036854775808 + r : Nat) : Int) := by
  have := u64_or_nat r 9223372036854775808 (by omega) (by omega)
  rw [show r ||| 9223372036854775808 = 9223372036854775808 + r from n_or_lo 63 r h] at this; exact this
theorem b64_xor_lo (r : Nat) (h : r < 9223372036854775808) : bits BinOp.xor IntKind.u64 (r : Int) 9223372036854775808 = ((9223372036854775808 + r : Nat) : Int) := by
  have := u64_xor_nat r 9223372036854775808 (by omega) (by omega)
  rw [show r ^^^ 9223372036854775808 = 9223372036854775808 + r from n_xor_lo 63 r h] at this; exact this
theorem b64_xor_hi (b : Nat) (h : 9223372036854775808 ≤ b) (hb : b < 18446744073709551616) : bits BinOp.xor IntKind.u64 (b : Int) 9223372036854775808 = ((b - 9223372036854775808 : Nat) : Int) := by
  obtain ⟨r, rfl⟩ : ∃ r, b = 9223372036854775808 + r := ⟨b - 9223372036854775808, by omega⟩
  have := u64_xor_nat (9223372036854775808 + r) 9223372036854775808 hb (by omega)
  rw [show (9223372036854775808 + r) ^^^ 9223372036854775808 = r from n_xor_hi 63 r (show r < 9223372036854775808 by omega)] at this
  rw [Nat.add_sub_cancel_left]; exact this
theorem b64_not (b : Nat) (hb : b < 18446744073709551616) : bits BinOp.xor IntKind.u64 IntKind.u64.max (b : Int) = ((18446744073709551615 - b : Nat) : Int) := by
  have := u64_xor_nat 18446744073709551615 b (by omega) hb
  rw [show 18446744073709551615 ^^^ b = 18446744073709551615 - b from n_not 64 b hb] at this; exact this
theorem b64_abs (b : Nat) (hb : b < 18446744073709551616) : bits BinOp.andNot IntKind.u64 (b : Int) 9223372036854775808 = ((b % 9223372036854775808 : Nat) : Int) := by
  have := u64_andNot_nat b 9223372036854775808 hb (by omega)
  rw [show b &&& (18446744073709551615 - 9223372036854775808) = b % 9223372036854775808 from Nat.and_two_pow_sub_one_eq_mod b 63] at this; exact this
theorem b64_frac (b : Nat) (hb : b < 18446744073709551616) : bits BinOp.andNot IntKind.u64 (b : Int) 18442240474082181120 = ((b % 4503599627370496 : Nat) : Int) := by
  have := u64_andNot_nat b 18442240474082181120 hb (by omega)
  rw [show b &&& (18446744073709551615 - 18442240474082181120) = b % 4503599627370496 from Nat.and_two_pow_sub_one_eq_mod b 52] at this; exact this
theorem b64_field (b : Nat) (hb : b < 18446744073709551616) : bits BinOp.and IntKind.u64 (b : Int) 9218868437227405312 = ((b / 4503599627370496 % (2047 + 1) * 4503599627370496 : Nat) : Int) := by
  have := u64_and_nat b 9218868437227405312 hb (by omega)
  rw [show b &&& 9218868437227405312 = b / 4503599627370496 % (2047 + 1) * 4503599627370496 from n_mask b 52 11] at this; exact this
theorem b64_q_lo (r : Nat) (h : r < 2251799813685248) : bits BinOp.and IntKind.u64 (r : Int) 2251799813685248 = 0 := by
  have := u64_and_nat r 2251799813685248 (by omega) (by omega)
  rw [show r &&& 2251799813685248 = 0 from n_and_lo 51 r h] at this; exact this
theorem b64_q_hi (b : Nat) (h : 2251799813685248 ≤ b) (hb : b < 4503599627370496) : bits BinOp.and IntKind.u64 (b : Int) 2251799813685248 = 2251799813685248 := by
  obtain ⟨r, rfl⟩ : ∃ r, b = 2251799813685248 + r := ⟨b - 2251799813685248, by omega⟩
  have := u64_and_nat (2251799813685248 + r) 2251799813685248 (by omega) (by omega)
  rw [show (2251799813685248 + r) &&& 2251799813685248 = 2251799813685248 from n_and_hi 51 r (show r < 2251799813685248 by omega)] at this; exact this
theorem b64_sf : bits BinOp.or IntKind.u64 9223372036854775808 9218868437227405312 = 18442240474082181120 := by decide +kernel
theorem b64_fq : bits BinOp.or IntKind.u64 9218868437227405312 2251799813685248 = 9221120237041090560 := by decide +kernel
theorem b64_ones : bits BinOp.xor IntKind.u64 IntKind.u64.max 0 = 18446744073709551615 := by decide +kernel
theorem b64_top : bits BinOp.xor IntKind.u64 IntKind.u64.max 9223372036854775807 = 9223372036854775808 := by decide +kernel

theorem wide64_any (w : World) : Calls Tryz.prog 56 #[] w fun e w' => e = .returned (.bool true) ∧ w' = w := by
  have hx := b64_ones
  go_enter Tryz.func56, Tryz.ntmps56
  go_wp2_with (simp only [hx])
  go_ret
  exact ⟨rfl, rfl⟩

/-- The layout of 64 bits. -/
def lay64 : Value := .agg #[.int .u64 9223372036854775808, .int .u64 9218868437227405312, .int .u64 2251799813685248]

set_option maxRecDepth 100000 in
theorem layoutOf64_any (w : World) : Calls Tryz.prog 36 #[] w fun e w' => e = .returned lay64 ∧ Below w.heap.size w w' := by
  have hx := b64_ones
  have hy := b64_top
  go_enter Tryz.func36, Tryz.ntmps36
  go_wp2_with fail
  refine (wide64_any _).mono ?_
  rintro e w1 ⟨rfl, rfl⟩
  go_wp2_with (simp only [hx])
  go_region
  go_wp2_with fail
  obtain ⟨fs, hu⟩ := is_struct (show Tryz.prog.underlying 81 = Tryz.prog.underlying 81 from rfl) (by kernel_rfl)
  refine bodyPost_ret (results_cell_row rfl _ _ w.heap.size _ _ (0, 0) (.struct fs) rfl (heap_alloc_new w _) hu rfl (by kernel_rfl)) rfl ?_
  exact ⟨rfl, ((Below.refl _ w).alloc (Nat.le_refl _) _).drew⟩

theorem isNaN64_any (b : Nat) (w : World) (hb : b < 18446744073709551616) : Calls Tryz.prog 42 #[lay64, .int .u64 b] w fun e w' => e = .returned (.bool (decide (9218868437227405312 < b % 9223372036854775808))) ∧ Below w.heap.size w w' := by
  have hx := b64_abs b hb
  obtain ⟨r, hr, hrl⟩ : ∃ r, b % 9223372036854775808 = r ∧ r < 9223372036854775808 := ⟨_, rfl, Nat.mod_lt _ (by omega)⟩
  rw [hr] at hx ⊢
  clear hr
  unfold lay64
  go_enter Tryz.func42, Tryz.ntmps42
  go_wp2_with (simp only [hx])
  go_ret
  refine ⟨?_, (Below.refl _ w).alloc (Nat.le_refl _) _⟩
  show Ending.returned (.bool (decide ((9218868437227405312 : Int) < (r : Int)))) = _
  rw [show decide ((9218868437227405312 : Int) < (r : Int)) = decide (9218868437227405312 < r) by rw [decide_eq_decide]; omega]

theorem theNaN64_any (w : World) : Calls Tryz.prog 61 #[lay64] w fun e w' => e = .returned (.int .u64 9221120237041090560) ∧ Below w.heap.size w w' := by
  have hx := b64_fq
  unfold lay64
  go_enter Tryz.func61, Tryz.ntmps61
  go_wp2_with (simp only [hx])
  go_ret
  exact ⟨rfl, (Below.refl _ w).alloc (Nat.le_refl _) _⟩

theorem b32_and_lo (r : Nat) (h : r < 2147483648) : bits BinOp.and IntKind.u32 (r : Int) 2147483648 = 0 := by
  have := u32_and_nat r 2147483648 (by omega) (by omega)
  rw [show r &&& 2147483648 = 0 from n_and_lo 31 r h] at this; exact this
theorem b32_and_hi (b : Nat) (h : 2147483648 ≤ b) (hb : b < 4294967296) : bits BinOp.and IntKind.u32 (b : Int) 2147483648 = 2147483648 := by
  obtain ⟨r, rfl⟩ : ∃ r, b = 2147483648 + r := ⟨b - 2147483648, by omega⟩
  have := u32_and_nat (2147483648 + r) 2147483648 hb (by omega)
  rw [show (2147483648 + r) &&& 2147483648 = 2147483648 from n_and_hi 31 r (show r < 2147483648 by omega)] at this; exact this
theorem b32_or_lo (r : Nat) (h : r < 2147483648) : bits BinOp.or IntKind.u32 (r : Int) 2147483648 = ((2147483648 + r : Nat) : Int) := by
  have := u32_or_nat r 2147483648 (by omega) (by omega)
  rw [show r ||| 2147483648 = 2147483648 + r from n_or_lo 31 r h] at this; exact this
theorem b32_xor_lo (r : Nat) (h : r < 2147483648) : bits BinOp.xor IntKind.u32 (r : Int) 2147483648 = ((2147483648 + r : Nat) : Int) := by
  have := u32_xor_nat r 2147483648 (by omega) (by omega)
  rw [show r ^^^ 2147483648 = 2147483648 + r from n_xor_lo 31 r h] at this; exact this
theorem b32_xor_hi (b : Nat) (h : 2147483648 ≤ b) (hb : b < 4294967296) : bits BinOp.xor IntKind.u32 (b : Int) 2147483648 = ((b - 2147483648 : Nat) : Int) := by
  obtain ⟨r, rfl⟩ : ∃ r, b = 2147483648 + r := ⟨b - 2147483648, by omega⟩
  have := u32_xor_nat (2147483648 + r) 2147483648 hb (by omega)
  rw [show (2147483648 + r) ^^^ 2147483648 = r from n_xor_hi 31 r (show r < 2147483648 by omega)] at this
  rw [Nat.add_sub_cancel_left]; exact this
theorem b32_not (b : Nat) (hb : b < 4294967296) : bits BinOp.xor IntKind.u32 IntKind.u32.max (b : Int) = ((4294967295 - b : Nat) : Int) := by
  have := u32_xor_nat 4294967295 b (by omega) hb
  rw [show 4294967295 ^^^ b = 4294967295 - b from n_not 32 b hb] at this; exact this
theorem b32_abs (b : Nat) (hb : b < 4294967296) : bits BinOp.andNot IntKind.u32 (b : Int) 2147483648 = ((b % 2147483648 : Nat) : Int) := by
  have := u32_andNot_nat b 2147483648 hb (by omega)
  rw [show b &&& (4294967295 - 2147483648) = b % 2147483648 from Nat.and_two_pow_sub_one_eq_mod b 31] at this; exact this
theorem b32_frac (b : Nat) (hb : b < 4294967296) : bits BinOp.andNot IntKind.u32 (b : Int) 4286578688 = ((b % 8388608 : Nat) : Int) := by
  have := u32_andNot_nat b 4286578688 hb (by omega)
  rw [show b &&& (4294967295 - 4286578688) = b % 8388608 from Nat.and_two_pow_sub_one_eq_mod b 23] at this; exact this
theorem b32_field (b : Nat) (hb : b < 4294967296) : bits BinOp.and IntKind.u32 (b : Int) 2139095040 = ((b / 8388608 % (255 + 1) * 8388608 : Nat) : Int) := by
  have := u32_and_nat b 2139095040 hb (by omega)
  rw [show b &&& 2139095040 = b / 8388608 % (255 + 1) * 8388608 from n_mask b 23 8] at this; exact this
theorem b32_q_lo (r : Nat) (h : r < 4194304) : bits BinOp.and IntKind.u32 (r : Int) 4194304 = 0 := by
  have := u32_and_nat r 4194304 (by omega) (by omega)
  rw [show r &&& 4194304 = 0 from n_and_lo 22 r h] at this; exact this
theorem b32_q_hi (b : Nat) (h : 4194304 ≤ b) (hb : b < 8388608) : bits BinOp.and IntKind.u32 (b : Int) 4194304 = 4194304 := by
  obtain ⟨r, rfl⟩ : ∃ r, b = 4194304 + r := ⟨b - 4194304, by omega⟩
  have := u32_and_nat (4194304 + r) 4194304 (by omega) (by omega)
  rw [show (4194304 + r) &&& 4194304 = 4194304 from n_and_hi 22 r (show r < 4194304 by omega)] at this; exact this
theorem b32_sf : bits BinOp.or IntKind.u32 2147483648 2139095040 = 4286578688 := by decide +kernel
theorem b32_fq : bits BinOp.or IntKind.u32 2139095040 4194304 = 2143289344 := by decide +kernel
theorem b32_ones : bits BinOp.xor IntKind.u32 IntKind.u32.max 0 = 4294967295 := by decide +kernel
theorem b32_top : bits BinOp.xor IntKind.u32 IntKind.u32.max 2147483647 = 2147483648 := by decide +kernel

theorem wide32_any (w : World) : Calls Tryz.prog 59 #[] w fun e w' => e = .returned (.bool false) ∧ w' = w := by
  have hx := b32_ones
  go_enter Tryz.func59, Tryz.ntmps59
  go_wp2_with (simp only [hx])
  go_ret
  exact ⟨rfl, rfl⟩

/-- The layout of 32 bits. -/
def lay32 : Value := .agg #[.int .u32 2147483648, .int .u32 2139095040, .int .u32 4194304]

set_option maxRecDepth 100000 in
theorem layoutOf32_any (w : World) : Calls Tryz.prog 38 #[] w fun e w' => e = .returned lay32 ∧ Below w.heap.size w w' := by
  have hx := b32_ones
  have hy := b32_top
  go_enter Tryz.func38, Tryz.ntmps38
  go_wp2_with fail
  refine (wide32_any _).mono ?_
  rintro e w1 ⟨rfl, rfl⟩
  go_wp2_with (simp only [hx])
  go_region
  go_wp2_with fail
  obtain ⟨fs, hu⟩ := is_struct (show Tryz.prog.underlying 85 = Tryz.prog.underlying 85 from rfl) (by kernel_rfl)
  refine bodyPost_ret (results_cell_row rfl _ _ w.heap.size _ _ (0, 0) (.struct fs) rfl (heap_alloc_new w _) hu rfl (by kernel_rfl)) rfl ?_
  exact ⟨rfl, ((Below.refl _ w).alloc (Nat.le_refl _) _).drew⟩

theorem isNaN32_any (b : Nat) (w : World) (hb : b < 4294967296) : Calls Tryz.prog 39 #[lay32, .int .u32 b] w fun e w' => e = .returned (.bool (decide (2139095040 < b % 2147483648))) ∧ Below w.heap.size w w' := by
  have hx := b32_abs b hb
  obtain ⟨r, hr, hrl⟩ : ∃ r, b % 2147483648 = r ∧ r < 2147483648 := ⟨_, rfl, Nat.mod_lt _ (by omega)⟩
  rw [hr] at hx ⊢
  clear hr
  unfold lay32
  go_enter Tryz.func39, Tryz.ntmps39
  go_wp2_with (simp only [hx])
  go_ret
  refine ⟨?_, (Below.refl _ w).alloc (Nat.le_refl _) _⟩
  show Ending.returned (.bool (decide ((2139095040 : Int) < (r : Int)))) = _
  rw [show decide ((2139095040 : Int) < (r : Int)) = decide (2139095040 < r) by rw [decide_eq_decide]; omega]

theorem theNaN32_any (w : World) : Calls Tryz.prog 63 #[lay32] w fun e w' => e = .returned (.int .u32 2143289344) ∧ Below w.heap.size w w' := by
  have hx := b32_fq
  unfold lay32
  go_enter Tryz.func63, Tryz.ntmps63
  go_wp2_with (simp only [hx])
  go_ret
  exact ⟨rfl, (Below.refl _ w).alloc (Nat.le_refl _) _⟩

end Go.Proofs.YtpdaklklhoenhaaGreatDoor

namespace Go.Proofs.YtpdaklklhoenhaaGreatDoor
open Go.RowKit
set_option linter.unusedVariables false
set_option linter.unusedSimpArgs false

/-- A pattern's place; the pattern of a place; the other sign; the next number above, below. -/
def key64 (b : Nat) : Nat := if b < 9223372036854775808 then 9223372036854775808 + b else 18446744073709551615 - b
def ofKey64 (k : Nat) : Nat := if k < 9223372036854775808 then 18446744073709551615 - k else k - 9223372036854775808
def flip64 (b : Nat) : Nat := if b < 9223372036854775808 then 9223372036854775808 + b else b - 9223372036854775808
def up64 (b : Nat) : Nat := if 9218868437227405312 < b % 9223372036854775808 then 9221120237041090560 else if b = 9218868437227405312 then b else if b % 9223372036854775808 = 0 then 1 else if b < 9223372036854775808 then b + 1 else b - 1
def down64 (b : Nat) : Nat := if 9218868437227405312 < b % 9223372036854775808 then 9221120237041090560 else flip64 (up64 (flip64 b))
def class64 (b : Nat) : Nat := if b % 9223372036854775808 = 0 then 0 else if b % 9223372036854775808 < 4503599627370496 then 1 else if b % 9223372036854775808 < 9218868437227405312 then 2 else if b % 9223372036854775808 = 9218868437227405312 then 3 else if b % 9223372036854775808 < 9221120237041090560 then 5 else 4

theorem key64_lt (b : Nat) (hb : b < 18446744073709551616) : key64 b < 18446744073709551616 := by unfold key64; split <;> omega
theorem ofKey64_lt (b : Nat) (hb : b < 18446744073709551616) : ofKey64 b < 18446744073709551616 := by unfold ofKey64; split <;> omega
theorem flip64_lt (b : Nat) (hb : b < 18446744073709551616) : flip64 b < 18446744073709551616 := by unfold flip64; split <;> omega
theorem flip64_mod (b : Nat) (hb : b < 18446744073709551616) : flip64 b % 9223372036854775808 = b % 9223372036854775808 := by unfold flip64; split <;> omega
theorem up64_lt (b : Nat) (hb : b < 18446744073709551616) : up64 b < 18446744073709551616 := by unfold up64; repeat (first | omega | split)
theorem ofKey64_key (b : Nat) (hb : b < 18446744073709551616) : ofKey64 (key64 b) = b := by unfold ofKey64 key64; split <;> split <;> omega
theorem key64_ofKey (b : Nat) (hb : b < 18446744073709551616) : key64 (ofKey64 b) = b := by unfold ofKey64 key64; split <;> split <;> omega
theorem ofKey64_next (b : Nat) (hb : b < 18446744073709551616) (h1 : b % 9223372036854775808 ≤ 9218868437227405312) (h2 : b ≠ 9218868437227405312) (h3 : b % 9223372036854775808 ≠ 0) : ofKey64 (key64 b + 1) = if b < 9223372036854775808 then b + 1 else b - 1 := by
  unfold ofKey64 key64
  by_cases h : b < 9223372036854775808
  · rw [if_pos h, if_pos h, if_neg (by omega)]; omega
  · rw [if_neg h, if_neg h, if_pos (by omega)]; omega

theorem layField64 (w : World) : (Instr.field 81 (.agg #[.int .u64 9223372036854775808, .int .u64 9218868437227405312, .int .u64 2251799813685248]) 0).run Tryz.prog w = .ok (.int .u64 9223372036854775808) w := by kernel_rfl

set_option maxRecDepth 100000 in
theorem Key64_any (b : Nat) (w : World) (hb : b < 18446744073709551616) : Calls Tryz.prog 22 #[.int .u64 b] w fun e w' => e = .returned (.int .u64 (key64 b : Nat)) ∧ Below w.heap.size w w' := by
  unfold key64
  by_cases h : b < 9223372036854775808
  · rw [if_pos h]
    have hx := b64_and_lo b h
    have hy := b64_or_lo b h
    go_enter Tryz.func22, Tryz.ntmps22
    go_wp2_with fail
    refine (layoutOf64_any w).mono ?_
    rintro e w1 ⟨rfl, hb1⟩
    unfold lay64
    have hf := layField64
    go_wp2_with (simp only [hx, hy, hf])
    go_ret
    exact ⟨rfl, hb1⟩
  · rw [if_neg h]
    have hx := b64_and_hi b (by omega) hb
    have hy := b64_not b hb
    go_enter Tryz.func22, Tryz.ntmps22
    go_wp2_with fail
    refine (layoutOf64_any w).mono ?_
    rintro e w1 ⟨rfl, hb1⟩
    unfold lay64
    have hf := layField64
    go_wp2_with (simp only [hx, hy, hf])
    go_ret
    exact ⟨rfl, hb1⟩

set_option maxRecDepth 100000 in
theorem OfKey64_any (b : Nat) (w : World) (hb : b < 18446744073709551616) : Calls Tryz.prog 77 #[.int .u64 b] w fun e w' => e = .returned (.int .u64 (ofKey64 b : Nat)) ∧ Below w.heap.size w w' := by
  unfold ofKey64
  by_cases h : b < 9223372036854775808
  · rw [if_pos h]
    have hx := b64_and_lo b h
    have hy := b64_not b hb
    go_enter Tryz.func77, Tryz.ntmps77
    go_wp2_with fail
    refine (layoutOf64_any w).mono ?_
    rintro e w1 ⟨rfl, hb1⟩
    unfold lay64
    have hf := layField64
    go_wp2_with (simp only [hx, hy, hf])
    go_ret
    exact ⟨rfl, hb1⟩
  · rw [if_neg h]
    have hx := b64_and_hi b (by omega) hb
    have hy := b64_xor_hi b (by omega) hb
    go_enter Tryz.func77, Tryz.ntmps77
    go_wp2_with fail
    refine (layoutOf64_any w).mono ?_
    rintro e w1 ⟨rfl, hb1⟩
    unfold lay64
    have hf := layField64
    go_wp2_with (simp only [hx, hy, hf])
    go_ret
    exact ⟨rfl, hb1⟩

/-- A layout lies in a block. -/
structure Lay64 (w : World) (g : Nat) : Prop where
  c0 : w.cell? ⟨g, 0, none⟩ = some (.int .u64 9223372036854775808)
  c1 : w.cell? ⟨g, 1, none⟩ = some (.int .u64 9218868437227405312)
  c2 : w.cell? ⟨g, 2, none⟩ = some (.int .u64 2251799813685248)
theorem Lay64.new (w : World) : Lay64 (w.alloc (Obj.cells #[Value.int .u64 9223372036854775808, Value.int .u64 9218868437227405312, Value.int .u64 2251799813685248] 81)) w.heap.size := ⟨by simp, by simp, by simp⟩
theorem Lay64.below {w w' : World} {g : Nat} (h : Lay64 w g) (hb : Below w.heap.size w w') : Lay64 w' g := by
  have hg : g < w.heap.size := block_lt_of_cell h.c0
  exact ⟨by rw [hb.cell (p := ⟨g, 0, none⟩) hg]; exact h.c0, by rw [hb.cell (p := ⟨g, 1, none⟩) hg]; exact h.c1, by rw [hb.cell (p := ⟨g, 2, none⟩) hg]; exact h.c2⟩


/-- A pattern's place; the pattern of a place; the other sign; the next number above, below. -/
def key32 (b : Nat) : Nat := if b < 2147483648 then 2147483648 + b else 4294967295 - b
def ofKey32 (k : Nat) : Nat := if k < 2147483648 then 4294967295 - k else k - 2147483648
def flip32 (b : Nat) : Nat := if b < 2147483648 then 2147483648 + b else b - 2147483648
def up32 (b : Nat) : Nat := if 2139095040 < b % 2147483648 then 2143289344 else if b = 2139095040 then b else if b % 2147483648 = 0 then 1 else if b < 2147483648 then b + 1 else b - 1
def down32 (b : Nat) : Nat := if 2139095040 < b % 2147483648 then 2143289344 else flip32 (up32 (flip32 b))
def class32 (b : Nat) : Nat := if b % 2147483648 = 0 then 0 else if b % 2147483648 < 8388608 then 1 else if b % 2147483648 < 2139095040 then 2 else if b % 2147483648 = 2139095040 then 3 else if b % 2147483648 < 2143289344 then 5 else 4

theorem key32_lt (b : Nat) (hb : b < 4294967296) : key32 b < 4294967296 := by unfold key32; split <;> omega
theorem ofKey32_lt (b : Nat) (hb : b < 4294967296) : ofKey32 b < 4294967296 := by unfold ofKey32; split <;> omega
theorem flip32_lt (b : Nat) (hb : b < 4294967296) : flip32 b < 4294967296 := by unfold flip32; split <;> omega
theorem flip32_mod (b : Nat) (hb : b < 4294967296) : flip32 b % 2147483648 = b % 2147483648 := by unfold flip32; split <;> omega
theorem up32_lt (b : Nat) (hb : b < 4294967296) : up32 b < 4294967296 := by unfold up32; repeat (first | omega | split)
theorem ofKey32_key (b : Nat) (hb : b < 4294967296) : ofKey32 (key32 b) = b := by unfold ofKey32 key32; split <;> split <;> omega
theorem key32_ofKey (b : Nat) (hb : b < 4294967296) : key32 (ofKey32 b) = b := by unfold ofKey32 key32; split <;> split <;> omega
theorem ofKey32_next (b : Nat) (hb : b < 4294967296) (h1 : b % 2147483648 ≤ 2139095040) (h2 : b ≠ 2139095040) (h3 : b % 2147483648 ≠ 0) : ofKey32 (key32 b + 1) = if b < 2147483648 then b + 1 else b - 1 := by
  unfold ofKey32 key32
  by_cases h : b < 2147483648
  · rw [if_pos h, if_pos h, if_neg (by omega)]; omega
  · rw [if_neg h, if_neg h, if_pos (by omega)]; omega

theorem layField32 (w : World) : (Instr.field 85 (.agg #[.int .u32 2147483648, .int .u32 2139095040, .int .u32 4194304]) 0).run Tryz.prog w = .ok (.int .u32 2147483648) w := by kernel_rfl



/-- A layout lies in a block. -/
structure Lay32 (w : World) (g : Nat) : Prop where
  c0 : w.cell? ⟨g, 0, none⟩ = some (.int .u32 2147483648)
  c1 : w.cell? ⟨g, 1, none⟩ = some (.int .u32 2139095040)
  c2 : w.cell? ⟨g, 2, none⟩ = some (.int .u32 4194304)
theorem Lay32.new (w : World) : Lay32 (w.alloc (Obj.cells #[Value.int .u32 2147483648, Value.int .u32 2139095040, Value.int .u32 4194304] 85)) w.heap.size := ⟨by simp, by simp, by simp⟩
theorem Lay32.below {w w' : World} {g : Nat} (h : Lay32 w g) (hb : Below w.heap.size w w') : Lay32 w' g := by
  have hg : g < w.heap.size := block_lt_of_cell h.c0
  exact ⟨by rw [hb.cell (p := ⟨g, 0, none⟩) hg]; exact h.c0, by rw [hb.cell (p := ⟨g, 1, none⟩) hg]; exact h.c1, by rw [hb.cell (p := ⟨g, 2, none⟩) hg]; exact h.c2⟩


end Go.Proofs.YtpdaklklhoenhaaGreatDoor

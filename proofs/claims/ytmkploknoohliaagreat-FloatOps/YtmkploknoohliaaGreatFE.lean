/- Bits, and the parts of a pattern: wide, layoutOf, isNaN, theNaN. -/
import Derived.Test.YtmkploknoohliaaGreatProg
import Derived.Test.YtmkploknoohliaaGreatFD
import Derived.WalkKit
import Derived.WalkSpells
import Derived.WalkLawsBesides
import Derived.Deep.QuietTactic
import Derived.BigQuiet
import Derived.BigRegion
import Derived.OwnWalk
import Derived.Laws.CopyOwn
import Derived.Laws.AppendOwnNone
import Derived.Deep.OwnRows
import Derived.Deep.RegionHeld3
import Derived.Laws.BitsAllLaws
import Derived.Laws.FloatArith
namespace Go.Proofs.YtmkploknoohliaaGreat
open Go.RowKit
set_option linter.unusedVariables false
set_option linter.unusedSimpArgs false

theorem fhide {p : Prop} (h : p) : Hid p := h

theorem is_struct {o p : Option TypeDesc} (e : p = o) (h : (match o with | some (.struct _) => true | _ => false) = true) : ∃ fs, p = some (.struct fs) := by
  subst e
  cases p with
  | none => simp at h
  | some d => cases d <;> first | exact ⟨_, rfl⟩ | simp at h

theorem n_and_lo (n r : Nat) (h : r < 2 ^ n) : r &&& 2 ^ n = 0 := by
  refine Nat.eq_of_testBit_eq fun i => ?_
  rw [Nat.testBit_and, Nat.testBit_two_pow, Nat.zero_testBit]
  by_cases hi : n = i
  · subst hi; rw [Nat.testBit_lt_two_pow h]; simp
  · simp [hi]
theorem n_and_hi (n r : Nat) (h : r < 2 ^ n) : (2 ^ n + r) &&& 2 ^ n = 2 ^ n := by
  refine Nat.eq_of_testBit_eq fun i => ?_
  rw [Nat.testBit_and, Nat.testBit_two_pow]
  by_cases hi : n = i
  · subst hi; rw [Nat.testBit_two_pow_add_eq, Nat.testBit_lt_two_pow h]; simp
  · simp [hi]
theorem n_or_lo (n r : Nat) (h : r < 2 ^ n) : r ||| 2 ^ n = 2 ^ n + r := by
  have := Nat.two_pow_add_eq_or_of_lt h 1
  rw [Nat.mul_one] at this
  rw [this, Nat.or_comm]
theorem n_xor_lo (n r : Nat) (h : r < 2 ^ n) : r ^^^ 2 ^ n = 2 ^ n + r := by
  rw [← n_or_lo n r h]
  refine Nat.eq_of_testBit_eq fun i => ?_
  rw [Nat.testBit_xor, Nat.testBit_or, Nat.testBit_two_pow]
  by_cases hi : n = i
  · subst hi; rw [Nat.testBit_lt_two_pow h]; simp
  · simp [hi]
theorem n_xor_hi (n r : Nat) (h : r < 2 ^ n) : (2 ^ n + r) ^^^ 2 ^ n = r := by
  rw [← n_xor_lo n r h, Nat.xor_assoc, Nat.xor_self, Nat.xor_zero]
theorem n_not (n a : Nat) (h : a < 2 ^ n) : (2 ^ n - 1) ^^^ a = 2 ^ n - 1 - a := by
  refine Nat.eq_of_testBit_eq fun i => ?_
  rw [show 2 ^ n - 1 - a = 2 ^ n - (a + 1) by omega, Nat.testBit_two_pow_sub_succ h, Nat.testBit_xor, Nat.testBit_two_pow_sub_one]
  by_cases hi : i < n
  · simp [hi]
  · have : a.testBit i = false := Nat.testBit_lt_two_pow (Nat.lt_of_lt_of_le h (Nat.pow_le_pow_right (by omega) (by omega)))
    simp [hi, this]
theorem n_mask (a f e : Nat) : a &&& ((2 ^ e - 1) * 2 ^ f) = a / 2 ^ f % 2 ^ e * 2 ^ f := by
  rw [← Nat.and_two_pow_sub_one_eq_mod, ← Nat.shiftLeft_eq, ← Nat.shiftLeft_eq, ← Nat.shiftRight_eq_div_pow]
  refine Nat.eq_of_testBit_eq fun i => ?_
  rw [Nat.testBit_and, Nat.testBit_shiftLeft, Nat.testBit_shiftLeft, Nat.testBit_and, Nat.testBit_shiftRight]
  by_cases hi : f ≤ i
  · rw [Nat.add_sub_cancel' hi]; simp [hi]
  · simp [hi]

theorem b64_and_lo (r : Nat) (h : r < 9223372036854775808) : bits BinOp.and IntKind.u64 (r : Int) 9223372036854775808 = 0 := by
  have := u64_and_nat r 9223372036854775808 (by omega) (by omega)
  rw [show r &&& 9223372036854775808 = 0 from n_and_lo 63 r h] at this; exact this
theorem b64_and_hi (b : Nat) (h : 9223372036854775808 ≤ b) (hb : b < 18446744073709551616) : bits BinOp.and IntKind.u64 (b : Int) 9223372036854775808 = 9223372036854775808 := by
  obtain ⟨r, rfl⟩ : ∃ r, b = 9223372036854775808 + r := ⟨b - 9223372036854775808, by omega⟩
  have := u64_and_nat (9223372036854775808 + r) 9223372036854775808 hb (by omega)
  rw [show (9223372036854775808 + r) &&& 9223372036854775808 = 9223372036854775808 from n_and_hi 63 r (show r < 9223372036854775808 by omega)] at this; exact this
theorem b64_or_lo (r : Nat) (h : r < 9223372036854775808) : bits BinOp.or IntKind.u64 (r : Int) 9223372036854775808 = ((9223372036854775808 + r : Nat) : Int) := by
  have := u64_or_nat r 9223372036854775808 (by omega) (by omega)
  rw [show r ||| 9223372036854775808 = 9223372036854775808 + r from n_or_lo 63 r h] at this; exact this
theorem b64_xor_lo (r : Nat) (h : r < 9223372036854775808) : bits BinOp.xor IntKind.u64 (r : Int) 9223372036854775808 = ((9223372036854775808 + r : Nat) : Int) := by
  have := u64_xor_nat r 9223372036854775808 (by omega) (by omega)
  rw [show r ^^^ 9223372036854775808 = 9223372036854775808 + r from n_xor_lo 63 r h] at this; exact this
theorem b64_xor_hi (b : Nat) (h : 9223372036854775808 ≤ b) (hb : b < 18446744073709551616) : bits BinOp.xor IntKind.u64 (b : Int) 9223372036854775808 = ((b - 9223372036854775808 : Nat) : Int) := by
  obtain ⟨r, rfl⟩ : ∃ r, b = 9223372036854775808 + r := ⟨b - 9223372036854775808, by omega⟩
  have := u64_xor_nat (9223372036854775808 + r) 9223372036854775808 hb (by omega)
  rw [show (9223372036854775808 + r) ^^^ 9223372036854775808 = r from n_xor_hi 63 r (show r < 9223372036854775808 by omega)] at this
  rw [Nat.add_sub_cancel_left]; exact this
theorem b64_not (b : Nat) (hb : b < 18446744073709551616) : bits BinOp.xor IntKind.u64 IntKind.u64.max (b : Int) = ((18446744073709551615 - b : Nat) : Int) := by
  have := u64_xor_nat 18446744073709551615 b (by omega) hb
  rw [show 18446744073709551615 ^^^ b = 18446744073709551615 - b from n_not 64 b hb] at this; exact this
theorem b64_abs (b : Nat) (hb : b < 18446744073709551616) : bits BinOp.andNot IntKind.u64 (b : Int) 9223372036854775808 = ((b % 9223372036854775808 : Nat) : Int) := by
  have := u64_andNot_nat b 9223372036854775808 hb (by omega)
  rw [show b &&& (18446744073709551615 - 9223372036854775808) = b % 9223372036854775808 from Nat.and_two_pow_sub_one_eq_mod b 63] at this; exact this
theorem b64_frac (b : Nat) (hb : b < 18446744073709551616) : bits BinOp.andNot IntKind.u64 (b : Int) 18442240474082181120 = ((b % 4503599627370496 : Nat) : Int) := by
  have := u64_andNot_nat b 18442240474082181120 hb (by omega)
  rw [show b &&& (18446744073709551615 - 18442240474082181120) = b % 4503599627370496 from Nat.and_two_pow_sub_one_eq_mod b 52] at this; exact this
theorem b64_field (b : Nat) (hb : b < 18446744073709551616) : bits BinOp.and IntKind.u64 (b : Int) 9218868437227405312 = ((b / 4503599627370496 % (2047 + 1) * 4503599627370496 : Nat) : Int) := by
  have := u64_and_nat b 9218868437227405312 hb (by omega)
  rw [show b &&& 9218868437227405312 = b / 4503599627370496 % (2047 + 1) * 4503599627370496 from n_mask b 52 11] at this; exact this
theorem b64_q_lo (r : Nat) (h : r < 2251799813685248) : bits BinOp.and IntKind.u64 (r : Int) 2251799813685248 = 0 := by
  have := u64_and_nat r 2251799813685248 (by omega) (by omega)
  rw [show r &&& 2251799813685248 = 0 from n_and_lo 51 r h] at this; exact this
theorem b64_q_hi (b : Nat) (h : 2251799813685248 ≤ b) (hb : b < 4503599627370496) : bits BinOp.and IntKind.u64 (b : Int) 2251799813685248 = 2251799813685248 := by
  obtain ⟨r, rfl⟩ : ∃ r, b = 2251799813685248 + r := ⟨b - 2251799813685248, by omega⟩
  have := u64_and_nat (2251799813685248 + r) 2251799813685248 (by omega) (by omega)
  rw [show (2251799813685248 + r) &&& 2251799813685248 = 2251799813685248 from n_and_hi 51 r (show r < 2251799813685248 by omega)] at this; exact this
theorem b64_sf : bits BinOp.or IntKind.u64 9223372036854775808 9218868437227405312 = 18442240474082181120 := by decide +kernel
theorem b64_fq : bits BinOp.or IntKind.u64 9218868437227405312 2251799813685248 = 9221120237041090560 := by decide +kernel
theorem b64_ones : bits BinOp.xor IntKind.u64 IntKind.u64.max 0 = 18446744073709551615 := by decide +kernel
theorem b64_top : bits BinOp.xor IntKind.u64 IntKind.u64.max 9223372036854775807 = 9223372036854775808 := by decide +kernel

theorem wide64_any (w : World) : Calls Tryz.prog 43 #[] w fun e w' => e = .returned (.bool true) ∧ w' = w := by
  have hx := b64_ones
  go_enter Tryz.func43, Tryz.ntmps43
  go_wp2_with (simp only [hx])
  go_ret
  exact ⟨rfl, rfl⟩

/-- The layout of 64 bits. -/
def lay64 : Value := .agg #[.int .u64 9223372036854775808, .int .u64 9218868437227405312, .int .u64 2251799813685248]

set_option maxRecDepth 100000 in
theorem layoutOf64_any (w : World) : Calls Tryz.prog 46 #[] w fun e w' => e = .returned lay64 ∧ Below w.heap.size w w' := by
  have hx := b64_ones
  have hy := b64_top
  go_enter Tryz.func46, Tryz.ntmps46
  go_wp2_with fail
  refine (wide64_any _).mono ?_
  rintro e w1 ⟨rfl, rfl⟩
  go_wp2_with (simp only [hx])
  go_region
  go_wp2_with fail
  obtain ⟨fs, hu⟩ := is_struct (show Tryz.prog.underlying 62 = Tryz.prog.underlying 62 from rfl) (by kernel_rfl)
  refine bodyPost_ret (results_cell_row rfl _ _ w.heap.size _ _ (0, 0) (.struct fs) rfl (heap_alloc_new w _) hu rfl (by kernel_rfl)) rfl ?_
  exact ⟨rfl, ((Below.refl _ w).alloc (Nat.le_refl _) _).drew⟩

theorem isNaN64_any (b : Nat) (w : World) (hb : b < 18446744073709551616) : Calls Tryz.prog 57 #[lay64, .int .u64 b] w fun e w' => e = .returned (.bool (decide (9218868437227405312 < b % 9223372036854775808))) ∧ Below w.heap.size w w' := by
  have hx := b64_abs b hb
  obtain ⟨r, hr, hrl⟩ : ∃ r, b % 9223372036854775808 = r ∧ r < 9223372036854775808 := ⟨_, rfl, Nat.mod_lt _ (by omega)⟩
  rw [hr] at hx ⊢
  clear hr
  unfold lay64
  go_enter Tryz.func57, Tryz.ntmps57
  go_wp2_with (simp only [hx])
  go_ret
  refine ⟨?_, (Below.refl _ w).alloc (Nat.le_refl _) _⟩
  show Ending.returned (.bool (decide ((9218868437227405312 : Int) < (r : Int)))) = _
  rw [show decide ((9218868437227405312 : Int) < (r : Int)) = decide (9218868437227405312 < r) by rw [decide_eq_decide]; omega]

theorem theNaN64_any (w : World) : Calls Tryz.prog 47 #[lay64] w fun e w' => e = .returned (.int .u64 9221120237041090560) ∧ Below w.heap.size w w' := by
  have hx := b64_fq
  unfold lay64
  go_enter Tryz.func47, Tryz.ntmps47
  go_wp2_with (simp only [hx])
  go_ret
  exact ⟨rfl, (Below.refl _ w).alloc (Nat.le_refl _) _⟩

theorem b32_and_lo (r : Nat) (h : r < 2147483648) : bits BinOp.and IntKind.u32 (r : Int) 2147483648 = 0 := by
  have := u32_and_nat r 2147483648 (by omega) (by omega)
  rw [show r &&& 2147483648 = 0 from n_and_lo 31 r h] at this; exact this
theorem b32_and_hi (b : Nat) (h : 2147483648 ≤ b) (hb : b < 4294967296) : bits BinOp.and IntKind.u32 (b : Int) 2147483648 = 2147483648 := by
  obtain ⟨r, rfl⟩ : ∃ r, b = 2147483648 + r := ⟨b - 2147483648, by omega⟩
  have := u32_and_nat (2147483648 + r) 2147483648 hb (by omega)
  rw [show (2147483648 + r) &&& 2147483648 = 2147483648 from n_and_hi 31 r (show r < 2147483648 by omega)] at this; exact this
theorem b32_or_lo (r : Nat) (h : r < 2147483648) : bits BinOp.or IntKind.u32 (r : Int) 2147483648 = ((2147483648 + r : Nat) : Int) := by
  have := u32_or_nat r 2147483648 (by omega) (by omega)
  rw [show r ||| 2147483648 = 2147483648 + r from n_or_lo 31 r h] at this; exact this
theorem b32_xor_lo (r : Nat) (h : r < 2147483648) : bits BinOp.xor IntKind.u32 (r : Int) 2147483648 = ((2147483648 + r : Nat) : Int) := by
  have := u32_xor_nat r 2147483648 (by omega) (by omega)
  rw [show r ^^^ 2147483648 = 2147483648 + r from n_xor_lo 31 r h] at this; exact this
theorem b32_xor_hi (b : Nat) (h : 2147483648 ≤ b) (hb : b < 4294967296) : bits BinOp.xor IntKind.u32 (b : Int) 2147483648 = ((b - 2147483648 : Nat) : Int) := by
  obtain ⟨r, rfl⟩ : ∃ r, b = 2147483648 + r := ⟨b - 2147483648, by omega⟩
  have := u32_xor_nat (2147483648 + r) 2147483648 hb (by omega)
  rw [show (2147483648 + r) ^^^ 2147483648 = r from n_xor_hi 31 r (show r < 2147483648 by omega)] at this
  rw [Nat.add_sub_cancel_left]; exact this
theorem b32_not (b : Nat) (hb : b < 4294967296) : bits BinOp.xor IntKind.u32 IntKind.u32.max (b : Int) = ((4294967295 - b : Nat) : Int) := by
  have := u32_xor_nat 4294967295 b (by omega) hb
  rw [show 4294967295 ^^^ b = 4294967295 - b from n_not 32 b hb] at this; exact this
theorem b32_abs (b : Nat) (hb : b < 4294967296) : bits BinOp.andNot IntKind.u32 (b : Int) 2147483648 = ((b % 2147483648 : Nat) : Int) := by
  have := u32_andNot_nat b 2147483648 hb (by omega)
  rw [show b &&& (4294967295 - 2147483648) = b % 2147483648 from Nat.and_two_pow_sub_one_eq_mod b 31] at this; exact this
theorem b32_frac (b : Nat) (hb : b < 4294967296) : bits BinOp.andNot IntKind.u32 (b : Int) 4286578688 = ((b % 8388608 : Nat) : Int) := by
  have := u32_andNot_nat b 4286578688 hb (by omega)
  rw [show b &&& (4294967295 - 4286578688) = b % 8388608 from Nat.and_two_pow_sub_one_eq_mod b 23] at this; exact this
theorem b32_field (b : Nat) (hb : b < 4294967296) : bits BinOp.and IntKind.u32 (b : Int) 2139095040 = ((b / 8388608 % (255 + 1) * 8388608 : Nat) : Int) := by
  have := u32_and_nat b 2139095040 hb (by omega)
  rw [show b &&& 2139095040 = b / 8388608 % (255 + 1) * 8388608 from n_mask b 23 8] at this; exact this
theorem b32_q_lo (r : Nat) (h : r < 4194304) : bits BinOp.and IntKind.u32 (r : Int) 4194304 = 0 := by
  have := u32_and_nat r 4194304 (by omega) (by omega)
  rw [show r &&& 4194304 = 0 from n_and_lo 22 r h] at this; exact this
theorem b32_q_hi (b : Nat) (h : 4194304 ≤ b) (hb : b < 8388608) : bits BinOp.and IntKind.u32 (b : Int) 4194304 = 4194304 := by
  obtain ⟨r, rfl⟩ : ∃ r, b = 4194304 + r := ⟨b - 4194304, by omega⟩
  have := u32_and_nat (4194304 + r) 4194304 (by omega) (by omega)
  rw [show (4194304 + r) &&& 4194304 = 4194304 from n_and_hi 22 r (show r < 4194304 by omega)] at this; exact this
theorem b32_sf : bits BinOp.or IntKind.u32 2147483648 2139095040 = 4286578688 := by decide +kernel
theorem b32_fq : bits BinOp.or IntKind.u32 2139095040 4194304 = 2143289344 := by decide +kernel
theorem b32_ones : bits BinOp.xor IntKind.u32 IntKind.u32.max 0 = 4294967295 := by decide +kernel
theorem b32_top : bits BinOp.xor IntKind.u32 IntKind.u32.max 2147483647 = 2147483648 := by decide +kernel

theorem wide32_any (w : World) : Calls Tryz.prog 56 #[] w fun e w' => e = .returned (.bool false) ∧ w' = w := by
  have hx := b32_ones
  go_enter Tryz.func56, Tryz.ntmps56
  go_wp2_with (simp only [hx])
  go_ret
  exact ⟨rfl, rfl⟩

/-- The layout of 32 bits. -/
def lay32 : Value := .agg #[.int .u32 2147483648, .int .u32 2139095040, .int .u32 4194304]

set_option maxRecDepth 100000 in
theorem layoutOf32_any (w : World) : Calls Tryz.prog 77 #[] w fun e w' => e = .returned lay32 ∧ Below w.heap.size w w' := by
  have hx := b32_ones
  have hy := b32_top
  go_enter Tryz.func77, Tryz.ntmps77
  go_wp2_with fail
  refine (wide32_any _).mono ?_
  rintro e w1 ⟨rfl, rfl⟩
  go_wp2_with (simp only [hx])
  go_region
  go_wp2_with fail
  obtain ⟨fs, hu⟩ := is_struct (show Tryz.prog.underlying 82 = Tryz.prog.underlying 82 from rfl) (by kernel_rfl)
  refine bodyPost_ret (results_cell_row rfl _ _ w.heap.size _ _ (0, 0) (.struct fs) rfl (heap_alloc_new w _) hu rfl (by kernel_rfl)) rfl ?_
  exact ⟨rfl, ((Below.refl _ w).alloc (Nat.le_refl _) _).drew⟩


theorem theNaN32_any (w : World) : Calls Tryz.prog 87 #[lay32] w fun e w' => e = .returned (.int .u32 2143289344) ∧ Below w.heap.size w w' := by
  have hx := b32_fq
  unfold lay32
  go_enter Tryz.func87, Tryz.ntmps87
  go_wp2_with (simp only [hx])
  go_ret
  exact ⟨rfl, (Below.refl _ w).alloc (Nat.le_refl _) _⟩

end Go.Proofs.YtmkploknoohliaaGreat

/- What wakes asks. -/
import Derived.Test.YtdibfaclepdjoabFJ
namespace Go.Proofs.Ytdibfaclepdjoab
open Go.RowKit
open Flt
set_option linter.unusedVariables false
set_option linter.unusedSimpArgs false

set_option maxRecDepth 100000 in
theorem pattern32_num (x r : Nat) (w : World) (hx : ¬ 9218868437227405312 < x % 9223372036854775808) (hr : floatToFloatBits .f64 x .f32 = some r) : Calls Try.prog 48 #[.float .f64 x] w fun e w' => e = .returned (.int .u32 r) ∧ w' = w := by
  have ht := tobits32 r
  have hcv := fun w : World => run_convert_float_float (P := Try.prog) w 67 103 .f64 .f32 x r (by kernel_rfl) (by kernel_rfl) hr
  go_enter Try.func48, Try.ntmps48
  go_wp2_with fail
  refine (IsNaN_any x _).mono ?_
  rintro e w1 ⟨rfl, rfl⟩
  rw [decide_eq_false hx]
  go_wp2_with fail
  refine (wide32_any _).mono ?_
  rintro e w2 ⟨rfl, rfl⟩
  go_wp2_with (simp only [ht, hcv])
  go_ret
  exact ⟨rfl, rfl⟩

set_option maxRecDepth 100000 in
theorem Narrow_num (b r : Nat) (w : World) (hb : b < 18446744073709551616) (hx : ¬ 9218868437227405312 < b % 9223372036854775808) (hr : floatToFloatBits .f64 b .f32 = some r) : Calls Try.prog 34 #[.int .u64 b] w fun e w' => e = .returned (.int .u32 r) ∧ Below w.heap.size w w' := by
  go_enter Try.func34, Try.ntmps34
  go_wp2_with fail
  refine (layoutOf64_any _).mono ?_
  rintro e w1 ⟨rfl, hb1⟩
  go_wp2_with fail
  refine (isNaN64_any b _ hb).mono ?_
  rintro e w2 ⟨rfl, hb2⟩
  rw [decide_eq_false hx]
  have H2 := fhide (hb1.trans (hb2.mono hb1.size))
  clear hb1 hb2
  go_wp2_with fail
  refine (value64_any b _).mono ?_
  rintro e w3 ⟨rfl, rfl⟩
  go_wp2_with fail
  refine (pattern32_num b r _ hx hr).mono ?_
  rintro e w4 ⟨rfl, rfl⟩
  go_wp2_with fail
  go_ret
  exact ⟨rfl, H2.out⟩

set_option maxRecDepth 100000 in
theorem Round_wake (w : World) : Calls Try.prog 107 #[.float .f64 4612811918334230528] w fun e w' => e = .returned (.float .f64 4613937818241073152) ∧ w' = w := by
  have h1 := tobits64 4612811918334230528
  have h2 : ∀ w : World, (callFunc 95 #[.int .u64 4613937818241073152]).run Try.prog w = .ok (.value (.float .f64 4613937818241073152)) w := frombits64 4613937818241073152
  have h3 : bits BinOp.and IntKind.u64 1024 2047 = 1024 := by decide +kernel
  have h4 : bits BinOp.andNot IntKind.u64 4613937818241073152 2251799813685247 = 4613937818241073152 := by decide +kernel
  go_enter Try.func107, Try.ntmps107
  go_wp2_with (simp only [h1, h2, h3, h4])
  go_ret
  exact ⟨rfl, rfl⟩

set_option maxRecDepth 100000 in
theorem whole_wake (w : World) : Calls Try.prog 70 #[.float .f64 4612811918334230528, .int .i64 1] w fun e w' => e = .returned (.tuple #[.float .f64 4613937818241073152, .bool true]) ∧ w' = w := by
  go_enter Try.func70, Try.ntmps70
  go_wp2_with fail
  refine (Round_wake _).mono ?_
  rintro e w1 ⟨rfl, rfl⟩
  go_wp2_with fail
  go_ret2
  exact ⟨rfl, rfl⟩

set_option maxRecDepth 100000 in
theorem ToInt_wake (w : World) : Calls Try.prog 64 #[.int .u64 4612811918334230528, .int .i64 1] w fun e w' => e = .returned (.tuple #[.int .i64 3, .int .i64 0]) ∧ w' = w := by
  have hv : ∀ w : World, Calls Try.prog 67 #[.int .u64 4612811918334230528] w fun e w' => e = .returned (.float .f64 4612811918334230528) ∧ w' = w := fun w => value64_any 4612811918334230528 w
  have h1 : FloatKind.f64.format.order 4613937818241073152 14114281232179134464 = some .gt := by decide +kernel
  have h2 : FloatKind.f64.format.order 4613937818241073152 4890909195324358656 = some .lt := by decide +kernel
  have h3 : floatToIntVal .f64 4613937818241073152 .i64 = some 3 := by decide +kernel
  have hcv := fun w : World => run_convert_float_int (P := Try.prog) w 67 2 .f64 .i64 4613937818241073152 3 (by kernel_rfl) (by kernel_rfl) h3
  go_enter Try.func64, Try.ntmps64
  go_wp2_with fail
  refine (hv _).mono ?_
  rintro e w1 ⟨rfl, rfl⟩
  go_wp2_with fail
  refine (whole_wake _).mono ?_
  rintro e w2 ⟨rfl, rfl⟩
  go_wp2_with (simp only [h1, h2, hcv])
  go_ret2
  exact ⟨rfl, rfl⟩

theorem num_any (e : Int) (w : World) : Calls Try.prog 31 #[.int .i64 e] w fun r w' => r = .returned (.int .i64 e) ∧ w' = w := by
  go_enter Try.func31, Try.ntmps31
  go_wp2
  go_ret
  exact ⟨rfl, rfl⟩

set_option maxRecDepth 100000 in
set_option maxHeartbeats 1000000 in
theorem wakes_any (w : World) : Calls Try.prog 19 #[] w fun e w' => e = .returned (.bool true) ∧ Below w.heap.size w w' := by
  have hc : ∀ w : World, Calls Try.prog 65 #[.int .u64 1] w fun e w' => e = .returned (.int .i64 1) ∧ Below w.heap.size w w' := fun w => Class64_any 1 w (by omega)
  have ha : ∀ w : World, Calls Try.prog 35 #[.int .u64 4607182418800017408, .int .u64 4607182418800017408] w fun e w' => e = .returned (.int .u64 4611686018427387904) ∧ Below w.heap.size w w' := by
    intro w
    have := Add64_any 4607182418800017408 4607182418800017408 w
    rw [show Ieee.double.add 4607182418800017408 4607182418800017408 = some 4611686018427387904 by decide +kernel] at this
    exact this
  have hn : ∀ w : World, Calls Try.prog 34 #[.int .u64 4607182419605323776] w fun e w' => e = .returned (.int .u32 1065353218) ∧ Below w.heap.size w w' := fun w => Narrow_num 4607182419605323776 1065353218 w (by omega) (by omega) (by decide +kernel)
  have hk : ∀ w : World, Calls Try.prog 66 #[.int .u32 0] w fun e w' => e = .returned (.int .u32 2147483648) ∧ Below w.heap.size w w' := fun w => Key32_any 0 w (by omega)
  have H := fhide (And.intro hc (And.intro ha (And.intro hn hk)))
  clear hc ha hn hk
  go_enter Try.func19, Try.ntmps19
  go_wp2_with fail
  refine (ToInt_wake _).mono ?_
  rintro e w1 ⟨rfl, rfl⟩
  go_wp2_with fail
  refine (H.out.1 _).mono ?_
  rintro e w2 ⟨rfl, hb2⟩
  have H2 := fhide hb2
  clear hb2
  go_wp2_with fail
  refine (H.out.2.1 _).mono ?_
  rintro e w3 ⟨rfl, hb3⟩
  have H3 := fhide (H2.out.trans (hb3.mono H2.out.size))
  clear hb3 H2
  go_wp2_with fail
  refine (H.out.2.2.1 _).mono ?_
  rintro e w4 ⟨rfl, hb4⟩
  have H4 := fhide (H3.out.trans (hb4.mono H3.out.size))
  clear hb4 H3
  go_wp2_with fail
  refine (num_any _ _).mono ?_
  rintro e w5 ⟨rfl, rfl⟩
  go_wp2_with fail
  refine (H.out.2.2.2 _).mono ?_
  rintro e w6 ⟨rfl, hb6⟩
  go_wp2_with fail
  go_ret
  exact ⟨rfl, H4.out.trans (hb6.mono H4.out.size)⟩
end Go.Proofs.Ytdibfaclepdjoab

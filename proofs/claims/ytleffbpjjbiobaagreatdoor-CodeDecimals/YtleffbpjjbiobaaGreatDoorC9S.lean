/- CodeDecimals: binary32s, by way of binary64s. -/
import Derived.Test.YtleffbpjjbiobaaGreatDoorFQ
import Derived.Test.YtleffbpjjbiobaaGreatDoorPB
import Derived.Test.YtleffbpjjbiobaaGreatDoorC3A64
import Derived.Test.YtleffbpjjbiobaaGreatDoorC1S32
import Derived.Test.YtleffbpjjbiobaaGreatDoorP1B32
/- Mul and Div of binary32s, as functions of their bits. -/
namespace Go.Proofs.YtleffbpjjbiobaaGreatDoor
open Go.RowKit
open Flt
set_option linter.unusedVariables false
set_option linter.unusedSimpArgs false

theorem cut_convBC (b t : Nat) : IsNan64 (Question.cut (.nanConv .f64 b) t) := cut_nan 0 0 t
theorem run_conv_nanBC (b : Nat) (h : 2139095040 < b % 2147483648) (w : World) : ∃ nb, IsNan64 nb ∧ (convert 52 51 (.float .f32 b)).run Tryz.prog w = .ok (.float .f64 nb) w.drew := by
  refine ⟨Question.cut (.nanConv .f64 b) (w.tape w.drawn (.nanConv .f64 b)), cut_convBC _ _, ?_⟩
  have hd : FloatKind.f32.decode b = .nan (sg Ieee.single b) (rg Ieee.single b - Ieee.single.infRung) := read_nan Ieee.single b (by decide) (by rw [rg32, inf32]; exact h)
  have hs : Tryz.prog.underlying 52 = some (.float .f32) := by kernel_rfl
  have ht : Tryz.prog.underlying 51 = some (.float .f64) := by kernel_rfl
  simp [convert, run_underlying hs, run_underlying ht, Conv.floatToFloat, hd, Question.forced]
set_option maxRecDepth 100000 in
theorem value32_nanBC (b : Nat) (w : World) (h : 2139095040 < b % 2147483648) : Calls Tryz.prog 159 #[.int .u32 b] w fun e w' => ∃ x, IsNan64 x ∧ e = .returned (.float .f64 x) ∧ w' = w.drew := by
  have hf := frombits32 b
  obtain ⟨nb, hnb, hcv⟩ := run_conv_nanBC b h w
  have HN := fhide hnb
  clear hnb h
  go_enter Tryz.func159, Tryz.ntmps159
  go_wp2_with fail
  refine (wide32_any _).mono ?_
  rintro e w1 ⟨rfl, rfl⟩
  go_wp2_with (simp only [hf, hcv])
  go_ret
  exact ⟨nb, HN.out, rfl, rfl⟩
/-- The float64 that a binary32 is reckoned as. -/
def widC (a : Nat) : Nat := if 2139095040 < a % 2147483648 then 9221120237041090560 else (floatToFloatBits .f32 a .f64).getD 0
def Val32C (a x : Nat) : Prop := x < 18446744073709551616 ∧ (2139095040 < a % 2147483648 → 9218868437227405312 < x % 9223372036854775808) ∧ (a % 2147483648 ≤ 2139095040 → x = widC a)
theorem value32_widC (a : Nat) (w : World) (ha : a < 4294967296) : Calls Tryz.prog 159 #[.int .u32 a] w fun e w' => ∃ x, Val32C a x ∧ e = .returned (.float .f64 x) ∧ Below w.heap.size w w' := by
  by_cases h : 2139095040 < a % 2147483648
  · refine (value32_nanBC a w h).mono ?_
    rintro e w' ⟨x, hx, rfl, rfl⟩
    exact ⟨x, ⟨hx.2, fun _ => hx.1, fun h' => by omega⟩, rfl, (Below.refl _ _).drew⟩
  · obtain ⟨x, x1, x2, x3, x4, x5, x6, x7⟩ := f2f_wide a ha (by omega)
    refine (value32_num a x w x1).mono ?_
    rintro e w' ⟨rfl, rfl⟩
    exact ⟨x, ⟨x2, fun h' => absurd h' h, fun _ => by unfold widC; rw [if_neg h, x1]; rfl⟩, rfl, Below.refl _ _⟩

def thinC : Option Nat → Nat
  | some r => nar32 r
  | none => 2143289344
theorem pat32_thinC {o : Option Nat} {r : Nat} (h : o = some r) (hr : r % 9223372036854775808 ≤ 9218868437227405312) : pat32 r = thinC o := by rw [h, pat32_num r hr]; rfl
/-- Products and quotients of binary32s. -/
def mul32F (a b : Nat) : Nat := thinC (Ieee.double.mul (widC a) (widC b))
def div32F (a b : Nat) : Nat := thinC (Ieee.double.div (widC a) (widC b))
theorem widC_nan {a : Nat} (h : 2139095040 < a % 2147483648) : Ieee.double.infRung < rg Ieee.double (widC a) := by
  unfold widC; rw [if_pos h, rg64, inf64]; omega
theorem val_mulC (a b x y : Nat) (ha : a < 4294967296) (hb : b < 4294967296) (hx : Val32C a x) (hy : Val32C b y) : thinC (Ieee.double.mul x y) = mul32F a b := by
  unfold mul32F
  by_cases na : 2139095040 < a % 2147483648
  · rw [mul_nan2 _ (by decide) x y (.inl (by rw [rg64, inf64]; exact hx.2.1 na)), mul_nan2 _ (by decide) _ _ (.inl (widC_nan na))]
  · by_cases nb : 2139095040 < b % 2147483648
    · rw [mul_nan2 _ (by decide) x y (.inr (by rw [rg64, inf64]; exact hy.2.1 nb)), mul_nan2 _ (by decide) _ _ (.inr (widC_nan nb))]
    · rw [hx.2.2 (by omega), hy.2.2 (by omega)]
theorem val_divC (a b x y : Nat) (ha : a < 4294967296) (hb : b < 4294967296) (hx : Val32C a x) (hy : Val32C b y) : thinC (Ieee.double.div x y) = div32F a b := by
  unfold div32F
  by_cases na : 2139095040 < a % 2147483648
  · rw [div_nan2 _ (by decide) x y (.inl (by rw [rg64, inf64]; exact hx.2.1 na)), div_nan2 _ (by decide) _ _ (.inl (widC_nan na))]
  · by_cases nb : 2139095040 < b % 2147483648
    · rw [div_nan2 _ (by decide) x y (.inr (by rw [rg64, inf64]; exact hy.2.1 nb)), div_nan2 _ (by decide) _ _ (.inr (widC_nan nb))]
    · rw [hx.2.2 (by omega), hy.2.2 (by omega)]

set_option maxRecDepth 100000 in
set_option maxHeartbeats 1000000 in
theorem Mul32_anyC (a b : Nat) (w : World) (ha : a < 4294967296) (hb : b < 4294967296) : Calls Tryz.prog 120 #[.int .u32 a, .int .u32 b] w fun e w' => e = .returned (.int .u32 (mul32F a b : Nat)) ∧ Below w.heap.size w w' := by
  have HV := fhide (And.intro (fun w => value32_widC a w ha) (fun w => value32_widC b w hb))
  have HE := fhide (fun x y hx hy => val_mulC a b x y ha hb hx hy)
  clear ha hb
  generalize mul32F a b = out at *
  go_enter Tryz.func120, Tryz.ntmps120
  go_wp2_with fail
  refine (HV.out.1 _).mono ?_
  rintro e w1 ⟨x, hx, rfl, hb1⟩
  have H1 := fhide (And.intro hx hb1)
  clear hx hb1
  go_wp2_with fail
  refine (HV.out.2 _).mono ?_
  rintro e w2 ⟨y, hy, rfl, hb2⟩
  have HT := fhide (HE.out x y H1.out.1 hy)
  have H2 := fhide (H1.out.2.trans (hb2.mono H1.out.2.size))
  clear hy hb2 H1
  have hs : floatBits .mul .f64 x y = Ieee.double.mul x y := rfl
  cases ho : Ieee.double.mul x y with
  | none =>
    rw [ho] at hs HT
    obtain ⟨nb, hnb, hadd⟩ := run_nan .mul (by simp) 51 x y hs w2
    go_wp2_with (simp only [hadd])
    refine (pattern32_any nb _ hnb.2).mono ?_
    rintro e w3 ⟨rfl, hb3⟩
    rw [pat32_nan nb hnb.1]
    have H3 := fhide (H2.out.drew.trans (hb3.mono H2.out.size))
    clear hb3
    go_wp2_with fail
    go_ret
    exact ⟨by rw [← HT.out]; rfl, H3.out⟩
  | some r =>
    rw [ho] at hs HT
    obtain ⟨hr1, hr2⟩ := fb_num hs
    have hadd := fun w : World => run_float_arith (P := Tryz.prog) w .mul 51 .f64 x y r hs
    have HP := fhide (fun w : World => pattern32_any r w hr2)
    rw [pat32_thinC rfl hr1, HT.out] at HP
    clear hr1 hr2 hs ho
    go_wp2_with (simp only [hadd])
    refine (HP.out _).mono ?_
    rintro e w3 ⟨rfl, hb3⟩
    go_wp2_with fail
    go_ret
    exact ⟨rfl, H2.out.trans (hb3.mono H2.out.size)⟩
theorem div_nought32C (x y : Nat) (hx : x < 18446744073709551616) (hy : y < 18446744073709551616) (h0 : y % 9223372036854775808 = 0) : pat32 (byN x (decide (9223372036854775808 ≤ y))) = thinC (Ieee.double.div x y) := by
  have hn : pat32 9221120237041090561 = 2143289344 := by unfold pat32; rw [if_pos (by omega)]
  unfold byN
  have fy : rg Ieee.double y < Ieee.double.infRung := by rw [rg64, inf64, h0]; omega
  have zy : rg Ieee.double y = 0 := by rw [rg64]; exact h0
  have key : ∀ s t : Bool, pat32 (if s = t then 9218868437227405312 else 18442240474082181120) = thinC (some (Ieee.double.word (s ^^ t) Ieee.double.infRung)) := by
    intro s t
    have hp : ∀ q : Bool, pat32 (Ieee.double.word q Ieee.double.infRung) = nar32 (Ieee.double.word q Ieee.double.infRung) := fun q => by
      refine pat32_num _ ?_
      have := rg_word Ieee.double q _ Ieee.double.infRung_lt
      rw [rg64, inf64] at this
      rw [inf64, this]; omega
    show _ = nar32 _
    rw [← hp]
    cases s <;> cases t <;> (refine congrArg _ ?_; decide +kernel)
  rcases Nat.lt_trichotomy (x % 9223372036854775808) 9218868437227405312 with h | h | h
  · have fx : rg Ieee.double x < Ieee.double.infRung := by rw [rg64, inf64]; exact h
    rw [div_fin_zero _ x y fx fy zy, sg64 x hx, sg64 y hy, rg64]
    by_cases hz : x % 9223372036854775808 = 0
    · rw [if_pos (.inr hz), if_pos hz, hn]; rfl
    · rw [if_neg (by omega), if_neg hz]
      exact key _ _
  · rw [div_inf_fin _ (by decide) x y (by rw [rg64, inf64]; exact h) fy, sg64 x hx, sg64 y hy, if_neg (by omega)]
    exact key _ _
  · rw [div_nan2 _ (by decide) x y (.inl (by rw [rg64, inf64]; exact h)), if_pos (.inl h), hn]; rfl

set_option maxRecDepth 100000 in
set_option maxHeartbeats 1000000 in
theorem Div32_anyC (a b : Nat) (w : World) (ha : a < 4294967296) (hb : b < 4294967296) : Calls Tryz.prog 121 #[.int .u32 a, .int .u32 b] w fun e w' => e = .returned (.int .u32 (div32F a b : Nat)) ∧ Below w.heap.size w w' := by
  have HV := fhide (And.intro (fun w => value32_widC a w ha) (fun w => value32_widC b w hb))
  have HE := fhide (fun x y hx hy => val_divC a b x y ha hb hx hy)
  clear ha hb
  generalize div32F a b = out at *
  go_enter Tryz.func121, Tryz.ntmps121
  go_wp2_with fail
  refine (HV.out.1 _).mono ?_
  rintro e w1 ⟨x, hx, rfl, hb1⟩
  have H1 := fhide (And.intro hx hb1)
  clear hx hb1
  go_wp2_with fail
  refine (HV.out.2 _).mono ?_
  rintro e w2 ⟨y, hy, rfl, hb2⟩
  have HT := fhide (HE.out x y H1.out.1 hy)
  have HB := fhide (And.intro H1.out.1.1 hy.1)
  have H2 := fhide (H1.out.2.trans (hb2.mono H1.out.2.size))
  clear hy hb2 H1
  have hz : FloatKind.f64.format.order y 0 = _ := order_nought y
  by_cases h0 : y % 9223372036854775808 = 0
  · rw [if_neg (by omega), if_pos h0] at hz
    have hd := div_nought32C x y HB.out.1 HB.out.2 h0
    rw [HT.out] at hd
    have HS := fhide (fun w : World => Signbit_any y w HB.out.2)
    have hbl : byN x (decide (9223372036854775808 ≤ y)) < 18446744073709551616 := by unfold byN; split; omega; split <;> omega
    have HBy := fhide (fun w : World => byNought_any x (decide (9223372036854775808 ≤ y)) w HB.out.1)
    have HP := fhide (fun w : World => pattern32_any _ w hbl)
    rw [hd] at HP
    generalize decide (9223372036854775808 ≤ y) = t at *
    generalize byN x t = z at *
    clear h0 hd hbl
    go_wp2_with (simp only [hz])
    refine (HS.out _).mono ?_
    rintro e w3 ⟨rfl, hw1⟩
    have hw1 := hw1.symm
    subst hw1
    go_wp2_with fail
    refine (HBy.out _).mono ?_
    rintro e w3 ⟨rfl, hw1⟩
    have hw1 := hw1.symm
    subst hw1
    go_wp2_with fail
    refine (HP.out _).mono ?_
    rintro e w3 ⟨rfl, hb3⟩
    go_wp2_with fail
    go_ret
    exact ⟨rfl, H2.out.trans (hb3.mono H2.out.size)⟩
  · rw [if_neg h0] at hz
    have hz' : FloatKind.f64.format.order y 0 = none ∨ FloatKind.f64.format.order y 0 = some .lt ∨ FloatKind.f64.format.order y 0 = some .gt := by
      rw [hz]; split
      · simp
      · cases sg Ieee.double y <;> simp
    clear hz h0
    have hs : floatBits .quo .f64 x y = Ieee.double.div x y := rfl
    cases ho : Ieee.double.div x y with
    | none =>
      rw [ho] at hs HT
      obtain ⟨nb, hnb, hadd⟩ := run_nan .quo (by simp) 51 x y hs w2
      rcases hz' with hz | hz | hz
      all_goals
        go_wp2_with (simp only [hadd, hz])
        refine (pattern32_any nb _ hnb.2).mono ?_
        rintro e w3 ⟨rfl, hb3⟩
        rw [pat32_nan nb hnb.1]
        have H3 := fhide (H2.out.drew.trans (hb3.mono H2.out.size))
        clear hb3
        go_wp2_with fail
        go_ret
        exact ⟨by rw [← HT.out]; rfl, H3.out⟩
    | some r =>
      rw [ho] at hs HT
      obtain ⟨hr1, hr2⟩ := fb_num hs
      have hadd := fun w : World => run_float_arith (P := Tryz.prog) w .quo 51 .f64 x y r hs
      have HP := fhide (fun w : World => pattern32_any r w hr2)
      rw [pat32_thinC rfl hr1, HT.out] at HP
      clear hr1 hr2 hs ho
      rcases hz' with hz | hz | hz
      all_goals
        go_wp2_with (simp only [hadd, hz])
        refine (HP.out _).mono ?_
        rintro e w3 ⟨rfl, hb3⟩
        go_wp2_with fail
        go_ret
        exact ⟨rfl, H2.out.trans (hb3.mono H2.out.size)⟩

end Go.Proofs.YtleffbpjjbiobaaGreatDoor

/- The contracts of code's scales (32 bits). -/
namespace Go.Proofs.YtleffbpjjbiobaaGreatDoor
open Go.RowKit
open M
set_option linter.unusedVariables false
set_option linter.unusedSimpArgs false

/-- A binary32 widened. -/
def wdC (f : Nat) : Nat := if 2139095040 < f % 2147483648 then widNan f else widC f

theorem wdC_lt (f : Nat) (hf : f < 4294967296) : wdC f < 18446744073709551616 := by
  unfold wdC
  split
  · unfold widNan; omega
  · rename_i h
    unfold widC
    rw [if_neg h]
    obtain ⟨x, x1, x2, _⟩ := f2f_wide f hf (by omega)
    rw [x1]; exact x2

theorem widenC_any (f : Nat) (w : World) (hf : f < 4294967296) : Calls Tryz.prog 186 #[.int .u32 f] w fun e w' => e = .returned (.int .u64 (wdC f : Nat)) ∧ Below w.heap.size w w' := by
  by_cases h : 2139095040 < f % 2147483648
  · have e : wdC f = widNan f := if_pos h
    rw [e]; exact Widen_nan f w hf h
  · obtain ⟨x, x1, x2, x3, _⟩ := f2f_wide f hf (by omega)
    have e : wdC f = x := by unfold wdC widC; rw [if_neg h, if_neg h, x1]; rfl
    rw [e]; exact Widen_num f x w hf h x1 x2 x3

/-- The nearest whole number, if it is one of 64 bits. -/
def near32 (v : Nat) : Option Int := near64 (wdC v)

def F32 : Dm := ⟨mul32F, div32F, fun k => floatOfInt .f32 k, near32, 10, 999999⟩

theorem near32_range {v : Nat} {k : Int} (h : near32 v = some k) : -9223372036854775808 ≤ k ∧ k ≤ 9223372036854775807 := near64_range h

theorem thinC_lt (x : Option Nat) (h : ∀ r, x = some r → r < 18446744073709551616) : thinC x < 4294967296 := by
  cases x with
  | none => show 2143289344 < _; omega
  | some r => have := h r rfl; show nar32 r < _; unfold nar32; omega

theorem F32_mul_lt (a b : Nat) : F32.mul a b < 4294967296 := thinC_lt _ fun r hr => (fb_num (op := .mul) (a := widC a) (b := widC b) (show floatBits .mul .f64 (widC a) (widC b) = some r from hr)).2
theorem F32_div_lt (a b : Nat) : F32.div a b < 4294967296 := thinC_lt _ fun r hr => (fb_num (op := .quo) (a := widC a) (b := widC b) (show floatBits .quo .f64 (widC a) (widC b) = some r from hr)).2

theorem near_lt32 (s : Bool) (m : Nat) (p : Int) : Ieee.single.nearest s m p < 4294967296 := by
  rw [Flt.nearest_rnd]
  have h : ∀ r, r ≤ 2139095040 → Ieee.single.word s r < 4294967296 := fun r hr => by
    cases s
    · show r < _; omega
    · show Ieee.single.signWeight + r < _; rw [show Ieee.single.signWeight = 2147483648 from by decide +kernel]; omega
  refine h _ ?_
  rw [show Ieee.single.infRung = 2139095040 from by decide +kernel]
  exact Nat.min_le_right _ _

theorem F32_int_lt (n : Int) : F32.int n < 4294967296 := by
  show floatOfInt .f32 n < 4294967296
  have h : ∃ s m p, floatOfInt .f32 n = Ieee.single.nearest s m p := ⟨_, _, _, rfl⟩
  obtain ⟨s, m, p, h⟩ := h
  rw [h]
  exact near_lt32 s m p

theorem F32_pow_lt (p : Nat) : F32.pow p < 4294967296 := by
  cases p with
  | zero => exact F32_int_lt 1
  | succ p => exact F32_mul_lt _ _

theorem fromInt32_any (n : Int) (w : World) : Calls Tryz.prog 149 #[.int .i64 n] w fun e w' => e = .returned (.int .u32 (floatOfInt .f32 n : Nat)) ∧ w' = w := by
  have hcv := fun w : World => run_convert_int_float (P := Tryz.prog) w 2 52 .i64 .f32 n (by kernel_rfl) (by kernel_rfl)
  generalize floatOfInt .f32 n = x at *
  have ht := tobits32 x
  go_enter Tryz.func149, Tryz.ntmps149
  go_wp2_with (simp only [hcv, ht])
  go_ret
  exact ⟨rfl, rfl⟩

theorem floatOf32_any (n : Int) (w : World) : Calls Tryz.prog 119 #[.int .i64 n] w fun e w' => e = .returned (.int .u32 (F32.int n : Nat)) ∧ w' = w := by
  have HF := hide (fromInt32_any n w)
  have hl := F32_int_lt n
  change Calls _ _ _ _ fun e w' => e = .returned (.int .u32 (floatOfInt .f32 n : Nat)) ∧ w' = w
  change floatOfInt .f32 n < 4294967296 at hl
  generalize floatOfInt .f32 n = x at *
  have r0 : IntKind.u32.wrap (x : Int) = (x : Int) := by rw [IntKind.wrap_u32]; omega
  go_enter Tryz.func119, Tryz.ntmps119
  go_wp2_with fail
  refine (cwide32_any _).mono ?_
  rintro e w1 ⟨rfl, rfl⟩
  go_wp2_with fail
  refine HF.out.mono ?_
  rintro e w2 ⟨rfl, rfl⟩
  go_wp2_with fail
  go_ret
  exact ⟨rfl, rfl⟩

theorem nearestWhole32_any (v : Nat) (w : World) (hv : v < 4294967296) : Calls Tryz.prog 166 #[.int .u32 v] w fun e w' => e = .returned (nwV (near32 v)) ∧ Below w.heap.size w w' := by
  have HW := hide (widenC_any v w hv)
  have r0 : IntKind.u32.wrap (v : Int) = (v : Int) := by rw [IntKind.wrap_u32]; omega
  have r1 : IntKind.u64.wrap (v : Int) = (v : Int) := by rw [IntKind.wrap_u64]; omega
  have hx := wdC_lt v hv
  unfold near32
  generalize wdC v = x at *
  by_cases h : x % 9223372036854775808 < 9218868437227405312 ∧ -9223372036854775808 ≤ wz 1074 0 x ∧ wz 1074 0 x < 9223372036854775808
  · have e0 : near64 x = some (wz 1074 0 x) := by unfold near64; rw [if_pos h]
    have HT := hide (fun w : World => ToInt_in 1074 rfl x 0 w hx (by omega) h.1 h.2.1 h.2.2)
    rw [e0]
    clear e0 h
    generalize wz 1074 0 x = z at *
    go_enter Tryz.func166, Tryz.ntmps166
    go_wp2_with fail
    refine (cwide32_any _).mono ?_
    rintro e w1 ⟨rfl, h1⟩
    have h1 := h1.symm
    subst h1
    go_wp2_with fail
    refine HW.out.mono ?_
    rintro e w1 ⟨rfl, B1⟩
    have HB1 := hide B1
    clear B1
    go_wp2_with fail
    refine (HT.out _).mono ?_
    rintro e w2 ⟨rfl, B2⟩
    have HB : Hid (Below w.heap.size w w2) := HB1.out.trans (B2.mono HB1.out.size)
    clear B2
    go_wp2_with fail
    go_ret2
    exact ⟨rfl, HB.out⟩
  · have e0 : near64 x = none := by unfold near64; rw [if_neg h]
    have HT := hide (fun w : World => ToInt_out 1074 rfl x 0 w hx (by omega) h)
    rw [e0]
    clear e0 h
    go_enter Tryz.func166, Tryz.ntmps166
    go_wp2_with fail
    refine (cwide32_any _).mono ?_
    rintro e w1 ⟨rfl, h1⟩
    have h1 := h1.symm
    subst h1
    go_wp2_with fail
    refine HW.out.mono ?_
    rintro e w1 ⟨rfl, B1⟩
    have HB1 := hide B1
    clear B1
    go_wp2_with fail
    refine (HT.out _).mono ?_
    rintro e w2 ⟨rfl, B2⟩
    have HB : Hid (Below w.heap.size w w2) := HB1.out.trans (B2.mono HB1.out.size)
    clear B2
    go_wp2_with fail
    go_ret2
    exact ⟨rfl, HB.out⟩

theorem mostWhole32_any (w : World) : Calls Tryz.prog 167 #[] w fun e w' => e = .returned (.int .i64 999999) ∧ w' = w := by
  go_enter Tryz.func167, Tryz.ntmps167
  go_wp2_with fail
  refine (cwide32_any _).mono ?_
  rintro e w1 ⟨rfl, rfl⟩
  go_wp2_with fail
  go_ret
  exact ⟨rfl, rfl⟩

theorem mostPoint32_any (w : World) : Calls Tryz.prog 136 #[] w fun e w' => e = .returned (.int .i64 10) ∧ w' = w := by
  go_enter Tryz.func136, Tryz.ntmps136
  go_wp2_with fail
  refine (cwide32_any _).mono ?_
  rintro e w1 ⟨rfl, rfl⟩
  go_wp2_with fail
  go_ret
  exact ⟨rfl, rfl⟩

/-- The scale of a p. -/
def scV32 (p : Nat) : Value := .agg #[.int .i64 (p : Int), .int .u32 (F32.pow p : Int)]

set_option maxRecDepth 100000 in
theorem scaleAt32_any (p : Nat) (w : World) (hp : p ≤ 1000) : Calls Tryz.prog 81 #[.int .i64 p] w fun e w' => e = .returned (scV32 p) ∧ Below w.heap.size w w' := by
  have HM := hide (fun (a b : Nat) (w : World) (ha : a < 4294967296) (hb : b < 4294967296) => Mul32_anyC a b w ha hb)
  have hI1 := floatOf32_any 1
  have hI10 := floatOf32_any 10
  obtain ⟨g, hg⟩ : ∃ g, w.heap.size = g := ⟨_, rfl⟩
  have HG := hide hg
  have HI := hide (And.intro hI1 hI10)
  clear hI1 hI10
  have HA : Hid (Below g w (w.alloc (.cells #[.int .i64 0, .int .u32 0] 116)) ∧ (w.alloc (.cells #[.int .i64 0, .int .u32 0] 116)).heap[g]? = some (.cells #[.int .i64 0, .int .u32 0] 116 (0, 0))) := by
    rw [← hg]; exact ⟨(Below.refl _ w).alloc (Nat.le_refl _) _, heap_alloc_new w _⟩
  go_enter Tryz.func81, Tryz.ntmps81
  go_upto_region 1 with fail
  (try rw [hg])
  clear hg
  generalize w.alloc (.cells #[.int .i64 0, .int .u32 0] 116) = W1 at *
  go_wp2_with fail
  refine (HI.out.1 _).mono ?_
  rintro e w1 ⟨rfl, h1⟩
  have h1 := h1.symm
  subst h1
  go_wp2_with fail
  refine (HI.out.2 _).mono ?_
  rintro e w1 ⟨rfl, h1⟩
  have h1 := h1.symm
  subst h1
  obtain ⟨TEN, hTEN⟩ : ∃ t, F32.int 10 = t := ⟨_, rfl⟩
  rw [hTEN]
  have HTEN := hide hTEN
  clear hTEN
  go_wp2_with fail
  go_loopw [3, 8] (fun t3 t8 wr => ∃ k : Nat, t8 = .int .i64 (k : Int) ∧ t3 = .int .u32 ((F32.pow k : Nat) : Int) ∧ Hid (k ≤ p ∧ Below g w wr ∧ wr.heap[g]? = some (.cells #[.int .i64 0, .int .u32 0] 116 (0, 0)))) (fun _ t8 _ => p - (intOf t8).toNat)
  case atStart => exact ⟨0, rfl, rfl, Nat.zero_le _, HA.out.1, HA.out.2⟩
  case round =>
    obtain ⟨k, rfl, rfl, hI⟩ := hrel
    by_cases hlt : k < p
    · have HE : Hid (mul32F (F32.pow k) TEN = F32.pow (k + 1)) := by rw [← HTEN.out]; rfl
      obtain ⟨P, hP⟩ : ∃ P, F32.pow k = P := ⟨_, rfl⟩
      have hPl : P < 4294967296 := by rw [← hP]; exact F32_pow_lt k
      have hTl : TEN < 4294967296 := by rw [← HTEN.out]; exact F32_int_lt 10
      rw [hP] at HE ⊢
      clear hP
      go_wp2_with fail
      refine (HM.out P TEN wr hPl hTl).mono ?_
      rintro e w2 ⟨rfl, B2⟩
      rw [HE.out]
      have HB2 : Hid (Below g w w2 ∧ w2.heap[g]? = some (.cells #[.int .i64 0, .int .u32 0] 116 (0, 0))) := by
        have h1 := size_lt_of_row hI.out.2.2
        exact ⟨hI.out.2.1.trans (B2.mono (by omega)), by rw [B2.block g h1]; exact hI.out.2.2⟩
      clear B2
      go_wp2_with fail
      go_roundw
      case rel => exact ⟨k + 1, by simp, rfl, hlt, HB2.out.1, HB2.out.2⟩
      case measure => simp [intOf]; omega
    · have hk : k = p := by have := hI.out.1; omega
      subst hk
      have c0 : wr.cell? ⟨g, 0, none⟩ = some (.int .i64 0) := cell_of_row _ _ 0 _ _ _ hI.out.2.2
      have c1 : wr.cell? ⟨g, 1, none⟩ = some (.int .u32 0) := cell_of_row _ _ 1 _ _ _ hI.out.2.2
      have f0 : wr.frozen? ⟨g, 0, none⟩ = false := frozen_of_row _ _ _ _ _ hI.out.2.2
      have f1 : wr.frozen? ⟨g, 1, none⟩ = false := frozen_of_row _ _ _ _ _ hI.out.2.2
      obtain ⟨P, hP⟩ : ∃ P, F32.pow k = P := ⟨_, rfl⟩
      rw [hP]
      have HP := hide hP
      clear hP
      go_wp2_with fail
      obtain ⟨fs, hu⟩ := is_struct (show Tryz.prog.underlying 116 = Tryz.prog.underlying 116 from rfl) (by kernel_rfl)
      have hrow : ((wr.setCell ⟨g, 0, none⟩ (.int .i64 (k : Int))).setCell ⟨g, 1, none⟩ (.int .u32 (P : Int))).heap[g]? = some (.cells #[.int .i64 (k : Int), .int .u32 (P : Int)] 116 (0, 0)) := by
        have h1 := heap_setCell_same wr g 0 _ _ (.int .i64 (k : Int)) hI.out.2.2
        have h2 := heap_setCell_same _ g 1 _ _ (.int .u32 (P : Int)) h1
        exact h2
      refine bodyPost_ret (results_cell_row rfl _ _ g _ _ (0, 0) (.struct fs) rfl hrow hu rfl (by kernel_rfl)) rfl ?_
      refine ⟨by rw [scV32, HP.out], ?_⟩
      have h1 := hI.out.2.1
      rw [HG.out]
      exact (h1.setCell (p := ⟨g, 0, none⟩) (Nat.le_refl _) _).setCell (p := ⟨g, 1, none⟩) (Nat.le_refl _) _

theorem valueOf32_any (p : Nat) (k : Int) (w : World) : Calls Tryz.prog 83 #[scV32 p, .int .i64 k] w fun e w' => e = .returned (.int .u32 (F32.val p k : Nat)) ∧ Below w.heap.size w w' := by
  have HD := hide (fun (w : World) => Div32_anyC (F32.int k) (F32.pow p) w (F32_int_lt k) (F32_pow_lt p))
  have HF := hide (fun (w : World) => floatOf32_any k w)
  have ev : div32F (F32.int k) (F32.pow p) = F32.val p k := rfl
  rw [ev] at HD
  clear ev
  unfold scV32
  generalize F32.val p k = out at *
  generalize F32.int k = I at *
  generalize F32.pow p = P at *
  obtain ⟨g, hg⟩ : ∃ g, w.heap.size = g := ⟨_, rfl⟩
  obtain ⟨W1, hW1⟩ : ∃ W1, W1 = w.alloc (.cells #[.int .i64 (p : Int), .int .u32 (P : Int)] 116) := ⟨_, rfl⟩
  have hB1 : Below g w W1 := by rw [hW1, ← hg]; exact (Below.refl _ w).alloc (Nat.le_refl _) _
  have hr1 : W1.heap[g]? = some (.cells #[.int .i64 (p : Int), .int .u32 (P : Int)] 116 (0, 0)) := by rw [hW1, ← hg]; exact heap_alloc_new w _
  have c0 : W1.drew.cell? ⟨g, 1, none⟩ = some (.int .u32 (P : Int)) := cell_of_row W1.drew g 1 _ _ _ hr1
  have HB : Hid (Below g w W1.drew) := ⟨hB1.os, hB1.tape, hB1.output, hB1.size, hB1.block⟩
  have HGG := hide hg
  have HS : Hid (g ≤ W1.drew.heap.size) := by have := size_lt_of_row hr1; exact Nat.le_of_lt this
  clear hB1 hr1
  go_enter Tryz.func83, Tryz.ntmps83
  go_wp2_with fail
  (try rw [hg])
  (try rw [← hW1])
  clear hW1 hg
  go_region_held3 (fun w' => w'.cell? ⟨g, 1, none⟩ = some (.int .u32 (P : Int))) (exact c0)
    (first | (go_at_call 119; go_must (refine (HF.out _).mono ?_); rintro _ w5 ⟨rfl, hw5⟩; have hw5 := hw5.symm; subst hw5) | (go_at_call 121; go_must (refine (HD.out _).mono ?_); rintro _ w6 ⟨rfl, B6⟩; have HB6 : Hid (Below g w w6) := (HB.out.trans (B6.mono HS.out)); have c0 : w6.cell? ⟨g, 1, none⟩ = some (.int .u32 (P : Int)) := (by rw [B6.cell (p := ⟨g, 1, none⟩) (block_lt_of_cell c0)]; exact c0); clear B6))
  all_goals
    go_wp2_with fail
    go_ret
    exact ⟨rfl, by rw [HGG.out]; exact HB6.out⟩

end Go.Proofs.YtleffbpjjbiobaaGreatDoor

namespace Go.Proofs.YtleffbpjjbiobaaGreatDoor
open M Flt
set_option linter.unusedVariables false

theorem two_round (N X Y : Nat) (h1 : 2 * 4503599627370496 * X ≤ 2 * 4503599627370496 * N + N) (h2 : 2 * 4503599627370496 * N ≤ 2 * 4503599627370496 * X + N) (h3 : 2 * 8388608 * Y ≤ 2 * 8388608 * X + X) (h4 : 2 * 8388608 * X ≤ 2 * 8388608 * Y + X) :
    2 * 4194304 * Y ≤ 2 * 4194304 * N + N ∧ 2 * 4194304 * N ≤ 2 * 4194304 * Y + N := ⟨by omega, by omega⟩

theorem bin32 : Ieee.single.binade = 8388608 := by decide +kernel
theorem inf32_le : Ieee.single.infRung ≤ Ieee.single.signWeight := by decide +kernel
theorem infR32 : Ieee.single.infRung = 2139095040 := by decide +kernel
theorem sw32 : Ieee.single.signWeight = 2147483648 := by decide +kernel
theorem sw64 : Ieee.double.signWeight = 9223372036854775808 := by decide +kernel
theorem frac32 : 1 ≤ Ieee.single.fractionBits := by decide +kernel

/-- A binary64 made a binary32. -/
theorem nar_is (s : Bool) (x R : Nat) (hf : rg Ieee.double x < Ieee.double.infRung) (hs : sg Ieee.double x = s) (hlt : x < 2 * Ieee.double.signWeight) (hlo : 8388608 * 2 ^ gapE ≤ V Ieee.double (rg Ieee.double x)) (hhi : V Ieee.double (rg Ieee.double x) ≤ V Ieee.single R * 2 ^ gapE) (hR : R < 2139095040) :
    ∃ r, nar32 x = Ieee.single.word s r ∧ r ≤ R ∧ 2 * 8388608 * (V Ieee.single r * 2 ^ gapE) ≤ 2 * 8388608 * V Ieee.double (rg Ieee.double x) + V Ieee.double (rg Ieee.double x) ∧ 2 * 8388608 * V Ieee.double (rg Ieee.double x) ≤ 2 * 8388608 * (V Ieee.single r * 2 ^ gapE) + V Ieee.double (rg Ieee.double x) := by
  have hp : 0 < 2 ^ gapE := Nat.two_pow_pos _
  have hr : rg Ieee.double x = x % 9223372036854775808 := by unfold rg; rw [sw64]
  have hle := rnd_le Ieee.single frac32 (V Ieee.double (rg Ieee.double x)) (2 ^ gapE) R hp hhi
  have hn := rnd_near Ieee.single frac32 (V Ieee.double (rg Ieee.double x)) (2 ^ gapE) hp (by rw [bin32]; exact hlo)
  rw [bin32] at hn
  refine ⟨rnd Ieee.single (V Ieee.double (rg Ieee.double x)) (2 ^ gapE), ?_, hle, hn.1, hn.2⟩
  unfold nar32
  rw [← hr]
  generalize rnd Ieee.single (V Ieee.double (rg Ieee.double x)) (2 ^ gapE) = r at *
  rw [Nat.min_eq_left (by omega)]
  rw [sw64] at hlt
  unfold sg at hs
  rw [sw64] at hs
  have hq : x / 9223372036854775808 = 0 ∨ x / 9223372036854775808 = 1 := by omega
  rcases hq with hq | hq
  · rw [hq] at hs ⊢
    subst hs
    show 0 * 2147483648 + r = r
    omega
  · rw [hq] at hs ⊢
    subst hs
    show 1 * 2147483648 + r = Ieee.single.signWeight + r
    rw [sw32]

/-- A binary32 made a binary64. -/
theorem wid_is (s : Bool) (r : Nat) (hr : r < 2139095040) : rg Ieee.double (widC (Ieee.single.word s r)) < Ieee.double.infRung ∧ sg Ieee.double (widC (Ieee.single.word s r)) = s ∧ V Ieee.double (rg Ieee.double (widC (Ieee.single.word s r))) = V Ieee.single r * 2 ^ gapE ∧ wdC (Ieee.single.word s r) = widC (Ieee.single.word s r) := by
  obtain ⟨a, ha⟩ : ∃ a, Ieee.single.word s r = a := ⟨_, rfl⟩
  have h1 : a < 4294967296 ∧ a % 2147483648 = r ∧ a / 2147483648 = s.toNat := by
    rw [← ha]
    cases s
    · show r < _ ∧ r % _ = r ∧ r / _ = 0; omega
    · show Ieee.single.signWeight + r < _ ∧ (Ieee.single.signWeight + r) % _ = r ∧ (Ieee.single.signWeight + r) / _ = 1
      rw [sw32]; omega
  obtain ⟨x, x1, x2, x3, x4, x5, x6, x7⟩ := f2f_wide a h1.1 (by omega)
  have hn : ¬ 2139095040 < a % 2147483648 := by omega
  have e : widC a = x := by unfold widC; rw [if_neg hn, x1]; rfl
  have hg : rg Ieee.double x = x % 9223372036854775808 := by unfold rg; rw [sw64]
  have hi : Ieee.double.infRung = 9218868437227405312 := by decide +kernel
  rw [ha, e, hg, hi]
  refine ⟨?_, ?_, ?_, ?_⟩
  · have : x % 9223372036854775808 ≠ 9218868437227405312 := fun h => by have := x6.1 h; omega
    omega
  · unfold sg
    rw [sw64, x5, h1.2.2]
    cases s <;> rfl
  · rw [x7 (by omega), h1.2.1]
  · unfold wdC; rw [if_neg hn]; exact e

theorem lt_inf32 (T K : Nat) (hT : T = 149) (hK : K < 2 ^ 60) : K * 2 ^ T < V Ieee.single Ieee.single.infRung := by
  rw [V_inf Ieee.single (by decide +kernel)]
  obtain ⟨N, hN⟩ : ∃ N, Ieee.single.fractionBits + (2 ^ Ieee.single.exponentBits - 2) = N := ⟨_, rfl⟩
  have h2 : N = 277 := by rw [← hN]; decide +kernel
  rw [hN]
  have h3 : (2 : Nat) ^ 60 * 2 ^ T ≤ 2 ^ N := by rw [← Nat.pow_add]; exact Nat.pow_le_pow_right (by omega) (by omega)
  exact Nat.lt_of_lt_of_le (Nat.mul_lt_mul_of_pos_right hK (Nat.two_pow_pos T)) h3

/-- A whole number's rung among the binary32s. -/
theorem rung32 (t K : Nat) (ht : t = 149) (hK : K < 16777216) : ∃ R, V Ieee.single R = K * 2 ^ t ∧ R < 2139095040 := by
  obtain ⟨R, hR⟩ := repr Ieee.single K t (by rw [bin32]; omega)
  refine ⟨R, hR, ?_⟩
  rw [← infR32]
  exact V_lt_iff.1 (by rw [hR]; exact lt_inf32 t K ht (by omega))

theorem int32_word (t : Nat) (ht : t = 149) (k : Int) (h : k.natAbs ≤ 999999) : ∃ R, F32.int k = Ieee.single.word (decide (k < 0)) R ∧ V Ieee.single R = k.natAbs * 2 ^ t ∧ R < 2139095040 := by
  obtain ⟨R, hR, hi⟩ := rung32 t k.natAbs ht (by omega)
  refine ⟨R, ?_, hR, hi⟩
  have e : F32.int k = Ieee.single.nearest (decide (k < 0)) k.natAbs 0 := rfl
  have hl : Ieee.single.leastPlace = -149 := by decide
  rw [e, nearest_rnd, hl, show (0 - (-149) : Int).toNat = t by omega, show (-149 - (0 : Int)).toNat = 0 by omega, Nat.pow_zero, ← hR, rnd_V, infR32, Nat.min_eq_left (by omega)]

set_option maxRecDepth 100000 in
theorem pow32_all : ∀ p : Fin 11, (decide (F32.pow p.val < 2139095040) && (V Ieee.single (F32.pow p.val) == 10 ^ p.val * 2 ^ 149)) = true := by decide +kernel

/-- 2 ^ 1074 by 2 ^ 925. -/
theorem pow_gap (T t : Nat) (hT : T = 1074) (ht : t = 149) : (2 : Nat) ^ T = 2 ^ t * 2 ^ gapE := by
  rw [← Nat.pow_add]; congr 1; rw [hT, ht]; rfl
theorem pow149 (t : Nat) (ht : t = 149) : (2 : Nat) ^ t = 713623846352979940529142984724747568191373312 := by subst ht; decide

theorem pow32_is (t : Nat) (ht : t = 149) (p : Nat) (hp : p ≤ 10) : F32.pow p < 2139095040 ∧ V Ieee.single (F32.pow p) = 10 ^ p * 2 ^ t := by
  have h := pow32_all ⟨p, by omega⟩
  simp only [Bool.and_eq_true, decide_eq_true_eq, beq_iff_eq] at h
  subst ht
  exact h

theorem wid_whl (T t K r : Nat) (s : Bool) (hT : T = 1074) (ht : t = 149) (hr : r < 2139095040) (hv : V Ieee.single r = K * 2 ^ t) : Whl Ieee.double T K s (widC (Ieee.single.word s r)) := by
  obtain ⟨h1, h2, h3, _⟩ := wid_is s r hr
  exact ⟨h1, by rw [h3, hv, pow_gap T t hT ht, Nat.mul_assoc], h2⟩

/-- What a quotient of two whole numbers is among the binary32s. -/
def QuoS (T K D : Nat) (s : Bool) (v : Nat) : Prop := ∃ r, v = Ieee.single.word s r ∧ r < 2139095040 ∧
  2 * 4194304 * (V Ieee.single r * 2 ^ gapE * D) ≤ 2 * 4194304 * (K * 2 ^ T) + K * 2 ^ T ∧ 2 * 4194304 * (K * 2 ^ T) ≤ 2 * 4194304 * (V Ieee.single r * 2 ^ gapE * D) + K * 2 ^ T

theorem quo32 (T t : Nat) (hT : T = 1074) (ht : t = 149) (p : Nat) (hp : p ≤ 10) (k : Int) (hk : k.natAbs ≤ 999999) (h1 : 1 ≤ k.natAbs) : QuoS T k.natAbs (10 ^ p) (decide (k < 0)) (F32.val p k) := by
  have hl : Ieee.double.leastPlace = -(T : Int) := by rw [hT]; decide
  obtain ⟨Rk, e1, v1, r1⟩ := int32_word t ht k hk
  obtain ⟨p1, p2⟩ := pow32_is t ht p hp
  have wa := wid_whl T t k.natAbs Rk (decide (k < 0)) hT ht r1 v1
  have wb : Whl Ieee.double T (10 ^ p) false (widC (F32.pow p)) := wid_whl T t (10 ^ p) (F32.pow p) false hT ht p1 p2
  have hp10 : (10 : Nat) ^ p ≤ 10 ^ 10 := Nat.pow_le_pow_right (by omega) hp
  have hD1 : 1 ≤ (10 : Nat) ^ p := Nat.pos_of_ne_zero (by simp)
  obtain ⟨R2, hR2, hR2i⟩ := rung32 t (2 * k.natAbs) ht (by omega)
  have hg := pow_gap T t hT ht
  have h149 := pow149 t ht
  have hv : F32.val p k = div32F (F32.int k) (F32.pow p) := rfl
  rw [hv, e1]
  generalize decide (k < 0) = s at *
  generalize k.natAbs = K at *
  generalize F32.pow p = P at *
  generalize (10 : Nat) ^ p = D at *
  have hn : Ieee.double.binade * D ≤ K * 2 ^ T := by
    have a : Ieee.double.binade * D ≤ 2 ^ 100 := by
      rw [bin64]
      exact Nat.le_trans (Nat.mul_le_mul_left _ hp10) (by decide)
    exact Nat.le_trans a (Nat.le_trans (Nat.pow_le_pow_right (by omega) (by omega)) (Nat.le_mul_of_pos_left _ h1))
  obtain ⟨x, ex, hq⟩ := quo_is Ieee.double frac64 T K D _ _ s hl inf64_le wa wb hD1 hn
  have lo := hq.lo
  have hi := hq.hi
  rw [bin64] at lo hi
  have hKU : 2 ^ T ≤ K * 2 ^ T := Nat.le_mul_of_pos_left _ h1
  have hXD : V Ieee.double (rg Ieee.double x) ≤ V Ieee.double (rg Ieee.double x) * D := Nat.le_mul_of_pos_right _ hD1
  have hXD2 : V Ieee.double (rg Ieee.double x) * D ≤ V Ieee.double (rg Ieee.double x) * 10 ^ 10 := Nat.mul_le_mul_left _ hp10
  have hR3 : V Ieee.single R2 * 2 ^ gapE = 2 * (K * 2 ^ T) := by rw [hR2, hg]; simp only [Nat.mul_assoc]
  obtain ⟨r, n1, n2, n3, n4⟩ := nar_is s x R2 hq.fin hq.sgn hq.lt
    (by
      generalize K * 2 ^ T = W at *
      rw [hg, h149] at hKU
      generalize V Ieee.double (rg Ieee.double x) = X at *
      generalize X * D = XD at *
      generalize 2 ^ gapE = G at *
      omega)
    (by
      rw [hR3]
      generalize K * 2 ^ T = W at *
      generalize V Ieee.double (rg Ieee.double x) = X at *
      generalize X * D = XD at *
      omega) hR2i
  refine ⟨r, ?_, by omega, ?_⟩
  · show thinC (Ieee.double.div _ _) = _
    rw [ex]
    exact n1
  · generalize V Ieee.double (rg Ieee.double x) = X at *
    generalize V Ieee.single r * 2 ^ gapE = Y at *
    have m3 := Nat.mul_le_mul_right D n3
    have m4 := Nat.mul_le_mul_right D n4
    refine two_round (K * 2 ^ T) (X * D) (Y * D) lo hi ?_ ?_
    · grind
    · grind

set_option maxRecDepth 100000 in
theorem zero32_all : ∀ p : Fin 11, F32.val p.val 0 = 0 ∧ F32.wh p.val (F32.val p.val 0) = some 0 := by decide +kernel

theorem back32_near (T t : Nat) (hT : T = 1074) (ht : t = 149) (p : Nat) (hp : p ≤ 10) (k : Int) (hk : k.natAbs ≤ 999999) (h1 : 1 ≤ k.natAbs) (v : Nat) (hv : QuoS T k.natAbs (10 ^ p) (decide (k < 0)) v) : near32 (mul32F v (F32.pow p)) = some k := by
  have hl : Ieee.double.leastPlace = -(T : Int) := by rw [hT]; decide
  obtain ⟨r, rfl, hr, lo, hi⟩ := hv
  obtain ⟨p1, p2⟩ := pow32_is t ht p hp
  have wb : Whl Ieee.double T (10 ^ p) false (widC (F32.pow p)) := wid_whl T t (10 ^ p) (F32.pow p) false hT ht p1 p2
  obtain ⟨w1, w2, w3, _⟩ := wid_is (decide (k < 0)) r hr
  obtain ⟨R2, hR2⟩ := repr Ieee.double (2 * k.natAbs) T (by rw [bin64]; omega)
  have hR2i : R2 < Ieee.double.infRung := V_lt_iff.1 (by rw [hR2]; exact lt_inf64 T _ hT (by omega))
  obtain ⟨R4, hR4, hR4i⟩ := rung32 t (4 * k.natAbs) ht (by omega)
  have hg := pow_gap T t hT ht
  have h149 := pow149 t ht
  have hKU : 2 ^ T ≤ k.natAbs * 2 ^ T := Nat.le_mul_of_pos_left _ h1
  have hU : 2 ^ 60 ≤ 2 ^ T := Nat.pow_le_pow_right (by omega) (by omega)
  have hp0 : 0 < 2 ^ T := Nat.two_pow_pos T
  obtain ⟨z, hz⟩ : ∃ z, V Ieee.single r * 2 ^ gapE * 10 ^ p = z := ⟨_, rfl⟩
  rw [hz] at lo hi
  have hrr : rnd Ieee.double (V Ieee.double (rg Ieee.double (widC (Ieee.single.word (decide (k < 0)) r))) * V Ieee.double (rg Ieee.double (widC (F32.pow p)))) (2 ^ T) = rnd Ieee.double z 1 := by
    rw [w3, wb.val, ← Nat.mul_assoc, hz]
    have := rnd_scale Ieee.double z 1 (2 ^ T) hp0
    rw [Nat.one_mul] at this
    exact this
  have hzB : Ieee.double.binade * 1 ≤ z := by
    rw [bin64]
    generalize k.natAbs * 2 ^ T = W at *
    omega
  have hle : rnd Ieee.double z 1 ≤ R2 := rnd_le Ieee.double frac64 _ _ _ (by omega) (by
    rw [hR2, Nat.mul_one, Nat.mul_assoc]
    generalize k.natAbs * 2 ^ T = W at *
    omega)
  have hlt : rnd Ieee.double z 1 < Ieee.double.infRung := Nat.lt_of_le_of_lt hle hR2i
  have hn := rnd_near Ieee.double frac64 z 1 (by omega) hzB
  rw [Nat.mul_one, bin64] at hn
  have ey : Ieee.double.mul (widC (Ieee.single.word (decide (k < 0)) r)) (widC (F32.pow p)) = some (Ieee.double.word (decide (k < 0)) (rnd Ieee.double z 1)) := by
    rw [mul_rnd Ieee.double T _ _ hl w1 wb.fin, hrr, w2, wb.sgn, Bool.xor_false, Nat.min_eq_left (by omega)]
  have hsw := inf64_le
  have eg := rg_word Ieee.double (decide (k < 0)) (rnd Ieee.double z 1) (by omega)
  have es := sg_word Ieee.double (decide (k < 0)) (rnd Ieee.double z 1) (by omega)
  have hR5 : V Ieee.single R4 * 2 ^ gapE = 4 * (k.natAbs * 2 ^ T) := by rw [hR4, hg]; simp only [Nat.mul_assoc]
  obtain ⟨r3, n1, n2, n3, n4⟩ := nar_is (decide (k < 0)) (Ieee.double.word (decide (k < 0)) (rnd Ieee.double z 1)) R4 (by rw [eg]; exact hlt) es (word_lt _ _ _ (by omega))
    (by
      rw [eg]
      generalize V Ieee.double (rnd Ieee.double z 1) = Y at *
      generalize k.natAbs * 2 ^ T = W at *
      rw [hg, h149] at hKU
      generalize 2 ^ gapE = G at *
      omega)
    (by
      rw [eg, hR5]
      generalize V Ieee.double (rnd Ieee.double z 1) = Y at *
      generalize k.natAbs * 2 ^ T = W at *
      omega) hR4i
  rw [eg] at n3 n4
  have em : mul32F (Ieee.single.word (decide (k < 0)) r) (F32.pow p) = Ieee.single.word (decide (k < 0)) r3 := by
    show thinC (Ieee.double.mul _ _) = _
    rw [ey]; exact n1
  rw [em]
  obtain ⟨y1, y2, y3, y4⟩ := wid_is (decide (k < 0)) r3 (by omega)
  show near64 (wdC _) = _
  rw [y4]
  refine near64_of T hT _ k (by omega) y1 y2 ?_
  rw [y3]
  have t2 := two_round z _ _ hn.1 hn.2 n3 n4
  have tn := twice_near 4194304 k.natAbs (2 ^ T) (10 ^ p) (V Ieee.single r * 2 ^ gapE) (V Ieee.single r3 * 2 ^ gapE) (by omega) h1 hp0 (by omega) (by rw [hz]; exact lo) (by rw [hz]; exact hi) (by rw [hz]; exact t2.1) (by rw [hz]; exact t2.2)
  exact cutE_near _ _ _ tn.1 tn.2 hp0

theorem few32 : F32.Few := by
  obtain ⟨T, hT⟩ : ∃ T : Nat, T = 1074 := ⟨_, rfl⟩
  obtain ⟨t, ht⟩ : ∃ t : Nat, t = 149 := ⟨_, rfl⟩
  refine ⟨fun p k hp h1 h2 => ?_, fun q p k' k hqp hp h1 h2 h3 h4 he => ?_⟩
  · have hp : p ≤ 10 := hp
    have h1 : -999999 ≤ k := h1
    have h2 : k ≤ 999999 := h2
    by_cases h0 : k = 0
    · subst h0; exact (zero32_all ⟨p, by omega⟩).2
    have hk : k.natAbs ≤ 999999 := by omega
    have hq := quo32 T t hT ht p hp k hk (by omega)
    have en := back32_near T t hT ht p hp k hk (by omega) _ hq
    have en : F32.near (F32.mul (F32.val p k) (F32.pow p)) = some k := en
    unfold Dm.wh
    rw [en]
    show (if k < -F32.most ∨ F32.most < k ∨ F32.val p k ≠ F32.val p k then none else some k) = some k
    rw [if_neg]
    intro h
    rcases h with h | h | h
    · have : k < -999999 := h; omega
    · have : 999999 < k := h; omega
    · exact h rfl
  · have hp : p ≤ 10 := hp
    have h1 : -999999 ≤ k := h1
    have h2 : k ≤ 999999 := h2
    have h3 : -999999 ≤ k' := h3
    have h4 : k' ≤ 999999 := h4
    have hz : ∀ (p : Nat) (hp : p ≤ 10) (k : Int), k.natAbs ≤ 999999 → 1 ≤ k.natAbs → F32.val p k ≠ 0 := fun p hp k hk h1 e => by
      obtain ⟨r, e2, hr, lo, hi⟩ := quo32 T t hT ht p hp k hk h1
      have hr0 : r = 0 := by
        have := congrArg (rg Ieee.single) (e.symm.trans e2)
        rw [rg_word _ _ _ (by rw [sw32]; omega)] at this
        rw [← this]; unfold rg; simp
      rw [hr0, V_zero, Nat.zero_mul, Nat.zero_mul] at hi
      have : 0 < k.natAbs * 2 ^ T := Nat.mul_pos (by omega) (Nat.two_pow_pos T)
      generalize k.natAbs * 2 ^ T = W at *
      omega
    by_cases h0 : k = 0
    · subst h0
      by_cases h0' : k' = 0
      · subst h0'; simp
      · exact absurd (he.trans (zero32_all ⟨p, by omega⟩).1) (hz q (by omega) k' (by omega) (by omega))
    by_cases h0' : k' = 0
    · subst h0'
      exact absurd (he.symm.trans (zero32_all ⟨q, by omega⟩).1) (hz p hp k (by omega) (by omega))
    have hb : 2 * k.natAbs < 2 * 4194304 - 1 := by omega
    obtain ⟨r, e1, hr, l1, l2⟩ := quo32 T t hT ht p hp k (by omega) (by omega)
    obtain ⟨r', e2, hr', l3, l4⟩ := quo32 T t hT ht q (by omega) k' (by omega) (by omega)
    have ew := e2.symm.trans (he.trans e1)
    have er : r' = r := by
      have := congrArg (rg Ieee.single) ew
      rwa [rg_word _ _ _ (by rw [sw32]; omega), rg_word _ _ _ (by rw [sw32]; omega)] at this
    have hs : decide (k < 0) = decide (k' < 0) := by
      have := congrArg (sg Ieee.single) ew
      rw [sg_word _ _ _ (by rw [sw32]; omega), sg_word _ _ _ (by rw [sw32]; omega)] at this
      exact this.symm
    subst er
    have ep : (10 : Nat) ^ p = 10 ^ q * 10 ^ (p - q) := by rw [← Nat.pow_add]; congr 1; omega
    have hone : k.natAbs = k'.natAbs * 10 ^ (p - q) := by
      have el : V Ieee.single r' * 2 ^ gapE * (10 ^ q * 10 ^ (p - q)) = V Ieee.single r' * 2 ^ gapE * 10 ^ q * 10 ^ (p - q) := (Nat.mul_assoc _ _ _).symm
      rw [ep, el] at l1 l2
      have m3 := Nat.mul_le_mul_right (10 ^ (p - q)) l3
      have m4 := Nat.mul_le_mul_right (10 ^ (p - q)) l4
      generalize V Ieee.single r' * 2 ^ gapE * 10 ^ q = z at *
      generalize 10 ^ (p - q) = E at *
      have hpU : 0 < 2 ^ T := Nat.two_pow_pos T
      generalize 2 ^ T = U at *
      refine same_near 4194304 k.natAbs (k'.natAbs * E) U (z * E) hpU hb l1 l2 ?_ ?_
      · grind
      · grind
    have e1 := sgn_abs k
    have e2 := sgn_abs k'
    rw [hs, hone] at e1
    clear hone hs l1 l2 l3 l4 ew
    generalize k'.natAbs = K' at e1 e2
    by_cases h : k' < 0
    · rw [if_pos (by simpa using h)] at e1 e2
      rw [← e1, ← e2]; simp [Int.neg_mul]
    · rw [if_neg (by simpa using h)] at e1 e2
      rw [← e1, ← e2]; simp

end Go.Proofs.YtleffbpjjbiobaaGreatDoor

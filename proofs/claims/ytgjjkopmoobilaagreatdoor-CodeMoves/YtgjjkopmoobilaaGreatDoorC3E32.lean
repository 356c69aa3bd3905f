/- The contract of code's bestScale (32 bits). -/
import Derived.Test.YtgjjkopmoobilaaGreatDoorQG
import Derived.Test.YtgjjkopmoobilaaGreatDoorPB
import Derived.Test.YtgjjkopmoobilaaGreatDoorC3E64
/- Mul and Div of binary32s, as functions of their bits. -/
namespace Go.Proofs.YtgjjkopmoobilaaGreatDoor
open Go.RowKit
open Flt
set_option linter.unusedVariables false
set_option linter.unusedSimpArgs false

theorem cut_convBC (b t : Nat) : IsNan64 (Question.cut (.nanConv .f64 b) t) := cut_nan 0 0 t
theorem run_conv_nanBC (b : Nat) (h : 2139095040 < b % 2147483648) (w : World) : ∃ nb, IsNan64 nb ∧ (convert 52 51 (.float .f32 b)).run Tryz.prog w = .ok (.float .f64 nb) w.drew := by
  refine ⟨Question.cut (.nanConv .f64 b) (w.tape w.drawn (.nanConv .f64 b)), cut_convBC _ _, ?_⟩
  have hd : FloatKind.f32.decode b = .nan (sg Ieee.single b) (rg Ieee.single b - Ieee.single.infRung) := read_nan Ieee.single b (by decide) (by rw [rg32, inf32]; exact h)
  have hs : Tryz.prog.underlying 52 = some (.float .f32) := by kernel_rfl
  have ht : Tryz.prog.underlying 51 = some (.float .f64) := by kernel_rfl
  simp [convert, run_underlying hs, run_underlying ht, Conv.floatToFloat, hd, Question.forced]
set_option maxRecDepth 100000 in
theorem value32_nanBC (b : Nat) (w : World) (h : 2139095040 < b % 2147483648) : Calls Tryz.prog 159 #[.int .u32 b] w fun e w' => ∃ x, IsNan64 x ∧ e = .returned (.float .f64 x) ∧ w' = w.drew := by
  have hf := frombits32 b
  obtain ⟨nb, hnb, hcv⟩ := run_conv_nanBC b h w
  have HN := fhide hnb
  clear hnb h
  go_enter Tryz.func159, Tryz.ntmps159
  go_wp2_with fail
  refine (wide32_any _).mono ?_
  rintro e w1 ⟨rfl, rfl⟩
  go_wp2_with (simp only [hf, hcv])
  go_ret
  exact ⟨nb, HN.out, rfl, rfl⟩
/-- The float64 that a binary32 is reckoned as. -/
def widC (a : Nat) : Nat := if 2139095040 < a % 2147483648 then 9221120237041090560 else (floatToFloatBits .f32 a .f64).getD 0
def Val32C (a x : Nat) : Prop := x < 18446744073709551616 ∧ (2139095040 < a % 2147483648 → 9218868437227405312 < x % 9223372036854775808) ∧ (a % 2147483648 ≤ 2139095040 → x = widC a)
theorem value32_widC (a : Nat) (w : World) (ha : a < 4294967296) : Calls Tryz.prog 159 #[.int .u32 a] w fun e w' => ∃ x, Val32C a x ∧ e = .returned (.float .f64 x) ∧ Below w.heap.size w w' := by
  by_cases h : 2139095040 < a % 2147483648
  · refine (value32_nanBC a w h).mono ?_
    rintro e w' ⟨x, hx, rfl, rfl⟩
    exact ⟨x, ⟨hx.2, fun _ => hx.1, fun h' => by omega⟩, rfl, (Below.refl _ _).drew⟩
  · obtain ⟨x, x1, x2, x3, x4, x5, x6, x7⟩ := f2f_wide a ha (by omega)
    refine (value32_num a x w x1).mono ?_
    rintro e w' ⟨rfl, rfl⟩
    exact ⟨x, ⟨x2, fun h' => absurd h' h, fun _ => by unfold widC; rw [if_neg h, x1]; rfl⟩, rfl, Below.refl _ _⟩

def thinC : Option Nat → Nat
  | some r => nar32 r
  | none => 2143289344
theorem pat32_thinC {o : Option Nat} {r : Nat} (h : o = some r) (hr : r % 9223372036854775808 ≤ 9218868437227405312) : pat32 r = thinC o := by rw [h, pat32_num r hr]; rfl
/-- Products and quotients of binary32s. -/
def mul32F (a b : Nat) : Nat := thinC (Ieee.double.mul (widC a) (widC b))
def div32F (a b : Nat) : Nat := thinC (Ieee.double.div (widC a) (widC b))
theorem widC_nan {a : Nat} (h : 2139095040 < a % 2147483648) : Ieee.double.infRung < rg Ieee.double (widC a) := by
  unfold widC; rw [if_pos h, rg64, inf64]; omega
theorem val_mulC (a b x y : Nat) (ha : a < 4294967296) (hb : b < 4294967296) (hx : Val32C a x) (hy : Val32C b y) : thinC (Ieee.double.mul x y) = mul32F a b := by
  unfold mul32F
  by_cases na : 2139095040 < a % 2147483648
  · rw [mul_nan2 _ (by decide) x y (.inl (by rw [rg64, inf64]; exact hx.2.1 na)), mul_nan2 _ (by decide) _ _ (.inl (widC_nan na))]
  · by_cases nb : 2139095040 < b % 2147483648
    · rw [mul_nan2 _ (by decide) x y (.inr (by rw [rg64, inf64]; exact hy.2.1 nb)), mul_nan2 _ (by decide) _ _ (.inr (widC_nan nb))]
    · rw [hx.2.2 (by omega), hy.2.2 (by omega)]
theorem val_divC (a b x y : Nat) (ha : a < 4294967296) (hb : b < 4294967296) (hx : Val32C a x) (hy : Val32C b y) : thinC (Ieee.double.div x y) = div32F a b := by
  unfold div32F
  by_cases na : 2139095040 < a % 2147483648
  · rw [div_nan2 _ (by decide) x y (.inl (by rw [rg64, inf64]; exact hx.2.1 na)), div_nan2 _ (by decide) _ _ (.inl (widC_nan na))]
  · by_cases nb : 2139095040 < b % 2147483648
    · rw [div_nan2 _ (by decide) x y (.inr (by rw [rg64, inf64]; exact hy.2.1 nb)), div_nan2 _ (by decide) _ _ (.inr (widC_nan nb))]
    · rw [hx.2.2 (by omega), hy.2.2 (by omega)]

set_option maxRecDepth 100000 in
set_option maxHeartbeats 1000000 in
theorem Mul32_anyC (a b : Nat) (w : World) (ha : a < 4294967296) (hb : b < 4294967296) : Calls Tryz.prog 120 #[.int .u32 a, .int .u32 b] w fun e w' => e = .returned (.int .u32 (mul32F a b : Nat)) ∧ Below w.heap.size w w' := by
  have HV := fhide (And.intro (fun w => value32_widC a w ha) (fun w => value32_widC b w hb))
  have HE := fhide (fun x y hx hy => val_mulC a b x y ha hb hx hy)
  clear ha hb
  generalize mul32F a b = out at *
  go_enter Tryz.func120, Tryz.ntmps120
  go_wp2_with fail
  refine (HV.out.1 _).mono ?_
  rintro e w1 ⟨x, hx, rfl, hb1⟩
  have H1 := fhide (And.intro hx hb1)
  clear hx hb1
  go_wp2_with fail
  refine (HV.out.2 _).mono ?_
  rintro e w2 ⟨y, hy, rfl, hb2⟩
  have HT := fhide (HE.out x y H1.out.1 hy)
  have H2 := fhide (H1.out.2.trans (hb2.mono H1.out.2.size))
  clear hy hb2 H1
  have hs : floatBits .mul .f64 x y = Ieee.double.mul x y := rfl
  cases ho : Ieee.double.mul x y with
  | none =>
    rw [ho] at hs HT
    obtain ⟨nb, hnb, hadd⟩ := run_nan .mul (by simp) 51 x y hs w2
    go_wp2_with (simp only [hadd])
    refine (pattern32_any nb _ hnb.2).mono ?_
    rintro e w3 ⟨rfl, hb3⟩
    rw [pat32_nan nb hnb.1]
    have H3 := fhide (H2.out.drew.trans (hb3.mono H2.out.size))
    clear hb3
    go_wp2_with fail
    go_ret
    exact ⟨by rw [← HT.out]; rfl, H3.out⟩
  | some r =>
    rw [ho] at hs HT
    obtain ⟨hr1, hr2⟩ := fb_num hs
    have hadd := fun w : World => run_float_arith (P := Tryz.prog) w .mul 51 .f64 x y r hs
    have HP := fhide (fun w : World => pattern32_any r w hr2)
    rw [pat32_thinC rfl hr1, HT.out] at HP
    clear hr1 hr2 hs ho
    go_wp2_with (simp only [hadd])
    refine (HP.out _).mono ?_
    rintro e w3 ⟨rfl, hb3⟩
    go_wp2_with fail
    go_ret
    exact ⟨rfl, H2.out.trans (hb3.mono H2.out.size)⟩
theorem div_nought32C (x y : Nat) (hx : x < 18446744073709551616) (hy : y < 18446744073709551616) (h0 : y % 9223372036854775808 = 0) : pat32 (byN x (decide (9223372036854775808 ≤ y))) = thinC (Ieee.double.div x y) := by
  have hn : pat32 9221120237041090561 = 2143289344 := by unfold pat32; rw [if_pos (by omega)]
  unfold byN
  have fy : rg Ieee.double y < Ieee.double.infRung := by rw [rg64, inf64, h0]; omega
  have zy : rg Ieee.double y = 0 := by rw [rg64]; exact h0
  have key : ∀ s t : Bool, pat32 (if s = t then 9218868437227405312 else 18442240474082181120) = thinC (some (Ieee.double.word (s ^^ t) Ieee.double.infRung)) := by
    intro s t
    have hp : ∀ q : Bool, pat32 (Ieee.double.word q Ieee.double.infRung) = nar32 (Ieee.double.word q Ieee.double.infRung) := fun q => by
      refine pat32_num _ ?_
      have := rg_word Ieee.double q _ Ieee.double.infRung_lt
      rw [rg64, inf64] at this
      rw [inf64, this]; omega
    show _ = nar32 _
    rw [← hp]
    cases s <;> cases t <;> (refine congrArg _ ?_; decide +kernel)
  rcases Nat.lt_trichotomy (x % 9223372036854775808) 9218868437227405312 with h | h | h
  · have fx : rg Ieee.double x < Ieee.double.infRung := by rw [rg64, inf64]; exact h
    rw [div_fin_zero _ x y fx fy zy, sg64 x hx, sg64 y hy, rg64]
    by_cases hz : x % 9223372036854775808 = 0
    · rw [if_pos (.inr hz), if_pos hz, hn]; rfl
    · rw [if_neg (by omega), if_neg hz]
      exact key _ _
  · rw [div_inf_fin _ (by decide) x y (by rw [rg64, inf64]; exact h) fy, sg64 x hx, sg64 y hy, if_neg (by omega)]
    exact key _ _
  · rw [div_nan2 _ (by decide) x y (.inl (by rw [rg64, inf64]; exact h)), if_pos (.inl h), hn]; rfl

set_option maxRecDepth 100000 in
set_option maxHeartbeats 1000000 in
theorem Div32_anyC (a b : Nat) (w : World) (ha : a < 4294967296) (hb : b < 4294967296) : Calls Tryz.prog 121 #[.int .u32 a, .int .u32 b] w fun e w' => e = .returned (.int .u32 (div32F a b : Nat)) ∧ Below w.heap.size w w' := by
  have HV := fhide (And.intro (fun w => value32_widC a w ha) (fun w => value32_widC b w hb))
  have HE := fhide (fun x y hx hy => val_divC a b x y ha hb hx hy)
  clear ha hb
  generalize div32F a b = out at *
  go_enter Tryz.func121, Tryz.ntmps121
  go_wp2_with fail
  refine (HV.out.1 _).mono ?_
  rintro e w1 ⟨x, hx, rfl, hb1⟩
  have H1 := fhide (And.intro hx hb1)
  clear hx hb1
  go_wp2_with fail
  refine (HV.out.2 _).mono ?_
  rintro e w2 ⟨y, hy, rfl, hb2⟩
  have HT := fhide (HE.out x y H1.out.1 hy)
  have HB := fhide (And.intro H1.out.1.1 hy.1)
  have H2 := fhide (H1.out.2.trans (hb2.mono H1.out.2.size))
  clear hy hb2 H1
  have hz : FloatKind.f64.format.order y 0 = _ := order_nought y
  by_cases h0 : y % 9223372036854775808 = 0
  · rw [if_neg (by omega), if_pos h0] at hz
    have hd := div_nought32C x y HB.out.1 HB.out.2 h0
    rw [HT.out] at hd
    have HS := fhide (fun w : World => Signbit_any y w HB.out.2)
    have hbl : byN x (decide (9223372036854775808 ≤ y)) < 18446744073709551616 := by unfold byN; split; omega; split <;> omega
    have HBy := fhide (fun w : World => byNought_any x (decide (9223372036854775808 ≤ y)) w HB.out.1)
    have HP := fhide (fun w : World => pattern32_any _ w hbl)
    rw [hd] at HP
    generalize decide (9223372036854775808 ≤ y) = t at *
    generalize byN x t = z at *
    clear h0 hd hbl
    go_wp2_with (simp only [hz])
    refine (HS.out _).mono ?_
    rintro e w3 ⟨rfl, hw1⟩
    have hw1 := hw1.symm
    subst hw1
    go_wp2_with fail
    refine (HBy.out _).mono ?_
    rintro e w3 ⟨rfl, hw1⟩
    have hw1 := hw1.symm
    subst hw1
    go_wp2_with fail
    refine (HP.out _).mono ?_
    rintro e w3 ⟨rfl, hb3⟩
    go_wp2_with fail
    go_ret
    exact ⟨rfl, H2.out.trans (hb3.mono H2.out.size)⟩
  · rw [if_neg h0] at hz
    have hz' : FloatKind.f64.format.order y 0 = none ∨ FloatKind.f64.format.order y 0 = some .lt ∨ FloatKind.f64.format.order y 0 = some .gt := by
      rw [hz]; split
      · simp
      · cases sg Ieee.double y <;> simp
    clear hz h0
    have hs : floatBits .quo .f64 x y = Ieee.double.div x y := rfl
    cases ho : Ieee.double.div x y with
    | none =>
      rw [ho] at hs HT
      obtain ⟨nb, hnb, hadd⟩ := run_nan .quo (by simp) 51 x y hs w2
      rcases hz' with hz | hz | hz
      all_goals
        go_wp2_with (simp only [hadd, hz])
        refine (pattern32_any nb _ hnb.2).mono ?_
        rintro e w3 ⟨rfl, hb3⟩
        rw [pat32_nan nb hnb.1]
        have H3 := fhide (H2.out.drew.trans (hb3.mono H2.out.size))
        clear hb3
        go_wp2_with fail
        go_ret
        exact ⟨by rw [← HT.out]; rfl, H3.out⟩
    | some r =>
      rw [ho] at hs HT
      obtain ⟨hr1, hr2⟩ := fb_num hs
      have hadd := fun w : World => run_float_arith (P := Tryz.prog) w .quo 51 .f64 x y r hs
      have HP := fhide (fun w : World => pattern32_any r w hr2)
      rw [pat32_thinC rfl hr1, HT.out] at HP
      clear hr1 hr2 hs ho
      rcases hz' with hz | hz | hz
      all_goals
        go_wp2_with (simp only [hadd, hz])
        refine (HP.out _).mono ?_
        rintro e w3 ⟨rfl, hb3⟩
        go_wp2_with fail
        go_ret
        exact ⟨rfl, H2.out.trans (hb3.mono H2.out.size)⟩

end Go.Proofs.YtgjjkopmoobilaaGreatDoor

/- The contracts of code's scales (32 bits). -/
namespace Go.Proofs.YtgjjkopmoobilaaGreatDoor
open Go.RowKit
open M
set_option linter.unusedVariables false
set_option linter.unusedSimpArgs false

/-- A binary32 widened. -/
def wdC (f : Nat) : Nat := if 2139095040 < f % 2147483648 then widNan f else widC f

theorem wdC_lt (f : Nat) (hf : f < 4294967296) : wdC f < 18446744073709551616 := by
  unfold wdC
  split
  · unfold widNan; omega
  · rename_i h
    unfold widC
    rw [if_neg h]
    obtain ⟨x, x1, x2, _⟩ := f2f_wide f hf (by omega)
    rw [x1]; exact x2

theorem widenC_any (f : Nat) (w : World) (hf : f < 4294967296) : Calls Tryz.prog 186 #[.int .u32 f] w fun e w' => e = .returned (.int .u64 (wdC f : Nat)) ∧ Below w.heap.size w w' := by
  by_cases h : 2139095040 < f % 2147483648
  · have e : wdC f = widNan f := if_pos h
    rw [e]; exact Widen_nan f w hf h
  · obtain ⟨x, x1, x2, x3, _⟩ := f2f_wide f hf (by omega)
    have e : wdC f = x := by unfold wdC widC; rw [if_neg h, if_neg h, x1]; rfl
    rw [e]; exact Widen_num f x w hf h x1 x2 x3

/-- The nearest whole number, if it is one of 64 bits. -/
def near32 (v : Nat) : Option Int := near64 (wdC v)

def F32 : Dm := ⟨mul32F, div32F, fun k => floatOfInt .f32 k, near32, 10, 999999⟩

theorem near32_range {v : Nat} {k : Int} (h : near32 v = some k) : -9223372036854775808 ≤ k ∧ k ≤ 9223372036854775807 := near64_range h

theorem thinC_lt (x : Option Nat) (h : ∀ r, x = some r → r < 18446744073709551616) : thinC x < 4294967296 := by
  cases x with
  | none => show 2143289344 < _; omega
  | some r => have := h r rfl; show nar32 r < _; unfold nar32; omega

theorem F32_mul_lt (a b : Nat) : F32.mul a b < 4294967296 := thinC_lt _ fun r hr => (fb_num (op := .mul) (a := widC a) (b := widC b) (show floatBits .mul .f64 (widC a) (widC b) = some r from hr)).2
theorem F32_div_lt (a b : Nat) : F32.div a b < 4294967296 := thinC_lt _ fun r hr => (fb_num (op := .quo) (a := widC a) (b := widC b) (show floatBits .quo .f64 (widC a) (widC b) = some r from hr)).2

theorem near_lt32 (s : Bool) (m : Nat) (p : Int) : Ieee.single.nearest s m p < 4294967296 := by
  rw [Flt.nearest_rnd]
  have h : ∀ r, r ≤ 2139095040 → Ieee.single.word s r < 4294967296 := fun r hr => by
    cases s
    · show r < _; omega
    · show Ieee.single.signWeight + r < _; rw [show Ieee.single.signWeight = 2147483648 from by decide +kernel]; omega
  refine h _ ?_
  rw [show Ieee.single.infRung = 2139095040 from by decide +kernel]
  exact Nat.min_le_right _ _

theorem F32_int_lt (n : Int) : F32.int n < 4294967296 := by
  show floatOfInt .f32 n < 4294967296
  have h : ∃ s m p, floatOfInt .f32 n = Ieee.single.nearest s m p := ⟨_, _, _, rfl⟩
  obtain ⟨s, m, p, h⟩ := h
  rw [h]
  exact near_lt32 s m p

theorem F32_pow_lt (p : Nat) : F32.pow p < 4294967296 := by
  cases p with
  | zero => exact F32_int_lt 1
  | succ p => exact F32_mul_lt _ _

theorem fromInt32_any (n : Int) (w : World) : Calls Tryz.prog 149 #[.int .i64 n] w fun e w' => e = .returned (.int .u32 (floatOfInt .f32 n : Nat)) ∧ w' = w := by
  have hcv := fun w : World => run_convert_int_float (P := Tryz.prog) w 2 52 .i64 .f32 n (by kernel_rfl) (by kernel_rfl)
  generalize floatOfInt .f32 n = x at *
  have ht := tobits32 x
  go_enter Tryz.func149, Tryz.ntmps149
  go_wp2_with (simp only [hcv, ht])
  go_ret
  exact ⟨rfl, rfl⟩

theorem floatOf32_any (n : Int) (w : World) : Calls Tryz.prog 119 #[.int .i64 n] w fun e w' => e = .returned (.int .u32 (F32.int n : Nat)) ∧ w' = w := by
  have HF := hide (fromInt32_any n w)
  have hl := F32_int_lt n
  change Calls _ _ _ _ fun e w' => e = .returned (.int .u32 (floatOfInt .f32 n : Nat)) ∧ w' = w
  change floatOfInt .f32 n < 4294967296 at hl
  generalize floatOfInt .f32 n = x at *
  have r0 : IntKind.u32.wrap (x : Int) = (x : Int) := by rw [IntKind.wrap_u32]; omega
  go_enter Tryz.func119, Tryz.ntmps119
  go_wp2_with fail
  refine (cwide32_any _).mono ?_
  rintro e w1 ⟨rfl, rfl⟩
  go_wp2_with fail
  refine HF.out.mono ?_
  rintro e w2 ⟨rfl, rfl⟩
  go_wp2_with fail
  go_ret
  exact ⟨rfl, rfl⟩

theorem nearestWhole32_any (v : Nat) (w : World) (hv : v < 4294967296) : Calls Tryz.prog 166 #[.int .u32 v] w fun e w' => e = .returned (nwV (near32 v)) ∧ Below w.heap.size w w' := by
  have HW := hide (widenC_any v w hv)
  have r0 : IntKind.u32.wrap (v : Int) = (v : Int) := by rw [IntKind.wrap_u32]; omega
  have r1 : IntKind.u64.wrap (v : Int) = (v : Int) := by rw [IntKind.wrap_u64]; omega
  have hx := wdC_lt v hv
  unfold near32
  generalize wdC v = x at *
  by_cases h : x % 9223372036854775808 < 9218868437227405312 ∧ -9223372036854775808 ≤ wz 1074 0 x ∧ wz 1074 0 x < 9223372036854775808
  · have e0 : near64 x = some (wz 1074 0 x) := by unfold near64; rw [if_pos h]
    have HT := hide (fun w : World => ToInt_in 1074 rfl x 0 w hx (by omega) h.1 h.2.1 h.2.2)
    rw [e0]
    clear e0 h
    generalize wz 1074 0 x = z at *
    go_enter Tryz.func166, Tryz.ntmps166
    go_wp2_with fail
    refine (cwide32_any _).mono ?_
    rintro e w1 ⟨rfl, h1⟩
    have h1 := h1.symm
    subst h1
    go_wp2_with fail
    refine HW.out.mono ?_
    rintro e w1 ⟨rfl, B1⟩
    have HB1 := hide B1
    clear B1
    go_wp2_with fail
    refine (HT.out _).mono ?_
    rintro e w2 ⟨rfl, B2⟩
    have HB : Hid (Below w.heap.size w w2) := HB1.out.trans (B2.mono HB1.out.size)
    clear B2
    go_wp2_with fail
    go_ret2
    exact ⟨rfl, HB.out⟩
  · have e0 : near64 x = none := by unfold near64; rw [if_neg h]
    have HT := hide (fun w : World => ToInt_out 1074 rfl x 0 w hx (by omega) h)
    rw [e0]
    clear e0 h
    go_enter Tryz.func166, Tryz.ntmps166
    go_wp2_with fail
    refine (cwide32_any _).mono ?_
    rintro e w1 ⟨rfl, h1⟩
    have h1 := h1.symm
    subst h1
    go_wp2_with fail
    refine HW.out.mono ?_
    rintro e w1 ⟨rfl, B1⟩
    have HB1 := hide B1
    clear B1
    go_wp2_with fail
    refine (HT.out _).mono ?_
    rintro e w2 ⟨rfl, B2⟩
    have HB : Hid (Below w.heap.size w w2) := HB1.out.trans (B2.mono HB1.out.size)
    clear B2
    go_wp2_with fail
    go_ret2
    exact ⟨rfl, HB.out⟩

theorem mostWhole32_any (w : World) : Calls Tryz.prog 167 #[] w fun e w' => e = .returned (.int .i64 999999) ∧ w' = w := by
  go_enter Tryz.func167, Tryz.ntmps167
  go_wp2_with fail
  refine (cwide32_any _).mono ?_
  rintro e w1 ⟨rfl, rfl⟩
  go_wp2_with fail
  go_ret
  exact ⟨rfl, rfl⟩

theorem mostPoint32_any (w : World) : Calls Tryz.prog 136 #[] w fun e w' => e = .returned (.int .i64 10) ∧ w' = w := by
  go_enter Tryz.func136, Tryz.ntmps136
  go_wp2_with fail
  refine (cwide32_any _).mono ?_
  rintro e w1 ⟨rfl, rfl⟩
  go_wp2_with fail
  go_ret
  exact ⟨rfl, rfl⟩

/-- The scale of a p. -/
def scV32 (p : Nat) : Value := .agg #[.int .i64 (p : Int), .int .u32 (F32.pow p : Int)]

set_option maxRecDepth 100000 in
theorem scaleAt32_any (p : Nat) (w : World) (hp : p ≤ 1000) : Calls Tryz.prog 81 #[.int .i64 p] w fun e w' => e = .returned (scV32 p) ∧ Below w.heap.size w w' := by
  have HM := hide (fun (a b : Nat) (w : World) (ha : a < 4294967296) (hb : b < 4294967296) => Mul32_anyC a b w ha hb)
  have hI1 := floatOf32_any 1
  have hI10 := floatOf32_any 10
  obtain ⟨g, hg⟩ : ∃ g, w.heap.size = g := ⟨_, rfl⟩
  have HG := hide hg
  have HI := hide (And.intro hI1 hI10)
  clear hI1 hI10
  have HA : Hid (Below g w (w.alloc (.cells #[.int .i64 0, .int .u32 0] 116)) ∧ (w.alloc (.cells #[.int .i64 0, .int .u32 0] 116)).heap[g]? = some (.cells #[.int .i64 0, .int .u32 0] 116 (0, 0))) := by
    rw [← hg]; exact ⟨(Below.refl _ w).alloc (Nat.le_refl _) _, heap_alloc_new w _⟩
  go_enter Tryz.func81, Tryz.ntmps81
  go_upto_region 1 with fail
  (try rw [hg])
  clear hg
  generalize w.alloc (.cells #[.int .i64 0, .int .u32 0] 116) = W1 at *
  go_wp2_with fail
  refine (HI.out.1 _).mono ?_
  rintro e w1 ⟨rfl, h1⟩
  have h1 := h1.symm
  subst h1
  go_wp2_with fail
  refine (HI.out.2 _).mono ?_
  rintro e w1 ⟨rfl, h1⟩
  have h1 := h1.symm
  subst h1
  obtain ⟨TEN, hTEN⟩ : ∃ t, F32.int 10 = t := ⟨_, rfl⟩
  rw [hTEN]
  have HTEN := hide hTEN
  clear hTEN
  go_wp2_with fail
  go_loopw [3, 8] (fun t3 t8 wr => ∃ k : Nat, t8 = .int .i64 (k : Int) ∧ t3 = .int .u32 ((F32.pow k : Nat) : Int) ∧ Hid (k ≤ p ∧ Below g w wr ∧ wr.heap[g]? = some (.cells #[.int .i64 0, .int .u32 0] 116 (0, 0)))) (fun _ t8 _ => p - (intOf t8).toNat)
  case atStart => exact ⟨0, rfl, rfl, Nat.zero_le _, HA.out.1, HA.out.2⟩
  case round =>
    obtain ⟨k, rfl, rfl, hI⟩ := hrel
    by_cases hlt : k < p
    · have HE : Hid (mul32F (F32.pow k) TEN = F32.pow (k + 1)) := by rw [← HTEN.out]; rfl
      obtain ⟨P, hP⟩ : ∃ P, F32.pow k = P := ⟨_, rfl⟩
      have hPl : P < 4294967296 := by rw [← hP]; exact F32_pow_lt k
      have hTl : TEN < 4294967296 := by rw [← HTEN.out]; exact F32_int_lt 10
      rw [hP] at HE ⊢
      clear hP
      go_wp2_with fail
      refine (HM.out P TEN wr hPl hTl).mono ?_
      rintro e w2 ⟨rfl, B2⟩
      rw [HE.out]
      have HB2 : Hid (Below g w w2 ∧ w2.heap[g]? = some (.cells #[.int .i64 0, .int .u32 0] 116 (0, 0))) := by
        have h1 := size_lt_of_row hI.out.2.2
        exact ⟨hI.out.2.1.trans (B2.mono (by omega)), by rw [B2.block g h1]; exact hI.out.2.2⟩
      clear B2
      go_wp2_with fail
      go_roundw
      case rel => exact ⟨k + 1, by simp, rfl, hlt, HB2.out.1, HB2.out.2⟩
      case measure => simp [intOf]; omega
    · have hk : k = p := by have := hI.out.1; omega
      subst hk
      have c0 : wr.cell? ⟨g, 0, none⟩ = some (.int .i64 0) := cell_of_row _ _ 0 _ _ _ hI.out.2.2
      have c1 : wr.cell? ⟨g, 1, none⟩ = some (.int .u32 0) := cell_of_row _ _ 1 _ _ _ hI.out.2.2
      have f0 : wr.frozen? ⟨g, 0, none⟩ = false := frozen_of_row _ _ _ _ _ hI.out.2.2
      have f1 : wr.frozen? ⟨g, 1, none⟩ = false := frozen_of_row _ _ _ _ _ hI.out.2.2
      obtain ⟨P, hP⟩ : ∃ P, F32.pow k = P := ⟨_, rfl⟩
      rw [hP]
      have HP := hide hP
      clear hP
      go_wp2_with fail
      obtain ⟨fs, hu⟩ := is_struct (show Tryz.prog.underlying 116 = Tryz.prog.underlying 116 from rfl) (by kernel_rfl)
      have hrow : ((wr.setCell ⟨g, 0, none⟩ (.int .i64 (k : Int))).setCell ⟨g, 1, none⟩ (.int .u32 (P : Int))).heap[g]? = some (.cells #[.int .i64 (k : Int), .int .u32 (P : Int)] 116 (0, 0)) := by
        have h1 := heap_setCell_same wr g 0 _ _ (.int .i64 (k : Int)) hI.out.2.2
        have h2 := heap_setCell_same _ g 1 _ _ (.int .u32 (P : Int)) h1
        exact h2
      refine bodyPost_ret (results_cell_row rfl _ _ g _ _ (0, 0) (.struct fs) rfl hrow hu rfl (by kernel_rfl)) rfl ?_
      refine ⟨by rw [scV32, HP.out], ?_⟩
      have h1 := hI.out.2.1
      rw [HG.out]
      exact (h1.setCell (p := ⟨g, 0, none⟩) (Nat.le_refl _) _).setCell (p := ⟨g, 1, none⟩) (Nat.le_refl _) _

theorem valueOf32_any (p : Nat) (k : Int) (w : World) : Calls Tryz.prog 83 #[scV32 p, .int .i64 k] w fun e w' => e = .returned (.int .u32 (F32.val p k : Nat)) ∧ Below w.heap.size w w' := by
  have HD := hide (fun (w : World) => Div32_anyC (F32.int k) (F32.pow p) w (F32_int_lt k) (F32_pow_lt p))
  have HF := hide (fun (w : World) => floatOf32_any k w)
  have ev : div32F (F32.int k) (F32.pow p) = F32.val p k := rfl
  rw [ev] at HD
  clear ev
  unfold scV32
  generalize F32.val p k = out at *
  generalize F32.int k = I at *
  generalize F32.pow p = P at *
  obtain ⟨g, hg⟩ : ∃ g, w.heap.size = g := ⟨_, rfl⟩
  obtain ⟨W1, hW1⟩ : ∃ W1, W1 = w.alloc (.cells #[.int .i64 (p : Int), .int .u32 (P : Int)] 116) := ⟨_, rfl⟩
  have hB1 : Below g w W1 := by rw [hW1, ← hg]; exact (Below.refl _ w).alloc (Nat.le_refl _) _
  have hr1 : W1.heap[g]? = some (.cells #[.int .i64 (p : Int), .int .u32 (P : Int)] 116 (0, 0)) := by rw [hW1, ← hg]; exact heap_alloc_new w _
  have c0 : W1.drew.cell? ⟨g, 1, none⟩ = some (.int .u32 (P : Int)) := cell_of_row W1.drew g 1 _ _ _ hr1
  have HB : Hid (Below g w W1.drew) := ⟨hB1.os, hB1.tape, hB1.output, hB1.size, hB1.block⟩
  have HGG := hide hg
  have HS : Hid (g ≤ W1.drew.heap.size) := by have := size_lt_of_row hr1; exact Nat.le_of_lt this
  clear hB1 hr1
  go_enter Tryz.func83, Tryz.ntmps83
  go_wp2_with fail
  (try rw [hg])
  (try rw [← hW1])
  clear hW1 hg
  go_region_held3 (fun w' => w'.cell? ⟨g, 1, none⟩ = some (.int .u32 (P : Int))) (exact c0)
    (first | (go_at_call 119; go_must (refine (HF.out _).mono ?_); rintro _ w5 ⟨rfl, hw5⟩; have hw5 := hw5.symm; subst hw5) | (go_at_call 121; go_must (refine (HD.out _).mono ?_); rintro _ w6 ⟨rfl, B6⟩; have HB6 : Hid (Below g w w6) := (HB.out.trans (B6.mono HS.out)); have c0 : w6.cell? ⟨g, 1, none⟩ = some (.int .u32 (P : Int)) := (by rw [B6.cell (p := ⟨g, 1, none⟩) (block_lt_of_cell c0)]; exact c0); clear B6))
  all_goals
    go_wp2_with fail
    go_ret
    exact ⟨rfl, by rw [HGG.out]; exact HB6.out⟩

end Go.Proofs.YtgjjkopmoobilaaGreatDoor

/- The contracts of code's wholeOf, nothings, bestScale (32 bits). -/
namespace Go.Proofs.YtgjjkopmoobilaaGreatDoor
open Go.RowKit
open M
set_option linter.unusedVariables false
set_option linter.unusedSimpArgs false

/-- The cells of a scale that lies somewhere. -/
structure Sc32 (w : World) (g p : Nat) : Prop where
  row : w.heap[g]? = some (.cells #[.int .i64 (p : Int), .int .u32 (F32.pow p : Int)] 116 (0, 0))

theorem Sc32.c0 {w : World} {g p : Nat} (h : Sc32 w g p) : w.cell? ⟨g, 0, none⟩ = some (.int .i64 (p : Int)) := cell_of_row _ _ 0 _ _ _ h.row
theorem Sc32.c1 {w : World} {g p : Nat} (h : Sc32 w g p) : w.cell? ⟨g, 1, none⟩ = some (.int .u32 (F32.pow p : Int)) := cell_of_row _ _ 1 _ _ _ h.row
theorem Sc32.lt {w : World} {g p : Nat} (h : Sc32 w g p) : g < w.heap.size := size_lt_of_row h.row
theorem Sc32.below {w w' : World} {g p B : Nat} (h : Sc32 w g p) (hB : Below B w w') (hg : g < B) : Sc32 w' g p := ⟨by rw [hB.block g hg]; exact h.row⟩

set_option maxRecDepth 100000 in
theorem wholeOf32_any (p v : Nat) (w : World) (hv : v < 4294967296) : Calls Tryz.prog 137 #[scV32 p, .int .u32 v] w fun e w' => e = .returned (nwV (F32.wh p v)) ∧ Below w.heap.size w w' := by
  have HMU := hide (fun (w : World) => Mul32_anyC v (F32.pow p) w hv (F32_pow_lt p))
  have HNW := hide (fun (w : World) => nearestWhole32_any (F32.mul v (F32.pow p)) w (F32_mul_lt _ _))
  have HVO := hide (fun (k : Int) (w : World) => valueOf32_any p k w)
  have em : mul32F v (F32.pow p) = F32.mul v (F32.pow p) := rfl
  rw [em] at HMU
  have hwh : F32.wh p v = match near32 (F32.mul v (F32.pow p)) with | none => none | some k => if k < -999999 ∨ 999999 < k ∨ F32.val p k ≠ v then none else some k := rfl
  have hrg := fun k (h : near32 (F32.mul v (F32.pow p)) = some k) => near32_range h
  obtain ⟨g, hg⟩ : ∃ g, w.heap.size = g := ⟨_, rfl⟩
  obtain ⟨W1, hW1⟩ : ∃ W1, W1 = w.alloc (.cells #[.int .i64 (p : Int), .int .u32 (F32.pow p : Int)] 116) := ⟨_, rfl⟩
  have HW1 : Hid (Below g w W1 ∧ W1.heap[g]? = some (.cells #[.int .i64 (p : Int), .int .u32 (F32.pow p : Int)] 116 (0, 0))) := by
    rw [hW1, ← hg]; exact ⟨(Below.refl _ w).alloc (Nat.le_refl _) _, heap_alloc_new w _⟩
  have HG := hide hg
  clear em
  obtain ⟨o, ho⟩ : ∃ o, near32 (F32.mul v (F32.pow p)) = o := ⟨_, rfl⟩
  rw [ho] at hwh hrg HNW
  obtain ⟨out, hout⟩ : ∃ out, F32.wh p v = out := ⟨_, rfl⟩
  rw [hout] at hwh ⊢
  have HWH := hide hwh
  clear hwh ho hout
  have n1 : IntKind.i64.wrap (-999999) = -999999 := by rw [IntKind.wrap_i64]; omega
  have c1 : W1.cell? ⟨g, 1, none⟩ = some (.int .u32 (F32.pow p : Int)) := (Sc32.mk HW1.out.2).c1
  unfold scV32 at *
  generalize F32.pow p = P at *
  generalize F32.mul v P = m at *
  have HC : Hid (∀ w', Below (g + 1) W1 w' → w'.cell? ⟨g, 0, none⟩ = some (.int .i64 (p : Int)) ∧ w'.cell? ⟨g, 1, none⟩ = some (.int .u32 (P : Int))) := fun w' hB => by
    have h := HW1.out.2
    exact ⟨cell_of_row _ _ 0 _ _ _ ((hB.block g (by omega)).trans h), cell_of_row _ _ 1 _ _ _ ((hB.block g (by omega)).trans h)⟩
  go_enter Tryz.func137, Tryz.ntmps137
  go_upto_region 1 with fail
  (try rw [hg])
  (try rw [← hW1])
  clear hW1 hg
  go_wp2_with fail
  refine (HMU.out _).mono ?_
  rintro e w2 ⟨rfl, B2⟩
  have HB2 := hide B2
  clear B2
  go_wp2_with fail
  refine (HNW.out _).mono ?_
  rintro e w3 ⟨rfl, B3⟩
  have HB3 : Hid (Below (g + 1) W1 w3 ∧ Below g w w3 ∧ g + 1 ≤ w3.heap.size) := by
    have h0 : g < W1.heap.size := size_lt_of_row HW1.out.2
    have h1 := HB2.out.size
    have h2 := B3.size
    have h3 : Below (g + 1) W1 w3 := (HB2.out.mono (by omega)).trans (B3.mono (by omega))
    exact ⟨h3, HW1.out.1.trans (h3.mono (by omega)), by omega⟩
  clear B3 HB2
  cases o with
  | none =>
    simp only [nwV]
    go_wp2_with fail
    refine (mostWhole32_any _).mono ?_
    rintro e w4 ⟨rfl, h4⟩
    have h4 := h4.symm
    subst h4
    have HE : Hid (out = none) := HWH.out
    go_wp2_with fail
    go_ret2
    exact ⟨by rw [HE.out]; rfl, by rw [HG.out]; exact HB3.out.2.1⟩
  | some k =>
    simp only [nwV]
    obtain ⟨k1, k2⟩ := hrg k rfl
    clear hrg
    go_wp2_with fail
    refine (mostWhole32_any _).mono ?_
    rintro e w4 ⟨rfl, h4⟩
    have h4 := h4.symm
    subst h4
    by_cases h5 : k < -999999
    · have HE : Hid (out = none) := HWH.out.trans (if_pos (.inl h5))
      go_wp2_with fail
      go_ret2
      exact ⟨by rw [HE.out]; rfl, by rw [HG.out]; exact HB3.out.2.1⟩
    · by_cases h6 : 999999 < k
      · have HE : Hid (out = none) := HWH.out.trans (if_pos (.inr (.inl h6)))
        go_wp2_with fail
        go_ret2
        exact ⟨by rw [HE.out]; rfl, by rw [HG.out]; exact HB3.out.2.1⟩
      · obtain ⟨x, hx⟩ : ∃ x, F32.val p k = x := ⟨_, rfl⟩
        have HX := hide hx
        obtain ⟨d0, d1⟩ := HC.out w3 HB3.out.1
        have HV := hide (HVO.out k w3)
        rw [hx] at HV
        by_cases h7 : x = v
        · have HE : Hid (out = some k) := HWH.out.trans (if_neg (fun h => h.elim h5 (fun h => h.elim h6 (fun h => h (hx.trans h7)))))
          have q7 : ((x : Int) != (v : Int)) = false := by rw [h7]; simp
          clear hx h7
          go_wp2_with fail
          refine HV.out.mono ?_
          rintro e w5 ⟨rfl, B5⟩
          have HB5 : Hid (Below g w w5) := HB3.out.2.1.trans (B5.mono (by have := HB3.out.2.2; omega))
          clear B5
          go_wp2_with fail
          go_ret2
          exact ⟨by rw [HE.out]; rfl, by rw [HG.out]; exact HB5.out⟩
        · have HE : Hid (out = none) := HWH.out.trans (if_pos (.inr (.inr (by rw [hx]; exact h7))))
          have q7 : ((x : Int) != (v : Int)) = true := by rw [bne_iff_ne]; omega
          clear hx h7
          go_wp2_with fail
          refine HV.out.mono ?_
          rintro e w5 ⟨rfl, B5⟩
          have HB5 : Hid (Below g w w5) := HB3.out.2.1.trans (B5.mono (by have := HB3.out.2.2; omega))
          clear B5
          go_wp2_with fail
          go_ret2
          exact ⟨by rw [HE.out]; rfl, by rw [HG.out]; exact HB5.out⟩

set_option maxRecDepth 100000 in
theorem nothings32_any (p : Nat) (q : Option Addr) (n cap : Nat) (f : Nat → Nat) (w : World) (h : URow32 w q n f) (hn : n ≤ 4096) (hcap : n ≤ cap) (hf : ∀ i, i < n → f i < 4294967296) :
    Calls Tryz.prog 135 #[scV32 p, .slice q n cap] w fun e w' => e = .returned (.int .i64 (F32.cnt p f 0 n : Nat)) ∧ Below w.heap.size w w' := by
  have H := hide h
  have HF := hide hf
  have HWO := hide (fun (v : Nat) (w : World) (hv : v < 4294967296) => wholeOf32_any p v w hv)
  obtain ⟨g, hg⟩ : ∃ g, w.heap.size = g := ⟨_, rfl⟩
  obtain ⟨W1, hW1⟩ : ∃ W1, W1 = w.alloc (.cells #[.int .i64 (p : Int), .int .u32 (F32.pow p : Int)] 116) := ⟨_, rfl⟩
  have HW1 : Hid (Below g w W1 ∧ W1.heap[g]? = some (.cells #[.int .i64 (p : Int), .int .u32 (F32.pow p : Int)] 116 (0, 0))) := by
    rw [hW1, ← hg]; exact ⟨(Below.refl _ w).alloc (Nat.le_refl _) _, heap_alloc_new w _⟩
  have HG := hide hg
  clear h hf
  unfold scV32 at *
  go_enter Tryz.func135, Tryz.ntmps135
  go_upto_region 1 with fail
  (try rw [hg])
  (try rw [← hW1])
  clear hW1 hg
  go_wp2_with fail
  go_loopw [5, 12] (fun t5 t12 wr => ∃ (k c : Nat), t12 = .int .i64 (k : Int) ∧ t5 = .int .i64 (c : Int) ∧ Hid (k ≤ n ∧ c = F32.cnt p f 0 k ∧ Below (g + 1) W1 wr)) (fun _ t12 _ => n - (intOf t12).toNat)
  case atStart => exact ⟨0, 0, rfl, rfl, Nat.zero_le _, rfl, Below.refl _ _⟩
  case round =>
    obtain ⟨k, c, rfl, rfl, hI⟩ := hrel
    by_cases hlt : k < n
    · obtain ⟨b, o, rfl, hc⟩ := H.out (by omega)
      obtain ⟨x, hx⟩ : ∃ x, f k = x := ⟨_, rfl⟩
      have hxM : x < 4294967296 := by rw [← hx]; exact HF.out k hlt
      have hS : Sc32 wr g p := Sc32.below ⟨HW1.out.2⟩ hI.out.2.2 (by omega)
      have hbg : b < g := by rw [← HG.out]; exact block_lt_of_cell (hc k hlt)
      have c1 : wr.cell? ⟨b, o + k, none⟩ = some (.int .u32 (x : Int)) := by
        rw [hI.out.2.2.cell (p := ⟨b, o + k, none⟩) (show b < g + 1 by omega), HW1.out.1.cell (p := ⟨b, o + k, none⟩) hbg, ← hx]; exact hc k hlt
      have d0 := hS.c0
      have d1 := hS.c1
      have hcl : c ≤ k := by rw [hI.out.2.1]; exact F32.cnt_le p f 0 k
      have HWX := hide (HWO.out x wr hxM)
      have HS2 : Hid (g + 1 ≤ wr.heap.size) := hS.lt
      have HCE : Hid (F32.cnt p f 0 (k + 1) = c + (if (F32.wh p x).isSome then 0 else 1)) := by
        show _ = _
        rw [F32.cnt_end, Nat.zero_add, hx, hI.out.2.1]
      generalize F32.pow p = P at *
      generalize F32.wh p x = oo at *
      clear hx hc hS
      go_wp2_with fail
      refine HWX.out.mono ?_
      rintro e w2 ⟨rfl, B2⟩
      have HB2 : Hid (Below (g + 1) W1 w2) := hI.out.2.2.trans (B2.mono HS2.out)
      clear B2
      cases oo with
      | none =>
        simp only [nwV]
        go_wp2_with fail
        go_roundw
        case rel => exact ⟨k + 1, c + 1, by simp, by simp, hlt, by rw [HCE.out]; rfl, HB2.out⟩
        case measure => simp [intOf]; omega
      | some z =>
        simp only [nwV]
        go_wp2_with fail
        go_roundw
        case rel => exact ⟨k + 1, c, by simp, by simp, hlt, by rw [HCE.out]; rfl, HB2.out⟩
        case measure => simp [intOf]; omega
    · have hk : k = n := by have := hI.out.1; omega
      subst hk
      go_wp2_with fail
      go_ret
      exact ⟨by rw [hI.out.2.1]; rfl, by rw [HG.out]; exact HW1.out.1.trans (hI.out.2.2.mono (by omega))⟩

end Go.Proofs.YtgjjkopmoobilaaGreatDoor

namespace Go.Proofs.YtgjjkopmoobilaaGreatDoor
open Go.RowKit
open M
set_option linter.unusedVariables false
set_option linter.unusedSimpArgs false

/-- A scale is stored where one lay. -/
theorem scale_set32 {w : World} {g p : Nat} {x y : Value} (h : w.heap[g]? = some (.cells #[x, y] 116 (0, 0))) : Sc32 ((w.setCell ⟨g, 0, none⟩ (.int .i64 (p : Int))).setCell ⟨g, 1, none⟩ (.int .u32 (F32.pow p : Int))) g p := by
  have h1 := heap_setCell_same w g 0 _ _ (.int .i64 (p : Int)) h
  have h2 := heap_setCell_same _ g 1 _ _ (.int .u32 (F32.pow p : Int)) h1
  exact ⟨h2⟩

/-- One scale is stored anew: all else below stays. -/
theorem below_two32 {B g : Nat} {w0 w : World} (h : Below B w0 w) (hg : B ≤ g) (x y : Value) : Below B w0 ((w.setCell ⟨g, 0, none⟩ x).setCell ⟨g, 1, none⟩ y) :=
  (h.setCell (p := ⟨g, 0, none⟩) hg _).setCell (p := ⟨g, 1, none⟩) hg _

set_option maxRecDepth 100000 in
set_option maxHeartbeats 1000000 in
theorem bestScale32_any (q : Option Addr) (n cap : Nat) (f : Nat → Nat) (w : World) (h : URow32 w q n f) (hn : n ≤ 4096) (hcap : n ≤ cap) (hf : ∀ i, i < n → f i < 4294967296) :
    Calls Tryz.prog 101 #[.slice q n cap] w fun e w' => e = .returned (scV32 (F32.bs f n 10).1) ∧ Below w.heap.size w w' := by
  have HNO := hide (fun (p : Nat) (w1 : World) (hB : Below w.heap.size w w1) => nothings32_any p q n cap f w1 (h.below hB) hn hcap hf)
  have HSA := hide (fun (p : Nat) (w : World) (hp : p ≤ 1000) => scaleAt32_any p w hp)
  clear h hf
  obtain ⟨g, hg⟩ : ∃ g, w.heap.size = g := ⟨_, rfl⟩
  have HA : Hid (Below g w (w.alloc (.cells #[.int .i64 0, .int .u32 0] 116)) ∧ (w.alloc (.cells #[.int .i64 0, .int .u32 0] 116)).heap[g]? = some (.cells #[.int .i64 0, .int .u32 0] 116 (0, 0))) := by
    rw [← hg]; exact ⟨(Below.refl _ w).alloc (Nat.le_refl _) _, heap_alloc_new w _⟩
  have HG := hide hg
  rw [hg] at HNO
  unfold scV32 at *
  go_enter Tryz.func101, Tryz.ntmps101
  go_upto_region 1 with fail
  (try rw [hg])
  clear hg
  generalize w.alloc (.cells #[.int .i64 0, .int .u32 0] 116) = W1 at *
  go_wp2_with fail
  refine (HSA.out 0 W1 (by omega)).mono ?_
  rintro e w2 ⟨rfl, B2⟩
  obtain ⟨g3, hg3⟩ : ∃ g3, w2.heap.size = g3 := ⟨_, rfl⟩
  have hW : g < g3 := by have := size_lt_of_row HA.out.2; have := B2.size; omega
  obtain ⟨W3, hW3⟩ : ∃ W3, W3 = w2.alloc (.cells #[.int .i64 0, .int .u32 (F32.pow 0 : Int)] 116) := ⟨_, rfl⟩
  have H3 : Hid (Sc32 W3 g3 0 ∧ Below g w W3 ∧ W3.heap[g]? = some (.cells #[.int .i64 0, .int .u32 0] 116 (0, 0))) := by
    have hA : Below g3 w2 W3 := by rw [hW3, ← hg3]; exact (Below.refl _ w2).alloc (Nat.le_refl _) _
    have hl := size_lt_of_row HA.out.2
    refine ⟨⟨by rw [hW3, ← hg3]; exact heap_alloc_new w2 _⟩, (HA.out.1.trans (B2.mono (by omega))).trans (hA.mono (by omega)), ?_⟩
    rw [hA.block g hW, B2.block g hl]; exact HA.out.2
  clear B2
  go_upto_region 2 with fail
  (try rw [← hW3])
  clear hW3 hg3
  have c0 : W3.cell? ⟨g3, 0, none⟩ = some (.int .i64 0) := H3.out.1.c0
  have c1 := H3.out.1.c1
  go_wp2_with fail
  refine (HNO.out 0 W3 H3.out.2.1).mono ?_
  rintro e w4 ⟨rfl, B4⟩
  have H4 : Hid (Sc32 w4 g3 0 ∧ Below g w w4 ∧ w4.heap[g]? = some (.cells #[.int .i64 0, .int .u32 0] 116 (0, 0))) := by
    have h1 := H3.out.1.lt
    exact ⟨H3.out.1.below B4 h1, H3.out.2.1.trans (B4.mono (by omega)), by rw [B4.block g (by omega)]; exact H3.out.2.2⟩
  clear B4 c0 c1
  go_wp2_with fail
  go_loopw [4, 5] (fun t4 t5 wr => ∃ (r d : Nat), t5 = .int .i64 ((r : Int) + 1) ∧ t4 = .int .i64 (d : Int) ∧ Hid (r ≤ 10 ∧ d = (F32.bs f n r).2 ∧ Sc32 wr g3 (F32.bs f n r).1 ∧ Below g w wr ∧ wr.heap[g]? = some (.cells #[.int .i64 0, .int .u32 0] 116 (0, 0)))) (fun _ t5 _ => 10 + 1 - (intOf t5).toNat)
  case atStart => exact ⟨0, _, rfl, rfl, Nat.zero_le _, rfl, H4.out.1, H4.out.2.1, H4.out.2.2⟩
  case round =>
    obtain ⟨r, d, rfl, rfl, hI⟩ := hrel
    by_cases hstop : r = 10 ∨ d = 0
    · have HE : Hid (Sc32 wr g3 (F32.bs f n 10).1) := by
        have h3 := hI.out.2.2.1
        rcases hstop with h | h
        · rw [h] at h3; exact h3
        · rw [F32.bs_stop f n r 10 hI.out.1 (by rw [← hI.out.2.1]; exact h)]; exact h3
      have hb := hI.out.2.2.2.2
      have c0 := HE.out.c0
      have c1 := HE.out.c1
      have d0 : wr.cell? ⟨g, 0, none⟩ = some (.int .i64 0) := cell_of_row _ _ 0 _ _ _ hb
      have d1 : wr.cell? ⟨g, 1, none⟩ = some (.int .u32 0) := cell_of_row _ _ 1 _ _ _ hb
      have f0 : wr.frozen? ⟨g, 0, none⟩ = false := frozen_of_row _ _ _ _ _ hb
      have f1 : wr.frozen? ⟨g, 1, none⟩ = false := frozen_of_row _ _ _ _ _ hb
      have HR : Hid (r ≤ 10 ∧ (r = 10 ∨ d = 0)) := ⟨hI.out.1, hstop⟩
      have HB := hide hI.out.2.2.2
      clear hb hI hstop
      obtain ⟨bp, hbp⟩ : ∃ bp, (F32.bs f n 10).1 = bp := ⟨_, rfl⟩
      rw [hbp] at c0 c1 HE
      have HBP := hide hbp
      clear hbp
      obtain ⟨P, hP⟩ : ∃ P, F32.pow bp = P := ⟨_, rfl⟩
      rw [hP] at c1
      have HP := hide hP
      clear hP
      obtain ⟨fs, hu⟩ := is_struct (show Tryz.prog.underlying 116 = Tryz.prog.underlying 116 from rfl) (by kernel_rfl)
      have HU := hide hu
      have HROW : Hid (((wr.setCell ⟨g, 0, none⟩ (.int .i64 (bp : Int))).setCell ⟨g, 1, none⟩ (.int .u32 (P : Int))).heap[g]? = some (.cells #[.int .i64 (bp : Int), .int .u32 (P : Int)] 116 (0, 0))) := by
        have h1 := heap_setCell_same wr g 0 _ _ (.int .i64 (bp : Int)) HB.out.2
        exact heap_setCell_same _ g 1 _ _ (.int .u32 (P : Int)) h1
      clear hu
      by_cases h22 : r = 10
      · subst h22
        go_wp2_with fail
        refine (mostPoint32_any _).mono ?_
        rintro e w5 ⟨rfl, h5⟩
        have h5 := h5.symm
        subst h5
        go_wp2_with fail
        refine bodyPost_ret (results_cell_row rfl _ _ g _ _ (0, 0) (.struct fs) rfl HROW.out HU.out rfl (by kernel_rfl)) rfl ?_
        refine ⟨by rw [HBP.out, HP.out], ?_⟩
        rw [HG.out]
        exact below_two32 HB.out.1 (Nat.le_refl _) _ _
      · have hr22 : r + 1 ≤ 10 := by have := HR.out.1; omega
        have hd0 : d = 0 := by rcases HR.out.2 with h | h; exact absurd h h22; exact h
        subst hd0
        have hle : (r : Int) + 1 ≤ 10 := by omega
        go_wp2_with fail
        refine (mostPoint32_any _).mono ?_
        rintro e w5 ⟨rfl, h5⟩
        have h5 := h5.symm
        subst h5
        go_wp2_with fail
        refine bodyPost_ret (results_cell_row rfl _ _ g _ _ (0, 0) (.struct fs) rfl HROW.out HU.out rfl (by kernel_rfl)) rfl ?_
        refine ⟨by rw [HBP.out, HP.out], ?_⟩
        rw [HG.out]
        exact below_two32 HB.out.1 (Nat.le_refl _) _ _
    · have hr22 : r + 1 ≤ 10 := by have := hI.out.1; omega
      have hd0 : 0 < d := by omega
      have hle : (r : Int) + 1 ≤ 10 := by omega
      have hdp : (d : Int) > 0 := by omega
      have HB := hide hI.out.2.2.2
      have HS := hide hI.out.2.2.1
      have HD := hide hI.out.2.1
      have HST := hide hstop
      clear hI hstop
      have HSC := hide (HSA.out (r + 1) wr (by omega))
      rw [show (((r + 1 : Nat)) : Int) = (r : Int) + 1 from by simp] at HSC
      go_wp2_with fail
      refine (mostPoint32_any _).mono ?_
      rintro e w5 ⟨rfl, h5⟩
      have h5 := h5.symm
      subst h5
      go_wp2_with fail
      refine HSC.out.mono ?_
      rintro e w6 ⟨rfl, B6⟩
      obtain ⟨P, hP⟩ : ∃ P, F32.pow (r + 1) = P := ⟨_, rfl⟩
      rw [hP]
      have HP := hide hP
      clear hP
      obtain ⟨g6, hg6⟩ : ∃ g6, w6.heap.size = g6 := ⟨_, rfl⟩
      obtain ⟨W7, hW7⟩ : ∃ W7, W7 = w6.alloc (.cells #[.int .i64 ((r : Int) + 1), .int .u32 (P : Int)] 116) := ⟨_, rfl⟩
      have H7 : Hid (W7.heap[g6]? = some (.cells #[.int .i64 ((r : Int) + 1), .int .u32 (P : Int)] 116 (0, 0)) ∧ Sc32 W7 g3 (F32.bs f n r).1 ∧ Below g w W7 ∧ W7.heap[g]? = some (.cells #[.int .i64 0, .int .u32 0] 116 (0, 0)) ∧ g3 < g6) := by
        have hA : Below g6 w6 W7 := by rw [hW7, ← hg6]; exact (Below.refl _ w6).alloc (Nat.le_refl _) _
        have hl := HS.out.lt
        have hs6 := B6.size
        have hBB : Below wr.heap.size wr W7 := B6.trans (hA.mono (by omega))
        exact ⟨by rw [hW7, ← hg6]; exact heap_alloc_new w6 _, HS.out.below hBB hl, HB.out.1.trans (hBB.mono (by omega)), by rw [hBB.block g (by omega)]; exact HB.out.2, by omega⟩
      clear B6
      go_upto_region 7 with fail
      (try rw [← hW7])
      clear hW7 hg6
      have c0 : W7.cell? ⟨g6, 0, none⟩ = some (.int .i64 ((r : Int) + 1)) := cell_of_row _ _ 0 _ _ _ H7.out.1
      have c1 : W7.cell? ⟨g6, 1, none⟩ = some (.int .u32 (P : Int)) := cell_of_row _ _ 1 _ _ _ H7.out.1
      have HN := hide (HNO.out (r + 1) W7 H7.out.2.2.1)
      rw [HP.out, show (((r + 1 : Nat)) : Int) = (r : Int) + 1 from by simp] at HN
      go_wp2_with fail
      refine HN.out.mono ?_
      rintro e w8 ⟨rfl, B8⟩
      obtain ⟨c, hc⟩ : ∃ c, F32.cnt (r + 1) f 0 n = c := ⟨_, rfl⟩
      rw [hc]
      have H8 : Hid (w8.heap[g6]? = some (.cells #[.int .i64 ((r : Int) + 1), .int .u32 (P : Int)] 116 (0, 0)) ∧ Sc32 w8 g3 (F32.bs f n r).1 ∧ Below g w w8 ∧ w8.heap[g]? = some (.cells #[.int .i64 0, .int .u32 0] 116 (0, 0))) := by
        have h6 := size_lt_of_row H7.out.1
        exact ⟨by rw [B8.block g6 h6]; exact H7.out.1, H7.out.2.1.below B8 H7.out.2.1.lt, H7.out.2.2.1.trans (B8.mono (by have := H7.out.2.1.lt; omega)), by rw [B8.block g (by have := H7.out.2.1.lt; omega)]; exact H7.out.2.2.2.1⟩
      clear B8 c0 c1
      by_cases hcd : c < d
      · have HE : Hid (F32.bs f n (r + 1) = (r + 1, c)) := by
          show _ = _
          rw [Dm.bs, if_neg (by rw [← HD.out]; omega), hc, if_pos (by rw [← HD.out]; exact hcd)]
        have e0 : w8.cell? ⟨g6, 0, none⟩ = some (.int .i64 ((r : Int) + 1)) := cell_of_row _ _ 0 _ _ _ H8.out.1
        have e1 : w8.cell? ⟨g6, 1, none⟩ = some (.int .u32 (P : Int)) := cell_of_row _ _ 1 _ _ _ H8.out.1
        have c0 := H8.out.2.1.c0
        have c1 := H8.out.2.1.c1
        have f0 : w8.frozen? ⟨g3, 0, none⟩ = false := frozen_of_row _ _ _ _ _ H8.out.2.1.row
        have f1 : w8.frozen? ⟨g3, 1, none⟩ = false := frozen_of_row _ _ _ _ _ H8.out.2.1.row
        have HX : Hid (Sc32 ((w8.setCell ⟨g3, 0, none⟩ (.int .i64 ((r : Int) + 1))).setCell ⟨g3, 1, none⟩ (.int .u32 (P : Int))) g3 (r + 1) ∧ Below g w ((w8.setCell ⟨g3, 0, none⟩ (.int .i64 ((r : Int) + 1))).setCell ⟨g3, 1, none⟩ (.int .u32 (P : Int))) ∧ ((w8.setCell ⟨g3, 0, none⟩ (.int .i64 ((r : Int) + 1))).setCell ⟨g3, 1, none⟩ (.int .u32 (P : Int))).heap[g]? = some (.cells #[.int .i64 0, .int .u32 0] 116 (0, 0))) := by
          refine ⟨?_, below_two32 H8.out.2.2.1 (by omega) _ _, ?_⟩
          · have := scale_set32 (p := r + 1) H8.out.2.1.row
            rw [HP.out] at this
            exact this
          · rw [Below.heap_setCell _ _ _ _ (show g ≠ g3 by omega), Below.heap_setCell _ _ _ _ (show g ≠ g3 by omega)]; exact H8.out.2.2.2
        clear hc
        go_wp2_with fail
        go_roundw
        case rel => exact ⟨r + 1, c, by simp, by simp, hr22, by rw [HE.out], by rw [HE.out]; exact HX.out.1, HX.out.2.1, HX.out.2.2⟩
        case measure => simp [intOf]; omega
      · have HE : Hid (F32.bs f n (r + 1) = F32.bs f n r) := by
          show _ = _
          rw [Dm.bs, if_neg (by rw [← HD.out]; omega), hc, if_neg (by rw [← HD.out]; exact hcd)]
        clear hc
        go_wp2_with fail
        go_roundw
        case rel => exact ⟨r + 1, d, by simp, by simp, hr22, by rw [HE.out]; exact HD.out, by rw [HE.out]; exact H8.out.2.1, H8.out.2.2.1, H8.out.2.2.2⟩
        case measure => simp [intOf]; omega

end Go.Proofs.YtgjjkopmoobilaaGreatDoor

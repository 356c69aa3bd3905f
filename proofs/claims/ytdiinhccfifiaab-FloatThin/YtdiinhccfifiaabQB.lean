/- Add, Sub, Mul, Div, Root: of 32 bits. -/
import Derived.Test.YtdiinhccfifiaabQA
import Derived.Test.YtdiinhccfifiaabFV
import Derived.Test.YtdiinhccfifiaabPK
import Derived.Test.YtdiinhccfifiaabPJ
namespace Go.Proofs.Ytdiinhccfifiaab
open Go.RowKit
open Flt
set_option linter.unusedVariables false
set_option linter.unusedSimpArgs false

theorem cut_convB (b t : Nat) : IsNan64 (Question.cut (.nanConv .f64 b) t) := cut_nan 0 0 t
theorem run_conv_nanB (b : Nat) (h : 2139095040 < b % 2147483648) (w : World) : ∃ nb, IsNan64 nb ∧ (convert 92 61 (.float .f32 b)).run Try.prog w = .ok (.float .f64 nb) w.drew := by
  refine ⟨Question.cut (.nanConv .f64 b) (w.tape w.drawn (.nanConv .f64 b)), cut_convB _ _, ?_⟩
  have hd : FloatKind.f32.decode b = .nan (sg Ieee.single b) (rg Ieee.single b - Ieee.single.infRung) := read_nan Ieee.single b (by decide) (by rw [rg32, inf32]; exact h)
  have hs : Try.prog.underlying 92 = some (.float .f32) := by kernel_rfl
  have ht : Try.prog.underlying 61 = some (.float .f64) := by kernel_rfl
  simp [convert, run_underlying hs, run_underlying ht, Conv.floatToFloat, hd, Question.forced]
set_option maxRecDepth 100000 in
theorem value32_nanB (b : Nat) (w : World) (h : 2139095040 < b % 2147483648) : Calls Try.prog 44 #[.int .u32 b] w fun e w' => ∃ x, IsNan64 x ∧ e = .returned (.float .f64 x) ∧ w' = w.drew := by
  have hf := frombits32 b
  obtain ⟨nb, hnb, hcv⟩ := run_conv_nanB b h w
  have HN := fhide hnb
  clear hnb h
  go_enter Try.func44, Try.ntmps44
  go_wp2_with fail
  refine (wide32_any _).mono ?_
  rintro e w1 ⟨rfl, rfl⟩
  go_wp2_with (simp only [hf, hcv])
  go_ret
  exact ⟨nb, HN.out, rfl, rfl⟩
/-- The float64 that a binary32 is reckoned as. -/
def Val32 (a x : Nat) : Prop := x < 18446744073709551616 ∧ (2139095040 < a % 2147483648 → 9218868437227405312 < x % 9223372036854775808) ∧ (a % 2147483648 ≤ 2139095040 → x = wid a)
theorem value32_wid (a : Nat) (w : World) (ha : a < 4294967296) : Calls Try.prog 44 #[.int .u32 a] w fun e w' => ∃ x, Val32 a x ∧ e = .returned (.float .f64 x) ∧ Below w.heap.size w w' := by
  by_cases h : 2139095040 < a % 2147483648
  · refine (value32_nanB a w h).mono ?_
    rintro e w' ⟨x, hx, rfl, rfl⟩
    exact ⟨x, ⟨hx.2, fun _ => hx.1, fun h' => by omega⟩, rfl, (Below.refl _ _).drew⟩
  · obtain ⟨x, x1, x2, x3, x4, x5, x6, x7⟩ := f2f_wide a ha (by omega)
    refine (value32_num a x w x1).mono ?_
    rintro e w' ⟨rfl, rfl⟩
    exact ⟨x, ⟨x2, fun h' => absurd h' h, fun _ => (wid_of a x ha (by omega) x5 x6 x7).symm⟩, rfl, Below.refl _ _⟩

theorem thin_none : thin none = 2143289344 := rfl
theorem pat32_thin {o : Option Nat} {r : Nat} (h : o = some r) (hr : r % 9223372036854775808 ≤ 9218868437227405312) : pat32 r = thin o := by rw [h, pat32_num r hr]; rfl
theorem sub_nan2 (f : Ieee.Format) (he : 1 ≤ f.exponentBits) (a b : Nat) (h : f.infRung < rg f a ∨ f.infRung < rg f b) : f.sub a b = none := by
  have hi := infRung_ge f he
  unfold Ieee.Format.sub
  rcases h with h | h
  · rw [read_nan f a hi h]; rfl
  · rw [read_nan f b hi h]; cases f.read a <;> rfl
theorem val_add (a b x y : Nat) (ha : a < 4294967296) (hb : b < 4294967296) (hx : Val32 a x) (hy : Val32 b y) : thin (Ieee.double.add x y) = tldW32 (Ieee.single.add a b) := by
  by_cases na : 2139095040 < a % 2147483648
  · have e1 : Ieee.double.add x y = none := add_nan2 _ (by decide) x y (.inl (by rw [rg64, inf64]; exact hx.2.1 na))
    have e2 : Ieee.single.add a b = none := add_nan2 _ (by decide) a b (.inl (by rw [rgW32, infW32]; exact na))
    rw [e1, e2]; rfl
  · by_cases nb : 2139095040 < b % 2147483648
    · have e1 : Ieee.double.add x y = none := add_nan2 _ (by decide) x y (.inr (by rw [rg64, inf64]; exact hy.2.1 nb))
      have e2 : Ieee.single.add a b = none := add_nan2 _ (by decide) a b (.inr (by rw [rgW32, infW32]; exact nb))
      rw [e1, e2]; rfl
    · rw [hx.2.2 (by omega), hy.2.2 (by omega)]
      exact thin_add a b ha hb (by omega) (by omega)
theorem val_sub (a b x y : Nat) (ha : a < 4294967296) (hb : b < 4294967296) (hx : Val32 a x) (hy : Val32 b y) : thin (Ieee.double.sub x y) = tldW32 (Ieee.single.sub a b) := by
  by_cases na : 2139095040 < a % 2147483648
  · have e1 : Ieee.double.sub x y = none := sub_nan2 _ (by decide) x y (.inl (by rw [rg64, inf64]; exact hx.2.1 na))
    have e2 : Ieee.single.sub a b = none := sub_nan2 _ (by decide) a b (.inl (by rw [rgW32, infW32]; exact na))
    rw [e1, e2]; rfl
  · by_cases nb : 2139095040 < b % 2147483648
    · have e1 : Ieee.double.sub x y = none := sub_nan2 _ (by decide) x y (.inr (by rw [rg64, inf64]; exact hy.2.1 nb))
      have e2 : Ieee.single.sub a b = none := sub_nan2 _ (by decide) a b (.inr (by rw [rgW32, infW32]; exact nb))
      rw [e1, e2]; rfl
    · rw [hx.2.2 (by omega), hy.2.2 (by omega)]
      exact thin_sub a b ha hb (by omega) (by omega)
theorem val_mul (a b x y : Nat) (ha : a < 4294967296) (hb : b < 4294967296) (hx : Val32 a x) (hy : Val32 b y) : thin (Ieee.double.mul x y) = tldW32 (Ieee.single.mul a b) := by
  by_cases na : 2139095040 < a % 2147483648
  · have e1 : Ieee.double.mul x y = none := mul_nan2 _ (by decide) x y (.inl (by rw [rg64, inf64]; exact hx.2.1 na))
    have e2 : Ieee.single.mul a b = none := mul_nan2 _ (by decide) a b (.inl (by rw [rgW32, infW32]; exact na))
    rw [e1, e2]; rfl
  · by_cases nb : 2139095040 < b % 2147483648
    · have e1 : Ieee.double.mul x y = none := mul_nan2 _ (by decide) x y (.inr (by rw [rg64, inf64]; exact hy.2.1 nb))
      have e2 : Ieee.single.mul a b = none := mul_nan2 _ (by decide) a b (.inr (by rw [rgW32, infW32]; exact nb))
      rw [e1, e2]; rfl
    · rw [hx.2.2 (by omega), hy.2.2 (by omega)]
      exact thin_mul a b ha hb (by omega) (by omega)
theorem val_div (a b x y : Nat) (ha : a < 4294967296) (hb : b < 4294967296) (hx : Val32 a x) (hy : Val32 b y) : thin (Ieee.double.div x y) = tldW32 (Ieee.single.div a b) := by
  by_cases na : 2139095040 < a % 2147483648
  · have e1 : Ieee.double.div x y = none := div_nan2 _ (by decide) x y (.inl (by rw [rg64, inf64]; exact hx.2.1 na))
    have e2 : Ieee.single.div a b = none := div_nan2 _ (by decide) a b (.inl (by rw [rgW32, infW32]; exact na))
    rw [e1, e2]; rfl
  · by_cases nb : 2139095040 < b % 2147483648
    · have e1 : Ieee.double.div x y = none := div_nan2 _ (by decide) x y (.inr (by rw [rg64, inf64]; exact hy.2.1 nb))
      have e2 : Ieee.single.div a b = none := div_nan2 _ (by decide) a b (.inr (by rw [rgW32, infW32]; exact nb))
      rw [e1, e2]; rfl
    · rw [hx.2.2 (by omega), hy.2.2 (by omega)]
      exact thin_div a b ha hb (by omega) (by omega)
theorem val_sqrt (a x : Nat) (ha : a < 4294967296) (hx : Val32 a x) : thin (Ieee.double.sqrt x) = tldW32 (Ieee.single.sqrt a) := by
  by_cases na : 2139095040 < a % 2147483648
  · have e1 : Ieee.double.sqrt x = none := sqrt_nan2 _ (by decide) x (by rw [rg64, inf64]; exact hx.2.1 na)
    have e2 : Ieee.single.sqrt a = none := sqrt_nan2 _ (by decide) a (by rw [rgW32, infW32]; exact na)
    rw [e1, e2]; rfl
  · rw [hx.2.2 (by omega)]
    exact thin_sqrt a ha (by omega)

set_option maxRecDepth 100000 in
set_option maxHeartbeats 1000000 in
theorem Add32_any (a b : Nat) (w : World) (ha : a < 4294967296) (hb : b < 4294967296) : Calls Try.prog 8 #[.int .u32 a, .int .u32 b] w fun e w' => e = .returned (.int .u32 (tldW32 (Ieee.single.add a b) : Nat)) ∧ Below w.heap.size w w' := by
  have HV := fhide (And.intro (fun w => value32_wid a w ha) (fun w => value32_wid b w hb))
  have HE := fhide (fun x y hx hy => val_add a b x y ha hb hx hy)
  clear ha hb
  generalize tldW32 (Ieee.single.add a b) = out at *
  go_enter Try.func8, Try.ntmps8
  go_wp2_with fail
  refine (HV.out.1 _).mono ?_
  rintro e w1 ⟨x, hx, rfl, hb1⟩
  have H1 := fhide (And.intro hx hb1)
  clear hx hb1
  go_wp2_with fail
  refine (HV.out.2 _).mono ?_
  rintro e w2 ⟨y, hy, rfl, hb2⟩
  have HT := fhide (HE.out x y H1.out.1 hy)
  have H2 := fhide (H1.out.2.trans (hb2.mono H1.out.2.size))
  clear hy hb2 H1
  have hs : floatBits .add .f64 x y = Ieee.double.add x y := rfl
  cases ho : Ieee.double.add x y with
  | none =>
    rw [ho] at hs HT
    obtain ⟨nb, hnb, hadd⟩ := run_nan .add (by simp) 61 x y hs w2
    go_wp2_with (simp only [hadd])
    refine (pattern32_any nb _ hnb.2).mono ?_
    rintro e w3 ⟨rfl, hb3⟩
    rw [pat32_nan nb hnb.1]
    have H3 := fhide (H2.out.drew.trans (hb3.mono H2.out.size))
    clear hb3
    go_wp2_with fail
    go_ret
    exact ⟨by rw [← HT.out]; rfl, H3.out⟩
  | some r =>
    rw [ho] at hs HT
    obtain ⟨hr1, hr2⟩ := fb_num hs
    have hadd := fun w : World => run_float_arith (P := Try.prog) w .add 61 .f64 x y r hs
    have HP := fhide (fun w : World => pattern32_any r w hr2)
    rw [pat32_thin rfl hr1, HT.out] at HP
    clear hr1 hr2 hs ho
    go_wp2_with (simp only [hadd])
    refine (HP.out _).mono ?_
    rintro e w3 ⟨rfl, hb3⟩
    go_wp2_with fail
    go_ret
    exact ⟨rfl, H2.out.trans (hb3.mono H2.out.size)⟩

set_option maxRecDepth 100000 in
set_option maxHeartbeats 1000000 in
theorem Sub32_any (a b : Nat) (w : World) (ha : a < 4294967296) (hb : b < 4294967296) : Calls Try.prog 10 #[.int .u32 a, .int .u32 b] w fun e w' => e = .returned (.int .u32 (tldW32 (Ieee.single.sub a b) : Nat)) ∧ Below w.heap.size w w' := by
  have HV := fhide (And.intro (fun w => value32_wid a w ha) (fun w => value32_wid b w hb))
  have HE := fhide (fun x y hx hy => val_sub a b x y ha hb hx hy)
  clear ha hb
  generalize tldW32 (Ieee.single.sub a b) = out at *
  go_enter Try.func10, Try.ntmps10
  go_wp2_with fail
  refine (HV.out.1 _).mono ?_
  rintro e w1 ⟨x, hx, rfl, hb1⟩
  have H1 := fhide (And.intro hx hb1)
  clear hx hb1
  go_wp2_with fail
  refine (HV.out.2 _).mono ?_
  rintro e w2 ⟨y, hy, rfl, hb2⟩
  have HT := fhide (HE.out x y H1.out.1 hy)
  have H2 := fhide (H1.out.2.trans (hb2.mono H1.out.2.size))
  clear hy hb2 H1
  have hs : floatBits .sub .f64 x y = Ieee.double.sub x y := rfl
  cases ho : Ieee.double.sub x y with
  | none =>
    rw [ho] at hs HT
    obtain ⟨nb, hnb, hadd⟩ := run_nan .sub (by simp) 61 x y hs w2
    go_wp2_with (simp only [hadd])
    refine (pattern32_any nb _ hnb.2).mono ?_
    rintro e w3 ⟨rfl, hb3⟩
    rw [pat32_nan nb hnb.1]
    have H3 := fhide (H2.out.drew.trans (hb3.mono H2.out.size))
    clear hb3
    go_wp2_with fail
    go_ret
    exact ⟨by rw [← HT.out]; rfl, H3.out⟩
  | some r =>
    rw [ho] at hs HT
    obtain ⟨hr1, hr2⟩ := fb_num hs
    have hadd := fun w : World => run_float_arith (P := Try.prog) w .sub 61 .f64 x y r hs
    have HP := fhide (fun w : World => pattern32_any r w hr2)
    rw [pat32_thin rfl hr1, HT.out] at HP
    clear hr1 hr2 hs ho
    go_wp2_with (simp only [hadd])
    refine (HP.out _).mono ?_
    rintro e w3 ⟨rfl, hb3⟩
    go_wp2_with fail
    go_ret
    exact ⟨rfl, H2.out.trans (hb3.mono H2.out.size)⟩

set_option maxRecDepth 100000 in
set_option maxHeartbeats 1000000 in
theorem Mul32_any (a b : Nat) (w : World) (ha : a < 4294967296) (hb : b < 4294967296) : Calls Try.prog 12 #[.int .u32 a, .int .u32 b] w fun e w' => e = .returned (.int .u32 (tldW32 (Ieee.single.mul a b) : Nat)) ∧ Below w.heap.size w w' := by
  have HV := fhide (And.intro (fun w => value32_wid a w ha) (fun w => value32_wid b w hb))
  have HE := fhide (fun x y hx hy => val_mul a b x y ha hb hx hy)
  clear ha hb
  generalize tldW32 (Ieee.single.mul a b) = out at *
  go_enter Try.func12, Try.ntmps12
  go_wp2_with fail
  refine (HV.out.1 _).mono ?_
  rintro e w1 ⟨x, hx, rfl, hb1⟩
  have H1 := fhide (And.intro hx hb1)
  clear hx hb1
  go_wp2_with fail
  refine (HV.out.2 _).mono ?_
  rintro e w2 ⟨y, hy, rfl, hb2⟩
  have HT := fhide (HE.out x y H1.out.1 hy)
  have H2 := fhide (H1.out.2.trans (hb2.mono H1.out.2.size))
  clear hy hb2 H1
  have hs : floatBits .mul .f64 x y = Ieee.double.mul x y := rfl
  cases ho : Ieee.double.mul x y with
  | none =>
    rw [ho] at hs HT
    obtain ⟨nb, hnb, hadd⟩ := run_nan .mul (by simp) 61 x y hs w2
    go_wp2_with (simp only [hadd])
    refine (pattern32_any nb _ hnb.2).mono ?_
    rintro e w3 ⟨rfl, hb3⟩
    rw [pat32_nan nb hnb.1]
    have H3 := fhide (H2.out.drew.trans (hb3.mono H2.out.size))
    clear hb3
    go_wp2_with fail
    go_ret
    exact ⟨by rw [← HT.out]; rfl, H3.out⟩
  | some r =>
    rw [ho] at hs HT
    obtain ⟨hr1, hr2⟩ := fb_num hs
    have hadd := fun w : World => run_float_arith (P := Try.prog) w .mul 61 .f64 x y r hs
    have HP := fhide (fun w : World => pattern32_any r w hr2)
    rw [pat32_thin rfl hr1, HT.out] at HP
    clear hr1 hr2 hs ho
    go_wp2_with (simp only [hadd])
    refine (HP.out _).mono ?_
    rintro e w3 ⟨rfl, hb3⟩
    go_wp2_with fail
    go_ret
    exact ⟨rfl, H2.out.trans (hb3.mono H2.out.size)⟩

theorem div_nought32 (x y : Nat) (hx : x < 18446744073709551616) (hy : y < 18446744073709551616) (h0 : y % 9223372036854775808 = 0) : pat32 (byN x (decide (9223372036854775808 ≤ y))) = thin (Ieee.double.div x y) := by
  have hn : pat32 9221120237041090561 = 2143289344 := by unfold pat32; rw [if_pos (by omega)]
  unfold byN
  have fy : rg Ieee.double y < Ieee.double.infRung := by rw [rg64, inf64, h0]; omega
  have zy : rg Ieee.double y = 0 := by rw [rg64]; exact h0
  have key : ∀ s t : Bool, pat32 (if s = t then 9218868437227405312 else 18442240474082181120) = thin (some (Ieee.double.word (s ^^ t) Ieee.double.infRung)) := by
    intro s t
    have hp : ∀ q : Bool, pat32 (Ieee.double.word q Ieee.double.infRung) = nar32 (Ieee.double.word q Ieee.double.infRung) := fun q => by
      refine pat32_num _ ?_
      have := rg_word Ieee.double q _ Ieee.double.infRung_lt
      rw [rg64, inf64] at this
      rw [inf64, this]; omega
    show _ = nar32 _
    rw [← hp]
    cases s <;> cases t <;> (refine congrArg _ ?_; decide +kernel)
  rcases Nat.lt_trichotomy (x % 9223372036854775808) 9218868437227405312 with h | h | h
  · have fx : rg Ieee.double x < Ieee.double.infRung := by rw [rg64, inf64]; exact h
    rw [div_fin_zero _ x y fx fy zy, sg64 x hx, sg64 y hy, rg64]
    by_cases hz : x % 9223372036854775808 = 0
    · rw [if_pos (.inr hz), if_pos hz, hn]; rfl
    · rw [if_neg (by omega), if_neg hz]
      exact key _ _
  · rw [div_inf_fin _ (by decide) x y (by rw [rg64, inf64]; exact h) fy, sg64 x hx, sg64 y hy, if_neg (by omega)]
    exact key _ _
  · rw [div_nan2 _ (by decide) x y (.inl (by rw [rg64, inf64]; exact h)), if_pos (.inl h), hn]; rfl

set_option maxRecDepth 100000 in
set_option maxHeartbeats 1000000 in
theorem Div32_any (a b : Nat) (w : World) (ha : a < 4294967296) (hb : b < 4294967296) : Calls Try.prog 14 #[.int .u32 a, .int .u32 b] w fun e w' => e = .returned (.int .u32 (tldW32 (Ieee.single.div a b) : Nat)) ∧ Below w.heap.size w w' := by
  have HV := fhide (And.intro (fun w => value32_wid a w ha) (fun w => value32_wid b w hb))
  have HE := fhide (fun x y hx hy => val_div a b x y ha hb hx hy)
  clear ha hb
  generalize tldW32 (Ieee.single.div a b) = out at *
  go_enter Try.func14, Try.ntmps14
  go_wp2_with fail
  refine (HV.out.1 _).mono ?_
  rintro e w1 ⟨x, hx, rfl, hb1⟩
  have H1 := fhide (And.intro hx hb1)
  clear hx hb1
  go_wp2_with fail
  refine (HV.out.2 _).mono ?_
  rintro e w2 ⟨y, hy, rfl, hb2⟩
  have HT := fhide (HE.out x y H1.out.1 hy)
  have HB := fhide (And.intro H1.out.1.1 hy.1)
  have H2 := fhide (H1.out.2.trans (hb2.mono H1.out.2.size))
  clear hy hb2 H1
  have hz : FloatKind.f64.format.order y 0 = _ := order_nought y
  by_cases h0 : y % 9223372036854775808 = 0
  · rw [if_neg (by omega), if_pos h0] at hz
    have hd := div_nought32 x y HB.out.1 HB.out.2 h0
    rw [HT.out] at hd
    have HS := fhide (fun w : World => Signbit_any y w HB.out.2)
    have hbl : byN x (decide (9223372036854775808 ≤ y)) < 18446744073709551616 := by unfold byN; split; omega; split <;> omega
    have HBy := fhide (fun w : World => byNought_any x (decide (9223372036854775808 ≤ y)) w HB.out.1)
    have HP := fhide (fun w : World => pattern32_any _ w hbl)
    rw [hd] at HP
    generalize decide (9223372036854775808 ≤ y) = t at *
    generalize byN x t = z at *
    clear h0 hd hbl
    go_wp2_with (simp only [hz])
    refine (HS.out _).mono ?_
    rintro e w3 ⟨rfl, hw1⟩
    have hw1 := hw1.symm
    subst hw1
    go_wp2_with fail
    refine (HBy.out _).mono ?_
    rintro e w3 ⟨rfl, hw1⟩
    have hw1 := hw1.symm
    subst hw1
    go_wp2_with fail
    refine (HP.out _).mono ?_
    rintro e w3 ⟨rfl, hb3⟩
    go_wp2_with fail
    go_ret
    exact ⟨rfl, H2.out.trans (hb3.mono H2.out.size)⟩
  · rw [if_neg h0] at hz
    have hz' : FloatKind.f64.format.order y 0 = none ∨ FloatKind.f64.format.order y 0 = some .lt ∨ FloatKind.f64.format.order y 0 = some .gt := by
      rw [hz]; split
      · simp
      · cases sg Ieee.double y <;> simp
    clear hz h0
    have hs : floatBits .quo .f64 x y = Ieee.double.div x y := rfl
    cases ho : Ieee.double.div x y with
    | none =>
      rw [ho] at hs HT
      obtain ⟨nb, hnb, hadd⟩ := run_nan .quo (by simp) 61 x y hs w2
      rcases hz' with hz | hz | hz
      all_goals
        go_wp2_with (simp only [hadd, hz])
        refine (pattern32_any nb _ hnb.2).mono ?_
        rintro e w3 ⟨rfl, hb3⟩
        rw [pat32_nan nb hnb.1]
        have H3 := fhide (H2.out.drew.trans (hb3.mono H2.out.size))
        clear hb3
        go_wp2_with fail
        go_ret
        exact ⟨by rw [← HT.out]; rfl, H3.out⟩
    | some r =>
      rw [ho] at hs HT
      obtain ⟨hr1, hr2⟩ := fb_num hs
      have hadd := fun w : World => run_float_arith (P := Try.prog) w .quo 61 .f64 x y r hs
      have HP := fhide (fun w : World => pattern32_any r w hr2)
      rw [pat32_thin rfl hr1, HT.out] at HP
      clear hr1 hr2 hs ho
      rcases hz' with hz | hz | hz
      all_goals
        go_wp2_with (simp only [hadd, hz])
        refine (HP.out _).mono ?_
        rintro e w3 ⟨rfl, hb3⟩
        go_wp2_with fail
        go_ret
        exact ⟨rfl, H2.out.trans (hb3.mono H2.out.size)⟩

set_option maxRecDepth 100000 in
set_option maxHeartbeats 1000000 in
theorem Root32_any (a : Nat) (w : World) (ha : a < 4294967296) : Calls Try.prog 16 #[.int .u32 a] w fun e w' => e = .returned (.int .u32 (tldW32 (Ieee.single.sqrt a) : Nat)) ∧ Below w.heap.size w w' := by
  have HV := fhide (fun w => value32_wid a w ha)
  have HE := fhide (fun x hx => val_sqrt a x ha hx)
  clear ha
  generalize tldW32 (Ieee.single.sqrt a) = out at *
  go_enter Try.func16, Try.ntmps16
  go_wp2_with fail
  refine (HV.out _).mono ?_
  rintro e w2 ⟨x, hx, rfl, hb2⟩
  have HT := fhide (HE.out x hx)
  have H2 := fhide hb2
  clear hx hb2
  cases ho : Ieee.double.sqrt x with
  | none =>
    rw [ho] at HT
    obtain ⟨nb, hnb, hs⟩ := run_sqrt_no x w2 ho
    have HS : Hid (Calls Try.prog 59 #[.float .f64 x] w2 fun e w' => e = .returned (.float .f64 nb) ∧ w' = w2.drew) := by
      show Calls _ _ _ _ _
      go_enter Try.func59, Try.ntmps59
      go_wp2_with (simp only [hs])
      go_ret
      exact ⟨rfl, rfl⟩
    clear hs
    go_wp2_with fail
    refine HS.out.mono ?_
    rintro e w3 ⟨rfl, rfl⟩
    go_wp2_with fail
    refine (pattern32_any nb _ hnb.2).mono ?_
    rintro e w3 ⟨rfl, hb3⟩
    rw [pat32_nan nb hnb.1]
    have H3 := fhide (H2.out.drew.trans (hb3.mono H2.out.size))
    clear hb3
    go_wp2_with fail
    go_ret
    exact ⟨by rw [← HT.out]; rfl, H3.out⟩
  | some r =>
    rw [ho] at HT
    obtain ⟨hr1, hr2⟩ := sqrt_num ho
    have hs := fun w : World => run_sqrt_yes x r w ho
    have HS : Hid (Calls Try.prog 59 #[.float .f64 x] w2 fun e w' => e = .returned (.float .f64 r) ∧ w' = w2) := by
      show Calls _ _ _ _ _
      go_enter Try.func59, Try.ntmps59
      go_wp2_with (simp only [hs])
      go_ret
      exact ⟨rfl, rfl⟩
    have HP := fhide (fun w : World => pattern32_any r w hr2)
    rw [pat32_thin rfl hr1, HT.out] at HP
    clear hr1 hr2 hs ho
    go_wp2_with fail
    refine HS.out.mono ?_
    rintro e w3 ⟨rfl, hw1⟩
    have hw1 := hw1.symm
    subst hw1
    go_wp2_with fail
    refine (HP.out _).mono ?_
    rintro e w3 ⟨rfl, hb3⟩
    go_wp2_with fail
    go_ret
    exact ⟨rfl, H2.out.trans (hb3.mono H2.out.size)⟩
theorem map_lt32 {o : Option Ieee.Datum} {r : Nat} (h : o.map Ieee.single.write = some r) : r < 4294967296 := by
  cases o with
  | none => cases h
  | some d => cases h; exact Ieee.single.write_lt d
theorem single_lt_add {a b r : Nat} (h : Ieee.single.add a b = some r) : r < 4294967296 := map_lt32 h
theorem single_lt_sub {a b r : Nat} (h : Ieee.single.sub a b = some r) : r < 4294967296 := map_lt32 h
theorem single_lt_mul {a b r : Nat} (h : Ieee.single.mul a b = some r) : r < 4294967296 := map_lt32 h
theorem single_lt_div {a b r : Nat} (h : Ieee.single.div a b = some r) : r < 4294967296 := map_lt32 h
theorem single_lt_sqrt {a r : Nat} (h : Ieee.single.sqrt a = some r) : r < 4294967296 := map_lt32 h
theorem tld_lt (o : Option Nat) (h : ∀ r, o = some r → r < 4294967296) : tldW32 o < 4294967296 := by
  cases o with
  | none => show 2143289344 < 4294967296; omega
  | some r => exact h r rfl

set_option maxRecDepth 100000 in
set_option maxHeartbeats 8000000 in
theorem thin_any (a0 : Option Addr) (len0 cap0 : Nat) (w : World) (h : IsTwos w a0 len0) :
    Calls Try.prog 3 #[.slice a0 len0 cap0] w fun e w' => e = .returned (.bool true) ∧ Below w.heap.size w w' := by
  obtain ⟨hlen, hcell⟩ := h
  have HC := fhide hcell
  clear hcell
  go_enter Try.func3, Try.ntmps3
  go_wp2_with fail
  go_loopw [3] (fun t3 wr => ∃ i : Nat, i ≤ len0 ∧ i ≤ 2000 ∧ t3 = .int .i64 i ∧ Hid (Below w.heap.size w wr)) (fun t3 _ => 2000 - (intOf t3).toNat)
  case atStart => exact ⟨0, by omega, by omega, rfl, Below.refl _ _⟩
  case round =>
    obtain ⟨i, hi, hi20, rfl, HI⟩ := hrel
    by_cases hgo : i < len0 ∧ i < 2000
    · have g1 : (i : Int) < (len0 : Int) := by omega
      have g2 : (i : Int) < 2000 := by omega
      obtain ⟨g, o, rfl, hg, hj⟩ := HC.out (by omega)
      obtain ⟨A, B, hA, hB, cA, cB⟩ := hj i hgo.1
      have cA0 : wr.cell? ⟨g, o + i * 2, none⟩ = some (.int .u64 A) := by rw [HI.out.cell (p := ⟨g, o + i * 2, none⟩) hg]; exact cA
      have cB0 : wr.cell? ⟨g, o + i * 2 + 1, none⟩ = some (.int .u64 B) := by rw [HI.out.cell (p := ⟨g, o + i * 2 + 1, none⟩) hg]; exact cB
      have HA := fhide (And.intro hA hB)
      clear hj hgo cA cB hA hB
      obtain ⟨a, ha, hi1⟩ : ∃ a : Nat, A / 4294967296 = a ∧ (A : Int) / 4294967296 = (a : Int) := ⟨_, rfl, by omega⟩
      obtain ⟨b, hb, hi2⟩ : ∃ b : Nat, B / 4294967296 = b ∧ (B : Int) / 4294967296 = (b : Int) := ⟨_, rfl, by omega⟩
      have la : a < 4294967296 := by have := HA.out.1; omega
      have lb : b < 4294967296 := by have := HA.out.2; omega
      have lai : (a : Int) < 4294967296 := by omega
      have lbi : (b : Int) < 4294967296 := by omega
      obtain ⟨o0, ho0, l0⟩ : ∃ o0 : Nat, tldW32 (Ieee.single.add a b) = o0 ∧ Hid (o0 < 4294967296) := ⟨_, rfl, tld_lt _ (fun r h => single_lt_add h)⟩
      have HP0 := fhide (fun w : World => Add32_any a b w la lb)
      have HR0 := fhide (fun w : World => rAdd32 a b w la lb)
      rw [ho0] at HP0 HR0
      have li0 : (o0 : Int) < 4294967296 := by have := l0.out; omega
      obtain ⟨o1, ho1, l1⟩ : ∃ o1 : Nat, tldW32 (Ieee.single.sub a b) = o1 ∧ Hid (o1 < 4294967296) := ⟨_, rfl, tld_lt _ (fun r h => single_lt_sub h)⟩
      have HP1 := fhide (fun w : World => Sub32_any a b w la lb)
      have HR1 := fhide (fun w : World => rSub32 a b w la lb)
      rw [ho1] at HP1 HR1
      have li1 : (o1 : Int) < 4294967296 := by have := l1.out; omega
      obtain ⟨o2, ho2, l2⟩ : ∃ o2 : Nat, tldW32 (Ieee.single.mul a b) = o2 ∧ Hid (o2 < 4294967296) := ⟨_, rfl, tld_lt _ (fun r h => single_lt_mul h)⟩
      have HP2 := fhide (fun w : World => Mul32_any a b w la lb)
      have HR2 := fhide (fun w : World => rMul32 a b w la lb)
      rw [ho2] at HP2 HR2
      have li2 : (o2 : Int) < 4294967296 := by have := l2.out; omega
      obtain ⟨o3, ho3, l3⟩ : ∃ o3 : Nat, tldW32 (Ieee.single.div a b) = o3 ∧ Hid (o3 < 4294967296) := ⟨_, rfl, tld_lt _ (fun r h => single_lt_div h)⟩
      have HP3 := fhide (fun w : World => Div32_any a b w la lb)
      have HR3 := fhide (fun w : World => rDiv32 a b w la lb)
      rw [ho3] at HP3 HR3
      have li3 : (o3 : Int) < 4294967296 := by have := l3.out; omega
      obtain ⟨o4, ho4, l4⟩ : ∃ o4 : Nat, tldW32 (Ieee.single.sqrt a) = o4 ∧ Hid (o4 < 4294967296) := ⟨_, rfl, tld_lt _ (fun r h => single_lt_sqrt h)⟩
      have HP4 := fhide (fun w : World => Root32_any a w la)
      have HR4 := fhide (fun w : World => rRoot32 a w la)
      rw [ho4] at HP4 HR4
      have li4 : (o4 : Int) < 4294967296 := by have := l4.out; omega
      clear ho0 ho1 ho2 ho3 ho4 HA ha hb la lb
      go_wp2_with (simp only [hi1, hi2])
      refine (HP0.out _).mono ?_
      rintro e x1 ⟨rfl, hb1⟩
      have J1 := fhide (HI.out.trans (hb1.mono HI.out.size))
      clear hb1 HI
      go_wp2_with (simp only [hi1, hi2])
      refine (HR0.out _).mono ?_
      rintro e x2 ⟨rfl, hb2⟩
      have J2 := fhide (J1.out.trans (hb2.mono J1.out.size))
      clear hb2 J1
      go_wp2_with (simp only [hi1, hi2])
      refine (HP1.out _).mono ?_
      rintro e x3 ⟨rfl, hb3⟩
      have J3 := fhide (J2.out.trans (hb3.mono J2.out.size))
      clear hb3 J2
      go_wp2_with (simp only [hi1, hi2])
      refine (HR1.out _).mono ?_
      rintro e x4 ⟨rfl, hb4⟩
      have J4 := fhide (J3.out.trans (hb4.mono J3.out.size))
      clear hb4 J3
      go_wp2_with (simp only [hi1, hi2])
      refine (HP2.out _).mono ?_
      rintro e x5 ⟨rfl, hb5⟩
      have J5 := fhide (J4.out.trans (hb5.mono J4.out.size))
      clear hb5 J4
      go_wp2_with (simp only [hi1, hi2])
      refine (HR2.out _).mono ?_
      rintro e x6 ⟨rfl, hb6⟩
      have J6 := fhide (J5.out.trans (hb6.mono J5.out.size))
      clear hb6 J5
      go_wp2_with (simp only [hi1, hi2])
      refine (HP3.out _).mono ?_
      rintro e x7 ⟨rfl, hb7⟩
      have J7 := fhide (J6.out.trans (hb7.mono J6.out.size))
      clear hb7 J6
      go_wp2_with (simp only [hi1, hi2])
      refine (HR3.out _).mono ?_
      rintro e x8 ⟨rfl, hb8⟩
      have J8 := fhide (J7.out.trans (hb8.mono J7.out.size))
      clear hb8 J7
      go_wp2_with (simp only [hi1, hi2])
      refine (HP4.out _).mono ?_
      rintro e x9 ⟨rfl, hb9⟩
      have J9 := fhide (J8.out.trans (hb9.mono J8.out.size))
      clear hb9 J8
      go_wp2_with (simp only [hi1, hi2])
      refine (HR4.out _).mono ?_
      rintro e x10 ⟨rfl, hb10⟩
      have J10 := fhide (J9.out.trans (hb10.mono J9.out.size))
      clear hb10 J9
      go_wp2_with fail
      go_roundw
      case rel => exact ⟨i + 1, by omega, by omega, by go_num, J10⟩
      case measure => simp [intOf]; omega
    · by_cases hl : i < len0
      · have g1 : (i : Int) < (len0 : Int) := by omega
        have g2 : ¬ (i : Int) < 2000 := by omega
        go_wp2_with fail
        refine (wakes_any _).mono ?_
        rintro e v14 ⟨rfl, hb14⟩
        go_wp2_with fail
        go_ret
        exact ⟨rfl, HI.out.trans (hb14.mono HI.out.size)⟩
      · have g1 : ¬ (i : Int) < (len0 : Int) := by omega
        go_wp2_with fail
        refine (wakes_any _).mono ?_
        rintro e v14 ⟨rfl, hb14⟩
        go_wp2_with fail
        go_ret
        exact ⟨rfl, HI.out.trans (hb14.mono HI.out.size)⟩
end Go.Proofs.Ytdiinhccfifiaab

/- The contracts of code's scales (32 bits). -/
import Derived.Test.YtlemodcppokjhaaGreatDoorRD
import Derived.Test.YtlemodcppokjhaaGreatDoorQH
import Derived.Test.YtlemodcppokjhaaGreatDoorC3E64
/- Operations of infinities and NaNs; what is told of finite ones, by units. -/
namespace Go.Proofs.YtlemodcppokjhaaGreatDoor
namespace Flt
set_option linter.unusedVariables false
set_option linter.unusedSimpArgs false
open Ieee

section
variable (f : Format) (he : 1 ≤ f.exponentBits) (a b c : Nat)
include he

theorem add_nan2 (h : f.infRung < rg f a ∨ f.infRung < rg f b) : f.add a b = none := by
  have hi := infRung_ge f he
  unfold Format.add
  rcases h with h | h
  · rw [read_nan f a hi h]; rfl
  · rw [read_nan f b hi h]; cases f.read a <;> rfl
theorem add_inf_inf (ha : rg f a = f.infRung) (hb : rg f b = f.infRung) : f.add a b = if sg f a = sg f b then some (f.word (sg f a) f.infRung) else none := by
  have hi := infRung_ge f he
  unfold Format.add
  rw [read_inf f a hi ha, read_inf f b hi hb]
  simp only [Datum.sum]
  split <;> rfl
theorem add_inf_fin (ha : rg f a = f.infRung) (hb : rg f b < f.infRung) : f.add a b = some (f.word (sg f a) f.infRung) := by
  have hi := infRung_ge f he
  obtain ⟨n, l, e3, _⟩ := read_fin f b hb
  unfold Format.add
  rw [read_inf f a hi ha, e3]; rfl
theorem add_fin_inf (ha : rg f a < f.infRung) (hb : rg f b = f.infRung) : f.add a b = some (f.word (sg f b) f.infRung) := by
  rw [add_comm]; exact add_inf_fin f he b a hb ha

theorem mul_nan2 (h : f.infRung < rg f a ∨ f.infRung < rg f b) : f.mul a b = none := by
  have hi := infRung_ge f he
  unfold Format.mul
  rcases h with h | h
  · rw [read_nan f a hi h]; rfl
  · rw [read_nan f b hi h]; cases f.read a <;> rfl
omit he in
theorem fin_zero (ha : rg f a < f.infRung) : ∃ m k : Nat, f.read a = .number (sg f a) m (f.leastPlace + k) ∧ (m = 0 ↔ rg f a = 0) := by
  obtain ⟨m, k, e1, e2, _⟩ := read_fin f a ha
  refine ⟨m, k, e1, fun h => ?_, fun h => ?_⟩
  · rw [h, Nat.zero_mul] at e2
    exact V_inj (f := f) (by rw [← e2, V_zero])
  · rw [h, V_zero] at e2
    rcases Nat.mul_eq_zero.1 e2 with h | h
    · exact h
    · have := Nat.two_pow_pos k; omega
theorem mul_inf_fin (ha : rg f a = f.infRung) (hb : rg f b < f.infRung) : f.mul a b = if rg f b = 0 then none else some (f.word (sg f a ^^ sg f b) f.infRung) := by
  have hi := infRung_ge f he
  obtain ⟨n, l, e3, e4⟩ := fin_zero f b hb
  unfold Format.mul
  rw [read_inf f a hi ha, e3]
  simp only [Datum.product, e4]
  split <;> rfl
theorem mul_fin_inf (ha : rg f a < f.infRung) (hb : rg f b = f.infRung) : f.mul a b = if rg f a = 0 then none else some (f.word (sg f a ^^ sg f b) f.infRung) := by
  rw [mul_comm, Bool.xor_comm]; exact mul_inf_fin f he b a hb ha
theorem mul_inf_inf (ha : rg f a = f.infRung) (hb : rg f b = f.infRung) : f.mul a b = some (f.word (sg f a ^^ sg f b) f.infRung) := by
  have hi := infRung_ge f he
  unfold Format.mul
  rw [read_inf f a hi ha, read_inf f b hi hb]; rfl

theorem div_nan2 (h : f.infRung < rg f a ∨ f.infRung < rg f b) : f.div a b = none := by
  have hi := infRung_ge f he
  unfold Format.div
  rcases h with h | h
  · rw [read_nan f a hi h]; rfl
  · rw [read_nan f b hi h]; cases f.read a <;> rfl
theorem div_inf_inf (ha : rg f a = f.infRung) (hb : rg f b = f.infRung) : f.div a b = none := by
  have hi := infRung_ge f he
  unfold Format.div
  rw [read_inf f a hi ha, read_inf f b hi hb]; rfl
theorem div_inf_fin (ha : rg f a = f.infRung) (hb : rg f b < f.infRung) : f.div a b = some (f.word (sg f a ^^ sg f b) f.infRung) := by
  have hi := infRung_ge f he
  obtain ⟨n, l, e3, e4⟩ := fin_zero f b hb
  unfold Format.div
  rw [read_inf f a hi ha, e3]; rfl
theorem div_fin_inf (ha : rg f a < f.infRung) (hb : rg f b = f.infRung) : f.div a b = some (f.word (sg f a ^^ sg f b) 0) := by
  have hi := infRung_ge f he
  obtain ⟨n, l, e3, e4⟩ := fin_zero f a ha
  unfold Format.div
  rw [read_inf f b hi hb, e3]
  simp only [Datum.quotient, Option.map_some, Format.write]
  unfold Format.nearest
  rw [if_pos rfl]
omit he in
theorem div_fin_zero (ha : rg f a < f.infRung) (hb : rg f b < f.infRung) (hb0 : rg f b = 0) : f.div a b = if rg f a = 0 then none else some (f.word (sg f a ^^ sg f b) f.infRung) := by
  obtain ⟨m, k, e1, e2⟩ := fin_zero f a ha
  obtain ⟨n, l, e3, e4⟩ := fin_zero f b hb
  unfold Format.div
  rw [e1, e3]
  simp only [Datum.quotient, if_pos (e4.2 hb0), e2]
  split <;> rfl

theorem fma_nan2 (h : f.infRung < rg f a ∨ f.infRung < rg f b ∨ f.infRung < rg f c) : f.fma a b c = none := by
  have hi := infRung_ge f he
  unfold Format.fma
  rcases h with h | h | h
  · rw [read_nan f a hi h]; rfl
  · rw [read_nan f b hi h]; cases f.read a <;> rfl
  · rw [read_nan f c hi h]
    cases (f.read a).product (f.read b) with
    | none => rfl
    | some d => cases d <;> rfl
omit he in
theorem fma_none (h : f.mul a b = none) : f.fma a b c = none := by
  unfold Format.fma
  unfold Format.mul at h
  cases hp : (f.read a).product (f.read b) with
  | none => rfl
  | some d => rw [hp] at h; cases h
/-- Where the product is an infinity. -/
theorem fma_inf (hm : ∃ s, (f.read a).product (f.read b) = some (.infinity s) ∧ s = (sg f a ^^ sg f b)) : f.fma a b c = f.add (f.word (sg f a ^^ sg f b) f.infRung) c := by
  have hi := infRung_ge f he
  obtain ⟨s, h1, h2⟩ := hm
  have hr : f.read (f.word s f.infRung) = .infinity s := by
    rw [read_inf f _ hi (rg_word f _ _ f.infRung_lt), sg_word f _ _ f.infRung_lt]
  unfold Format.fma Format.add
  rw [h1, ← h2, hr]; rfl
theorem prod_inf (h : (rg f a = f.infRung ∧ rg f b < f.infRung ∧ rg f b ≠ 0) ∨ (rg f b = f.infRung ∧ rg f a < f.infRung ∧ rg f a ≠ 0) ∨ (rg f a = f.infRung ∧ rg f b = f.infRung)) : ∃ s, (f.read a).product (f.read b) = some (.infinity s) ∧ s = (sg f a ^^ sg f b) := by
  have hi := infRung_ge f he
  rcases h with ⟨h1, h2, h3⟩ | ⟨h1, h2, h3⟩ | ⟨h1, h2⟩
  · obtain ⟨n, l, e3, e4⟩ := fin_zero f b h2
    rw [read_inf f a hi h1, e3]
    simp only [Datum.product, if_neg (fun e => h3 (e4.1 e))]
    exact ⟨_, rfl, rfl⟩
  · obtain ⟨n, l, e3, e4⟩ := fin_zero f a h2
    rw [read_inf f b hi h1, e3]
    simp only [Datum.product, if_neg (fun e => h3 (e4.1 e))]
    exact ⟨_, rfl, Bool.xor_comm ..⟩
  · rw [read_inf f a hi h1, read_inf f b hi h2]
    exact ⟨_, rfl, rfl⟩
theorem fma_fin_inf (ha : rg f a < f.infRung) (hb : rg f b < f.infRung) (hc : rg f c = f.infRung) : f.fma a b c = some (f.word (sg f c) f.infRung) := by
  have hi := infRung_ge f he
  obtain ⟨m, k, e1, e2⟩ := fin_zero f a ha
  obtain ⟨n, l, e3, e4⟩ := fin_zero f b hb
  unfold Format.fma
  rw [e1, e3, read_inf f c hi hc]; rfl

theorem sqrt_nan2 (h : f.infRung < rg f a) : f.sqrt a = none := by
  have hi := infRung_ge f he
  unfold Format.sqrt
  rw [read_nan f a hi h]; rfl
theorem sqrt_inf (h : rg f a = f.infRung) : f.sqrt a = if sg f a then none else some (f.word false f.infRung) := by
  have hi := infRung_ge f he
  unfold Format.sqrt
  rw [read_inf f a hi h]
  simp only [Datum.root]
  cases sg f a <;> rfl
omit he in
theorem sqrt_zero (h : rg f a = 0) (hf : 0 < f.infRung) : f.sqrt a = some (f.word (sg f a) 0) := by
  obtain ⟨m, k, e1, e2⟩ := fin_zero f a (by omega)
  unfold Format.sqrt
  rw [e1]
  simp only [Datum.root, if_pos (e2.2 h), Option.map_some, Format.write]
  unfold Format.nearest
  rw [if_pos (e2.2 h)]
omit he in
theorem sqrt_neg (h : rg f a < f.infRung) (h0 : rg f a ≠ 0) (hs : sg f a = true) : f.sqrt a = none := by
  obtain ⟨m, k, e1, e2⟩ := fin_zero f a h
  unfold Format.sqrt
  rw [e1]
  simp only [Datum.root, if_neg (fun e => h0 (e2.1 e)), hs, if_true]
  rfl
end
end Flt
end Go.Proofs.YtlemodcppokjhaaGreatDoor

/- Mul and Div of binary32s, as functions of their bits. -/
namespace Go.Proofs.YtlemodcppokjhaaGreatDoor
open Go.RowKit
open Flt
set_option linter.unusedVariables false
set_option linter.unusedSimpArgs false

theorem cut_convBC (b t : Nat) : IsNan64 (Question.cut (.nanConv .f64 b) t) := cut_nan 0 0 t
theorem run_conv_nanBC (b : Nat) (h : 2139095040 < b % 2147483648) (w : World) : ∃ nb, IsNan64 nb ∧ (convert 52 51 (.float .f32 b)).run Tryz.prog w = .ok (.float .f64 nb) w.drew := by
  refine ⟨Question.cut (.nanConv .f64 b) (w.tape w.drawn (.nanConv .f64 b)), cut_convBC _ _, ?_⟩
  have hd : FloatKind.f32.decode b = .nan (sg Ieee.single b) (rg Ieee.single b - Ieee.single.infRung) := read_nan Ieee.single b (by decide) (by rw [rg32, inf32]; exact h)
  have hs : Tryz.prog.underlying 52 = some (.float .f32) := by kernel_rfl
  have ht : Tryz.prog.underlying 51 = some (.float .f64) := by kernel_rfl
  simp [convert, run_underlying hs, run_underlying ht, Conv.floatToFloat, hd, Question.forced]
set_option maxRecDepth 100000 in
theorem value32_nanBC (b : Nat) (w : World) (h : 2139095040 < b % 2147483648) : Calls Tryz.prog 159 #[.int .u32 b] w fun e w' => ∃ x, IsNan64 x ∧ e = .returned (.float .f64 x) ∧ w' = w.drew := by
  have hf := frombits32 b
  obtain ⟨nb, hnb, hcv⟩ := run_conv_nanBC b h w
  have HN := fhide hnb
  clear hnb h
  go_enter Tryz.func159, Tryz.ntmps159
  go_wp2_with fail
  refine (wide32_any _).mono ?_
  rintro e w1 ⟨rfl, rfl⟩
  go_wp2_with (simp only [hf, hcv])
  go_ret
  exact ⟨nb, HN.out, rfl, rfl⟩
/-- The float64 that a binary32 is reckoned as. -/
def widC (a : Nat) : Nat := if 2139095040 < a % 2147483648 then 9221120237041090560 else (floatToFloatBits .f32 a .f64).getD 0
def Val32C (a x : Nat) : Prop := x < 18446744073709551616 ∧ (2139095040 < a % 2147483648 → 9218868437227405312 < x % 9223372036854775808) ∧ (a % 2147483648 ≤ 2139095040 → x = widC a)
theorem value32_widC (a : Nat) (w : World) (ha : a < 4294967296) : Calls Tryz.prog 159 #[.int .u32 a] w fun e w' => ∃ x, Val32C a x ∧ e = .returned (.float .f64 x) ∧ Below w.heap.size w w' := by
  by_cases h : 2139095040 < a % 2147483648
  · refine (value32_nanBC a w h).mono ?_
    rintro e w' ⟨x, hx, rfl, rfl⟩
    exact ⟨x, ⟨hx.2, fun _ => hx.1, fun h' => by omega⟩, rfl, (Below.refl _ _).drew⟩
  · obtain ⟨x, x1, x2, x3, x4, x5, x6, x7⟩ := f2f_wide a ha (by omega)
    refine (value32_num a x w x1).mono ?_
    rintro e w' ⟨rfl, rfl⟩
    exact ⟨x, ⟨x2, fun h' => absurd h' h, fun _ => by unfold widC; rw [if_neg h, x1]; rfl⟩, rfl, Below.refl _ _⟩

def thinC : Option Nat → Nat
  | some r => nar32 r
  | none => 2143289344
theorem pat32_thinC {o : Option Nat} {r : Nat} (h : o = some r) (hr : r % 9223372036854775808 ≤ 9218868437227405312) : pat32 r = thinC o := by rw [h, pat32_num r hr]; rfl
/-- Products and quotients of binary32s. -/
def mul32F (a b : Nat) : Nat := thinC (Ieee.double.mul (widC a) (widC b))
def div32F (a b : Nat) : Nat := thinC (Ieee.double.div (widC a) (widC b))
theorem widC_nan {a : Nat} (h : 2139095040 < a % 2147483648) : Ieee.double.infRung < rg Ieee.double (widC a) := by
  unfold widC; rw [if_pos h, rg64, inf64]; omega
theorem val_mulC (a b x y : Nat) (ha : a < 4294967296) (hb : b < 4294967296) (hx : Val32C a x) (hy : Val32C b y) : thinC (Ieee.double.mul x y) = mul32F a b := by
  unfold mul32F
  by_cases na : 2139095040 < a % 2147483648
  · rw [mul_nan2 _ (by decide) x y (.inl (by rw [rg64, inf64]; exact hx.2.1 na)), mul_nan2 _ (by decide) _ _ (.inl (widC_nan na))]
  · by_cases nb : 2139095040 < b % 2147483648
    · rw [mul_nan2 _ (by decide) x y (.inr (by rw [rg64, inf64]; exact hy.2.1 nb)), mul_nan2 _ (by decide) _ _ (.inr (widC_nan nb))]
    · rw [hx.2.2 (by omega), hy.2.2 (by omega)]
theorem val_divC (a b x y : Nat) (ha : a < 4294967296) (hb : b < 4294967296) (hx : Val32C a x) (hy : Val32C b y) : thinC (Ieee.double.div x y) = div32F a b := by
  unfold div32F
  by_cases na : 2139095040 < a % 2147483648
  · rw [div_nan2 _ (by decide) x y (.inl (by rw [rg64, inf64]; exact hx.2.1 na)), div_nan2 _ (by decide) _ _ (.inl (widC_nan na))]
  · by_cases nb : 2139095040 < b % 2147483648
    · rw [div_nan2 _ (by decide) x y (.inr (by rw [rg64, inf64]; exact hy.2.1 nb)), div_nan2 _ (by decide) _ _ (.inr (widC_nan nb))]
    · rw [hx.2.2 (by omega), hy.2.2 (by omega)]

set_option maxRecDepth 100000 in
set_option maxHeartbeats 1000000 in
theorem Mul32_anyC (a b : Nat) (w : World) (ha : a < 4294967296) (hb : b < 4294967296) : Calls Tryz.prog 120 #[.int .u32 a, .int .u32 b] w fun e w' => e = .returned (.int .u32 (mul32F a b : Nat)) ∧ Below w.heap.size w w' := by
  have HV := fhide (And.intro (fun w => value32_widC a w ha) (fun w => value32_widC b w hb))
  have HE := fhide (fun x y hx hy => val_mulC a b x y ha hb hx hy)
  clear ha hb
  generalize mul32F a b = out at *
  go_enter Tryz.func120, Tryz.ntmps120
  go_wp2_with fail
  refine (HV.out.1 _).mono ?_
  rintro e w1 ⟨x, hx, rfl, hb1⟩
  have H1 := fhide (And.intro hx hb1)
  clear hx hb1
  go_wp2_with fail
  refine (HV.out.2 _).mono ?_
  rintro e w2 ⟨y, hy, rfl, hb2⟩
  have HT := fhide (HE.out x y H1.out.1 hy)
  have H2 := fhide (H1.out.2.trans (hb2.mono H1.out.2.size))
  clear hy hb2 H1
  have hs : floatBits .mul .f64 x y = Ieee.double.mul x y := rfl
  cases ho : Ieee.double.mul x y with
  | none =>
    rw [ho] at hs HT
    obtain ⟨nb, hnb, hadd⟩ := run_nan .mul (by simp) 51 x y hs w2
    go_wp2_with (simp only [hadd])
    refine (pattern32_any nb _ hnb.2).mono ?_
    rintro e w3 ⟨rfl, hb3⟩
    rw [pat32_nan nb hnb.1]
    have H3 := fhide (H2.out.drew.trans (hb3.mono H2.out.size))
    clear hb3
    go_wp2_with fail
    go_ret
    exact ⟨by rw [← HT.out]; rfl, H3.out⟩
  | some r =>
    rw [ho] at hs HT
    obtain ⟨hr1, hr2⟩ := fb_num hs
    have hadd := fun w : World => run_float_arith (P := Tryz.prog) w .mul 51 .f64 x y r hs
    have HP := fhide (fun w : World => pattern32_any r w hr2)
    rw [pat32_thinC rfl hr1, HT.out] at HP
    clear hr1 hr2 hs ho
    go_wp2_with (simp only [hadd])
    refine (HP.out _).mono ?_
    rintro e w3 ⟨rfl, hb3⟩
    go_wp2_with fail
    go_ret
    exact ⟨rfl, H2.out.trans (hb3.mono H2.out.size)⟩
theorem div_nought32C (x y : Nat) (hx : x < 18446744073709551616) (hy : y < 18446744073709551616) (h0 : y % 9223372036854775808 = 0) : pat32 (byN x (decide (9223372036854775808 ≤ y))) = thinC (Ieee.double.div x y) := by
  have hn : pat32 9221120237041090561 = 2143289344 := by unfold pat32; rw [if_pos (by omega)]
  unfold byN
  have fy : rg Ieee.double y < Ieee.double.infRung := by rw [rg64, inf64, h0]; omega
  have zy : rg Ieee.double y = 0 := by rw [rg64]; exact h0
  have key : ∀ s t : Bool, pat32 (if s = t then 9218868437227405312 else 18442240474082181120) = thinC (some (Ieee.double.word (s ^^ t) Ieee.double.infRung)) := by
    intro s t
    have hp : ∀ q : Bool, pat32 (Ieee.double.word q Ieee.double.infRung) = nar32 (Ieee.double.word q Ieee.double.infRung) := fun q => by
      refine pat32_num _ ?_
      have := rg_word Ieee.double q _ Ieee.double.infRung_lt
      rw [rg64, inf64] at this
      rw [inf64, this]; omega
    show _ = nar32 _
    rw [← hp]
    cases s <;> cases t <;> (refine congrArg _ ?_; decide +kernel)
  rcases Nat.lt_trichotomy (x % 9223372036854775808) 9218868437227405312 with h | h | h
  · have fx : rg Ieee.double x < Ieee.double.infRung := by rw [rg64, inf64]; exact h
    rw [div_fin_zero _ x y fx fy zy, sg64 x hx, sg64 y hy, rg64]
    by_cases hz : x % 9223372036854775808 = 0
    · rw [if_pos (.inr hz), if_pos hz, hn]; rfl
    · rw [if_neg (by omega), if_neg hz]
      exact key _ _
  · rw [div_inf_fin _ (by decide) x y (by rw [rg64, inf64]; exact h) fy, sg64 x hx, sg64 y hy, if_neg (by omega)]
    exact key _ _
  · rw [div_nan2 _ (by decide) x y (.inl (by rw [rg64, inf64]; exact h)), if_pos (.inl h), hn]; rfl

set_option maxRecDepth 100000 in
set_option maxHeartbeats 1000000 in
theorem Div32_anyC (a b : Nat) (w : World) (ha : a < 4294967296) (hb : b < 4294967296) : Calls Tryz.prog 121 #[.int .u32 a, .int .u32 b] w fun e w' => e = .returned (.int .u32 (div32F a b : Nat)) ∧ Below w.heap.size w w' := by
  have HV := fhide (And.intro (fun w => value32_widC a w ha) (fun w => value32_widC b w hb))
  have HE := fhide (fun x y hx hy => val_divC a b x y ha hb hx hy)
  clear ha hb
  generalize div32F a b = out at *
  go_enter Tryz.func121, Tryz.ntmps121
  go_wp2_with fail
  refine (HV.out.1 _).mono ?_
  rintro e w1 ⟨x, hx, rfl, hb1⟩
  have H1 := fhide (And.intro hx hb1)
  clear hx hb1
  go_wp2_with fail
  refine (HV.out.2 _).mono ?_
  rintro e w2 ⟨y, hy, rfl, hb2⟩
  have HT := fhide (HE.out x y H1.out.1 hy)
  have HB := fhide (And.intro H1.out.1.1 hy.1)
  have H2 := fhide (H1.out.2.trans (hb2.mono H1.out.2.size))
  clear hy hb2 H1
  have hz : FloatKind.f64.format.order y 0 = _ := order_nought y
  by_cases h0 : y % 9223372036854775808 = 0
  · rw [if_neg (by omega), if_pos h0] at hz
    have hd := div_nought32C x y HB.out.1 HB.out.2 h0
    rw [HT.out] at hd
    have HS := fhide (fun w : World => Signbit_any y w HB.out.2)
    have hbl : byN x (decide (9223372036854775808 ≤ y)) < 18446744073709551616 := by unfold byN; split; omega; split <;> omega
    have HBy := fhide (fun w : World => byNought_any x (decide (9223372036854775808 ≤ y)) w HB.out.1)
    have HP := fhide (fun w : World => pattern32_any _ w hbl)
    rw [hd] at HP
    generalize decide (9223372036854775808 ≤ y) = t at *
    generalize byN x t = z at *
    clear h0 hd hbl
    go_wp2_with (simp only [hz])
    refine (HS.out _).mono ?_
    rintro e w3 ⟨rfl, hw1⟩
    have hw1 := hw1.symm
    subst hw1
    go_wp2_with fail
    refine (HBy.out _).mono ?_
    rintro e w3 ⟨rfl, hw1⟩
    have hw1 := hw1.symm
    subst hw1
    go_wp2_with fail
    refine (HP.out _).mono ?_
    rintro e w3 ⟨rfl, hb3⟩
    go_wp2_with fail
    go_ret
    exact ⟨rfl, H2.out.trans (hb3.mono H2.out.size)⟩
  · rw [if_neg h0] at hz
    have hz' : FloatKind.f64.format.order y 0 = none ∨ FloatKind.f64.format.order y 0 = some .lt ∨ FloatKind.f64.format.order y 0 = some .gt := by
      rw [hz]; split
      · simp
      · cases sg Ieee.double y <;> simp
    clear hz h0
    have hs : floatBits .quo .f64 x y = Ieee.double.div x y := rfl
    cases ho : Ieee.double.div x y with
    | none =>
      rw [ho] at hs HT
      obtain ⟨nb, hnb, hadd⟩ := run_nan .quo (by simp) 51 x y hs w2
      rcases hz' with hz | hz | hz
      all_goals
        go_wp2_with (simp only [hadd, hz])
        refine (pattern32_any nb _ hnb.2).mono ?_
        rintro e w3 ⟨rfl, hb3⟩
        rw [pat32_nan nb hnb.1]
        have H3 := fhide (H2.out.drew.trans (hb3.mono H2.out.size))
        clear hb3
        go_wp2_with fail
        go_ret
        exact ⟨by rw [← HT.out]; rfl, H3.out⟩
    | some r =>
      rw [ho] at hs HT
      obtain ⟨hr1, hr2⟩ := fb_num hs
      have hadd := fun w : World => run_float_arith (P := Tryz.prog) w .quo 51 .f64 x y r hs
      have HP := fhide (fun w : World => pattern32_any r w hr2)
      rw [pat32_thinC rfl hr1, HT.out] at HP
      clear hr1 hr2 hs ho
      rcases hz' with hz | hz | hz
      all_goals
        go_wp2_with (simp only [hadd, hz])
        refine (HP.out _).mono ?_
        rintro e w3 ⟨rfl, hb3⟩
        go_wp2_with fail
        go_ret
        exact ⟨rfl, H2.out.trans (hb3.mono H2.out.size)⟩

end Go.Proofs.YtlemodcppokjhaaGreatDoor

namespace Go.Proofs.YtlemodcppokjhaaGreatDoor
open Go.RowKit
open M
set_option linter.unusedVariables false
set_option linter.unusedSimpArgs false

/-- A binary32 widened. -/
def wdC (f : Nat) : Nat := if 2139095040 < f % 2147483648 then widNan f else widC f

theorem wdC_lt (f : Nat) (hf : f < 4294967296) : wdC f < 18446744073709551616 := by
  unfold wdC
  split
  · unfold widNan; omega
  · rename_i h
    unfold widC
    rw [if_neg h]
    obtain ⟨x, x1, x2, _⟩ := f2f_wide f hf (by omega)
    rw [x1]; exact x2

theorem widenC_any (f : Nat) (w : World) (hf : f < 4294967296) : Calls Tryz.prog 186 #[.int .u32 f] w fun e w' => e = .returned (.int .u64 (wdC f : Nat)) ∧ Below w.heap.size w w' := by
  by_cases h : 2139095040 < f % 2147483648
  · have e : wdC f = widNan f := if_pos h
    rw [e]; exact Widen_nan f w hf h
  · obtain ⟨x, x1, x2, x3, _⟩ := f2f_wide f hf (by omega)
    have e : wdC f = x := by unfold wdC widC; rw [if_neg h, if_neg h, x1]; rfl
    rw [e]; exact Widen_num f x w hf h x1 x2 x3

/-- The nearest whole number, if it is one of 64 bits. -/
def near32 (v : Nat) : Option Int := near64 (wdC v)

def F32 : Dm := ⟨mul32F, div32F, fun k => floatOfInt .f32 k, near32, 10, 999999⟩

theorem near32_range {v : Nat} {k : Int} (h : near32 v = some k) : -9223372036854775808 ≤ k ∧ k ≤ 9223372036854775807 := near64_range h

theorem thinC_lt (x : Option Nat) (h : ∀ r, x = some r → r < 18446744073709551616) : thinC x < 4294967296 := by
  cases x with
  | none => show 2143289344 < _; omega
  | some r => have := h r rfl; show nar32 r < _; unfold nar32; omega

theorem F32_mul_lt (a b : Nat) : F32.mul a b < 4294967296 := thinC_lt _ fun r hr => (fb_num (op := .mul) (a := widC a) (b := widC b) (show floatBits .mul .f64 (widC a) (widC b) = some r from hr)).2
theorem F32_div_lt (a b : Nat) : F32.div a b < 4294967296 := thinC_lt _ fun r hr => (fb_num (op := .quo) (a := widC a) (b := widC b) (show floatBits .quo .f64 (widC a) (widC b) = some r from hr)).2

theorem near_lt32 (s : Bool) (m : Nat) (p : Int) : Ieee.single.nearest s m p < 4294967296 := by
  rw [Flt.nearest_rnd]
  have h : ∀ r, r ≤ 2139095040 → Ieee.single.word s r < 4294967296 := fun r hr => by
    cases s
    · show r < _; omega
    · show Ieee.single.signWeight + r < _; rw [show Ieee.single.signWeight = 2147483648 from by decide +kernel]; omega
  refine h _ ?_
  rw [show Ieee.single.infRung = 2139095040 from by decide +kernel]
  exact Nat.min_le_right _ _

theorem F32_int_lt (n : Int) : F32.int n < 4294967296 := by
  show floatOfInt .f32 n < 4294967296
  have h : ∃ s m p, floatOfInt .f32 n = Ieee.single.nearest s m p := ⟨_, _, _, rfl⟩
  obtain ⟨s, m, p, h⟩ := h
  rw [h]
  exact near_lt32 s m p

theorem F32_pow_lt (p : Nat) : F32.pow p < 4294967296 := by
  cases p with
  | zero => exact F32_int_lt 1
  | succ p => exact F32_mul_lt _ _

theorem fromInt32_any (n : Int) (w : World) : Calls Tryz.prog 149 #[.int .i64 n] w fun e w' => e = .returned (.int .u32 (floatOfInt .f32 n : Nat)) ∧ w' = w := by
  have hcv := fun w : World => run_convert_int_float (P := Tryz.prog) w 2 52 .i64 .f32 n (by kernel_rfl) (by kernel_rfl)
  generalize floatOfInt .f32 n = x at *
  have ht := tobits32 x
  go_enter Tryz.func149, Tryz.ntmps149
  go_wp2_with (simp only [hcv, ht])
  go_ret
  exact ⟨rfl, rfl⟩

theorem floatOf32_any (n : Int) (w : World) : Calls Tryz.prog 119 #[.int .i64 n] w fun e w' => e = .returned (.int .u32 (F32.int n : Nat)) ∧ w' = w := by
  have HF := hide (fromInt32_any n w)
  have hl := F32_int_lt n
  change Calls _ _ _ _ fun e w' => e = .returned (.int .u32 (floatOfInt .f32 n : Nat)) ∧ w' = w
  change floatOfInt .f32 n < 4294967296 at hl
  generalize floatOfInt .f32 n = x at *
  have r0 : IntKind.u32.wrap (x : Int) = (x : Int) := by rw [IntKind.wrap_u32]; omega
  go_enter Tryz.func119, Tryz.ntmps119
  go_wp2_with fail
  refine (cwide32_any _).mono ?_
  rintro e w1 ⟨rfl, rfl⟩
  go_wp2_with fail
  refine HF.out.mono ?_
  rintro e w2 ⟨rfl, rfl⟩
  go_wp2_with fail
  go_ret
  exact ⟨rfl, rfl⟩

theorem nearestWhole32_any (v : Nat) (w : World) (hv : v < 4294967296) : Calls Tryz.prog 166 #[.int .u32 v] w fun e w' => e = .returned (nwV (near32 v)) ∧ Below w.heap.size w w' := by
  have HW := hide (widenC_any v w hv)
  have r0 : IntKind.u32.wrap (v : Int) = (v : Int) := by rw [IntKind.wrap_u32]; omega
  have r1 : IntKind.u64.wrap (v : Int) = (v : Int) := by rw [IntKind.wrap_u64]; omega
  have hx := wdC_lt v hv
  unfold near32
  generalize wdC v = x at *
  by_cases h : x % 9223372036854775808 < 9218868437227405312 ∧ -9223372036854775808 ≤ wz 1074 0 x ∧ wz 1074 0 x < 9223372036854775808
  · have e0 : near64 x = some (wz 1074 0 x) := by unfold near64; rw [if_pos h]
    have HT := hide (fun w : World => ToInt_in 1074 rfl x 0 w hx (by omega) h.1 h.2.1 h.2.2)
    rw [e0]
    clear e0 h
    generalize wz 1074 0 x = z at *
    go_enter Tryz.func166, Tryz.ntmps166
    go_wp2_with fail
    refine (cwide32_any _).mono ?_
    rintro e w1 ⟨rfl, h1⟩
    have h1 := h1.symm
    subst h1
    go_wp2_with fail
    refine HW.out.mono ?_
    rintro e w1 ⟨rfl, B1⟩
    have HB1 := hide B1
    clear B1
    go_wp2_with fail
    refine (HT.out _).mono ?_
    rintro e w2 ⟨rfl, B2⟩
    have HB : Hid (Below w.heap.size w w2) := HB1.out.trans (B2.mono HB1.out.size)
    clear B2
    go_wp2_with fail
    go_ret2
    exact ⟨rfl, HB.out⟩
  · have e0 : near64 x = none := by unfold near64; rw [if_neg h]
    have HT := hide (fun w : World => ToInt_out 1074 rfl x 0 w hx (by omega) h)
    rw [e0]
    clear e0 h
    go_enter Tryz.func166, Tryz.ntmps166
    go_wp2_with fail
    refine (cwide32_any _).mono ?_
    rintro e w1 ⟨rfl, h1⟩
    have h1 := h1.symm
    subst h1
    go_wp2_with fail
    refine HW.out.mono ?_
    rintro e w1 ⟨rfl, B1⟩
    have HB1 := hide B1
    clear B1
    go_wp2_with fail
    refine (HT.out _).mono ?_
    rintro e w2 ⟨rfl, B2⟩
    have HB : Hid (Below w.heap.size w w2) := HB1.out.trans (B2.mono HB1.out.size)
    clear B2
    go_wp2_with fail
    go_ret2
    exact ⟨rfl, HB.out⟩

theorem mostWhole32_any (w : World) : Calls Tryz.prog 167 #[] w fun e w' => e = .returned (.int .i64 999999) ∧ w' = w := by
  go_enter Tryz.func167, Tryz.ntmps167
  go_wp2_with fail
  refine (cwide32_any _).mono ?_
  rintro e w1 ⟨rfl, rfl⟩
  go_wp2_with fail
  go_ret
  exact ⟨rfl, rfl⟩

theorem mostPoint32_any (w : World) : Calls Tryz.prog 136 #[] w fun e w' => e = .returned (.int .i64 10) ∧ w' = w := by
  go_enter Tryz.func136, Tryz.ntmps136
  go_wp2_with fail
  refine (cwide32_any _).mono ?_
  rintro e w1 ⟨rfl, rfl⟩
  go_wp2_with fail
  go_ret
  exact ⟨rfl, rfl⟩

/-- The scale of a p. -/
def scV32 (p : Nat) : Value := .agg #[.int .i64 (p : Int), .int .u32 (F32.pow p : Int)]

set_option maxRecDepth 100000 in
theorem scaleAt32_any (p : Nat) (w : World) (hp : p ≤ 1000) : Calls Tryz.prog 81 #[.int .i64 p] w fun e w' => e = .returned (scV32 p) ∧ Below w.heap.size w w' := by
  have HM := hide (fun (a b : Nat) (w : World) (ha : a < 4294967296) (hb : b < 4294967296) => Mul32_anyC a b w ha hb)
  have hI1 := floatOf32_any 1
  have hI10 := floatOf32_any 10
  obtain ⟨g, hg⟩ : ∃ g, w.heap.size = g := ⟨_, rfl⟩
  have HG := hide hg
  have HI := hide (And.intro hI1 hI10)
  clear hI1 hI10
  have HA : Hid (Below g w (w.alloc (.cells #[.int .i64 0, .int .u32 0] 116)) ∧ (w.alloc (.cells #[.int .i64 0, .int .u32 0] 116)).heap[g]? = some (.cells #[.int .i64 0, .int .u32 0] 116 (0, 0))) := by
    rw [← hg]; exact ⟨(Below.refl _ w).alloc (Nat.le_refl _) _, heap_alloc_new w _⟩
  go_enter Tryz.func81, Tryz.ntmps81
  go_upto_region 1 with fail
  (try rw [hg])
  clear hg
  generalize w.alloc (.cells #[.int .i64 0, .int .u32 0] 116) = W1 at *
  go_wp2_with fail
  refine (HI.out.1 _).mono ?_
  rintro e w1 ⟨rfl, h1⟩
  have h1 := h1.symm
  subst h1
  go_wp2_with fail
  refine (HI.out.2 _).mono ?_
  rintro e w1 ⟨rfl, h1⟩
  have h1 := h1.symm
  subst h1
  obtain ⟨TEN, hTEN⟩ : ∃ t, F32.int 10 = t := ⟨_, rfl⟩
  rw [hTEN]
  have HTEN := hide hTEN
  clear hTEN
  go_wp2_with fail
  go_loopw [3, 8] (fun t3 t8 wr => ∃ k : Nat, t8 = .int .i64 (k : Int) ∧ t3 = .int .u32 ((F32.pow k : Nat) : Int) ∧ Hid (k ≤ p ∧ Below g w wr ∧ wr.heap[g]? = some (.cells #[.int .i64 0, .int .u32 0] 116 (0, 0)))) (fun _ t8 _ => p - (intOf t8).toNat)
  case atStart => exact ⟨0, rfl, rfl, Nat.zero_le _, HA.out.1, HA.out.2⟩
  case round =>
    obtain ⟨k, rfl, rfl, hI⟩ := hrel
    by_cases hlt : k < p
    · have HE : Hid (mul32F (F32.pow k) TEN = F32.pow (k + 1)) := by rw [← HTEN.out]; rfl
      obtain ⟨P, hP⟩ : ∃ P, F32.pow k = P := ⟨_, rfl⟩
      have hPl : P < 4294967296 := by rw [← hP]; exact F32_pow_lt k
      have hTl : TEN < 4294967296 := by rw [← HTEN.out]; exact F32_int_lt 10
      rw [hP] at HE ⊢
      clear hP
      go_wp2_with fail
      refine (HM.out P TEN wr hPl hTl).mono ?_
      rintro e w2 ⟨rfl, B2⟩
      rw [HE.out]
      have HB2 : Hid (Below g w w2 ∧ w2.heap[g]? = some (.cells #[.int .i64 0, .int .u32 0] 116 (0, 0))) := by
        have h1 := size_lt_of_row hI.out.2.2
        exact ⟨hI.out.2.1.trans (B2.mono (by omega)), by rw [B2.block g h1]; exact hI.out.2.2⟩
      clear B2
      go_wp2_with fail
      go_roundw
      case rel => exact ⟨k + 1, by simp, rfl, hlt, HB2.out.1, HB2.out.2⟩
      case measure => simp [intOf]; omega
    · have hk : k = p := by have := hI.out.1; omega
      subst hk
      have c0 : wr.cell? ⟨g, 0, none⟩ = some (.int .i64 0) := cell_of_row _ _ 0 _ _ _ hI.out.2.2
      have c1 : wr.cell? ⟨g, 1, none⟩ = some (.int .u32 0) := cell_of_row _ _ 1 _ _ _ hI.out.2.2
      have f0 : wr.frozen? ⟨g, 0, none⟩ = false := frozen_of_row _ _ _ _ _ hI.out.2.2
      have f1 : wr.frozen? ⟨g, 1, none⟩ = false := frozen_of_row _ _ _ _ _ hI.out.2.2
      obtain ⟨P, hP⟩ : ∃ P, F32.pow k = P := ⟨_, rfl⟩
      rw [hP]
      have HP := hide hP
      clear hP
      go_wp2_with fail
      obtain ⟨fs, hu⟩ := is_struct (show Tryz.prog.underlying 116 = Tryz.prog.underlying 116 from rfl) (by kernel_rfl)
      have hrow : ((wr.setCell ⟨g, 0, none⟩ (.int .i64 (k : Int))).setCell ⟨g, 1, none⟩ (.int .u32 (P : Int))).heap[g]? = some (.cells #[.int .i64 (k : Int), .int .u32 (P : Int)] 116 (0, 0)) := by
        have h1 := heap_setCell_same wr g 0 _ _ (.int .i64 (k : Int)) hI.out.2.2
        have h2 := heap_setCell_same _ g 1 _ _ (.int .u32 (P : Int)) h1
        exact h2
      refine bodyPost_ret (results_cell_row rfl _ _ g _ _ (0, 0) (.struct fs) rfl hrow hu rfl (by kernel_rfl)) rfl ?_
      refine ⟨by rw [scV32, HP.out], ?_⟩
      have h1 := hI.out.2.1
      rw [HG.out]
      exact (h1.setCell (p := ⟨g, 0, none⟩) (Nat.le_refl _) _).setCell (p := ⟨g, 1, none⟩) (Nat.le_refl _) _

theorem valueOf32_any (p : Nat) (k : Int) (w : World) : Calls Tryz.prog 83 #[scV32 p, .int .i64 k] w fun e w' => e = .returned (.int .u32 (F32.val p k : Nat)) ∧ Below w.heap.size w w' := by
  have HD := hide (fun (w : World) => Div32_anyC (F32.int k) (F32.pow p) w (F32_int_lt k) (F32_pow_lt p))
  have HF := hide (fun (w : World) => floatOf32_any k w)
  have ev : div32F (F32.int k) (F32.pow p) = F32.val p k := rfl
  rw [ev] at HD
  clear ev
  unfold scV32
  generalize F32.val p k = out at *
  generalize F32.int k = I at *
  generalize F32.pow p = P at *
  obtain ⟨g, hg⟩ : ∃ g, w.heap.size = g := ⟨_, rfl⟩
  obtain ⟨W1, hW1⟩ : ∃ W1, W1 = w.alloc (.cells #[.int .i64 (p : Int), .int .u32 (P : Int)] 116) := ⟨_, rfl⟩
  have hB1 : Below g w W1 := by rw [hW1, ← hg]; exact (Below.refl _ w).alloc (Nat.le_refl _) _
  have hr1 : W1.heap[g]? = some (.cells #[.int .i64 (p : Int), .int .u32 (P : Int)] 116 (0, 0)) := by rw [hW1, ← hg]; exact heap_alloc_new w _
  have c0 : W1.drew.cell? ⟨g, 1, none⟩ = some (.int .u32 (P : Int)) := cell_of_row W1.drew g 1 _ _ _ hr1
  have HB : Hid (Below g w W1.drew) := ⟨hB1.os, hB1.tape, hB1.output, hB1.size, hB1.block⟩
  have HGG := hide hg
  have HS : Hid (g ≤ W1.drew.heap.size) := by have := size_lt_of_row hr1; exact Nat.le_of_lt this
  clear hB1 hr1
  go_enter Tryz.func83, Tryz.ntmps83
  go_wp2_with fail
  (try rw [hg])
  (try rw [← hW1])
  clear hW1 hg
  go_region_held3 (fun w' => w'.cell? ⟨g, 1, none⟩ = some (.int .u32 (P : Int))) (exact c0)
    (first | (go_at_call 119; go_must (refine (HF.out _).mono ?_); rintro _ w5 ⟨rfl, hw5⟩; have hw5 := hw5.symm; subst hw5) | (go_at_call 121; go_must (refine (HD.out _).mono ?_); rintro _ w6 ⟨rfl, B6⟩; have HB6 : Hid (Below g w w6) := (HB.out.trans (B6.mono HS.out)); have c0 : w6.cell? ⟨g, 1, none⟩ = some (.int .u32 (P : Int)) := (by rw [B6.cell (p := ⟨g, 1, none⟩) (block_lt_of_cell c0)]; exact c0); clear B6))
  all_goals
    go_wp2_with fail
    go_ret
    exact ⟨rfl, by rw [HGG.out]; exact HB6.out⟩

end Go.Proofs.YtlemodcppokjhaaGreatDoor

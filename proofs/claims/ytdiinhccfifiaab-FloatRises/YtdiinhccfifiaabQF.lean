/- FloatRises: its walk. -/
import Derived.Test.YtdiinhccfifiaabQE
namespace Go.Proofs.Ytdiinhccfifiaab
open Go.RowKit
open Flt
set_option linter.unusedVariables false
set_option linter.unusedSimpArgs false

set_option maxRecDepth 100000 in
set_option maxHeartbeats 8000000 in
theorem rises_any (a0 : Option Addr) (len0 cap0 : Nat) (w : World) (h : IsThrees w a0 len0) :
    Calls Try.prog 5 #[.slice a0 len0 cap0] w fun e w' => e = .returned (.bool true) ∧ Below w.heap.size w w' := by
  obtain ⟨hlen, hcell⟩ := h
  have HC := fhide hcell
  clear hcell
  go_enter Try.func5, Try.ntmps5
  go_wp2_with fail
  go_loopw [3] (fun t3 wr => ∃ i : Nat, i ≤ len0 ∧ i ≤ 2000 ∧ t3 = .int .i64 i ∧ Hid (Below w.heap.size w wr)) (fun t3 _ => 2000 - (intOf t3).toNat)
  case atStart => exact ⟨0, by omega, by omega, rfl, Below.refl _ _⟩
  case round =>
    obtain ⟨i, hi, hi20, rfl, HI⟩ := hrel
    by_cases hgo : i < len0 ∧ i < 2000
    · have g1 : (i : Int) < (len0 : Int) := by omega
      have g2 : (i : Int) < 2000 := by omega
      obtain ⟨g, o, rfl, hg, hj⟩ := HC.out (by omega)
      obtain ⟨A, B, C, hA, hB, hC, cA, cB, cC⟩ := hj i hgo.1
      have cA0 : wr.cell? ⟨g, o + i * 3, none⟩ = some (.int .u64 A) := by rw [HI.out.cell (p := ⟨g, o + i * 3, none⟩) hg]; exact cA
      have cB0 : wr.cell? ⟨g, o + i * 3 + 1, none⟩ = some (.int .u64 B) := by rw [HI.out.cell (p := ⟨g, o + i * 3 + 1, none⟩) hg]; exact cB
      have cC0 : wr.cell? ⟨g, o + i * 3 + 2, none⟩ = some (.int .u64 C) := by rw [HI.out.cell (p := ⟨g, o + i * 3 + 2, none⟩) hg]; exact cC
      have HA := fhide (And.intro hA (And.intro hB hC))
      clear hj hgo cA cB cC hA hB hC
      have HC2 : Hid (w.cell? ⟨g, o + i * 3 + 2, none⟩ = some (.int .u64 C)) := by
        show _ = _
        rw [← HI.out.cell (p := ⟨g, o + i * 3 + 2, none⟩) hg]; exact cC0
      have HNa := fhide (fun w : World => nan_any A w HA.out.1)
      have HNb := fhide (fun w : World => nan_any B w HA.out.2.1)
      have HG := fhide hg
      by_cases na : 9218868437227405312 < A % 9223372036854775808
      · rw [decide_eq_true na] at HNa
        clear na HA HC2 HNb
        go_wp2_with fail
        refine (HNa.out _).mono ?_
        rintro e x1 ⟨rfl, rfl⟩
        go_wp2_with fail
        go_roundw
        case rel => exact ⟨i + 1, by omega, by omega, by go_num, HI⟩
        case measure => simp [intOf]; omega
      · rw [decide_eq_false na] at HNa
        by_cases nb : 9218868437227405312 < B % 9223372036854775808
        · rw [decide_eq_true nb] at HNb
          clear na nb HA HC2
          go_wp2_with fail
          refine (HNa.out _).mono ?_
          rintro e x2 ⟨rfl, rfl⟩
          go_wp2_with fail
          refine (HNb.out _).mono ?_
          rintro e x3 ⟨rfl, rfl⟩
          go_wp2_with fail
          go_roundw
          case rel => exact ⟨i + 1, by omega, by omega, by go_num, HI⟩
          case measure => simp [intOf]; omega
        · rw [decide_eq_false nb] at HNb
          have HKa := fhide (fun w : World => Key64_any A w HA.out.1)
          have HKb := fhide (fun w : World => Key64_any B w HA.out.2.1)
          have ka := key64_lt A HA.out.1
          have kb := key64_lt B HA.out.2.1
          have hsv := fun (h : key64 A ≤ key64 B) => sv_key A B HA.out.1 HA.out.2.1 (by omega) (by omega) h
          have hsv2 := fun (h : key64 B ≤ key64 A) => sv_key B A HA.out.2.1 HA.out.1 (by omega) (by omega) h
          have HN := fhide (And.intro (show A % 9223372036854775808 ≤ 9218868437227405312 by omega) (show B % 9223372036854775808 ≤ 9218868437227405312 by omega))
          clear na nb
          generalize key64 A = KA at *
          generalize key64 B = KB at *
          go_wp2_with fail
          refine (HNa.out _).mono ?_
          rintro e x4 ⟨rfl, rfl⟩
          go_wp2_with fail
          refine (HNb.out _).mono ?_
          rintro e x5 ⟨rfl, rfl⟩
          go_wp2_with fail
          refine (HKa.out _).mono ?_
          rintro e x6 ⟨rfl, hb6⟩
          have J6 := fhide (HI.out.trans (hb6.mono HI.out.size))
          clear hb6 HI
          go_wp2_with fail
          refine (HKb.out _).mono ?_
          rintro e x7 ⟨rfl, hb7⟩
          have J7 := fhide (J6.out.trans (hb7.mono J6.out.size))
          clear hb7 J6
          have cC1 : x7.cell? ⟨g, o + i * 3 + 2, none⟩ = some (.int .u64 C) := by rw [J7.out.cell (p := ⟨g, o + i * 3 + 2, none⟩) HG.out]; exact HC2.out
          clear HNa HNb HKa HKb cA0 cB0 cC0
          by_cases hk : KB < KA
          · have hk' : (KB : Int) < (KA : Int) := by omega
            have hle := hsv2 (by omega)
            have rlo : rg Ieee.double B ≤ Ieee.double.infRung := by rw [rg64, inf64]; exact HN.out.2
            have rhi : rg Ieee.double A ≤ Ieee.double.infRung := by rw [rg64, inf64]; exact HN.out.1
            have hab := b64_abs C HA.out.2.2
            obtain ⟨c, hc, hcl⟩ : ∃ c, C % 9223372036854775808 = c ∧ c < 9223372036854775808 := ⟨_, rfl, Nat.mod_lt _ (by omega)⟩
            rw [hc] at hab
            clear hc
            have hcs : sg Ieee.double c = false := by rw [sg64 c (by omega), decide_eq_false (by omega)]
            obtain ⟨T, hT⟩ : ∃ T : Nat, T = 1074 := ⟨_, rfl⟩
            have hTl : Ieee.double.leastPlace = -(T : Int) := by rw [hT]; decide
            have nA : Hid (NotAb (told64 (Ieee.double.add B C)) (told64 (Ieee.double.add A C))) := notAb_told fun r s h1 h2 => add_mono f64' e64 B A C r s rlo rhi hle h1 h2
            have nM : Hid (NotAb (told64 (Ieee.double.mul B c)) (told64 (Ieee.double.mul A c))) := notAb_told fun r s h1 h2 => mul_mono f64' e64 T hTl B A c r s rlo rhi hcs hle h1 h2
            have nR : Hid (NotAb (told64 (Ieee.double.sqrt B)) (told64 (Ieee.double.sqrt A))) := notAb_told fun r s h1 h2 => sqrt_mono f64' e64 T hTl B A r s rlo rhi hle h1 h2
            have nD : Hid (NotAb (told64 (Ieee.double.div B c)) (told64 (Ieee.double.div A c))) := notAb_told fun r s h1 h2 => div_mono f64' e64 T hTl B A c r s rlo rhi hcs hle h1 h2
            have nE : Hid (NotAb (evn B) (evn A)) := .inr (.inr (evn_mono B A rlo rhi hle))
            have nW : Hid (NotAb (wid (narr B)) (wid (narr A))) := narrow_mono B A HA.out.2.1 HA.out.1 HN.out.2 HN.out.1 hle
            have HE1 := fhide (fun w : World => Round_even B w rlo)
            have HE2 := fhide (fun w : World => Round_even A w rhi)
            have HNr1 := fhide (fun w : World => Narrow_any B w HA.out.2.1)
            have HNr2 := fhide (fun w : World => Narrow_any A w HA.out.1)
            have HWd1 := fhide (fun w : World => Widen_any (narr B) w (narr_lt B HA.out.2.1))
            have HWd2 := fhide (fun w : World => Widen_any (narr A) w (narr_lt A HA.out.1))
            have llo : B < 18446744073709551616 := HA.out.2.1
            have lhi : A < 18446744073709551616 := HA.out.1
            have HAd : Hid (∀ (x : Nat) (w : World), Calls Try.prog 30 #[.int .u64 x, .int .u64 C] w fun e w' => e = .returned (.int .u64 ((fun x => told64 (Ieee.double.add x C)) x : Nat)) ∧ Below w.heap.size w w') := fun x w => Add64_any x C w
            have HMu : Hid (∀ (x : Nat) (w : World), Calls Try.prog 31 #[.int .u64 x, .int .u64 c] w fun e w' => e = .returned (.int .u64 ((fun x => told64 (Ieee.double.mul x c)) x : Nat)) ∧ Below w.heap.size w w') := fun x w => Mul64_any x c w
            have HRo : Hid (∀ (x : Nat) (w : World), Calls Try.prog 32 #[.int .u64 x] w fun e w' => e = .returned (.int .u64 ((fun x => told64 (Ieee.double.sqrt x)) x : Nat)) ∧ Below w.heap.size w w') := fun x w => Root64_any x w
            have HDi : Hid (∀ (x : Nat) (w : World), x < 18446744073709551616 → Calls Try.prog 33 #[.int .u64 x, .int .u64 c] w fun e w' => e = .returned (.int .u64 ((fun x => told64 (Ieee.double.div x c)) x : Nat)) ∧ Below w.heap.size w w') := fun x w hx => Div64_any x c w hx (by omega)
            have nA : Hid (NotAb ((fun x => told64 (Ieee.double.add x C)) B) ((fun x => told64 (Ieee.double.add x C)) A)) := nA
            have nM : Hid (NotAb ((fun x => told64 (Ieee.double.mul x c)) B) ((fun x => told64 (Ieee.double.mul x c)) A)) := nM
            have nR : Hid (NotAb ((fun x => told64 (Ieee.double.sqrt x)) B) ((fun x => told64 (Ieee.double.sqrt x)) A)) := nR
            have nD : Hid (NotAb ((fun x => told64 (Ieee.double.div x c)) B) ((fun x => told64 (Ieee.double.div x c)) A)) := nD
            generalize (fun x => told64 (Ieee.double.add x C)) = fA at *
            generalize (fun x => told64 (Ieee.double.mul x c)) = fM at *
            generalize (fun x => told64 (Ieee.double.sqrt x)) = fR at *
            generalize (fun x => told64 (Ieee.double.div x c)) = fD at *
            generalize wid (narr B) = W1 at *
            generalize wid (narr A) = W2 at *
            generalize narr B = N1 at *
            generalize narr A = N2 at *
            generalize evn B = E1 at *
            generalize evn A = E2 at *
            have HNot := fhide (fun (x y : Nat) (h : NotAb x y) (w : World) => notAbove_any x y w h)
            have LL := fhide (And.intro llo lhi)
            clear hle rlo rhi hcl hcs hT hTl hsv hsv2 ka kb hk HN HA llo lhi
            go_wp2_with (simp only [hab])
            refine (HE1.out _).mono ?_
            rintro e x8 ⟨rfl, hb8⟩
            have J8 := fhide (J7.out.trans (hb8.mono J7.out.size))
            clear hb8 J7
            go_wp2_with (simp only [hab])
            refine (HE2.out _).mono ?_
            rintro e x9 ⟨rfl, hb9⟩
            have J9 := fhide (J8.out.trans (hb9.mono J8.out.size))
            clear hb9 J8
            go_wp2_with fail
            refine (num_any _ _).mono ?_
            rintro e x10 ⟨rfl, rfl⟩
            go_wp2_with fail
            refine (num_any _ _).mono ?_
            rintro e x11 ⟨rfl, rfl⟩
            go_wp2_with fail
            refine (HNot.out _ _ nE.out _).mono ?_
            rintro e x12 ⟨rfl, hb12⟩
            have J12 := fhide (J9.out.trans (hb12.mono J9.out.size))
            clear hb12 J9
            go_wp2_with fail
            refine (HNr1.out _).mono ?_
            rintro e x13 ⟨rfl, hb13⟩
            have J13 := fhide (J12.out.trans (hb13.mono J12.out.size))
            clear hb13 J12
            go_wp2_with fail
            refine (HWd1.out _).mono ?_
            rintro e x14 ⟨rfl, hb14⟩
            have J14 := fhide (J13.out.trans (hb14.mono J13.out.size))
            clear hb14 J13
            go_wp2_with fail
            refine (HNr2.out _).mono ?_
            rintro e x15 ⟨rfl, hb15⟩
            have J15 := fhide (J14.out.trans (hb15.mono J14.out.size))
            clear hb15 J14
            go_wp2_with fail
            refine (HWd2.out _).mono ?_
            rintro e x16 ⟨rfl, hb16⟩
            have J16 := fhide (J15.out.trans (hb16.mono J15.out.size))
            clear hb16 J15
            go_wp2_with fail
            refine (HNot.out _ _ nW.out _).mono ?_
            rintro e x17 ⟨rfl, hb17⟩
            have J17 := fhide (J16.out.trans (hb17.mono J16.out.size))
            clear hb17 J16
            have HI := fhide J17.out.drew
            have cC0 : x17.drew.cell? ⟨g, o + i * 3 + 2, none⟩ = some (.int .u64 C) := by rw [HI.out.cell (p := ⟨g, o + i * 3 + 2, none⟩) HG.out]; exact HC2.out
            clear cC1 HE1 HE2 HNr1 HNr2 HWd1 HWd2 nE nW J17
            go_wp2_with fail
            go_region_held3 (fun w' => w'.cell? ⟨g, o + i * 3 + 2, none⟩ = some (.int .u64 C)) (exact cC0)
              (first | (go_at_call 30; go_must (refine (HAd.out _ _).mono ?_); rintro _ w5 ⟨rfl, B5⟩; have HI := fhide (HI.out.trans (B5.mono HI.out.size)); have cC0 : w5.cell? ⟨g, o + i * 3 + 2, none⟩ = some (.int .u64 C) := (by rw [B5.cell (p := ⟨g, o + i * 3 + 2, none⟩) (block_lt_of_cell cC0)]; exact cC0); clear B5) | (go_at_call 31; go_must (refine (HMu.out _ _).mono ?_); rintro _ w5 ⟨rfl, B5⟩; have HI := fhide (HI.out.trans (B5.mono HI.out.size)); have cC0 : w5.cell? ⟨g, o + i * 3 + 2, none⟩ = some (.int .u64 C) := (by rw [B5.cell (p := ⟨g, o + i * 3 + 2, none⟩) (block_lt_of_cell cC0)]; exact cC0); clear B5) | (go_at_call 32; go_must (refine (HRo.out _ _).mono ?_); rintro _ w5 ⟨rfl, B5⟩; have HI := fhide (HI.out.trans (B5.mono HI.out.size)); have cC0 : w5.cell? ⟨g, o + i * 3 + 2, none⟩ = some (.int .u64 C) := (by rw [B5.cell (p := ⟨g, o + i * 3 + 2, none⟩) (block_lt_of_cell cC0)]; exact cC0); clear B5) | (go_at_call 33; go_must (refine (HDi.out _ _ (by first | exact LL.out.1 | exact LL.out.2)).mono ?_); rintro _ w5 ⟨rfl, B5⟩; have HI := fhide (HI.out.trans (B5.mono HI.out.size)); have cC0 : w5.cell? ⟨g, o + i * 3 + 2, none⟩ = some (.int .u64 C) := (by rw [B5.cell (p := ⟨g, o + i * 3 + 2, none⟩) (block_lt_of_cell cC0)]; exact cC0); clear B5) | (go_at_call 27; go_must (refine (HNot.out _ _ (by first | exact nA.out | exact nM.out | exact nR.out | exact nD.out) _).mono ?_); rintro _ w5 ⟨rfl, B5⟩; have HI := fhide (HI.out.trans (B5.mono HI.out.size)); have cC0 : w5.cell? ⟨g, o + i * 3 + 2, none⟩ = some (.int .u64 C) := (by rw [B5.cell (p := ⟨g, o + i * 3 + 2, none⟩) (block_lt_of_cell cC0)]; exact cC0); clear B5))
            go_wp2_with fail
            go_roundw
            case rel => exact ⟨i + 1, by omega, by omega, by go_num, HI⟩
            case measure => simp [intOf]; omega
          · have hk' : ¬ (KB : Int) < (KA : Int) := by omega
            have hle := hsv (by omega)
            have rlo : rg Ieee.double A ≤ Ieee.double.infRung := by rw [rg64, inf64]; exact HN.out.1
            have rhi : rg Ieee.double B ≤ Ieee.double.infRung := by rw [rg64, inf64]; exact HN.out.2
            have hab := b64_abs C HA.out.2.2
            obtain ⟨c, hc, hcl⟩ : ∃ c, C % 9223372036854775808 = c ∧ c < 9223372036854775808 := ⟨_, rfl, Nat.mod_lt _ (by omega)⟩
            rw [hc] at hab
            clear hc
            have hcs : sg Ieee.double c = false := by rw [sg64 c (by omega), decide_eq_false (by omega)]
            obtain ⟨T, hT⟩ : ∃ T : Nat, T = 1074 := ⟨_, rfl⟩
            have hTl : Ieee.double.leastPlace = -(T : Int) := by rw [hT]; decide
            have nA : Hid (NotAb (told64 (Ieee.double.add A C)) (told64 (Ieee.double.add B C))) := notAb_told fun r s h1 h2 => add_mono f64' e64 A B C r s rlo rhi hle h1 h2
            have nM : Hid (NotAb (told64 (Ieee.double.mul A c)) (told64 (Ieee.double.mul B c))) := notAb_told fun r s h1 h2 => mul_mono f64' e64 T hTl A B c r s rlo rhi hcs hle h1 h2
            have nR : Hid (NotAb (told64 (Ieee.double.sqrt A)) (told64 (Ieee.double.sqrt B))) := notAb_told fun r s h1 h2 => sqrt_mono f64' e64 T hTl A B r s rlo rhi hle h1 h2
            have nD : Hid (NotAb (told64 (Ieee.double.div A c)) (told64 (Ieee.double.div B c))) := notAb_told fun r s h1 h2 => div_mono f64' e64 T hTl A B c r s rlo rhi hcs hle h1 h2
            have nE : Hid (NotAb (evn A) (evn B)) := .inr (.inr (evn_mono A B rlo rhi hle))
            have nW : Hid (NotAb (wid (narr A)) (wid (narr B))) := narrow_mono A B HA.out.1 HA.out.2.1 HN.out.1 HN.out.2 hle
            have HE1 := fhide (fun w : World => Round_even A w rlo)
            have HE2 := fhide (fun w : World => Round_even B w rhi)
            have HNr1 := fhide (fun w : World => Narrow_any A w HA.out.1)
            have HNr2 := fhide (fun w : World => Narrow_any B w HA.out.2.1)
            have HWd1 := fhide (fun w : World => Widen_any (narr A) w (narr_lt A HA.out.1))
            have HWd2 := fhide (fun w : World => Widen_any (narr B) w (narr_lt B HA.out.2.1))
            have llo : A < 18446744073709551616 := HA.out.1
            have lhi : B < 18446744073709551616 := HA.out.2.1
            have HAd : Hid (∀ (x : Nat) (w : World), Calls Try.prog 30 #[.int .u64 x, .int .u64 C] w fun e w' => e = .returned (.int .u64 ((fun x => told64 (Ieee.double.add x C)) x : Nat)) ∧ Below w.heap.size w w') := fun x w => Add64_any x C w
            have HMu : Hid (∀ (x : Nat) (w : World), Calls Try.prog 31 #[.int .u64 x, .int .u64 c] w fun e w' => e = .returned (.int .u64 ((fun x => told64 (Ieee.double.mul x c)) x : Nat)) ∧ Below w.heap.size w w') := fun x w => Mul64_any x c w
            have HRo : Hid (∀ (x : Nat) (w : World), Calls Try.prog 32 #[.int .u64 x] w fun e w' => e = .returned (.int .u64 ((fun x => told64 (Ieee.double.sqrt x)) x : Nat)) ∧ Below w.heap.size w w') := fun x w => Root64_any x w
            have HDi : Hid (∀ (x : Nat) (w : World), x < 18446744073709551616 → Calls Try.prog 33 #[.int .u64 x, .int .u64 c] w fun e w' => e = .returned (.int .u64 ((fun x => told64 (Ieee.double.div x c)) x : Nat)) ∧ Below w.heap.size w w') := fun x w hx => Div64_any x c w hx (by omega)
            have nA : Hid (NotAb ((fun x => told64 (Ieee.double.add x C)) A) ((fun x => told64 (Ieee.double.add x C)) B)) := nA
            have nM : Hid (NotAb ((fun x => told64 (Ieee.double.mul x c)) A) ((fun x => told64 (Ieee.double.mul x c)) B)) := nM
            have nR : Hid (NotAb ((fun x => told64 (Ieee.double.sqrt x)) A) ((fun x => told64 (Ieee.double.sqrt x)) B)) := nR
            have nD : Hid (NotAb ((fun x => told64 (Ieee.double.div x c)) A) ((fun x => told64 (Ieee.double.div x c)) B)) := nD
            generalize (fun x => told64 (Ieee.double.add x C)) = fA at *
            generalize (fun x => told64 (Ieee.double.mul x c)) = fM at *
            generalize (fun x => told64 (Ieee.double.sqrt x)) = fR at *
            generalize (fun x => told64 (Ieee.double.div x c)) = fD at *
            generalize wid (narr A) = W1 at *
            generalize wid (narr B) = W2 at *
            generalize narr A = N1 at *
            generalize narr B = N2 at *
            generalize evn A = E1 at *
            generalize evn B = E2 at *
            have HNot := fhide (fun (x y : Nat) (h : NotAb x y) (w : World) => notAbove_any x y w h)
            have LL := fhide (And.intro llo lhi)
            clear hle rlo rhi hcl hcs hT hTl hsv hsv2 ka kb hk HN HA llo lhi
            go_wp2_with (simp only [hab])
            refine (HE1.out _).mono ?_
            rintro e x8 ⟨rfl, hb8⟩
            have J8 := fhide (J7.out.trans (hb8.mono J7.out.size))
            clear hb8 J7
            go_wp2_with (simp only [hab])
            refine (HE2.out _).mono ?_
            rintro e x9 ⟨rfl, hb9⟩
            have J9 := fhide (J8.out.trans (hb9.mono J8.out.size))
            clear hb9 J8
            go_wp2_with fail
            refine (num_any _ _).mono ?_
            rintro e x10 ⟨rfl, rfl⟩
            go_wp2_with fail
            refine (num_any _ _).mono ?_
            rintro e x11 ⟨rfl, rfl⟩
            go_wp2_with fail
            refine (HNot.out _ _ nE.out _).mono ?_
            rintro e x12 ⟨rfl, hb12⟩
            have J12 := fhide (J9.out.trans (hb12.mono J9.out.size))
            clear hb12 J9
            go_wp2_with fail
            refine (HNr1.out _).mono ?_
            rintro e x13 ⟨rfl, hb13⟩
            have J13 := fhide (J12.out.trans (hb13.mono J12.out.size))
            clear hb13 J12
            go_wp2_with fail
            refine (HWd1.out _).mono ?_
            rintro e x14 ⟨rfl, hb14⟩
            have J14 := fhide (J13.out.trans (hb14.mono J13.out.size))
            clear hb14 J13
            go_wp2_with fail
            refine (HNr2.out _).mono ?_
            rintro e x15 ⟨rfl, hb15⟩
            have J15 := fhide (J14.out.trans (hb15.mono J14.out.size))
            clear hb15 J14
            go_wp2_with fail
            refine (HWd2.out _).mono ?_
            rintro e x16 ⟨rfl, hb16⟩
            have J16 := fhide (J15.out.trans (hb16.mono J15.out.size))
            clear hb16 J15
            go_wp2_with fail
            refine (HNot.out _ _ nW.out _).mono ?_
            rintro e x17 ⟨rfl, hb17⟩
            have J17 := fhide (J16.out.trans (hb17.mono J16.out.size))
            clear hb17 J16
            have HI := fhide J17.out.drew
            have cC0 : x17.drew.cell? ⟨g, o + i * 3 + 2, none⟩ = some (.int .u64 C) := by rw [HI.out.cell (p := ⟨g, o + i * 3 + 2, none⟩) HG.out]; exact HC2.out
            clear cC1 HE1 HE2 HNr1 HNr2 HWd1 HWd2 nE nW J17
            go_wp2_with fail
            go_region_held3 (fun w' => w'.cell? ⟨g, o + i * 3 + 2, none⟩ = some (.int .u64 C)) (exact cC0)
              (first | (go_at_call 30; go_must (refine (HAd.out _ _).mono ?_); rintro _ w5 ⟨rfl, B5⟩; have HI := fhide (HI.out.trans (B5.mono HI.out.size)); have cC0 : w5.cell? ⟨g, o + i * 3 + 2, none⟩ = some (.int .u64 C) := (by rw [B5.cell (p := ⟨g, o + i * 3 + 2, none⟩) (block_lt_of_cell cC0)]; exact cC0); clear B5) | (go_at_call 31; go_must (refine (HMu.out _ _).mono ?_); rintro _ w5 ⟨rfl, B5⟩; have HI := fhide (HI.out.trans (B5.mono HI.out.size)); have cC0 : w5.cell? ⟨g, o + i * 3 + 2, none⟩ = some (.int .u64 C) := (by rw [B5.cell (p := ⟨g, o + i * 3 + 2, none⟩) (block_lt_of_cell cC0)]; exact cC0); clear B5) | (go_at_call 32; go_must (refine (HRo.out _ _).mono ?_); rintro _ w5 ⟨rfl, B5⟩; have HI := fhide (HI.out.trans (B5.mono HI.out.size)); have cC0 : w5.cell? ⟨g, o + i * 3 + 2, none⟩ = some (.int .u64 C) := (by rw [B5.cell (p := ⟨g, o + i * 3 + 2, none⟩) (block_lt_of_cell cC0)]; exact cC0); clear B5) | (go_at_call 33; go_must (refine (HDi.out _ _ (by first | exact LL.out.1 | exact LL.out.2)).mono ?_); rintro _ w5 ⟨rfl, B5⟩; have HI := fhide (HI.out.trans (B5.mono HI.out.size)); have cC0 : w5.cell? ⟨g, o + i * 3 + 2, none⟩ = some (.int .u64 C) := (by rw [B5.cell (p := ⟨g, o + i * 3 + 2, none⟩) (block_lt_of_cell cC0)]; exact cC0); clear B5) | (go_at_call 27; go_must (refine (HNot.out _ _ (by first | exact nA.out | exact nM.out | exact nR.out | exact nD.out) _).mono ?_); rintro _ w5 ⟨rfl, B5⟩; have HI := fhide (HI.out.trans (B5.mono HI.out.size)); have cC0 : w5.cell? ⟨g, o + i * 3 + 2, none⟩ = some (.int .u64 C) := (by rw [B5.cell (p := ⟨g, o + i * 3 + 2, none⟩) (block_lt_of_cell cC0)]; exact cC0); clear B5))
            go_wp2_with fail
            go_roundw
            case rel => exact ⟨i + 1, by omega, by omega, by go_num, HI⟩
            case measure => simp [intOf]; omega
    · by_cases hl : i < len0
      · have g1 : (i : Int) < (len0 : Int) := by omega
        have g2 : ¬ (i : Int) < 2000 := by omega
        go_wp2_with fail
        refine (wakes_any _).mono ?_
        rintro e v14 ⟨rfl, hb14⟩
        go_wp2_with fail
        go_ret
        exact ⟨rfl, HI.out.trans (hb14.mono HI.out.size)⟩
      · have g1 : ¬ (i : Int) < (len0 : Int) := by omega
        go_wp2_with fail
        refine (wakes_any _).mono ?_
        rintro e v14 ⟨rfl, hb14⟩
        go_wp2_with fail
        go_ret
        exact ⟨rfl, HI.out.trans (hb14.mono HI.out.size)⟩
end Go.Proofs.Ytdiinhccfifiaab

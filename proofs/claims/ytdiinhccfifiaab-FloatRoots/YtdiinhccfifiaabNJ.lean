/- FloatRoots: its walk. -/
import Derived.Test.YtdiinhccfifiaabNG
import Derived.Test.YtdiinhccfifiaabNI
import Derived.Test.YtdiinhccfifiaabFV
namespace Go.Proofs.Ytdiinhccfifiaab
open Go.RowKit
open Flt
set_option linter.unusedVariables false
set_option linter.unusedSimpArgs false

theorem run_sqrt_some (a r : Nat) (w : World) (h : Ieee.double.sqrt a = some r) : (callFunc 90 #[.float .f64 a]).run Try.prog w = .ok (.value (.float .f64 r)) w := by
  rw [run_callFunc_extern Try.func90 (by kernel_rfl) (by kernel_rfl) (by kernel_rfl) (e := Extern.MathSqrt.sqrt) (by kernel_rfl)]
  have h' : FloatKind.f64.format.sqrt a = some r := h
  show Result.andThen (Sem.run Try.prog (match FloatKind.f64.format.sqrt a with | some r => (pure (Value.float .f64 r) : Sem Value) | none => (do pure (.float .f64 (← choose (.nanBits .f64 a a))))) w) _ = _
  rw [h']
  rfl
set_option maxRecDepth 100000 in
theorem Sqrt_some (a r : Nat) (w : World) (h : Ieee.double.sqrt a = some r) : Calls Try.prog 59 #[.float .f64 a] w fun e w' => e = .returned (.float .f64 r) ∧ w' = w := by
  have hs := fun w : World => run_sqrt_some a r w h
  go_enter Try.func59, Try.ntmps59
  go_wp2_with (simp only [hs])
  go_ret
  exact ⟨rfl, rfl⟩
set_option maxRecDepth 100000 in
theorem Root64_some (a r : Nat) (w : World) (h : Ieee.double.sqrt a = some r) (hr : r < 9218868437227405312) : Calls Try.prog 32 #[.int .u64 a] w fun e w' => e = .returned (.int .u64 r) ∧ Below w.heap.size w w' := by
  have HP : Hid (∀ w : World, Calls Try.prog 69 #[.float .f64 r] w fun e w' => e = .returned (.int .u64 r) ∧ Below w.heap.size w w') := fun w => by
    have := pattern64_any r w (by omega)
    rwa [pat64_num r (by omega)] at this
  clear hr
  go_enter Try.func32, Try.ntmps32
  go_wp2_with fail
  refine (value64_any a _).mono ?_
  rintro e w1 ⟨rfl, rfl⟩
  go_wp2_with fail
  refine (Sqrt_some a r _ h).mono ?_
  rintro e w2 ⟨rfl, rfl⟩
  go_wp2_with fail
  refine (HP.out _).mono ?_
  rintro e w3 ⟨rfl, hb3⟩
  go_wp2_with fail
  go_ret
  exact ⟨rfl, hb3⟩
theorem sqrt_mid64 (a T : Nat) (ha : a < 9218868437227405312) (ha0 : a ≠ 0) (hT : T = 1076) :
    ∃ R, R < 9218868437227405312 ∧ R ≠ 0 ∧ Ieee.double.sqrt a = some R ∧ (V Ieee.double R + V Ieee.double (R - 1)) * (V Ieee.double R + V Ieee.double (R - 1)) ≤ V Ieee.double a * 2 ^ T ∧ V Ieee.double a * 2 ^ T ≤ (V Ieee.double R + V Ieee.double (R + 1)) * (V Ieee.double R + V Ieee.double (R + 1)) := by
  have e1 : rg Ieee.double a = a := by rw [rg64]; omega
  have s1 : sg Ieee.double a = false := by
    show (a / 9223372036854775808 % 2 == 1) = false
    rw [show a / 9223372036854775808 = 0 by omega]; rfl
  have := sqrt_mid a T (by rw [e1, inf64]; exact ha) (by rw [e1]; exact ha0) s1 hT
  rw [e1, inf64] at this
  exact this

set_option maxRecDepth 100000 in
set_option maxHeartbeats 8000000 in
theorem roots_any (a0 : Option Addr) (len0 cap0 : Nat) (w : World) (h : IsWords w a0 len0) :
    Calls Try.prog 7 #[.slice a0 len0 cap0] w fun e w' => e = .returned (.bool true) ∧ Below w.heap.size w w' := by
  obtain ⟨hlen, hcell⟩ := h
  have HC := fhide hcell
  clear hcell
  go_enter Try.func7, Try.ntmps7
  go_wp2_with fail
  go_loopw [3] (fun t3 wr => ∃ i : Nat, i ≤ len0 ∧ i ≤ 2000 ∧ t3 = .int .i64 i ∧ Hid (Below w.heap.size w wr)) (fun t3 _ => 2000 - (intOf t3).toNat)
  case atStart => exact ⟨0, by omega, by omega, rfl, Below.refl _ _⟩
  case round =>
    obtain ⟨i, hi, hi20, rfl, HI⟩ := hrel
    by_cases hgo : i < len0 ∧ i < 2000
    · have g1 : (i : Int) < (len0 : Int) := by omega
      have g2 : (i : Int) < 2000 := by omega
      obtain ⟨g, o, rfl, hg, hj⟩ := HC.out (by omega)
      obtain ⟨A, hA, cA⟩ := hj i hgo.1
      have cA0 : wr.cell? ⟨g, o + i, none⟩ = some (.int .u64 A) := by rw [HI.out.cell (p := ⟨g, o + i, none⟩) hg]; exact cA
      have HA := fhide (hA)
      clear hj hgo cA hA
      have hab := b64_abs A HA.out
      obtain ⟨a, ha, hal⟩ : ∃ a, A % 9223372036854775808 = a ∧ Hid (a < 9223372036854775808) := ⟨_, rfl, Nat.mod_lt _ (by omega)⟩
      rw [ha] at hab
      clear ha
      have HFa : Hid (∀ w : World, Calls Try.prog 36 #[.int .u64 a] w fun e w' => e = .returned (.bool (decide (a < 9218868437227405312))) ∧ w' = w) := fun w => by
        have := finite_any a w (by have := hal.out; omega)
        rwa [Nat.mod_eq_of_lt hal.out] at this
      clear HA
      go_wp2_with (simp only [hab])
      refine (HFa.out _).mono ?_
      rintro e x0 ⟨rfl, rfl⟩
      clear cA0
      by_cases hfa : a < 9218868437227405312
      · rw [decide_eq_true hfa]
        have Hfa := fhide hfa
        clear hfa HFa hab
        by_cases ha0 : a = 0
        · have ha0' : ((a : Int) == 0) = true := by simp; omega
          clear ha0
          go_wp2_with fail
          go_roundw
          case rel => exact ⟨i + 1, by omega, by omega, by go_num, HI⟩
          case measure => simp [intOf]; omega
        · have ha0' : ((a : Int) == 0) = false := by simp; omega
          obtain ⟨T, hT⟩ : ∃ T : Nat, T = 1076 := ⟨_, rfl⟩
          obtain ⟨R, hRF, hR0, hdiv, hlo, hhi⟩ := sqrt_mid64 a T Hfa.out ha0 hT
          clear ha0
          have HD := fhide (fun w : World => Root64_some a R w hdiv hRF)
          have HFq : Hid (∀ w : World, Calls Try.prog 36 #[.int .u64 R] w fun e w' => e = .returned (.bool true) ∧ Below w.heap.size w w') := fun w => by
            refine (finite_any R w (by omega)).mono ?_
            rintro e w' ⟨rfl, rfl⟩
            exact ⟨by rw [decide_eq_true (by omega)], Below.refl _ _⟩
          have hand := b64_and_lo R (by omega)
          have h0' : ((R : Int) == 0) = false := by simp; omega
          have HUa := fhide (fun w : World => lUnits a w hal.out)
          have HT1 : Hid (∀ (w : World) (v : Value) (N : Nat), LimB 100 w v N → Calls Try.prog 40 #[v, .int .i64 1076] w fun e w' => ∃ r, e = .returned r ∧ LimB 200 w' r (N * 2 ^ T) ∧ Below w.heap.size w w') := by
            intro w v N hv
            have h2 := lUp2 (n := T) hv (by omega) (by omega)
            rw [show ((T : Nat) : Int) = 1076 by omega] at h2
            refine h2.mono ?_
            rintro e w' ⟨r, rfl, ⟨k, k1, k2, k3⟩, hb⟩
            exact ⟨r, rfl, ⟨k, k1, k2, by omega⟩, hb⟩
          obtain ⟨p, hp, hp1⟩ : ∃ p : Nat, R - 1 = p ∧ (R : Int) - 1 = (p : Int) := ⟨_, rfl, by omega⟩
          obtain ⟨s, hs, hs1⟩ : ∃ s : Nat, R + 1 = s ∧ (R : Int) + 1 = (s : Int) := ⟨_, rfl, by omega⟩
          rw [hp] at hlo
          rw [hs] at hhi
          have hsM : (s : Int) % 18446744073709551616 = (s : Int) := by omega
          have hsW : IntKind.u64.wrap (s : Int) = (s : Int) := by rw [IntKind.wrap_u64]; exact hsM
          have HTq := fhide (fun w : World => lUnits R w (by omega))
          have HTp := fhide (fun w : World => lUnits p w (by omega))
          have HTs := fhide (fun w : World => lUnits s w (by omega))
          generalize V Ieee.double a = Va at *
          generalize V Ieee.double R = Vq at *
          generalize V Ieee.double p = Vp at *
          generalize V Ieee.double s = Vs at *
          have Hlo := fhide hlo
          have Hhi := fhide hhi
          have HRF := fhide hRF
          clear hlo hhi hdiv hp hs Hfa hT hRF hR0
          go_wp2_with fail
          refine (HD.out _).mono ?_
          rintro e x1 ⟨rfl, hb1⟩
          have J1 := fhide (HI.out.trans (hb1.mono HI.out.size))
          clear hb1 HI
          go_wp2_with fail
          refine (HFq.out _).mono ?_
          rintro e x2 ⟨rfl, hb2⟩
          have J2 := fhide (J1.out.trans (hb2.mono J1.out.size))
          clear hb2 J1
          go_wp2_with (simp only [hand])
          refine (HTq.out _).mono ?_
          rintro e x3 ⟨rq, rfl, hl3, hb3⟩
          have J3 := fhide (J2.out.trans (hb3.mono J2.out.size))
          have L3q := fhide hl3
          clear hb3 J2 hl3
          go_wp2_with (simp only [hp1])
          refine (HTp.out _).mono ?_
          rintro e x4 ⟨rr, rfl, hl4, hb4⟩
          have J4 := fhide (J3.out.trans (hb4.mono J3.out.size))
          have L4q := fhide (L3q.out.below hb4)
          have L4r := fhide hl4
          clear hb4 J3 L3q hl4
          go_wp2_with fail
          refine (lSum L4q.out L4r.out (by omega) (by omega)).mono ?_
          rintro e x5 ⟨rlo, rfl, hl5, hb5⟩
          have J5 := fhide (J4.out.trans (hb5.mono J4.out.size))
          have L5q := fhide (L4q.out.below hb5)
          have L5r := fhide (L4r.out.below hb5)
          have L5lo := fhide hl5
          clear hb5 J4 L4q L4r hl5
          go_wp2_with fail
          refine (HTq.out _).mono ?_
          rintro e x6 ⟨rq, rfl, hl6, hb6⟩
          have J6 := fhide (J5.out.trans (hb6.mono J5.out.size))
          have L6lo := fhide (L5lo.out.below hb6)
          have L6q := fhide hl6
          clear hb6 J5 L5lo hl6
          go_wp2_with (simp only [hs1, hsM, hsW])
          refine (HTs.out _).mono ?_
          rintro e x7 ⟨rr, rfl, hl7, hb7⟩
          have J7 := fhide (J6.out.trans (hb7.mono J6.out.size))
          have L7lo := fhide (L6lo.out.below hb7)
          have L7q := fhide (L6q.out.below hb7)
          have L7r := fhide hl7
          clear hb7 J6 L6lo L6q hl7
          go_wp2_with fail
          refine (lSum L7q.out L7r.out (by omega) (by omega)).mono ?_
          rintro e x8 ⟨rhi, rfl, hl8, hb8⟩
          have J8 := fhide (J7.out.trans (hb8.mono J7.out.size))
          have L8lo := fhide (L7lo.out.below hb8)
          have L8q := fhide (L7q.out.below hb8)
          have L8r := fhide (L7r.out.below hb8)
          have L8hi := fhide hl8
          clear hb8 J7 L7lo L7q L7r hl8
          go_wp2_with fail
          refine (HUa.out _).mono ?_
          rintro e x9 ⟨ra, rfl, hl9, hb9⟩
          have J9 := fhide (J8.out.trans (hb9.mono J8.out.size))
          have L9lo := fhide (L8lo.out.below hb9)
          have L9hi := fhide (L8hi.out.below hb9)
          have L9a := fhide hl9
          clear hb9 J8 L8lo L8hi hl9
          go_wp2_with fail
          refine (HT1.out _ _ _ L9a.out).mono ?_
          rintro e x10 ⟨rw, rfl, hl10, hb10⟩
          have J10 := fhide (J9.out.trans (hb10.mono J9.out.size))
          have L10lo := fhide (L9lo.out.below hb10)
          have L10hi := fhide (L9hi.out.below hb10)
          have L10a := fhide (L9a.out.below hb10)
          have L10w := fhide hl10
          clear hb10 J9 L9lo L9hi L9a hl10
          go_wp2_with fail
          refine (lTimes L10lo.out L10lo.out (by omega) (by omega)).mono ?_
          rintro e x11 ⟨rt, rfl, hl11, hb11⟩
          have J11 := fhide (J10.out.trans (hb11.mono J10.out.size))
          have L11lo := fhide (L10lo.out.below hb11)
          have L11hi := fhide (L10hi.out.below hb11)
          have L11w := fhide (L10w.out.below hb11)
          have L11t := fhide hl11
          clear hb11 J10 L10lo L10hi L10w hl11
          go_wp2_with fail
          refine (lCmp L11t.out L11w.out).mono ?_
          rintro e x12 ⟨rfl, hb12⟩
          have J12 := fhide (J11.out.trans (hb12.mono J11.out.size))
          have L12lo := fhide (L11lo.out.below hb12)
          have L12hi := fhide (L11hi.out.below hb12)
          have L12w := fhide (L11w.out.below hb12)
          have L12t := fhide (L11t.out.below hb12)
          clear hb12 J11 L11lo L11hi L11w L11t
          have hc1 := cmp_le Hlo.out
          generalize M.cmpI ((Vq + Vp) * (Vq + Vp)) (Va * 2 ^ T) = cc at *
          go_wp2_with fail
          refine (lTimes L12hi.out L12hi.out (by omega) (by omega)).mono ?_
          rintro e x13 ⟨rt, rfl, hl13, hb13⟩
          have J13 := fhide (J12.out.trans (hb13.mono J12.out.size))
          have L13lo := fhide (L12lo.out.below hb13)
          have L13hi := fhide (L12hi.out.below hb13)
          have L13w := fhide (L12w.out.below hb13)
          have L13t := fhide hl13
          clear hb13 J12 L12lo L12hi L12w hl13
          go_wp2_with fail
          refine (lCmp L13w.out L13t.out).mono ?_
          rintro e x14 ⟨rfl, hb14⟩
          have J14 := fhide (J13.out.trans (hb14.mono J13.out.size))
          have L14lo := fhide (L13lo.out.below hb14)
          have L14hi := fhide (L13hi.out.below hb14)
          have L14w := fhide (L13w.out.below hb14)
          have L14t := fhide (L13t.out.below hb14)
          clear hb14 J13 L13lo L13hi L13w L13t
          have hc2 := cmp_le Hhi.out
          generalize M.cmpI (Va * 2 ^ T) ((Vq + Vs) * (Vq + Vs)) = cd at *
          go_wp2_with fail
          go_roundw
          case rel => exact ⟨i + 1, by omega, by omega, by go_num, J14⟩
          case measure => simp [intOf]; omega
      · rw [decide_eq_false hfa]
        clear hfa
        go_wp2_with fail
        go_roundw
        case rel => exact ⟨i + 1, by omega, by omega, by go_num, HI⟩
        case measure => simp [intOf]; omega
    · by_cases hl : i < len0
      · have g1 : (i : Int) < (len0 : Int) := by omega
        have g2 : ¬ (i : Int) < 2000 := by omega
        go_wp2_with fail
        refine (wakes_any _).mono ?_
        rintro e v14 ⟨rfl, hb14⟩
        go_wp2_with fail
        go_ret
        exact ⟨rfl, HI.out.trans (hb14.mono HI.out.size)⟩
      · have g1 : ¬ (i : Int) < (len0 : Int) := by omega
        go_wp2_with fail
        refine (wakes_any _).mono ?_
        rintro e v14 ⟨rfl, hb14⟩
        go_wp2_with fail
        go_ret
        exact ⟨rfl, HI.out.trans (hb14.mono HI.out.size)⟩
end Go.Proofs.Ytdiinhccfifiaab

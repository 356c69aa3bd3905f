/- FloatQuotients: its walk. -/
import Derived.Test.YtdiinhccfifiaacNG
namespace Go.Proofs.Ytdiinhccfifiaac
open Go.RowKit
open Flt
set_option linter.unusedVariables false
set_option linter.unusedSimpArgs false

set_option maxRecDepth 100000 in
set_option maxHeartbeats 8000000 in
theorem quotients_any (a0 : Option Addr) (len0 cap0 : Nat) (w : World) (h : IsTwos w a0 len0) :
    Calls Try.prog 3 #[.slice a0 len0 cap0] w fun e w' => e = .returned (.bool true) ∧ Below w.heap.size w w' := by
  obtain ⟨hlen, hcell⟩ := h
  have HC := fhide hcell
  clear hcell
  go_enter Try.func3, Try.ntmps3
  go_wp2_with fail
  go_loopw [3] (fun t3 wr => ∃ i : Nat, i ≤ len0 ∧ i ≤ 2000 ∧ t3 = .int .i64 i ∧ Hid (Below w.heap.size w wr)) (fun t3 _ => 2000 - (intOf t3).toNat)
  case atStart => exact ⟨0, by omega, by omega, rfl, Below.refl _ _⟩
  case round =>
    obtain ⟨i, hi, hi20, rfl, HI⟩ := hrel
    by_cases hgo : i < len0 ∧ i < 2000
    · have g1 : (i : Int) < (len0 : Int) := by omega
      have g2 : (i : Int) < 2000 := by omega
      obtain ⟨g, o, rfl, hg, hj⟩ := HC.out (by omega)
      obtain ⟨A, B, hA, hB, cA, cB⟩ := hj i hgo.1
      have cA0 : wr.cell? ⟨g, o + i * 2, none⟩ = some (.int .u64 A) := by rw [HI.out.cell (p := ⟨g, o + i * 2, none⟩) hg]; exact cA
      have cB0 : wr.cell? ⟨g, o + i * 2 + 1, none⟩ = some (.int .u64 B) := by rw [HI.out.cell (p := ⟨g, o + i * 2 + 1, none⟩) hg]; exact cB
      have HA := fhide (And.intro hA hB)
      clear hj hgo cA cB hA hB
      have hab := b64_abs A HA.out.1
      have hbb := b64_abs B HA.out.2
      obtain ⟨a, ha, hal⟩ : ∃ a, A % 9223372036854775808 = a ∧ Hid (a < 9223372036854775808) := ⟨_, rfl, Nat.mod_lt _ (by omega)⟩
      obtain ⟨b, hb, hbl⟩ : ∃ b, B % 9223372036854775808 = b ∧ Hid (b < 9223372036854775808) := ⟨_, rfl, Nat.mod_lt _ (by omega)⟩
      rw [ha] at hab
      rw [hb] at hbb
      clear ha hb
      have HFa : Hid (∀ w : World, Calls Try.prog 6 #[.int .u64 a] w fun e w' => e = .returned (.bool (decide (a < 9218868437227405312))) ∧ w' = w) := fun w => by
        have := finite_any a w (by have := hal.out; omega)
        rwa [Nat.mod_eq_of_lt hal.out] at this
      have HFb : Hid (∀ w : World, Calls Try.prog 6 #[.int .u64 b] w fun e w' => e = .returned (.bool (decide (b < 9218868437227405312))) ∧ w' = w) := fun w => by
        have := finite_any b w (by have := hbl.out; omega)
        rwa [Nat.mod_eq_of_lt hbl.out] at this
      clear HA
      go_wp2_with (simp only [hab, hbb])
      refine (HFa.out _).mono ?_
      rintro e x0 ⟨rfl, rfl⟩
      clear cA0 cB0
      by_cases hfa : a < 9218868437227405312
      · rw [decide_eq_true hfa]
        have Hfa := fhide hfa
        clear hfa
        go_wp2_with fail
        refine (HFb.out _).mono ?_
        rintro e x0 ⟨rfl, rfl⟩
        by_cases hfb : b < 9218868437227405312
        · rw [decide_eq_true hfb]
          have Hfb := fhide hfb
          clear hfb HFa HFb hab hbb
          by_cases ha0 : a = 0
          · have ha0' : ((a : Int) == 0) = true := by simp; omega
            clear ha0
            go_wp2_with fail
            go_roundw
            case rel => exact ⟨i + 1, by omega, by omega, by go_num, HI⟩
            case measure => simp [intOf]; omega
          · have ha0' : ((a : Int) == 0) = false := by simp; omega
            by_cases hb0 : b = 0
            · have hb0' : ((b : Int) == 0) = true := by simp; omega
              clear ha0 hb0
              go_wp2_with fail
              go_roundw
              case rel => exact ⟨i + 1, by omega, by omega, by go_num, HI⟩
              case measure => simp [intOf]; omega
            · have hb0' : ((b : Int) == 0) = false := by simp; omega
              obtain ⟨T, hT⟩ : ∃ T : Nat, T = 1075 := ⟨_, rfl⟩
              obtain ⟨R, hRF, hdiv, hlo, hhi⟩ := div_mid64 a b T Hfa.out Hfb.out ha0 hb0 hT
              clear ha0 hb0
              have HD : Hid (∀ w : World, Calls Try.prog 7 #[.int .u64 a, .int .u64 b] w fun e w' => e = .returned (.int .u64 R) ∧ Below w.heap.size w w') := fun w => by
                have := Div64_any a b w (by have := hal.out; omega) (by have := hbl.out; omega)
                rwa [hdiv] at this
              have HNq : Hid (∀ w : World, Calls Try.prog 8 #[.int .u64 R] w fun e w' => e = .returned (.bool false) ∧ Below w.heap.size w w') := fun w => by
                refine (nan_any R w (by omega)).mono ?_
                rintro e w' ⟨rfl, rfl⟩
                exact ⟨by rw [decide_eq_false (by omega)], Below.refl _ _⟩
              have hand := b64_and_lo R (by omega)
              have HUa := fhide (fun w : World => lUnits a w hal.out)
              have HUb := fhide (fun w : World => lUnits b w hbl.out)
              have HT1 : Hid (∀ (w : World) (v : Value) (N : Nat), LimB 100 w v N → Calls Try.prog 9 #[v, .int .i64 1075] w fun e w' => ∃ r, e = .returned r ∧ LimB 200 w' r (N * 2 ^ T) ∧ Below w.heap.size w w') := by
                intro w v N hv
                have h2 := lUp2 (n := T) hv (by omega) (by omega)
                rw [show ((T : Nat) : Int) = 1075 by omega] at h2
                refine h2.mono ?_
                rintro e w' ⟨r, rfl, ⟨k, k1, k2, k3⟩, hb⟩
                exact ⟨r, rfl, ⟨k, k1, k2, by omega⟩, hb⟩
              obtain ⟨p, hp, hp1⟩ : ∃ p : Nat, R - 1 = p ∧ (R ≠ 0 → (R : Int) - 1 = (p : Int)) := ⟨_, rfl, by omega⟩
              obtain ⟨s, hs, hs1⟩ : ∃ s : Nat, R + 1 = s ∧ (R : Int) + 1 = (s : Int) := ⟨_, rfl, by omega⟩
              rw [hp] at hlo
              rw [hs] at hhi
              have hsM : (s : Int) % 18446744073709551616 = (s : Int) := by omega
              have hsW : IntKind.u64.wrap (s : Int) = (s : Int) := by rw [IntKind.wrap_u64]; exact hsM
              have HTq := fhide (fun w : World => lTop R w (by omega))
              have HTp := fhide (fun w : World => lTop p w (by omega))
              have HTs := fhide (fun w : World => lTop s w (by omega))
              generalize V Ieee.double a = Va at *
              generalize V Ieee.double b = Vb at *
              generalize V Ieee.double R = Vq at *
              generalize V Ieee.double p = Vp at *
              generalize V Ieee.double s = Vs at *
              have Hlo := fhide hlo
              have Hhi := fhide hhi
              have HRF := fhide hRF
              clear hlo hhi hdiv hp hs Hfa Hfb hT hRF
              go_wp2_with fail
              refine (HD.out _).mono ?_
              rintro e x1 ⟨rfl, hb1⟩
              have J1 := fhide (HI.out.trans (hb1.mono HI.out.size))
              clear hb1 HI
              go_wp2_with fail
              refine (HNq.out _).mono ?_
              rintro e x2 ⟨rfl, hb2⟩
              have J2 := fhide (J1.out.trans (hb2.mono J1.out.size))
              clear hb2 J1
              go_wp2_with (simp only [hand])
              refine (HUa.out _).mono ?_
              rintro e x3 ⟨ra, rfl, hl3, hb3⟩
              have J3 := fhide (J2.out.trans (hb3.mono J2.out.size))
              have L3a := fhide hl3
              clear hb3 J2 hl3
              go_wp2_with (simp only [hand])
              refine (HT1.out _ _ _ L3a.out).mono ?_
              rintro e x4 ⟨rp, rfl, hl4, hb4⟩
              have J4 := fhide (J3.out.trans (hb4.mono J3.out.size))
              have L4a := fhide (L3a.out.below hb4)
              have L4p := fhide hl4
              clear hb4 J3 L3a hl4
              go_wp2_with fail
              refine (HUb.out _).mono ?_
              rintro e x5 ⟨rd, rfl, hl5, hb5⟩
              have J5 := fhide (J4.out.trans (hb5.mono J4.out.size))
              have L5p := fhide (L4p.out.below hb5)
              have L5d := fhide hl5
              clear hb5 J4 L4p hl5
              by_cases h0 : R = 0
              · have h0' : ((R : Int) == 0) = true := by simp; omega
                have h0j : ((R : Int) != 0) = false := by simp; omega
                have hF : R ≠ 9218868437227405312 := by omega
                have hF' : ((R : Int) == 9218868437227405312) = false := by simp; omega
                have hFj : ((R : Int) != 9218868437227405312) = true := by simp; omega
                clear h0
                go_wp2_with fail
                refine (HTq.out _).mono ?_
                rintro e x6 ⟨rq, rfl, hl6, hb6⟩
                have J6 := fhide (J5.out.trans (hb6.mono J5.out.size))
                have L6p := fhide (L5p.out.below hb6)
                have L6d := fhide (L5d.out.below hb6)
                have L6q := fhide hl6
                clear hb6 J5 L5p L5d hl6
                go_wp2_with (simp only [hs1, hsM, hsW])
                refine (HTs.out _).mono ?_
                rintro e x7 ⟨rr, rfl, hl7, hb7⟩
                have J7 := fhide (J6.out.trans (hb7.mono J6.out.size))
                have L7p := fhide (L6p.out.below hb7)
                have L7d := fhide (L6d.out.below hb7)
                have L7q := fhide (L6q.out.below hb7)
                have L7r := fhide hl7
                clear hb7 J6 L6p L6d L6q hl7
                go_wp2_with fail
                refine (lSum L7q.out L7r.out (by omega) (by omega)).mono ?_
                rintro e x8 ⟨rs, rfl, hl8, hb8⟩
                have J8 := fhide (J7.out.trans (hb8.mono J7.out.size))
                have L8p := fhide (L7p.out.below hb8)
                have L8d := fhide (L7d.out.below hb8)
                have L8q := fhide (L7q.out.below hb8)
                have L8r := fhide (L7r.out.below hb8)
                have L8s := fhide hl8
                clear hb8 J7 L7p L7d L7q L7r hl8
                go_wp2_with fail
                refine (lTimes L8s.out L8d.out (by omega) (by omega)).mono ?_
                rintro e x9 ⟨rt, rfl, hl9, hb9⟩
                have J9 := fhide (J8.out.trans (hb9.mono J8.out.size))
                have L9p := fhide (L8p.out.below hb9)
                have L9d := fhide (L8d.out.below hb9)
                have L9q := fhide (L8q.out.below hb9)
                have L9r := fhide (L8r.out.below hb9)
                have L9s := fhide (L8s.out.below hb9)
                have L9t := fhide hl9
                clear hb9 J8 L8p L8d L8q L8r L8s hl9
                go_wp2_with fail
                refine (lCmp L9p.out L9t.out).mono ?_
                rintro e x10 ⟨rfl, hb10⟩
                have J10 := fhide (J9.out.trans (hb10.mono J9.out.size))
                have L10p := fhide (L9p.out.below hb10)
                have L10d := fhide (L9d.out.below hb10)
                have L10q := fhide (L9q.out.below hb10)
                have L10r := fhide (L9r.out.below hb10)
                have L10s := fhide (L9s.out.below hb10)
                have L10t := fhide (L9t.out.below hb10)
                clear hb10 J9 L9p L9d L9q L9r L9s L9t
                have hc2 := cmp_le (Hhi.out hF)
                generalize M.cmpI (Va * 2 ^ T) ((Vq + Vs) * Vb) = cd at *
                go_wp2_with fail
                go_roundw
                case rel => exact ⟨i + 1, by omega, by omega, by go_num, J10⟩
                case measure => simp [intOf]; omega
              · have h0' : ((R : Int) == 0) = false := by simp; omega
                have h0j : ((R : Int) != 0) = true := by simp; omega
                have hp2 := hp1 h0
                clear hp1
                go_wp2_with fail
                refine (HTq.out _).mono ?_
                rintro e x11 ⟨rq, rfl, hl11, hb11⟩
                have J11 := fhide (J5.out.trans (hb11.mono J5.out.size))
                have L11p := fhide (L5p.out.below hb11)
                have L11d := fhide (L5d.out.below hb11)
                have L11q := fhide hl11
                clear hb11 J5 L5p L5d hl11
                go_wp2_with (simp only [hp2])
                refine (HTp.out _).mono ?_
                rintro e x12 ⟨rr, rfl, hl12, hb12⟩
                have J12 := fhide (J11.out.trans (hb12.mono J11.out.size))
                have L12p := fhide (L11p.out.below hb12)
                have L12d := fhide (L11d.out.below hb12)
                have L12q := fhide (L11q.out.below hb12)
                have L12r := fhide hl12
                clear hb12 J11 L11p L11d L11q hl12
                go_wp2_with fail
                refine (lSum L12q.out L12r.out (by omega) (by omega)).mono ?_
                rintro e x13 ⟨rs, rfl, hl13, hb13⟩
                have J13 := fhide (J12.out.trans (hb13.mono J12.out.size))
                have L13p := fhide (L12p.out.below hb13)
                have L13d := fhide (L12d.out.below hb13)
                have L13q := fhide (L12q.out.below hb13)
                have L13r := fhide (L12r.out.below hb13)
                have L13s := fhide hl13
                clear hb13 J12 L12p L12d L12q L12r hl13
                go_wp2_with fail
                refine (lTimes L13s.out L13d.out (by omega) (by omega)).mono ?_
                rintro e x14 ⟨rt, rfl, hl14, hb14⟩
                have J14 := fhide (J13.out.trans (hb14.mono J13.out.size))
                have L14p := fhide (L13p.out.below hb14)
                have L14d := fhide (L13d.out.below hb14)
                have L14q := fhide (L13q.out.below hb14)
                have L14r := fhide (L13r.out.below hb14)
                have L14s := fhide (L13s.out.below hb14)
                have L14t := fhide hl14
                clear hb14 J13 L13p L13d L13q L13r L13s hl14
                go_wp2_with fail
                refine (lCmp L14t.out L14p.out).mono ?_
                rintro e x15 ⟨rfl, hb15⟩
                have J15 := fhide (J14.out.trans (hb15.mono J14.out.size))
                have L15p := fhide (L14p.out.below hb15)
                have L15d := fhide (L14d.out.below hb15)
                have L15q := fhide (L14q.out.below hb15)
                have L15r := fhide (L14r.out.below hb15)
                have L15s := fhide (L14s.out.below hb15)
                have L15t := fhide (L14t.out.below hb15)
                clear hb15 J14 L14p L14d L14q L14r L14s L14t
                have hc1 := cmp_le (Hlo.out h0)
                generalize M.cmpI ((Vq + Vp) * Vb) (Va * 2 ^ T) = cc at *
                clear h0
                by_cases hF : R = 9218868437227405312
                · have hF' : ((R : Int) == 9218868437227405312) = true := by simp; omega
                  have hFj : ((R : Int) != 9218868437227405312) = false := by simp; omega
                  clear hF
                  go_wp2_with fail
                  go_roundw
                  case rel => exact ⟨i + 1, by omega, by omega, by go_num, J15⟩
                  case measure => simp [intOf]; omega
                · have hF' : ((R : Int) == 9218868437227405312) = false := by simp; omega
                  have hFj : ((R : Int) != 9218868437227405312) = true := by simp; omega
                  go_wp2_with fail
                  refine (HTq.out _).mono ?_
                  rintro e x16 ⟨rq, rfl, hl16, hb16⟩
                  have J16 := fhide (J15.out.trans (hb16.mono J15.out.size))
                  have L16p := fhide (L15p.out.below hb16)
                  have L16d := fhide (L15d.out.below hb16)
                  have L16q := fhide hl16
                  clear hb16 J15 L15p L15d hl16
                  go_wp2_with (simp only [hs1, hsM, hsW])
                  refine (HTs.out _).mono ?_
                  rintro e x17 ⟨rr, rfl, hl17, hb17⟩
                  have J17 := fhide (J16.out.trans (hb17.mono J16.out.size))
                  have L17p := fhide (L16p.out.below hb17)
                  have L17d := fhide (L16d.out.below hb17)
                  have L17q := fhide (L16q.out.below hb17)
                  have L17r := fhide hl17
                  clear hb17 J16 L16p L16d L16q hl17
                  go_wp2_with fail
                  refine (lSum L17q.out L17r.out (by omega) (by omega)).mono ?_
                  rintro e x18 ⟨rs, rfl, hl18, hb18⟩
                  have J18 := fhide (J17.out.trans (hb18.mono J17.out.size))
                  have L18p := fhide (L17p.out.below hb18)
                  have L18d := fhide (L17d.out.below hb18)
                  have L18q := fhide (L17q.out.below hb18)
                  have L18r := fhide (L17r.out.below hb18)
                  have L18s := fhide hl18
                  clear hb18 J17 L17p L17d L17q L17r hl18
                  go_wp2_with fail
                  refine (lTimes L18s.out L18d.out (by omega) (by omega)).mono ?_
                  rintro e x19 ⟨rt, rfl, hl19, hb19⟩
                  have J19 := fhide (J18.out.trans (hb19.mono J18.out.size))
                  have L19p := fhide (L18p.out.below hb19)
                  have L19d := fhide (L18d.out.below hb19)
                  have L19q := fhide (L18q.out.below hb19)
                  have L19r := fhide (L18r.out.below hb19)
                  have L19s := fhide (L18s.out.below hb19)
                  have L19t := fhide hl19
                  clear hb19 J18 L18p L18d L18q L18r L18s hl19
                  go_wp2_with fail
                  refine (lCmp L19p.out L19t.out).mono ?_
                  rintro e x20 ⟨rfl, hb20⟩
                  have J20 := fhide (J19.out.trans (hb20.mono J19.out.size))
                  have L20p := fhide (L19p.out.below hb20)
                  have L20d := fhide (L19d.out.below hb20)
                  have L20q := fhide (L19q.out.below hb20)
                  have L20r := fhide (L19r.out.below hb20)
                  have L20s := fhide (L19s.out.below hb20)
                  have L20t := fhide (L19t.out.below hb20)
                  clear hb20 J19 L19p L19d L19q L19r L19s L19t
                  have hc2 := cmp_le (Hhi.out hF)
                  generalize M.cmpI (Va * 2 ^ T) ((Vq + Vs) * Vb) = cd at *
                  go_wp2_with fail
                  go_roundw
                  case rel => exact ⟨i + 1, by omega, by omega, by go_num, J20⟩
                  case measure => simp [intOf]; omega
        · rw [decide_eq_false hfb]
          clear hfb
          go_wp2_with fail
          go_roundw
          case rel => exact ⟨i + 1, by omega, by omega, by go_num, HI⟩
          case measure => simp [intOf]; omega
      · rw [decide_eq_false hfa]
        clear hfa
        go_wp2_with fail
        go_roundw
        case rel => exact ⟨i + 1, by omega, by omega, by go_num, HI⟩
        case measure => simp [intOf]; omega
    · by_cases hl : i < len0
      · have g1 : (i : Int) < (len0 : Int) := by omega
        have g2 : ¬ (i : Int) < 2000 := by omega
        go_wp2_with fail
        refine (wakes_any _).mono ?_
        rintro e v14 ⟨rfl, hb14⟩
        go_wp2_with fail
        go_ret
        exact ⟨rfl, HI.out.trans (hb14.mono HI.out.size)⟩
      · have g1 : ¬ (i : Int) < (len0 : Int) := by omega
        go_wp2_with fail
        refine (wakes_any _).mono ?_
        rintro e v14 ⟨rfl, hb14⟩
        go_wp2_with fail
        go_ret
        exact ⟨rfl, HI.out.trans (hb14.mono HI.out.size)⟩
end Go.Proofs.Ytdiinhccfifiaac

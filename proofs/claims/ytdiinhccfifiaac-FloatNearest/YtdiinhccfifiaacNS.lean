/- FloatNearest: its walk. -/
import Derived.Test.YtdiinhccfifiaacNR
import Derived.Test.YtdiinhccfifiaacFV
namespace Go.Proofs.Ytdiinhccfifiaac
open Go.RowKit
open Flt
set_option linter.unusedVariables false
set_option linter.unusedSimpArgs false

set_option maxRecDepth 100000 in
set_option maxHeartbeats 8000000 in
theorem nearest_any (a0 : Option Addr) (len0 cap0 : Nat) (w : World) (h : IsWords w a0 len0) :
    Calls Try.prog 4 #[.slice a0 len0 cap0] w fun e w' => e = .returned (.bool true) ∧ Below w.heap.size w w' := by
  obtain ⟨hlen, hcell⟩ := h
  have HC := fhide hcell
  clear hcell
  go_enter Try.func4, Try.ntmps4
  go_wp2_with fail
  go_loopw [3] (fun t3 wr => ∃ i : Nat, i ≤ len0 ∧ i ≤ 2000 ∧ t3 = .int .i64 i ∧ Hid (Below w.heap.size w wr)) (fun t3 _ => 2000 - (intOf t3).toNat)
  case atStart => exact ⟨0, by omega, by omega, rfl, Below.refl _ _⟩
  case round =>
    obtain ⟨i, hi, hi20, rfl, HI⟩ := hrel
    by_cases hgo : i < len0 ∧ i < 2000
    · have g1 : (i : Int) < (len0 : Int) := by omega
      have g2 : (i : Int) < 2000 := by omega
      obtain ⟨g, o, rfl, hg, hj⟩ := HC.out (by omega)
      obtain ⟨A, hA, cA⟩ := hj i hgo.1
      have cA0 : wr.cell? ⟨g, o + i, none⟩ = some (.int .u64 A) := by rw [HI.out.cell (p := ⟨g, o + i, none⟩) hg]; exact cA
      have HA := fhide (hA)
      clear hj hgo cA hA
      have hab := b64_abs A HA.out
      obtain ⟨a, ha, hal⟩ : ∃ a, A % 9223372036854775808 = a ∧ Hid (a < 9223372036854775808) := ⟨_, rfl, Nat.mod_lt _ (by omega)⟩
      rw [ha] at hab
      clear ha
      have HFa : Hid (∀ w : World, Calls Try.prog 6 #[.int .u64 a] w fun e w' => e = .returned (.bool (decide (a < 9218868437227405312))) ∧ w' = w) := fun w => by
        have := finite_any a w (by have := hal.out; omega)
        rwa [Nat.mod_eq_of_lt hal.out] at this
      clear HA
      go_wp2_with (simp only [hab])
      refine (HFa.out _).mono ?_
      rintro e x0 ⟨rfl, rfl⟩
      clear cA0
      by_cases hfa : a < 9218868437227405312
      · rw [decide_eq_true hfa]
        clear HFa hab
        obtain ⟨E, hE⟩ : ∃ E : Nat, E = 925 := ⟨_, rfl⟩
        obtain ⟨R, hRF, hn1, hn2, hlo, hhi⟩ := nar_mid a E hfa hE
        have HN1 : Hid (∀ w : World, Calls Try.prog 16 #[.int .u64 a] w fun e w' => e = .returned (.int .u32 R) ∧ Below w.heap.size w w') := fun w => by
          have := Narrow_num a w (by omega) (by omega)
          rwa [hn1] at this
        obtain ⟨b, hb⟩ : ∃ b, a + 9223372036854775808 = b := ⟨_, rfl⟩
        obtain ⟨Q, hQ⟩ : ∃ Q, R + 2147483648 = Q := ⟨_, rfl⟩
        rw [hb, hQ] at hn2
        have HN2 : Hid (∀ w : World, Calls Try.prog 16 #[.int .u64 b] w fun e w' => e = .returned (.int .u32 Q) ∧ Below w.heap.size w w') := fun w => by
          have := Narrow_num b w (by omega) (by omega)
          rwa [hn2] at this
        obtain ⟨c, hc, hc3⟩ : ∃ c : Nat, class32 R = c ∧ c ≤ 3 := ⟨_, rfl, by unfold class32; repeat (split <;> first | omega | skip)⟩
        have HCl : Hid (∀ w : World, Calls Try.prog 17 #[.int .u32 R] w fun e w' => e = .returned (.int .i64 c) ∧ Below w.heap.size w w') := fun w => by
          have := Class32_any R w (by omega)
          rwa [hc] at this
        have hc3' : ¬ (3 : Int) < (c : Int) := by omega
        have hand := b32_and_lo R (by omega)
        have hor : bits BinOp.or IntKind.u64 (a : Int) 9223372036854775808 = (b : Int) := by
          have := b64_or_lo a hal.out
          rw [Nat.add_comm, hb] at this; exact this
        have hor2 : bits BinOp.or IntKind.u32 (R : Int) 2147483648 = (Q : Int) := by
          have := b32_or_lo R (by omega)
          rw [Nat.add_comm, hQ] at this; exact this
        have HUa := fhide (fun w : World => lUnits a w hal.out)
        have HT1 : Hid (∀ (w : World) (v : Value) (N : Nat), LimB 100 w v N → Calls Try.prog 9 #[v, .int .i64 1] w fun e w' => ∃ r, e = .returned r ∧ LimB 200 w' r (N * 2 ^ 1) ∧ Below w.heap.size w w') := by
          intro w v N hv
          have h2 := lUp2 (n := 1) hv (by omega) (by omega)
          refine h2.mono ?_
          rintro e w' ⟨r, rfl, ⟨k, k1, k2, k3⟩, hb⟩
          exact ⟨r, rfl, ⟨k, k1, k2, by omega⟩, hb⟩
        obtain ⟨p, hp, hp1⟩ : ∃ p : Nat, R - 1 = p ∧ (R ≠ 0 → (R : Int) - 1 = (p : Int)) := ⟨_, rfl, by omega⟩
        obtain ⟨s, hs, hs1⟩ : ∃ s : Nat, R + 1 = s ∧ (R : Int) + 1 = (s : Int) := ⟨_, rfl, by omega⟩
        rw [hp] at hlo
        rw [hs] at hhi
        have hsM : (s : Int) % 4294967296 = (s : Int) := by omega
        have hsW : IntKind.u32.wrap (s : Int) = (s : Int) := by rw [IntKind.wrap_u32]; exact hsM
        have HTq := fhide (fun w : World => thin_any R E w hRF hE)
        have HTp := fhide (fun w : World => thin_any p E w (by omega) hE)
        have HTs : Hid (R ≠ 2139095040 → ∀ w : World, Calls Try.prog 18 #[.int .u32 s] w fun e w' => ∃ r, e = .returned r ∧ LimB 100 w' r (Flt.V Ieee.single s * 2 ^ E) ∧ Below w.heap.size w w') := fun h w => thin_any s E w (by omega) hE
        generalize V Ieee.double a = Va at *
        generalize V Ieee.single R * 2 ^ E = Vq at *
        generalize V Ieee.single p * 2 ^ E = Vp at *
        generalize V Ieee.single s * 2 ^ E = Vs at *
        have Hlo := fhide hlo
        have Hhi := fhide hhi
        have HRF := fhide hRF
        clear hlo hhi hp hs hn1 hn2 hb hQ hc hc3 hE hRF hfa
        go_wp2_with fail
        refine (HN1.out _).mono ?_
        rintro e x1 ⟨rfl, hb1⟩
        have J1 := fhide (HI.out.trans (hb1.mono HI.out.size))
        clear hb1 HI
        go_wp2_with fail
        refine (HCl.out _).mono ?_
        rintro e x2 ⟨rfl, hb2⟩
        have J2 := fhide (J1.out.trans (hb2.mono J1.out.size))
        clear hb2 J1
        go_wp2_with (simp only [hand, hor, hor2, hc3'])
        refine (HN2.out _).mono ?_
        rintro e x3 ⟨rfl, hb3⟩
        have J3 := fhide (J2.out.trans (hb3.mono J2.out.size))
        clear hb3 J2
        go_wp2_with (simp only [hand, hor, hor2])
        refine (HUa.out _).mono ?_
        rintro e x4 ⟨ra, rfl, hl4, hb4⟩
        have J4 := fhide (J3.out.trans (hb4.mono J3.out.size))
        have L4a := fhide hl4
        clear hb4 J3 hl4
        go_wp2_with fail
        refine (HT1.out _ _ _ L4a.out).mono ?_
        rintro e x5 ⟨rw, rfl, hl5, hb5⟩
        have J5 := fhide (J4.out.trans (hb5.mono J4.out.size))
        have L5a := fhide (L4a.out.below hb5)
        have L5w := fhide hl5
        clear hb5 J4 L4a hl5
        have HRF2 := HRF.out
        by_cases h0 : R = 0
        · have h0' : ((R : Int) == 0) = true := by simp; omega
          have h0j : ((R : Int) != 0) = false := by simp; omega
          have hF : R ≠ 2139095040 := by omega
          have hF' : ((R : Int) == 2139095040) = false := by simp; omega
          have hFj : ((R : Int) != 2139095040) = true := by simp; omega
          clear h0 HRF2
          go_wp2_with fail
          refine (HTq.out _).mono ?_
          rintro e x6 ⟨rq, rfl, hl6, hb6⟩
          have J6 := fhide (J5.out.trans (hb6.mono J5.out.size))
          have L6w := fhide (L5w.out.below hb6)
          have L6q := fhide hl6
          clear hb6 J5 L5w hl6
          go_wp2_with (simp only [hs1, hsM, hsW])
          refine (HTs.out hF _).mono ?_
          rintro e x7 ⟨rr, rfl, hl7, hb7⟩
          have J7 := fhide (J6.out.trans (hb7.mono J6.out.size))
          have L7w := fhide (L6w.out.below hb7)
          have L7q := fhide (L6q.out.below hb7)
          have L7r := fhide hl7
          clear hb7 J6 L6w L6q hl7
          go_wp2_with fail
          refine (lSum L7q.out L7r.out (by omega) (by omega)).mono ?_
          rintro e x8 ⟨rhi, rfl, hl8, hb8⟩
          have J8 := fhide (J7.out.trans (hb8.mono J7.out.size))
          have L8w := fhide (L7w.out.below hb8)
          have L8q := fhide (L7q.out.below hb8)
          have L8r := fhide (L7r.out.below hb8)
          have L8hi := fhide hl8
          clear hb8 J7 L7w L7q L7r hl8
          go_wp2_with fail
          refine (lCmp L8w.out L8hi.out).mono ?_
          rintro e x9 ⟨rfl, hb9⟩
          have J9 := fhide (J8.out.trans (hb9.mono J8.out.size))
          have L9w := fhide (L8w.out.below hb9)
          have L9hi := fhide (L8hi.out.below hb9)
          clear hb9 J8 L8w L8hi
          have hc2 := cmp_le (Hhi.out hF)
          generalize M.cmpI (Va * 2 ^ 1) (Vq + Vs) = cd at *
          go_wp2_with fail
          go_roundw
          case rel => exact ⟨i + 1, by omega, by omega, by go_num, J9⟩
          case measure => simp [intOf]; omega
        · have h0' : ((R : Int) == 0) = false := by simp; omega
          have h0j : ((R : Int) != 0) = true := by simp; omega
          have hp2 := hp1 h0
          have hc1 := cmp_le (Hlo.out h0)
          clear hp1
          go_wp2_with fail
          refine (HTq.out _).mono ?_
          rintro e x10 ⟨rq, rfl, hl10, hb10⟩
          have J10 := fhide (J5.out.trans (hb10.mono J5.out.size))
          have L10w := fhide (L5w.out.below hb10)
          have L10q := fhide hl10
          clear hb10 J5 L5w hl10
          go_wp2_with (simp only [hp2])
          refine (HTp.out _).mono ?_
          rintro e x11 ⟨rr, rfl, hl11, hb11⟩
          have J11 := fhide (J10.out.trans (hb11.mono J10.out.size))
          have L11w := fhide (L10w.out.below hb11)
          have L11q := fhide (L10q.out.below hb11)
          have L11r := fhide hl11
          clear hb11 J10 L10w L10q hl11
          go_wp2_with fail
          refine (lSum L11q.out L11r.out (by omega) (by omega)).mono ?_
          rintro e x12 ⟨rlo, rfl, hl12, hb12⟩
          have J12 := fhide (J11.out.trans (hb12.mono J11.out.size))
          have L12w := fhide (L11w.out.below hb12)
          have L12q := fhide (L11q.out.below hb12)
          have L12r := fhide (L11r.out.below hb12)
          have L12lo := fhide hl12
          clear hb12 J11 L11w L11q L11r hl12
          go_wp2_with fail
          refine (lCmp L12lo.out L12w.out).mono ?_
          rintro e x13 ⟨rfl, hb13⟩
          have J13 := fhide (J12.out.trans (hb13.mono J12.out.size))
          have L13w := fhide (L12w.out.below hb13)
          have L13lo := fhide (L12lo.out.below hb13)
          clear hb13 J12 L12w L12lo
          generalize M.cmpI (Vq + Vp) (Va * 2 ^ 1) = cc at *
          by_cases hF : R = 2139095040
          · have hF' : ((R : Int) == 2139095040) = true := by simp; omega
            have hFj : ((R : Int) != 2139095040) = false := by simp; omega
            clear h0 hF HRF2
            go_wp2_with fail
            go_roundw
            case rel => exact ⟨i + 1, by omega, by omega, by go_num, J13⟩
            case measure => simp [intOf]; omega
          · have hF' : ((R : Int) == 2139095040) = false := by simp; omega
            have hFj : ((R : Int) != 2139095040) = true := by simp; omega
            clear h0 HRF2
            go_wp2_with fail
            refine (HTq.out _).mono ?_
            rintro e x14 ⟨rq, rfl, hl14, hb14⟩
            have J14 := fhide (J13.out.trans (hb14.mono J13.out.size))
            have L14w := fhide (L13w.out.below hb14)
            have L14q := fhide hl14
            clear hb14 J13 L13w hl14
            go_wp2_with (simp only [hs1, hsM, hsW])
            refine (HTs.out hF _).mono ?_
            rintro e x15 ⟨rr, rfl, hl15, hb15⟩
            have J15 := fhide (J14.out.trans (hb15.mono J14.out.size))
            have L15w := fhide (L14w.out.below hb15)
            have L15q := fhide (L14q.out.below hb15)
            have L15r := fhide hl15
            clear hb15 J14 L14w L14q hl15
            go_wp2_with fail
            refine (lSum L15q.out L15r.out (by omega) (by omega)).mono ?_
            rintro e x16 ⟨rhi, rfl, hl16, hb16⟩
            have J16 := fhide (J15.out.trans (hb16.mono J15.out.size))
            have L16w := fhide (L15w.out.below hb16)
            have L16q := fhide (L15q.out.below hb16)
            have L16r := fhide (L15r.out.below hb16)
            have L16hi := fhide hl16
            clear hb16 J15 L15w L15q L15r hl16
            go_wp2_with fail
            refine (lCmp L16w.out L16hi.out).mono ?_
            rintro e x17 ⟨rfl, hb17⟩
            have J17 := fhide (J16.out.trans (hb17.mono J16.out.size))
            have L17w := fhide (L16w.out.below hb17)
            have L17hi := fhide (L16hi.out.below hb17)
            clear hb17 J16 L16w L16hi
            have hc2 := cmp_le (Hhi.out hF)
            generalize M.cmpI (Va * 2 ^ 1) (Vq + Vs) = cd at *
            go_wp2_with fail
            go_roundw
            case rel => exact ⟨i + 1, by omega, by omega, by go_num, J17⟩
            case measure => simp [intOf]; omega
      · rw [decide_eq_false hfa]
        clear hfa
        go_wp2_with fail
        go_roundw
        case rel => exact ⟨i + 1, by omega, by omega, by go_num, HI⟩
        case measure => simp [intOf]; omega
    · by_cases hl : i < len0
      · have g1 : (i : Int) < (len0 : Int) := by omega
        have g2 : ¬ (i : Int) < 2000 := by omega
        go_wp2_with fail
        refine (wakes_any _).mono ?_
        rintro e v14 ⟨rfl, hb14⟩
        go_wp2_with fail
        go_ret
        exact ⟨rfl, HI.out.trans (hb14.mono HI.out.size)⟩
      · have g1 : ¬ (i : Int) < (len0 : Int) := by omega
        go_wp2_with fail
        refine (wakes_any _).mono ?_
        rintro e v14 ⟨rfl, hb14⟩
        go_wp2_with fail
        go_ret
        exact ⟨rfl, HI.out.trans (hb14.mono HI.out.size)⟩
end Go.Proofs.Ytdiinhccfifiaac

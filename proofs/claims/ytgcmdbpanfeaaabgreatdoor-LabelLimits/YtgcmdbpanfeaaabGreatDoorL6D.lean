/- LabelLimits' walk. -/
import Derived.Test.YtgcmdbpanfeaaabGreatDoorL6C
namespace Go.Proofs.YtgcmdbpanfeaaabGreatDoor
open Go.RowKit
set_option linter.unusedVariables false
set_option linter.unusedSimpArgs false

set_option maxRecDepth 100000 in
set_option maxHeartbeats 1000000 in
theorem labelLimits_any (w : World) (hE : ES w) (hT : UT w) (hM : MX w) : Calls Tryz.prog 5 #[] w fun e w' => e = .returned (.bool true) ∧ Below w.heap.size w w' := by
  have HE := hide hE
  have HT := hide hT
  have HM := hide hM
  have HB0 : Hid (Below w.heap.size w w) := Below.refl _ _
  have HW : Hid (∀ w', Below w.heap.size w w' → Calls Tryz.prog 9 #[] w' fun e w2 => e = .returned (.bool true) ∧ Below w'.heap.size w' w2) := hide fun w' hb => works13_any w' (hE.below hb) (hT.below hb) (hM.below hb)
  clear hE hT hM
  have HRa : Hid (∀ w', Below w.heap.size w w' → Calls Tryz.prog 17 #[.int .u8 97, .int .i64 64] w' fun e w2 => e = .returned (.string (rpt 97 64)) ∧ Below w'.heap.size w' w2) := hide fun w' _ => repeated_any 97 64 w' (by decide)
  have HRb : Hid (∀ w', Below w.heap.size w w' → Calls Tryz.prog 17 #[.int .u8 97, .int .i64 65] w' fun e w2 => e = .returned (.string (rpt 97 65)) ∧ Below w'.heap.size w' w2) := hide fun w' _ => repeated_any 97 65 w' (by decide)
  have HRc : Hid (∀ w', Below w.heap.size w w' → Calls Tryz.prog 17 #[.int .u8 120, .int .i64 256] w' fun e w2 => e = .returned (.string (rpt 120 256)) ∧ Below w'.heap.size w' w2) := hide fun w' _ => repeated_any 120 256 w' (by decide)
  have HRd : Hid (∀ w', Below w.heap.size w w' → Calls Tryz.prog 17 #[.int .u8 120, .int .i64 257] w' fun e w2 => e = .returned (.string (rpt 120 257)) ∧ Below w'.heap.size w' w2) := hide fun w' _ => repeated_any 120 257 w' (by decide)
  have HO1 : Hid (∀ w', Below w.heap.size w w' → Calls Tryz.prog 16 #[.string (rpt 97 64), .string (⟨#[120]⟩)] w' fun e w2 => e = .returned (.int .i64 0) ∧ Below w'.heap.size w' w2) := hide fun w' hb => one13_any (rpt 97 64) (txX) 0 w' (by constructor <;> first | (rw [rpt_size]; decide) | decide) (HT.out.below hb) lim1
  have HO2 : Hid (∀ w', Below w.heap.size w w' → Calls Tryz.prog 16 #[.string (rpt 97 65), .string (⟨#[120]⟩)] w' fun e w2 => e = .returned (.int .i64 130) ∧ Below w'.heap.size w' w2) := hide fun w' hb => one13_any (rpt 97 65) (txX) 130 w' (by constructor <;> first | (rw [rpt_size]; decide) | decide) (HT.out.below hb) lim2
  have HO3 : Hid (∀ w', Below w.heap.size w w' → Calls Tryz.prog 16 #[.string (⟨#[]⟩), .string (⟨#[120]⟩)] w' fun e w2 => e = .returned (.int .i64 130) ∧ Below w'.heap.size w' w2) := hide fun w' hb => one13_any (⟨#[]⟩) (txX) 130 w' (by constructor <;> first | (rw [rpt_size]; decide) | decide) (HT.out.below hb) lim3
  have HO4 : Hid (∀ w', Below w.heap.size w w' → Calls Tryz.prog 16 #[.string (⟨#[97]⟩), .string (rpt 120 256)] w' fun e w2 => e = .returned (.int .i64 0) ∧ Below w'.heap.size w' w2) := hide fun w' hb => one13_any (⟨#[97]⟩) (rpt 120 256) 0 w' (by constructor <;> first | (rw [rpt_size]; decide) | decide) (HT.out.below hb) lim4
  have HO5 : Hid (∀ w', Below w.heap.size w w' → Calls Tryz.prog 16 #[.string (⟨#[97]⟩), .string (rpt 120 257)] w' fun e w2 => e = .returned (.int .i64 131) ∧ Below w'.heap.size w' w2) := hide fun w' hb => one13_any (⟨#[97]⟩) (rpt 120 257) 131 w' (by constructor <;> first | (rw [rpt_size]; decide) | decide) (HT.out.below hb) lim5
  have HO6 : Hid (∀ w', Below w.heap.size w w' → Calls Tryz.prog 16 #[.string (⟨#[95, 57, 90]⟩), .string (⟨#[]⟩)] w' fun e w2 => e = .returned (.int .i64 0) ∧ Below w'.heap.size w' w2) := hide fun w' hb => one13_any (⟨#[95, 57, 90]⟩) (⟨#[]⟩) 0 w' (by constructor <;> first | (rw [rpt_size]; decide) | decide) (HT.out.below hb) lim6
  obtain ⟨S1, hS1⟩ : ∃ S, rpt 97 64 = S := ⟨_, rfl⟩
  obtain ⟨S2, hS2⟩ : ∃ S, rpt 97 65 = S := ⟨_, rfl⟩
  obtain ⟨S3, hS3⟩ : ∃ S, rpt 120 256 = S := ⟨_, rfl⟩
  obtain ⟨S4, hS4⟩ : ∃ S, rpt 120 257 = S := ⟨_, rfl⟩
  rw [hS1] at HRa HO1
  rw [hS2] at HRb HO2
  rw [hS3] at HRc HO4
  rw [hS4] at HRd HO5
  clear hS1 hS2 hS3 hS4
  go_enter Tryz.func5, Tryz.ntmps5
  go_wp2_with (first
    | (go_at_call 16; refine (HO6.out _ HB10.out).mono ?_; rintro e w11 ⟨rfl, hb⟩; have HB11 := hide (HB10.out.trans (hb.mono HB10.out.size)); clear hb)
    | (go_at_call 16; refine (HO5.out _ HB9.out).mono ?_; rintro e w10 ⟨rfl, hb⟩; have HB10 := hide (HB9.out.trans (hb.mono HB9.out.size)); clear hb)
    | (go_at_call 17; refine (HRd.out _ HB8.out).mono ?_; rintro e w9 ⟨rfl, hb⟩; have HB9 := hide (HB8.out.trans (hb.mono HB8.out.size)); clear hb)
    | (go_at_call 16; refine (HO4.out _ HB7.out).mono ?_; rintro e w8 ⟨rfl, hb⟩; have HB8 := hide (HB7.out.trans (hb.mono HB7.out.size)); clear hb)
    | (go_at_call 17; refine (HRc.out _ HB6.out).mono ?_; rintro e w7 ⟨rfl, hb⟩; have HB7 := hide (HB6.out.trans (hb.mono HB6.out.size)); clear hb)
    | (go_at_call 16; refine (HO3.out _ HB5.out).mono ?_; rintro e w6 ⟨rfl, hb⟩; have HB6 := hide (HB5.out.trans (hb.mono HB5.out.size)); clear hb)
    | (go_at_call 16; refine (HO2.out _ HB4.out).mono ?_; rintro e w5 ⟨rfl, hb⟩; have HB5 := hide (HB4.out.trans (hb.mono HB4.out.size)); clear hb)
    | (go_at_call 17; refine (HRb.out _ HB3.out).mono ?_; rintro e w4 ⟨rfl, hb⟩; have HB4 := hide (HB3.out.trans (hb.mono HB3.out.size)); clear hb)
    | (go_at_call 16; refine (HO1.out _ HB2.out).mono ?_; rintro e w3 ⟨rfl, hb⟩; have HB3 := hide (HB2.out.trans (hb.mono HB2.out.size)); clear hb)
    | (go_at_call 17; refine (HRa.out _ HB1.out).mono ?_; rintro e w2 ⟨rfl, hb⟩; have HB2 := hide (HB1.out.trans (hb.mono HB1.out.size)); clear hb)
    | (go_at_call 9; refine (HW.out _ HB0.out).mono ?_; rintro e w1 ⟨rfl, hb⟩; have HB1 := hide (HB0.out.trans (hb.mono HB0.out.size)); clear hb))
  clear HW HRa HRb HRc HRd HO1 HO2 HO3 HO4 HO5 HO6
  obtain ⟨wE0, hwE⟩ : ∃ wE, w11.alloc (.cells #[.string ⟨#[57]⟩, .string ⟨#[97, 45, 98]⟩, .string ⟨#[97, 32, 98]⟩, .string ⟨#[0]⟩, .string ⟨#[97, 195]⟩, .string ⟨#[195, 169]⟩, .string ⟨#[123]⟩, .string ⟨#[97, 46]⟩] 9) = wE := ⟨_, rfl⟩
  have HE0 : Hid (Below w.heap.size w wE0) := by rw [← hwE]; exact hide (HB11.out.alloc HB11.out.size _)
  obtain ⟨g0, hg⟩ : ∃ g, w11.heap.size = g := ⟨_, rfl⟩
  have HC0 : Hid (∀ i, i < 8 → wE0.cell? ⟨g0, i, none⟩ = some (.string (nmB i))) := hide fun i hi => by
    rw [← hwE, ← hg, cell_of_row _ _ _ _ _ _ (heap_alloc_new w11 _)]
    match i, hi with
    | 0, _ => rfl
    | 1, _ => rfl
    | 2, _ => rfl
    | 3, _ => rfl
    | 4, _ => rfl
    | 5, _ => rfl
    | 6, _ => rfl
    | 7, _ => rfl
  have HL0 : Hid (g0 < wE0.heap.size) := by rw [← hwE, ← hg]; exact hide (by simp)
  have Hg := hide hg
  clear hg
  go_wp2_with fail
  try rw [hwE]
  rw [Hg.out]
  clear hwE Hg
  go_loopw [2] (fun t wq => ∃ i : Nat, i ≤ 8 ∧ t = .int .i64 i ∧ Hid (Below wE0.heap.size wE0 wq)) (fun t _ => 8 - (intOf t).toNat)
  case atStart => exact ⟨0, by omega, rfl, Below.refl _ _⟩
  case round =>
    obtain ⟨i, hi, rfl, HI⟩ := hrel
    have HBq0 : Hid (Below w.heap.size w wr) := hide (HE0.out.trans (HI.out.mono HE0.out.size))
    by_cases hil : i < 8
    · have hiz : (i : Int) < 8 := by omega
      have ci : wr.cell? ⟨g0, i, none⟩ = some (.string (nmB i)) := by rw [HI.out.cell (p := ⟨g0, i, none⟩) HL0.out]; exact HC0.out i hil
      have HOi : Hid (∀ w', UT w' → Calls Tryz.prog 16 #[.string (nmB i), .string ⟨#[120]⟩] w' fun e w2 => e = .returned (.int .i64 130) ∧ Below w'.heap.size w' w2) := hide fun w' ht => one13_any (nmB i) txX 130 w' ⟨by have := (nmB_is i hil).2; omega, by decide⟩ ht (nmB_is i hil).1
      obtain ⟨T, hT⟩ : ∃ T, nmB i = T := ⟨_, rfl⟩
      rw [hT] at ci HOi
      clear hT HC0
      go_wp2_with (go_at_call 16; refine (HOi.out _ (HT.out.below HBq0.out)).mono ?_; rintro e w2 ⟨rfl, hb⟩; have HB2 := hide (HI.out.trans (hb.mono HI.out.size)); clear hb)
      go_roundw
      case rel => exact ⟨i + 1, by omega, by go_num, HB2.out⟩
      case measure => simp [intOf]; omega
    · have hiz : ¬ (i : Int) < 8 := by omega
      clear hil HI HC0 HL0
      obtain ⟨wE1, hwE⟩ : ∃ wE, wr.alloc (.cells #[.string ⟨#[255]⟩, .string ⟨#[97, 128]⟩, .string ⟨#[192, 128]⟩, .string ⟨#[195]⟩, .string ⟨#[237, 160, 128]⟩, .string ⟨#[244, 144, 128, 128]⟩, .string ⟨#[224, 128, 128]⟩, .string ⟨#[248, 136, 128, 128, 128]⟩, .string ⟨#[195, 40]⟩] 9) = wE := ⟨_, rfl⟩
      have HE1 : Hid (Below w.heap.size w wE1) := by rw [← hwE]; exact hide (HBq0.out.alloc HBq0.out.size _)
      obtain ⟨g1, hg⟩ : ∃ g, wr.heap.size = g := ⟨_, rfl⟩
      have HC1 : Hid (∀ i, i < 9 → wE1.cell? ⟨g1, i, none⟩ = some (.string (vlB i))) := hide fun i hi => by
        rw [← hwE, ← hg, cell_of_row _ _ _ _ _ _ (heap_alloc_new wr _)]
        match i, hi with
        | 0, _ => rfl
        | 1, _ => rfl
        | 2, _ => rfl
        | 3, _ => rfl
        | 4, _ => rfl
        | 5, _ => rfl
        | 6, _ => rfl
        | 7, _ => rfl
        | 8, _ => rfl
      have HL1 : Hid (g1 < wE1.heap.size) := by rw [← hwE, ← hg]; exact hide (by simp)
      have Hg := hide hg
      clear hg
      go_wp2_with fail
      try rw [hwE]
      rw [Hg.out]
      clear hwE Hg
      go_loopw [4] (fun t wq => ∃ i : Nat, i ≤ 9 ∧ t = .int .i64 i ∧ Hid (Below wE1.heap.size wE1 wq)) (fun t _ => 9 - (intOf t).toNat)
      case atStart => exact ⟨0, by omega, rfl, Below.refl _ _⟩
      case round =>
        obtain ⟨i, hi, rfl, HI⟩ := hrel
        have HBq1 : Hid (Below w.heap.size w wr) := hide (HE1.out.trans (HI.out.mono HE1.out.size))
        by_cases hil : i < 9
        · have hiz : (i : Int) < 9 := by omega
          have ci : wr.cell? ⟨g1, i, none⟩ = some (.string (vlB i)) := by rw [HI.out.cell (p := ⟨g1, i, none⟩) HL1.out]; exact HC1.out i hil
          have HOi : Hid (∀ w', UT w' → Calls Tryz.prog 16 #[.string ⟨#[97]⟩, .string (vlB i)] w' fun e w2 => e = .returned (.int .i64 131) ∧ Below w'.heap.size w' w2) := hide fun w' ht => one13_any ⟨#[97]⟩ (vlB i) 131 w' ⟨by decide, by have := (vlB_is i hil).2; omega⟩ ht (vlB_is i hil).1
          obtain ⟨T, hT⟩ : ∃ T, vlB i = T := ⟨_, rfl⟩
          rw [hT] at ci HOi
          clear hT HC1
          go_wp2_with (go_at_call 16; refine (HOi.out _ (HT.out.below HBq1.out)).mono ?_; rintro e w2 ⟨rfl, hb⟩; have HB2 := hide (HI.out.trans (hb.mono HI.out.size)); clear hb)
          go_roundw
          case rel => exact ⟨i + 1, by omega, by go_num, HB2.out⟩
          case measure => simp [intOf]; omega
        · have hiz : ¬ (i : Int) < 9 := by omega
          clear hil HI HC1 HL1
          obtain ⟨wE2, hwE⟩ : ∃ wE, wr.alloc (.cells #[.string ⟨#[0]⟩, .string ⟨#[239, 191, 189]⟩, .string ⟨#[244, 143, 191, 191]⟩, .string ⟨#[237, 159, 191]⟩, .string ⟨#[194, 128]⟩, .string ⟨#[34, 92, 10, 127]⟩] 9) = wE := ⟨_, rfl⟩
          have HE2 : Hid (Below w.heap.size w wE2) := by rw [← hwE]; exact hide (HBq1.out.alloc HBq1.out.size _)
          obtain ⟨g2, hg⟩ : ∃ g, wr.heap.size = g := ⟨_, rfl⟩
          have HC2 : Hid (∀ i, i < 6 → wE2.cell? ⟨g2, i, none⟩ = some (.string (vlG i))) := hide fun i hi => by
            rw [← hwE, ← hg, cell_of_row _ _ _ _ _ _ (heap_alloc_new wr _)]
            match i, hi with
            | 0, _ => rfl
            | 1, _ => rfl
            | 2, _ => rfl
            | 3, _ => rfl
            | 4, _ => rfl
            | 5, _ => rfl
          have HL2 : Hid (g2 < wE2.heap.size) := by rw [← hwE, ← hg]; exact hide (by simp)
          have Hg := hide hg
          clear hg
          go_wp2_with fail
          try rw [hwE]
          rw [Hg.out]
          clear hwE Hg
          go_loopw [6] (fun t wq => ∃ i : Nat, i ≤ 6 ∧ t = .int .i64 i ∧ Hid (Below wE2.heap.size wE2 wq)) (fun t _ => 6 - (intOf t).toNat)
          case atStart => exact ⟨0, by omega, rfl, Below.refl _ _⟩
          case round =>
            obtain ⟨i, hi, rfl, HI⟩ := hrel
            have HBq2 : Hid (Below w.heap.size w wr) := hide (HE2.out.trans (HI.out.mono HE2.out.size))
            by_cases hil : i < 6
            · have hiz : (i : Int) < 6 := by omega
              have ci : wr.cell? ⟨g2, i, none⟩ = some (.string (vlG i)) := by rw [HI.out.cell (p := ⟨g2, i, none⟩) HL2.out]; exact HC2.out i hil
              have HOi : Hid (∀ w', UT w' → Calls Tryz.prog 16 #[.string ⟨#[97]⟩, .string (vlG i)] w' fun e w2 => e = .returned (.int .i64 0) ∧ Below w'.heap.size w' w2) := hide fun w' ht => one13_any ⟨#[97]⟩ (vlG i) 0 w' ⟨by decide, by have := (vlG_is i hil).2; omega⟩ ht (vlG_is i hil).1
              obtain ⟨T, hT⟩ : ∃ T, vlG i = T := ⟨_, rfl⟩
              rw [hT] at ci HOi
              clear hT HC2
              go_wp2_with (go_at_call 16; refine (HOi.out _ (HT.out.below HBq2.out)).mono ?_; rintro e w2 ⟨rfl, hb⟩; have HB2 := hide (HI.out.trans (hb.mono HI.out.size)); clear hb)
              go_roundw
              case rel => exact ⟨i + 1, by omega, by go_num, HB2.out⟩
              case measure => simp [intOf]; omega
            · have hiz : ¬ (i : Int) < 6 := by omega
              clear hil HI HC2 HL2
              -- THE LABELS
              obtain ⟨wS, rfl⟩ : ∃ x, x = wr := ⟨_, rfl⟩
              have HO0 : Hid (OL wS.heap.size wS [] (.slice none 0 0) wS) := OL.nil wS
              go_wp2_with fail
              go_loopw [7, 8] (fun t7 t8 wq => ∃ i : Nat, i ≤ 17 ∧ t8 = .int .i64 i ∧ Hid (OL wS.heap.size wS (labsN i) t7 wq)) (fun _ t8 _ => 17 - (intOf t8).toNat)
              case atStart => exact ⟨0, by omega, rfl, HO0.out⟩
              case round =>
                obtain ⟨i, hi, rfl, HO⟩ := hrel
                have HBo : Hid (Below w.heap.size w wr) := hide (HBq2.out.trans (HO.out.bel.mono HBq2.out.size))
                by_cases hil : i < 17
                · have hiz : (i : Int) ≤ 16 := by omega
                  have HRp : Hid (∀ w', Calls Tryz.prog 17 #[.int .u8 98, .int .i64 (i : Int)] w' fun e w2 => e = .returned (.string (rpt 98 i)) ∧ Below w'.heap.size w' w2) := hide fun w' => repeated_any 98 i w' (by omega)
                  have hsz : (rpt 98 i).size = i := rpt_size _ _
                  have HS : Hid (labsN (i + 1) = labsN i ++ [(⟨#[97]⟩ ++ rpt 98 i, txX)]) := hide (labsN_succ i)
                  have HLn := hide (labsN_length i)
                  obtain ⟨R, hR⟩ : ∃ R, rpt 98 i = R := ⟨_, rfl⟩
                  rw [hR] at HRp hsz HS
                  obtain ⟨N, hN⟩ : ∃ N, labsN i = N := ⟨_, rfl⟩
                  rw [hN] at HO HS HLn
                  clear hR hN
                  go_wp2_with (first
                    | (go_at_call 17; refine (HRp.out _).mono ?_; rintro e w2 ⟨rfl, hb⟩; have HO2 := hide (HO.out.below hb); clear hb)
                    | (at_builtin; go_loud (refine wp_app_lab rfl _ _ rfl wS.heap.size wS _ N ((⟨#[97]⟩ : ByteArray) ++ R, (⟨#[120]⟩ : ByteArray)) _ 1 _ HO2.out rfl rfl (by have := HLn.out; omega) ?_; intro v6 w6 HO6; have HO6 := hide HO6)))
                  go_roundw
                  case rel => exact ⟨i + 1, by omega, by go_num, by rw [HS.out]; exact HO6.out⟩
                  case measure => simp [intOf]; omega
                · have hiz : ¬ (i : Int) ≤ 16 := by omega
                  obtain rfl : i = 17 := by omega
                  obtain ⟨g, cap, rfl, hc1, hc2, hl⟩ := HO.out.own17 17 (labsN_length 17) (by decide)
                  have hcz : (17 : Int) ≤ (cap : Int) := by omega
                  have HL := hide hl
                  have HS1 : Hid (∀ w', Below wr.heap.size wr w' → Below w.heap.size w w' → Calls Tryz.prog 6 #[.slice (some ⟨g, 0, none⟩) 17 cap] w' fun e w2 => e = .returned (.tuple #[.slice none 0 0, .int .i64 133]) ∧ Below w'.heap.size w' w2) := hide fun w' hb hb2 => by
                    refine (Set_any _ 17 cap (labsN 17) w' (HL.out.below hb) (labsN_length 17) (by decide) (fun x hx => by have := labs6 x hx; omega) (HT.out.below hb2)).mono fun e w2 h => ?_
                    unfold AnsSet at h
                    rw [labs1, if_neg (by decide), labs2, if_pos (by decide)] at h
                    exact h
                  have HS2 : Hid (∀ w', Below wr.heap.size wr w' → Below w.heap.size w w' → Calls Tryz.prog 6 #[.slice (some ⟨g, 2, none⟩) 16 (cap - 1)] w' fun e w2 => ∃ p c, e = .returned (.tuple #[.slice p 16 c, .int .i64 0]) ∧ Below w'.heap.size w' w2) := hide fun w' hb hb2 => by
                    have hd : ((labsN 17).drop 1).length = 16 := by rw [List.length_drop, labsN_length]
                    have hl1 : LR w' (some ⟨g, 0 + 2, none⟩) ((labsN 17).drop 1) := (HL.out.below hb).drop1
                    refine (Set_any _ 16 (cap - 1) ((labsN 17).drop 1) w' hl1 hd (by decide) (fun x hx => by have := labs6 x (List.mem_of_mem_drop hx); omega) (HT.out.below hb2)).mono fun e w2 h => ?_
                    unfold AnsSet at h
                    rw [labs4, if_neg (by decide), labs5, if_neg (by decide)] at h
                    obtain ⟨v, h1, ho⟩ := h
                    obtain ⟨p, c, h2, _⟩ := ho.slice
                    refine ⟨p, c, ?_, ho.bel⟩
                    have hlen : (sortL (flL ((labsN 17).drop 1))).length = 16 := by unfold sortL; rw [List.length_mergeSort, labs5]
                    rw [h1, h2, hlen]
                  have HTx : Hid (∀ w', Below wr.heap.size wr w' → Below w.heap.size w w' → Calls Tryz.prog 18 #[.slice (some ⟨g, 0, none⟩) 17 cap] w' fun e w2 => e = .returned (.tuple #[.string ⟨#[]⟩, .int .i64 134]) ∧ Below w'.heap.size w' w2) := hide fun w' hb hb2 => by
                    have h := Text_any _ 17 cap (labsN 17) w' (HL.out.below hb) (labsN_length 17) (by decide) labs6 (HT.out.below hb2)
                    rw [labs3, if_neg (by decide)] at h
                    exact h
                  have HKy : Hid (∀ w', Below wr.heap.size wr w' → Below w.heap.size w w' → Calls Tryz.prog 19 #[.slice (some ⟨g, 0, none⟩) 17 cap] w' fun e w2 => e = .returned (.tuple #[.slice none 0 0, .int .i64 134]) ∧ Below w'.heap.size w' w2) := hide fun w' hb hb2 => by
                    have h := Key_any _ 17 cap (labsN 17) w' (HL.out.below hb) (labsN_length 17) (by decide) (fun x hx => by have := labs6 x hx; omega) (HT.out.below hb2) (HM.out.below hb2)
                    rw [labs3, if_neg (by decide)] at h
                    exact h
                  obtain ⟨row, hrow⟩ : ∃ r, (List.replicate 65 (Value.string ⟨#[]⟩)).toArray = r := ⟨_, rfl⟩
                  have hmk : ∀ w, (Instr.makeSlice 46 (.int .i64 65) (.int .i64 65)).run Tryz.prog w = .ok (.slice (some ⟨w.heap.size, 0, none⟩) 65 65) (w.alloc (.cells row 9)) := fun w => by rw [← hrow]; exact make_strs 65 (by decide) w
                  have HRow := hide hrow
                  have HZ : Hid (Below wr.heap.size wr wr) := hide (Below.refl _ _)
                  clear hrow hl
                  have HWd : Hid (∀ g0 (w' : World), w'.heap[g0]? = some (.cells row 9) → Ws w' (some ⟨g0, 0, none⟩) 65 fun _ => ⟨#[]⟩) := hide fun g0 w' h h0 => by
                    refine ⟨g0, 0, rfl, fun i hi => ?_⟩
                    rw [cell_of_row _ _ _ _ _ _ h, ← HRow.out, Nat.zero_add, List.getElem?_toArray, List.getElem?_replicate, if_pos hi]
                  have HC65 : Hid (∀ g0 (w' : World), w'.heap[g0]? = some (.cells row 9) → Below w.heap.size w w' → Calls Tryz.prog 20 #[.agg #[.int .i64 4, .string ⟨#[97]⟩, .string ⟨#[]⟩, .slice (some ⟨g0, 0, none⟩) 65 65]] w' fun e w2 => e = .returned (.int .i64 135) ∧ Below w'.heap.size w' w2) := hide fun g0 w' h hb => by
                    have h2 := check_of ⟨#[97]⟩ (some ⟨g0, 0, none⟩) 65 65 (fun _ => ⟨#[]⟩) w' (HWd.out g0 w' h) (by decide) (fun _ _ => by decide) (by decide) (by decide +kernel) (HT.out.below hb)
                    rw [show wordsOk 65 (fun _ => ⟨#[]⟩) = false by decide +kernel, if_neg (by decide)] at h2
                    exact h2
                  have HC64 : Hid (∀ g0 (w' : World), w'.heap[g0]? = some (.cells row 9) → Below w.heap.size w w' → Calls Tryz.prog 20 #[.agg #[.int .i64 4, .string ⟨#[97]⟩, .string ⟨#[]⟩, .slice (some ⟨g0, 0, none⟩) 64 65]] w' fun e w2 => e = .returned (.int .i64 0) ∧ Below w'.heap.size w' w2) := hide fun g0 w' h hb => by
                    have hw := HWd.out g0 w' h
                    have hw4 : Ws w' (some ⟨g0, 0, none⟩) 64 fun _ => ⟨#[]⟩ := fun h0 => by
                      obtain ⟨b, o, hp, hc⟩ := hw (by decide)
                      exact ⟨b, o, hp, fun i hi => hc i (by omega)⟩
                    have h2 := check_of ⟨#[97]⟩ (some ⟨g0, 0, none⟩) 64 65 (fun _ => ⟨#[]⟩) w' hw4 (by decide) (fun _ _ => by decide) (by decide) (by decide +kernel) (HT.out.below hb)
                    rw [show wordsOk 64 (fun _ => ⟨#[]⟩) = true by decide +kernel, if_pos rfl] at h2
                    exact h2
                  go_wp2_with (first
                    | (go_at_call 8; refine (num13_any _ _).mono ?_; rintro e wn ⟨rfl, rfl⟩)
                    | (go_at_call 20; refine HCb.out.mono ?_; rintro e w7 ⟨rfl, hb⟩; have HY7 := hide (HA6.out.1.trans (hb.mono HA6.out.1.size)); clear hb)
                    | (go_at_call 20; go_loud (refine HCa.out.mono ?_; rintro e w5 ⟨rfl, hb⟩; have hm5 := (hb.block (w4.heap.size + 1) (size_lt_of_row HA5.out.2.2)).trans HA5.out.2.2; have hr5 := (hb.block w4.heap.size (size_lt_of_row HA5.out.2.1)).trans HA5.out.2.1; have HA5b := hide (And.intro (HA5.out.1.trans (hb.mono HA5.out.1.size)) (And.intro hr5 hm5)); obtain ⟨m0, m1, m2, m3⟩ := Row4.c hm5; have hf5 : w5.frozen? ⟨w4.heap.size + 1, 3, none⟩ = false := (by simp [World.frozen?, hm5]); have HA6 : Hid (Below w.heap.size w (w5.setCell ⟨w4.heap.size + 1, 3, none⟩ (.slice (some ⟨w4.heap.size, 0, none⟩) 64 65)) ∧ (w5.setCell ⟨w4.heap.size + 1, 3, none⟩ (.slice (some ⟨w4.heap.size, 0, none⟩) 64 65)).heap[w4.heap.size]? = some (.cells row 9)) := hide ⟨HA5b.out.1.setCell (by have := HY4.out.size; show w.heap.size ≤ w4.heap.size + 1; omega) _, (Below.heap_setCell w5 ⟨w4.heap.size + 1, 3, none⟩ _ w4.heap.size (by show w4.heap.size ≠ w4.heap.size + 1; omega)).trans HA5b.out.2.1⟩; have HCb := hide (HC64.out w4.heap.size _ HA6.out.2 HA6.out.1); clear hb hm5 hr5))
                    | (go_at_call 19; go_loud (refine (HKy.out _ HZ3.out HY3.out).mono ?_; rintro e w4 ⟨rfl, hb⟩; have HZ4 := hide (HZ3.out.trans (hb.mono HZ3.out.size)); have HY4 := hide (HY3.out.trans (hb.mono HY3.out.size)); clear hb; have HA5 := hide (And.intro ((HY4.out.alloc HY4.out.size (.cells row 9)).alloc (by have := HY4.out.size; simp; omega) (.cells #[.int .i64 4, .string ⟨#[97]⟩, .string ⟨#[]⟩, .slice (some ⟨w4.heap.size, 0, none⟩) 65 65] 54)) (And.intro (heap_alloc2_old w4 (.cells row 9) (.cells #[.int .i64 4, .string ⟨#[97]⟩, .string ⟨#[]⟩, .slice (some ⟨w4.heap.size, 0, none⟩) 65 65] 54)) (heap_alloc2_new w4 (.cells row 9) (.cells #[.int .i64 4, .string ⟨#[97]⟩, .string ⟨#[]⟩, .slice (some ⟨w4.heap.size, 0, none⟩) 65 65] 54)))); have HCa := hide (HC65.out w4.heap.size _ HA5.out.2.1 HA5.out.1)))
                    | (go_at_call 18; go_loud (refine (HTx.out _ HZ2.out HY2.out).mono ?_; rintro e w3 ⟨rfl, hb⟩; have HZ3 := hide (HZ2.out.trans (hb.mono HZ2.out.size)); have HY3 := hide (HY2.out.trans (hb.mono HY2.out.size)); clear hb))
                    | (go_at_call 6; refine (HS2.out _ HZ1.out HY1.out).mono ?_; rintro e w2 ⟨p2, c2, rfl, hb⟩; have HZ2 := hide (HZ1.out.trans (hb.mono HZ1.out.size)); have HY2 := hide (HY1.out.trans (hb.mono HY1.out.size)); clear hb)
                    | (go_at_call 6; go_loud (refine (HS1.out _ HZ.out HBo.out).mono ?_; rintro e w1 ⟨rfl, hb⟩; have HZ1 := hide (HZ.out.trans (hb.mono HZ.out.size)); have HY1 := hide (HBo.out.trans (hb.mono HBo.out.size)); clear hb)))
                  go_ret
                  exact ⟨rfl, HY7.out⟩

end Go.Proofs.YtgcmdbpanfeaaabGreatDoor

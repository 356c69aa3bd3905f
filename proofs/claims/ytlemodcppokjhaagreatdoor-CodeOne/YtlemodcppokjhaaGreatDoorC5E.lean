/- CodeOne: the walk. -/
import Derived.Test.YtlemodcppokjhaaGreatDoorC5D
import Derived.Deep.CutBlock
import Derived.Deep.DeepCutAuto
import Derived.Deep.CutRange
namespace Go.Proofs.YtlemodcppokjhaaGreatDoor
open Go.RowKit
open M
set_option linter.unusedVariables false
set_option linter.unusedSimpArgs false

set_option maxRecDepth 100000 in
set_option maxHeartbeats 8000000 in
theorem one8_any (aW aR aB aN aK : Option Addr) (nW cW nR cR nB cB nN cN nK cK : Nat) (w : World) (hB : RowsOf IsBs w aB nB) (hN : RowsOf IsN w aN nN) (hK : RowsOf IsN w aK nK) (hT : Tab64 w) :
    Calls Tryz.prog 4 #[.agg #[.slice aW nW cW, .slice aR nR cR, .slice aB nB cB, .slice aN nN cN, .slice aK nK cK]] w fun e w' => e = .returned (.bool true) ∧ Below w.heap.size w w' := by
  have HBB := hide hB
  have HN := hide hN
  have HK := hide hK
  have HT := hide hT
  have hnB := hB.1
  clear hB hN hK hT
  have HX : Hid ((w.alloc (.cells #[.slice aW nW cW, .slice aR nR cR, .slice aB nB cB, .slice aN nN cN, .slice aK nK cK] 27)).heap[w.heap.size]? = some (.cells #[.slice aW nW cW, .slice aR nR cR, .slice aB nB cB, .slice aN nN cN, .slice aK nK cK] 27 (0, 0))) := heap_alloc_new _ _
  have HB0 : Hid (Below w.heap.size w (w.alloc (.cells #[.slice aW nW cW, .slice aR nR cR, .slice aB nB cB, .slice aN nN cN, .slice aK nK cK] 27))) := (Below.refl _ _).alloc (Nat.le_refl _) _
  go_enter Tryz.func4, Tryz.ntmps4
  go_wp2_with fail
  generalize w.alloc (.cells #[.slice aW nW cW, .slice aR nR cR, .slice aB nB cB, .slice aN nN cN, .slice aK nK cK] 27) = w0 at *
  go_loopw [3, 4] (fun t3 t4 wr => ∃ all k : Nat, t3 = .int .i64 (all : Int) ∧ t4 = .int .i64 (k : Int) ∧ Hid (all ≤ 8192 ∧ k ≤ 60 ∧ Below w0.heap.size w0 wr)) (fun _ t4 _ => 60 - (intOf t4).toNat)
  case atStart => exact ⟨0, 0, rfl, rfl, by omega, by omega, Below.refl _ _⟩
  case round =>
    obtain ⟨all, k, rfl, rfl, HI⟩ := hrel
    have h0s : w.heap.size < w0.heap.size := size_lt_of_row HX.out
    have cX0 : wr.cell? ⟨w.heap.size, 0, none⟩ = some (.slice aW nW cW) := by rw [HI.out.2.2.cell (p := ⟨w.heap.size, 0, none⟩) h0s, cell_of_row _ _ _ _ _ _ HX.out]; rfl
    have cX1 : wr.cell? ⟨w.heap.size, 1, none⟩ = some (.slice aR nR cR) := by rw [HI.out.2.2.cell (p := ⟨w.heap.size, 1, none⟩) h0s, cell_of_row _ _ _ _ _ _ HX.out]; rfl
    have cX : wr.cell? ⟨w.heap.size, 2, none⟩ = some (.slice aB nB cB) := by rw [HI.out.2.2.cell (p := ⟨w.heap.size, 2, none⟩) h0s, cell_of_row _ _ _ _ _ _ HX.out]; rfl
    have cX3 : wr.cell? ⟨w.heap.size, 3, none⟩ = some (.slice aN nN cN) := by rw [HI.out.2.2.cell (p := ⟨w.heap.size, 3, none⟩) h0s, cell_of_row _ _ _ _ _ _ HX.out]; rfl
    have cX4 : wr.cell? ⟨w.heap.size, 4, none⟩ = some (.slice aK nK cK) := by rw [HI.out.2.2.cell (p := ⟨w.heap.size, 4, none⟩) h0s, cell_of_row _ _ _ _ _ _ HX.out]; rfl
    have hk60 : k ≤ 60 := HI.out.2.1
    have hall : all ≤ 8192 := HI.out.1
    have HBw : Hid (Below w.heap.size w wr) := HB0.out.trans (HI.out.2.2.mono HB0.out.size)
    have HTw : Hid (Tab64 wr) := HT.out.below HBw.out
    by_cases h1 : k < nB
    · by_cases h2 : k < 60
      · obtain ⟨b, o, rfl, hc⟩ := HBB.out.2 (by omega)
        obtain ⟨v, hv, p, len, cap, bs, rfl, hn, hIB, hlen, h256⟩ := hc k h1
        have cV : wr.cell? ⟨b, o + k, none⟩ = some (.slice p len cap) := by rw [HBw.out.cell (p := ⟨b, o + k, none⟩) (block_lt_of_cell hv)]; exact hv
        have HIB : Hid (IsBy wr (.slice p len cap) bs) := isBy_below hIB HBw.out
        have HLEN := hide hlen
        have HB256 := hide h256
        clear hc hv hIB hlen h256
        by_cases hsum : 8192 < all + len
        · go_wp2_with fail
          refine (works8_any wr HTw.out).mono ?_
          rintro e w' ⟨rfl, hB⟩
          go_wp2_with fail
          go_ret
          exact ⟨rfl, HBw.out.trans (hB.mono HBw.out.size)⟩
        · have hsl : all + len ≤ 8192 := by omega
          have HF : Hid (∀ wz, Below wr.heap.size wr wz → (wz.cell? ⟨w.heap.size, 2, none⟩ = some (.slice (some ⟨b, o, none⟩) nB cB) ∧ (wz.cell? ⟨w.heap.size, 0, none⟩ = some (.slice aW nW cW) ∧ wz.cell? ⟨w.heap.size, 1, none⟩ = some (.slice aR nR cR) ∧ wz.cell? ⟨w.heap.size, 3, none⟩ = some (.slice aN nN cN) ∧ wz.cell? ⟨w.heap.size, 4, none⟩ = some (.slice aK nK cK)) ∧ wz.cell? ⟨b, o + k, none⟩ = some (.slice p len cap) ∧ IsBy wz (.slice p len cap) bs ∧ Tab64 wz)) := fun wz hB =>
            ⟨by rw [hB.cell (p := ⟨w.heap.size, 2, none⟩) (block_lt_of_cell cX)]; exact cX, ⟨by rw [hB.cell (p := ⟨w.heap.size, 0, none⟩) (block_lt_of_cell cX0)]; exact cX0, by rw [hB.cell (p := ⟨w.heap.size, 1, none⟩) (block_lt_of_cell cX1)]; exact cX1, by rw [hB.cell (p := ⟨w.heap.size, 3, none⟩) (block_lt_of_cell cX3)]; exact cX3, by rw [hB.cell (p := ⟨w.heap.size, 4, none⟩) (block_lt_of_cell cX4)]; exact cX4⟩, by rw [hB.cell (p := ⟨b, o + k, none⟩) (block_lt_of_cell cV)]; exact cV, isBy_below HIB.out hB, HTw.out.below hB⟩
          obtain ⟨SB, hSB⟩ : ∃ SB, strOf bs = SB := ⟨_, rfl⟩
          have HSB := hide hSB
          have HBL : Hid (bs.length ≤ 1000000000000) := by have := HLEN.out; show _ ≤ _; omega
          clear hsum hSB
          go_wp2_with fail
          refine (n8_any aW aR _ aN aK nW cW nR cR nB cB nN cN nK cK k wr (RowsOf.below (S := IsN) (fun h hb => IsN.below h hb) HN.out HBw.out) (by omega)).mono ?_
          rintro e w1 ⟨z, rfl, hz, B1⟩
          have HBw1 : Hid (Below wr.heap.size wr w1) := B1
          clear B1 cX0 cX1 cX cX3 cX4 cV
          obtain ⟨cX, ⟨cX0, cX1, cX3, cX4⟩, cV, _, _⟩ := HF.out w1 HBw1.out
          go_upto_region 8 with fail
          go_cut [44] from 39 to 43 (fun t44 wc => ∃ bv : Bool, t44 = .bool bv ∧ wc = w1)
          case first =>
            by_cases g1 : 2048 < z
            · by_cases g2 : z ≤ 4096
              · go_wp2_with fail
                go_meet
                case rel => exact ⟨true, by simp, rfl⟩
              · go_wp2_with fail
                go_meet
                case rel => exact ⟨false, by simp, rfl⟩
            · go_wp2_with fail
              go_meet
              case rel => exact ⟨false, by simp, rfl⟩
          case rest =>
            obtain ⟨bv, rfl, hwc⟩ := hcut
            have hwc := hwc.symm
            subst hwc
            go_upto_if 44 with fail
            go_cut [5] from 45 to 46 (fun t5 wc => ∃ z2 : Int, t5 = .int .i64 z2 ∧ wc = w1)
            case first =>
              cases bv
              · go_wp2_with fail
                go_meet
                case rel => exact ⟨_, rfl, rfl⟩
              · go_wp2_with fail
                go_meet
                case rel => exact ⟨_, rfl, rfl⟩
            obtain ⟨z2, rfl, hwc⟩ := hcut
            have hwc := hwc.symm
            subst hwc
            go_wp2_with fail
            refine (kind8_any aW aR _ aN aK nW cW nR cR nB cB nN cN nK cK k w1 (RowsOf.below (S := IsN) (fun h hb => IsN.below h hb) (RowsOf.below (S := IsN) (fun h hb => IsN.below h hb) HK.out HBw.out) HBw1.out) (by omega)).mono ?_
            rintro e w2 ⟨kd, rfl, hkd, B2⟩
            have HBw2 : Hid (Below wr.heap.size wr w2) := HBw1.out.trans (B2.mono HBw1.out.size)
            clear B2 cX0 cX1 cX cX3 cX4 cV
            obtain ⟨cX, ⟨cX0, cX1, cX3, cX4⟩, cV, _, _⟩ := HF.out w2 HBw2.out
            go_wp2_with fail
            refine (unpack64_all kd z2 _ bs w2 (HF.out w2 HBw2.out).2.2.2.1 HB256.out HBL.out (HF.out w2 HBw2.out).2.2.2.2).mono ?_
            intro e w3 hE3
            rcases hE3 with ⟨c3, rfl, hc3, hc80, B3⟩ | ⟨kk64, nn64, p64, cap64, f64, hkd, hz2, hk164, hk664, hn64, rfl, hc64, hrow, hP, B3⟩
            · have HBw3 : Hid (Below wr.heap.size wr w3) := HBw2.out.trans (B3.mono HBw2.out.size)
              clear B3 cX cX0 cX1 cX3 cX4 cV
              obtain ⟨cX, ⟨cX0, cX1, cX3, cX4⟩, cV, _, _⟩ := HF.out w3 HBw3.out
              go_wp2_with fail
              refine (unpack32_all kd z2 _ bs w3 (HF.out w3 HBw3.out).2.2.2.1 HB256.out HBL.out (HF.out w3 HBw3.out).2.2.2.2).mono ?_
              intro e w4 hE4
              rcases hE4 with ⟨c4, rfl, hc4, _, B4⟩ | ⟨kk32, nn32, p32, cap32, f32, hkd32, hz32, hk132, hk632, hn32, rfl, hc32, hrow32, hP32, B4⟩
              · have HBw4 : Hid (Below wr.heap.size wr w4) := HBw3.out.trans (B4.mono HBw3.out.size)
                clear cX cX0 cX1 cX3 cX4 cV
                obtain ⟨cX, ⟨cX0, cX1, cX3, cX4⟩, cV, _, _⟩ := HF.out w4 HBw4.out
                clear B4
                by_cases ka : kd < 1
                · rw [decide_eq_true (Or.inl ka)] at hc80
                  go_wp2_with fail
                  refine (num8_any _ _).mono ?_
                  rintro e wn ⟨rfl, hwn⟩
                  have hwn := hwn.symm
                  subst hwn
                  go_wp2_with fail
                  refine (num8_any _ _).mono ?_
                  rintro e wn ⟨rfl, hwn⟩
                  have hwn := hwn.symm
                  subst hwn
                  go_wp2_with fail
                  refine (num8_any _ _).mono ?_
                  rintro e wn ⟨rfl, hwn⟩
                  have hwn := hwn.symm
                  subst hwn
                  go_wp2_with fail
                  go_roundw
                  case rel => exact ⟨all + len, k + 1, by simp, by simp, hsl, by omega, HI.out.2.2.trans (HBw4.out.mono HI.out.2.2.size)⟩
                  case measure => simp [intOf]; omega
                by_cases kb : 6 < kd
                · rw [decide_eq_true (Or.inr kb)] at hc80
                  go_wp2_with fail
                  refine (num8_any _ _).mono ?_
                  rintro e wn ⟨rfl, hwn⟩
                  have hwn := hwn.symm
                  subst hwn
                  go_wp2_with fail
                  refine (num8_any _ _).mono ?_
                  rintro e wn ⟨rfl, hwn⟩
                  have hwn := hwn.symm
                  subst hwn
                  go_wp2_with fail
                  refine (num8_any _ _).mono ?_
                  rintro e wn ⟨rfl, hwn⟩
                  have hwn := hwn.symm
                  subst hwn
                  go_wp2_with fail
                  go_roundw
                  case rel => exact ⟨all + len, k + 1, by simp, by simp, hsl, by omega, HI.out.2.2.trans (HBw4.out.mono HI.out.2.2.size)⟩
                  case measure => simp [intOf]; omega
                · rw [decide_eq_false (fun h => h.elim ka kb)] at hc80
                  go_wp2_with fail
                  refine (num8_any _ _).mono ?_
                  rintro e wn ⟨rfl, hwn⟩
                  have hwn := hwn.symm
                  subst hwn
                  go_wp2_with fail
                  refine (num8_any _ _).mono ?_
                  rintro e wn ⟨rfl, hwn⟩
                  have hwn := hwn.symm
                  subst hwn
                  go_wp2_with fail
                  refine (num8_any _ _).mono ?_
                  rintro e wn ⟨rfl, hwn⟩
                  have hwn := hwn.symm
                  subst hwn
                  go_wp2_with fail
                  go_roundw
                  case rel => exact ⟨all + len, k + 1, by simp, by simp, hsl, by omega, HI.out.2.2.trans (HBw4.out.mono HI.out.2.2.size)⟩
                  case measure => simp [intOf]; omega
              · have HBw4 : Hid (Below wr.heap.size wr w4) := HBw3.out.trans (B4.mono HBw3.out.size)
                clear cX cX0 cX1 cX3 cX4 cV
                obtain ⟨cX, ⟨cX0, cX1, cX3, cX4⟩, cV, _, _⟩ := HF.out w4 HBw4.out
                have HU32 := hide hrow32
                have HP32 := hide hP32
                have hka : ¬ kd < 1 := by omega
                have hkb : ¬ 6 < kd := by omega
                rw [decide_eq_false (fun h => h.elim hka hkb)] at hc80
                subst hkd32 hz32
                clear B4 hrow32 hP32
                go_wp2_with fail
                refine (num8_any _ _).mono ?_
                rintro e wn ⟨rfl, hwn⟩
                have hwn := hwn.symm
                subst hwn
                go_wp2_with fail
                refine (num8_any _ _).mono ?_
                rintro e wn ⟨rfl, hwn⟩
                have hwn := hwn.symm
                subst hwn
                go_wp2_with fail
                refine (num8_any _ _).mono ?_
                rintro e wn ⟨rfl, hwn⟩
                have hwn := hwn.symm
                subst hwn
                go_wp2_with fail
                refine (again32_is kk32 p32 nn32 cap32 f32 bs w4 hk132 hk632 HU32.out hn32 hc32 HP32.out (HF.out w4 HBw4.out).2.2.2.2).mono ?_
                rintro e w6 ⟨pu32, cu32, rfl, hby32, Bw6⟩
                have HBw6 : Hid (Below wr.heap.size wr w6) := HBw4.out.trans (Bw6.mono HBw4.out.size)
                have v1 : ∀ N, (convert 34 9 (.slice pu32 bs.length cu32)).run Tryz.prog (w6.drewN N) = .ok (.string SB) (w6.drewN N) := fun N => by
                  rw [← HSB.out]; exact convert_by _ _ _ (isBy_below hby32 ⟨rfl, rfl, rfl, Nat.le_refl _, fun _ _ => rfl⟩)
                have v2 : ∀ N, (convert 34 9 (.slice p len cap)).run Tryz.prog (w6.drewN N) = .ok (.string SB) (w6.drewN N) := fun N => by
                  rw [← HSB.out]; exact convert_by _ _ _ (isBy_below (HF.out w6 HBw6.out).2.2.2.1 ⟨rfl, rfl, rfl, Nat.le_refl _, fun _ _ => rfl⟩)
                clear Bw6 hby32 cX cX0 cX1 cX3 cX4 cV
                obtain ⟨cX, ⟨cX0, cX1, cX3, cX4⟩, cV, _, _⟩ := HF.out w6 HBw6.out
                go_wp2_with fail
                go_quiet ((go_at_call 15; exact Calls.quiet_of_same (num8_any _ _)))
                clear v1 v2
                go_wp2_with fail
                go_roundw
                case rel => exact ⟨all + len, k + 1, by simp, by simp, hsl, by omega, HI.out.2.2.trans ((below_drewN HBw6.out _).mono HI.out.2.2.size)⟩
                case measure => simp [intOf]; omega
            · have HBw3 : Hid (Below wr.heap.size wr w3) := HBw2.out.trans (B3.mono HBw2.out.size)
              subst hkd hz2
              clear B3 cX cX0 cX1 cX3 cX4 cV
              obtain ⟨cX, ⟨cX0, cX1, cX3, cX4⟩, cV, _, _⟩ := HF.out w3 HBw3.out
              have HP64 := hide hP
              go_wp2_with fail
              refine (unpack32_all (kk64 : Int) (nn64 : Int) _ bs w3 (HF.out w3 HBw3.out).2.2.2.1 HB256.out HBL.out (HF.out w3 HBw3.out).2.2.2.2).mono ?_
              intro e w4 hE4
              rcases hE4 with ⟨c4, rfl, hc4, _, B4⟩ | ⟨kk32, nn32, p32, cap32, f32, hkd32, hz32, hk132, hk632, hn32, rfl, hc32, hrow32, hP32, B4⟩
              · have HBw4 : Hid (Below wr.heap.size wr w4) := HBw3.out.trans (B4.mono HBw3.out.size)
                clear cX cX0 cX1 cX3 cX4 cV
                obtain ⟨cX, ⟨cX0, cX1, cX3, cX4⟩, cV, _, _⟩ := HF.out w4 HBw4.out
                have HU64 : Hid (URow64 w4 p64 nn64 f64) := hrow.below B4
                clear B4 hrow hP
                go_wp2_with fail
                refine (num8_any _ _).mono ?_
                rintro e wn ⟨rfl, hwn⟩
                have hwn := hwn.symm
                subst hwn
                go_wp2_with fail
                refine (again64_is kk64 p64 nn64 cap64 f64 bs w4 hk164 hk664 HU64.out hn64 hc64 HP64.out (HF.out w4 HBw4.out).2.2.2.2).mono ?_
                rintro e w5 ⟨pu64, cu64, rfl, hby64, Bw5⟩
                have HBw5 : Hid (Below wr.heap.size wr w5) := HBw4.out.trans (Bw5.mono HBw4.out.size)
                have v1 : ∀ N, (convert 34 9 (.slice pu64 bs.length cu64)).run Tryz.prog (w5.drewN N) = .ok (.string SB) (w5.drewN N) := fun N => by
                  rw [← HSB.out]; exact convert_by _ _ _ (isBy_below hby64 ⟨rfl, rfl, rfl, Nat.le_refl _, fun _ _ => rfl⟩)
                have v2 : ∀ N, (convert 34 9 (.slice p len cap)).run Tryz.prog (w5.drewN N) = .ok (.string SB) (w5.drewN N) := fun N => by
                  rw [← HSB.out]; exact convert_by _ _ _ (isBy_below (HF.out w5 HBw5.out).2.2.2.1 ⟨rfl, rfl, rfl, Nat.le_refl _, fun _ _ => rfl⟩)
                clear Bw5 hby64 cX cX0 cX1 cX3 cX4 cV
                obtain ⟨cX, ⟨cX0, cX1, cX3, cX4⟩, cV, _, _⟩ := HF.out w5 HBw5.out
                go_wp2_with fail
                go_quiet ((go_at_call 15; exact Calls.quiet_of_same (num8_any _ _)))
                clear v1 v2
                have HBw5' : Hid (∀ N, Below wr.heap.size wr (w5.drewN N)) := fun N => below_drewN HBw5.out N
                go_wp2_with fail
                refine (num8_any _ _).mono ?_
                rintro e wn ⟨rfl, hwn⟩
                have hwn := hwn.symm
                subst hwn
                go_wp2_with fail
                go_roundw
                case rel => exact ⟨all + len, k + 1, by simp, by simp, hsl, by omega, HI.out.2.2.trans ((HBw5'.out _).mono HI.out.2.2.size)⟩
                case measure => simp [intOf]; omega
              · have HBw4 : Hid (Below wr.heap.size wr w4) := HBw3.out.trans (B4.mono HBw3.out.size)
                clear cX cX0 cX1 cX3 cX4 cV
                obtain ⟨cX, ⟨cX0, cX1, cX3, cX4⟩, cV, _, _⟩ := HF.out w4 HBw4.out
                have HU64 : Hid (URow64 w4 p64 nn64 f64) := hrow.below B4
                have hnk : kk64 = kk32 ∧ nn64 = nn32 := ⟨by omega, by omega⟩
                obtain ⟨rfl, rfl⟩ := hnk
                have HP32 := hide hP32
                have HR32 := hide hrow32
                clear B4 hrow hP hkd32 hz32 hP32 hrow32
                go_wp2_with fail
                refine (num8_any _ _).mono ?_
                rintro e wn ⟨rfl, hwn⟩
                have hwn := hwn.symm
                subst hwn
                go_wp2_with fail
                refine (again64_is kk64 p64 nn64 cap64 f64 bs w4 hk164 hk664 HU64.out hn64 hc64 HP64.out (HF.out w4 HBw4.out).2.2.2.2).mono ?_
                rintro e w5 ⟨pu64, cu64, rfl, hby64, Bw5⟩
                have HBw5 : Hid (Below wr.heap.size wr w5) := HBw4.out.trans (Bw5.mono HBw4.out.size)
                have v1 : ∀ N, (convert 34 9 (.slice pu64 bs.length cu64)).run Tryz.prog (w5.drewN N) = .ok (.string SB) (w5.drewN N) := fun N => by
                  rw [← HSB.out]; exact convert_by _ _ _ (isBy_below hby64 ⟨rfl, rfl, rfl, Nat.le_refl _, fun _ _ => rfl⟩)
                have v2 : ∀ N, (convert 34 9 (.slice p len cap)).run Tryz.prog (w5.drewN N) = .ok (.string SB) (w5.drewN N) := fun N => by
                  rw [← HSB.out]; exact convert_by _ _ _ (isBy_below (HF.out w5 HBw5.out).2.2.2.1 ⟨rfl, rfl, rfl, Nat.le_refl _, fun _ _ => rfl⟩)
                have HU32 : Hid (∀ N, URow32 (w5.drewN N) p32 nn64 f32) := fun N => HR32.out.below (w' := w5.drewN N) (below_drewN Bw5 N)
                clear Bw5 hby64 cX cX0 cX1 cX3 cX4 cV
                obtain ⟨cX, ⟨cX0, cX1, cX3, cX4⟩, cV, _, _⟩ := HF.out w5 HBw5.out
                go_wp2_with fail
                go_quiet ((go_at_call 15; exact Calls.quiet_of_same (num8_any _ _)))
                clear v1 v2
                have HBw5' : Hid (∀ N, Below wr.heap.size wr (w5.drewN N)) := fun N => below_drewN HBw5.out N
                go_wp2_with fail
                refine (num8_any _ _).mono ?_
                rintro e wn ⟨rfl, hwn⟩
                have hwn := hwn.symm
                subst hwn
                go_wp2_with fail
                refine (again32_is kk64 p32 nn64 cap32 f32 bs _ hk132 hk632 (HU32.out _) hn32 hc32 HP32.out (HF.out _ (HBw5'.out _)).2.2.2.2).mono ?_
                rintro e w6 ⟨pu32, cu32, rfl, hby32, Bw6⟩
                have HBw6 : Hid (Below wr.heap.size wr w6) := (HBw5'.out _).trans (Bw6.mono (HBw5'.out _).size)
                have v1 : ∀ N, (convert 34 9 (.slice pu32 bs.length cu32)).run Tryz.prog (w6.drewN N) = .ok (.string SB) (w6.drewN N) := fun N => by
                  rw [← HSB.out]; exact convert_by _ _ _ (isBy_below hby32 ⟨rfl, rfl, rfl, Nat.le_refl _, fun _ _ => rfl⟩)
                have v2 : ∀ N, (convert 34 9 (.slice p len cap)).run Tryz.prog (w6.drewN N) = .ok (.string SB) (w6.drewN N) := fun N => by
                  rw [← HSB.out]; exact convert_by _ _ _ (isBy_below (HF.out w6 HBw6.out).2.2.2.1 ⟨rfl, rfl, rfl, Nat.le_refl _, fun _ _ => rfl⟩)
                clear Bw6 hby32 cX cX0 cX1 cX3 cX4 cV
                obtain ⟨cX, ⟨cX0, cX1, cX3, cX4⟩, cV, _, _⟩ := HF.out w6 HBw6.out
                go_wp2_with fail
                go_quiet ((go_at_call 15; exact Calls.quiet_of_same (num8_any _ _)))
                clear v1 v2
                go_wp2_with fail
                go_roundw
                case rel => exact ⟨all + len, k + 1, by simp, by simp, hsl, by omega, HI.out.2.2.trans ((below_drewN HBw6.out _).mono HI.out.2.2.size)⟩
                case measure => simp [intOf]; omega
      · go_wp2_with fail
        refine (works8_any wr HTw.out).mono ?_
        rintro e w' ⟨rfl, hB⟩
        go_wp2_with fail
        go_ret
        exact ⟨rfl, HBw.out.trans (hB.mono HBw.out.size)⟩
    · go_wp2_with fail
      refine (works8_any wr HTw.out).mono ?_
      rintro e w' ⟨rfl, hB⟩
      go_wp2_with fail
      go_ret
      exact ⟨rfl, HBw.out.trans (hB.mono HBw.out.size)⟩

end Go.Proofs.YtlemodcppokjhaaGreatDoor

/- DiskHolds' walk. -/
import Derived.Test.YtlandfghodfjdaaGreatJ15J
import Derived.Lib.SmallJoins
import Derived.BigQuiet
namespace Go.Proofs.YtlandfghodfjdaaGreat
open Go.RowKit
set_option linter.unusedVariables false
set_option linter.unusedSimpArgs false

set_option maxRecDepth 100000 in
set_option maxHeartbeats 16000000 in
theorem diskHolds_any (r0 r1 : Int) (pL : Option Addr) (nL cL : Nat) (w : World) (hL : OpsIn w pL nL) (hnL : nL ≤ 140737488355328) (hr0 : -9223372036854775808 ≤ r0 ∧ r0 ≤ 9223372036854775807) :
    Calls Tryz.prog 3 #[.agg #[.int .i64 r0, .int .i64 r1, .slice pL nL cL]] w fun e w' => e = .returned (.bool true) ∧ Below w.heap.size w w' := by
  have HX : Hid ((w.alloc (.cells #[.int .i64 r0, .int .i64 r1, .slice pL nL cL] 25)).heap[w.heap.size]? = some (.cells #[.int .i64 r0, .int .i64 r1, .slice pL nL cL] 25 (0, 0))) := heap_alloc_new _ _
  have HB0 : Hid (Below w.heap.size w (w.alloc (.cells #[.int .i64 r0, .int .i64 r1, .slice pL nL cL] 25))) := (Below.refl _ _).alloc (Nat.le_refl _) _
  have HL := hide (hL.below HB0.out)
  clear hL
  go_enter Tryz.func3, Tryz.ntmps3
  go_upto_region 1 with fail
  obtain ⟨w0, hw0⟩ : ∃ w0, w.alloc (.cells #[.int .i64 r0, .int .i64 r1, .slice pL nL cL] 25) = w0 := ⟨_, rfl⟩
  rw [hw0] at HX HB0 HL ⊢
  clear hw0
  have b0 : w0.cell? ⟨w.heap.size, 0, none⟩ = some (.int .i64 r0) := by rw [cell_of_row _ _ _ _ _ _ HX.out]; rfl
  have HNW : Hid (∀ m : Nat, m < 16384 → Calls Tryz.prog 6 #[.int .i64 (1 + (m : Int))] w0 fun e w2 => ∃ (S : DS), e = .returned (.tuple #[.pointer (some ⟨S.d, 0, none⟩), .int .i64 0]) ∧ HoSt w0 w2 S.d (1 + m) 0 S) := fun m hm => by
    have := ho_new w0 w0 (Below.refl _ _) (1 + m) (by omega) (by omega)
    rw [show (((1 + m : Nat)) : Int) = 1 + (m : Int) from by omega] at this
    exact this
  go_upto_block 0 with (first
    | (go_at_call 7; refine (num10_any _ _).mono ?_; rintro e wn ⟨rfl, hwn⟩; have hwn2 := hwn.symm; subst hwn2)
    | (go_at_call 5; refine (within10_any r0 16384 _ hr0.1 hr0.2 (by decide) (by decide)).mono ?_; rintro e wn ⟨m, rfl, hm, hwn⟩; have hwn2 := hwn.symm; subst hwn2; have HM := hide hm)
    | (go_at_call 6; refine (HNW.out m hm).mono ?_; rintro e w1 ⟨S, rfl, hS⟩; have H1 := hide hS; clear hS HNW; obtain ⟨d, hd⟩ : ∃ d, S.d = d := ⟨_, rfl⟩; rw [hd] at H1 ⊢; clear hd)
    | (go_at_call 8; refine (works10_any _).mono ?_; rintro e w2 ⟨rfl, hB2⟩; have HS0 := hide (H1.out.below hB2); clear hB2 H1))
  clear b0
  go_wp2_with fail
  go_loopw [6, 7] (fun t6 t7 wr => ∃ (i : Nat) (z : Int), t6 = .int .i64 z ∧ t7 = .int .i64 (i : Int) ∧ (0 ≤ z ∧ z ≤ 131072) ∧ i ≤ 400 ∧ i ≤ nL ∧ Hid (∃ (S : DS), HoSt w0 wr d (1 + m) i S)) (fun _ t7 _ => 400 - (intOf t7).toNat)
  case atStart => exact ⟨0, 131072, rfl, rfl, ⟨by decide, by decide⟩, by decide, by omega, S, HS0.out⟩
  case round =>
    obtain ⟨i, z, rfl, rfl, hz, hi4, hin, HS⟩ := hrel
    clear HS0
    have hcell : wr.cell? ⟨w.heap.size, 2, none⟩ = some (.slice pL nL cL) := by
      obtain ⟨S, hS⟩ := HS.out
      have hb := hS.bel.block _ (heap_lt HX.out)
      rw [cell_of_row _ _ _ _ _ _ (hb.trans HX.out)]; rfl
    by_cases hlt : i < nL
    · have hlt' : (i : Int) < (nL : Int) := by omega
      by_cases hlt4 : i < 400
      · have hlt4' : (i : Int) < 400 := by omega
        obtain ⟨b, o, dw, on, nm, tt, pb, nb, cb, z2, kp, ls, fl, bs, rfl, hop⟩ := HL.out i hlt
        obtain ⟨S, hS⟩ := HS.out
        have hop' := hop.below hS.bel
        obtain ⟨vals, fs, ⟨hfa, pf, cf, rfl, hfb⟩, hfc, hfd⟩ := hop'.fl_
        obtain ⟨nf, hnf⟩ : ∃ nf, fs.length = nf := ⟨_, rfl⟩
        obtain ⟨c0, c1, c2, c3, c4, c5, c6, c7, c8, -, -, -, -⟩ := hop'
        rw [hnf] at c8
        have HSZ := hide hop.sz
        have HBY := hide hop.by_
        have HT := hide hS
        have HBW : Hid (Below wr.heap.size wr (wr.alloc (.cells #[.int .i64 dw, .int .i64 on, .string nm, .string tt, .slice pb nb cb, .int .i64 z2, .int .i64 kp, .int .i64 ls, .slice pf nf cf] 36))) := (Below.refl _ _).alloc (Nat.le_refl _) _
        have HO : Hid ((wr.alloc (.cells #[.int .i64 dw, .int .i64 on, .string nm, .string tt, .slice pb nb cb, .int .i64 z2, .int .i64 kp, .int .i64 ls, .slice pf nf cf] 36)).heap[wr.heap.size]? = some (.cells #[.int .i64 dw, .int .i64 on, .string nm, .string tt, .slice pb nb cb, .int .i64 z2, .int .i64 kp, .int .i64 ls, .slice pf nf cf] 36 (0, 0))) := heap_alloc_new _ _
        have HSI : Hid (Calls Tryz.prog 9 #[opV dw on nm tt (.slice pb nb cb) z2 kp ls (.slice pf nf cf)] (wr.alloc (.cells #[.int .i64 dw, .int .i64 on, .string nm, .string tt, .slice pb nb cb, .int .i64 z2, .int .i64 kp, .int .i64 ls, .slice pf nf cf] 36)) fun e w' => (∃ r : Nat, e = .returned (.int .i64 (r : Int)) ∧ nb + nm.size + tt.size ≤ r ∧ r ≤ 1000000000000000) ∧ Below (wr.alloc (.cells #[.int .i64 dw, .int .i64 on, .string nm, .string tt, .slice pb nb cb, .int .i64 z2, .int .i64 kp, .int .i64 ls, .slice pf nf cf] 36)).heap.size (wr.alloc (.cells #[.int .i64 dw, .int .i64 on, .string nm, .string tt, .slice pb nb cb, .int .i64 z2, .int .i64 kp, .int .i64 ls, .slice pf nf cf] 36)) w') := by
          have hR : FilesR (wr.alloc (.cells #[.int .i64 dw, .int .i64 on, .string nm, .string tt, .slice pb nb cb, .int .i64 z2, .int .i64 kp, .int .i64 ls, .slice pf nf cf] 36)) (.slice pf nf cf) vals fs := by
            have h1 : FilesR wr (.slice pf nf cf) vals fs := ⟨hfa, pf, cf, by rw [hnf], hfb⟩
            exact h1.below HBW.out
          obtain ⟨_, _, _, e, h1, h2, _⟩ := HBY.out
          simp only [Value.slice.injEq] at e
          obtain ⟨-, rfl, -⟩ := e
          refine size10_any dw on nm tt pb nb cb z2 kp ls _ vals fs _ hR (by omega) (by omega) (by have := HSZ.out.1; omega) (by have := HSZ.out.2; omega) fun j hj => ?_
          obtain ⟨k1, p', n', c', k2, k3, _⟩ := hfd j hj
          exact ⟨by omega, p', n', c', k2, by omega⟩
        clear hop hfa hfb hfc hfd hnf hS
        go_upto_region 10 with fail
        obtain ⟨wo, hwo⟩ : ∃ wo, wr.alloc (.cells #[.int .i64 dw, .int .i64 on, .string nm, .string tt, .slice pb nb cb, .int .i64 z2, .int .i64 kp, .int .i64 ls, .slice pf nf cf] 36) = wo := ⟨_, rfl⟩
        rw [hwo] at HBW HO HSI ⊢
        clear hwo c0 c1 c2 c3 c4 c5 c6 c7 c8 hcell
        have y0 : wo.cell? ⟨wr.heap.size, 0, none⟩ = some (.int .i64 dw) := cell_of_row _ _ _ _ _ _ HO.out
        have y1 : wo.cell? ⟨wr.heap.size, 1, none⟩ = some (.int .i64 on) := cell_of_row _ _ _ _ _ _ HO.out
        have y2 : wo.cell? ⟨wr.heap.size, 2, none⟩ = some (.string nm) := cell_of_row _ _ _ _ _ _ HO.out
        have y3 : wo.cell? ⟨wr.heap.size, 3, none⟩ = some (.string tt) := cell_of_row _ _ _ _ _ _ HO.out
        have y4 : wo.cell? ⟨wr.heap.size, 4, none⟩ = some (.slice pb nb cb) := cell_of_row _ _ _ _ _ _ HO.out
        have y5 : wo.cell? ⟨wr.heap.size, 5, none⟩ = some (.int .i64 z2) := cell_of_row _ _ _ _ _ _ HO.out
        have y6 : wo.cell? ⟨wr.heap.size, 6, none⟩ = some (.int .i64 kp) := cell_of_row _ _ _ _ _ _ HO.out
        have y7 : wo.cell? ⟨wr.heap.size, 7, none⟩ = some (.int .i64 ls) := cell_of_row _ _ _ _ _ _ HO.out
        have y8 : wo.cell? ⟨wr.heap.size, 8, none⟩ = some (.slice pf nf cf) := cell_of_row _ _ _ _ _ _ HO.out
        go_upto_region 11 with (go_at_call 9; refine HSI.out.mono ?_; rintro e w3 ⟨⟨r, rfl, hr1, hr2⟩, hb3⟩; have HB3 := hide hb3; clear hb3 HSI y0 y1 y2 y3 y4 y5 y6 y7 y8)
        have HT3 := hide ((HT.out.below HBW.out).below HB3.out)
        have HO3 : Hid (w3.heap[wr.heap.size]? = some (.cells #[.int .i64 dw, .int .i64 on, .string nm, .string tt, .slice pb nb cb, .int .i64 z2, .int .i64 kp, .int .i64 ls, .slice pf nf cf] 36 (0, 0)) ∧ Qo w3 S wr.heap.size) := by
          have hl : wr.heap.size < wo.heap.size := heap_lt HO.out
          exact ⟨(HB3.out.block _ hl).trans HO.out, Nat.lt_of_lt_of_le hl HB3.out.size, fun hf => by have := HT.out.dk.fpLt _ hf; omega⟩
        clear HO HT HBW HB3
        by_cases hz0 : z - (r : Int) < 0
        · have HSE : Hid (∃ (S : DS), HoSt w0 w3 d (1 + m) i S) := ⟨S, HT3.out⟩
          clear HT3 HO3
          obtain ⟨S, hS⟩ := HSE.out
          have HF1 := hide hS.files
          clear HSE hS
          go_upto_region 25 with (first
            | (go_at_call 10; refine HF1.out.mono ?_; rintro e wa ⟨pv, nv, cv, rfl, ys, ns, hn, hW, hp, ho, hH, hfr⟩; have HLD := hide (load_at (HM.out) hH hW hp ho); clear hn hW hp ho hH HF1 hfr)
            | (go_at_call 18; refine HLD.out.mono ?_; rintro e wb ⟨dc, Bc, Sc, fs, rfl, hdc, hE⟩; have HE := hide hE; have HDC := hide hdc; clear hE hdc HLD))
          have HFC := hide (HE.out.filesC HDC.out)
          clear HE
          go_wp2_with (first
            | (go_at_call 7; refine (num10_any _ _).mono ?_; rintro e wn ⟨rfl, hwn⟩; have hwn2 := hwn.symm; subst hwn2)
            | (go_at_call 10; refine HFC.out.mono ?_; rintro e wc ⟨pc, nc, cc, rfl, ysc, hA, hE2, hlo⟩; have HFS := hide (hE2.filesS hA hlo); clear hA hE2 hlo HFC)
            | (go_at_call 10; refine HFS.out.mono ?_; rintro e wd ⟨pd, nd, cd, rfl, ysd, q1, q2, q3, q4, hE3⟩; have HEQ := hide (hE3.eq q3 q4 q1 q2); clear q1 q2 q3 q4 hE3 HFS)
            | (go_at_call 14; refine HEQ.out.mono ?_; rintro e we ⟨rfl, hE4⟩; have HWR := hide (hE4.writesC HDC.out); clear hE4 HEQ)
            | (go_at_call 11; refine HWR.out.mono ?_; rintro e wf ⟨rfl, hE5⟩; have HOF := hide (hE5.offC HDC.out); clear hE5 HWR)
            | (go_at_call 19; refine HOF.out.mono ?_; rintro e wg ⟨rfl, hE6⟩; have HB6 := hide hE6.ho.bel; clear hE6 HOF)
            | (go_at_call 8; refine (works10_any _).mono ?_; rintro e wh ⟨rfl, hB2⟩; have HB7 := hide (HB6.out.trans (hB2.mono HB6.out.size)); clear hB2 HB6))
          go_ret
          exact ⟨rfl, HB0.out.trans (HB7.out.mono HB0.out.size)⟩
        · have hzr : 0 ≤ z - (r : Int) := by omega
          have HNB : Hid (nb ≤ 131072) := by show _ ≤ _; omega
          have HFW := hide HT3.out.files
          obtain ⟨V, hV⟩ : ∃ V, S.wr = V := ⟨_, rfl⟩
          have HV := hide hV
          clear hV
          go_upto_region 14 with (first
            | (go_at_call 10; refine HFW.out.mono ?_; rintro e w4 ⟨pw, nw, cw, rfl, ys, ns, hn, hW, hp, ho, hH, hfr⟩; have HNW2 := hide hn; have HW4 := hide hW; have HP := hide (And.intro hp ho); have HO4 : Hid (w4.heap[wr.heap.size]? = some (.cells #[.int .i64 dw, .int .i64 on, .string nm, .string tt, .slice pb nb cb, .int .i64 z2, .int .i64 kp, .int .i64 ls, .slice pf nf cf] 36 (0, 0)) ∧ Qo w4 S wr.heap.size) := ⟨((HO3.out.2.fr hfr).2).trans HO3.out.1, (HO3.out.2.fr hfr).1⟩; have HWR := hide hH.writes; rw [HV.out] at HWR; clear hn hW hp ho hH hfr HFW HO3 HT3)
            | (go_at_call 11; refine HWR.out.mono ?_; rintro e w5 ⟨rfl, hH, hfr⟩; have HT5 := hide hH; have HW5 := hide (HW4.out.go hfr); have HO5 : Hid (w5.heap[wr.heap.size]? = some (.cells #[.int .i64 dw, .int .i64 on, .string nm, .string tt, .slice pb nb cb, .int .i64 z2, .int .i64 kp, .int .i64 ls, .slice pf nf cf] 36 (0, 0)) ∧ Qo w5 S wr.heap.size) := ⟨((HO4.out.2.fr hfr).2).trans HO4.out.1, (HO4.out.2.fr hfr).1⟩; clear hH hfr HWR HO4 HW4))
          have HDO := hide (HT5.out.doit (by omega) dw on nm tt pb nb cb z2 kp ls (.slice pf nf cf) bs HBY.out (by have := HNB.out; omega) HSZ.out)
          have y0 : w5.cell? ⟨wr.heap.size, 0, none⟩ = some (.int .i64 dw) := cell_of_row _ _ _ _ _ _ HO5.out.1
          have y1 : w5.cell? ⟨wr.heap.size, 1, none⟩ = some (.int .i64 on) := cell_of_row _ _ _ _ _ _ HO5.out.1
          have y2 : w5.cell? ⟨wr.heap.size, 2, none⟩ = some (.string nm) := cell_of_row _ _ _ _ _ _ HO5.out.1
          have y3 : w5.cell? ⟨wr.heap.size, 3, none⟩ = some (.string tt) := cell_of_row _ _ _ _ _ _ HO5.out.1
          have y4 : w5.cell? ⟨wr.heap.size, 4, none⟩ = some (.slice pb nb cb) := cell_of_row _ _ _ _ _ _ HO5.out.1
          have y5 : w5.cell? ⟨wr.heap.size, 5, none⟩ = some (.int .i64 z2) := cell_of_row _ _ _ _ _ _ HO5.out.1
          have y6 : w5.cell? ⟨wr.heap.size, 6, none⟩ = some (.int .i64 kp) := cell_of_row _ _ _ _ _ _ HO5.out.1
          have y7 : w5.cell? ⟨wr.heap.size, 7, none⟩ = some (.int .i64 ls) := cell_of_row _ _ _ _ _ _ HO5.out.1
          have y8 : w5.cell? ⟨wr.heap.size, 8, none⟩ = some (.slice pf nf cf) := cell_of_row _ _ _ _ _ _ HO5.out.1
          go_upto_region 15 with (go_at_call 12; refine HDO.out.mono ?_; rintro e w6 ⟨zc, is, S6, rfl, hf6, hH6, hor⟩; have HF6 := hide hf6; have HT6 := hide hH6; have HOR := hide hor; clear hf6 hH6 hor HDO y0 y1 y2 y3 y4 y5 y6 y7 y8)
          have HW6 := hide (HW5.out.go HF6.out)
          have HO6 : Hid (w6.heap[wr.heap.size]? = some (.cells #[.int .i64 dw, .int .i64 on, .string nm, .string tt, .slice pb nb cb, .int .i64 z2, .int .i64 kp, .int .i64 ls, .slice pf nf cf] 36 (0, 0)) ∧ Qo w6 S6 wr.heap.size) := ⟨((HO5.out.2.fr HF6.out).2).trans HO5.out.1, (HO5.out.2.fr HF6.out).1⟩
          have HG5 := hide (HW5.out.got HP.out.1 HP.out.2)
          have HFN := hide HT6.out.files
          clear HW5 HO5 HF6
          go_upto_region 16 with (go_at_call 10; refine HFN.out.mono ?_; rintro e w7 ⟨pn, nn, cn, rfl, ys7, ns7, hn, hW, hp, ho, hH, hfr⟩; have HNN := hide hn; have HT7 := hide hH; have HD : Hid (DnH w5 w7 w0.heap.size w0.heap.size S S6 (.slice pw nw cw) (.slice pn nn cn) ys ys7 ns ns7) := ⟨HT5.out.dk, HG5.out, HW6.out.go hfr, hH.dk, hW, hp, ho, HT5.out.fin⟩; have HO7 : Hid (w7.heap[wr.heap.size]? = some (.cells #[.int .i64 dw, .int .i64 on, .string nm, .string tt, .slice pb nb cb, .int .i64 z2, .int .i64 kp, .int .i64 ls, .slice pf nf cf] 36 (0, 0)) ∧ Qo w7 S6 wr.heap.size) := ⟨((HO6.out.2.fr hfr).2).trans HO6.out.1, (HO6.out.2.fr hfr).1⟩; clear hn hW hp ho hH hfr HFN)
          have HLW := hide (HT5.out.ct HP.out.1)
          have HRM : Hid (S.room = 1 + m) := HT5.out.cfg.2.2.2
          have HTT := hide (files_tot HT5.out.dk HP.out.1)
          have hVb : V ≤ 400 := by have h1 := HT5.out.cfg.2.2.1; have h2 := HV.out; omega
          clear HW6 HO6 HG5 HT6 HT5 HP
          obtain ⟨his, hps⟩ | ⟨his, hc0, hps, hfull⟩ | ⟨his, hc0, hwr, hdo⟩ := HOR.out
          · subst his
            clear hps HOR HD HO7 HNN HLW HRM HTT
            go_wp2_with fail
            go_roundw
            case rel => exact ⟨i + 1, z - (r : Int), rfl, by simp, by omega, by omega, by omega, S6, HT7.out⟩
            case measure => simp [intOf]; omega
          · subst his
            have HPS := hide hps
            have HFU := hide hfull
            clear hps hfull HOR
            obtain ⟨uf, bf, hfi, hbf⟩ := HD.out.find nm
            have HFI := hide hfi
            have HBF := hide hbf
            clear hfi hbf
            have y2 : w7.cell? ⟨wr.heap.size, 2, none⟩ = some (.string nm) := cell_of_row _ _ _ _ _ _ HO7.out.1
            go_upto_region 18 with (go_at_call 13; refine (HFI.out _ (Below.refl _ _)).mono ?_; rintro e w8 ⟨rfl, hb8⟩; have HB8 := hide hb8; clear hb8 HFI y2)
            have HD8 := hide (HD.out.below HB8.out)
            have HT8 := hide (HT7.out.below HB8.out)
            have HO8 : Hid (w8.heap[wr.heap.size]? = some (.cells #[.int .i64 dw, .int .i64 on, .string nm, .string tt, .slice pb nb cb, .int .i64 z2, .int .i64 kp, .int .i64 ls, .slice pf nf cf] 36 (0, 0)) ∧ Qo w8 S6 wr.heap.size) := ⟨(HB8.out.block _ HO7.out.2.1).trans HO7.out.1, Nat.lt_of_lt_of_le HO7.out.2.1 HB8.out.size, HO7.out.2.2⟩
            clear HD HT7 HO7 HB8
            have HEQ := hide (HD8.out.same (fun n => by rw [HPS.out]) fun n => by rw [HPS.out])
            have HWE : Hid (S6.wr = V) := by show _ = _; rw [← HV.out]; exact congrArg PS.wr HPS.out
            have hcb : (zc == 0) = false := by simpa using hc0
            go_upto_region 20 with (first
              | (go_at_call 7; refine (num10_any _ _).mono ?_; rintro e wn ⟨rfl, hwn⟩; have hwn2 := hwn.symm; subst hwn2)
              | (go_at_call 14; refine (HEQ.out _ (Below.refl _ _)).mono ?_; rintro e w9 ⟨rfl, hb9⟩; have HD9 := hide (HD8.out.below hb9); have HWQ := hide (HT8.out.below hb9).writes; have HO9 : Hid (w9.heap[wr.heap.size]? = some (.cells #[.int .i64 dw, .int .i64 on, .string nm, .string tt, .slice pb nb cb, .int .i64 z2, .int .i64 kp, .int .i64 ls, .slice pf nf cf] 36 (0, 0)) ∧ Qo w9 S6 wr.heap.size) := ⟨(hb9.block _ HO8.out.2.1).trans HO8.out.1, Nat.lt_of_lt_of_le HO8.out.2.1 hb9.size, HO8.out.2.2⟩; rw [HWE.out] at HWQ; clear hb9 HEQ HD8 HT8 HO8)
              | (go_at_call 11; refine HWQ.out.mono ?_; rintro e wa ⟨rfl, hH, hfr⟩; have HDa := hide (HD9.out.step hH hfr); have HTa := hide hH; have HOa : Hid (wa.heap[wr.heap.size]? = some (.cells #[.int .i64 dw, .int .i64 on, .string nm, .string tt, .slice pb nb cb, .int .i64 z2, .int .i64 kp, .int .i64 ls, .slice pf nf cf] 36 (0, 0)) ∧ Qo wa S6 wr.heap.size) := ⟨((HO9.out.2.fr hfr).2).trans HO9.out.1, (HO9.out.2.fr hfr).1⟩; clear hH hfr HWQ HD9 HO9))
            by_cases hc3 : zc = 103
            · subst hc3
              obtain ⟨hdw, hno⟩ := HFU.out rfl
              subst hdw
              have HNO := hide hno
              clear hno HFU
              obtain ⟨T, hT⟩ : ∃ T, tot S.L = T := ⟨_, rfl⟩
              have HSM : Hid (∀ N, Calls Tryz.prog 16 #[.slice pw nw cw] (wa.drewN N) fun e w' => e = .returned (.int .i64 (T : Int)) ∧ ∃ N', w' = (wa.drewN N).drewN N') := fun N => by
                have h1 := (HDa.out.below (bel_drewN wa N)).sumsW HTT.out
                rw [hT] at h1
                exact h1
              have HNO2 : Hid (nb + T ≤ 1 + m → bf = false ∧ 256 ≤ nw) := fun hle => by
                have h1 := HNO.out
                rw [hT, HRM.out, ← bsl HBY.out] at h1
                have h2 := HLW.out
                have h3 := HNW2.out
                refine ⟨?_, ?_⟩
                · cases hb : bf with
                  | false => rfl
                  | true => exact absurd ⟨.inl (HBF.out.1 hb), hle⟩ h1
                · have : ¬ S.L.length < 256 := fun e => h1 ⟨.inr e, hle⟩
                  omega
              have hTb : T ≤ 268435456 := by have h1 := HDa.out.d0.rm; omega
              have hnb17 : nb ≤ 131072 := HNB.out
              clear HNO hT
              have y0 : wa.cell? ⟨wr.heap.size, 0, none⟩ = some (.int .i64 1) := cell_of_row _ _ _ _ _ _ HOa.out.1
              have y4 : wa.cell? ⟨wr.heap.size, 4, none⟩ = some (.slice pb nb cb) := cell_of_row _ _ _ _ _ _ HOa.out.1
              by_cases hle : nb + T ≤ 1 + m
              · obtain ⟨rfl, hnw⟩ := HNO2.out hle
                have hle' : (T : Int) + (nb : Int) ≤ 1 + (m : Int) := by omega
                have hnw' : ¬ (nw : Int) < 256 := by omega
                have hd1 : decide ((T : Int) + (nb : Int) ≤ 1 + (m : Int)) = true := by simpa using hle'
                have hd2 : decide ((nw : Int) < 256) = false := by simpa using hnw'
                clear HNO2
                go_quiet (first | (exact Calls.quiet_of_same (num10_any _ _)) | (exact Calls.quiet_of (HSM.out _)))
                have HDb := hide (HDa.out.below (bel_drewN wa nq))
                have HTb := hide (HTa.out.below (bel_drewN wa nq))
                clear HDa HTa HOa
                obtain ⟨Tn, hTn, hsn⟩ := HDb.out.sumsN
                have HSN := hide hsn
                have hTm : Tn ≤ 1 + m := by rw [HTb.out.cfg.2.2.2] at hTn; exact hTn
                have hTm' : ¬ 1 + (m : Int) < (Tn : Int) := by omega
                have hn256 : nn ≤ 256 := by have h1 := (HTb.out.ct HDb.out.perm).2; have h2 := HNN.out; omega
                have hn256' : ¬ (256 : Int) < (nn : Int) := by omega
                clear hsn hTn hTm hn256
                go_wp2_with (first
                  | (go_at_call 16; refine HSN.out.mono ?_; rintro e wc ⟨rfl, N', hwn⟩; have HWC : Hid (Below (wa.drewN nq).heap.size (wa.drewN nq) wc) := (by rw [hwn]; exact bel_drewN _ _); have HTL := hide ((HTb.out.below HWC.out).tells (HDb.out.now.below HWC.out) HDb.out.perm HDb.out.ord HNN.out); clear hwn HSN)
                  | (go_at_call 17; refine HTL.out.mono ?_; rintro e we ⟨rfl, hH⟩; have HTE := hide hH; clear hH HTL))
                go_roundw
                case rel => exact ⟨i + 1, z - (r : Int), rfl, by simp, by omega, by omega, by omega, S6, HTE.out⟩
                case measure => simp [intOf]; omega
              · have hle' : ¬ (T : Int) + (nb : Int) ≤ 1 + (m : Int) := by omega
                have hd1 : decide ((T : Int) + (nb : Int) ≤ 1 + (m : Int)) = false := by simpa using hle'
                clear HNO2
                go_quiet (first | (exact Calls.quiet_of_same (num10_any _ _)) | (exact Calls.quiet_of (HSM.out _)))
                have HDb := hide (HDa.out.below (bel_drewN wa nq))
                have HTb := hide (HTa.out.below (bel_drewN wa nq))
                clear HDa HTa HOa
                obtain ⟨Tn, hTn, hsn⟩ := HDb.out.sumsN
                have HSN := hide hsn
                have hTm : Tn ≤ 1 + m := by rw [HTb.out.cfg.2.2.2] at hTn; exact hTn
                have hTm' : ¬ 1 + (m : Int) < (Tn : Int) := by omega
                have hn256 : nn ≤ 256 := by have h1 := (HTb.out.ct HDb.out.perm).2; have h2 := HNN.out; omega
                have hn256' : ¬ (256 : Int) < (nn : Int) := by omega
                clear hsn hTn hTm hn256
                go_wp2_with (first
                  | (go_at_call 16; refine HSN.out.mono ?_; rintro e wc ⟨rfl, N', hwn⟩; have HWC : Hid (Below (wa.drewN nq).heap.size (wa.drewN nq) wc) := (by rw [hwn]; exact bel_drewN _ _); have HTL := hide ((HTb.out.below HWC.out).tells (HDb.out.now.below HWC.out) HDb.out.perm HDb.out.ord HNN.out); clear hwn HSN)
                  | (go_at_call 17; refine HTL.out.mono ?_; rintro e we ⟨rfl, hH⟩; have HTE := hide hH; clear hH HTL))
                go_roundw
                case rel => exact ⟨i + 1, z - (r : Int), rfl, by simp, by omega, by omega, by omega, S6, HTE.out⟩
                case measure => simp [intOf]; omega
            · have hc3b : (zc == 103) = false := by simpa using hc3
              clear HFU
              go_quiet (exact Calls.quiet_of_same (num10_any _ _))
              have HDb := hide (HDa.out.below (bel_drewN wa nq))
              have HTb := hide (HTa.out.below (bel_drewN wa nq))
              clear HDa HTa HOa
              obtain ⟨Tn, hTn, hsn⟩ := HDb.out.sumsN
              have HSN := hide hsn
              have hTm : Tn ≤ 1 + m := by rw [HTb.out.cfg.2.2.2] at hTn; exact hTn
              have hTm' : ¬ 1 + (m : Int) < (Tn : Int) := by omega
              have hn256 : nn ≤ 256 := by have h1 := (HTb.out.ct HDb.out.perm).2; have h2 := HNN.out; omega
              have hn256' : ¬ (256 : Int) < (nn : Int) := by omega
              clear hsn hTn hTm hn256
              go_wp2_with (first
                | (go_at_call 16; refine HSN.out.mono ?_; rintro e wc ⟨rfl, N', hwn⟩; have HWC : Hid (Below (wa.drewN nq).heap.size (wa.drewN nq) wc) := (by rw [hwn]; exact bel_drewN _ _); have HTL := hide ((HTb.out.below HWC.out).tells (HDb.out.now.below HWC.out) HDb.out.perm HDb.out.ord HNN.out); clear hwn HSN)
                | (go_at_call 17; refine HTL.out.mono ?_; rintro e we ⟨rfl, hH⟩; have HTE := hide hH; clear hH HTL))
              go_roundw
              case rel => exact ⟨i + 1, z - (r : Int), rfl, by simp, by omega, by omega, by omega, S6, HTE.out⟩
              case measure => simp [intOf]; omega
          · subst his
            subst hc0
            have HWS := hide hwr
            have HDH := hide hdo
            clear hwr hdo HOR
            obtain ⟨uf, bf, hfi, hbf⟩ := HD.out.find nm
            have HFI := hide hfi
            have HBF := hide hbf
            clear hfi hbf
            have y2 : w7.cell? ⟨wr.heap.size, 2, none⟩ = some (.string nm) := cell_of_row _ _ _ _ _ _ HO7.out.1
            go_upto_region 18 with (go_at_call 13; refine (HFI.out _ (Below.refl _ _)).mono ?_; rintro e w8 ⟨rfl, hb8⟩; have HB8 := hide hb8; clear hb8 HFI y2)
            have HD8 := hide (HD.out.below HB8.out)
            have HT8 := hide (HT7.out.below HB8.out)
            have HO8 : Hid (w8.heap[wr.heap.size]? = some (.cells #[.int .i64 dw, .int .i64 on, .string nm, .string tt, .slice pb nb cb, .int .i64 z2, .int .i64 kp, .int .i64 ls, .slice pf nf cf] 36 (0, 0)) ∧ Qo w8 S6 wr.heap.size) := ⟨(HB8.out.block _ HO7.out.2.1).trans HO7.out.1, Nat.lt_of_lt_of_le HO7.out.2.1 HB8.out.size, HO7.out.2.2⟩
            clear HD HT7 HO7 HB8
            have HDN := hide (done_at HD8.out dw on nm tt pb nb cb z2 kp ls (.slice pf nf cf) bs (HBY.out.bel HT8.out.bel) (by have := HNB.out; omega) HDH.out)
            have HWE : Hid ((S6.wr : Int) = (V : Int) + 1) := by show _ = _; have := HWS.out; rw [HV.out] at this; omega
            have y0 : w8.cell? ⟨wr.heap.size, 0, none⟩ = some (.int .i64 dw) := cell_of_row _ _ _ _ _ _ HO8.out.1
            have y1 : w8.cell? ⟨wr.heap.size, 1, none⟩ = some (.int .i64 on) := cell_of_row _ _ _ _ _ _ HO8.out.1
            have y2 : w8.cell? ⟨wr.heap.size, 2, none⟩ = some (.string nm) := cell_of_row _ _ _ _ _ _ HO8.out.1
            have y3 : w8.cell? ⟨wr.heap.size, 3, none⟩ = some (.string tt) := cell_of_row _ _ _ _ _ _ HO8.out.1
            have y4 : w8.cell? ⟨wr.heap.size, 4, none⟩ = some (.slice pb nb cb) := cell_of_row _ _ _ _ _ _ HO8.out.1
            have y5 : w8.cell? ⟨wr.heap.size, 5, none⟩ = some (.int .i64 z2) := cell_of_row _ _ _ _ _ _ HO8.out.1
            have y6 : w8.cell? ⟨wr.heap.size, 6, none⟩ = some (.int .i64 kp) := cell_of_row _ _ _ _ _ _ HO8.out.1
            have y7 : w8.cell? ⟨wr.heap.size, 7, none⟩ = some (.int .i64 ls) := cell_of_row _ _ _ _ _ _ HO8.out.1
            have y8 : w8.cell? ⟨wr.heap.size, 8, none⟩ = some (.slice pf nf cf) := cell_of_row _ _ _ _ _ _ HO8.out.1
            go_upto_region 20 with (first
              | (go_at_call 7; refine (num10_any _ _).mono ?_; rintro e wn ⟨rfl, hwn⟩; have hwn2 := hwn.symm; subst hwn2)
              | (go_at_call 15; refine HDN.out.mono ?_; rintro e w9 ⟨rfl, hb9⟩; have HD9 := hide (HD8.out.below hb9); have HWQ := hide (HT8.out.below hb9).writes; have HO9 : Hid (w9.heap[wr.heap.size]? = some (.cells #[.int .i64 dw, .int .i64 on, .string nm, .string tt, .slice pb nb cb, .int .i64 z2, .int .i64 kp, .int .i64 ls, .slice pf nf cf] 36 (0, 0)) ∧ Qo w9 S6 wr.heap.size) := ⟨(hb9.block _ HO8.out.2.1).trans HO8.out.1, Nat.lt_of_lt_of_le HO8.out.2.1 hb9.size, HO8.out.2.2⟩; rw [HWE.out] at HWQ; clear hb9 HDN HD8 HT8 HO8 y0 y1 y2 y3 y4 y5 y6 y7 y8)
              | (go_at_call 11; refine HWQ.out.mono ?_; rintro e wa ⟨rfl, hH, hfr⟩; have HDa := hide (HD9.out.step hH hfr); have HTa := hide hH; have HOa : Hid (wa.heap[wr.heap.size]? = some (.cells #[.int .i64 dw, .int .i64 on, .string nm, .string tt, .slice pb nb cb, .int .i64 z2, .int .i64 kp, .int .i64 ls, .slice pf nf cf] 36 (0, 0)) ∧ Qo wa S6 wr.heap.size) := ⟨((HO9.out.2.fr hfr).2).trans HO9.out.1, (HO9.out.2.fr hfr).1⟩; clear hH hfr HWQ HD9 HO9))
            go_quiet (exact Calls.quiet_of_same (num10_any _ _))
            have HDb := hide (HDa.out.below (bel_drewN wa nq))
            have HTb := hide (HTa.out.below (bel_drewN wa nq))
            clear HDa HTa HOa
            obtain ⟨Tn, hTn, hsn⟩ := HDb.out.sumsN
            have HSN := hide hsn
            have hTm : Tn ≤ 1 + m := by rw [HTb.out.cfg.2.2.2] at hTn; exact hTn
            have hTm' : ¬ 1 + (m : Int) < (Tn : Int) := by omega
            have hn256 : nn ≤ 256 := by have h1 := (HTb.out.ct HDb.out.perm).2; have h2 := HNN.out; omega
            have hn256' : ¬ (256 : Int) < (nn : Int) := by omega
            clear hsn hTn hTm hn256
            go_wp2_with (first
              | (go_at_call 16; refine HSN.out.mono ?_; rintro e wc ⟨rfl, N', hwn⟩; have HWC : Hid (Below (wa.drewN nq).heap.size (wa.drewN nq) wc) := (by rw [hwn]; exact bel_drewN _ _); have HTL := hide ((HTb.out.below HWC.out).tells (HDb.out.now.below HWC.out) HDb.out.perm HDb.out.ord HNN.out); clear hwn HSN)
              | (go_at_call 17; refine HTL.out.mono ?_; rintro e we ⟨rfl, hH⟩; have HTE := hide hH; clear hH HTL))
            go_roundw
            case rel => exact ⟨i + 1, z - (r : Int), rfl, by simp, by omega, by omega, by omega, S6, HTE.out⟩
            case measure => simp [intOf]; omega
      · have hlt4' : ¬ (i : Int) < 400 := by omega
        have HSE := HS
        obtain ⟨S, hS⟩ := HSE.out
        have HF1 := hide hS.files
        clear HSE hS
        go_upto_region 25 with (first
          | (go_at_call 10; refine HF1.out.mono ?_; rintro e wa ⟨pv, nv, cv, rfl, ys, ns, hn, hW, hp, ho, hH, hfr⟩; have HLD := hide (load_at (HM.out) hH hW hp ho); clear hn hW hp ho hH HF1 hfr)
          | (go_at_call 18; refine HLD.out.mono ?_; rintro e wb ⟨dc, Bc, Sc, fs, rfl, hdc, hE⟩; have HE := hide hE; have HDC := hide hdc; clear hE hdc HLD))
        have HFC := hide (HE.out.filesC HDC.out)
        clear HE
        go_wp2_with (first
          | (go_at_call 7; refine (num10_any _ _).mono ?_; rintro e wn ⟨rfl, hwn⟩; have hwn2 := hwn.symm; subst hwn2)
          | (go_at_call 10; refine HFC.out.mono ?_; rintro e wc ⟨pc, nc, cc, rfl, ysc, hA, hE2, hlo⟩; have HFS := hide (hE2.filesS hA hlo); clear hA hE2 hlo HFC)
          | (go_at_call 10; refine HFS.out.mono ?_; rintro e wd ⟨pd, nd, cd, rfl, ysd, q1, q2, q3, q4, hE3⟩; have HEQ := hide (hE3.eq q3 q4 q1 q2); clear q1 q2 q3 q4 hE3 HFS)
          | (go_at_call 14; refine HEQ.out.mono ?_; rintro e we ⟨rfl, hE4⟩; have HWR := hide (hE4.writesC HDC.out); clear hE4 HEQ)
          | (go_at_call 11; refine HWR.out.mono ?_; rintro e wf ⟨rfl, hE5⟩; have HOF := hide (hE5.offC HDC.out); clear hE5 HWR)
          | (go_at_call 19; refine HOF.out.mono ?_; rintro e wg ⟨rfl, hE6⟩; have HB6 := hide hE6.ho.bel; clear hE6 HOF)
          | (go_at_call 8; refine (works10_any _).mono ?_; rintro e wh ⟨rfl, hB2⟩; have HB7 := hide (HB6.out.trans (hB2.mono HB6.out.size)); clear hB2 HB6))
        go_ret
        exact ⟨rfl, HB0.out.trans (HB7.out.mono HB0.out.size)⟩
    · have hlt' : ¬ (i : Int) < (nL : Int) := by omega
      have HSE := HS
      obtain ⟨S, hS⟩ := HSE.out
      have HF1 := hide hS.files
      clear HSE hS
      go_upto_region 25 with (first
        | (go_at_call 10; refine HF1.out.mono ?_; rintro e wa ⟨pv, nv, cv, rfl, ys, ns, hn, hW, hp, ho, hH, hfr⟩; have HLD := hide (load_at (HM.out) hH hW hp ho); clear hn hW hp ho hH HF1 hfr)
        | (go_at_call 18; refine HLD.out.mono ?_; rintro e wb ⟨dc, Bc, Sc, fs, rfl, hdc, hE⟩; have HE := hide hE; have HDC := hide hdc; clear hE hdc HLD))
      have HFC := hide (HE.out.filesC HDC.out)
      clear HE
      go_wp2_with (first
        | (go_at_call 7; refine (num10_any _ _).mono ?_; rintro e wn ⟨rfl, hwn⟩; have hwn2 := hwn.symm; subst hwn2)
        | (go_at_call 10; refine HFC.out.mono ?_; rintro e wc ⟨pc, nc, cc, rfl, ysc, hA, hE2, hlo⟩; have HFS := hide (hE2.filesS hA hlo); clear hA hE2 hlo HFC)
        | (go_at_call 10; refine HFS.out.mono ?_; rintro e wd ⟨pd, nd, cd, rfl, ysd, q1, q2, q3, q4, hE3⟩; have HEQ := hide (hE3.eq q3 q4 q1 q2); clear q1 q2 q3 q4 hE3 HFS)
        | (go_at_call 14; refine HEQ.out.mono ?_; rintro e we ⟨rfl, hE4⟩; have HWR := hide (hE4.writesC HDC.out); clear hE4 HEQ)
        | (go_at_call 11; refine HWR.out.mono ?_; rintro e wf ⟨rfl, hE5⟩; have HOF := hide (hE5.offC HDC.out); clear hE5 HWR)
        | (go_at_call 19; refine HOF.out.mono ?_; rintro e wg ⟨rfl, hE6⟩; have HB6 := hide hE6.ho.bel; clear hE6 HOF)
        | (go_at_call 8; refine (works10_any _).mono ?_; rintro e wh ⟨rfl, hB2⟩; have HB7 := hide (HB6.out.trans (hB2.mono HB6.out.size)); clear hB2 HB6))
      go_ret
      exact ⟨rfl, HB0.out.trans (HB7.out.mono HB0.out.size)⟩

end Go.Proofs.YtlandfghodfjdaaGreat

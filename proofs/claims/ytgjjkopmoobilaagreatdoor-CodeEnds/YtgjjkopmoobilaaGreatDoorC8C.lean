/- CodeEnds: the walk. -/
import Derived.Test.YtgjjkopmoobilaaGreatDoorC7N
import Derived.Test.YtgjjkopmoobilaaGreatDoorC5C
import Derived.Deep.CutBlock
import Derived.Deep.DeepCutAuto
import Derived.Deep.CutRange
import Derived.Great.BuildSlice
namespace Go.Proofs.YtgjjkopmoobilaaGreatDoor
open Go.RowKit
open M
set_option linter.unusedVariables false
set_option linter.unusedSimpArgs false

set_option maxRecDepth 100000 in
set_option maxHeartbeats 8000000 in
theorem ends8_any (w : World) (hT : Tab64 w) : Calls Tryz.prog 6 #[] w fun e w' => e = .returned (.bool true) ∧ Below w.heap.size w w' := by
  have HT := hide hT
  clear hT
  go_enter Tryz.func6, Tryz.ntmps6
  go_upto_block 0 with fail
  go_cut [1] from 2 (fun t1 wc => Hid (Below w.heap.size w wc))
  case first =>
    as_aux_lemma =>
      go_wp2_with fail
      go_loopw [1] (fun t1 wr => ∃ k : Int, t1 = .int .i64 k ∧ Hid (-1 ≤ k ∧ k ≤ 9 ∧ Below w.heap.size w wr)) (fun t1 _ => (9 - intOf t1).toNat)
      case atStart => exact ⟨-1, rfl, by omega, by omega, Below.refl _ _⟩
      case round =>
        obtain ⟨k, rfl, hI⟩ := hrel
        have hlo := hI.out.1
        have hhi := hI.out.2.1
        by_cases hle : k ≤ 8
        · by_cases hk1 : k < 1
          · as_aux_lemma =>
              go_wp2_with fail
              have HBa : Hid (Below w.heap.size w (wr.alloc (.cells #[] 39))) := hI.out.2.2.alloc hI.out.2.2.size _
              generalize wr.alloc (.cells #[] 39) = wa at *
              refine (cPack64_none k _ wa (Or.inl hk1)).mono ?_
              rintro e wb ⟨rfl, Bb⟩
              have HBb : Hid (Below w.heap.size w wb) := HBa.out.trans (Bb.mono HBa.out.size)
              clear Bb
              go_wp2_with fail
              refine (cUnpack32_none k _ _ wb (Or.inl hk1)).mono ?_
              rintro e wc ⟨rfl, Bc⟩
              have HBc : Hid (Below w.heap.size w wc) := HBb.out.trans (Bc.mono HBb.out.size)
              clear Bc
              go_wp2_with fail
              have HBd : Hid (Below w.heap.size w (wc.alloc (.cells #[.int .u8 0] 5))) := HBc.out.alloc HBc.out.size _
              have HY : Hid (IsBy (wc.alloc (.cells #[.int .u8 0] 5)) (.slice (some ⟨wc.heap.size, 0, none⟩) 1 1) [0]) := .inl (isBytes_row (bs := [0]) (heap_alloc_new _ _))
              generalize wc.alloc (.cells #[.int .u8 0] 5) = wd at *
              refine (cUnpack64_none k _ _ wd (Or.inl hk1)).mono ?_
              rintro e we ⟨rfl, Be⟩
              have HBe : Hid (Below w.heap.size w we) := HBd.out.trans (Be.mono HBd.out.size)
              clear Be
              go_wp2_with fail
              refine (num8_any _ _).mono ?_
              rintro e wn ⟨rfl, hwn⟩
              have hwn := hwn.symm
              subst hwn
              go_wp2_with fail
              refine (num8_any _ _).mono ?_
              rintro e wn ⟨rfl, hwn⟩
              have hwn := hwn.symm
              subst hwn
              go_wp2_with fail
              go_roundw
              case rel => exact ⟨k + 1, rfl, by omega, by omega, HBe.out⟩
              case measure => simp [intOf]; omega
          · by_cases hk6 : 6 < k
            · as_aux_lemma =>
                go_wp2_with fail
                have HBa : Hid (Below w.heap.size w (wr.alloc (.cells #[] 39))) := hI.out.2.2.alloc hI.out.2.2.size _
                generalize wr.alloc (.cells #[] 39) = wa at *
                refine (cPack64_none k _ wa (Or.inr hk6)).mono ?_
                rintro e wb ⟨rfl, Bb⟩
                have HBb : Hid (Below w.heap.size w wb) := HBa.out.trans (Bb.mono HBa.out.size)
                clear Bb
                go_wp2_with fail
                refine (cUnpack32_none k _ _ wb (Or.inr hk6)).mono ?_
                rintro e wc ⟨rfl, Bc⟩
                have HBc : Hid (Below w.heap.size w wc) := HBb.out.trans (Bc.mono HBb.out.size)
                clear Bc
                go_wp2_with fail
                have HBd : Hid (Below w.heap.size w (wc.alloc (.cells #[.int .u8 0] 5))) := HBc.out.alloc HBc.out.size _
                have HY : Hid (IsBy (wc.alloc (.cells #[.int .u8 0] 5)) (.slice (some ⟨wc.heap.size, 0, none⟩) 1 1) [0]) := .inl (isBytes_row (bs := [0]) (heap_alloc_new _ _))
                generalize wc.alloc (.cells #[.int .u8 0] 5) = wd at *
                refine (cUnpack64_none k _ _ wd (Or.inr hk6)).mono ?_
                rintro e we ⟨rfl, Be⟩
                have HBe : Hid (Below w.heap.size w we) := HBd.out.trans (Be.mono HBd.out.size)
                clear Be
                go_wp2_with fail
                refine (num8_any _ _).mono ?_
                rintro e wn ⟨rfl, hwn⟩
                have hwn := hwn.symm
                subst hwn
                go_wp2_with fail
                refine (num8_any _ _).mono ?_
                rintro e wn ⟨rfl, hwn⟩
                have hwn := hwn.symm
                subst hwn
                go_wp2_with fail
                go_roundw
                case rel => exact ⟨k + 1, rfl, by omega, by omega, HBe.out⟩
                case measure => simp [intOf]; omega
            · as_aux_lemma =>
                obtain ⟨kk, rfl⟩ : ∃ kk : Nat, k = (kk : Int) := ⟨k.toNat, by omega⟩
                have hkk : Hid (1 ≤ kk ∧ kk ≤ 6) := ⟨by omega, by omega⟩
                go_wp2_with fail
                have HBa : Hid (Below w.heap.size w (wr.alloc (.cells #[] 39))) := hI.out.2.2.alloc hI.out.2.2.size _
                generalize wr.alloc (.cells #[] 39) = wa at *
                refine (cPack64_empty kk _ _ wa hkk.out.1 hkk.out.2).mono ?_
                rintro e wb ⟨rfl, Bb⟩
                have HBb : Hid (Below w.heap.size w wb) := HBa.out.trans (Bb.mono HBa.out.size)
                clear Bb
                go_wp2_with fail
                refine (cUnpack32_any kk (.slice none 0 0) [] 0 wb hkk.out.1 hkk.out.2 (.inl (.inl ⟨rfl, rfl⟩)) (by simp) (by simp) (by omega) (HT.out.below HBb.out)).mono ?_
                rintro e wc (⟨-, -, hno⟩ | ⟨u, f, rfl, hU, -, -⟩)
                · exact (hno (fun _ => 0) ⟨fun i hi => by omega, fun _ => rfl, fun h => by omega⟩).elim
                obtain ⟨p5, cap5, rfl, -, -⟩ := hU.row
                have Bc := hU.2.1
                have HBc : Hid (Below w.heap.size w wc) := HBb.out.trans (Bc.mono HBb.out.size)
                clear hU
                clear Bc
                go_wp2_with fail
                have HBd : Hid (Below w.heap.size w (wc.alloc (.cells #[.int .u8 0] 5))) := HBc.out.alloc HBc.out.size _
                have HY : Hid (IsBy (wc.alloc (.cells #[.int .u8 0] 5)) (.slice (some ⟨wc.heap.size, 0, none⟩) 1 1) [0]) := .inl (isBytes_row (bs := [0]) (heap_alloc_new _ _))
                generalize wc.alloc (.cells #[.int .u8 0] 5) = wd at *
                refine (cUnpack64_any kk _ [0] 0 wd hkk.out.1 hkk.out.2 HY.out (by simp) (by simp) (by omega) (HT.out.below HBd.out)).mono ?_
                rintro e we (⟨rfl, Be, _⟩ | ⟨u, f, _, _, hP, _⟩)
                rotate_left
                · exact absurd (hP.2.1 rfl) (by simp)
                have HBe : Hid (Below w.heap.size w we) := HBd.out.trans (Be.mono HBd.out.size)
                clear Be
                go_wp2_with fail
                refine (num8_any _ _).mono ?_
                rintro e wn ⟨rfl, hwn⟩
                have hwn := hwn.symm
                subst hwn
                go_wp2_with fail
                refine (num8_any _ _).mono ?_
                rintro e wn ⟨rfl, hwn⟩
                have hwn := hwn.symm
                subst hwn
                go_wp2_with fail
                refine (num8_any _ _).mono ?_
                rintro e wn ⟨rfl, hwn⟩
                have hwn := hwn.symm
                subst hwn
                go_wp2_with fail
                refine (num8_any _ _).mono ?_
                rintro e wn ⟨rfl, hwn⟩
                have hwn := hwn.symm
                subst hwn
                go_wp2_with fail
                refine (num8_any _ _).mono ?_
                rintro e wn ⟨rfl, hwn⟩
                have hwn := hwn.symm
                subst hwn
                go_wp2_with fail
                go_roundw
                case rel => exact ⟨(kk : Int) + 1, rfl, by omega, by omega, HBe.out⟩
                case measure => simp [intOf]; omega
        · go_wp2_with fail
          go_meet
          case rel => exact hI.out.2.2
  case rest =>
    obtain ⟨w1, hw1⟩ : ∃ w1, w1 = wc := ⟨_, rfl⟩
    rw [← hw1] at hcut ⊢
    clear hw1
    have HB1 := hcut
    clear hcut
    go_upto_block 2 with fail
    go_cut [9] from 10 (fun t9 wc => Hid (USt64 w1.heap.size w1 sqF 4097 t9 wc))
    case first =>
      as_aux_lemma =>
        obtain ⟨i5, hi5⟩ := info64
        have Hi := hide hi5
        clear hi5
        go_wp2_with fail
        go_loopw [9, 10] (fun t9 t10 wr => ∃ (v : Value) (i : Nat), v = t9 ∧ t10 = .int .i64 (i : Int) ∧ Hid (i ≤ 4097) ∧ Hid (USt64 w1.heap.size w1 sqF i v wr)) (fun _ t10 _ => 4097 - (intOf t10).toNat)
        case atStart => exact ⟨_, 0, rfl, rfl, Nat.zero_le _, USt64.nil _ _⟩
        case round =>
          obtain ⟨v, i, rfl, rfl, hI, HS⟩ := hrel
          by_cases hlt : i < 4097
          · have Hnext := hide (fun (w4 : World) (g4 cap4 : Nat) => USt64.next (w4 := w4) (g := g4) (cap := cap4) HS.out rfl)
            obtain ⟨x, hx⟩ : ∃ x, sqF i = x := ⟨_, rfl⟩
            have hxl : x < 18446744073709551616 := by rw [← hx]; exact sqF_lt i hlt
            have r1 : IntKind.u64.wrap (i : Int) = (i : Int) := by rw [IntKind.wrap_u64]; omega
            have r2 : IntKind.u64.wrap ((i : Int) * (i : Int)) = (x : Int) := by
              rw [IntKind.wrap_u64, show (i : Int) * (i : Int) = (x : Int) from by rw [← hx]; simp [sqF]]; omega
            rw [hx] at Hnext
            have HX := hide hxl
            clear hx hxl
            go_wp2_with (at_builtin; refine wpList_append_lies _ rfl _ _ _ rfl w1.heap.size 39 i5 (.int .u64 0) 1 8 Tryz.underlying28 Hi.out.1 Hi.out.2.1 Hi.out.2.2.1 Hi.out.2.2.2 rfl (by decide) _ i (valsV64 i sqF) rfl (HS.out.1.alloc _) ⟨wr.heap.size, 0, none⟩ 1 1 [.int .u64 (x : Int)] rfl rfl ?d2 ?d3 (by decide) ?d4 ?d5 ?d7 _ rfl ?d6)
            case d2 => intro j u hj; exact cell_new8 wr _ 39 j u hj
            case d3 => intro u hu; simp at hu; subst hu; rfl
            case d4 => unfold maxLen; omega
            case d5 => omega
            case d7 => have := HS.out.2.1.size; simp; omega
            case d6 =>
              intro g4 cap4 w4 ho4 hg4 hat4 hlt4
              have H4 : Hid (USt64 w1.heap.size w1 sqF (i + 1) (.slice (some ⟨g4, 0, none⟩) (i + 1) cap4) w4) := Hnext.out w4 g4 cap4 ho4 hg4
              clear ho4 hg4 hat4 hlt4 HS Hnext
              go_wp2_with fail
              go_roundw
              case rel => exact ⟨_, i + 1, rfl, by simp, hlt, H4.out⟩
              case measure => simp [intOf]; omega
          · obtain rfl : i = 4097 := by have := hI.out; omega
            go_wp2_with fail
            go_meet
            case rel => exact HS.out
    case rest =>
      obtain ⟨w2, hw2⟩ : ∃ w2, w2 = wc := ⟨_, rfl⟩
      rw [← hw2] at hcut ⊢
      clear hw2
      obtain ⟨ad, cp, rfl, hcp, R⟩ := hcut.out.row
      have HB2 : Hid (Below w.heap.size w w2) := HB1.out.trans (hcut.out.2.1.mono HB1.out.size)
      obtain ⟨gb, go, rfl, hc⟩ := R (by omega)
      have HRW : Hid (∀ wx, Below w2.heap.size w2 wx → URow64 wx (some ⟨gb, go, none⟩) 4097 sqF) := fun wx hx => R.below hx
      have HF : Hid (∀ i, i < 4097 → sqF i < 18446744073709551616) := sqF_lt
      clear hcut R hc HB1
      have hBw2 : Hid (Below w2.heap.size w2 w2) := Below.refl _ _
      have hcp' : 4097 ≤ cp := hcp
      as_aux_lemma =>
        go_wp2_with fail
        refine (cAgain64 4 _ 256 cp sqF w2 (by omega) (by omega) ((HRW.out w2 hBw2.out).take (by omega)) (by omega) (by omega) (fun i hi => HF.out i (by omega)) (HT.out.below (HB2.out.trans (hBw2.out.mono HB2.out.size)))).mono ?_
        rintro e wa (⟨pu, cu, bs, rfl, hby, h256, Bwa, hP, -⟩ | ⟨-, -, hno⟩)
        rotate_left
        · obtain ⟨bs, hbs⟩ := packIs_takes64 4 256 sqF (by omega) (by omega) (fun i hi => HF.out i (by omega)) (by rw [uq_sq]; omega)
          exact (hno bs hbs).elim
        have hBwa : Hid (Below w2.heap.size w2 wa) := hBw2.out.trans (Bwa.mono hBw2.out.size)
        have hlen : bs.length = 2305 := sq_dict bs hP
        have HP := hide hP
        have HY := hide (fun wx (hx : Below wa.heap.size wa wx) => isBy_below hby hx)
        have H256 := hide h256
        rw [hlen] at HY ⊢
        have HLN := hide hlen
        clear Bwa hP hby h256 hlen
        go_wp2_with fail
        refine (cAgain64 4 _ 257 cp sqF wa (by omega) (by omega) ((HRW.out wa hBwa.out).take (by omega)) (by omega) (by omega) (fun i hi => HF.out i (by omega)) (HT.out.below (HB2.out.trans (hBwa.out.mono HB2.out.size)))).mono ?_
        rintro e wb (⟨_, _, bs2, -, -, -, -, hP2, -⟩ | ⟨rfl, Bwb, hno⟩)
        · exact (packIs_none64 257 sqF (by rw [uq_sq]; omega) bs2 hP2).elim
        have hBwb : Hid (Below w2.heap.size w2 wb) := hBwa.out.trans (Bwb.mono hBwa.out.size)
        have bab := hide Bwb
        clear Bwb hno
        go_wp2_with fail
        refine (cUnpack64_any 4 _ bs 256 wb (by omega) (by omega) (HY.out wb bab.out) H256.out (by rw [HLN.out]; omega) (by omega) (HT.out.below (HB2.out.trans (hBwb.out.mono HB2.out.size)))).mono ?_
        rintro e wc (⟨-, -, hno⟩ | ⟨u, f5, rfl, hU, -, hEq⟩)
        · exact (hno sqF HP.out).elim
        obtain ⟨p5, cap5, rfl, hcap5, hrow5⟩ := hU.row
        have Bwc := hU.2.1
        have hBwc : Hid (Below w2.heap.size w2 wc) := hBwb.out.trans (Bwc.mono hBwb.out.size)
        have HE5 := hide (hEq sqF HP.out)
        have HR5 := hide (fun wx (hx : Below wc.heap.size wc wx) => hrow5.below hx)
        clear hU hEq hrow5 Bwc HY H256 HP HLN bab
        go_wp2_with fail
        refine (sizes64_any _ 257 cp sqF wc ((HRW.out wc hBwc.out).take (by omega)) (by omega) (by omega) (fun i hi => HF.out i (by omega)) (HT.out.below (HB2.out.trans (hBwc.out.mono HB2.out.size)))).mono ?_
        rintro e wd ⟨v, rfl, hown, Bwd⟩
        obtain ⟨gs, cs, rfl, hcs, hs⟩ := sizes_cap8 hown
        have hBwd : Hid (Below w2.heap.size w2 wd) := hBwc.out.trans (Bwd.mono hBwc.out.size)
        have hs3 : wd.cell? ⟨gs, 3, none⟩ = some (.int .i64 (-1)) := by
          have := hs 3 (.int .i64 (szI64 sqF 257 4)) (by omega) (by simp [szV64])
          rw [szI64_no (fun i hi => HF.out i (by omega)) (fun bs hP => packIs_none64 257 sqF (by rw [uq_sq]; omega) bs hP)] at this
          exact this
        have HR5d : Hid (URow64 wd p5 256 f5) := HR5.out wd Bwd
        clear hown hs Bwd HR5
        go_wp2_with fail
        refine (num8_any _ _).mono ?_
        rintro e wn ⟨rfl, hwn⟩
        have hwn := hwn.symm
        subst hwn
        go_wp2_with fail
        refine (num8_any _ _).mono ?_
        rintro e wn ⟨rfl, hwn⟩
        have hwn := hwn.symm
        subst hwn
        go_wp2_with fail
        refine (num8_any _ _).mono ?_
        rintro e wn ⟨rfl, hwn⟩
        have hwn := hwn.symm
        subst hwn
        go_wp2_with fail
        refine (same8_any p5 _ 256 256 cap5 cp f5 sqF wd HR5d.out ((HRW.out wd hBwd.out).take (by omega)) (by omega) (by omega)).mono ?_
        rintro e we ⟨vv, rfl, hvv, m, hwe⟩
        obtain rfl : vv = true := hvv.2 ⟨rfl, HE5.out⟩
        have hs3 : we.cell? ⟨gs, 3, none⟩ = some (.int .i64 (-1)) := by rw [hwe]; exact hs3
        have hBwe : Hid (Below w2.heap.size w2 we) := by rw [hwe]; exact below_drewN hBwd.out m
        clear hwe hvv HR5d HE5
        go_wp2_with fail
        refine (num8_any _ _).mono ?_
        rintro e wn ⟨rfl, hwn⟩
        have hwn := hwn.symm
        subst hwn
        go_upto_block 4 with fail
        clear hs3
        go_cut [19] from 20 (fun t19 wc => Hid (Below w2.heap.size w2 wc))
        case first =>
          as_aux_lemma =>
            go_wp2_with fail
            go_loopw [19] (fun t19 wr => ∃ q : Nat, t19 = .int .i64 ((q : Int) + 1) ∧ Hid (q ≤ 5 ∧ Below w2.heap.size w2 wr)) (fun t19 _ => 6 - (intOf t19).toNat)
            case atStart => exact ⟨0, rfl, by omega, hBwe.out⟩
            case round =>
              obtain ⟨q, rfl, hI⟩ := hrel
              have hBwr : Hid (Below w2.heap.size w2 wr) := hI.out.2
              by_cases hlt : q + 1 ≤ 5
              · have hle : (q : Int) + 1 ≤ 5 := by omega
                have HQ := hide (cAgain64 (q + 1) (some ⟨gb, go, none⟩) 4096 cp sqF wr (by omega) (by omega) ((HRW.out wr hBwr.out).take (by omega)) (by omega) (by omega) (fun i hi => HF.out i (by omega)) (HT.out.below (HB2.out.trans (hBwr.out.mono HB2.out.size))))
                rw [show (((q + 1 : Nat)) : Int) = (q : Int) + 1 from by simp] at HQ
                go_wp2_with fail
                refine HQ.out.mono ?_
                intro e w3 hE
                have HQ2 := hide (fun wx => cPack64_many (q + 1) (some ⟨gb, go, none⟩) 4097 cp wx (by omega) (by omega) (by omega))
                have HQ3 := hide (fun v wx => cUnpack64_count (q + 1) 4097 v wx (by omega) (by omega) (by omega))
                rw [show (((q + 1 : Nat)) : Int) = (q : Int) + 1 from by simp] at HQ2 HQ3
                clear HQ
                rcases hE with ⟨pu, cu, bs, rfl, -, -, Bw3, hP, -⟩ | ⟨rfl, Bw3, hno⟩
                · have hq4 : ((q : Int) + 1 != 4) = true := by
                    rw [bne_iff_ne]; intro h
                    have h4 : q + 1 = 4 := by omega
                    rw [h4] at hP
                    exact packIs_none64 4096 sqF (by rw [uq_sq]; omega) bs hP
                  have hBw3 : Hid (Below w2.heap.size w2 w3) := hBwr.out.trans (Bw3.mono hBwr.out.size)
                  clear Bw3
                  go_wp2_with fail
                  refine (HQ2.out w3).mono ?_
                  rintro e w4 ⟨rfl, Bw4⟩
                  have hBw4 : Hid (Below w2.heap.size w2 w4) := hBw3.out.trans (Bw4.mono hBw3.out.size)
                  clear Bw4
                  go_wp2_with fail
                  refine (HQ3.out _ w4).mono ?_
                  rintro e w5 ⟨rfl, Bw5⟩
                  have hBw5 : Hid (Below w2.heap.size w2 w5) := hBw4.out.trans (Bw5.mono hBw4.out.size)
                  clear Bw5 HQ2 HQ3
                  go_wp2_with fail
                  refine (num8_any _ _).mono ?_
                  rintro e wn ⟨rfl, hwn⟩
                  have hwn := hwn.symm
                  subst hwn
                  go_wp2_with fail
                  refine (num8_any _ _).mono ?_
                  rintro e wn ⟨rfl, hwn⟩
                  have hwn := hwn.symm
                  subst hwn
                  go_wp2_with fail
                  refine (num8_any _ _).mono ?_
                  rintro e wn ⟨rfl, hwn⟩
                  have hwn := hwn.symm
                  subst hwn
                  go_wp2_with fail
                  go_roundw
                  case rel => exact ⟨q + 1, by simp, hlt, hBw5.out⟩
                  case measure => simp [intOf]; omega
                · have hq4 : ((q : Int) + 1 != 4) = false := by
                    rw [bne_eq_false_iff_eq]
                    by_cases h4 : q + 1 = 4
                    · omega
                    · obtain ⟨bs, hbs⟩ := packIs_takes64 (q + 1) 4096 sqF (by omega) (by omega) (fun i hi => HF.out i (by omega)) (fun h => h4 h.1)
                      exact (hno bs hbs).elim
                  have hBw3 : Hid (Below w2.heap.size w2 w3) := hBwr.out.trans (Bw3.mono hBwr.out.size)
                  clear Bw3
                  go_wp2_with fail
                  refine (HQ2.out w3).mono ?_
                  rintro e w4 ⟨rfl, Bw4⟩
                  have hBw4 : Hid (Below w2.heap.size w2 w4) := hBw3.out.trans (Bw4.mono hBw3.out.size)
                  clear Bw4
                  go_wp2_with fail
                  refine (HQ3.out _ w4).mono ?_
                  rintro e w5 ⟨rfl, Bw5⟩
                  have hBw5 : Hid (Below w2.heap.size w2 w5) := hBw4.out.trans (Bw5.mono hBw4.out.size)
                  clear Bw5 HQ2 HQ3
                  go_wp2_with fail
                  refine (num8_any _ _).mono ?_
                  rintro e wn ⟨rfl, hwn⟩
                  have hwn := hwn.symm
                  subst hwn
                  go_wp2_with fail
                  refine (num8_any _ _).mono ?_
                  rintro e wn ⟨rfl, hwn⟩
                  have hwn := hwn.symm
                  subst hwn
                  go_wp2_with fail
                  refine (num8_any _ _).mono ?_
                  rintro e wn ⟨rfl, hwn⟩
                  have hwn := hwn.symm
                  subst hwn
                  go_wp2_with fail
                  go_roundw
                  case rel => exact ⟨q + 1, by simp, hlt, hBw5.out⟩
                  case measure => simp [intOf]; omega
              · go_wp2_with fail
                go_meet
                case rel => exact hI.out.2
        case rest =>
          obtain ⟨w3, hw3⟩ : ∃ w3, w3 = wc := ⟨_, rfl⟩
          rw [← hw3] at hcut ⊢
          clear hw3
          have hBw3 := hcut
          clear hcut hBwe
          as_aux_lemma =>
            have HO : Hid (URow64 (w3.alloc (.cells (od8Z.map (Value.int .u64)).toArray 39)) (some ⟨w3.heap.size, 0, none⟩) 10 od8F) := od8_row (heap_alloc_new _ _)
            have hBw4 : Hid (Below w2.heap.size w2 (w3.alloc (.cells (od8Z.map (Value.int .u64)).toArray 39))) := hBw3.out.alloc hBw3.out.size _
            go_upto_region 29 with fail
            refine wp_region_list ?_
            refine wpList_buildFlatAt rfl _ 39 10 _ rfl .u64 od8Z w3.heap.size rfl _ rfl Tryz.underlying28 (by kernel_rfl) (by kernel_rfl) rfl (by decide) (by decide) rfl ?_
            generalize w3.alloc (.cells (od8Z.map (Value.int .u64)).toArray 39) = w4 at *
            have HOW : Hid (∀ wx, Below w4.heap.size w4 wx → URow64 wx (some ⟨w3.heap.size, 0, none⟩) 10 od8F) := fun wx hx => HO.out.below hx
            go_wp2_with fail
            refine (od8_pack _ 10 w4 HO.out (by omega) (HT.out.below (HB2.out.trans (hBw4.out.mono HB2.out.size)))).mono ?_
            rintro e w5 ⟨g5, bs, rfl, hg5, Bw5, hD, hn1, hn2, hL5, h255⟩
            have HD := hide hD
            have HN := hide (And.intro hn1 hn2)
            have HL5 := hide hL5
            have H255 := hide h255
            clear hD hn1 hn2 hL5 h255
            have HG5 := hide (fun wx (hx : Below w5.heap.size w5 wx) => show wx.heap[g5]? = some (.cells (bytesV bs).toArray 5 (0, 0)) by rw [hx.block g5 (size_lt_of_row hg5)]; exact hg5)
            have hBw5 : Hid (Below w2.heap.size w2 w5) := hBw4.out.trans (Bw5.mono hBw4.out.size)
            have b45 := hide Bw5
            clear hg5 Bw5 HO
            obtain ⟨L, hL⟩ : ∃ L, bs.length = L := ⟨_, rfl⟩
            have HL := hide hL
            rw [hL]
            clear hL
            go_wp2_with fail
            refine (cUnpack64_any 6 (.slice (some ⟨g5, 0, none⟩) L L) bs 10 w5 (by omega) (by omega) (by rw [← HL.out]; exact .inl (isBytes_row (HG5.out w5 (Below.refl _ _)))) H255.out HL5.out (by omega) (HT.out.below (HB2.out.trans (hBw5.out.mono HB2.out.size)))).mono ?_
            rintro e w6 (⟨-, -, hno⟩ | ⟨u, f5, rfl, hU, -, hEq⟩)
            · exact (hno od8F HD.out).elim
            obtain ⟨p6, cap6, rfl, hcap6, hrow6⟩ := hU.row
            have Bw6 := hU.2.1
            have hBw6 : Hid (Below w2.heap.size w2 w6) := hBw5.out.trans (Bw6.mono hBw5.out.size)
            have b56 := hide Bw6
            have HE6 := hide (hEq od8F HD.out)
            have HR6 := hide (fun wx (hx : Below w6.heap.size w6 wx) => hrow6.below hx)
            clear hU hEq hrow6 Bw6 HD
            go_wp2_with fail
            refine (best64_many _ 4097 cp w6 (by omega)).mono ?_
            rintro e w7 ⟨rfl, Bw7⟩
            have hBw7 : Hid (Below w2.heap.size w2 w7) := hBw6.out.trans (Bw7.mono hBw6.out.size)
            have b67 := hide Bw7
            clear Bw7
            go_wp2_with fail
            refine (sizes64_many _ 4097 cp w7 (by omega)).mono ?_
            rintro e wn ⟨rfl, hwn⟩
            have hwn := hwn.symm
            subst hwn
            have b57 : Hid (Below w5.heap.size w5 w7) := b56.out.trans (b67.out.mono b56.out.size)
            have b47 : Hid (Below w4.heap.size w4 w7) := b45.out.trans (b57.out.mono b45.out.size)
            go_wp2_with fail
            refine (num8_any _ _).mono ?_
            rintro e wn ⟨rfl, hwn⟩
            have hwn := hwn.symm
            subst hwn
            go_wp2_with fail
            refine (num8_any _ _).mono ?_
            rintro e wn ⟨rfl, hwn⟩
            have hwn := hwn.symm
            subst hwn
            go_wp2_with fail
            refine (same8_any p6 _ 10 10 cap6 10 f5 od8F w7 (HR6.out w7 b67.out) (HOW.out w7 b47.out) (by omega) (by omega)).mono ?_
            rintro e w8 ⟨vv, rfl, hvv, m, hw8⟩
            obtain rfl : vv = true := hvv.2 ⟨rfl, HE6.out⟩
            have hBw8 : Hid (Below w2.heap.size w2 w8) := by rw [hw8]; exact below_drewN hBw7.out m
            have HG8 : Hid (w8.heap[g5]? = some (.cells (bytesV bs).toArray 5 (0, 0))) := by rw [hw8]; exact HG5.out w7 b57.out
            clear hw8 hvv
            have HNN := hide (none8_false g5 bs w8 HG8.out HN.out.1 HL5.out HN.out.2 (getD_lt8 bs H255.out 1))
            rw [HL.out] at HNN
            go_wp2_with fail
            refine HNN.out.mono ?_
            rintro e wn ⟨rfl, hwn⟩
            have hwn := hwn.symm
            subst hwn
            go_wp2_with fail
            refine (num8_any _ _).mono ?_
            rintro e wn ⟨rfl, hwn⟩
            have hwn := hwn.symm
            subst hwn
            go_wp2_with fail
            refine (num8_any _ _).mono ?_
            rintro e wn ⟨rfl, hwn⟩
            have hwn := hwn.symm
            subst hwn
            go_wp2_with fail
            refine (works8_any w8 (HT.out.below (HB2.out.trans (hBw8.out.mono HB2.out.size)))).mono ?_
            rintro e w9 ⟨rfl, Bw9⟩
            have hBw9 : Hid (Below w2.heap.size w2 w9) := hBw8.out.trans (Bw9.mono hBw8.out.size)
            clear Bw9
            go_wp2_with fail
            go_ret
            exact ⟨rfl, HB2.out.trans (hBw9.out.mono HB2.out.size)⟩
end Go.Proofs.YtgjjkopmoobilaaGreatDoor

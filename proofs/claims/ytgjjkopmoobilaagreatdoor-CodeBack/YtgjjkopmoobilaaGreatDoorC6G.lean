/- CodeBack: the walk. -/
import Derived.Test.YtgjjkopmoobilaaGreatDoorC6C
import Derived.Test.YtgjjkopmoobilaaGreatDoorC3M
import Derived.BigQuiet
import Derived.Test.YtgjjkopmoobilaaGreatDoorC6A64
import Derived.Deep.CutBlock
import Derived.Deep.DeepCutAuto
/- CodeBack's backNarrow, of uint32s. -/
namespace Go.Proofs.YtgjjkopmoobilaaGreatDoor
open Go.RowKit
open M
set_option linter.unusedVariables false
set_option linter.unusedSimpArgs false

theorem sizes_row32 {B : Nat} {w : World} {v : Value} {f : Nat → Nat} {n : Nat} (h : w.ownsRow B 3 1 v 6 (szV32 f n 6)) :
    ∃ g cap, v = .slice (some ⟨g, 0, none⟩) 6 cap ∧ ∀ j, j < 6 → w.cell? ⟨g, j, none⟩ = some (.int .i64 (szI32 f n (j + 1))) := by
  rcases h.2 with ⟨h1, h2⟩ | ⟨g, cap2, cur, h1, hb, hg, hc2, hm2, hs, ht⟩
  · omega
  · refine ⟨g, cap2, h1, fun j hj => ?_⟩
    have e : (szV32 f n 6)[j]? = some (.int .i64 (szI32 f n (j + 1))) := by simp [szV32, hj]
    rw [cell_of_row w g j cur _ (0, 0) hg, ← e, ← ht, List.getElem?_take, if_pos (by omega)]
    simp

/-- How long a column's text can be. -/
theorem packIs_len32 (k n : Nat) (f : Nat → Nat) (bs : List Nat) (hn : n ≤ 4096) (h : PackIs32 k n f bs) : bs.length ≤ 1000000000000 := by
  by_cases h0 : n = 0
  · rw [h.2.1 h0]; simp
  · obtain ⟨l, h1, h2⟩ := h.2.2 (by omega)
    have hl : l.length ≤ 4000000 := by
      unfold codeO32 at h1
      split at h1
      · obtain rfl := Option.some.inj h1; rw [plB_length]; omega
      · obtain rfl := Option.some.inj h1; have := cbn_length' 32 5 f n (by omega) h.1; omega
      · obtain rfl := Option.some.inj h1; have := rnB_len32 f n 0 n; omega
      · rw [dcO] at h1
        split at h1
        · rename_i hu
          obtain rfl := Option.some.inj h1
          have hb : bitLen ((uq f n).length - 1) ≤ 8 := bitLen_le _ 8 (by show _ < 256; omega)
          have hm := Nat.mul_le_mul hb (Nat.le_refl n)
          rw [dcB, List.length_append, List.length_append, plL_length, pcB_length]
          have : (bitsOf ((uq f n).length - 1) 8).length = 8 := by simp
          omega
        · cases h1
      · obtain rfl := Option.some.inj h1; have := stB_len32 2147483648 4294967296 f n; omega
      · obtain rfl := Option.some.inj h1; have := dm_len32 f n; omega
      · cases h1
    rw [← h2, packed_length]; omega

set_option maxRecDepth 100000 in
set_option maxHeartbeats 4000000 in
theorem back32_any (p : Option Addr) (n cap : Nat) (f : Nat → Nat) (w : World) (h : URow32 w p n f) (hn : n ≤ 4096) (hcap : n ≤ cap) (hf : ∀ i, i < n → f i < 4294967296) (hT : Tab64 w) :
    Calls Tryz.prog 9 #[.slice p n cap] w fun e w' => e = .returned (.bool true) ∧ Below w.heap.size w w' := by
  have HH := hide h
  have HF := hide hf
  have HTT := hide hT
  clear h hf hT
  go_enter Tryz.func9, Tryz.ntmps9
  go_wp2_with fail
  refine (sizes32_any p n cap f w HH.out hn hcap HF.out HTT.out).mono ?_
  rintro e w1 ⟨v, rfl, hown, B1⟩
  obtain ⟨g, cs, rfl, hs⟩ := sizes_row32 hown
  have HS1 := hide hs
  have HB1 := hide B1
  clear hown hs B1
  go_wp2_with fail
  refine (best32_any p n cap f w1 (HH.out.below HB1.out) hn hcap HF.out (HTT.out.below HB1.out)).mono ?_
  rintro e w2 ⟨kd, pb, cb, bb, rfl, hby, h256, hbst, B2⟩
  have HB2 : Hid (Below w.heap.size w w2) := HB1.out.trans (B2.mono HB1.out.size)
  have HS2 : Hid (∀ j, j < 6 → w2.cell? ⟨g, j, none⟩ = some (.int .i64 (szI32 f n (j + 1)))) := fun j hj => by
    rw [B2.cell (p := ⟨g, j, none⟩) (block_lt_of_cell (HS1.out j hj))]; exact HS1.out j hj
  have HBY := hide hby
  have H256 := hide h256
  have HBST := hide hbst
  have hkd1 := hbst.lo
  have hkd6 := hbst.hi
  clear hby h256 hbst B2
  have HLB : Hid (bb.length ≤ 4 * n) := by
    obtain ⟨b1, hb1⟩ := packIs_takes32 1 n f (by omega) (by omega) HF.out (by omega)
    have := HBST.out.least 1 b1 (by omega) (by omega) hb1
    rw [packIs_plain32 n f b1 hb1] at this
    show _ ≤ _
    omega
  have HS0 : Hid (szI32 f n 1 = ((4 * n : Nat) : Int)) := by
    obtain ⟨b1, hb1⟩ := packIs_takes32 1 n f (by omega) (by omega) HF.out (by omega)
    show _ = _
    rw [szI32_is hb1, packIs_plain32 n f b1 hb1]
  obtain ⟨lb, hlb⟩ : ∃ lb, bb.length = lb := ⟨_, rfl⟩
  rw [hlb] at HBY HLB ⊢
  have HLBE := hide hlb
  clear hlb
  go_wp2_with fail
  refine (num8_any _ _).mono ?_
  rintro e wn ⟨rfl, hwn⟩
  have hwn := hwn.symm
  subst hwn
  go_wp2_with fail
  refine (num8_any _ _).mono ?_
  rintro e wn ⟨rfl, hwn⟩
  have hwn := hwn.symm
  subst hwn
  go_wp2_with fail
  go_loopw [8] (fun t8 wr => ∃ q : Nat, t8 = .int .i64 ((q : Int) + 1) ∧ Hid (q ≤ 6 ∧ Below w2.heap.size w2 wr)) (fun t8 _ => 7 - (intOf t8).toNat)
  case atStart => exact ⟨0, rfl, by omega, Below.refl _ _⟩
  case round =>
    obtain ⟨q, rfl, hI⟩ := hrel
    by_cases hlt : q + 1 ≤ 6
    · have hle : (q : Int) + 1 ≤ 6 := by omega
      have HQ := hide (cAgain32 (q + 1) p n cap f wr (by omega) hlt ((HH.out.below HB2.out).below hI.out.2) hn hcap HF.out ((HTT.out.below HB2.out).below hI.out.2))
      rw [show (((q + 1 : Nat)) : Int) = (q : Int) + 1 from by simp] at HQ
      go_wp2_with fail
      refine HQ.out.mono ?_
      intro e w3 hE
      rcases hE with ⟨pu, cu, bs, rfl, hby3, h2563, B3, hP, huq⟩ | ⟨rfl, B3, hno⟩
      · have HB3 : Hid (Below w2.heap.size w2 w3) := hI.out.2.trans (B3.mono hI.out.2.size)
        have HNU : Hid (¬ (q + 1 = 4 ∧ 256 < (uq f n).length)) := fun hh => packIs_none32 n f hh.2 bs (hh.1 ▸ hP)
        have HSZ : Hid (szI32 f n (q + 1) = (bs.length : Int)) := szI32_is hP
        have hLE := HBST.out.least (q + 1) bs (by omega) hlt hP
        rw [HLBE.out] at hLE
        have HEQ : Hid (q + 1 = kd → bs = bb) := fun e => packIs_one32 kd n f bs bb (e ▸ hP) HBST.out.is
        have HP := hide hP
        have HBY3 := hide hby3
        have H2563 := hide h2563
        have HLN : Hid (bs.length ≤ 1000000000000) := packIs_len32 (q + 1) n f bs hn hP
        clear hP hby3 h2563 B3 huq HQ
        obtain ⟨lc, hlc⟩ : ∃ lc, bs.length = lc := ⟨_, rfl⟩
        have HLC := hide hlc
        rw [hlc] at HSZ hLE HBY3 HLN ⊢
        clear hlc
        go_upto_region 9 with fail
        go_cut [61] from 55 to 60 (fun t61 wc => t61 = .bool false ∧ Hid (Below w2.heap.size w2 wc ∧ IsBy wc (.slice pu lc cu) bs))
        case first =>
          by_cases hq4 : q = 3
          · subst hq4
            go_wp2_with fail
            refine (num8_any _ _).mono ?_
            rintro e wn ⟨rfl, hwn⟩
            have hwn := hwn.symm
            subst hwn
            go_wp2_with fail
            go_meet
            case rel => exact ⟨by simp, HB3.out, HBY3.out⟩
          · have hq5 : ((q : Int) + 1 == 4) = false := by rw [beq_eq_false_iff_ne]; omega
            go_wp2_with fail
            go_meet
            case rel => exact ⟨by simp, HB3.out, HBY3.out⟩
        case rest =>
          obtain ⟨rfl, hW⟩ := hcut
          have HU := hide (cUnpack32_any (q + 1) (.slice pu lc cu) bs n wc (by omega) hlt hW.out.2 H2563.out (by rw [HLC.out]; exact HLN.out) hn ((HTT.out.below HB2.out).below hW.out.1))
          rw [show (((q + 1 : Nat)) : Int) = (q : Int) + 1 from by simp] at HU
          go_wp2_with fail
          refine HU.out.mono ?_
          intro e w5 hE5
          rcases hE5 with ⟨_, _, hno⟩ | ⟨v5, f5, rfl, hU5, hP5, hEq5⟩
          · exact (hno f HP.out).elim
          obtain ⟨ad, cp, rfl, hcp, hrow⟩ := hU5.row
          have HROW := hide hrow
          have HB5 : Hid (Below w2.heap.size w2 w5 ∧ IsBy w5 (.slice pu lc cu) bs) := ⟨hW.out.1.trans (hU5.2.1.mono hW.out.1.size), isBy_below hW.out.2 hU5.2.1⟩
          have HE5 := hide (hEq5 f HP.out)
          have HF5 := hide hP5.1
          clear hU5 hrow hEq5 HU hP5
          go_wp2_with fail
          refine (num8_any _ _).mono ?_
          rintro e wn ⟨rfl, hwn⟩
          have hwn := hwn.symm
          subst hwn
          go_wp2_with fail
          refine (num8_any _ _).mono ?_
          rintro e wn ⟨rfl, hwn⟩
          have hwn := hwn.symm
          subst hwn
          go_wp2_with fail
          refine (wideOf8_any p n cap f w5 ((HH.out.below HB2.out).below HB5.out.1) HF.out (by omega)).mono ?_
          rintro e w7 ⟨ad7, cp7, rfl, hcp7, R7, B7⟩
          have HR7 := hide R7
          have HB7 : Hid (Below w2.heap.size w2 w7 ∧ IsBy w7 (.slice pu lc cu) bs) := ⟨HB5.out.1.trans (B7.mono HB5.out.1.size), isBy_below HB5.out.2 B7⟩
          have HROW7 : Hid (URow32 w7 ad n f5) := HROW.out.below B7
          clear R7 B7
          go_wp2_with fail
          refine (alike8_any ad ad7 n n cp cp7 f5 f w7 HROW7.out HF5.out (by omega) HR7.out (by omega)).mono ?_
          rintro e w6 ⟨vv, rfl, hvv, B6⟩
          obtain rfl : vv = true := hvv.2 ⟨rfl, HE5.out⟩
          have HB6 : Hid (Below w2.heap.size w2 w6) := HB7.out.1.trans (B6.mono HB7.out.1.size)
          have hc1 : (convert 34 9 (.slice pu lc cu)).run Tryz.prog w6 = .ok (.string (strOf bs)) w6 := convert_by _ _ _ (isBy_below HB7.out.2 B6)
          have hc2 : (convert 34 9 (.slice pb lb cb)).run Tryz.prog w6 = .ok (.string (strOf bb)) w6 := convert_by _ _ _ (isBy_below HBY.out HB6.out)
          have c0 : w6.cell? ⟨g, q, none⟩ = some (.int .i64 (lc : Int)) := by
            rw [HB6.out.cell (p := ⟨g, q, none⟩) (block_lt_of_cell (HS2.out q (by omega))), ← HSZ.out]; exact HS2.out q (by omega)
          have hsub : (q : Int) + 1 - 1 = (q : Int) := by omega
          clear B6 hvv
          by_cases hkk : q + 1 = kd
          · have hbb := HEQ.out hkk
            have hll : lc = lb := by rw [← HLC.out, ← HLBE.out, hbb]
            have e1 : ((q : Int) + 1 == (kd : Int)) = true := by rw [beq_iff_eq]; omega
            rw [hbb] at hc1
            generalize strOf bb = SB at *
            clear hbb
            subst hll
            go_wp2_with fail
            go_roundw
            case rel => exact ⟨q + 1, by simp, hlt, HB6.out⟩
            case measure => simp [intOf]; omega
          · have e1 : ((q : Int) + 1 == (kd : Int)) = false := by rw [beq_eq_false_iff_ne]; omega
            clear hc1 hc2
            by_cases hll : lc = lb
            · subst hll
              go_wp2_with fail
              go_roundw
              case rel => exact ⟨q + 1, by simp, hlt, HB6.out⟩
              case measure => simp [intOf]; omega
            · have e2 : ((lc : Int) == (lb : Int)) = false := by rw [beq_eq_false_iff_ne]; omega
              go_wp2_with fail
              go_roundw
              case rel => exact ⟨q + 1, by simp, hlt, HB6.out⟩
              case measure => simp [intOf]; omega
      · have HB3 : Hid (Below w2.heap.size w2 w3) := hI.out.2.trans (B3.mono hI.out.2.size)
        have hq : q = 3 ∧ 256 < (uq f n).length := by
          by_cases hc : q + 1 = 4 ∧ 256 < (uq f n).length
          · exact ⟨by omega, hc.2⟩
          · obtain ⟨bs, hbs⟩ := packIs_takes32 (q + 1) n f (by omega) hlt HF.out hc
            exact (hno bs hbs).elim
        obtain ⟨rfl, hul⟩ := hq
        have hul2 : (uq f n).length ≤ 4096 := by have := uq_len f n; omega
        have HSZ : Hid (szI32 f n 4 = -1) := szI32_no HF.out hno
        clear hno B3 HQ
        go_wp2_with fail
        refine (num8_any _ _).mono ?_
        rintro e wn ⟨rfl, hwn⟩
        have hwn := hwn.symm
        subst hwn
        go_wp2_with fail
        refine (wideOf8_any p n cap f w3 ((HH.out.below HB2.out).below HB3.out) HF.out (by omega)).mono ?_
        rintro e w7 ⟨ad7, cp7, rfl, hcp7, R7, B7⟩
        have HR7 := hide R7
        have HB7 : Hid (Below w2.heap.size w2 w7) := HB3.out.trans (B7.mono HB3.out.size)
        clear R7 B7
        go_wp2_with fail
        refine (unlike8_any ad7 n cp7 f w7 HR7.out (by omega)).mono ?_
        rintro e w4 ⟨rfl, m, hw4⟩
        have HB4 : Hid (Below w2.heap.size w2 w4) := by rw [hw4]; exact below_drewN HB7.out m
        have c0 : w4.cell? ⟨g, 3, none⟩ = some (.int .i64 (-1)) := by
          rw [HB4.out.cell (p := ⟨g, 3, none⟩) (block_lt_of_cell (HS2.out 3 (by omega))), ← HSZ.out]; exact HS2.out 3 (by omega)
        clear hw4
        generalize (uq f n).length = cc at *
        go_wp2_with fail
        go_roundw
        case rel => exact ⟨4, by simp, by omega, HB4.out⟩
        case measure => simp [intOf]
    · have hq : q = 6 := by have := hI.out.1; omega
      subst hq
      have c0 : wr.cell? ⟨g, 0, none⟩ = some (.int .i64 ((4 * n : Nat) : Int)) := by
        rw [hI.out.2.cell (p := ⟨g, 0, none⟩) (block_lt_of_cell (HS2.out 0 (by omega))), ← HS0.out]; exact HS2.out 0 (by omega)
      have hlb4 := HLB.out
      rw [show ((4 * n : Nat) : Int) = 4 * (n : Int) from by simp] at c0
      go_wp2_with fail
      go_ret
      exact ⟨rfl, HB2.out.trans (hI.out.2.mono HB2.out.size)⟩

end Go.Proofs.YtgjjkopmoobilaaGreatDoor

namespace Go.Proofs.YtgjjkopmoobilaaGreatDoor
open Go.RowKit
open M
set_option linter.unusedVariables false

set_option maxRecDepth 100000 in
set_option maxHeartbeats 8000000 in
theorem back8_any (aW aR aB aN aK : Option Addr) (nW cW nR cR nB cB nN cN nK cK : Nat) (w : World) (hW : RowsOf IsU64 w aW nW) (hR : RowsOf IsU32 w aR nR) (hT : Tab64 w) :
    Calls Tryz.prog 3 #[.agg #[.slice aW nW cW, .slice aR nR cR, .slice aB nB cB, .slice aN nN cN, .slice aK nK cK]] w fun e w' => e = .returned (.bool true) ∧ Below w.heap.size w w' := by
  have HW := hide hW
  have HR := hide hR
  have HT := hide hT
  have hnW := hW.1
  have hnR := hR.1
  clear hW hR hT
  have HX : Hid ((w.alloc (.cells #[.slice aW nW cW, .slice aR nR cR, .slice aB nB cB, .slice aN nN cN, .slice aK nK cK] 27)).heap[w.heap.size]? = some (.cells #[.slice aW nW cW, .slice aR nR cR, .slice aB nB cB, .slice aN nN cN, .slice aK nK cK] 27 (0, 0))) := heap_alloc_new _ _
  have HB0 : Hid (Below w.heap.size w (w.alloc (.cells #[.slice aW nW cW, .slice aR nR cR, .slice aB nB cB, .slice aN nN cN, .slice aK nK cK] 27))) := (Below.refl _ _).alloc (Nat.le_refl _) _
  go_enter Tryz.func3, Tryz.ntmps3
  go_upto_block 0 with fail
  generalize w.alloc (.cells #[.slice aW nW cW, .slice aR nR cR, .slice aB nB cB, .slice aN nN cN, .slice aK nK cK] 27) = w0 at *
  go_cut [3] from 6 (fun t3 wc => ∃ all : Nat, t3 = .int .i64 (all : Int) ∧ Hid (all ≤ 140737488400000 ∧ Below w0.heap.size w0 wc))
  case first =>
    go_wp2_with fail
    go_loopw [3, 4] (fun tall tk wr => ∃ all k : Nat, tall = .int .i64 (all : Int) ∧ tk = .int .i64 (k : Int) ∧ Hid (all ≤ 2048 ∧ k ≤ 60 ∧ Below w0.heap.size w0 wr)) (fun _ tk _ => 60 - (intOf tk).toNat)
    case atStart => exact ⟨0, 0, rfl, rfl, by omega, by omega, Below.refl _ _⟩
    case round =>
      obtain ⟨all, k, rfl, rfl, HI⟩ := hrel
      have h0s : w.heap.size < w0.heap.size := size_lt_of_row HX.out
      have cX : wr.cell? ⟨w.heap.size, 0, none⟩ = some (.slice aW nW cW) := by rw [HI.out.2.2.cell (p := ⟨w.heap.size, 0, none⟩) h0s, cell_of_row _ _ _ _ _ _ HX.out]; rfl
      have hk60 : k ≤ 60 := HI.out.2.1
      have hall : all ≤ 2048 := HI.out.1
      have HBw : Hid (Below w.heap.size w wr) := HB0.out.trans (HI.out.2.2.mono HB0.out.size)
      have HTw : Hid (Tab64 wr) := HT.out.below HBw.out
      by_cases h1 : k < nW
      · by_cases h2 : k < 60
        · obtain ⟨b, o, hae, hc⟩ := HW.out.2 (by omega)
          obtain ⟨v, hv, p, len, cap, f, rfl, hn, hcap, hR, hf⟩ := hc k h1
          have cV : wr.cell? ⟨b, o + k, none⟩ = some (.slice p len cap) := by rw [HBw.out.cell (p := ⟨b, o + k, none⟩) (block_lt_of_cell hv)]; exact hv
          have HRr : Hid (URow64 wr p len f) := hR.below HBw.out
          have HFf := hide hf
          rw [hae] at cX
          clear hc hv hR hf hae
          by_cases hsum : 2048 < all + len
          · go_wp2_with fail
            go_meet
            case rel => exact ⟨all + len, by simp, by omega, HI.out.2.2⟩
          have Hsum := hide hsum
          go_wp2_with fail
          refine (back64_any p len cap f wr HRr.out (by omega) hcap HFf.out HTw.out).mono ?_
          rintro e w1 ⟨rfl, B1⟩
          have HB1 := hide B1
          clear B1
          go_wp2_with fail
          go_roundw
          case rel => exact ⟨all + len, k + 1, rfl, by simp, by have := Hsum.out; omega, by omega, HI.out.2.2.trans (HB1.out.mono HI.out.2.2.size)⟩
          case measure => simp [intOf]; omega
        · go_wp2_with fail
          go_meet
          case rel => exact ⟨all, rfl, by omega, HI.out.2.2⟩
      · go_wp2_with fail
        go_meet
        case rel => exact ⟨all, rfl, by omega, HI.out.2.2⟩
  case rest =>
    obtain ⟨all0, rfl, HI0⟩ := hcut
    go_wp2_with fail
    go_loopw [3, 5] (fun tall tk wr => ∃ all k : Nat, tall = .int .i64 (all : Int) ∧ tk = .int .i64 (k : Int) ∧ Hid (all ≤ 140737488400000 ∧ k ≤ 60 ∧ Below w0.heap.size w0 wr)) (fun _ tk _ => 60 - (intOf tk).toNat)
    case atStart => exact ⟨all0, 0, rfl, rfl, HI0.out.1, by omega, HI0.out.2⟩
    case round =>
      obtain ⟨all, k, rfl, rfl, HI⟩ := hrel
      have h0s : w.heap.size < w0.heap.size := size_lt_of_row HX.out
      have cX : wr.cell? ⟨w.heap.size, 1, none⟩ = some (.slice aR nR cR) := by rw [HI.out.2.2.cell (p := ⟨w.heap.size, 1, none⟩) h0s, cell_of_row _ _ _ _ _ _ HX.out]; rfl
      have hk60 : k ≤ 60 := HI.out.2.1
      have hall : all ≤ 140737488400000 := HI.out.1
      have HBw : Hid (Below w.heap.size w wr) := HB0.out.trans (HI.out.2.2.mono HB0.out.size)
      have HTw : Hid (Tab64 wr) := HT.out.below HBw.out
      by_cases h1 : k < nR
      · by_cases h2 : k < 60
        · obtain ⟨b, o, hae, hc⟩ := HR.out.2 (by omega)
          obtain ⟨v, hv, p, len, cap, f, rfl, hn, hcap, hR, hf⟩ := hc k h1
          have cV : wr.cell? ⟨b, o + k, none⟩ = some (.slice p len cap) := by rw [HBw.out.cell (p := ⟨b, o + k, none⟩) (block_lt_of_cell hv)]; exact hv
          have HRr : Hid (URow32 wr p len f) := hR.below HBw.out
          have HFf := hide hf
          rw [hae] at cX
          clear hc hv hR hf hae
          by_cases hsum : 4096 < all + len
          · go_wp2_with fail
            refine (works8_any wr HTw.out).mono ?_
            rintro e w' ⟨rfl, hB⟩
            go_wp2_with fail
            go_ret
            exact ⟨rfl, HBw.out.trans (hB.mono HBw.out.size)⟩
          have Hsum := hide hsum
          go_wp2_with fail
          refine (back32_any p len cap f wr HRr.out (by omega) hcap HFf.out HTw.out).mono ?_
          rintro e w1 ⟨rfl, B1⟩
          have HB1 := hide B1
          clear B1
          go_wp2_with fail
          go_roundw
          case rel => exact ⟨all + len, k + 1, rfl, by simp, by have := Hsum.out; omega, by omega, HI.out.2.2.trans (HB1.out.mono HI.out.2.2.size)⟩
          case measure => simp [intOf]; omega
        · go_wp2_with fail
          refine (works8_any wr HTw.out).mono ?_
          rintro e w' ⟨rfl, hB⟩
          go_wp2_with fail
          go_ret
          exact ⟨rfl, HBw.out.trans (hB.mono HBw.out.size)⟩
      · go_wp2_with fail
        refine (works8_any wr HTw.out).mono ?_
        rintro e w' ⟨rfl, hB⟩
        go_wp2_with fail
        go_ret
        exact ⟨rfl, HBw.out.trans (hB.mono HBw.out.size)⟩


end Go.Proofs.YtgjjkopmoobilaaGreatDoor

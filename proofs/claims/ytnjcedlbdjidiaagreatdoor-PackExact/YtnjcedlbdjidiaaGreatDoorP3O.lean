/- What comes in: columns, and that a slice that is none has no room. -/
import Derived.Test.YtnjcedlbdjidiaaGreatDoorP3F
import Derived.Test.YtnjcedlbdjidiaaGreatDoorKV32
import Derived.Test.YtnjcedlbdjidiaaGreatDoorKOI
import Derived.Deep.CutBlock
import Derived.Test.YtnjcedlbdjidiaaGreatDoorP3M
/- PackExact: the walk. -/
namespace Go.Proofs.YtnjcedlbdjidiaaGreatDoor
open Go.RowKit
open M
set_option linter.unusedVariables false
set_option linter.unusedSimpArgs false

/-- A slice of values of 64 bits that a machine can hold. -/
def IsV64 (w : World) (v : Value) : Prop := ∃ p n cap f, v = .slice p n cap ∧ n ≤ 140737488355328 ∧ (p = none → cap = 0) ∧ URow64 w p n f ∧ ∀ i, i < n → f i < 18446744073709551616
/-- A slice of values of 32 bits that a machine can hold. -/
def IsV32 (w : World) (v : Value) : Prop := ∃ p n cap f, v = .slice p n cap ∧ n ≤ 140737488355328 ∧ (p = none → cap = 0) ∧ URow32 w p n f ∧ ∀ i, i < n → f i < 4294967296

set_option maxRecDepth 100000 in
set_option maxHeartbeats 16000000 in
theorem exact_any (aW aR aB aN : Option Addr) (nW cW nR cR nB cB nN cN : Nat) (w : World) (hW : RowsOf IsV64 w aW nW) (hR : RowsOf IsV32 w aR nR) (hB : RowsOf IsBs w aB nB) (hN : RowsOf IsN w aN nN) (hT : Tab64 w) :
    Calls Tryz.prog 3 #[.agg #[.slice aW nW cW, .slice aR nR cR, .slice aB nB cB, .slice aN nN cN]] w fun e w' => e = .returned (.bool true) ∧ Below w.heap.size w w' := by
  have HWW := hide hW
  have HRR := hide hR
  have HBB := hide hB
  have HNN := hide hN
  have HTb := hide hT
  have hnW := hW.1
  have hnR := hR.1
  have hnB := hB.1
  have hnN := hN.1
  clear hW hR hB hN hT
  have HX : Hid ((w.alloc (.cells #[.slice aW nW cW, .slice aR nR cR, .slice aB nB cB, .slice aN nN cN] 27)).heap[w.heap.size]? = some (.cells #[.slice aW nW cW, .slice aR nR cR, .slice aB nB cB, .slice aN nN cN] 27 (0, 0))) := heap_alloc_new _ _
  have HB0 : Hid (Below w.heap.size w (w.alloc (.cells #[.slice aW nW cW, .slice aR nR cR, .slice aB nB cB, .slice aN nN cN] 27))) := (Below.refl _ _).alloc (Nat.le_refl _) _
  go_enter Tryz.func3, Tryz.ntmps3
  go_upto_region 1 with fail
  generalize w.alloc (.cells #[.slice aW nW cW, .slice aR nR cR, .slice aB nB cB, .slice aN nN cN] 27) = w0 at *
  have HW0 : Hid (WSt LQ w0 w0.heap.size (w0.heap.size + 1) (w0.heap.size + 2) 0 ((w0.alloc (.cells bookZ 50)).alloc (.cells #[.slice none 0 0, .slice none 0 0] 53))) := WSt.start LQ_ok
  have h0s : w.heap.size < w0.heap.size := size_lt_of_row HX.out
  go_upto_block 0 with (refine wpList_book rfl rfl ?_)
  generalize (w0.alloc (.cells bookZ 50)).alloc (.cells #[.slice none 0 0, .slice none 0 0] 53) = ws at *
  obtain ⟨NB, hNB⟩ : ∃ NB, NB = w0.heap.size := ⟨_, rfl⟩
  obtain ⟨NL, hNL⟩ : ∃ NL, NL = w0.heap.size + 1 := ⟨_, rfl⟩
  obtain ⟨base, hbase⟩ : ∃ base, base = w0.heap.size + 2 := ⟨_, rfl⟩
  have HNn : Hid (w0.heap.size ≤ NB ∧ w0.heap.size ≤ NL ∧ w0.heap.size ≤ base) := ⟨by omega, by omega, by omega⟩
  rw [← hNL, ← hbase] at HW0
  first | rw [← hNL] | skip
  rw [← hNB] at HW0
  first | rw [← hNB] | skip
  clear hNB hNL hbase
  go_cut [5, 6] from 16 (fun t5 t6 wc => ∃ all k : Nat, t5 = .int .i64 (all : Int) ∧ t6 = .int .i64 (k : Int) ∧ Hid (all ≤ 281474976710656 ∧ WSt LQ w0 NB NL base 200 wc))
  case first =>
    go_wp2_with fail
    go_loopw [5, 6] (fun t5 t6 wr => ∃ all k : Nat, t5 = .int .i64 (all : Int) ∧ t6 = .int .i64 (k : Int) ∧ Hid (all ≤ 8192 ∧ k ≤ 100 ∧ WSt LQ w0 NB NL base (0 + 2 * k) wr)) (fun _ t6 _ => 100 - (intOf t6).toNat)
    case atStart => exact ⟨0, 0, rfl, rfl, by omega, by omega, HW0.out⟩
    case round =>
      obtain ⟨all, k, rfl, rfl, HI⟩ := hrel
      obtain ⟨F, T, D, U, rg, rw_, G, BLr, hTG, belr⟩ := HI.out.2.2
      have cX : wr.cell? ⟨w.heap.size, 0, none⟩ = some (.slice aW nW cW) := by rw [belr.cell (p := ⟨w.heap.size, 0, none⟩) h0s, cell_of_row _ _ _ _ _ _ HX.out]; rfl
      have hk100 : k ≤ 100 := HI.out.2.1
      have hall : all ≤ 8192 := HI.out.1
      have HBw : Hid (Below w.heap.size w wr) := HB0.out.trans (belr.mono HB0.out.size)
      have HBL : Hid (BL LQ wr NB NL base F T D U rg rw_ G ∧ T + G.length ≤ 0 + 2 * k ∧ Below w0.heap.size w0 wr) := ⟨BLr, hTG, belr⟩
      have HWr : Hid (WSt LQ w0 NB NL base (0 + 200) wr) := ⟨F, T, D, U, rg, rw_, G, BLr, by omega, belr⟩
      clear BLr hTG belr HI
      by_cases h1 : k < nW
      · by_cases h2 : k < 100
        · obtain ⟨b, o, rfl, hc⟩ := HWW.out.2 (by omega)
          obtain ⟨v, hv, p, len, cap, f, rfl, hn, hp, hT, hf⟩ := hc k h1
          have cV : wr.cell? ⟨b, o + k, none⟩ = some (.slice p len cap) := by rw [HBw.out.cell (p := ⟨b, o + k, none⟩) (block_lt_of_cell hv)]; exact hv
          have HT : Hid (URow64 wr p len f) := hT.below HBw.out
          have Hf := hide hf
          have Hp : Hid (p = none → cap = 0) := hp
          clear hc hv hT hf hp
          by_cases hsum : 8192 < all + len
          · go_wp2_with fail
            go_meet
            case rel => exact ⟨all + len, k, rfl, rfl, by omega, HWr.out⟩
          · have Hsum := hide hsum
            have HP := hideB (wide_any LQ_ok kB_in NB NL base F T D U rg rw_ G p len cap f wr HBL.out.1 HT.out Hp.out Hf.out (by omega) (HTb.out.below HBw.out) (by have := HBL.out.2.1; omega))
            go_wp2_with fail
            refine HP.out.mono ?_
            rintro _ w1 ⟨rfl, rg', rw', g1, g2, BL1, C1⟩
            have b1 : Below w0.heap.size w0 w1 := HBL.out.2.2.trans (C1.toBelow HBL.out.2.2.size fun k' hk' hh => by have := HBL.out.1.low HNn.out.1 HNn.out.2.1 HNn.out.2.2 (.inr (.inl hh)); omega)
            have W1 : WSt LQ w0 NB NL base (0 + 2 * (k + 1)) w1 := ⟨F, T, D, U, rg', rw', _, BL1, by have := HBL.out.2.1; simp; omega, b1⟩
            have HS := hideB (W1.settled LQ_ok kB_in look_LQ HNn.out.1 HNn.out.2.1 HNn.out.2.2 6 (by omega))
            clear BL1 C1 b1 W1 HP
            go_wp2_with fail
            refine HS.out.mono ?_
            rintro _ w2 ⟨rfl, W2⟩
            have HW2 := hideB W2
            clear W2 HS
            go_wp2_with fail
            go_roundw
            case rel => exact ⟨all + len, k + 1, rfl, by simp, by have := Hsum.out; omega, by omega, HW2.out⟩
            case measure => simp [intOf]; omega
        · go_wp2_with fail
          go_meet
          case rel => exact ⟨all, k, rfl, rfl, by omega, HWr.out⟩
      · go_wp2_with fail
        go_meet
        case rel => exact ⟨all, k, rfl, rfl, by omega, HWr.out⟩

  case rest =>
    obtain ⟨all0, k0, rfl, rfl, HC0⟩ := hcut
    clear HW0
    rename_i wc0
    go_upto_block 2 with fail
    go_cut [5, 7] from 51 (fun t5 t7 wc => ∃ all k : Nat, t5 = .int .i64 (all : Int) ∧ t7 = .int .i64 (k : Int) ∧ Hid (all ≤ 562949953421312 ∧ WSt LQ w0 NB NL base 400 wc))
    case first =>
      go_wp2_with fail
      go_loopw [5, 7] (fun t5 t6 wr => ∃ all k : Nat, t5 = .int .i64 (all : Int) ∧ t6 = .int .i64 (k : Int) ∧ Hid (all ≤ 281474976710656 ∧ k ≤ 100 ∧ WSt LQ w0 NB NL base (200 + 2 * k) wr)) (fun _ t6 _ => 100 - (intOf t6).toNat)
      case atStart => exact ⟨all0, 0, rfl, rfl, HC0.out.1, by omega, HC0.out.2⟩
      case round =>
        obtain ⟨all, k, rfl, rfl, HI⟩ := hrel
        obtain ⟨F, T, D, U, rg, rw_, G, BLr, hTG, belr⟩ := HI.out.2.2
        have cX : wr.cell? ⟨w.heap.size, 1, none⟩ = some (.slice aR nR cR) := by rw [belr.cell (p := ⟨w.heap.size, 1, none⟩) h0s, cell_of_row _ _ _ _ _ _ HX.out]; rfl
        have hk100 : k ≤ 100 := HI.out.2.1
        have hall : all ≤ 281474976710656 := HI.out.1
        have HBw : Hid (Below w.heap.size w wr) := HB0.out.trans (belr.mono HB0.out.size)
        have HBL : Hid (BL LQ wr NB NL base F T D U rg rw_ G ∧ T + G.length ≤ 200 + 2 * k ∧ Below w0.heap.size w0 wr) := ⟨BLr, hTG, belr⟩
        have HWr : Hid (WSt LQ w0 NB NL base (200 + 200) wr) := ⟨F, T, D, U, rg, rw_, G, BLr, by omega, belr⟩
        clear BLr hTG belr HI
        by_cases h1 : k < nR
        · by_cases h2 : k < 100
          · obtain ⟨b, o, rfl, hc⟩ := HRR.out.2 (by omega)
            obtain ⟨v, hv, p, len, cap, f, rfl, hn, hp, hT, hf⟩ := hc k h1
            have cV : wr.cell? ⟨b, o + k, none⟩ = some (.slice p len cap) := by rw [HBw.out.cell (p := ⟨b, o + k, none⟩) (block_lt_of_cell hv)]; exact hv
            have HT : Hid (URow32 wr p len f) := hT.below HBw.out
            have Hf := hide hf
            have Hp : Hid (p = none → cap = 0) := hp
            clear hc hv hT hf hp
            by_cases hsum : 16384 < all + len
            · go_wp2_with fail
              go_meet
              case rel => exact ⟨all + len, k, rfl, rfl, by omega, HWr.out⟩
            · have Hsum := hide hsum
              have HP := hideB (narrow_any LQ_ok kB_in NB NL base F T D U rg rw_ G p len cap f wr HBL.out.1 HT.out Hp.out Hf.out (by omega) (HTb.out.below HBw.out) (by have := HBL.out.2.1; omega))
              go_wp2_with fail
              refine HP.out.mono ?_
              rintro _ w1 ⟨rfl, rg', rw', g1, g2, BL1, C1⟩
              have b1 : Below w0.heap.size w0 w1 := HBL.out.2.2.trans (C1.toBelow HBL.out.2.2.size fun k' hk' hh => by have := HBL.out.1.low HNn.out.1 HNn.out.2.1 HNn.out.2.2 (.inr (.inl hh)); omega)
              have W1 : WSt LQ w0 NB NL base (200 + 2 * (k + 1)) w1 := ⟨F, T, D, U, rg', rw', _, BL1, by have := HBL.out.2.1; simp; omega, b1⟩
              have HS := hideB (W1.settled LQ_ok kB_in look_LQ HNn.out.1 HNn.out.2.1 HNn.out.2.2 6 (by omega))
              clear BL1 C1 b1 W1 HP
              go_wp2_with fail
              refine HS.out.mono ?_
              rintro _ w2 ⟨rfl, W2⟩
              have HW2 := hideB W2
              clear W2 HS
              go_wp2_with fail
              go_roundw
              case rel => exact ⟨all + len, k + 1, rfl, by simp, by have := Hsum.out; omega, by omega, HW2.out⟩
              case measure => simp [intOf]; omega
          · go_wp2_with fail
            go_meet
            case rel => exact ⟨all, k, rfl, rfl, by omega, HWr.out⟩
        · go_wp2_with fail
          go_meet
          case rel => exact ⟨all, k, rfl, rfl, by omega, HWr.out⟩

    case rest =>
      obtain ⟨all1, k1, rfl, rfl, HC1⟩ := hcut
      clear HC0
      rename_i wc1
      go_upto_block 4 with fail
      go_cut [5, 8, 9, 10, 11] from 86 (fun t5 t8 t9 t10 t11 wc => Hid (WSt LQ w0 NB NL base 1200 wc))
      case first =>
        go_wp2_with fail
        go_loopw [5, 8, 9, 10, 11] (fun t5 t8 t9 t10 t11 wr => ∃ all k : Nat, t5 = .int .i64 (all : Int) ∧ t8 = .int .i64 (k : Int) ∧ Hid (all ≤ 562949953421312 ∧ k ≤ 100 ∧ WSt LQ w0 NB NL base (400 + 8 * k) wr)) (fun _ t8 _ _ _ _ => 100 - (intOf t8).toNat)
        case atStart => exact ⟨all1, 0, rfl, rfl, HC1.out.1, by omega, HC1.out.2⟩
        case round =>
          obtain ⟨all, k, rfl, rfl, HI⟩ := hrel
          obtain ⟨F, T, D, U, rg, rw_, G, BLr, hTG, belr⟩ := HI.out.2.2
          have cX : wr.cell? ⟨w.heap.size, 2, none⟩ = some (.slice aB nB cB) := by rw [belr.cell (p := ⟨w.heap.size, 2, none⟩) h0s, cell_of_row _ _ _ _ _ _ HX.out]; rfl
          have hk100 : k ≤ 100 := HI.out.2.1
          have hall : all ≤ 562949953421312 := HI.out.1
          have HBw : Hid (Below w.heap.size w wr) := HB0.out.trans (belr.mono HB0.out.size)
          have HBL : Hid (BL LQ wr NB NL base F T D U rg rw_ G ∧ T + G.length ≤ 400 + 8 * k ∧ Below w0.heap.size w0 wr) := ⟨BLr, hTG, belr⟩
          have HWr : Hid (WSt LQ w0 NB NL base 1200 wr) := ⟨F, T, D, U, rg, rw_, G, BLr, by omega, belr⟩
          clear BLr hTG belr HI
          by_cases h1 : k < nB
          · by_cases h2 : k < 100
            · obtain ⟨b, o, rfl, hc⟩ := HBB.out.2 (by omega)
              obtain ⟨v, hv, p, len, cap, bs, rfl, hn, hT, hlen, h256⟩ := hc k h1
              have cV : wr.cell? ⟨b, o + k, none⟩ = some (.slice p len cap) := by rw [HBw.out.cell (p := ⟨b, o + k, none⟩) (block_lt_of_cell hv)]; exact hv
              have HIBw : Hid (IsBy w (.slice p len cap) bs) := hT
              have HIB : Hid (IsBy wr (.slice p len cap) bs) := isBy_below hT HBw.out
              have HLEN := hide hlen
              have HB256 := hide h256
              clear hc hv hT hlen h256
              by_cases hsum : 24576 < all + len / 4
              · have hsum' : (24576 : Int) < (all : Int) + (len : Int) / 4 := by omega
                go_wp2_with fail
                go_meet
                case rel => exact HWr.out
              · have hsum' : ¬ (24576 : Int) < (all : Int) + (len : Int) / 4 := by omega
                have Hsum := hide hsum
                have HLend := hideB (lend_any (.slice p len cap) bs wr HIB.out (by have := HLEN.out; omega))
                have HXw : Hid (∀ wq, Below w0.heap.size w0 wq → wq.cell? ⟨w.heap.size, 0, none⟩ = some (.slice aW nW cW) ∧ wq.cell? ⟨w.heap.size, 1, none⟩ = some (.slice aR nR cR) ∧ wq.cell? ⟨w.heap.size, 2, none⟩ = some (.slice (some ⟨b, o, none⟩) nB cB) ∧ wq.cell? ⟨w.heap.size, 3, none⟩ = some (.slice aN nN cN)) := fun wq hb => by
                  refine ⟨?_, ?_, ?_, ?_⟩
                  · rw [hb.cell (p := ⟨w.heap.size, 0, none⟩) h0s, cell_of_row _ _ _ _ _ _ HX.out]; rfl
                  · rw [hb.cell (p := ⟨w.heap.size, 1, none⟩) h0s, cell_of_row _ _ _ _ _ _ HX.out]; rfl
                  · rw [hb.cell (p := ⟨w.heap.size, 2, none⟩) h0s, cell_of_row _ _ _ _ _ _ HX.out]; rfl
                  · rw [hb.cell (p := ⟨w.heap.size, 3, none⟩) h0s, cell_of_row _ _ _ _ _ _ HX.out]; rfl
                go_wp2_with fail
                refine HLend.out.mono ?_
                rintro _ w1 ⟨g, cg, rfl, hLt, B1⟩
                rw [HLEN.out]
                have b1 : Below w0.heap.size w0 w1 := HBL.out.2.2.trans (B1.mono HBL.out.2.2.size)
                obtain ⟨d0, d1, d2, d3⟩ := HXw.out w1 b1
                have HNn1 := hideB (n_any aW aR (some ⟨b, o, none⟩) aN nW cW nR cR nB cB nN cN k w1 (RowsOf.below (S := IsN) (fun h hb => IsN.below h hb) HNN.out (HB0.out.trans (b1.mono HB0.out.size))) (by omega))
                have H0 : Hid (Lent w1 wr.heap.size g cg bs ∧ Below wr.heap.size wr w1 ∧ Below w0.heap.size w0 w1) := ⟨hLt, B1, b1⟩
                clear hLt B1 b1 HLend
                go_wp2_with fail
                refine HNn1.out.mono ?_
                rintro _ wm ⟨z, rfl, hz, Bm⟩
                have hLm := H0.out.1.below Bm
                have Bm1 : Below wr.heap.size wr wm := H0.out.2.1.trans (Bm.mono H0.out.2.1.size)
                have bm : Below w0.heap.size w0 wm := H0.out.2.2.trans (Bm.mono H0.out.2.2.size)
                have HIBm : IsBy wm (.slice p len cap) bs := isBy_below HIB.out Bm1
                have HC1 := hideB (unpacks_any NB NL base F T D U rg rw_ G (.slice (some ⟨g, 0, none⟩) len cg) (.slice p len cap) bs z wm (HBL.out.1.below Bm1) (.inl (by have h9 := hLm.bytes; rwa [HLEN.out] at h9)) HIBm HB256.out (by have := HLEN.out; omega) (HTb.out.below (HB0.out.trans (bm.mono HB0.out.size))) (by have := HBL.out.2.1; omega))
                have H1 : Hid (Lent wm wr.heap.size g cg bs ∧ Below w0.heap.size w0 wm ∧ wr.heap.size ≤ g ∧ g < wm.heap.size) := ⟨hLm, bm, hLm.lies.2.1, hLm.lies.2.2.1⟩
                clear hLm Bm1 bm HIBm Bm HNn1 H0 hz d0 d1 d2 d3 cX cV
                go_wp2_with fail
                refine HC1.out.mono ?_
                rintro _ w2 ⟨rfl, F2, U2, BL2, fp2, C2⟩
                have hg1 := H1.out.2.2
                have L2 : Lent w2 wr.heap.size g cg bs := ownsRow_chg H1.out.1 C2 (fun k' hk' hh => by
                  have h9 := HBL.out.1.fpLt (.inl hh)
                  simp only [Value.ownBlock, Option.some.injEq] at hk'
                  omega)
                have bel2 : Below w0.heap.size w0 w2 := H1.out.2.1.trans (C2.toBelow H1.out.2.1.size fun k' hk' hh => by have := HBL.out.1.low HNn.out.1 HNn.out.2.1 HNn.out.2.2 (.inl hh); omega)
                have IB2 : IsBy w2 (.slice p len cap) bs := isBy_below HIBw.out (HB0.out.trans (bel2.mono HB0.out.size))
                have HI2 := hideB (intact_any wr.heap.size g cg len (.slice p len cap) bs w2 HLEN.out.symm (by omega) L2 IB2)
                have z2 := C2.size
                have H2 : Hid (BL LQ w2 NB NL base F2 (T + 4) D U2 rg rw_ G ∧ (∀ k', FP LQ NB NL F2 rg rw_ G k' → k' ≠ g) ∧ Below w0.heap.size w0 w2 ∧ Lent w2 wr.heap.size g cg bs ∧ IsBy w2 (.slice p len cap) bs ∧ g < w2.heap.size) := ⟨BL2, fun k' hk' he => by
                  rcases fp2 k' hk' with h9 | h9
                  · have := HBL.out.1.fpLt h9; omega
                  · omega, bel2, L2, IB2, by omega⟩
                clear BL2 C2 fp2 hg1 L2 bel2 IB2 HC1 z2
                go_wp2_with fail
                refine HI2.out.mono ?_
                rintro _ w3 ⟨rfl, m3, hw3⟩
                have H3 : Hid (BL LQ w3 NB NL base F2 (T + 4) D U2 rg rw_ G ∧ Below w0.heap.size w0 w3 ∧ Lent w3 wr.heap.size g cg bs ∧ IsBy w3 (.slice p len cap) bs ∧ g < w3.heap.size) := by
                  rw [hw3]
                  exact ⟨H2.out.1.below (below_drewN (Below.refl _ _) m3), below_drewN H2.out.2.2.1 m3, H2.out.2.2.2.1, H2.out.2.2.2.2.1, H2.out.2.2.2.2.2⟩
                clear hw3 HI2
                have HO := hideB (other_any (.slice p len cap) bs w3 H3.out.2.2.2.1 HB256.out (by have := HLEN.out; omega))
                go_wp2_with fail
                refine HO.out.mono ?_
                rintro _ w4 ⟨r4, ys, rfl, hys, own4, B4⟩
                have L4 := H3.out.2.2.1.below B4
                have own4' : OwnB (g + 1) w4 r4 ys := ⟨own4.1, own4.2.1, fun ad n cap hv => by have h9 := own4.2.2 ad n cap hv; have := H3.out.2.2.2.2; omega⟩
                have HIn := hideB (into_any wr.heap.size g cg len r4 bs ys w4 HLEN.out.symm (by omega) L4 own4' hys)
                have H4 : Hid (BL LQ w4 NB NL base F2 (T + 4) D U2 rg rw_ G ∧ Below w0.heap.size w0 w4 ∧ OwnB (g + 1) w4 r4 ys ∧ ys.length = bs.length) := ⟨H3.out.1.below B4, H3.out.2.1.trans (B4.mono H3.out.2.1.size), own4', hys⟩
                clear L4 own4 own4' B4 hys HO
                go_wp2_with fail
                refine HIn.out.mono ?_
                rintro _ w5 ⟨rfl, O5, IB5⟩
                have r5 : IsBytes w5 r4 ys := by
                  rcases H4.out.2.2.1.1 with ⟨h1, h2⟩ | ⟨b', o', c', h1, h2⟩
                  · exact .inl ⟨h1, h2⟩
                  · refine .inr ⟨b', o', c', h1, fun i hi => ?_⟩
                    have h9 := (H4.out.2.2.1.2.2 _ _ _ h1).1
                    simp only at h9
                    have hc := h2 i hi
                    rw [World.cell?_of_block (w := w4) (O5.block b' (block_lt_of_cell hc) (by omega))]
                    exact hc
                have C5 : Chg (fun k' => k' = g) w4 w5 := Chg.only O5 rfl
                have BL5 := H4.out.1.chg C5 (fun k' hk' he => H2.out.2.1 k' hk' he)
                have hw0 : w0.heap.size ≤ g := by have := H1.out.2.2.1; have := HBL.out.2.2.size; omega
                have b5 : Below w0.heap.size w0 w5 := H4.out.2.1.trans (O5.below hw0 H4.out.2.1.size)
                obtain ⟨d0, d1, d2, d3⟩ := HXw.out w5 b5
                have HNn2 := hideB (n_any aW aR (some ⟨b, o, none⟩) aN nW cW nR cR nB cB nN cN k w5 (RowsOf.below (S := IsN) (fun h hb => IsN.below h hb) HNN.out (HB0.out.trans (b5.mono HB0.out.size))) (by omega))
                have H5 : Hid (BL LQ w5 NB NL base F2 (T + 4) D U2 rg rw_ G ∧ Below w0.heap.size w0 w5 ∧ IsBytes w5 (.slice (some ⟨g, 0, none⟩) len cg) ys ∧ IsBytes w5 r4 ys ∧ (∀ x ∈ ys, x < 256) ∧ ys.length = bs.length) := ⟨BL5, b5, IB5, r5, H4.out.2.2.1.2.1, H4.out.2.2.2⟩
                clear r5 C5 BL5 b5 IB5 O5 HIn hw0
                go_wp2_with fail
                refine HNn2.out.mono ?_
                rintro _ wn ⟨zn, rfl, hzn, Bn⟩
                have bn : Below w0.heap.size w0 wn := H5.out.2.1.trans (Bn.mono H5.out.2.1.size)
                have HC2 := hideB (unpacks_any NB NL base F2 (T + 4) D U2 rg rw_ G (.slice (some ⟨g, 0, none⟩) len cg) r4 ys zn wn (H5.out.1.below Bn) (isBy_below (.inl H5.out.2.2.1) Bn) (isBy_below (.inl H5.out.2.2.2.1) Bn) H5.out.2.2.2.2.1 (by have := HLEN.out; have := H5.out.2.2.2.2.2; omega) (HTb.out.below (HB0.out.trans (bn.mono HB0.out.size))) (by have := HBL.out.2.1; omega))
                have H6 : Hid (BL LQ wn NB NL base F2 (T + 4) D U2 rg rw_ G ∧ Below w0.heap.size w0 wn) := ⟨H5.out.1.below Bn, bn⟩
                clear Bn bn hzn HNn2 d0 d1 d2 d3
                go_wp2_with fail
                refine HC2.out.mono ?_
                rintro _ w6 ⟨rfl, F6, U6, BL6, fp6, C6⟩
                have b6 : Below w0.heap.size w0 w6 := H6.out.2.trans (C6.toBelow H6.out.2.size fun k' hk' hh => by have := H6.out.1.low HNn.out.1 HNn.out.2.1 HNn.out.2.2 (.inl hh); omega)
                have W6 : WSt LQ w0 NB NL base (400 + 8 * (k + 1)) w6 := ⟨F6, T + 4 + 4, D, U6, rg, rw_, G, BL6, by have := HBL.out.2.1; omega, b6⟩
                have HLk := hideB (W6.looked LQ_ok kB_in look_LQ HNn.out.1 HNn.out.2.1 HNn.out.2.2)
                clear BL6 fp6 C6 b6 W6 HC2
                go_wp2_with fail
                refine HLk.out.mono ?_
                rintro _ w7 ⟨rfl, W7⟩
                have HW7 := hideB W7
                clear W7 HLk
                go_wp2_with fail
                go_roundw
                case rel => exact ⟨all + len / 4, k + 1, rfl, by simp, by have := Hsum.out; omega, by omega, HW7.out⟩
                case measure => simp [intOf]; omega
            · go_wp2_with fail
              go_meet
              case rel => exact HWr.out
          · go_wp2_with fail
            go_meet
            case rel => exact HWr.out

      case rest =>
        have HR := hcut
        have HS := hideB (HR.out.settled LQ_ok kB_in look_LQ HNn.out.1 HNn.out.2.1 HNn.out.2.2 0 (by omega))
        clear hcut
        go_wp2_with fail
        refine HS.out.mono ?_
        rintro _ w1 ⟨rfl, W1⟩
        have HK := hideB (W1.looked LQ_ok kB_in look_LQ HNn.out.1 HNn.out.2.1 HNn.out.2.2)
        clear W1 HS
        go_wp2_with fail
        refine HK.out.mono ?_
        rintro _ w2 ⟨rfl, W2⟩
        have HW2 := hideB W2
        obtain ⟨F, T, D, U, rg, rw_, G, BLr, hTG, belr⟩ := W2
        have HBf : Hid (Below w.heap.size w w2) := HB0.out.trans (belr.mono HB0.out.size)
        clear HK BLr hTG belr
        go_wp2_with fail
        refine (works_any w2 (HTb.out.below HBf.out)).mono ?_
        rintro _ w3 ⟨rfl, B3⟩
        have HB3 := hideB B3
        clear B3
        go_wp2_with fail
        go_ret
        exact ⟨rfl, HBf.out.trans (HB3.out.mono HBf.out.size)⟩

end Go.Proofs.YtnjcedlbdjidiaaGreatDoor

namespace Go.Proofs.YtnjcedlbdjidiaaGreatDoor
open Go.ChangeShapes Go.WideShapes Go.Deep Go.Joins
open Go.RowKit (Below)
open M
set_option linter.unusedVariables false
set_option linter.unusedSimpArgs false

section
variable {H : Type} {enc : TypeId × Value → H} {w : World} {base : Nat} {spare : Nat → Bool} {held : Bool}

theorem open_w64 {m : Nat} {u : Value} {y : DataW H × List MemPlace} (h : DataW.trod enc Tryz.prog w base spare held m 54 [u] = some y) (hz : Sz 54 y.1) : IsV64 w u := by
  obtain ⟨p, n, cap, f, rfl, h1, _, h2, h3⟩ := open_u64 h hz
  refine ⟨p, n, cap, f, rfl, h1, fun hp => ?_, h2, h3⟩
  rcases open_slice Tryz.underlying54 h with ⟨h0, _⟩ | ⟨ad, len, cap, mm, n', D, Pl, hcs, _⟩
  · simp only [List.cons.injEq, and_true, Value.slice.injEq] at h0
    exact h0.2.2
  · simp only [List.cons.injEq, and_true, Value.slice.injEq] at hcs
    rw [hp] at hcs
    cases hcs.1

theorem open_w32 {m : Nat} {u : Value} {y : DataW H × List MemPlace} (h : DataW.trod enc Tryz.prog w base spare held m 57 [u] = some y) (hz : Sz 57 y.1) : IsV32 w u := by
  obtain ⟨p, n, cap, f, rfl, h1, _, h2, h3⟩ := open_u32 h hz
  refine ⟨p, n, cap, f, rfl, h1, fun hp => ?_, h2, h3⟩
  rcases open_slice Tryz.underlying57 h with ⟨h0, _⟩ | ⟨ad, len, cap, mm, n', D, Pl, hcs, _⟩
  · simp only [List.cons.injEq, and_true, Value.slice.injEq] at h0
    exact h0.2.2
  · simp only [List.cons.injEq, and_true, Value.slice.injEq] at hcs
    rw [hp] at hcs
    cases hcs.1

set_option maxRecDepth 100000 in
theorem open_columns2 {r : Reach} {b0 : Nat} {v : Value} {d : DataW H} {p : List MemPlace} (hv : Value.okWide Tryz.prog w r b0 27 v) (h : DataW.Trod enc Tryz.prog w base spare held 27 v d p) (hz : Sz 27 d) :
    ∃ aW nW cW aR nR cR aB nB cB aN nN cN, v = .agg #[.slice aW nW cW, .slice aR nR cR, .slice aB nB cB, .slice aN nN cN] ∧ RowsOf IsV64 w aW nW ∧ RowsOf IsV32 w aR nR ∧ RowsOf IsBs w aB nB ∧ RowsOf IsN w aN nN := by
  obtain ⟨v0, v1, v2, v3, y0, y1, y2, y3, n, rfl, hd, _, h0, h1, h2, h3⟩ := open_agg4 Tryz.underlying27 (by kernel_rfl) (by kernel_rfl) hv h
  subst hd
  have z0 : Sz 22 y0.1 := fun n hn => hz n (by
    simp only [DataW.weights, Tryz.underlying27]
    exact DataW.weights_mem_each (j := 0) rfl rfl n hn)
  have z1 : Sz 23 y1.1 := fun n hn => hz n (by
    simp only [DataW.weights, Tryz.underlying27]
    exact DataW.weights_mem_each (j := 1) rfl rfl n hn)
  have z2 : Sz 24 y2.1 := fun n hn => hz n (by
    simp only [DataW.weights, Tryz.underlying27]
    exact DataW.weights_mem_each (j := 2) rfl rfl n hn)
  obtain ⟨aW, nW, cW, rfl, _, _, hW⟩ := open_rowsSz (S := IsV64) Tryz.underlying22 (by kernel_rfl) (fun h hz => open_w64 h hz) h0 z0
  obtain ⟨aR, nR, cR, rfl, _, _, hR⟩ := open_rowsSz (S := IsV32) Tryz.underlying23 (by kernel_rfl) (fun h hz => open_w32 h hz) h1 z1
  obtain ⟨aB, nB, cB, rfl, _, _, hB⟩ := open_rowsSz (S := IsBs) Tryz.underlying24 (by kernel_rfl) (fun h hz => open_bs h hz) h2 z2
  obtain ⟨aN, nN, cN, rfl, _, hN⟩ := open_rowsOf (S := IsN) Tryz.underlying25 (by kernel_rfl) (fun h => open_n h) h3
  exact ⟨aW, nW, cW, aR, nR, cR, aB, nB, cB, aN, nN, cN, rfl, hW, hR, hB, hN⟩
end
end Go.Proofs.YtnjcedlbdjidiaaGreatDoor

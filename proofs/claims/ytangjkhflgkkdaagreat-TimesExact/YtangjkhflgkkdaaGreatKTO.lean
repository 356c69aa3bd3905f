/- What comes in, and that a machine can hold it. -/
import Derived.Test.YtangjkhflgkkdaaGreatKZ
import Derived.Test.YtangjkhflgkkdaaGreatT1O
import Derived.Deep.CutBlock
import Derived.SizedLaws
/- TimesExact: the walk. -/
namespace Go.Proofs.YtangjkhflgkkdaaGreat
open Go.RowKit
open M
set_option linter.unusedVariables false
set_option linter.unusedSimpArgs false

/-- A slice of times that a machine can hold. -/
def IsTs (w : World) (v : Value) : Prop := ∃ p n cap f, v = .slice p n cap ∧ n ≤ 140737488355328 ∧ (p = none → cap = 0) ∧ TRow w p n f ∧ ∀ i, i < n → I64 (f i)
/-- A slice of bytes that a machine can hold. -/
def IsBs (w : World) (v : Value) : Prop := ∃ p n cap bs, v = .slice p n cap ∧ n ≤ 140737488355328 ∧ IsBy w (.slice p n cap) bs ∧ bs.length = n ∧ ∀ x ∈ bs, x < 256

set_option maxRecDepth 100000 in
set_option maxHeartbeats 16000000 in
theorem exact_any (aL aB aN : Option Addr) (nL cL nB cB nN cN : Nat) (w : World) (hL : RowsOf IsTs w aL nL) (hB : RowsOf IsBs w aB nB) (hN : RowsOf IsN w aN nN) :
    Calls Tryz.prog 3 #[.agg #[.slice aL nL cL, .slice aB nB cB, .slice aN nN cN]] w fun e w' => e = .returned (.bool true) ∧ Below w.heap.size w w' := by
  have HLL := hide hL
  have HBB := hide hB
  have HN := hide hN
  have hnL := hL.1
  have hnB := hB.1
  have hnN := hN.1
  clear hL hB hN
  have HX : Hid ((w.alloc (.cells #[.slice aL nL cL, .slice aB nB cB, .slice aN nN cN] 26)).heap[w.heap.size]? = some (.cells #[.slice aL nL cL, .slice aB nB cB, .slice aN nN cN] 26 (0, 0))) := heap_alloc_new _ _
  have HB0 : Hid (Below w.heap.size w (w.alloc (.cells #[.slice aL nL cL, .slice aB nB cB, .slice aN nN cN] 26))) := (Below.refl _ _).alloc (Nat.le_refl _) _
  go_enter Tryz.func3, Tryz.ntmps3
  go_upto_region 1 with fail
  generalize w.alloc (.cells #[.slice aL nL cL, .slice aB nB cB, .slice aN nN cN] 26) = w0 at *
  have HW0 : Hid (WSt LT w0 w0.heap.size (w0.heap.size + 1) (w0.heap.size + 2) 0 ((w0.alloc (.cells bookZ 50)).alloc (.cells #[.slice none 0 0, .slice none 0 0] 53))) := WSt.start LT_ok
  have h0s : w.heap.size < w0.heap.size := size_lt_of_row HX.out
  go_upto_block 0 with (refine wpList_book rfl rfl ?_)
  generalize (w0.alloc (.cells bookZ 50)).alloc (.cells #[.slice none 0 0, .slice none 0 0] 53) = ws at *
  obtain ⟨NB, hNB⟩ : ∃ NB, NB = w0.heap.size := ⟨_, rfl⟩
  obtain ⟨NL, hNL⟩ : ∃ NL, NL = w0.heap.size + 1 := ⟨_, rfl⟩
  obtain ⟨base, hbase⟩ : ∃ base, base = w0.heap.size + 2 := ⟨_, rfl⟩
  have HNn : Hid (w0.heap.size ≤ NB ∧ w0.heap.size ≤ NL ∧ w0.heap.size ≤ base) := ⟨by omega, by omega, by omega⟩
  rw [← hNL, ← hbase] at HW0
  first | rw [← hNL] | skip
  rw [← hNB] at HW0
  first | rw [← hNB] | skip
  clear hNB hNL hbase
  go_cut [5, 6] from 16 (fun t5 t6 wc => ∃ all k : Nat, t5 = .int .i64 (all : Int) ∧ t6 = .int .i64 (k : Int) ∧ Hid (all ≤ 281474976710656 ∧ WSt LT w0 NB NL base 200 wc))
  case first =>
    go_wp2_with fail
    go_loopw [5, 6] (fun t5 t6 wr => ∃ all k : Nat, t5 = .int .i64 (all : Int) ∧ t6 = .int .i64 (k : Int) ∧ Hid (all ≤ 16384 ∧ k ≤ 100 ∧ WSt LT w0 NB NL base (2 * k) wr)) (fun _ t6 _ => 100 - (intOf t6).toNat)
    case atStart => exact ⟨0, 0, rfl, rfl, by omega, by omega, HW0.out⟩
    case round =>
      obtain ⟨all, k, rfl, rfl, HI⟩ := hrel
      obtain ⟨F, T, D, U, rg, rw_, G, BLr, hTG, belr⟩ := HI.out.2.2
      have cX : wr.cell? ⟨w.heap.size, 0, none⟩ = some (.slice aL nL cL) := by rw [belr.cell (p := ⟨w.heap.size, 0, none⟩) h0s, cell_of_row _ _ _ _ _ _ HX.out]; rfl
      have hk100 : k ≤ 100 := HI.out.2.1
      have hall : all ≤ 16384 := HI.out.1
      have HBw : Hid (Below w.heap.size w wr) := HB0.out.trans (belr.mono HB0.out.size)
      have HBL : Hid (BL LT wr NB NL base F T D U rg rw_ G ∧ T + G.length ≤ 2 * k ∧ Below w0.heap.size w0 wr) := ⟨BLr, hTG, belr⟩
      have HWr : Hid (∀ n, 2 * k ≤ n → WSt LT w0 NB NL base n wr) := fun n hn => ⟨F, T, D, U, rg, rw_, G, BLr, by omega, belr⟩
      clear BLr hTG belr HI
      by_cases h1 : k < nL
      · by_cases h2 : k < 100
        · obtain ⟨b, o, rfl, hc⟩ := HLL.out.2 (by omega)
          obtain ⟨v, hv, p, len, cap, f, rfl, hn, hp, hT, hf⟩ := hc k h1
          have cV : wr.cell? ⟨b, o + k, none⟩ = some (.slice p len cap) := by rw [HBw.out.cell (p := ⟨b, o + k, none⟩) (block_lt_of_cell hv)]; exact hv
          have HT : Hid (TRow wr p len f) := hT.below HBw.out
          have Hf := hide hf
          have Hp : Hid (p = none → cap = 0) := hp
          clear hc hv hT hf hp
          by_cases hsum : 16384 < all + len
          · go_wp2_with fail
            go_meet
            case rel => exact ⟨all + len, k, rfl, rfl, by omega, HWr.out 200 (by omega)⟩
          · have Hsum := hide hsum
            have HP := hideB (packs_any LT_ok kB_in NB NL base F T D U rg rw_ G p len cap f wr HBL.out.1 HT.out Hp.out Hf.out (by omega) (by have := HBL.out.2.1; omega))
            go_wp2_with fail
            refine HP.out.mono ?_
            rintro _ w1 ⟨rfl, rg', rw', g1, g2, BL1, C1⟩
            have b1 : Below w0.heap.size w0 w1 := HBL.out.2.2.trans (C1.toBelow HBL.out.2.2.size fun k' hk' hh => by have := HBL.out.1.low HNn.out.1 HNn.out.2.1 HNn.out.2.2 (.inr (.inl hh)); omega)
            have W1 : WSt LT w0 NB NL base (2 * (k + 1)) w1 := ⟨F, T, D, U, rg', rw', _, BL1, by have := HBL.out.2.1; simp; omega, b1⟩
            have HS := hideB (W1.settled LT_ok kB_in look_LT HNn.out.1 HNn.out.2.1 HNn.out.2.2 6 (by omega))
            clear BL1 C1 b1 W1 HP
            go_wp2_with fail
            refine HS.out.mono ?_
            rintro _ w2 ⟨rfl, W2⟩
            have HW2 := hideB W2
            clear W2 HS
            go_wp2_with fail
            go_roundw
            case rel => exact ⟨all + len, k + 1, rfl, by simp, by have := Hsum.out; omega, by omega, HW2.out⟩
            case measure => simp [intOf]; omega
        · go_wp2_with fail
          go_meet
          case rel => exact ⟨all, k, rfl, rfl, by omega, HWr.out 200 (by omega)⟩
      · go_wp2_with fail
        go_meet
        case rel => exact ⟨all, k, rfl, rfl, by omega, HWr.out 200 (by omega)⟩
  case rest =>
    obtain ⟨all0, k0, rfl, rfl, HC⟩ := hcut
    clear HW0
    rename_i wc0
    go_upto_block 2 with fail
    go_cut [5, 7, 8, 9, 10, 11] from 51 (fun t5 t7 t8 t9 t10 t11 wc => Hid (WSt LT w0 NB NL base 600 wc))
    case first =>
      go_wp2_with fail
      go_loopw [5, 7, 8, 9, 10, 11] (fun t5 t7 t8 t9 t10 t11 wr => ∃ all k : Nat, t5 = .int .i64 (all : Int) ∧ t7 = .int .i64 (k : Int) ∧ Hid (all ≤ 281474976710656 ∧ k ≤ 100 ∧ WSt LT w0 NB NL base (200 + 4 * k) wr)) (fun _ t7 _ _ _ _ _ => 100 - (intOf t7).toNat)
      case atStart => exact ⟨all0, 0, rfl, rfl, HC.out.1, by omega, HC.out.2⟩
      case round =>
        obtain ⟨all, k, rfl, rfl, HI⟩ := hrel
        obtain ⟨F, T, D, U, rg, rw_, G, BLr, hTG, belr⟩ := HI.out.2.2
        have cX : wr.cell? ⟨w.heap.size, 1, none⟩ = some (.slice aB nB cB) := by rw [belr.cell (p := ⟨w.heap.size, 1, none⟩) h0s, cell_of_row _ _ _ _ _ _ HX.out]; rfl
        have cY : wr.cell? ⟨w.heap.size, 2, none⟩ = some (.slice aN nN cN) := by rw [belr.cell (p := ⟨w.heap.size, 2, none⟩) h0s, cell_of_row _ _ _ _ _ _ HX.out]; rfl
        have hk100 : k ≤ 100 := HI.out.2.1
        have hall : all ≤ 281474976710656 := HI.out.1
        have HBw : Hid (Below w.heap.size w wr) := HB0.out.trans (belr.mono HB0.out.size)
        have HBL : Hid (BL LT wr NB NL base F T D U rg rw_ G ∧ T + G.length ≤ 200 + 4 * k ∧ Below w0.heap.size w0 wr) := ⟨BLr, hTG, belr⟩
        have HWr : Hid (WSt LT w0 NB NL base 600 wr) := ⟨F, T, D, U, rg, rw_, G, BLr, by omega, belr⟩
        clear BLr hTG belr HI
        by_cases h1 : k < nB
        · by_cases h2 : k < 100
          · obtain ⟨b, o, rfl, hc⟩ := HBB.out.2 (by omega)
            obtain ⟨v, hv, p, len, cap, bs, rfl, hn, hT, hlen, h256⟩ := hc k h1
            have cV : wr.cell? ⟨b, o + k, none⟩ = some (.slice p len cap) := by rw [HBw.out.cell (p := ⟨b, o + k, none⟩) (block_lt_of_cell hv)]; exact hv
            have HIBw : Hid (IsBy w (.slice p len cap) bs) := hT
            have HIB : Hid (IsBy wr (.slice p len cap) bs) := isBy_below hT HBw.out
            have HLEN := hide hlen
            have HB256 := hide h256
            clear hc hv hT hlen h256
            by_cases hsum : 32768 < all + len / 8
            · have hsum' : (32768 : Int) < (all : Int) + (len : Int) / 8 := by omega
              go_wp2_with fail
              go_meet
              case rel => exact HWr.out
            · have hsum' : ¬ (32768 : Int) < (all : Int) + (len : Int) / 8 := by omega
              have Hsum := hide hsum
              have HLend := hideB (lend_any (.slice p len cap) bs wr HIB.out (by have := HLEN.out; omega))
              by_cases hkN : k < nN
              · obtain ⟨nb, no, rfl, hcN⟩ := HN.out.2 (by omega)
                obtain ⟨vz, hvz, z, rfl, hz⟩ := hcN k hkN
                have cN1 : wr.cell? ⟨nb, no + k, none⟩ = some (.int .i64 z) := by rw [HBw.out.cell (p := ⟨nb, no + k, none⟩) (block_lt_of_cell hvz)]; exact hvz
                clear hcN hvz
                go_wp2_with fail
                refine HLend.out.mono ?_
                rintro _ w1 ⟨g, cg, rfl, hLt, B1⟩
                rw [HLEN.out]
                have HIB1 : IsBy w1 (.slice p len cap) bs := isBy_below HIB.out B1
                have HC1 := hideB (unpacks_any NB NL base F T D U rg rw_ G (.slice (some ⟨g, 0, none⟩) len cg) (.slice p len cap) bs z w1 (HBL.out.1.below B1) (.inl (by have h9 := hLt.bytes; rwa [HLEN.out] at h9)) HIB1 HB256.out (by have := HLEN.out; omega) (by have := HBL.out.2.1; omega))
                have H1 : Hid (Lent w1 wr.heap.size g cg bs ∧ Below wr.heap.size wr w1 ∧ wr.heap.size ≤ g ∧ g < w1.heap.size) := ⟨hLt, B1, hLt.lies.2.1, hLt.lies.2.2.1⟩
                clear hLt B1 HIB1 HLend
                go_wp2_with fail
                refine HC1.out.mono ?_
                rintro _ w2 ⟨rfl, F2, U2, BL2, fp2, C2⟩
                have hg1 := H1.out.2.2
                have L2 : Lent w2 wr.heap.size g cg bs := ownsRow_chg H1.out.1 C2 (fun k' hk' hh => by
                  have h9 := HBL.out.1.fpLt (.inl hh)
                  simp only [Value.ownBlock, Option.some.injEq] at hk'
                  omega)
                have b1 : Below w0.heap.size w0 w1 := HBL.out.2.2.trans (H1.out.2.1.mono HBL.out.2.2.size)
                have bel2 : Below w0.heap.size w0 w2 := b1.trans (C2.toBelow b1.size fun k' hk' hh => by have := HBL.out.1.low HNn.out.1 HNn.out.2.1 HNn.out.2.2 (.inl hh); omega)
                have IB2 : IsBy w2 (.slice p len cap) bs := isBy_below HIBw.out (HB0.out.trans (bel2.mono HB0.out.size))
                have HI2 := hideB (intact_any wr.heap.size g cg len (.slice p len cap) bs w2 HLEN.out.symm (by omega) L2 IB2)
                have z2 := C2.size
                have H2 : Hid (BL LT w2 NB NL base F2 (T + 2) D U2 rg rw_ G ∧ (∀ k', FP LT NB NL F2 rg rw_ G k' → k' ≠ g) ∧ Below w0.heap.size w0 w2 ∧ Lent w2 wr.heap.size g cg bs ∧ IsBy w2 (.slice p len cap) bs ∧ g < w2.heap.size) := ⟨BL2, fun k' hk' he => by
                  rcases fp2 k' hk' with h9 | h9
                  · have := HBL.out.1.fpLt h9; omega
                  · omega, bel2, L2, IB2, by omega⟩
                clear BL2 C2 fp2 hg1 L2 b1 bel2 IB2 HC1 z2
                go_wp2_with fail
                refine HI2.out.mono ?_
                rintro _ w3 ⟨rfl, m3, hw3⟩
                have H3 : Hid (BL LT w3 NB NL base F2 (T + 2) D U2 rg rw_ G ∧ Below w0.heap.size w0 w3 ∧ Lent w3 wr.heap.size g cg bs ∧ IsBy w3 (.slice p len cap) bs ∧ g < w3.heap.size) := by
                  rw [hw3]
                  exact ⟨H2.out.1.below (below_drewN (Below.refl _ _) m3), below_drewN H2.out.2.2.1 m3, H2.out.2.2.2.1, H2.out.2.2.2.2.1, H2.out.2.2.2.2.2⟩
                clear hw3 HI2
                have HO := hideB (other_any (.slice p len cap) bs w3 H3.out.2.2.2.1 HB256.out (by have := HLEN.out; omega))
                go_wp2_with fail
                refine HO.out.mono ?_
                rintro _ w4 ⟨r4, ys, rfl, hys, own4, B4⟩
                have L4 := H3.out.2.2.1.below B4
                have own4' : OwnB (g + 1) w4 r4 ys := ⟨own4.1, own4.2.1, fun ad n cap hv => by have h9 := own4.2.2 ad n cap hv; have := H3.out.2.2.2.2; omega⟩
                have HIn := hideB (into_any wr.heap.size g cg len r4 bs ys w4 HLEN.out.symm (by omega) L4 own4' hys)
                have H4 : Hid (BL LT w4 NB NL base F2 (T + 2) D U2 rg rw_ G ∧ Below w0.heap.size w0 w4 ∧ OwnB (g + 1) w4 r4 ys ∧ ys.length = bs.length) := ⟨H3.out.1.below B4, H3.out.2.1.trans (B4.mono H3.out.2.1.size), own4', hys⟩
                clear L4 own4 own4' B4 hys HO
                go_wp2_with fail
                refine HIn.out.mono ?_
                rintro _ w5 ⟨rfl, O5, IB5⟩
                have r5 : IsBytes w5 r4 ys := by
                  rcases H4.out.2.2.1.1 with ⟨h1, h2⟩ | ⟨b', o', c', h1, h2⟩
                  · exact .inl ⟨h1, h2⟩
                  · refine .inr ⟨b', o', c', h1, fun i hi => ?_⟩
                    have h9 := (H4.out.2.2.1.2.2 _ _ _ h1).1
                    simp only at h9
                    have hc := h2 i hi
                    rw [World.cell?_of_block (w := w4) (O5.block b' (block_lt_of_cell hc) (by omega))]
                    exact hc
                have C5 : Chg (fun k' => k' = g) w4 w5 := Chg.only O5 rfl
                have BL5 := H4.out.1.chg C5 (fun k' hk' he => H2.out.2.1 k' hk' he)
                have hw0 : w0.heap.size ≤ g := by have := H1.out.2.2.1; have := HBL.out.2.2.size; omega
                have b5 : Below w0.heap.size w0 w5 := H4.out.2.1.trans (O5.below hw0 H4.out.2.1.size)
                have HC2 := hideB (unpacks_any NB NL base F2 (T + 2) D U2 rg rw_ G (.slice (some ⟨g, 0, none⟩) len cg) r4 ys z w5 BL5 (.inl IB5) (.inl r5) H4.out.2.2.1.2.1 (by have := HLEN.out; have := H4.out.2.2.2; omega) (by have := HBL.out.2.1; omega))
                have H5 : Hid (BL LT w5 NB NL base F2 (T + 2) D U2 rg rw_ G ∧ Below w0.heap.size w0 w5) := ⟨BL5, b5⟩
                clear r5 C5 BL5 b5 IB5 O5 HIn hw0
                go_wp2_with fail
                refine HC2.out.mono ?_
                rintro _ w6 ⟨rfl, F6, U6, BL6, fp6, C6⟩
                have b6 : Below w0.heap.size w0 w6 := H5.out.2.trans (C6.toBelow H5.out.2.size fun k' hk' hh => by have := H5.out.1.low HNn.out.1 HNn.out.2.1 HNn.out.2.2 (.inl hh); omega)
                have W6 : WSt LT w0 NB NL base (200 + 4 * (k + 1)) w6 := ⟨F6, T + 2 + 2, D, U6, rg, rw_, G, BL6, by have := HBL.out.2.1; omega, b6⟩
                have HLk := hideB (W6.looked LT_ok kB_in look_LT HNn.out.1 HNn.out.2.1 HNn.out.2.2)
                clear BL6 fp6 C6 b6 W6 HC2
                go_wp2_with fail
                refine HLk.out.mono ?_
                rintro _ w7 ⟨rfl, W7⟩
                have HW7 := hideB W7
                clear W7 HLk
                go_wp2_with fail
                go_roundw
                case rel => exact ⟨all + len / 8, k + 1, rfl, by simp, by have := Hsum.out; omega, by omega, HW7.out⟩
                case measure => simp [intOf]; omega

              · have hkN' : ¬ (k : Int) < (nN : Int) := by omega
                go_wp2_with fail
                refine HLend.out.mono ?_
                rintro _ w1 ⟨g, cg, rfl, hLt, B1⟩
                rw [HLEN.out]
                have HIB1 : IsBy w1 (.slice p len cap) bs := isBy_below HIB.out B1
                have HC1 := hideB (unpacks_any NB NL base F T D U rg rw_ G (.slice (some ⟨g, 0, none⟩) len cg) (.slice p len cap) bs 0 w1 (HBL.out.1.below B1) (.inl (by have h9 := hLt.bytes; rwa [HLEN.out] at h9)) HIB1 HB256.out (by have := HLEN.out; omega) (by have := HBL.out.2.1; omega))
                have H1 : Hid (Lent w1 wr.heap.size g cg bs ∧ Below wr.heap.size wr w1 ∧ wr.heap.size ≤ g ∧ g < w1.heap.size) := ⟨hLt, B1, hLt.lies.2.1, hLt.lies.2.2.1⟩
                clear hLt B1 HIB1 HLend
                go_wp2_with fail
                refine HC1.out.mono ?_
                rintro _ w2 ⟨rfl, F2, U2, BL2, fp2, C2⟩
                have hg1 := H1.out.2.2
                have L2 : Lent w2 wr.heap.size g cg bs := ownsRow_chg H1.out.1 C2 (fun k' hk' hh => by
                  have h9 := HBL.out.1.fpLt (.inl hh)
                  simp only [Value.ownBlock, Option.some.injEq] at hk'
                  omega)
                have b1 : Below w0.heap.size w0 w1 := HBL.out.2.2.trans (H1.out.2.1.mono HBL.out.2.2.size)
                have bel2 : Below w0.heap.size w0 w2 := b1.trans (C2.toBelow b1.size fun k' hk' hh => by have := HBL.out.1.low HNn.out.1 HNn.out.2.1 HNn.out.2.2 (.inl hh); omega)
                have IB2 : IsBy w2 (.slice p len cap) bs := isBy_below HIBw.out (HB0.out.trans (bel2.mono HB0.out.size))
                have HI2 := hideB (intact_any wr.heap.size g cg len (.slice p len cap) bs w2 HLEN.out.symm (by omega) L2 IB2)
                have z2 := C2.size
                have H2 : Hid (BL LT w2 NB NL base F2 (T + 2) D U2 rg rw_ G ∧ (∀ k', FP LT NB NL F2 rg rw_ G k' → k' ≠ g) ∧ Below w0.heap.size w0 w2 ∧ Lent w2 wr.heap.size g cg bs ∧ IsBy w2 (.slice p len cap) bs ∧ g < w2.heap.size) := ⟨BL2, fun k' hk' he => by
                  rcases fp2 k' hk' with h9 | h9
                  · have := HBL.out.1.fpLt h9; omega
                  · omega, bel2, L2, IB2, by omega⟩
                clear BL2 C2 fp2 hg1 L2 b1 bel2 IB2 HC1 z2
                go_wp2_with fail
                refine HI2.out.mono ?_
                rintro _ w3 ⟨rfl, m3, hw3⟩
                have H3 : Hid (BL LT w3 NB NL base F2 (T + 2) D U2 rg rw_ G ∧ Below w0.heap.size w0 w3 ∧ Lent w3 wr.heap.size g cg bs ∧ IsBy w3 (.slice p len cap) bs ∧ g < w3.heap.size) := by
                  rw [hw3]
                  exact ⟨H2.out.1.below (below_drewN (Below.refl _ _) m3), below_drewN H2.out.2.2.1 m3, H2.out.2.2.2.1, H2.out.2.2.2.2.1, H2.out.2.2.2.2.2⟩
                clear hw3 HI2
                have HO := hideB (other_any (.slice p len cap) bs w3 H3.out.2.2.2.1 HB256.out (by have := HLEN.out; omega))
                go_wp2_with fail
                refine HO.out.mono ?_
                rintro _ w4 ⟨r4, ys, rfl, hys, own4, B4⟩
                have L4 := H3.out.2.2.1.below B4
                have own4' : OwnB (g + 1) w4 r4 ys := ⟨own4.1, own4.2.1, fun ad n cap hv => by have h9 := own4.2.2 ad n cap hv; have := H3.out.2.2.2.2; omega⟩
                have HIn := hideB (into_any wr.heap.size g cg len r4 bs ys w4 HLEN.out.symm (by omega) L4 own4' hys)
                have H4 : Hid (BL LT w4 NB NL base F2 (T + 2) D U2 rg rw_ G ∧ Below w0.heap.size w0 w4 ∧ OwnB (g + 1) w4 r4 ys ∧ ys.length = bs.length) := ⟨H3.out.1.below B4, H3.out.2.1.trans (B4.mono H3.out.2.1.size), own4', hys⟩
                clear L4 own4 own4' B4 hys HO
                go_wp2_with fail
                refine HIn.out.mono ?_
                rintro _ w5 ⟨rfl, O5, IB5⟩
                have r5 : IsBytes w5 r4 ys := by
                  rcases H4.out.2.2.1.1 with ⟨h1, h2⟩ | ⟨b', o', c', h1, h2⟩
                  · exact .inl ⟨h1, h2⟩
                  · refine .inr ⟨b', o', c', h1, fun i hi => ?_⟩
                    have h9 := (H4.out.2.2.1.2.2 _ _ _ h1).1
                    simp only at h9
                    have hc := h2 i hi
                    rw [World.cell?_of_block (w := w4) (O5.block b' (block_lt_of_cell hc) (by omega))]
                    exact hc
                have C5 : Chg (fun k' => k' = g) w4 w5 := Chg.only O5 rfl
                have BL5 := H4.out.1.chg C5 (fun k' hk' he => H2.out.2.1 k' hk' he)
                have hw0 : w0.heap.size ≤ g := by have := H1.out.2.2.1; have := HBL.out.2.2.size; omega
                have b5 : Below w0.heap.size w0 w5 := H4.out.2.1.trans (O5.below hw0 H4.out.2.1.size)
                have HC2 := hideB (unpacks_any NB NL base F2 (T + 2) D U2 rg rw_ G (.slice (some ⟨g, 0, none⟩) len cg) r4 ys 0 w5 BL5 (.inl IB5) (.inl r5) H4.out.2.2.1.2.1 (by have := HLEN.out; have := H4.out.2.2.2; omega) (by have := HBL.out.2.1; omega))
                have H5 : Hid (BL LT w5 NB NL base F2 (T + 2) D U2 rg rw_ G ∧ Below w0.heap.size w0 w5) := ⟨BL5, b5⟩
                clear r5 C5 BL5 b5 IB5 O5 HIn hw0
                go_wp2_with fail
                refine HC2.out.mono ?_
                rintro _ w6 ⟨rfl, F6, U6, BL6, fp6, C6⟩
                have b6 : Below w0.heap.size w0 w6 := H5.out.2.trans (C6.toBelow H5.out.2.size fun k' hk' hh => by have := H5.out.1.low HNn.out.1 HNn.out.2.1 HNn.out.2.2 (.inl hh); omega)
                have W6 : WSt LT w0 NB NL base (200 + 4 * (k + 1)) w6 := ⟨F6, T + 2 + 2, D, U6, rg, rw_, G, BL6, by have := HBL.out.2.1; omega, b6⟩
                have HLk := hideB (W6.looked LT_ok kB_in look_LT HNn.out.1 HNn.out.2.1 HNn.out.2.2)
                clear BL6 fp6 C6 b6 W6 HC2
                go_wp2_with fail
                refine HLk.out.mono ?_
                rintro _ w7 ⟨rfl, W7⟩
                have HW7 := hideB W7
                clear W7 HLk
                go_wp2_with fail
                go_roundw
                case rel => exact ⟨all + len / 8, k + 1, rfl, by simp, by have := Hsum.out; omega, by omega, HW7.out⟩
                case measure => simp [intOf]; omega

          · go_wp2_with fail
            go_meet
            case rel => exact HWr.out
        · go_wp2_with fail
          go_meet
          case rel => exact HWr.out
    case rest =>
      have HR := hcut
      have HS := hideB (HR.out.settled LT_ok kB_in look_LT HNn.out.1 HNn.out.2.1 HNn.out.2.2 0 (by omega))
      clear hcut
      go_wp2_with fail
      refine HS.out.mono ?_
      rintro _ w1 ⟨rfl, W1⟩
      have HK := hideB (W1.looked LT_ok kB_in look_LT HNn.out.1 HNn.out.2.1 HNn.out.2.2)
      clear W1 HS
      go_wp2_with fail
      refine HK.out.mono ?_
      rintro _ w2 ⟨rfl, W2⟩
      have HW2 := hideB W2
      clear W2 HK
      go_wp2_with fail
      refine (works_any w2).mono ?_
      rintro _ w3 ⟨rfl, B3⟩
      have HB3 := hideB B3
      clear B3
      go_wp2_with fail
      go_ret
      obtain ⟨F, T, D, U, rg, rw_, G, BLr, hTG, belr⟩ := HW2.out
      exact ⟨rfl, (HB0.out.trans (belr.mono HB0.out.size)).trans (HB3.out.mono (by have := HB0.out.size; have := belr.size; omega))⟩

end Go.Proofs.YtangjkhflgkkdaaGreat

namespace Go.Proofs.YtangjkhflgkkdaaGreat
open Go.ChangeShapes Go.WideShapes Go.Deep Go.Joins
open M
set_option linter.unusedVariables false
set_option linter.unusedSimpArgs false

/-- A machine can hold it. -/
def Sz {H : Type} (ty : TypeId) (d : DataW H) : Prop := ∀ n ∈ d.weights Tryz.prog ty, n ≤ reachBytes

theorem weightsAll_in {H : Type} {P : Program} {e : TypeId} : ∀ {l : List (DataW H)} {d : DataW H}, d ∈ l → ∀ n ∈ d.weights P e, n ∈ DataW.weightsAll P e l
  | _ :: l, d, h, n, hn => by
    rcases List.mem_cons.1 h with rfl | h
    · simp only [DataW.weightsAll, List.mem_append]; exact Or.inl hn
    · simp only [DataW.weightsAll, List.mem_append]; exact Or.inr (weightsAll_in h n hn)

section
variable {H : Type} {enc : TypeId × Value → H} {w : World} {base : Nat} {spare : Nat → Bool} {held : Bool}

theorem open_rowsSz {S : World → Value → Prop} {ty el : TypeId} (hu : Tryz.prog.underlying ty = some (.slice el)) (h1 : Tryz.prog.cellsOf el = 1) (hS : ∀ {m : Nat} {u : Value} {y : DataW H × List MemPlace}, DataW.trod enc Tryz.prog w base spare held m el [u] = some y → Sz el y.1 → S w u)
    {fuel : Nat} {v : Value} {y : DataW H × List MemPlace} (h : DataW.trod enc Tryz.prog w base spare held fuel ty [v] = some y) (hz : Sz ty y.1) : ∃ a len cap, v = .slice a len cap ∧ len ≤ cap ∧ len * Tryz.prog.bytesOf el ≤ reachBytes ∧ RowsOf S w a len := by
  rcases open_slice hu h with ⟨h0, _⟩ | ⟨ad, len, cap, mm, n', D, Pl, hcs, _, hlc, hcm, hmm, hy, hx⟩
  · simp only [List.cons.injEq, and_true] at h0
    exact ⟨none, 0, 0, h0, Nat.le_refl _, by omega, by omega, fun h => by omega⟩
  · simp only [List.cons.injEq, and_true] at hcs
    unfold maxLen at hcm
    have hlm : len ≤ mm := by rw [hmm]; split <;> omega
    subst hy
    have hzz := hz
    unfold Sz at hzz
    simp only [DataW.weights, hu, List.length_map, List.length_range, List.mem_cons, List.mem_append] at hzz
    have hb : (len + (mm - len)) * Tryz.prog.bytesOf el ≤ reachBytes := hzz _ (Or.inl rfl)
    refine ⟨some ad, len, cap, hcs, hlc, Nat.le_trans (Nat.mul_le_mul_right _ (by omega)) hb, by omega, fun h0 => ?_⟩
    have one : ∀ i, i < len → ∃ u, w.cell? (ad.add i) = some u ∧ S w u := by
      intro i hi
      obtain ⟨cs', hc, ht⟩ := hx i (by omega)
      rw [h1, Nat.mul_one] at hc
      obtain ⟨u, rfl, hcell⟩ := cells_one hc
      refine ⟨u, hcell, hS ht fun n hn => hzz n (Or.inr (Or.inl ?_))⟩
      exact weightsAll_in (List.mem_map.2 ⟨i, List.mem_range.2 hi, rfl⟩) n hn
    obtain ⟨b, off, spot⟩ := ad
    obtain ⟨u0, h00, _⟩ := one 0 h0
    have hspot : spot = none := by simpa [Addr.add] using World.cell?_spot h00
    subst hspot
    refine ⟨b, off, rfl, fun j hj => ?_⟩
    obtain ⟨u, hu, hr⟩ := one j hj
    rw [Addr.add_mid] at hu
    exact ⟨u, hu, hr⟩

theorem open_bs {m : Nat} {u : Value} {y : DataW H × List MemPlace} (h : DataW.trod enc Tryz.prog w base spare held m 57 [u] = some y) (hz : Sz 57 y.1) : IsBs w u := by
  obtain ⟨p, n, cap, bs, rfl, _, h2, h3, h4⟩ := open_b h
  obtain ⟨a, len, cap', e, _, hb, _⟩ := open_rowsSz (S := fun _ _ => True) Tryz.underlying57 (by kernel_rfl) (fun _ _ => trivial) h hz
  have hb8 : Tryz.prog.bytesOf 5 = 1 := by kernel_rfl
  rw [hb8] at hb
  simp only [Value.slice.injEq] at e
  obtain ⟨_, rfl, _⟩ := e
  have := reachBytes_lt
  exact ⟨p, n, cap, bs, rfl, by omega, h2, h3, h4⟩

theorem open_ts {m : Nat} {u : Value} {y : DataW H × List MemPlace} (h : DataW.trod enc Tryz.prog w base spare held m 54 [u] = some y) (hz : Sz 54 y.1) : IsTs w u := by
  obtain ⟨p, n, cap, f, rfl, _, h2, h3⟩ := open_t h
  obtain ⟨a, len, cap', e, _, hb, _⟩ := open_rowsSz (S := fun _ _ => True) Tryz.underlying54 (by kernel_rfl) (fun _ _ => trivial) h hz
  have hb8 : Tryz.prog.bytesOf 2 = 8 := by kernel_rfl
  rw [hb8] at hb
  simp only [Value.slice.injEq] at e
  obtain ⟨_, rfl, _⟩ := e
  have := reachBytes_lt
  refine ⟨p, n, cap, f, rfl, by omega, fun hp => ?_, h2, h3⟩
  rcases open_slice Tryz.underlying54 h with ⟨h0, _⟩ | ⟨ad, len, cap, mm, n', D, Pl, hcs, _⟩
  · simp only [List.cons.injEq, and_true, Value.slice.injEq] at h0
    exact h0.2.2
  · simp only [List.cons.injEq, and_true, Value.slice.injEq] at hcs
    rw [hp] at hcs
    cases hcs.1

set_option maxRecDepth 100000 in
theorem open_paramSz {r : Reach} {b0 : Nat} {v : Value} {d : DataW H} {p : List MemPlace} (hv : Value.okWide Tryz.prog w r b0 26 v) (h : DataW.Trod enc Tryz.prog w base spare held 26 v d p) (hz : Sz 26 d) :
    ∃ aL nL cL aB nB cB aN nN cN, v = .agg #[.slice aL nL cL, .slice aB nB cB, .slice aN nN cN] ∧ RowsOf IsTs w aL nL ∧ RowsOf IsBs w aB nB ∧ RowsOf IsN w aN nN := by
  obtain ⟨v0, v1, v2, y0, y1, y2, n, rfl, hd, _, h0, h1, h2⟩ := open_agg3 Tryz.underlying26 (by kernel_rfl) (by kernel_rfl) hv h
  subst hd
  have z0 : Sz 22 y0.1 := fun n hn => hz n (by
    simp only [DataW.weights, Tryz.underlying26]
    exact DataW.weights_mem_each (j := 0) rfl rfl n hn)
  have z1 : Sz 23 y1.1 := fun n hn => hz n (by
    simp only [DataW.weights, Tryz.underlying26]
    exact DataW.weights_mem_each (j := 1) rfl rfl n hn)
  obtain ⟨aL, nL, cL, rfl, _, _, hL⟩ := open_rowsSz (S := IsTs) Tryz.underlying22 (by kernel_rfl) (fun h hz => open_ts h hz) h0 z0
  obtain ⟨aB, nB, cB, rfl, _, _, hB⟩ := open_rowsSz (S := IsBs) Tryz.underlying23 (by kernel_rfl) (fun h hz => open_bs h hz) h1 z1
  obtain ⟨aN, nN, cN, rfl, _, hN⟩ := open_rowsOf (S := IsN) Tryz.underlying24 (by kernel_rfl) (fun h => open_n h) h2
  exact ⟨aL, nL, cL, aB, nB, cB, aN, nN, cN, rfl, hL, hB, hN⟩
end
end Go.Proofs.YtangjkhflgkkdaaGreat

/- PackBack: the walk. -/
import Derived.Test.YtenhippcjnemcaaDoorP2I
import Derived.Test.YtenhippcjnemcaaDoorP2N
import Derived.Deep.CutBlock
import Derived.Deep.DeepCutAuto
namespace Go.Proofs.YtenhippcjnemcaaDoor
open Go.RowKit
open M
set_option linter.unusedVariables false

set_option maxRecDepth 100000 in
set_option maxHeartbeats 8000000 in
theorem back_any (aW aR aB aN : Option Addr) (nW cW nR cR nB cB nN cN : Nat) (w : World) (hW : RowsOf IsU64 w aW nW) (hR : RowsOf IsU32 w aR nR) (hT : Tab64 w) :
    Calls Tryd.prog 3 #[.agg #[.slice aW nW cW, .slice aR nR cR, .slice aB nB cB, .slice aN nN cN]] w fun e w' => e = .returned (.bool true) ∧ Below w.heap.size w w' := by
  have HW := hide hW
  have HR := hide hR
  have HT := hide hT
  have hnW := hW.1
  have hnR := hR.1
  clear hW hR hT
  have HX : Hid ((w.alloc (.cells #[.slice aW nW cW, .slice aR nR cR, .slice aB nB cB, .slice aN nN cN] 27)).heap[w.heap.size]? = some (.cells #[.slice aW nW cW, .slice aR nR cR, .slice aB nB cB, .slice aN nN cN] 27 (0, 0))) := heap_alloc_new _ _
  have HB0 : Hid (Below w.heap.size w (w.alloc (.cells #[.slice aW nW cW, .slice aR nR cR, .slice aB nB cB, .slice aN nN cN] 27))) := (Below.refl _ _).alloc (Nat.le_refl _) _
  go_enter Tryd.func3, Tryd.ntmps3
  go_upto_block 0 with fail
  generalize w.alloc (.cells #[.slice aW nW cW, .slice aR nR cR, .slice aB nB cB, .slice aN nN cN] 27) = w0 at *
  go_cut [3] from 6 (fun t3 wc => ∃ all : Nat, t3 = .int .i64 (all : Int) ∧ Hid (all ≤ 140737488400000 ∧ Below w0.heap.size w0 wc))
  case first =>
    go_wp2_with fail
    go_loopw [3, 4] (fun tall tk wr => ∃ all k : Nat, tall = .int .i64 (all : Int) ∧ tk = .int .i64 (k : Int) ∧ Hid (all ≤ 8192 ∧ k ≤ 100 ∧ Below w0.heap.size w0 wr)) (fun _ tk _ => 100 - (intOf tk).toNat)
    case atStart => exact ⟨0, 0, rfl, rfl, by omega, by omega, Below.refl _ _⟩
    case round =>
      obtain ⟨all, k, rfl, rfl, HI⟩ := hrel
      have h0s : w.heap.size < w0.heap.size := size_lt_of_row HX.out
      have cX : wr.cell? ⟨w.heap.size, 0, none⟩ = some (.slice aW nW cW) := by rw [HI.out.2.2.cell (p := ⟨w.heap.size, 0, none⟩) h0s, cell_of_row _ _ _ _ _ _ HX.out]; rfl
      have hk100 : k ≤ 100 := HI.out.2.1
      have hall : all ≤ 8192 := HI.out.1
      have HBw : Hid (Below w.heap.size w wr) := HB0.out.trans (HI.out.2.2.mono HB0.out.size)
      have HTw : Hid (Tab64 wr) := HT.out.below HBw.out
      by_cases h1 : k < nW
      · by_cases h2 : k < 100
        · obtain ⟨b, o, hae, hc⟩ := HW.out.2 (by omega)
          obtain ⟨v, hv, p, len, cap, f, rfl, hn, hcap, hR, hf⟩ := hc k h1
          have cV : wr.cell? ⟨b, o + k, none⟩ = some (.slice p len cap) := by rw [HBw.out.cell (p := ⟨b, o + k, none⟩) (block_lt_of_cell hv)]; exact hv
          have HRr : Hid (URow64 wr p len f) := hR.below HBw.out
          have HFf := hide hf
          rw [hae] at cX
          clear hc hv hR hf hae
          by_cases hsum : 8192 < all + len
          · go_wp2_with fail
            go_meet
            case rel => exact ⟨all + len, by simp, by omega, HI.out.2.2⟩
          by_cases hlen : 4096 < len
          · go_wp2_with fail
            go_meet
            case rel => exact ⟨all + len, by simp, by omega, HI.out.2.2⟩
          have Hsum := hide hsum
          go_wp2_with fail
          refine (back64_any p len cap f wr HRr.out (by omega) hcap HFf.out HTw.out).mono ?_
          rintro e w1 ⟨rfl, B1⟩
          have HB1 := hide B1
          clear B1
          go_wp2_with fail
          go_roundw
          case rel => exact ⟨all + len, k + 1, rfl, by simp, by have := Hsum.out; omega, by omega, HI.out.2.2.trans (HB1.out.mono HI.out.2.2.size)⟩
          case measure => simp [intOf]; omega
        · go_wp2_with fail
          go_meet
          case rel => exact ⟨all, rfl, by omega, HI.out.2.2⟩
      · go_wp2_with fail
        go_meet
        case rel => exact ⟨all, rfl, by omega, HI.out.2.2⟩
  case rest =>
    obtain ⟨all0, rfl, HI0⟩ := hcut
    go_wp2_with fail
    go_loopw [3, 5] (fun tall tk wr => ∃ all k : Nat, tall = .int .i64 (all : Int) ∧ tk = .int .i64 (k : Int) ∧ Hid (all ≤ 140737488400000 ∧ k ≤ 100 ∧ Below w0.heap.size w0 wr)) (fun _ tk _ => 100 - (intOf tk).toNat)
    case atStart => exact ⟨all0, 0, rfl, rfl, HI0.out.1, by omega, HI0.out.2⟩
    case round =>
      obtain ⟨all, k, rfl, rfl, HI⟩ := hrel
      have h0s : w.heap.size < w0.heap.size := size_lt_of_row HX.out
      have cX : wr.cell? ⟨w.heap.size, 1, none⟩ = some (.slice aR nR cR) := by rw [HI.out.2.2.cell (p := ⟨w.heap.size, 1, none⟩) h0s, cell_of_row _ _ _ _ _ _ HX.out]; rfl
      have hk100 : k ≤ 100 := HI.out.2.1
      have hall : all ≤ 140737488400000 := HI.out.1
      have HBw : Hid (Below w.heap.size w wr) := HB0.out.trans (HI.out.2.2.mono HB0.out.size)
      have HTw : Hid (Tab64 wr) := HT.out.below HBw.out
      by_cases h1 : k < nR
      · by_cases h2 : k < 100
        · obtain ⟨b, o, hae, hc⟩ := HR.out.2 (by omega)
          obtain ⟨v, hv, p, len, cap, f, rfl, hn, hcap, hR, hf⟩ := hc k h1
          have cV : wr.cell? ⟨b, o + k, none⟩ = some (.slice p len cap) := by rw [HBw.out.cell (p := ⟨b, o + k, none⟩) (block_lt_of_cell hv)]; exact hv
          have HRr : Hid (URow32 wr p len f) := hR.below HBw.out
          have HFf := hide hf
          rw [hae] at cX
          clear hc hv hR hf hae
          by_cases hsum : 16384 < all + len
          · go_wp2_with fail
            refine (works_any wr HTw.out).mono ?_
            rintro e w' ⟨rfl, hB⟩
            go_wp2_with fail
            go_ret
            exact ⟨rfl, HBw.out.trans (hB.mono HBw.out.size)⟩
          by_cases hlen : 4096 < len
          · go_wp2_with fail
            refine (works_any wr HTw.out).mono ?_
            rintro e w' ⟨rfl, hB⟩
            go_wp2_with fail
            go_ret
            exact ⟨rfl, HBw.out.trans (hB.mono HBw.out.size)⟩
          have Hsum := hide hsum
          go_wp2_with fail
          refine (back32_any p len cap f wr HRr.out (by omega) hcap HFf.out HTw.out).mono ?_
          rintro e w1 ⟨rfl, B1⟩
          have HB1 := hide B1
          clear B1
          go_wp2_with fail
          go_roundw
          case rel => exact ⟨all + len, k + 1, rfl, by simp, by have := Hsum.out; omega, by omega, HI.out.2.2.trans (HB1.out.mono HI.out.2.2.size)⟩
          case measure => simp [intOf]; omega
        · go_wp2_with fail
          refine (works_any wr HTw.out).mono ?_
          rintro e w' ⟨rfl, hB⟩
          go_wp2_with fail
          go_ret
          exact ⟨rfl, HBw.out.trans (hB.mono HBw.out.size)⟩
      · go_wp2_with fail
        refine (works_any wr HTw.out).mono ?_
        rintro e w' ⟨rfl, hB⟩
        go_wp2_with fail
        go_ret
        exact ⟨rfl, HBw.out.trans (hB.mono HBw.out.size)⟩


end Go.Proofs.YtenhippcjnemcaaDoor

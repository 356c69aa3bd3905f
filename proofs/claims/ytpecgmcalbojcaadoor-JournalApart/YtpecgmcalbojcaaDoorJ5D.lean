/- JournalApart: the walk. -/
import Derived.Test.YtpecgmcalbojcaaDoorJ5C
namespace Go.Proofs.YtpecgmcalbojcaaDoor
open Go.RowKit
set_option linter.unusedVariables false
set_option linter.unusedSimpArgs false

section
variable {W wx : World} {D : Nat → Nat} {j k m n : Nat} {G : Nat → List Nat → List Nat} {C : Nat → Nat → Nat} {bf0 : Nat → List Nat} {cf0 : Nat → Nat} {T V g : Nat} {X : Obj}
theorem rd_turn0 (h : Rd W wx D (LB j k m n) 0 G C bf0 cf0 T V g X) (hT : TabC W) (pA : Option Addr) (nA cA : Nat) (pB : Option Addr) (nB cB : Nat) (pC : Option Addr) (nC cC : Nat) (pr : Option Addr) (nr cr i : Nat) (rs : List (List Nat)) (z : Nat → Int) (hr : i < nr → RowFn W pr i rs) (hz : IntsFn W pC nC z) (hi : i ≤ 100) (hnr : nr ≤ 140737488355328) (hnC : nC ≤ 140737488355328) (hbody : (bodyB rs).length ≤ 65536) (hA : T + (recB rs).length ≤ 268435456) (hw : V ≤ 50000) (hct : cf0 0 ≤ 50000)
    (hG : G 0 (bf0 0) = if clr z i (min nC 20) then headB else if i < nr then bf0 0 ++ recB rs else bf0 0) (hC : C 0 (cf0 0) = if clr z i (min nC 20) then 0 else if i < nr then cf0 0 + 1 else cf0 0) :
    Calls Tryd.prog 31 #[.agg #[.slice pA nA cA, .slice pB nB cB, .slice pC nC cC], .pointer (some ⟨j, 0, none⟩), .slice pr nr cr, .int .i64 (i : Int)] wx fun e w' => e = .returned (.bool true) ∧ Rd W w' D (LB j k m n) 1 G C bf0 cf0 (T + (recB rs).length) (V + 22) g X := rd_turn h (by omega) hT pA nA cA pB nB cB pC nC cC pr nr cr i rs z hr hz hi hnr hnC hbody hA hw hct hG hC
theorem rd_turn1 (h : Rd W wx D (LB j k m n) 1 G C bf0 cf0 T V g X) (hT : TabC W) (pA : Option Addr) (nA cA : Nat) (pB : Option Addr) (nB cB : Nat) (pC : Option Addr) (nC cC : Nat) (pr : Option Addr) (nr cr i : Nat) (rs : List (List Nat)) (z : Nat → Int) (hr : i < nr → RowFn W pr i rs) (hz : IntsFn W pC nC z) (hi : i ≤ 100) (hnr : nr ≤ 140737488355328) (hnC : nC ≤ 140737488355328) (hbody : (bodyB rs).length ≤ 65536) (hA : T + (recB rs).length ≤ 268435456) (hw : V ≤ 50000) (hct : cf0 1 ≤ 50000)
    (hG : G 1 (bf0 1) = if clr z i (min nC 20) then headB else if i < nr then bf0 1 ++ recB rs else bf0 1) (hC : C 1 (cf0 1) = if clr z i (min nC 20) then 0 else if i < nr then cf0 1 + 1 else cf0 1) :
    Calls Tryd.prog 31 #[.agg #[.slice pA nA cA, .slice pB nB cB, .slice pC nC cC], .pointer (some ⟨k, 0, none⟩), .slice pr nr cr, .int .i64 (i : Int)] wx fun e w' => e = .returned (.bool true) ∧ Rd W w' D (LB j k m n) 2 G C bf0 cf0 (T + (recB rs).length) (V + 22) g X := rd_turn h (by omega) hT pA nA cA pB nB cB pC nC cC pr nr cr i rs z hr hz hi hnr hnC hbody hA hw hct hG hC
theorem rd_turn2 (h : Rd W wx D (LB j k m n) 2 G C bf0 cf0 T V g X) (hT : TabC W) (pA : Option Addr) (nA cA : Nat) (pB : Option Addr) (nB cB : Nat) (pC : Option Addr) (nC cC : Nat) (pr : Option Addr) (nr cr i : Nat) (rs : List (List Nat)) (z : Nat → Int) (hr : i < nr → RowFn W pr i rs) (hz : IntsFn W pC nC z) (hi : i ≤ 100) (hnr : nr ≤ 140737488355328) (hnC : nC ≤ 140737488355328) (hbody : (bodyB rs).length ≤ 65536) (hA : T + (recB rs).length ≤ 268435456) (hw : V ≤ 50000) (hct : cf0 2 ≤ 50000)
    (hG : G 2 (bf0 2) = if clr z i (min nC 20) then headB else if i < nr then bf0 2 ++ recB rs else bf0 2) (hC : C 2 (cf0 2) = if clr z i (min nC 20) then 0 else if i < nr then cf0 2 + 1 else cf0 2) :
    Calls Tryd.prog 31 #[.agg #[.slice pA nA cA, .slice pB nB cB, .slice pC nC cC], .pointer (some ⟨m, 0, none⟩), .slice pr nr cr, .int .i64 (i : Int)] wx fun e w' => e = .returned (.bool true) ∧ Rd W w' D (LB j k m n) 3 G C bf0 cf0 (T + (recB rs).length) (V + 22) g X := rd_turn h (by omega) hT pA nA cA pB nB cB pC nC cC pr nr cr i rs z hr hz hi hnr hnC hbody hA hw hct hG hC
theorem rd_turn3 (h : Rd W wx D (LB j k m n) 3 G C bf0 cf0 T V g X) (hT : TabC W) (pA : Option Addr) (nA cA : Nat) (pB : Option Addr) (nB cB : Nat) (pC : Option Addr) (nC cC : Nat) (pr : Option Addr) (nr cr i : Nat) (rs : List (List Nat)) (z : Nat → Int) (hr : i < nr → RowFn W pr i rs) (hz : IntsFn W pC nC z) (hi : i ≤ 100) (hnr : nr ≤ 140737488355328) (hnC : nC ≤ 140737488355328) (hbody : (bodyB rs).length ≤ 65536) (hA : T + (recB rs).length ≤ 268435456) (hw : V ≤ 50000) (hct : cf0 3 ≤ 50000)
    (hG : G 3 (bf0 3) = if clr z i (min nC 20) then headB else if i < nr then bf0 3 ++ recB rs else bf0 3) (hC : C 3 (cf0 3) = if clr z i (min nC 20) then 0 else if i < nr then cf0 3 + 1 else cf0 3) :
    Calls Tryd.prog 31 #[.agg #[.slice pA nA cA, .slice pB nB cB, .slice pC nC cC], .pointer (some ⟨n, 0, none⟩), .slice pr nr cr, .int .i64 (i : Int)] wx fun e w' => e = .returned (.bool true) ∧ Rd W w' D (LB j k m n) 4 G C bf0 cf0 (T + (recB rs).length) (V + 22) g X := rd_turn h (by omega) hT pA nA cA pB nB cB pC nC cC pr nr cr i rs z hr hz hi hnr hnC hbody hA hw hct hG hC
end
theorem clr_none (z : Nat → Int) (i : Nat) : clr z i (min 0 20) = false := rfl

set_option maxRecDepth 100000 in
set_option maxHeartbeats 8000000 in
theorem journalApart_any (pA : Option Addr) (nA cA : Nat) (pB : Option Addr) (nB cB : Nat) (pC : Option Addr) (nC cC : Nat) (w : World) (hA : RowsIn w pA nA) (hB : RowsIn w pB nB) (hC : IntsIn w pC nC) (hnA : nA ≤ 140737488355328) (hnB : nB ≤ 140737488355328) (hnC : nC ≤ 140737488355328) (hT : TabC w) :
    Calls Tryd.prog 7 #[.agg #[.slice pA nA cA, .slice pB nB cB, .slice pC nC cC]] w fun e w' => e = .returned (.bool true) ∧ Below w.heap.size w w' := by
  have HX : Hid ((w.alloc (.cells #[.slice pA nA cA, .slice pB nB cB, .slice pC nC cC] 68)).heap[w.heap.size]? = some (.cells #[.slice pA nA cA, .slice pB nB cB, .slice pC nC cC] 68 (0, 0))) := heap_alloc_new _ _
  have HB0 : Hid (Below w.heap.size w (w.alloc (.cells #[.slice pA nA cA, .slice pB nB cB, .slice pC nC cC] 68))) := (Below.refl _ _).alloc (Nat.le_refl _) _
  have HA0 := hide (hA.below HB0.out)
  have HB1 := hide (hB.below HB0.out)
  have HC0 := hide (hC.below HB0.out)
  have HT : Hid (TabC (w.alloc (.cells #[.slice pA nA cA, .slice pB nB cB, .slice pC nC cC] 68))) := hT.below HB0.out
  clear hA hB hC hT
  go_enter Tryd.func7, Tryd.ntmps7
  go_upto_region 1 with fail
  generalize w.alloc (.cells #[.slice pA nA cA, .slice pB nB cB, .slice pC nC cC] 68) = w0 at *
  obtain ⟨rA, hrA⟩ := rows_fn HA0.out
  obtain ⟨rB, hrB⟩ := rows_fn HB1.out
  obtain ⟨z, hzz⟩ := ints_fn HC0.out
  have HA := hide hrA
  have HB := hide hrB
  have HZ := hide hzz
  clear hrA hrB hzz HA0 HB1 HC0
  have HN1 := hide (di_new w0 w0.heap.size (Nat.le_refl _) 268435456 (by decide) (by decide))
  go_upto_block 0 with (first
    | (go_at_call 10; refine (num_any _ _).mono ?_; rintro e wn ⟨rfl, hwn⟩; have hwn2 := hwn.symm; subst hwn2)
    | (go_at_call 9; refine HN1.out.mono ?_; rintro e w1 ⟨d, F1, rfl, hD1, hB1, hG1⟩; have H1 : Hid (Di w0.heap.size w1 d P0 F1 ∧ Below w0.heap.size w0 w1) := ⟨hD1, hB1⟩; clear hD1 hB1 hG1 HN1)
    | (go_at_call 9; refine (di_new _ w0.heap.size H1.out.2.size 268435456 (by decide) (by decide)).mono ?_; rintro e w2 ⟨c, F2, rfl, hD2, hB2, hG2⟩; have H2 : Hid (Di w0.heap.size w2 d P0 F1 ∧ Di w0.heap.size w2 c P0 F2 ∧ Below w0.heap.size w0 w2 ∧ ∀ k, F1 k → ¬ F2 k) := ⟨H1.out.1.below hB2, hD2, H1.out.2.trans (hB2.mono H1.out.2.size), fun k h1 h2 => by have := H1.out.1.lt k h1; have := hG2 k h2; omega⟩; clear hD2 hB2 hG2 H1)
    | (go_at_call 9; refine (di_new _ w0.heap.size H2.out.2.2.1.size 268435456 (by decide) (by decide)).mono ?_; rintro e w3 ⟨b, F3', rfl, hD3, hB3, hG3⟩; have H3 : Hid (Opd w0 w3 0 (D3 d c b) (fun _ => 0) (fun _ => []) (fun _ => 0)) := opd_start (H2.out.1.below hB3) (H2.out.2.1.below hB3) hD3 H2.out.2.2.2 (fun k h1 h2 => by have := H2.out.1.lt k h1; have := hG3 k h2; omega) (fun k h1 h2 => by have := H2.out.2.1.lt k h1; have := hG3 k h2; omega) (H2.out.2.2.1.trans (hB3.mono H2.out.2.2.1.size)); clear hD3 hB3 hG3 H2)
    | (go_at_call 11; refine (works_any _ (HT.out.below H3.out.bel)).mono ?_; rintro e w4 ⟨rfl, hB4⟩; have H4 := hide (H3.out.below hB4); clear hB4 H3)
    | (go_at_call 12; refine (op_open0 H4.out).mono ?_; rintro e wo0 ⟨l0, rfl, ho0⟩; have H5 := hide ho0; clear ho0 H4)
    | (go_at_call 12; refine (op_open1 H5.out).mono ?_; rintro e wo1 ⟨l1, rfl, ho1⟩; have H6 := hide ho1; clear ho1 H5)
    | (go_at_call 12; refine (op_open2 H6.out).mono ?_; rintro e wo2 ⟨l2, rfl, ho2⟩; have H7 := hide ho2; clear ho2 H6)
    | (go_at_call 12; refine (op_open3 H7.out).mono ?_; rintro e wo3 ⟨l3, rfl, ho3⟩; have H8 := hide ho3; clear ho3 H7))
  have HS : Hid (∃ bf cf, AS w0 wo3 (D3 d c b) (LB l0 l1 l2 l3) bf cf 65536 0) := op_done H8.out
  clear H8
  go_cut [18] from 18 (fun t18 wc => Hid (∃ bf cf L i, AS w0 wc (D3 d c b) (LB l0 l1 l2 l3) bf cf L i))
  case first =>
    as_aux_lemma =>
      go_wp2_with fail
      go_loopw [18, 19] (fun t18 t19 wr => ∃ (L i : Nat), t18 = .int .i64 (L : Int) ∧ t19 = .int .i64 (i : Int) ∧ Hid (∃ bf cf, AS w0 wr (D3 d c b) (LB l0 l1 l2 l3) bf cf L i)) (fun _ t19 _ => 40 - (intOf t19).toNat)
      case atStart => exact ⟨65536, 0, rfl, rfl, HS.out⟩
      case round =>
        obtain ⟨L, i, rfl, rfl, hI⟩ := hrel
        clear HS
        obtain ⟨bf, cf, hS⟩ := hI.out
        have HAS := hide hS
        have hL6 : L ≤ 65536 := hS.l1
        have b0 : wr.cell? ⟨w.heap.size, 0, none⟩ = some (.slice pA nA cA) := by rw [(hS.bel).cell (p := ⟨w.heap.size, 0, none⟩) (heap_lt HX.out), cell_of_row _ _ _ _ _ _ HX.out]; rfl
        have b1 : wr.cell? ⟨w.heap.size, 1, none⟩ = some (.slice pB nB cB) := by rw [(hS.bel).cell (p := ⟨w.heap.size, 1, none⟩) (heap_lt HX.out), cell_of_row _ _ _ _ _ _ HX.out]; rfl
        have b2 : wr.cell? ⟨w.heap.size, 2, none⟩ = some (.slice pC nC cC) := by rw [(hS.bel).cell (p := ⟨w.heap.size, 2, none⟩) (heap_lt HX.out), cell_of_row _ _ _ _ _ _ HX.out]; rfl
        clear hI hS
        by_cases hk : i < nA + nB
        · have hk' : (i : Int) < (nA : Int) + (nB : Int) := by omega
          by_cases hk4 : i < 40
          · have hk4' : (i : Int) < 40 := by omega
            go_upto_if 147 with fail
            go_cut [18] from 128 to 207 (fun t18 wc => ∃ L1 : Int, t18 = .int .i64 L1 ∧ -281474976710656 ≤ L1 ∧ L1 ≤ 65536 ∧ Hid (Below wr.heap.size wr wc ∧ (0 ≤ L1 → ((bodyB (rA i)).length : Int) + L1 ≤ (L : Int))))
            case first =>
              as_aux_lemma =>
                by_cases hiA : i < nA
                · have hiA' : (i : Int) < (nA : Int) := by omega
                  obtain ⟨gA, oA, pe, ne, ce, e1, hcA, HSZ⟩ := rowFn_size ((HA.out i).1 hiA)
                  have hcA2 : wr.cell? ⟨gA, oA + i, none⟩ = some (.slice pe ne ce) := by rw [HAS.out.bel.cell (p := ⟨gA, oA + i, none⟩) (block_lt_of_cell hcA)]; exact hcA
                  have HSZ := hide HSZ
                  subst e1
                  clear hcA
                  go_wp2_with (go_at_call 16; refine (HSZ.out _ HAS.out.bel).mono ?_; rintro e ws ⟨zz, rfl, hz1, hz2, hzB⟩; have HZB := hide (And.intro hz1 hzB); clear hz1 hzB HSZ)
                  go_meet
                  case rel => exact ⟨(L : Int) - (zz : Int), by simp, by omega, by omega, HZB.out.2, fun h => by have := HZB.out.1; omega⟩
                · have hiA' : ¬ (i : Int) < (nA : Int) := by omega
                  go_wp2_with fail
                  go_meet
                  case rel => exact ⟨(L : Int), rfl, by omega, by omega, Below.refl _ _, fun _ => by rw [(HA.out i).2 hiA]; simp [bodyB]⟩
            case rest =>
              obtain ⟨L1, rfl, hL1a, hL1b, HC1⟩ := hcut
              obtain ⟨wa, hwa⟩ : ∃ x, x = wc := ⟨_, rfl⟩
              subst hwa
              have HAS1 := hide (HAS.out.below HC1.out.1)
              clear b0 b1 b2
              have b0 : wa.cell? ⟨w.heap.size, 0, none⟩ = some (.slice pA nA cA) := by rw [(HAS1.out.bel).cell (p := ⟨w.heap.size, 0, none⟩) (heap_lt HX.out), cell_of_row _ _ _ _ _ _ HX.out]; rfl
              have b1 : wa.cell? ⟨w.heap.size, 1, none⟩ = some (.slice pB nB cB) := by rw [(HAS1.out.bel).cell (p := ⟨w.heap.size, 1, none⟩) (heap_lt HX.out), cell_of_row _ _ _ _ _ _ HX.out]; rfl
              have b2 : wa.cell? ⟨w.heap.size, 2, none⟩ = some (.slice pC nC cC) := by rw [(HAS1.out.bel).cell (p := ⟨w.heap.size, 2, none⟩) (heap_lt HX.out), cell_of_row _ _ _ _ _ _ HX.out]; rfl
              go_upto_if 161 with fail
              go_cut [18] from 128 to 207 (fun t18 wd => ∃ L2 : Int, t18 = .int .i64 L2 ∧ -562949953421312 ≤ L2 ∧ L2 ≤ 65536 ∧ Hid (Below wa.heap.size wa wd ∧ (0 ≤ L2 → 0 ≤ L1 ∧ ((bodyB (rB i)).length : Int) + L2 ≤ L1)))
              case first =>
                as_aux_lemma =>
                  by_cases hiB : i < nB
                  · have hiB' : (i : Int) < (nB : Int) := by omega
                    obtain ⟨gA, oA, pe, ne, ce, e1, hcA, HSZ⟩ := rowFn_size ((HB.out i).1 hiB)
                    have hcA2 : wa.cell? ⟨gA, oA + i, none⟩ = some (.slice pe ne ce) := by rw [HAS1.out.bel.cell (p := ⟨gA, oA + i, none⟩) (block_lt_of_cell hcA)]; exact hcA
                    have HSZ := hide HSZ
                    subst e1
                    clear hcA
                    go_wp2_with (go_at_call 16; refine (HSZ.out _ HAS1.out.bel).mono ?_; rintro e ws ⟨zz, rfl, hz1, hz2, hzB⟩; have HZB := hide (And.intro hz1 hzB); clear hz1 hzB HSZ)
                    go_meet
                    case rel => exact ⟨L1 - (zz : Int), by simp, by omega, by omega, HZB.out.2, fun h => by have := HZB.out.1; omega⟩
                  · have hiB' : ¬ (i : Int) < (nB : Int) := by omega
                    go_wp2_with fail
                    go_meet
                    case rel => exact ⟨L1, rfl, by omega, by omega, Below.refl _ _, fun h => by rw [(HB.out i).2 hiB]; simp [bodyB]; omega⟩
              case rest =>
                obtain ⟨L2, rfl, hL2a, hL2b, HC2⟩ := hcut
                have HAS2 := hide (HAS1.out.below HC2.out.1)
                clear b0 b1 b2
                have b0 : wc.cell? ⟨w.heap.size, 0, none⟩ = some (.slice pA nA cA) := by rw [(HAS2.out.bel).cell (p := ⟨w.heap.size, 0, none⟩) (heap_lt HX.out), cell_of_row _ _ _ _ _ _ HX.out]; rfl
                have b1 : wc.cell? ⟨w.heap.size, 1, none⟩ = some (.slice pB nB cB) := by rw [(HAS2.out.bel).cell (p := ⟨w.heap.size, 1, none⟩) (heap_lt HX.out), cell_of_row _ _ _ _ _ _ HX.out]; rfl
                have b2 : wc.cell? ⟨w.heap.size, 2, none⟩ = some (.slice pC nC cC) := by rw [(HAS2.out.bel).cell (p := ⟨w.heap.size, 2, none⟩) (heap_lt HX.out), cell_of_row _ _ _ _ _ _ HX.out]; rfl
                by_cases hneg : L2 < 0
                · go_wp2_with fail
                  go_meet
                  case rel => exact ⟨bf, cf, L, i, HAS2.out⟩
                · obtain ⟨L', rfl⟩ : ∃ L' : Nat, L2 = (L' : Int) := ⟨L2.toNat, by omega⟩
                  have HSM : Hid ((bodyB (rA i)).length + (bodyB (rB i)).length + L' ≤ L) := by
                    have h1 := HC2.out.2 (by omega)
                    have h2 := HC1.out.2 h1.1
                    show _ ≤ _
                    omega
                  have HBDA : Hid ((bodyB (rA i)).length ≤ 65536) := by have := HSM.out; show _ ≤ _; omega
                  have HBDB : Hid ((bodyB (rB i)).length ≤ 65536) := by have := HSM.out; show _ ≤ _; omega
                  have HTT : Hid ((recB (rA i)).length = 8 + (bodyB (rA i)).length ∧ (recB (rB i)).length = 8 + (bodyB (rB i)).length ∧ (bodyB (rA i)).length + (bodyB (rB i)).length + L' ≤ L ∧ L ≤ 65536) := ⟨recB_len _, recB_len _, HSM.out, hL6⟩
                  have HBG : Hid (∀ wy, Below wc.heap.size wc wy → wy.heap[wc.heap.size]? = some (.cells #[.slice none 0 0, .slice none 0 0, .slice none 0 0] 68 (0, 0)) → Rd w0 wy (D3 d c b) (LB l0 l1 l2 l3) 0 (GB z i nA nB nC (rA i) (rB i)) (GC z i nA nB nC) bf cf (100 + 40 * i + 2 * (65536 - L)) (10 + 88 * i) wc.heap.size (.cells #[.slice none 0 0, .slice none 0 0, .slice none 0 0] 68 (0, 0))) := fun wy hb hX => HAS2.out.begin _ _ hb (Nat.le_refl _) hX
                  go_upto_region 22 with fail
                  have HR0 : Hid (Rd w0 (wc.alloc (.cells #[.slice none 0 0, .slice none 0 0, .slice none 0 0] 68)) (D3 d c b) (LB l0 l1 l2 l3) 0 (GB z i nA nB nC (rA i) (rB i)) (GC z i nA nB nC) bf cf (100 + 40 * i + 2 * (65536 - L)) (10 + 88 * i) wc.heap.size (.cells #[.slice none 0 0, .slice none 0 0, .slice none 0 0] 68 (0, 0))) := HBG.out _ ((Below.refl _ _).alloc (Nat.le_refl _) _) (heap_alloc_new _ _)
                  clear b0 b1 b2 HBG HC1 HC2 HAS1 HSM
                  generalize wc.alloc (.cells #[.slice none 0 0, .slice none 0 0, .slice none 0 0] 68) = wy at *
                  have b0 : wy.cell? ⟨w.heap.size, 0, none⟩ = some (.slice pA nA cA) := (by rw [HR0.out.bel.1.cell (p := ⟨w.heap.size, 0, none⟩) (heap_lt HX.out), cell_of_row _ _ _ _ _ _ HX.out]; rfl); have b1 : wy.cell? ⟨w.heap.size, 1, none⟩ = some (.slice pB nB cB) := (by rw [HR0.out.bel.1.cell (p := ⟨w.heap.size, 1, none⟩) (heap_lt HX.out), cell_of_row _ _ _ _ _ _ HX.out]; rfl); have b2 : wy.cell? ⟨w.heap.size, 2, none⟩ = some (.slice pC nC cC) := (by rw [HR0.out.bel.1.cell (p := ⟨w.heap.size, 2, none⟩) (heap_lt HX.out), cell_of_row _ _ _ _ _ _ HX.out]; rfl); have n0 : wy.cell? ⟨wc.heap.size, 0, none⟩ = some (.slice none 0 0) := (by rw [cell_of_row _ _ _ _ _ _ HR0.out.bel.2]; rfl); have n1 : wy.cell? ⟨wc.heap.size, 1, none⟩ = some (.slice none 0 0) := (by rw [cell_of_row _ _ _ _ _ _ HR0.out.bel.2]; rfl); have n2 : wy.cell? ⟨wc.heap.size, 2, none⟩ = some (.slice none 0 0) := (by rw [cell_of_row _ _ _ _ _ _ HR0.out.bel.2]; rfl)
                  go_wp2_with (first
                    | (go_at_call 31; refine (rd_turn0 HR0.out HT.out pA nA cA pB nB cB pC nC cC pA nA cA i (rA i) z (HA.out i).1 HZ.out (by omega) (by omega) (by omega) HBDA.out (by have := HTT.out; omega) (by omega) (by have := HAS.out.ct 0 (by omega); omega) rfl rfl).mono ?_; rintro e wt0 ⟨rfl, ht0⟩; have HR1 := hide ht0; clear ht0 HR0 b0 b1 b2 n0 n1 n2; have b0 : wt0.cell? ⟨w.heap.size, 0, none⟩ = some (.slice pA nA cA) := (by rw [HR1.out.bel.1.cell (p := ⟨w.heap.size, 0, none⟩) (heap_lt HX.out), cell_of_row _ _ _ _ _ _ HX.out]; rfl); have b1 : wt0.cell? ⟨w.heap.size, 1, none⟩ = some (.slice pB nB cB) := (by rw [HR1.out.bel.1.cell (p := ⟨w.heap.size, 1, none⟩) (heap_lt HX.out), cell_of_row _ _ _ _ _ _ HX.out]; rfl); have b2 : wt0.cell? ⟨w.heap.size, 2, none⟩ = some (.slice pC nC cC) := (by rw [HR1.out.bel.1.cell (p := ⟨w.heap.size, 2, none⟩) (heap_lt HX.out), cell_of_row _ _ _ _ _ _ HX.out]; rfl); have n0 : wt0.cell? ⟨wc.heap.size, 0, none⟩ = some (.slice none 0 0) := (by rw [cell_of_row _ _ _ _ _ _ HR1.out.bel.2]; rfl); have n1 : wt0.cell? ⟨wc.heap.size, 1, none⟩ = some (.slice none 0 0) := (by rw [cell_of_row _ _ _ _ _ _ HR1.out.bel.2]; rfl); have n2 : wt0.cell? ⟨wc.heap.size, 2, none⟩ = some (.slice none 0 0) := (by rw [cell_of_row _ _ _ _ _ _ HR1.out.bel.2]; rfl))
                    | (go_at_call 31; refine (rd_turn1 HR1.out HT.out none 0 0 none 0 0 none 0 0 pB nB cB i (rB i) (fun _ => 0) (HB.out i).1 (fun j hj => by omega) (by omega) (by omega) (by omega) HBDB.out (by have := HTT.out; omega) (by omega) (by have := HAS.out.ct 1 (by omega); omega) rfl rfl).mono ?_; rintro e wt1 ⟨rfl, ht1⟩; have HR2 := hide ht1; clear ht1 HR1 b0 b1 b2 n0 n1 n2; have b0 : wt1.cell? ⟨w.heap.size, 0, none⟩ = some (.slice pA nA cA) := (by rw [HR2.out.bel.1.cell (p := ⟨w.heap.size, 0, none⟩) (heap_lt HX.out), cell_of_row _ _ _ _ _ _ HX.out]; rfl); have b1 : wt1.cell? ⟨w.heap.size, 1, none⟩ = some (.slice pB nB cB) := (by rw [HR2.out.bel.1.cell (p := ⟨w.heap.size, 1, none⟩) (heap_lt HX.out), cell_of_row _ _ _ _ _ _ HX.out]; rfl); have b2 : wt1.cell? ⟨w.heap.size, 2, none⟩ = some (.slice pC nC cC) := (by rw [HR2.out.bel.1.cell (p := ⟨w.heap.size, 2, none⟩) (heap_lt HX.out), cell_of_row _ _ _ _ _ _ HX.out]; rfl); have n0 : wt1.cell? ⟨wc.heap.size, 0, none⟩ = some (.slice none 0 0) := (by rw [cell_of_row _ _ _ _ _ _ HR2.out.bel.2]; rfl); have n1 : wt1.cell? ⟨wc.heap.size, 1, none⟩ = some (.slice none 0 0) := (by rw [cell_of_row _ _ _ _ _ _ HR2.out.bel.2]; rfl); have n2 : wt1.cell? ⟨wc.heap.size, 2, none⟩ = some (.slice none 0 0) := (by rw [cell_of_row _ _ _ _ _ _ HR2.out.bel.2]; rfl))
                    | (go_at_call 31; refine (rd_turn2 HR2.out HT.out pA nA cA pB nB cB pC nC cC pA nA cA i (rA i) z (HA.out i).1 HZ.out (by omega) (by omega) (by omega) HBDA.out (by have := HTT.out; omega) (by omega) (by have := HAS.out.ct 2 (by omega); omega) rfl rfl).mono ?_; rintro e wt2 ⟨rfl, ht2⟩; have HR3 := hide ht2; clear ht2 HR2 b0 b1 b2 n0 n1 n2; have b0 : wt2.cell? ⟨w.heap.size, 0, none⟩ = some (.slice pA nA cA) := (by rw [HR3.out.bel.1.cell (p := ⟨w.heap.size, 0, none⟩) (heap_lt HX.out), cell_of_row _ _ _ _ _ _ HX.out]; rfl); have b1 : wt2.cell? ⟨w.heap.size, 1, none⟩ = some (.slice pB nB cB) := (by rw [HR3.out.bel.1.cell (p := ⟨w.heap.size, 1, none⟩) (heap_lt HX.out), cell_of_row _ _ _ _ _ _ HX.out]; rfl); have b2 : wt2.cell? ⟨w.heap.size, 2, none⟩ = some (.slice pC nC cC) := (by rw [HR3.out.bel.1.cell (p := ⟨w.heap.size, 2, none⟩) (heap_lt HX.out), cell_of_row _ _ _ _ _ _ HX.out]; rfl); have n0 : wt2.cell? ⟨wc.heap.size, 0, none⟩ = some (.slice none 0 0) := (by rw [cell_of_row _ _ _ _ _ _ HR3.out.bel.2]; rfl); have n1 : wt2.cell? ⟨wc.heap.size, 1, none⟩ = some (.slice none 0 0) := (by rw [cell_of_row _ _ _ _ _ _ HR3.out.bel.2]; rfl); have n2 : wt2.cell? ⟨wc.heap.size, 2, none⟩ = some (.slice none 0 0) := (by rw [cell_of_row _ _ _ _ _ _ HR3.out.bel.2]; rfl))
                    | (go_at_call 31; refine (rd_turn3 HR3.out HT.out none 0 0 none 0 0 none 0 0 pB nB cB i (rB i) (fun _ => 0) (HB.out i).1 (fun j hj => by omega) (by omega) (by omega) (by omega) HBDB.out (by have := HTT.out; omega) (by omega) (by have := HAS.out.ct 3 (by omega); omega) rfl rfl).mono ?_; rintro e wt3 ⟨rfl, ht3⟩; have HR4 := hide ht3; clear ht3 HR3 b0 b1 b2 n0 n1 n2; have b0 : wt3.cell? ⟨w.heap.size, 0, none⟩ = some (.slice pA nA cA) := (by rw [HR4.out.bel.1.cell (p := ⟨w.heap.size, 0, none⟩) (heap_lt HX.out), cell_of_row _ _ _ _ _ _ HX.out]; rfl); have b1 : wt3.cell? ⟨w.heap.size, 1, none⟩ = some (.slice pB nB cB) := (by rw [HR4.out.bel.1.cell (p := ⟨w.heap.size, 1, none⟩) (heap_lt HX.out), cell_of_row _ _ _ _ _ _ HX.out]; rfl); have b2 : wt3.cell? ⟨w.heap.size, 2, none⟩ = some (.slice pC nC cC) := (by rw [HR4.out.bel.1.cell (p := ⟨w.heap.size, 2, none⟩) (heap_lt HX.out), cell_of_row _ _ _ _ _ _ HX.out]; rfl); have n0 : wt3.cell? ⟨wc.heap.size, 0, none⟩ = some (.slice none 0 0) := (by rw [cell_of_row _ _ _ _ _ _ HR4.out.bel.2]; rfl); have n1 : wt3.cell? ⟨wc.heap.size, 1, none⟩ = some (.slice none 0 0) := (by rw [cell_of_row _ _ _ _ _ _ HR4.out.bel.2]; rfl); have n2 : wt3.cell? ⟨wc.heap.size, 2, none⟩ = some (.slice none 0 0) := (by rw [cell_of_row _ _ _ _ _ _ HR4.out.bel.2]; rfl)))
                  go_roundw
                  case rel => exact ⟨L', i + 1, rfl, by simp, HAS2.out.next hk4 (by have := HTT.out; omega) (by have := HTT.out; omega) HR4.out⟩
                  case measure => simp [intOf]; omega
          · have hk4' : ¬ (i : Int) < 40 := by omega
            go_wp2_with fail
            go_meet
            case rel => exact ⟨bf, cf, L, i, HAS.out⟩
        · have hk' : ¬ (i : Int) < (nA : Int) + (nB : Int) := by omega
          go_wp2_with fail
          go_meet
          case rel => exact ⟨bf, cf, L, i, HAS.out⟩
  case rest =>
    obtain ⟨bf, cf, L, i, hS⟩ := hcut.out
    have H0 := hide hS.rdn.1
    have HLN := hide hS.rdn.2
    have HEQ : Hid ((bf 0 = bf 2 ∧ bf 1 = bf 3) ∧ cf 0 = cf 2 ∧ cf 1 = cf 3) := ⟨⟨hS.b1, hS.b2⟩, hS.c1, hS.c2⟩
    obtain ⟨c0, hc0⟩ : ∃ x, cf 0 = x := ⟨_, rfl⟩
    obtain ⟨c1, hc1⟩ : ∃ x, cf 1 = x := ⟨_, rfl⟩
    have HC01 : Hid (cf 0 = c0 ∧ cf 1 = c1 ∧ cf 2 = c0 ∧ cf 3 = c1) := ⟨hc0, hc1, hS.c1 ▸ hc0, hS.c2 ▸ hc1⟩
    have HEND : Hid (∀ wx, Below w0.heap.size w0 wx → Calls Tryd.prog 11 #[] wx fun e w' => e = .returned (.bool true) ∧ Below w.heap.size w w') := fun wx hB => by
      refine (works_any wx (HT.out.below hB)).mono ?_
      rintro e w' ⟨rfl, hB2⟩
      have h3 : Below w0.heap.size w0 w' := hB.trans (hB2.mono hB.size)
      exact ⟨rfl, HB0.out.trans (h3.mono HB0.out.size)⟩
    clear hcut hS hc0 hc1
    go_wp2_with (first
      | (go_at_call 24; refine (rdn_read0 H0.out).mono ?_; rintro e wr0 ⟨v0, rfl, h⟩; have HR0 := hide h; clear h H0)
      | (go_at_call 24; refine (rdn_read1 HR0.out).mono ?_; rintro e wr1 ⟨v1, rfl, h⟩; have HR1 := hide h; clear h HR0)
      | (go_at_call 24; refine (rdn_read2 HR1.out).mono ?_; rintro e wr2 ⟨v2, rfl, h⟩; have HR2 := hide h; clear h HR1)
      | (go_at_call 24; refine (rdn_read3 HR2.out).mono ?_; rintro e wr3 ⟨v3, rfl, h⟩; have HR3 : Hid (Rdn w0 wr3 (D3 d c b) (LB l0 l1 l2 l3) bf cf [(v0, bf 0), (v1, bf 1), (v2, bf 2), (v3, bf 3)]) := h; clear h HR2)
      | (go_at_call 27; refine (eq_same v0 v2 (bf 0) _ (HR3.out.by_ (x := (v0, bf 0)) (by simp)) (by rw [HEQ.out.1.1]; exact HR3.out.by_ (x := (v2, bf 2)) (by simp)) (by have := HLN.out 0 (by omega); omega)).mono ?_; rintro e we ⟨rfl, N1, hN1⟩; have HE1 : Hid (Rdn w0 we (D3 d c b) (LB l0 l1 l2 l3) bf cf [(v0, bf 0), (v1, bf 1), (v2, bf 2), (v3, bf 3)]) := HR3.out.below (by rw [hN1]; exact below_drewN (Below.refl _ _) N1); clear hN1 HR3)
      | (go_at_call 27; refine (eq_same v1 v3 (bf 1) _ (HE1.out.by_ (x := (v1, bf 1)) (by simp)) (by rw [HEQ.out.1.2]; exact HE1.out.by_ (x := (v3, bf 3)) (by simp)) (by have := HLN.out 1 (by omega); omega)).mono ?_; rintro e wf ⟨rfl, N2, hN2⟩; have HE2 : Hid (Rdn w0 wf (D3 d c b) (LB l0 l1 l2 l3) bf cf [(v0, bf 0), (v1, bf 1), (v2, bf 2), (v3, bf 3)]) := HE1.out.below (by rw [hN2]; exact below_drewN (Below.refl _ _) N2); clear hN2 HE1; have HK0 : Hid (Lg wf l0 d nmJ (bf 0).length c0) := (HC01.out.1 ▸ HE2.out.lg (t := 0) (by omega)); have HK1 : Hid (Lg wf l1 d nmK (bf 1).length c1) := (HC01.out.2.1 ▸ HE2.out.lg (t := 1) (by omega)); have HK2 : Hid (Lg wf l2 c nmJ (bf 2).length c0) := (HC01.out.2.2.1 ▸ HE2.out.lg (t := 2) (by omega)); have HK3 : Hid (Lg wf l3 b nmK (bf 3).length c1) := (HC01.out.2.2.2 ▸ HE2.out.lg (t := 3) (by omega)))
      | (go_at_call 22; refine (lcount_any _ HK0.out).mono ?_; rintro e wn ⟨rfl, hwn⟩; have hwn2 := hwn.symm; subst hwn2; clear HK0)
      | (go_at_call 22; refine (lcount_any _ HK2.out).mono ?_; rintro e wn ⟨rfl, hwn⟩; have hwn2 := hwn.symm; subst hwn2; clear HK2)
      | (go_at_call 22; refine (lcount_any _ HK1.out).mono ?_; rintro e wn ⟨rfl, hwn⟩; have hwn2 := hwn.symm; subst hwn2; clear HK1)
      | (go_at_call 22; refine (lcount_any _ HK3.out).mono ?_; rintro e wn ⟨rfl, hwn⟩; have hwn2 := hwn.symm; subst hwn2; clear HK3)
      | (go_at_call 11; refine (HEND.out _ HE2.out.bel).mono ?_; rintro e w9 ⟨rfl, hB9⟩; have H9 := hide hB9; clear hB9))
    go_ret
    exact ⟨rfl, H9.out⟩

end Go.Proofs.YtpecgmcalbojcaaDoor

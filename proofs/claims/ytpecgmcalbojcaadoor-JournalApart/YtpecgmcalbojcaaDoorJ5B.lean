/- A turn of a log: its record, and whether it is cleared behind it. -/
import Derived.Test.YtpecgmcalbojcaaDoorJ5A
namespace Go.Proofs.YtpecgmcalbojcaaDoor
open Go.RowKit
set_option linter.unusedVariables false
set_option linter.unusedSimpArgs false

/-- Is the log cleared behind its i-th record, by one of the first k numbers? -/
def clr (z : Nat → Int) (i : Nat) (k : Nat) : Bool := (List.range k).any fun j => z j == (i : Int)
theorem clr_succ (z : Nat → Int) (i k : Nat) : clr z i (k + 1) = (clr z i k || z k == (i : Int)) := by simp [clr, List.range_succ]
def IntsFn (W : World) (p : Option Addr) (n : Nat) (z : Nat → Int) : Prop := ∀ j, j < n → ∃ b o, p = some ⟨b, o, none⟩ ∧ W.cell? ⟨b, o + j, none⟩ = some (.int .i64 (z j))
/-- The i-th of rows of rows of bytes, as it is copied. -/
def RowFn (W : World) (p : Option Addr) (i : Nat) (rs : List (List Nat)) : Prop := ∃ (b o : Nat) (pe : Option Addr) (ne ce : Nat) (q : Nat → List Nat), p = some ⟨b, o, none⟩ ∧ W.cell? ⟨b, o + i, none⟩ = some (.slice pe ne ce) ∧ ne ≤ 140737488355328 ∧ PartsOf W pe ne q ∧ (∀ j, j < ne → (q j).length ≤ 140737488355328 ∧ ∀ x ∈ q j, x < 256) ∧ rs = (List.range (min ne 300)).map q

set_option maxRecDepth 100000 in
set_option maxHeartbeats 4000000 in
theorem turn_any {W w : World} {d l : Nat} {p : PS} {F : Nat → Prop} {nm : ByteArray} {bs : List Nat} {ct : Nat} (hO : One W w d l p F nm bs ct) (hs : okN nm) (hT : TabC W) (pA : Option Addr) (nA cA : Nat) (pB : Option Addr) (nB cB : Nat) (pC : Option Addr) (nC cC : Nat) (pr : Option Addr) (nr cr i : Nat) (rs : List (List Nat)) (z : Nat → Int) (hr : i < nr → RowFn W pr i rs) (hz : IntsFn W pC nC z) (hi : i ≤ 100) (hnr : nr ≤ 140737488355328) (hnC : nC ≤ 140737488355328) (hbody : (bodyB rs).length ≤ 65536) (hA : Con.tot p.con + (recB rs).length ≤ 268435456) (hw : p.wr ≤ 50000) (hct : ct ≤ 50000) :
    Calls Tryd.prog 31 #[.agg #[.slice pA nA cA, .slice pB nB cB, .slice pC nC cC], .pointer (some ⟨l, 0, none⟩), .slice pr nr cr, .int .i64 (i : Int)] w fun e w' => e = .returned (.bool true) ∧ ∃ p' F', Stp W w w' d l p F p' F' nm (if clr z i (min nC 20) then headB else if i < nr then bs ++ recB rs else bs) (if clr z i (min nC 20) then 0 else if i < nr then ct + 1 else ct) (recB rs).length 22 := by
  obtain ⟨BR, hBR⟩ : ∃ x, (if clr z i (min nC 20) then headB else if i < nr then bs ++ recB rs else bs) = x := ⟨_, rfl⟩
  obtain ⟨CR, hCR⟩ : ∃ x, (if clr z i (min nC 20) then 0 else if i < nr then ct + 1 else ct) = x := ⟨_, rfl⟩
  rw [hBR, hCR]
  have HBR := hide hBR
  have HCR := hide hCR
  clear hBR hCR
  have HX : Hid ((w.alloc (.cells #[.slice pA nA cA, .slice pB nB cB, .slice pC nC cC] 68)).heap[w.heap.size]? = some (.cells #[.slice pA nA cA, .slice pB nB cB, .slice pC nC cC] 68 (0, 0))) := heap_alloc_new _ _
  have HB0 : Hid (Below w.heap.size w (w.alloc (.cells #[.slice pA nA cA, .slice pB nB cB, .slice pC nC cC] 68))) := (Below.refl _ _).alloc (Nat.le_refl _) _
  have HO : Hid (One W (w.alloc (.cells #[.slice pA nA cA, .slice pB nB cB, .slice pC nC cC] 68)) d l p F nm bs ct) := hO.below HB0.out
  have HNF : Hid (¬ F w.heap.size) := fun e => by have := hO.di.lt _ e; omega
  have HNL : Hid (w.heap.size ≠ l) := fun e => by have := heap_lt hO.lg; omega
  have HZ := hide hz
  have HR := hide hr
  have HT := hide hT
  have HP : Hid (Con.tot p.con + (recB rs).length ≤ 268435456 ∧ p.wr ≤ 50000) := ⟨hA, hw⟩
  have HBO := hide hbody
  clear hO hz hr hT hA hbody
  go_enter Tryd.func31, Tryd.ntmps31
  go_upto_region 1 with fail
  generalize w.alloc (.cells #[.slice pA nA cA, .slice pB nB cB, .slice pC nC cC] 68) = w0 at *
  by_cases hir : i < nr
  · have hir' : (i : Int) < (nr : Int) := by omega
    obtain ⟨gL, oL, pe, ne, ce, q, hpL, hcL, hne, hPq, hq, hrs⟩ := HR.out hir
    have hcL2 : w0.cell? ⟨gL, oL + i, none⟩ = some (.slice pe ne ce) := by rw [HO.out.bel.cell (p := ⟨gL, oL + i, none⟩) (block_lt_of_cell hcL)]; exact hcL
    have HCP : Hid (∀ wx, Below w0.heap.size w0 wx → Calls Tryd.prog 15 #[.slice pe ne ce] wx fun e w' => ∃ v, e = .returned v ∧ RowsAt w' wx.heap.size w'.heap.size v rs ∧ Below wx.heap.size wx w') := fun wx hb => by
      rw [hrs]
      exact copied_any pe ne ce q wx (hPq.below (HO.out.bel.trans (hb.mono HO.out.bel.size))) (fun i hi => (hq i hi).1) hne
    have HRS : Hid (rs.length ≤ 300 ∧ ∀ r ∈ rs, ∀ x ∈ r, x < 256) := by
      rw [hrs]
      refine ⟨by simp; omega, fun r hr => ?_⟩
      obtain ⟨j, hj, rfl⟩ := List.mem_map.1 hr
      exact (hq j (by have := List.mem_range.1 hj; omega)).2
    subst hpL
    clear hcL hPq hq hrs hne HR
    go_wp2_with (first
      | (go_at_call 15; refine (HCP.out _ (by first | exact Below.refl _ _ | (apply below_drewN (Below.refl _ _)) | (exact ((Below.refl _ _).drew)))).mono ?_; rintro e w3 ⟨v3, rfl, hR3, hB3⟩; have HR3 := hide (And.intro hR3 hB3); obtain ⟨p3, c3, hv3, -⟩ := hR3.a; obtain ⟨m3, hm3⟩ : ∃ m, rs.length = m := ⟨_, rfl⟩; rw [hm3] at hv3; subst hv3; have HM := hide hm3; clear hR3 hB3 HCP hm3)
      | (go_at_call 17; refine (one_append (HO.out.below HR3.out.2) hs HT.out p3 m3 c3 rs HR3.out.1.a HRS.out.2 ⟨by have := HRS.out.1; omega, by have := HBO.out; omega⟩ HP.out.1 (by have := HP.out.2; omega) (by omega)).mono ?_; rintro e w4 ⟨rfl, p4, F4, h4⟩; have HS : Hid (∃ p' F', Stp W w0 w4 d l p F p' F' nm (if clr z i 0 then headB else bs ++ recB rs) (if clr z i 0 then 0 else ct + 1) (recB rs).length (2 + 0)) := ⟨p4, F4, h4.after HR3.out.2⟩; clear h4 HR3)
      | (go_at_call 10; refine (num_any _ _).mono ?_; rintro e wn ⟨rfl, hwn⟩; have hwn2 := hwn.symm; subst hwn2))
    go_loopw [9] (fun t9 wr => ∃ k : Nat, t9 = .int .i64 (k : Int) ∧ k ≤ 20 ∧ k ≤ nC ∧ Hid (∃ p' F', Stp W w0 wr d l p F p' F' nm (if clr z i k then headB else bs ++ recB rs) (if clr z i k then 0 else ct + 1) (recB rs).length (2 + k))) (fun t9 _ => 20 - (intOf t9).toNat)
    case atStart => exact ⟨0, rfl, by omega, by omega, HS.out⟩
    case round =>
      obtain ⟨k, rfl, hk20, hkn, hI⟩ := hrel
      obtain ⟨p1, F1, h1⟩ := hI.out
      have H1 := hide h1
      have c2 : wr.cell? ⟨w.heap.size, 2, none⟩ = some (.slice pC nC cC) := by
        rw [cell_of_row _ _ _ _ _ _ (((h1.fx.block w.heap.size (heap_lt HX.out) HNF.out).2 HNL.out).trans HX.out)]; rfl
      clear h1 hI
      by_cases hjC : k < nC
      · have hjC' : (k : Int) < (nC : Int) := by omega
        by_cases hj2 : k < 20
        · have hj2' : (k : Int) < 20 := by omega
          obtain ⟨gC, oC, hpC, hcC⟩ := HZ.out k hjC
          have hcC2 : wr.cell? ⟨gC, oC + k, none⟩ = some (.int .i64 (z k)) := by rw [H1.out.one.bel.cell (p := ⟨gC, oC + k, none⟩) (block_lt_of_cell hcC)]; exact hcC
          have hcs := clr_succ z i k
          subst hpC
          clear hcC
          by_cases hzk : z k = (i : Int)
          · have hcs1 : clr z i (k + 1) = true := by rw [hcs, hzk]; simp
            have HCS := hide hcs1
            have hw7 : p1.wr ≤ 100000 := by have := H1.out.wr; have := HP.out.2; omega
            have HCL := hide (one_clear H1.out.one hs hw7)
            rw [hzk] at hcC2
            clear hw7 hcs hcs1
            go_wp2_with (first | (go_at_call 18; refine HCL.out.mono ?_; rintro e w8 ⟨rfl, p8, F8, k8⟩; have H8 := hide k8; clear k8) | (go_at_call 10; refine (num_any _ _).mono ?_; rintro e wn ⟨rfl, hwn⟩; have hwn2 := hwn.symm; subst hwn2))
            go_roundw
            case rel => exact ⟨k + 1, by simp, by omega, by omega, p8, F8, (by rw [HCS.out]; simp only [if_true]; exact (H1.out.trans H8.out).more (by omega) (by omega))⟩
            case measure => simp [intOf]; omega
          · have hcs1 : clr z i (k + 1) = clr z i k := by rw [hcs]; simp [hzk]
            have HCS := hide hcs1
            clear hcs hcs1
            go_wp2_with fail
            go_roundw
            case rel => exact ⟨k + 1, by simp, by omega, by omega, p1, F1, (by rw [HCS.out]; exact H1.out.more (by omega) (by omega))⟩
            case measure => simp [intOf]; omega
        · have hj2' : ¬ (k : Int) < 20 := by omega
          have hm : min nC 20 = k := by omega
          have HM := hide hm
          clear hm
          go_wp2_with fail
          go_ret
          exact ⟨rfl, p1, F1, (by rw [← HBR.out, ← HCR.out, HM.out]; simp only [if_pos hir]; exact (H1.out.after HB0.out).more (by omega) (by omega))⟩
      · have hjC' : ¬ (k : Int) < (nC : Int) := by omega
        have hm : min nC 20 = k := by omega
        have HM := hide hm
        clear hm
        go_wp2_with fail
        go_ret
        exact ⟨rfl, p1, F1, (by rw [← HBR.out, ← HCR.out, HM.out]; simp only [if_pos hir]; exact (H1.out.after HB0.out).more (by omega) (by omega))⟩
  · have hir' : ¬ (i : Int) < (nr : Int) := by omega
    have HS : Hid (∃ p' F', Stp W w0 w0 d l p F p' F' nm (if clr z i 0 then headB else bs) (if clr z i 0 then 0 else ct) (recB rs).length (2 + 0)) := ⟨p, F, (Stp.refl HO.out).more (by omega) (by omega)⟩
    clear HR
    go_wp2_with fail
    go_loopw [9] (fun t9 wr => ∃ k : Nat, t9 = .int .i64 (k : Int) ∧ k ≤ 20 ∧ k ≤ nC ∧ Hid (∃ p' F', Stp W w0 wr d l p F p' F' nm (if clr z i k then headB else bs) (if clr z i k then 0 else ct) (recB rs).length (2 + k))) (fun t9 _ => 20 - (intOf t9).toNat)
    case atStart => exact ⟨0, rfl, by omega, by omega, HS.out⟩
    case round =>
      obtain ⟨k, rfl, hk20, hkn, hI⟩ := hrel
      obtain ⟨p1, F1, h1⟩ := hI.out
      have H1 := hide h1
      have c2 : wr.cell? ⟨w.heap.size, 2, none⟩ = some (.slice pC nC cC) := by
        rw [cell_of_row _ _ _ _ _ _ (((h1.fx.block w.heap.size (heap_lt HX.out) HNF.out).2 HNL.out).trans HX.out)]; rfl
      clear h1 hI
      by_cases hjC : k < nC
      · have hjC' : (k : Int) < (nC : Int) := by omega
        by_cases hj2 : k < 20
        · have hj2' : (k : Int) < 20 := by omega
          obtain ⟨gC, oC, hpC, hcC⟩ := HZ.out k hjC
          have hcC2 : wr.cell? ⟨gC, oC + k, none⟩ = some (.int .i64 (z k)) := by rw [H1.out.one.bel.cell (p := ⟨gC, oC + k, none⟩) (block_lt_of_cell hcC)]; exact hcC
          have hcs := clr_succ z i k
          subst hpC
          clear hcC
          by_cases hzk : z k = (i : Int)
          · have hcs1 : clr z i (k + 1) = true := by rw [hcs, hzk]; simp
            have HCS := hide hcs1
            have hw7 : p1.wr ≤ 100000 := by have := H1.out.wr; have := HP.out.2; omega
            have HCL := hide (one_clear H1.out.one hs hw7)
            rw [hzk] at hcC2
            clear hw7 hcs hcs1
            go_wp2_with (first | (go_at_call 18; refine HCL.out.mono ?_; rintro e w8 ⟨rfl, p8, F8, k8⟩; have H8 := hide k8; clear k8) | (go_at_call 10; refine (num_any _ _).mono ?_; rintro e wn ⟨rfl, hwn⟩; have hwn2 := hwn.symm; subst hwn2))
            go_roundw
            case rel => exact ⟨k + 1, by simp, by omega, by omega, p8, F8, (by rw [HCS.out]; simp only [if_true]; exact (H1.out.trans H8.out).more (by omega) (by omega))⟩
            case measure => simp [intOf]; omega
          · have hcs1 : clr z i (k + 1) = clr z i k := by rw [hcs]; simp [hzk]
            have HCS := hide hcs1
            clear hcs hcs1
            go_wp2_with fail
            go_roundw
            case rel => exact ⟨k + 1, by simp, by omega, by omega, p1, F1, (by rw [HCS.out]; exact H1.out.more (by omega) (by omega))⟩
            case measure => simp [intOf]; omega
        · have hj2' : ¬ (k : Int) < 20 := by omega
          have hm : min nC 20 = k := by omega
          have HM := hide hm
          clear hm
          go_wp2_with fail
          go_ret
          exact ⟨rfl, p1, F1, (by rw [← HBR.out, ← HCR.out, HM.out]; simp only [if_neg hir]; exact (H1.out.after HB0.out).more (by omega) (by omega))⟩
      · have hjC' : ¬ (k : Int) < (nC : Int) := by omega
        have hm : min nC 20 = k := by omega
        have HM := hide hm
        clear hm
        go_wp2_with fail
        go_ret
        exact ⟨rfl, p1, F1, (by rw [← HBR.out, ← HCR.out, HM.out]; simp only [if_neg hir]; exact (H1.out.after HB0.out).more (by omega) (by omega))⟩

end Go.Proofs.YtpecgmcalbojcaaDoor

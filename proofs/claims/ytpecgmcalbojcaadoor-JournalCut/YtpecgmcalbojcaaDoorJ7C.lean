/- JournalCut: the walk. -/
import Derived.Test.YtpecgmcalbojcaaDoorJ7B
namespace Go.Proofs.YtpecgmcalbojcaaDoor
open Go.RowKit
set_option linter.unusedVariables false
set_option linter.unusedSimpArgs false

set_option maxRecDepth 100000 in
theorem within11_any (x : Int) (m : Nat) (w : World) (h1 : -9223372036854775808 ≤ x) (h2 : x ≤ 9223372036854775807) (hm : 0 < m) (hm2 : m ≤ 1000000000) : Calls Tryd.prog 25 #[.int .i64 x, .int .i64 (m : Int)] w fun e w' => ∃ n : Nat, e = .returned (.int .i64 (n : Int)) ∧ n < m ∧ w' = w := by
  obtain ⟨r, hr⟩ : ∃ r : Int, r = Int.tmod x (m : Int) := ⟨_, rfl⟩
  have r1 : -(m : Int) < r := by rw [hr]; have := Int.lt_tmod_of_pos x (show (0 : Int) < (m : Int) by omega); omega
  have r2 : r < (m : Int) := by rw [hr]; have := Int.tmod_lt_of_pos x (show (0 : Int) < (m : Int) by omega); omega
  have e1 : Int.tmod x (m : Int) = r := hr.symm
  have hm0 : ¬ (m : Int) = 0 := by omega
  have hm1 : ¬ (m : Int) = -1 := by omega
  clear hr
  by_cases h0 : r < 0
  · have e2 : Hid (r + (m : Int) = ((r + (m : Int)).toNat : Int)) := by show _ = _; omega
    go_enter Tryd.func25, Tryd.ntmps25
    go_wp2_with fail
    go_ret
    exact ⟨(r + (m : Int)).toNat, by rw [← e2.out]; rfl, by omega, rfl⟩
  · have e2 : Hid (r = (r.toNat : Int)) := by show _ = _; omega
    go_enter Tryd.func25, Tryd.ntmps25
    go_wp2_with fail
    go_ret
    exact ⟨r.toNat, by rw [← e2.out]; rfl, by omega, rfl⟩

theorem own_cap {w : World} {B : Nat} {e : TypeId} {p : Option Addr} {m c n : Nat} {xs : List Value} (h : w.ownsRow B e 1 (.slice p m c) n xs) : n ≤ c ∧ (p = none → c = 0) := by
  rcases h.2 with ⟨e1, e2⟩ | ⟨g', cap, cur, e1, _, _, e4, _⟩
  · simp only [Value.slice.injEq] at e1
    exact ⟨by omega, fun _ => e1.2.2⟩
  · simp only [Value.slice.injEq] at e1
    exact ⟨by omega, fun e => by rw [e] at e1; simp at e1⟩

set_option maxRecDepth 100000 in
set_option maxHeartbeats 8000000 in
theorem journalCut_any (pL : Option Addr) (nL cL : Nat) (zA zC zB : Int) (w : World) (hL : RowsIn w pL nL) (hnL : nL ≤ 140737488355328) (hz1 : -9223372036854775808 ≤ zC) (hz2 : zC ≤ 9223372036854775807) (hT : TabC w) :
    Calls Tryd.prog 4 #[.agg #[.slice pL nL cL, .int .i64 zA, .int .i64 zC, .int .u8 zB]] w fun e w' => e = .returned (.bool true) ∧ Below w.heap.size w w' := by
  have HX : Hid ((w.alloc (.cells #[.slice pL nL cL, .int .i64 zA, .int .i64 zC, .int .u8 zB] 50)).heap[w.heap.size]? = some (.cells #[.slice pL nL cL, .int .i64 zA, .int .i64 zC, .int .u8 zB] 50 (0, 0))) := heap_alloc_new _ _
  have HB0 : Hid (Below w.heap.size w (w.alloc (.cells #[.slice pL nL cL, .int .i64 zA, .int .i64 zC, .int .u8 zB] 50))) := (Below.refl _ _).alloc (Nat.le_refl _) _
  have HL : Hid (RowsIn (w.alloc (.cells #[.slice pL nL cL, .int .i64 zA, .int .i64 zC, .int .u8 zB] 50)) pL nL) := fun i hi => by
    obtain ⟨b, o, pe, ne, ce, q, h1, h2, h3, h4, h5⟩ := hL i hi
    exact ⟨b, o, pe, ne, ce, q, h1, by rw [HB0.out.cell (p := ⟨b, o + i, none⟩) (World.block_lt_of_cell? _ _ h2)]; exact h2, h3, h4.below HB0.out, h5⟩
  have HT : Hid (TabC (w.alloc (.cells #[.slice pL nL cL, .int .i64 zA, .int .i64 zC, .int .u8 zB] 50))) := hT.below HB0.out
  clear hL hT
  go_enter Tryd.func4, Tryd.ntmps4
  go_upto_region 1 with fail
  generalize w.alloc (.cells #[.slice pL nL cL, .int .i64 zA, .int .i64 zC, .int .u8 zB] 50) = w0 at *
  have b0 : w0.cell? ⟨w.heap.size, 0, none⟩ = some (.slice pL nL cL) := by rw [cell_of_row _ _ _ _ _ _ HX.out]; rfl
  have HEND : Hid (∀ wx, Below w0.heap.size w0 wx → Calls Tryd.prog 11 #[] wx fun e w' => e = .returned (.bool true) ∧ Below w.heap.size w w') := fun wx hB => by
    refine (works_any wx (HT.out.below hB)).mono ?_
    rintro e w' ⟨rfl, hB2⟩
    have h3 : Below w0.heap.size w0 w' := hB.trans (hB2.mono hB.size)
    exact ⟨rfl, HB0.out.trans (h3.mono HB0.out.size)⟩
  go_upto_region 5 with (first
    | (go_at_call 10; refine (num_any _ _).mono ?_; rintro e wn ⟨rfl, hwn⟩; have hwn2 := hwn.symm; subst hwn2)
    | (go_at_call 23; refine (laid11_any w0 pL nL cL w0 (Below.refl _ _) HL.out hnL HT.out).mono ?_; rintro e w1 ⟨d, l, A, L, kk, pw, nw, cw, pp, np, cp, rfl, p1, F1, vals, rr, hnw, hnp, hS⟩; have H1 := hide hS.fl; have HOK : Hid ((∀ r ∈ rr, Okr r) ∧ rr.length ≤ 30 ∧ (∀ r ∈ rr, r.length ≤ 1000000 ∧ ∀ x ∈ r, x.length ≤ 140737488355328) ∧ (headB ++ recsB rr).length ≤ 100000) := ⟨hS.log.okr, by have := hS.len; have := hS.k1; omega, hS.few, by have := hS.log.alen; have := hS.a1; have := hS.k1; have := hS.l1; omega⟩; have HNW := hide hnw; have HNP := hide hnp; clear hnw hnp hS b0)
    | (go_at_call 11; refine (works_any _ (HT.out.below H1.out.1.bel)).mono ?_; rintro e w2 ⟨rfl, hB2⟩; have H2 : Hid (Fl w0 w2 d p1 F1 (headB ++ recsB rr) 100 ∧ Kp w0 w2 F1 (.slice pw nw cw) rr (.slice pp np cp) [] []) := ⟨H1.out.1.below hB2, H1.out.2.fr (Fr.of_below hB2)⟩; clear hB2 H1)
    | (go_at_call 24; refine (fl_read H2.out.1).mono ?_; rintro e w3 ⟨pv, cv, N, rfl, hN, k1, k2, k3, k4⟩; have HN : Hid ((headB ++ recsB rr).length = N) := hN.symm; have hN6 : N ≤ 100000 := (by rw [hN]; exact HOK.out.2.2.2); clear hN; have H3 : Hid (Fl w0 w3 d p1 F1 (headB ++ recsB rr) 100 ∧ Kp w0 w3 F1 (.slice pw nw cw) rr (.slice pp np cp) [(.slice pv N cv, headB ++ recsB rr)] []) := ⟨k1, { H2.out.2.fr k2 with byt := fun x hx => by rw [List.mem_singleton.1 hx]; exact k3 }⟩; have HCV := hide k4; clear k1 k2 k3 k4 H2))
  have b2 : w3.cell? ⟨w.heap.size, 2, none⟩ = some (.int .i64 zC) := by
    rw [H3.out.1.bel.cell (p := ⟨w.heap.size, 2, none⟩) (heap_lt HX.out), cell_of_row _ _ _ _ _ _ HX.out]; rfl
  go_upto_region 8 with (first
    | (go_at_call 10; refine (num_any _ _).mono ?_; rintro e wn ⟨rfl, hwn⟩; have hwn2 := hwn.symm; subst hwn2)
    | (go_at_call 25; refine (within11_any zC (N + 1) _ hz1 hz2 (by omega) (by omega)).mono ?_; rintro e wn ⟨n, rfl, hnN, hwn⟩; have hwn2 := hwn.symm; subst hwn2; obtain ⟨k0, hk0⟩ := whole_of rr n; have HK := hide hk0; clear hk0)
    | (go_at_call 26; refine (fl_cut H3.out.1 (by omega) n (by rw [HN.out]; omega)).mono ?_; rintro e w4 ⟨rfl, p4, F4, k1, k2⟩; have H4 : Hid (Fl w0 w4 d p4 F4 ((headB ++ recsB rr).take n) 101 ∧ Kp w0 w4 F4 (.slice pw nw cw) rr (.slice pp np cp) [(.slice pv N cv, headB ++ recsB rr)] []) := ⟨k1, H3.out.2.fr k2⟩; clear k1 k2 H3 b2))
  go_upto_block 0 with (first
    | (go_at_call 12; refine (fl_open H4.out.1 (by omega) HT.out HOK.out.1 (by rw [HN.out]; omega) HK.out).mono ?_; rintro e w5 ⟨l2, vg, rfl, p5, F5, k1, k2, k3⟩; have H5 : Hid (Fl w0 w5 d p5 F5 (headB ++ recsB (rr.take k0)) 104 ∧ Kp w0 w5 F5 (.slice pw nw cw) rr (.slice pp np cp) [(.slice pv N cv, headB ++ recsB rr)] [(vg, rr.take k0)]) := ⟨k1, { H4.out.2.fr k2 with got := fun x hx => by rw [List.mem_singleton.1 hx]; exact k3 }⟩; clear k1 k2 k3 H4)
    | (go_at_call 24; refine (fl_read H5.out.1).mono ?_; rintro e w6 ⟨pn, cn, M, rfl, hM, k1, k2, k3, k4⟩; have HM : Hid ((headB ++ recsB (rr.take k0)).length = M) := hM.symm; clear hM; have H6 : Hid (Below w0.heap.size w0 w6 ∧ Kp w0 w6 F5 (.slice pw nw cw) rr (.slice pp np cp) [(.slice pn M cn, headB ++ recsB (rr.take k0)), (.slice pv N cv, headB ++ recsB rr)] [(vg, rr.take k0)]) := ⟨k1.bel, { H5.out.2.fr k2 with byt := fun x hx => by rcases List.mem_cons.1 hx with rfl | hx; exact k3; exact (H5.out.2.fr k2).byt x hx }⟩; clear k1 k2 k3 k4 H5))
  obtain ⟨gp, hcp, epp, HPL⟩ : ∃ g c, Value.slice pp np cp = .slice (some ⟨g, 0, none⟩) np c ∧ ∀ i, i ≤ rr.length → w6.cell? ⟨g, i, none⟩ = some (.int .i64 ((pl rr i : Nat) : Int)) := by
    obtain ⟨g, c, e, h⟩ := plc_at H6.out.2.plc
    exact ⟨g, c, by rw [HNP.out]; rw [HNP.out] at e; exact e, h⟩
  simp only [Value.slice.injEq, true_and] at epp
  obtain ⟨rfl, rfl⟩ := epp
  have HPL := hide HPL
  have hr30 : rr.length ≤ 30 := HOK.out.2.1
  have hk30 : k0 ≤ rr.length := HK.out.le
  obtain ⟨R, hR⟩ : ∃ R, rr.length = R := ⟨_, rfl⟩
  rw [hR] at hr30 hk30 HPL HNP HNW
  have HRR := hide hR
  clear hR
  have hnp : np = R + 1 := HNP.out
  have hnw : nw = R := HNW.out
  subst hnp
  subst hnw
  have HPB : Hid (∀ i, i ≤ nw → pl rr i ≤ N) := fun i hi => by
    have h1 := pl_mono rr rr.length i (by rw [HRR.out]; exact hi) (Nat.le_refl _)
    have h2 : pl rr rr.length = (headB ++ recsB rr).length := by unfold pl; rw [List.take_length, List.length_append]; rfl
    rw [h2, HN.out] at h1
    exact h1
  go_cut [14] from 14 (fun t14 wc => t14 = .int .i64 (k0 : Int) ∧ w6 = wc)
  case first =>
    as_aux_lemma =>
      go_wp2_with fail
      go_loopw [14] (fun t14 wr => ∃ k : Nat, t14 = .int .i64 (k : Int) ∧ wr = w6 ∧ k ≤ k0) (fun t14 _ => 40 - (intOf t14).toNat)
      case atStart => exact ⟨0, rfl, rfl, by omega⟩
      case round =>
        obtain ⟨k, rfl, rfl, hkk⟩ := hrel
        by_cases hk1 : k + 1 < nw + 1
        · have hk1' : (k : Int) + 1 < (nw : Int) + 1 := by omega
          have hcp2 := HPL.out (k + 1) (by omega)
          obtain ⟨q, hq⟩ : ∃ q, pl rr (k + 1) = q := ⟨_, rfl⟩
          rw [hq] at hcp2
          have HQ := hide hq
          have hq6 : q ≤ 100000 := by have := HPB.out (k + 1) (by omega); omega
          clear hq
          by_cases hqn : q ≤ n
          · have hqn' : (q : Int) ≤ (n : Int) := by omega
            have HKK : Hid (k + 1 ≤ k0) := by
              show _ ≤ _
              rcases Nat.lt_or_ge k k0 with h | h
              · exact h
              · exfalso
                have e : k = k0 := by omega
                have h1 := HQ.out
                rcases HK.out.end_ with h2 | h2
                · rw [HRR.out] at h2; omega
                · rw [e] at h1; omega
            go_wp2_with fail
            go_roundw
            case rel => exact ⟨k + 1, by simp, by first | rfl | trivial, HKK.out⟩
            case measure => simp [intOf]; omega
          · have hqn' : ¬ (q : Int) ≤ (n : Int) := by omega
            have HKK : Hid (k = k0) := by
              show _ = _
              rcases Nat.lt_or_ge k k0 with h | h
              · exfalso
                have h1 := HQ.out
                have h3 := pl_mono rr k0 (k + 1) (by omega) HK.out.le
                rcases HK.out.at_ with h2 | h2
                · omega
                · omega
              · omega
            go_wp2_with fail
            go_meet
            case rel => exact ⟨by rw [HKK.out], by first | rfl | trivial⟩
        · have hk1' : ¬ (k : Int) + 1 < (nw : Int) + 1 := by omega
          have HKK : Hid (k = k0) := by show _ = _; omega
          go_wp2_with fail
          go_meet
          case rel => exact ⟨by rw [HKK.out], by first | rfl | trivial⟩
  case rest =>
    obtain ⟨rfl, hwc⟩ := hcut
    subst hwc
    obtain ⟨S, hS⟩ : ∃ S, pl rr k0 = S := ⟨_, rfl⟩
    have hcS := HPL.out k0 hk30
    rw [hS] at hcS
    have HS := hide hS
    have hSN : S ≤ N := by rw [← hS]; exact HPB.out k0 hk30
    have hNc : N ≤ cv := HCV.out
    clear hS
    have HW : Hid (nw ≤ cw ∧ (pw = none → cw = 0)) := by
      obtain ⟨vv, hv⟩ := H6.out.2.want
      have := own_cap hv.own
      rw [HRR.out] at this
      exact this
    have hwc1 : nw ≤ cw := HW.out.1
    have HEQ1 : Hid (RecA w6 vg (rr.take k0) ∧ RecA w6 (.slice pw k0 cw) (rr.take k0)) := by
      obtain ⟨vv, hv⟩ := H6.out.2.got (vg, rr.take k0) (by simp)
      obtain ⟨vv2, hv2⟩ := H6.out.2.want
      obtain ⟨p', c', e, h⟩ := hv2.a.take k0 HK.out.le
      simp only [Value.slice.injEq] at e
      obtain ⟨rfl, _, rfl⟩ := e
      exact ⟨hv.a, h⟩
    have HFT := hide (file_take rr k0 HK.out.le)
    have HEQ2 : Hid (IsBy w6 (.slice pn M cn) (headB ++ recsB (rr.take k0)) ∧ IsBy w6 (.slice pv S cv) (headB ++ recsB (rr.take k0))) := by
      refine ⟨(H6.out.2.byt (.slice pn M cn, headB ++ recsB (rr.take k0)) (by simp)).1, ?_⟩
      have h := isBy_take (H6.out.2.byt (.slice pv N cv, headB ++ recsB rr) (by simp)).1 HN.out.symm S hSN
      rw [← HS.out, HFT.out] at h
      rw [← HS.out]
      exact h
    have HBB := hide H6.out.1
    clear H6 HPL
    go_wp2_with (first
      | (go_at_call 10; refine (num_any _ _).mono ?_; rintro e wn ⟨rfl, hwn⟩; have hwn2 := hwn.symm; subst hwn2)
      | (go_at_call 21; refine (eqRows_same _ _ (rr.take k0) _ HEQ1.out.1 HEQ1.out.2 (by rw [List.length_take]; omega) (fun r hr => HOK.out.2.2.1 r (List.mem_of_mem_take hr))).mono ?_; rintro e w7 ⟨rfl, N1, hN1⟩; have H7 : Hid (Below w6.heap.size w6 w7) := (by rw [hN1]; exact below_drewN (Below.refl _ _) N1); have hcS7 : w7.cell? ⟨gp, k0, none⟩ = some (.int .i64 (S : Int)) := (by rw [H7.out.cell (p := ⟨gp, k0, none⟩) (block_lt_of_cell hcS)]; exact hcS); clear hN1)
      | (go_at_call 27; refine (eq_same _ _ (headB ++ recsB (rr.take k0)) _ (isBy_below HEQ2.out.1 H7.out) (isBy_below HEQ2.out.2 H7.out) (by rw [HM.out]; have := HFT.out; have := congrArg List.length this; rw [List.length_take, HN.out, HM.out] at this; omega)).mono ?_; rintro e w8 ⟨rfl, N2, hN2⟩; have H8 : Hid (Below w0.heap.size w0 w8) := (HBB.out.trans ((H7.out.trans (by rw [hN2]; exact below_drewN ((Below.refl _ _).mono H7.out.size) N2)).mono HBB.out.size)); clear hN2)
      | (go_at_call 11; refine (HEND.out _ H8.out).mono ?_; rintro e w9 ⟨rfl, hB9⟩; have H9 := hide hB9; clear hB9))
    go_ret
    exact ⟨rfl, H9.out⟩

end Go.Proofs.YtpecgmcalbojcaaDoor

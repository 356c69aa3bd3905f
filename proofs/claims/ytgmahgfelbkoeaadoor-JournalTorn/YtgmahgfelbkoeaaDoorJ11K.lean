/- JournalTorn's walk. -/
import Derived.Test.YtgmahgfelbkoeaaDoorJ11M
import Derived.Test.YtgmahgfelbkoeaaDoorJ7C
namespace Go.Proofs.YtgmahgfelbkoeaaDoor
open Go.RowKit
set_option linter.unusedVariables false
set_option linter.unusedSimpArgs false

set_option maxRecDepth 100000 in
set_option maxHeartbeats 16000000 in
theorem journalTorn_any (pL : Option Addr) (nL cL : Nat) (zA zN zK zL yA yK yL : Int) (bC : Bool) (w : World) (hL : RowsIn w pL nL) (hnL : nL ≤ 140737488355328) (hzA : -9223372036854775808 ≤ zA ∧ zA ≤ 9223372036854775807) (hzN : -9223372036854775808 ≤ zN ∧ zN ≤ 9223372036854775807) (hzK : -9223372036854775808 ≤ zK ∧ zK ≤ 9223372036854775807) (hzL : -9223372036854775808 ≤ zL ∧ zL ≤ 9223372036854775807) (hyA : -9223372036854775808 ≤ yA ∧ yA ≤ 9223372036854775807) (hyK : -9223372036854775808 ≤ yK ∧ yK ≤ 9223372036854775807) (hyL : -9223372036854775808 ≤ yL ∧ yL ≤ 9223372036854775807) (hT : TabC w) :
    Calls Tryd.prog 3 #[.agg #[.slice pL nL cL, .int .i64 zA, .int .i64 zN, .int .i64 zK, .int .i64 zL, .bool bC, .int .i64 yA, .int .i64 yK, .int .i64 yL]] w fun e w' => e = .returned (.bool true) ∧ Below w.heap.size w w' := by
  have HX : Hid ((w.alloc (.cells #[.slice pL nL cL, .int .i64 zA, .int .i64 zN, .int .i64 zK, .int .i64 zL, .bool bC, .int .i64 yA, .int .i64 yK, .int .i64 yL] 24)).heap[w.heap.size]? = some (.cells #[.slice pL nL cL, .int .i64 zA, .int .i64 zN, .int .i64 zK, .int .i64 zL, .bool bC, .int .i64 yA, .int .i64 yK, .int .i64 yL] 24 (0, 0))) := heap_alloc_new _ _
  have HB0 : Hid (Below w.heap.size w (w.alloc (.cells #[.slice pL nL cL, .int .i64 zA, .int .i64 zN, .int .i64 zK, .int .i64 zL, .bool bC, .int .i64 yA, .int .i64 yK, .int .i64 yL] 24))) := (Below.refl _ _).alloc (Nat.le_refl _) _
  have HL : Hid (RowsIn (w.alloc (.cells #[.slice pL nL cL, .int .i64 zA, .int .i64 zN, .int .i64 zK, .int .i64 zL, .bool bC, .int .i64 yA, .int .i64 yK, .int .i64 yL] 24)) pL nL) := fun i hi => by
    obtain ⟨b, o, pe, ne, ce, q, h1, h2, h3, h4, h5⟩ := hL i hi
    exact ⟨b, o, pe, ne, ce, q, h1, by rw [HB0.out.cell (p := ⟨b, o + i, none⟩) (World.block_lt_of_cell? _ _ h2)]; exact h2, h3, h4.below HB0.out, h5⟩
  have HT : Hid (TabC (w.alloc (.cells #[.slice pL nL cL, .int .i64 zA, .int .i64 zN, .int .i64 zK, .int .i64 zL, .bool bC, .int .i64 yA, .int .i64 yK, .int .i64 yL] 24))) := hT.below HB0.out
  clear hL hT
  go_enter Tryd.func3, Tryd.ntmps3
  go_upto_region 1 with fail
  generalize w.alloc (.cells #[.slice pL nL cL, .int .i64 zA, .int .i64 zN, .int .i64 zK, .int .i64 zL, .bool bC, .int .i64 yA, .int .i64 yK, .int .i64 yL] 24) = w0 at *
  have b0 : w0.cell? ⟨w.heap.size, 0, none⟩ = some (.slice pL nL cL) := by rw [cell_of_row _ _ _ _ _ _ HX.out]; rfl
  have b1 : w0.cell? ⟨w.heap.size, 1, none⟩ = some (.int .i64 zA) := by rw [cell_of_row _ _ _ _ _ _ HX.out]; rfl
  have b2 : w0.cell? ⟨w.heap.size, 2, none⟩ = some (.int .i64 zN) := by rw [cell_of_row _ _ _ _ _ _ HX.out]; rfl
  have b3 : w0.cell? ⟨w.heap.size, 3, none⟩ = some (.int .i64 zK) := by rw [cell_of_row _ _ _ _ _ _ HX.out]; rfl
  have b4 : w0.cell? ⟨w.heap.size, 4, none⟩ = some (.int .i64 zL) := by rw [cell_of_row _ _ _ _ _ _ HX.out]; rfl
  have b5 : w0.cell? ⟨w.heap.size, 5, none⟩ = some (.bool bC) := by rw [cell_of_row _ _ _ _ _ _ HX.out]; rfl
  have b6 : w0.cell? ⟨w.heap.size, 6, none⟩ = some (.int .i64 yA) := by rw [cell_of_row _ _ _ _ _ _ HX.out]; rfl
  have b7 : w0.cell? ⟨w.heap.size, 7, none⟩ = some (.int .i64 yK) := by rw [cell_of_row _ _ _ _ _ _ HX.out]; rfl
  have b8 : w0.cell? ⟨w.heap.size, 8, none⟩ = some (.int .i64 yL) := by rw [cell_of_row _ _ _ _ _ _ HX.out]; rfl
  have HEND : Hid (∀ wx, Below w0.heap.size w0 wx → Calls Tryd.prog 6 #[] wx fun e w' => e = .returned (.bool true) ∧ Below w.heap.size w w') := fun wx hB => by
    refine (works_any wx (HT.out.below hB)).mono ?_
    rintro e w' ⟨rfl, hB2⟩
    have h3 : Below w0.heap.size w0 w' := hB.trans (hB2.mono hB.size)
    exact ⟨rfl, HB0.out.trans (h3.mono HB0.out.size)⟩
  have HNW := hide (di_new w0 w0.heap.size (Nat.le_refl _) 268435456 (by decide) (by decide))
  go_upto_region 8 with (first
    | (go_at_call 5; refine (num_any _ _).mono ?_; rintro e wn ⟨rfl, hwn⟩; have hwn2 := hwn.symm; subst hwn2)
    | (go_at_call 4; refine HNW.out.mono ?_; rintro e w1 ⟨d, F1, rfl, hD1, hB1, hG1⟩; have H1 : Hid (Di w0.heap.size w1 d { con := [], room := 268435456, off := false, ain := 0, keep := 0, lose := 0, wr := 0 } F1 ∧ Below w0.heap.size w0 w1) := ⟨hD1, hB1⟩; clear hD1 hB1 hG1 HNW)
    | (go_at_call 6; refine (works_any _ (HT.out.below H1.out.2)).mono ?_; rintro e w2 ⟨rfl, hB2⟩; have H2 : Hid (Di w0.heap.size w2 d { con := [], room := 268435456, off := false, ain := 0, keep := 0, lose := 0, wr := 0 } F1 ∧ Below w0.heap.size w0 w2) := ⟨H1.out.1.below hB2, H1.out.2.trans (hB2.mono H1.out.2.size)⟩; clear hB2 H1)
    | (go_at_call 7; refine (log_new w0 _ d F1 H2.out.1 H2.out.2).mono ?_; rintro e w3 ⟨l, p, F, rfl, hS, hp⟩; have HS : Hid (LogSt w0 w3 d l p F [] 8 ∧ p.wr = 2) := ⟨hS, hp⟩; clear hS hp H2))
  have hc1 : w3.cell? ⟨w.heap.size, 1, none⟩ = some (.int .i64 zA) := by rw [HS.out.1.bel.cell (p := ⟨w.heap.size, 1, none⟩) (heap_lt HX.out)]; exact b1
  go_upto_block 0 with (go_at_call 8; refine (within11_any zA 20 _ hzA.1 hzA.2 (by decide) (by decide)).mono ?_; rintro e wn ⟨at0, rfl, hat0, hwn⟩; have hwn2 := hwn.symm; subst hwn2)
  have HS0 : Hid (TrSt w0 w3 d l nL (.slice none 0 0) 8 65536 0 p F [] []) := ⟨HS.out.1, RecG.nil _ _ _, by omega, by omega, by omega, by omega, by rw [HS.out.2]; omega, by simp, by simp⟩
  clear HS hc1
  go_cut [8] from 10 (fun t8 wc => ∃ (pw : Option Addr) (nw cw : Nat), t8 = .slice pw nw cw ∧ Hid (∃ A L k p F vals rr, nw = rr.length ∧ TrSt w0 wc d l nL (.slice pw nw cw) A L k p F vals rr))
  case first =>
    as_aux_lemma =>
      go_wp2_with fail
      go_loopw [8, 10, 11] (fun t8 t10 t11 wr => ∃ (pw : Option Addr) (nw cw A L k : Nat), t8 = .slice pw nw cw ∧ t10 = .int .i64 (L : Int) ∧ t11 = .int .i64 (k : Int) ∧ Hid (∃ p F vals rr, nw = rr.length ∧ TrSt w0 wr d l nL (.slice pw nw cw) A L k p F vals rr)) (fun _ _ t11 _ => 20 - (intOf t11).toNat)
      case atStart => exact ⟨none, 0, 0, 8, 65536, 0, rfl, rfl, rfl, p, F, [], [], rfl, HS0.out⟩
      case round =>
        obtain ⟨pw, nw, cw, A, L, k, rfl, rfl, rfl, hI⟩ := hrel
        clear HS0
        obtain ⟨p, F, vals, rr, hnw, hS⟩ := hI.out
        have HS := hide hS
        have HNW := hide hnw
        clear hI hS hnw
        have hp0 : wr.cell? ⟨w.heap.size, 0, none⟩ = some (.slice pL nL cL) := by rw [HS.out.log.bel.cell (p := ⟨w.heap.size, 0, none⟩) (heap_lt HX.out)]; exact b0
        by_cases hk : k < nL
        · have hk' : (k : Int) < (nL : Int) := by omega
          by_cases hk6 : k < at0
          · have hk6' : (k : Int) < (at0 : Int) := by omega
            obtain ⟨gL, oL, pe, ne, ce, q, hpL, hcL, hne, hPq, hq⟩ := HL.out k hk
            have hcL2 : wr.cell? ⟨gL, oL + k, none⟩ = some (.slice pe ne ce) := by rw [HS.out.log.bel.cell (p := ⟨gL, oL + k, none⟩) (block_lt_of_cell hcL)]; exact hcL
            subst hpL
            obtain ⟨rs, hrs⟩ : ∃ rs, (List.range (min ne 300)).map q = rs := ⟨_, rfl⟩
            have HCP := hide (copied_any pe ne ce q wr (hPq.below HS.out.log.bel) (fun i hi => (hq i hi).1) hne)
            rw [hrs] at HCP
            have HRS : Hid (rs.length ≤ 300 ∧ ∀ r ∈ rs, r.length ≤ 140737488355328 ∧ ∀ x ∈ r, x < 256) := by
              rw [← hrs]
              refine ⟨by simp; omega, fun r hr => ?_⟩
              obtain ⟨i, hi, rfl⟩ := List.mem_map.1 hr
              exact hq i (by have := List.mem_range.1 hi; omega)
            clear hcL hPq hq hrs hne
            go_wp2_with (go_at_call 9; refine HCP.out.mono ?_; rintro e w1 ⟨v1, rfl, hR1, hB1⟩; have HR1 := hide (And.intro hR1 hB1); obtain ⟨p1, c1, hv1, -⟩ := hR1.a; obtain ⟨m, hm⟩ : ∃ m, rs.length = m := ⟨_, rfl⟩; rw [hm] at hv1; subst hv1; have HM := hide hm; clear hR1 hB1 hm HCP)
            have HP1 : Hid (PartsOf w1 p1 m (fun i => rs.getD i [])) := HR1.out.1.a.parts.2
            have hm3 : m ≤ 300 := by have := HRS.out.1; have := HM.out; omega
            have HQ : Hid (∀ i, i < m → (rs.getD i []).length ≤ 140737488355328) := fun i hi => by
              have hi' : i < rs.length := by rw [HM.out]; exact hi
              exact (HRS.out.2 (rs.getD i []) (by rw [List.getD_eq_getElem?_getD, List.getElem?_eq_getElem hi']; exact List.getElem_mem hi')).1
            refine (size_any p1 m c1 (fun i => rs.getD i []) w1 HP1.out HQ.out (by omega)).mono ?_
            rintro e w2 ⟨z, rfl, hz1, hz2, hB2⟩
            have HB2 : Hid (Below w1.heap.size w1 w2) := hB2
            have HBR2 : Hid (Below wr.heap.size wr w2) := HR1.out.2.trans (hB2.mono HR1.out.2.size)
            clear hB2
            by_cases hzl : z ≤ L
            · have hzLL : L ≤ 65536 := HS.out.l1
              have HZ : Hid (z = sumL (fun i => rs.getD i []) m) := by rcases hz1 with h | h; exact h; omega
              obtain ⟨L', hL'⟩ : ∃ L' : Nat, (L : Int) - (z : Int) = (L' : Int) := ⟨L - z, by omega⟩
              have HLL : Hid (L' + z = L) := by show _ = _; omega
              have hL0 : ¬ (L : Int) < (z : Int) := by omega
              have HL1 := hide hL'
              clear hL'
              have HCP2 := hide (copied_any p1 m c1 (fun i => rs.getD i []) w2 (HP1.out.below HB2.out) HQ.out (by omega))
              rw [show (List.range (min m 300)).map (fun i => rs.getD i []) = rs from by rw [show min m 300 = rs.length from by rw [HM.out]; omega]; exact map_getD rs] at HCP2
              obtain ⟨A4, hA4⟩ : ∃ A4, A + (recB rs).length = A4 := ⟨_, rfl⟩
              have HA4 : Hid (A + 8 + (bodyB rs).length = A4) := by show _ = _; rw [← hA4, recB_len]; omega
              have HBL : Hid ((bodyB rs).length + 4 * m = z) := by
                have h1 := body_sumL (fun i => rs.getD i []) rs.length
                rw [(recP_rs rs).2, HM.out] at h1
                have := HZ.out
                show _ = _
                omega
              have HAP : Hid (∀ w3 p3 c3, RowA w3 (.slice p3 m c3) rs → Below w2.heap.size w2 w3 → Calls Tryd.prog 11 #[.pointer (some ⟨l, 0, none⟩), .slice p3 m c3] w3 fun e w' => e = .returned (.int .i64 0) ∧ ∃ p' F', (LogSt w0 w' d l p' F' (rr ++ [rs]) A4 ∧ p'.wr = p.wr + 2) ∧ RecG (Gd w0.heap.size w' F' l) w0.heap.size w' (.slice pw nw cw) vals rr ∧ RowG (Gd w0.heap.size w' F' l) w0.heap.size w' (.slice p1 m c1) rs) := fun w3 p3 c3 hra hb3 => by
                have hb : Below wr.heap.size wr w3 := HBR2.out.trans (hb3.mono HBR2.out.size)
                have hb1 : Below w1.heap.size w1 w3 := HB2.out.trans (hb3.mono HB2.out.size)
                have hlog := HS.out.log.below hb
                have hbl := HBL.out
                have hrl := recB_len rs
                have ha1 := HS.out.a1
                have hl1 := HS.out.l1
                have hw1 := HS.out.wr1
                have hln := HS.out.len
                refine (log_append hlog HT.out p3 m c3 rs hra (fun r hr => (HRS.out.2 r hr).2) ⟨by have := HRS.out.1; omega, by omega⟩ (by omega) (by omega) (by omega)).mono ?_
                rintro e w' ⟨rfl, p', F', k1, k2, k3⟩
                rw [hA4] at k1
                have hrow : RowG (Gd w0.heap.size w1 F l) w0.heap.size w1 (.slice p1 m c1) rs := HR1.out.1.g HS.out.log.bel.size fun k h1 h2 => ⟨Nat.le_trans HS.out.log.bel.size h1, h2, fun e => by have := HS.out.log.di.lt k e; omega, fun e => by have := heap_lt HS.out.log.lg; omega⟩
                exact ⟨rfl, p', F', ⟨k1, k2⟩, (HS.out.want.keep (gd_below hb)).keep (gd_fx k3), (hrow.keep fun k _ _ hk _ _ => gd_below hb1 k hk).keep fun k _ _ hk _ _ => gd_fx k3 k hk⟩
              obtain ⟨i37, hi37⟩ := info37
              have Hi := hide hi37
              have hnw6 : nw ≤ 60 := by have := HS.out.len; have := HS.out.k1; have := HNW.out; omega
              have hA5 : A4 ≤ 200000 := by have := HA4.out; have := HBL.out; have := HS.out.a1; have := HS.out.k1; omega
              clear hi37 hz1 hA4
              go_wp2_with (first
                | (go_at_call 9; refine HCP2.out.mono ?_; rintro e w3 ⟨v3, rfl, hR3, hB3⟩; have HR3 := hide (And.intro hR3 hB3); obtain ⟨p3, c3, hv3, -⟩ := hR3.a; rw [HM.out] at hv3; subst hv3; clear hR3 hB3 HCP2)
                | (go_at_call 11; refine (HAP.out _ _ _ HR3.out.1.a HR3.out.2).mono ?_; rintro e w4 ⟨rfl, p4, F4, h4⟩; have H4 := hide h4; clear h4 HAP HR3)
                | (go_at_call 5; refine (num_any _ _).mono ?_; rintro e wn ⟨rfl, hwn⟩; have hwn2 := hwn.symm; subst hwn2)
                | (at_builtin; refine wpList_append_own_at _ rfl _ _ _ rfl w0.heap.size 35 i37 (.slice none 0 0) 1 24 Tryd.underlying22 Hi.out.1 Hi.out.2.1 Hi.out.2.2.1 Hi.out.2.2.2 rfl (by decide) (.slice pw nw cw) nw vals rfl (by have := H4.out.2.1.own; rw [← HNW.out] at this; exact this.alloc _) ⟨w4.heap.size, 0, none⟩ 1 1 [.slice p1 m c1] rfl rfl (World.news_of_block (heap_alloc_new w4 _)) ?f1 ?f4 ?f5 ?f7 ?f6))
              case f1 => intro x hx; simp at hx; subst hx; rfl
              case f4 => unfold maxLen; omega
              case f5 => omega
              case f7 => have h4 := H4.out.1.1.bel.size; simp; omega
              case f6 =>
                intro v6 w5 ho5 hg5 _ hat
                have hv6 := ownsRow_slice ho5 (by omega)
                have H5 : Hid (TrSt w0 w5 d l nL v6 A4 L' (k + 1) p4 F4 (vals ++ [.slice p1 m c1]) (rr ++ [rs])) := by
                  obtain ⟨⟨g1, g2⟩, g3, g4⟩ := H4.out
                  rw [HNW.out] at ho5
                  have hsz : w4.heap.size ≤ w5.heap.size := Nat.le_trans (by simp) hg5.size
                  have h1 := HS.out.wr1
                  have h2 := HS.out.a1
                  have h3 := HLL.out
                  have h5 := HBL.out
                  have h6 := HA4.out
                  have h8 := HS.out.len
                  have h9 := HS.out.l1
                  refine ⟨g1.grown hg5 fun k e => (g3.ob k e), g3.more g4 ho5 hg5 (fun k hk => hk.2.1) (fun k hk => ⟨hk.1, Nat.lt_of_lt_of_le hk.2.1 hsz, hk.2.2⟩) (fun k e => ?_), by omega, by omega, by omega, by omega, by omega, by simp; omega, fun r hr => ?_⟩
                  · rcases hat with h | h
                    · have hk := g3.ob k (h ▸ e)
                      exact ⟨hk.1, Nat.lt_of_lt_of_le hk.2.1 hsz, hk.2.2⟩
                    · have ek : k = w4.heap.size + 1 := by rw [h] at e; simpa using e.symm
                      have hb := g1.bel.size
                      exact ⟨by omega, (ho5.lt k e).2, fun e2 => by have := g1.di.lt k e2; omega, fun e2 => by have := heap_lt g1.lg; omega⟩
                  · rcases List.mem_append.1 hr with hr | hr
                    · exact HS.out.few r hr
                    · rw [List.mem_singleton.1 hr]; exact ⟨by have := HRS.out.1; omega, fun x hx => (HRS.out.2 x hx).1⟩
                obtain ⟨p6, c6, hv6⟩ := hv6
                subst hv6
                clear ho5 hg5 hat H4
                go_wp2_with fail
                go_roundw
                case rel => exact ⟨p6, nw + 1, c6, A4, L', k + 1, by simp, by simp [HL1.out], by simp, p4, F4, _, _, by simp [HNW.out], H5.out⟩
                case measure => simp [intOf]; omega
            · have hzl' : (L : Int) < (z : Int) := by omega
              have hzLL : L ≤ 65536 := HS.out.l1
              have HFI : Hid (TrSt w0 w2 d l nL (.slice pw nw cw) A L k p F vals rr) := { HS.out with log := HS.out.log.below HBR2.out, want := HS.out.want.keep (gd_below HBR2.out) }
              clear hz1
              go_wp2_with fail
              go_meet
              case rel => exact ⟨pw, nw, cw, rfl, A, L, k, p, F, vals, rr, HNW.out, HFI.out⟩
          · have hk6' : ¬ (k : Int) < (at0 : Int) := by omega
            go_wp2_with fail
            go_meet
            case rel => exact ⟨pw, nw, cw, rfl, A, L, k, p, F, vals, rr, HNW.out, HS.out⟩
        · have hk' : ¬ (k : Int) < (nL : Int) := by omega
          go_wp2_with fail
          go_meet
          case rel => exact ⟨pw, nw, cw, rfl, A, L, k, p, F, vals, rr, HNW.out, HS.out⟩
  case rest =>
    obtain ⟨pw, nw, cw, rfl, hI⟩ := hcut
    obtain ⟨A, L, k, p, F, vals, rr, hnw, hS⟩ := hI.out
    have HS := hide hS
    have HNW := hide hnw
    clear hI hS hnw HS0
    obtain ⟨w4, rfl⟩ : ∃ w4, w4 = wc := ⟨_, rfl⟩
    have e4 : (Array.size (α := Value) #[.int .u8 108, .int .u8 97, .int .u8 115, .int .u8 116]) = 4 := rfl
    have hcv := Go.Joins.run_convert_bytes_const_at (P := Tryd.prog) w4 38 5 #[.int .u8 108, .int .u8 97, .int .u8 115, .int .u8 116] 4 4 w4.heap.size rfl Tryd.underlying38 (by kernel_rfl)
    rw [e4] at hcv
    go_upto_region 20 with (simp only [hcv])
    clear hcv e4
    obtain ⟨w5, hw5⟩ : ∃ w5, (w4.alloc (.cells #[.int .u8 108, .int .u8 97, .int .u8 115, .int .u8 116] 5 (4, 5))).alloc (.cells #[.slice (some ⟨w4.heap.size, 0, none⟩) 4 4, .slice none 0 0] 38) = w5 := ⟨_, rfl⟩
    obtain ⟨c5, hc5⟩ : ∃ c5, w4.heap.size + 1 = c5 := ⟨_, rfl⟩
    have H5 : Hid (Below w4.heap.size w4 w5 ∧ RowK (Gd w0.heap.size w5 F l) w5 (.slice (some ⟨c5, 0, none⟩) 2 2) lastR) := by
      rw [← hw5, ← hc5]
      have hb : Below w4.heap.size w4 ((w4.alloc (.cells #[.int .u8 108, .int .u8 97, .int .u8 115, .int .u8 116] 5 (4, 5))).alloc (.cells #[.slice (some ⟨w4.heap.size, 0, none⟩) 4 4, .slice none 0 0] 38)) := ((Below.refl _ _).alloc (Nat.le_refl _) _).alloc (by simp) _
      have hs := HS.out.log.bel.size
      have hl := heap_lt HS.out.log.lg
      have h2 : ((w4.alloc (.cells #[.int .u8 108, .int .u8 97, .int .u8 115, .int .u8 116] 5 (4, 5))).alloc (.cells #[.slice (some ⟨w4.heap.size, 0, none⟩) 4 4, .slice none 0 0] 38)).heap[w4.heap.size + 1]? = some (.cells #[.slice (some ⟨w4.heap.size, 0, none⟩) 4 4, .slice none 0 0] 38 (0, 0)) := by have := heap_alloc_new (w4.alloc (.cells #[.int .u8 108, .int .u8 97, .int .u8 115, .int .u8 116] 5 (4, 5))) (.cells #[.slice (some ⟨w4.heap.size, 0, none⟩) 4 4, .slice none 0 0] 38); simpa using this
      refine ⟨hb, rowK_last (b := w4.heap.size) (new_kept (heap_alloc_new w4 _) _) h2 ⟨hs, by simp; omega, fun e => by have := HS.out.log.di.lt _ e; omega, by omega⟩ ⟨by omega, by simp, fun e => by have := HS.out.log.di.lt _ e; omega, by omega⟩⟩
    have hx5 : w4.heap.size + 1 = c5 := hc5
    rw [hw5]
    try rw [hx5]
    clear hx5
    have HS5 : Hid (TrSt w0 w5 d l nL (.slice pw nw cw) A L k p F vals rr) := { HS.out with log := HS.out.log.below H5.out.1, want := HS.out.want.keep (gd_below H5.out.1) }
    clear hw5 hc5 HS
    have q1 : w5.cell? ⟨w.heap.size, 2, none⟩ = some (.int .i64 zN) := by rw [(HS5.out.log.bel).cell (p := ⟨w.heap.size, 2, none⟩) (heap_lt HX.out)]; exact b2
    have q2 : w5.cell? ⟨w.heap.size, 3, none⟩ = some (.int .i64 zK) := by rw [(HS5.out.log.bel).cell (p := ⟨w.heap.size, 3, none⟩) (heap_lt HX.out)]; exact b3
    have q3 : w5.cell? ⟨w.heap.size, 4, none⟩ = some (.int .i64 zL) := by rw [(HS5.out.log.bel).cell (p := ⟨w.heap.size, 4, none⟩) (heap_lt HX.out)]; exact b4
    refine wp_region_held_drew (S := fun w' => w'.cell? ⟨w.heap.size, 2, none⟩ = some (.int .i64 zN) ∧ w'.cell? ⟨w.heap.size, 3, none⟩ = some (.int .i64 zK) ∧ w'.cell? ⟨w.heap.size, 4, none⟩ = some (.int .i64 zL)) (by kernel_rfl) ⟨q1, q2, q3⟩ (fun hHeld => ?_)
    refine wpAnyH_take (i := 0) (v := ?_) rfl (by kernel_rfl) (by kernel_rfl) (by kernel_rfl) (fun _ _ _ h => h) (Or.inl ⟨by rfl, ?_⟩) hHeld ?_
    rotate_left
    · (intro wq hSw; (try dsimp only at hSw); (try obtain ⟨s0, s1, s2⟩ := hSw); (go_simp <;> with_reducible rfl))
    try simp only [Act.put, List.getElem_toArray, List.getElem_cons_zero, List.getElem_cons_succ, List.setIfInBounds_toArray, List.set_cons_zero, List.set_cons_succ]
    refine wpAnyH_take (i := 1) (v := ?_) rfl (by kernel_rfl) (by kernel_rfl) (by kernel_rfl) (fun _ _ _ h => h) (Or.inl ⟨by rfl, ?_⟩) hHeld ?_
    rotate_left
    · (intro wq hSw; (try dsimp only at hSw); (try obtain ⟨s0, s1, s2⟩ := hSw); (go_simp <;> with_reducible rfl))
    try simp only [Act.put, List.getElem_toArray, List.getElem_cons_zero, List.getElem_cons_succ, List.setIfInBounds_toArray, List.set_cons_zero, List.set_cons_succ]
    refine wpAnyH_take (i := 2) (v := ?_) rfl (by kernel_rfl) (by kernel_rfl) (by kernel_rfl) (fun _ _ _ h => h) (Or.inl ⟨by rfl, ?_⟩) hHeld ?_
    rotate_left
    · (intro wq hSw; (try dsimp only at hSw); (try obtain ⟨s0, s1, s2⟩ := hSw); (go_simp <;> with_reducible rfl))
    try simp only [Act.put, List.getElem_toArray, List.getElem_cons_zero, List.getElem_cons_succ, List.setIfInBounds_toArray, List.set_cons_zero, List.set_cons_succ]
    refine wpAnyH_take (i := 5) (v := ?_) rfl (by kernel_rfl) (by kernel_rfl) (by kernel_rfl) (fun _ _ _ h => h) (Or.inl ⟨by rfl, ?_⟩) hHeld ?_
    rotate_left
    · (intro wq hSw; (try dsimp only at hSw); (try obtain ⟨s0, s1, s2⟩ := hSw); (go_simp <;> with_reducible rfl))
    try simp only [Act.put, List.getElem_toArray, List.getElem_cons_zero, List.getElem_cons_succ, List.setIfInBounds_toArray, List.set_cons_zero, List.set_cons_succ]
    refine wpAnyH_take (i := 6) (v := ?_) rfl (by kernel_rfl) (by kernel_rfl) (by kernel_rfl) (fun _ _ _ h => h) (Or.inl ⟨by rfl, ?_⟩) hHeld ?_
    rotate_left
    · (intro wq hSw; (try dsimp only at hSw); (try obtain ⟨s0, s1, s2⟩ := hSw); (go_simp <;> with_reducible rfl))
    try simp only [Act.put, List.getElem_toArray, List.getElem_cons_zero, List.getElem_cons_succ, List.setIfInBounds_toArray, List.set_cons_zero, List.set_cons_succ]
    refine wpAnyH_take (i := 7) (v := ?_) rfl (by kernel_rfl) (by kernel_rfl) (by kernel_rfl) (fun _ _ _ h => h) (Or.inl ⟨by rfl, ?_⟩) hHeld ?_
    rotate_left
    · (intro wq hSw; (try dsimp only at hSw); (try obtain ⟨s0, s1, s2⟩ := hSw); (go_simp <;> with_reducible rfl))
    try simp only [Act.put, List.getElem_toArray, List.getElem_cons_zero, List.getElem_cons_succ, List.setIfInBounds_toArray, List.set_cons_zero, List.set_cons_succ]
    refine wpAnyH_take (i := 8) (v := ?_) rfl (by kernel_rfl) (by kernel_rfl) (by kernel_rfl) (fun _ _ _ h => h) (Or.inl ⟨by rfl, ?_⟩) hHeld ?_
    rotate_left
    · (intro wq hSw; (try dsimp only at hSw); (try obtain ⟨s0, s1, s2⟩ := hSw); (go_simp <;> with_reducible rfl))
    try simp only [Act.put, List.getElem_toArray, List.getElem_cons_zero, List.getElem_cons_succ, List.setIfInBounds_toArray, List.set_cons_zero, List.set_cons_succ]
    refine wpAnyH_ready (rs := [3]) (by kernel_rfl) (by simp) ?_
    refine AllReadyH.cons rfl (fun K hK => ?_) AllReadyH.nil
    go_simp
    refine (within11_any zN 2 _ hzN.1 hzN.2 (by decide) (by decide)).mono ?_
    rintro _ wn ⟨n0, rfl, hn0, hwn⟩
    have hwn2 := hwn.symm
    subst hwn2
    clear hwn
    obtain ⟨a, ha⟩ : ∃ a, n0 + 1 = a := ⟨_, rfl⟩
    obtain ⟨hwa, hwa2, ha12⟩ := one_more n0 a ha hn0
    clear ha
    refine hK.out _ _ ⟨q1, q2, q3⟩ (fun hHeld => ?_)
    clear hK K
    try simp only [Act.put, List.getElem_toArray, List.getElem_cons_zero, List.getElem_cons_succ, List.setIfInBounds_toArray, List.set_cons_zero, List.set_cons_succ]
    refine wpAnyH_take (i := 4) (v := ?_) rfl (by kernel_rfl) (by kernel_rfl) (by kernel_rfl) (fun _ _ _ h => h) (Or.inl ⟨by rfl, ?_⟩) hHeld ?_
    rotate_left
    · (intro wq hSw; (try dsimp only at hSw); (try obtain ⟨s0, s1, s2⟩ := hSw); (go_simp <;> with_reducible rfl))
    try simp only [Act.put, List.getElem_toArray, List.getElem_cons_zero, List.getElem_cons_succ, List.setIfInBounds_toArray, List.set_cons_zero, List.set_cons_succ]
    refine wpAnyH_ready (rs := [9]) (by kernel_rfl) (by simp) ?_
    refine AllReadyH.cons rfl (fun K hK => ?_) AllReadyH.nil
    go_simp
    refine (di_arm w5.drew HS5.out.log.di.drew (a : Int) zK zL).mono ?_
    rintro _ w6 ⟨rfl, hD6, hF6⟩
    have H6 : Hid (Di w0.heap.size w6 d { p with ain := a, keep := zK, lose := zL } F ∧ Fr w5 F w6 F) := ⟨hD6, hF6.drew⟩
    clear hD6 hF6
    have HBL6 : Hid (Below w0.heap.size w0 w6) := bel_fr HS5.out.log.bel (Nat.le_refl _) H6.out.2 HS5.out.log.di.ge
    have r1 : w6.cell? ⟨w.heap.size, 2, none⟩ = some (.int .i64 zN) := by rw [(HBL6.out).cell (p := ⟨w.heap.size, 2, none⟩) (heap_lt HX.out)]; exact b2
    have r2 : w6.cell? ⟨w.heap.size, 3, none⟩ = some (.int .i64 zK) := by rw [(HBL6.out).cell (p := ⟨w.heap.size, 3, none⟩) (heap_lt HX.out)]; exact b3
    have r3 : w6.cell? ⟨w.heap.size, 4, none⟩ = some (.int .i64 zL) := by rw [(HBL6.out).cell (p := ⟨w.heap.size, 4, none⟩) (heap_lt HX.out)]; exact b4
    refine hK.out _ _ ⟨r1, r2, r3⟩ (fun hHeld => ?_)
    clear hK K
    try simp only [Act.put, List.getElem_toArray, List.getElem_cons_zero, List.getElem_cons_succ, List.setIfInBounds_toArray, List.set_cons_zero, List.set_cons_succ]
    refine wpAnyH_done (by kernel_rfl) ?_ _
    have HK6 : Hid (RecG (Gd w0.heap.size w6 F l) w0.heap.size w6 (.slice pw nw cw) vals rr ∧ RowK (Gd w0.heap.size w6 F l) w6 (.slice (some ⟨c5, 0, none⟩) 2 2) lastR) := ⟨HS5.out.want.keep (gd_fr H6.out.2), H5.out.2.keep (gd_fr H6.out.2)⟩
    clear q1 q2 q3 r1 r2 r3
    have s5 : w6.cell? ⟨w.heap.size, 5, none⟩ = some (.bool bC) := by rw [HBL6.out.cell (p := ⟨w.heap.size, 5, none⟩) (heap_lt HX.out)]; exact b5
    have HFEW : Hid (rr.length ≤ 20 ∧ (∀ r ∈ rr, Okr r) ∧ (∀ r ∈ rr, r.length ≤ 1000000 ∧ ∀ x ∈ r, x.length ≤ 140737488355328) ∧ A ≤ 70000 ∧ p.wr ≤ 50) := ⟨by have := HS5.out.len; have := HS5.out.k1; omega, HS5.out.log.okr, HS5.out.few, by have := HS5.out.a1; have := HS5.out.k1; omega, by have := HS5.out.wr1; have := HS5.out.k1; omega⟩
    clear hHeld hwa hwa2 hn0
    go_upto_if 106 with fail
    go_cut [14, 15] from 105 (fun t14 t15 wx => ∃ (ph : Option Addr) (nh ch : Nat) (g : Int), t14 = .slice ph nh ch ∧ t15 = .int .i64 g ∧ Hid (∃ F' p', RecA wx (.slice pw nw cw) rr ∧ RecG (Gd w0.heap.size wx F' l) w0.heap.size wx (.slice pw nw cw) vals rr ∧ ((g = 104 ∧ ∃ bs wh, Cr w0 wx d l p' F' bs 60 ∧ Af rr wh bs ∧ bs.length ≤ 80000 ∧ RecK (Gd w0.heap.size wx F' l) wx (.slice ph nh ch) wh ∧ nh = wh.length ∧ (wh = rr ++ [lastR] ∨ wh = [])) ∨ (g = 0 ∧ bC = true ∧ Di w0.heap.size wx d p' F' ∧ p'.off = false ∧ Below w0.heap.size w0 wx))))
    case first =>
      as_aux_lemma =>
        cases bC
        · go_upto_region 26 with (first
            | (go_at_call 11; refine (torn_append HS5.out.log a zK zL H6.out.1 H6.out.2 ha12 hzK hzL HT.out _ 2 2 lastR HK6.out.2.a last_ok.2.1 last_ok.1 (by rw [last_ok.2.2]; have := HFEW.out; omega) (by have := HFEW.out; omega)).mono ?_; rintro e w7 ⟨rfl, p7, F7, bs7, k1, k2, k3, k4⟩; have H7 : Hid (Cr w0 w7 d l p7 F7 bs7 60 ∧ Af rr (rr ++ [lastR]) bs7 ∧ bs7.length ≤ 80000 ∧ RecG (Gd w0.heap.size w7 F7 l) w0.heap.size w7 (.slice pw nw cw) vals rr ∧ RowK (Gd w0.heap.size w7 F7 l) w7 (.slice (some ⟨c5, 0, none⟩) 2 2) lastR) := ⟨{ k1 with wr := by have := k1.wr; have := HFEW.out; omega }, k2, by rw [last_ok.2.2] at k3; have := HFEW.out; omega, HK6.out.1.keep (gd_fx k4), HK6.out.2.keep (gd_fx k4)⟩; clear k1 k2 k3 k4 H6 HK6 HS5 H5)
            | (go_at_call 5; refine (num_any _ _).mono ?_; rintro e wn ⟨rfl, hwn⟩; have hwn2 := hwn.symm; subst hwn2))
          obtain ⟨i37, hi37⟩ := info37
          have Hi := hide hi37
          clear hi37
          have hnw6 : nw ≤ 20 := by have := HFEW.out; have := HNW.out; omega
          have HOW : Hid (w7.ownsRow w0.heap.size 35 1 (.slice pw nw cw) nw vals) := by have := H7.out.2.2.2.1.own; rw [← HNW.out] at this; exact this
          have HVO : Hid (∀ x ∈ vals, x.oneCell' = true) := fun x hx => by
            obtain ⟨i, hi, rfl⟩ := List.getElem_of_mem hx
            obtain ⟨vs, h1, _⟩ := H7.out.2.2.2.1.row i _ (List.getElem?_eq_getElem hi)
            rcases h1.2 with ⟨e1, _⟩ | ⟨g', cap, cur, e1, _⟩ <;> rw [e1] <;> rfl
          rcases pw with _ | ad
          · obtain ⟨rfl, rfl⟩ : nw = 0 ∧ cw = 0 := by
              rcases HOW.out.2 with ⟨e1, e2⟩ | ⟨g', cap, cur, e1, _⟩
              · simp at e1; omega
              · simp at e1
            go_wp2_with (first
              | (at_builtin; refine wpList_append_own_none rfl _ _ _ rfl w7.heap.size 35 i37 1 Tryd.underlying22 Hi.out.1 (.slice none 0 0) 0 [] rfl (World.ownsRow_nil _ _ _ _) rfl ?_)
              | (at_builtin; refine wpList_append_own_at _ rfl _ _ _ rfl w7.heap.size 35 i37 (.slice none 0 0) 1 24 Tryd.underlying22 Hi.out.1 Hi.out.2.1 Hi.out.2.2.1 Hi.out.2.2.2 rfl (by decide) (.slice none 0 0) (0) ([]) rfl ((World.ownsRow_nil _ _ _ _)) ⟨w7.heap.size, 0, none⟩ 1 1 [.slice (some ⟨c5, 0, none⟩) 2 2] rfl rfl (World.news_of_block (heap_alloc_new w7 _)) ?g1 ?g4 ?g5 ?g7 ?g6))
            case g1 => intro x hx; simp at hx; subst hx; rfl
            case g4 => unfold maxLen; omega
            case g5 => omega
            case g7 => simp <;> omega
            case g6 =>
              intro v9 w9 ho9 hg9 _ hat9
              have hv9 := ownsRow_slice ho9 (by omega)
              have H9 : Hid (Cr w0 w9 d l p7 F7 bs7 60 ∧ RecG (Gd w0.heap.size w9 F7 l) w0.heap.size w9 (.slice none 0 0) vals rr ∧ RecK (Gd w0.heap.size w9 F7 l) w9 v9 (rr ++ [lastR])) := by
                obtain ⟨h1, h2, h3, h4, h5⟩ := H7.out
                have hb : Below w7.heap.size w7 w9 := ((Below.refl _ _).alloc (Nat.le_refl _) _).trans (grown_below hg9 (fun g hg => by simp [Value.ownBlock] at hg) (by simp))
                have hvl : vals = [] := List.eq_nil_of_length_eq_zero (by rw [h4.len, ← HNW.out])
                have hrl : rr = [] := List.eq_nil_of_length_eq_zero (by rw [← HNW.out])
                have h4' := h4.keep (gd_below hb)
                refine ⟨h1.fr (h1.di.below hb) (Fr.of_below hb), h4', recK_more (B := w7.heap.size) (B0 := w0.heap.size) (vals := vals) (by rw [hrl, hvl]; exact ho9) (fun k e => ?_) h4.len (fun i x hx => h4'.row i x hx) (h5.keep (gd_below hb))⟩
                have hk := ho9.lt k e
                obtain ⟨sz, ct, hlg⟩ := h1.lg
                have hll := heap_lt hlg
                exact ⟨by have := h1.bel.size; omega, hk.2, fun e2 => by have := h1.di.lt k e2; omega, by omega⟩
              obtain ⟨p9, c9, rfl⟩ := hv9
              clear ho9 hg9 hat9
              go_wp2_with fail
              go_meet
              case rel => exact ⟨p9, 0 + 1, c9, 104, rfl, rfl, F7, p7, H9.out.2.1.a, H9.out.2.1, .inl ⟨rfl, bs7, rr ++ [lastR], H9.out.1, H7.out.2.1, H7.out.2.2.1, H9.out.2.2, by simp [HNW.out]; try omega, .inl rfl⟩⟩
          · have HN8 : Hid (∀ j u, vals[j]? = some u → w7.cell? (ad.add j) = some u) := fun j u hu => by
              rcases HOW.out.2 with ⟨e1, e2⟩ | ⟨g', cap, cur, e1, _⟩
              · simp at e1
              · simp only [Value.slice.injEq, Option.some.injEq] at e1
                obtain ⟨rfl, -, -⟩ := e1
                have hj : j < vals.length := by
                  rcases Nat.lt_or_ge j vals.length with h | h
                  · exact h
                  · rw [List.getElem?_eq_none h] at hu; simp at hu
                have hln := H7.out.2.2.2.1.len
                obtain ⟨g2, c2, e2, h2⟩ := own_at HOW.out (by rw [HNW.out]; omega)
                simp only [Value.slice.injEq, Option.some.injEq, Addr.mk.injEq] at e2
                obtain ⟨⟨rfl, -⟩, -⟩ := e2
                have := h2 j u (by rw [HNW.out]; omega) hu
                by_cases hj0 : j = 0
                · subst hj0; simpa [Addr.add] using this
                · simpa [Addr.add, hj0] using this
            have hvl : vals.length = nw := by rw [HNW.out]; exact H7.out.2.2.2.1.len
            have HVL := hide hvl
            clear hvl
            go_wp2_with (at_builtin; refine wpList_append_own_at _ rfl _ _ _ rfl w7.heap.size 35 i37 (.slice none 0 0) 1 24 Tryd.underlying22 Hi.out.1 Hi.out.2.1 Hi.out.2.2.1 Hi.out.2.2.2 rfl (by decide) (.slice none 0 0) 0 [] rfl (World.ownsRow_nil _ _ _ _) ad nw cw vals rfl ?f2 HN8.out HVO.out ?f4 ?f5 (Nat.le_refl _) ?f6)
            case f2 => rw [Nat.mul_one]; exact HVL.out
            case f4 => unfold maxLen; omega
            case f5 => omega
            case f6 =>
              intro v8 w8 ho8 hg8 _ hat8
              try rw [Nat.zero_add] at ho8
              try rw [List.nil_append] at ho8
              have HO8 := hide ho8
              have HB8 : Hid (Below w7.heap.size w7 w8) := grown_below hg8 (fun g hg => by simp [Value.ownBlock] at hg) (Nat.le_refl _)
              clear ho8 hg8 hat8
              obtain ⟨p8, n8, c8, hv8⟩ : ∃ p8 n8 c8, v8 = .slice p8 n8 c8 := by
                rcases HO8.out.2 with ⟨e1, _⟩ | ⟨g', cap, cur, e1, _⟩
                · exact ⟨_, _, _, e1⟩
                · exact ⟨_, _, _, e1⟩
              subst hv8
              go_wp2_with (first
                | (at_builtin; refine wpList_append_own_at _ rfl _ _ _ rfl w7.heap.size 35 i37 (.slice none 0 0) 1 24 Tryd.underlying22 Hi.out.1 Hi.out.2.1 Hi.out.2.2.1 Hi.out.2.2.2 rfl (by decide) (.slice p8 n8 c8) (nw) (vals) rfl (HO8.out.alloc _) ⟨w8.heap.size, 0, none⟩ 1 1 [.slice (some ⟨c5, 0, none⟩) 2 2] rfl rfl (World.news_of_block (heap_alloc_new w8 _)) ?g1 ?g4 ?g5 ?g7 ?g6))
              case g1 => intro x hx; simp at hx; subst hx; rfl
              case g4 => unfold maxLen; omega
              case g5 => omega
              case g7 => have := HB8.out.size; simp <;> omega
              case g6 =>
                intro v9 w9 ho9 hg9 _ hat9
                have hv9 := ownsRow_slice ho9 (by omega)
                have H9 : Hid (Cr w0 w9 d l p7 F7 bs7 60 ∧ RecG (Gd w0.heap.size w9 F7 l) w0.heap.size w9 (.slice (some ad) nw cw) vals rr ∧ RecK (Gd w0.heap.size w9 F7 l) w9 v9 (rr ++ [lastR])) := by
                  obtain ⟨h1, h2, h3, h4, h5⟩ := H7.out
                  have hb8 : Below w7.heap.size w7 w8 := HB8.out
                  have hb : Below w7.heap.size w7 w9 := (hb8.alloc hb8.size _).trans (grown_below hg9 (fun g hg => (HO8.out.lt g hg).1) (by have := hb8.size; simp; omega))
                  have h4' := h4.keep (gd_below hb)
                  refine ⟨h1.fr (h1.di.below hb) (Fr.of_below hb), h4', recK_more (B := w7.heap.size) (B0 := w0.heap.size) (vals := vals) (by rw [← HNW.out]; exact ho9) (fun k e => ?_) h4.len (fun i x hx => h4'.row i x hx) (h5.keep (gd_below hb))⟩
                  have hk := ho9.lt k e
                  obtain ⟨sz, ct, hlg⟩ := h1.lg
                  have hll := heap_lt hlg
                  exact ⟨by have := h1.bel.size; omega, hk.2, fun e2 => by have := h1.di.lt k e2; omega, by omega⟩
                obtain ⟨p9, c9, rfl⟩ := hv9
                clear ho9 hg9 hat9
                go_wp2_with fail
                go_meet
                case rel => exact ⟨p9, nw + 1, c9, 104, rfl, rfl, F7, p7, H9.out.2.1.a, H9.out.2.1, .inl ⟨rfl, bs7, rr ++ [lastR], H9.out.1, H7.out.2.1, H7.out.2.2.1, H9.out.2.2, by simp [HNW.out]; try omega, .inl rfl⟩⟩
        · rcases ha12 with rfl | rfl
          · go_wp2_with (first
              | (go_at_call 13; refine (torn_clear HS5.out.log zK zL H6.out.1 H6.out.2 hzK hzL (by have := HFEW.out; omega) (by have := HFEW.out; omega)).mono ?_; rintro e w7 ⟨rfl, p7, F7, bs7, k1, k2, k3, k4⟩; have H7 : Hid (Cr w0 w7 d l p7 F7 bs7 60 ∧ Af rr [] bs7 ∧ bs7.length ≤ 80000 ∧ RecG (Gd w0.heap.size w7 F7 l) w0.heap.size w7 (.slice pw nw cw) vals rr) := ⟨{ k1 with wr := by have := k1.wr; have := HFEW.out; omega }, k2, by have := HFEW.out; omega, HK6.out.1.keep (gd_fx k4)⟩; clear k1 k2 k3 k4 H6 HK6 HS5 H5)
              | (go_at_call 5; refine (num_any _ _).mono ?_; rintro e wn ⟨rfl, hwn⟩; have hwn2 := hwn.symm; subst hwn2))
            go_meet
            case rel => exact ⟨none, 0, 0, 104, rfl, rfl, F7, p7, H7.out.2.2.2.a, H7.out.2.2.2, .inl ⟨rfl, bs7, [], H7.out.1, H7.out.2.1, H7.out.2.2.1, RecK.nil _ _, rfl, .inr rfl⟩⟩
          · go_wp2_with (first
              | (go_at_call 13; refine (more_clear HS5.out.log zK zL H6.out.1 H6.out.2 hzK hzL (by have := HFEW.out; omega)).mono ?_; rintro e w7 ⟨rfl, p7, F7, k1, k2, k3, k4⟩; have H7 : Hid (Di w0.heap.size w7 d p7 F7 ∧ p7.off = false ∧ Below w0.heap.size w0 w7 ∧ RecG (Gd w0.heap.size w7 F7 l) w0.heap.size w7 (.slice pw nw cw) vals rr) := ⟨k1, k2, k3, HK6.out.1.keep (gd_fx k4)⟩; clear k1 k2 k3 k4 H6 HK6 HS5 H5)
              | (go_at_call 5; refine (num_any _ _).mono ?_; rintro e wn ⟨rfl, hwn⟩; have hwn2 := hwn.symm; subst hwn2))
            go_meet
            case rel => exact ⟨none, 0, 0, 0, rfl, rfl, F7, p7, H7.out.2.2.2.a, H7.out.2.2.2, .inr ⟨by first | rfl | trivial, by first | rfl | trivial, H7.out.1, H7.out.2.1, H7.out.2.2.1⟩⟩
    case rest =>
      obtain ⟨ph, nh, ch, g, rfl, rfl, hR⟩ := hcut
      obtain ⟨F7, p7, hw, hrg, hcase⟩ := hR.out
      rcases hcase with ⟨rfl, bs, wh, k1, k2, k3, k4, k5, k6⟩ | ⟨rfl, rfl, hD, ho, hB⟩
      · have HC : Hid (Cr w0 wc d l p7 F7 bs 60) := k1
        have HAF : Hid (Af rr wh bs) := k2
        have HBS := hide k3
        have HK : Hid (RecG (Gd w0.heap.size wc F7 l) w0.heap.size wc (.slice pw nw cw) vals rr ∧ RecK (Gd w0.heap.size wc F7 l) wc (.slice ph nh ch) wh) := ⟨hrg, k4⟩
        have HNH := hide k5
        have HWH := hide k6
        clear hw hrg k1 k2 k3 k4 k5 k6 hR
        go_upto_region 32 with (first
          | (go_at_call 5; refine (num_any _ _).mono ?_; rintro e wn ⟨rfl, hwn⟩; have hwn2 := hwn.symm; subst hwn2)
          | (go_at_call 11; refine (lappend_offed l _ HC.out.cell4 _).mono ?_; rintro e wn ⟨rfl, hwn⟩; have hwn2 := hwn.symm; subst hwn2)
          | (go_at_call 13; refine (lclear_offed l _ HC.out.cell4).mono ?_; rintro e wn ⟨rfl, hwn⟩; have hwn2 := hwn.symm; subst hwn2)
          | (go_at_call 14; refine HC.out.isOff.mono ?_; rintro e wn ⟨rfl, k1, k2⟩; replace HC : Hid (Cr w0 wn d l p7 F7 bs 60) := k1; replace HK : Hid (RecG (Gd w0.heap.size wn F7 l) w0.heap.size wn (.slice pw nw cw) vals rr ∧ RecK (Gd w0.heap.size wn F7 l) wn (.slice ph nh ch) wh) := ⟨HK.out.1.keep (gd_fr k2), HK.out.2.keep (gd_fr k2)⟩; clear k1 k2)
          | (go_at_call 15; refine HC.out.on.mono ?_; rintro e w8 ⟨rfl, p8, F8, k1, k2, k3⟩; have H8 : Hid (Fa w0 w8 d p8 F8 bs 60 ∧ p8.off = false) := ⟨k1, k2⟩; have HK8 : Hid (RecG (Gd w0.heap.size w8 F8 l) w0.heap.size w8 (.slice pw nw cw) vals rr ∧ RecK (Gd w0.heap.size w8 F8 l) w8 (.slice ph nh ch) wh) := ⟨HK.out.1.keep (gd_fr k3), HK.out.2.keep (gd_fr k3)⟩; clear k1 k2 k3 HC HK))
        have q1 : w8.cell? ⟨w.heap.size, 6, none⟩ = some (.int .i64 yA) := by rw [(H8.out.1.bel).cell (p := ⟨w.heap.size, 6, none⟩) (heap_lt HX.out)]; exact b6
        have q2 : w8.cell? ⟨w.heap.size, 7, none⟩ = some (.int .i64 yK) := by rw [(H8.out.1.bel).cell (p := ⟨w.heap.size, 7, none⟩) (heap_lt HX.out)]; exact b7
        have q3 : w8.cell? ⟨w.heap.size, 8, none⟩ = some (.int .i64 yL) := by rw [(H8.out.1.bel).cell (p := ⟨w.heap.size, 8, none⟩) (heap_lt HX.out)]; exact b8
        refine wp_region_held_drew (S := fun w' => w'.cell? ⟨w.heap.size, 6, none⟩ = some (.int .i64 yA) ∧ w'.cell? ⟨w.heap.size, 7, none⟩ = some (.int .i64 yK) ∧ w'.cell? ⟨w.heap.size, 8, none⟩ = some (.int .i64 yL)) (by kernel_rfl) ⟨q1, q2, q3⟩ (fun hHeld => ?_)
        refine wpAnyH_take (i := 0) (v := ?_) rfl (by kernel_rfl) (by kernel_rfl) (by kernel_rfl) (fun _ _ _ h => h) (Or.inl ⟨by rfl, ?_⟩) hHeld ?_
        rotate_left
        · (intro wq hSw; (try dsimp only at hSw); (try obtain ⟨s0, s1, s2⟩ := hSw); (go_simp <;> with_reducible rfl))
        try simp only [Act.put, List.getElem_toArray, List.getElem_cons_zero, List.getElem_cons_succ, List.setIfInBounds_toArray, List.set_cons_zero, List.set_cons_succ]
        refine wpAnyH_take (i := 1) (v := ?_) rfl (by kernel_rfl) (by kernel_rfl) (by kernel_rfl) (fun _ _ _ h => h) (Or.inl ⟨by rfl, ?_⟩) hHeld ?_
        rotate_left
        · (intro wq hSw; (try dsimp only at hSw); (try obtain ⟨s0, s1, s2⟩ := hSw); (go_simp <;> with_reducible rfl))
        try simp only [Act.put, List.getElem_toArray, List.getElem_cons_zero, List.getElem_cons_succ, List.setIfInBounds_toArray, List.set_cons_zero, List.set_cons_succ]
        refine wpAnyH_take (i := 2) (v := ?_) rfl (by kernel_rfl) (by kernel_rfl) (by kernel_rfl) (fun _ _ _ h => h) (Or.inl ⟨by rfl, ?_⟩) hHeld ?_
        rotate_left
        · (intro wq hSw; (try dsimp only at hSw); (try obtain ⟨s0, s1, s2⟩ := hSw); (go_simp <;> with_reducible rfl))
        try simp only [Act.put, List.getElem_toArray, List.getElem_cons_zero, List.getElem_cons_succ, List.setIfInBounds_toArray, List.set_cons_zero, List.set_cons_succ]
        refine wpAnyH_take (i := 5) (v := ?_) rfl (by kernel_rfl) (by kernel_rfl) (by kernel_rfl) (fun _ _ _ h => h) (Or.inl ⟨by rfl, ?_⟩) hHeld ?_
        rotate_left
        · (intro wq hSw; (try dsimp only at hSw); (try obtain ⟨s0, s1, s2⟩ := hSw); (go_simp <;> with_reducible rfl))
        try simp only [Act.put, List.getElem_toArray, List.getElem_cons_zero, List.getElem_cons_succ, List.setIfInBounds_toArray, List.set_cons_zero, List.set_cons_succ]
        refine wpAnyH_take (i := 6) (v := ?_) rfl (by kernel_rfl) (by kernel_rfl) (by kernel_rfl) (fun _ _ _ h => h) (Or.inl ⟨by rfl, ?_⟩) hHeld ?_
        rotate_left
        · (intro wq hSw; (try dsimp only at hSw); (try obtain ⟨s0, s1, s2⟩ := hSw); (go_simp <;> with_reducible rfl))
        try simp only [Act.put, List.getElem_toArray, List.getElem_cons_zero, List.getElem_cons_succ, List.setIfInBounds_toArray, List.set_cons_zero, List.set_cons_succ]
        refine wpAnyH_take (i := 7) (v := ?_) rfl (by kernel_rfl) (by kernel_rfl) (by kernel_rfl) (fun _ _ _ h => h) (Or.inl ⟨by rfl, ?_⟩) hHeld ?_
        rotate_left
        · (intro wq hSw; (try dsimp only at hSw); (try obtain ⟨s0, s1, s2⟩ := hSw); (go_simp <;> with_reducible rfl))
        try simp only [Act.put, List.getElem_toArray, List.getElem_cons_zero, List.getElem_cons_succ, List.setIfInBounds_toArray, List.set_cons_zero, List.set_cons_succ]
        refine wpAnyH_take (i := 8) (v := ?_) rfl (by kernel_rfl) (by kernel_rfl) (by kernel_rfl) (fun _ _ _ h => h) (Or.inl ⟨by rfl, ?_⟩) hHeld ?_
        rotate_left
        · (intro wq hSw; (try dsimp only at hSw); (try obtain ⟨s0, s1, s2⟩ := hSw); (go_simp <;> with_reducible rfl))
        try simp only [Act.put, List.getElem_toArray, List.getElem_cons_zero, List.getElem_cons_succ, List.setIfInBounds_toArray, List.set_cons_zero, List.set_cons_succ]
        refine wpAnyH_ready (rs := [3]) (by kernel_rfl) (by simp) ?_
        refine AllReadyH.cons rfl (fun K hK => ?_) AllReadyH.nil
        go_simp
        refine (within11_any yA 2 _ hyA.1 hyA.2 (by decide) (by decide)).mono ?_
        rintro _ wn ⟨n0, rfl, hn0, hwn⟩
        have hwn2 := hwn.symm
        subst hwn2
        clear hwn
        obtain ⟨a, ha⟩ : ∃ a, n0 + 1 = a := ⟨_, rfl⟩
        obtain ⟨hwa, hwa2, ha12⟩ := one_more n0 a ha hn0
        clear ha
        refine hK.out _ _ ⟨q1, q2, q3⟩ (fun hHeld => ?_)
        clear hK K
        try simp only [Act.put, List.getElem_toArray, List.getElem_cons_zero, List.getElem_cons_succ, List.setIfInBounds_toArray, List.set_cons_zero, List.set_cons_succ]
        refine wpAnyH_take (i := 4) (v := ?_) rfl (by kernel_rfl) (by kernel_rfl) (by kernel_rfl) (fun _ _ _ h => h) (Or.inl ⟨by rfl, ?_⟩) hHeld ?_
        rotate_left
        · (intro wq hSw; (try dsimp only at hSw); (try obtain ⟨s0, s1, s2⟩ := hSw); (go_simp <;> with_reducible rfl))
        try simp only [Act.put, List.getElem_toArray, List.getElem_cons_zero, List.getElem_cons_succ, List.setIfInBounds_toArray, List.set_cons_zero, List.set_cons_succ]
        refine wpAnyH_ready (rs := [9]) (by kernel_rfl) (by simp) ?_
        refine AllReadyH.cons rfl (fun K hK => ?_) AllReadyH.nil
        go_simp
        refine (fa_arm (w := w8.drew) { H8.out.1 with di := H8.out.1.di.drew, bel := H8.out.1.bel.drew } (a : Int) yK yL (by rcases ha12 with rfl | rfl <;> decide) hyK hyL).mono ?_
        rintro _ w9 ⟨rfl, p9, k1, k2, k3⟩
        have H9 : Hid (Fa w0 w9 d p9 F8 bs 60 ∧ p9.off = false) := ⟨k1, by rw [k2.1]; exact H8.out.2⟩
        have HK9 : Hid (RecG (Gd w0.heap.size w9 F8 l) w0.heap.size w9 (.slice pw nw cw) vals rr ∧ RecK (Gd w0.heap.size w9 F8 l) w9 (.slice ph nh ch) wh) := ⟨HK8.out.1.keep (gd_fr k3.drew), HK8.out.2.keep (gd_fr k3.drew)⟩
        clear k1 k2 k3
        have r1 : w9.cell? ⟨w.heap.size, 6, none⟩ = some (.int .i64 yA) := by rw [(H9.out.1.bel).cell (p := ⟨w.heap.size, 6, none⟩) (heap_lt HX.out)]; exact b6
        have r2 : w9.cell? ⟨w.heap.size, 7, none⟩ = some (.int .i64 yK) := by rw [(H9.out.1.bel).cell (p := ⟨w.heap.size, 7, none⟩) (heap_lt HX.out)]; exact b7
        have r3 : w9.cell? ⟨w.heap.size, 8, none⟩ = some (.int .i64 yL) := by rw [(H9.out.1.bel).cell (p := ⟨w.heap.size, 8, none⟩) (heap_lt HX.out)]; exact b8
        refine hK.out _ _ ⟨r1, r2, r3⟩ (fun hHeld => ?_)
        clear hK K
        try simp only [Act.put, List.getElem_toArray, List.getElem_cons_zero, List.getElem_cons_succ, List.setIfInBounds_toArray, List.set_cons_zero, List.set_cons_succ]
        refine wpAnyH_done (by kernel_rfl) ?_ _
        clear q1 q2 q3 r1 r2 r3 hHeld H8 HK8 ha12 hwa hwa2 hn0
        go_upto_region 34 with (go_at_call 7; refine (fa_openA H9.out.1 H9.out.2 (by decide) HT.out HAF.out).mono ?_; rintro e w10 ⟨ml, vo, c, rfl, p10, F10, bs10, k1, k2, k3, k4, k5⟩; have H10 : Hid (Fa w0 w10 d p10 F10 bs10 61 ∧ Af rr wh bs10) := ⟨k1, k2⟩; have HBS10 : Hid (bs10.length ≤ 80000) := Nat.le_trans k5 HBS.out; have HK10 : Hid (RecG (Gd w0.heap.size w10 F10 l) w0.heap.size w10 (.slice pw nw cw) vals rr ∧ RecK (Gd w0.heap.size w10 F10 l) w10 (.slice ph nh ch) wh) := ⟨HK9.out.1.keep (gd_fr k4), HK9.out.2.keep (gd_fr k4)⟩; have HC3 := hide k3; clear k1 k2 k3 k4 k5 H9 HK9)
        rcases HC3.out with ⟨rfl, ho⟩ | ⟨rfl, ho⟩
        · clear HC3
          go_upto_region 36 with (go_at_call 5; refine (num_any _ _).mono ?_; rintro e wn ⟨rfl, hwn⟩; have hwn2 := hwn.symm; subst hwn2)
          go_upto_region 39 with (first
            | (go_at_call 12; refine (fa_arm H10.out.1 0 0 0 (by decide) (by decide) (by decide)).mono ?_; rintro e w11 ⟨rfl, p11, k1, k2, k3⟩; have H11 : Hid (Fa w0 w11 d p11 F10 bs10 61 ∧ p11.ain = 0 ∧ Af rr wh bs10) := ⟨k1, k2.2, H10.out.2⟩; have HK11 : Hid (RecG (Gd w0.heap.size w11 F10 l) w0.heap.size w11 (.slice pw nw cw) vals rr ∧ RecK (Gd w0.heap.size w11 F10 l) w11 (.slice ph nh ch) wh) := ⟨HK10.out.1.keep (gd_fr k3), HK10.out.2.keep (gd_fr k3)⟩; clear k1 k2 k3 H10 HK10)
            | (go_at_call 15; refine (fa_on H11.out.1).mono ?_; rintro e w12 ⟨rfl, p12, F12, k1, k2, k3⟩; have H12 : Hid (Fa w0 w12 d p12 F12 bs10 61 ∧ (p12.off = false ∧ p12.ain = 0) ∧ Af rr wh bs10) := ⟨k1, ⟨k2.1, by rw [k2.2]; exact H11.out.2.1⟩, H11.out.2.2⟩; have HK12 : Hid (RecG (Gd w0.heap.size w12 F12 l) w0.heap.size w12 (.slice pw nw cw) vals rr ∧ RecK (Gd w0.heap.size w12 F12 l) w12 (.slice ph nh ch) wh) := ⟨HK11.out.1.keep (gd_fr k3), HK11.out.2.keep (gd_fr k3)⟩; clear k1 k2 k3 H11 HK11)
            | (go_at_call 7; refine (fa_openL H12.out.1 H12.out.2.1.1 H12.out.2.1.2 (by decide) HT.out H12.out.2.2 (by have := HFEW.out; omega) (by have := HFEW.out; rcases HWH.out with e | e <;> rw [e] <;> simp <;> omega)).mono ?_; rintro e w13 ⟨l2, vg, rfl, p13, F13, hh, A13, k1, k2, k3, k4, ⟨gvals, k5⟩, k6⟩; obtain ⟨pg, cg, hvg, -⟩ := k5.a; obtain ⟨ng, hng⟩ : ∃ ng, hh.length = ng := ⟨_, rfl⟩; rw [hng] at hvg; have HNG := hide hng; subst hvg; have H13 : Hid (LogSt w0 w13 d l2 p13 F13 hh A13 ∧ (hh = rr ∨ hh = wh) ∧ p13.wr ≤ 62 ∧ RecG (Gd w0.heap.size w13 F13 l2) w0.heap.size w13 (.slice pg ng cg) gvals hh) := ⟨k1, k2, k3, k5⟩; have HK13 : Hid (RecG (Gd w0.heap.size w13 F13 l) w0.heap.size w13 (.slice pw nw cw) vals rr ∧ RecK (Gd w0.heap.size w13 F13 l) w13 (.slice ph nh ch) wh) := ⟨HK12.out.1.keep (gd_fr k6), HK12.out.2.keep (gd_fr k6)⟩; have HA13 : Hid (A13 ≤ bs10.length) := k4; clear k1 k2 k3 k4 k5 k6 hng H12 HK12))
          have HFW : Hid (∀ r ∈ wh, r.length ≤ 1000000 ∧ ∀ x ∈ r, x.length ≤ 140737488355328) := by
            rcases HWH.out with e | e <;> rw [e]
            · intro r hr
              rcases List.mem_append.1 hr with hr | hr
              · exact HFEW.out.2.2.1 r hr
              · rw [List.mem_singleton.1 hr]; decide
            · exact fun r hr => absurd hr (by simp)
          have hwl : wh.length ≤ 21 := by have := HFEW.out; rcases HWH.out with e | e <;> rw [e] <;> simp <;> omega
          have hgn : hh.length ≤ 21 := by rcases H13.out.2.1 with e | e <;> rw [e] <;> have := HFEW.out <;> omega
          have HFH : Hid (∀ r ∈ hh, r.length ≤ 1000000 ∧ ∀ x ∈ r, x.length ≤ 140737488355328) := by
            rcases H13.out.2.1 with e | e <;> rw [e]
            · exact HFEW.out.2.2.1
            · exact HFW.out
          have hrn : rr.length ≤ 20 := HFEW.out.1
          by_cases hl : ng = nw
          · have HE : Hid (hh = rr) := by
              rcases H13.out.2.1 with e | e
              · exact e
              · have h1 := HNG.out
                have h2 := HNW.out
                rcases HWH.out with e2 | e2
                · rw [e, e2, List.length_append, List.length_singleton] at h1; omega
                · rw [e, e2] at h1
                  rw [e, e2]
                  exact (List.eq_nil_of_length_eq_zero (by simp at h1; omega)).symm
            have HEQ := hide (eqRows_same (.slice pg ng cg) (.slice pw nw cw) rr w13 (by have := H13.out.2.2.2.a; rw [HE.out] at this; exact this) HK13.out.1.a (by omega) HFEW.out.2.2.1)
            clear HE hl
            go_upto_region 41 with (first
              | (go_at_call 5; refine (num_any _ _).mono ?_; rintro e wn ⟨rfl, hwn⟩; have hwn2 := hwn.symm; subst hwn2)
              | (go_at_call 16; refine HEQ.out.mono ?_; rintro e w14 ⟨rfl, N1, hN1⟩; have hB14 : Below w13.heap.size w13 w14 := (by rw [hN1]; exact below_drewN' _ _); have H14 : Hid (LogSt w0 w14 d l2 p13 F13 hh A13 ∧ RecG (Gd w0.heap.size w14 F13 l2) w0.heap.size w14 (.slice pg ng cg) gvals hh) := ⟨H13.out.1.below hB14, H13.out.2.2.2.keep (gd_below hB14)⟩; clear hN1 hB14 HEQ))
            have HW13 : Hid (p13.wr ≤ 62 ∧ A13 ≤ 80000) := ⟨H13.out.2.2.1, Nat.le_trans HA13.out HBS10.out⟩
            clear H13 HK13
            have e2 : (Array.size (α := Value) #[.int .u8 111, .int .u8 110]) = 2 := rfl
            have hcv := Go.Joins.run_convert_bytes_const_at (P := Tryd.prog) w14 38 5 #[.int .u8 111, .int .u8 110] 2 2 w14.heap.size rfl Tryd.underlying38 (by kernel_rfl)
            rw [e2] at hcv
            have HAPP : Hid (Calls Tryd.prog 11 #[.pointer (some ⟨l2, 0, none⟩), .slice (some ⟨w14.heap.size + 1, 0, none⟩) 1 1] ((w14.alloc (.cells #[.int .u8 111, .int .u8 110] 5 (2, 3))).alloc (.cells #[.slice (some ⟨w14.heap.size, 0, none⟩) 2 2] 38)) fun e w' => e = .returned (.int .i64 0) ∧ ∃ p' F', LogSt w0 w' d l2 p' F' (hh ++ [onR]) (A13 + 14) ∧ RecG (Gd w0.heap.size w' F' l2) w0.heap.size w' (.slice pg ng cg) gvals hh) := by
              have hb : Below w14.heap.size w14 ((w14.alloc (.cells #[.int .u8 111, .int .u8 110] 5 (2, 3))).alloc (.cells #[.slice (some ⟨w14.heap.size, 0, none⟩) 2 2] 38)) := ((Below.refl _ _).alloc (Nat.le_refl _) _).alloc (by simp) _
              have h2 : ((w14.alloc (.cells #[.int .u8 111, .int .u8 110] 5 (2, 3))).alloc (.cells #[.slice (some ⟨w14.heap.size, 0, none⟩) 2 2] 38)).heap[w14.heap.size + 1]? = some (.cells #[.slice (some ⟨w14.heap.size, 0, none⟩) 2 2] 38 (0, 0)) := by have := heap_alloc_new (w14.alloc (.cells #[.int .u8 111, .int .u8 110] 5 (2, 3))) (.cells #[.slice (some ⟨w14.heap.size, 0, none⟩) 2 2] 38); simpa using this
              have hrow := rowK_on (G := fun _ => True) (b := w14.heap.size) (new_kept (heap_alloc_new w14 (.cells #[.int .u8 111, .int .u8 110] 5 (2, 3))) (.cells #[.slice (some ⟨w14.heap.size, 0, none⟩) 2 2] 38)) h2 trivial trivial
              have h3 := HW13.out
              refine (log_append (H14.out.1.below hb) HT.out _ 1 1 onR hrow.a on_ok.2.1 on_ok.1 (by rw [on_ok.2.2]; omega) (by omega) (by omega)).mono ?_
              rintro e w' ⟨rfl, p', F', k1, k2, k3⟩
              rw [on_ok.2.2] at k1
              exact ⟨rfl, p', F', k1, (H14.out.2.keep (gd_below hb)).keep (gd_fx k3)⟩
            go_upto_region 42 with (first
              | (simp only [hcv])
              | (go_at_call 11; refine HAPP.out.mono ?_; rintro e w16 ⟨rfl, p16, F16, k1, k2⟩; have H16 : Hid (LogSt w0 w16 d l2 p16 F16 (hh ++ [onR]) (A13 + 14) ∧ RecG (Gd w0.heap.size w16 F16 l2) w0.heap.size w16 (.slice pg ng cg) gvals hh) := ⟨k1, k2⟩; clear k1 k2 H14 HAPP hcv))
            go_upto_region 43 with (go_at_call 7; refine (log_openF H16.out.1 HT.out (by have := HW13.out; omega)).mono ?_; rintro e w17 ⟨l3, vm, rfl, k1, ⟨mvals, k2⟩, k3⟩; obtain ⟨pm, cm, hvm, -⟩ := k2.a; obtain ⟨nm, hnm⟩ : ∃ nm, (hh ++ [onR]).length = nm := ⟨_, rfl⟩; rw [hnm] at hvm; have HNM := hide hnm; subst hvm; have H17 : Hid (Below w0.heap.size w0 w17 ∧ RecG (Gd w0.heap.size w17 F16 l2) w0.heap.size w17 (.slice pg ng cg) gvals hh ∧ RecG (fun k => w16.heap.size ≤ k ∧ k < w17.heap.size) w0.heap.size w17 (.slice pm nm cm) mvals (hh ++ [onR]) ∧ ∀ k, Gd w0.heap.size w17 F16 l2 k → k < w17.heap.size) := ⟨k1.bel, H16.out.2.keep (gd_fr k3), k2, fun k hk => hk.2.1⟩; have HGO : Hid (∀ k, (Value.slice pg ng cg).ownBlock = some k → k < w16.heap.size) := (fun k e => (H16.out.2.ob k e).2.1); clear k1 k2 k3 hnm H16)
            have hcv := Go.Joins.run_convert_bytes_const_at (P := Tryd.prog) w17 38 5 #[.int .u8 111, .int .u8 110] 2 2 w17.heap.size rfl Tryd.underlying38 (by kernel_rfl)
            rw [e2] at hcv
            obtain ⟨i37, hi37⟩ := info37
            have Hi := hide hi37
            clear hi37
            have hng21 : ng ≤ 21 := by have := HNG.out; omega
            have HB20 : Hid (Below w17.heap.size w17 ((w17.alloc (.cells #[.int .u8 111, .int .u8 110] 5 (2, 3))).alloc (.cells #[.slice (some ⟨w17.heap.size, 0, none⟩) 2 2] 38))) := ((Below.refl _ _).alloc (Nat.le_refl _) _).alloc (by simp) _
            have HRX : Hid (RecG (Gd w0.heap.size w17 F16 l2) w0.heap.size ((w17.alloc (.cells #[.int .u8 111, .int .u8 110] 5 (2, 3))).alloc (.cells #[.slice (some ⟨w17.heap.size, 0, none⟩) 2 2] 38)) (.slice pg ng cg) gvals hh) := H17.out.2.1.keep fun k hk => ⟨hk, HB20.out.block k hk.2.1⟩
            have HOX : Hid ((((w17.alloc (.cells #[.int .u8 111, .int .u8 110] 5 (2, 3))).alloc (.cells #[.slice (some ⟨w17.heap.size, 0, none⟩) 2 2] 38)).alloc (.cells #[.slice (some ⟨w17.heap.size + 1, 0, none⟩) 1 1] 35)).ownsRow w0.heap.size 35 1 (.slice pg ng cg) ng gvals) := by have := HRX.out.own; rw [HNG.out] at this; exact this.alloc _
            have HNX : Hid (∀ j u, ([.slice (some ⟨w17.heap.size + 1, 0, none⟩) 1 1] : List Value)[j]? = some u → (((w17.alloc (.cells #[.int .u8 111, .int .u8 110] 5 (2, 3))).alloc (.cells #[.slice (some ⟨w17.heap.size, 0, none⟩) 2 2] 38)).alloc (.cells #[.slice (some ⟨w17.heap.size + 1, 0, none⟩) 1 1] 35)).cell? ((⟨w17.heap.size + 2, 0, none⟩ : Addr).add j) = some u) := by
              have h := World.news_of_block (heap_alloc_new ((w17.alloc (.cells #[.int .u8 111, .int .u8 110] 5 (2, 3))).alloc (.cells #[.slice (some ⟨w17.heap.size, 0, none⟩) 2 2] 38)) (.cells #[.slice (some ⟨w17.heap.size + 1, 0, none⟩) 1 1] 35))
              rw [show ((w17.alloc (.cells #[.int .u8 111, .int .u8 110] 5 (2, 3))).alloc (.cells #[.slice (some ⟨w17.heap.size, 0, none⟩) 2 2] 38)).heap.size = w17.heap.size + 2 from by simp] at h
              exact h
            have HSX : Hid (w0.heap.size ≤ (((w17.alloc (.cells #[.int .u8 111, .int .u8 110] 5 (2, 3))).alloc (.cells #[.slice (some ⟨w17.heap.size, 0, none⟩) 2 2] 38)).alloc (.cells #[.slice (some ⟨w17.heap.size + 1, 0, none⟩) 1 1] 35)).heap.size) := by have := H17.out.1.size; show _ ≤ _; simp; omega
            go_wp2_with (first
              | (go_at_call 5; refine (num_any _ _).mono ?_; rintro e wn ⟨rfl, hwn⟩; have hwn2 := hwn.symm; subst hwn2)
              | (simp only [hcv])
              | (refine wpList_appendOn _ _ _ rfl (by rfl) w0.heap.size 35 i37 (.slice none 0 0) 1 24 Tryd.underlying22 Hi.out.1 Hi.out.2.1 Hi.out.2.2.1 Hi.out.2.2.2 rfl (by decide) (.slice pg ng cg) ng gvals rfl HOX.out ⟨w17.heap.size + 2, 0, none⟩ 1 1 [.slice (some ⟨w17.heap.size + 1, 0, none⟩) 1 1] rfl rfl HNX.out ?g1 ?g4 ?g5 HSX.out ?g6))
            case g1 => first | rfl | (intro x hx; simp at hx; subst hx; rfl)
            case g4 => unfold maxLen; omega
            case g5 => omega
            case g6 =>
              intro vz wz hoz hgz _ hatz
              have hvz := ownsRow_slice hoz (by omega)
              have hbz : Below w0.heap.size w0 wz := (H17.out.1.trans (((HB20.out.alloc HB20.out.size _)).mono H17.out.1.size)).trans (grown_below hgz (fun g hg => (HRX.out.ob g hg).1) HSX.out)
              have hon : RowA wz (.slice (some ⟨w17.heap.size + 1, 0, none⟩) 1 1) onR := by
                have hk : ∀ k, w17.heap.size ≤ k → k < w17.heap.size + 2 → wz.heap[k]? = ((w17.alloc (.cells #[.int .u8 111, .int .u8 110] 5 (2, 3))).alloc (.cells #[.slice (some ⟨w17.heap.size, 0, none⟩) 2 2] 38)).heap[k]? := fun k h1 h2 => (hgz.block k (by simp; omega) (fun e => by have := (HRX.out.ob k e.symm).2.1; omega)).trans (Below.heap_alloc _ _ _ (by simp; omega))
                have h2 : ((w17.alloc (.cells #[.int .u8 111, .int .u8 110] 5 (2, 3))).alloc (.cells #[.slice (some ⟨w17.heap.size, 0, none⟩) 2 2] 38)).heap[w17.heap.size + 1]? = some (.cells #[.slice (some ⟨w17.heap.size, 0, none⟩) 2 2] 38 (0, 0)) := by have := heap_alloc_new (w17.alloc (.cells #[.int .u8 111, .int .u8 110] 5 (2, 3))) (.cells #[.slice (some ⟨w17.heap.size, 0, none⟩) 2 2] 38); simpa using this
                exact (rowK_on (G := fun _ => True) (b := w17.heap.size) ((hk _ (by omega) (by omega)).trans (new_kept (heap_alloc_new w17 (.cells #[.int .u8 111, .int .u8 110] 5 (2, 3))) (.cells #[.slice (some ⟨w17.heap.size, 0, none⟩) 2 2] 38))) ((hk _ (by omega) (by omega)).trans h2) trivial trivial).a
              have HZ : Hid (RecA wz vz (hh ++ [onR]) ∧ RecA wz (.slice pm nm cm) (hh ++ [onR]) ∧ Below w0.heap.size w0 wz) := by
                refine ⟨recA_more HRX.out hon (by rw [HNG.out]; exact hoz) hgz (fun k hk => by have := hk.2.1; simp; omega), (H17.out.2.2.1.keep (G' := fun _ => True) fun k hk => ⟨trivial, ?_⟩).a, hbz⟩
                exact ((hgz.block k (by have := hk.2; simp; omega) (fun e => by have := HGO.out k e.symm; have := hk.1; omega)).trans (Below.heap_alloc _ _ _ (by have := hk.2; simp; omega))).trans (HB20.out.block k hk.2)
              obtain ⟨pz, cz, hvz⟩ := hvz
              subst hvz
              have HEQ := hide (eqRows_same (.slice pm nm cm) _ (hh ++ [onR]) wz HZ.out.2.1 HZ.out.1 (by rw [List.length_append]; simp; omega) (fun r hr => by
                rcases List.mem_append.1 hr with hr | hr
                · exact HFH.out r hr
                · rw [List.mem_singleton.1 hr]; decide))
              clear hoz hgz hatz hbz hon hcv HOX HNX HRX HSX HB20 H17
              go_wp2_with (first
                | (go_at_call 5; refine (num_any _ _).mono ?_; rintro e wn ⟨rfl, hwn⟩; have hwn2 := hwn.symm; subst hwn2)
                | (go_at_call 16; refine HEQ.out.mono ?_; rintro e wy ⟨rfl, N2, hN2⟩; have HY : Hid (Below w0.heap.size w0 wy) := (by rw [hN2]; exact HZ.out.2.2.trans ((below_drewN' _ _).mono HZ.out.2.2.size)); clear hN2 HEQ)
                | (go_at_call 6; refine (HEND.out _ HY.out).mono ?_; rintro e wq ⟨rfl, hq⟩; have HQ := hide hq; clear hq))
              go_ret
              exact ⟨rfl, HQ.out⟩
          · have HE : Hid (hh = wh) := by
              rcases H13.out.2.1 with e | e
              · have h1 := HNG.out
                have h2 := HNW.out
                rw [e] at h1
                exact absurd (h1.symm.trans h2.symm) hl
              · exact e
            have HEQ1 := hide (eqRows_len pg pw ng cg nw cw w13 hl)
            have HEQ2 := hide (eqRows_same (.slice pg ng cg) (.slice ph nh ch) wh w13 (by have := H13.out.2.2.2.a; rw [HE.out] at this; exact this) HK13.out.2.a (by omega) HFW.out)
            clear HE hl
            go_upto_region 41 with (first
              | (go_at_call 5; refine (num_any _ _).mono ?_; rintro e wn ⟨rfl, hwn⟩; have hwn2 := hwn.symm; subst hwn2)
              | (go_at_call 16; refine HEQ1.out.mono ?_; rintro e wn ⟨rfl, hwn⟩; have hwn2 := hwn.symm; subst hwn2; clear HEQ1)
              | (go_at_call 16; refine HEQ2.out.mono ?_; rintro e w14 ⟨rfl, N1, hN1⟩; have hB14 : Below w13.heap.size w13 w14 := (by rw [hN1]; exact below_drewN' _ _); have H14 : Hid (LogSt w0 w14 d l2 p13 F13 hh A13 ∧ RecG (Gd w0.heap.size w14 F13 l2) w0.heap.size w14 (.slice pg ng cg) gvals hh) := ⟨H13.out.1.below hB14, H13.out.2.2.2.keep (gd_below hB14)⟩; clear hN1 hB14 HEQ2))
            have HW13 : Hid (p13.wr ≤ 62 ∧ A13 ≤ 80000) := ⟨H13.out.2.2.1, Nat.le_trans HA13.out HBS10.out⟩
            clear H13 HK13
            have e2 : (Array.size (α := Value) #[.int .u8 111, .int .u8 110]) = 2 := rfl
            have hcv := Go.Joins.run_convert_bytes_const_at (P := Tryd.prog) w14 38 5 #[.int .u8 111, .int .u8 110] 2 2 w14.heap.size rfl Tryd.underlying38 (by kernel_rfl)
            rw [e2] at hcv
            have HAPP : Hid (Calls Tryd.prog 11 #[.pointer (some ⟨l2, 0, none⟩), .slice (some ⟨w14.heap.size + 1, 0, none⟩) 1 1] ((w14.alloc (.cells #[.int .u8 111, .int .u8 110] 5 (2, 3))).alloc (.cells #[.slice (some ⟨w14.heap.size, 0, none⟩) 2 2] 38)) fun e w' => e = .returned (.int .i64 0) ∧ ∃ p' F', LogSt w0 w' d l2 p' F' (hh ++ [onR]) (A13 + 14) ∧ RecG (Gd w0.heap.size w' F' l2) w0.heap.size w' (.slice pg ng cg) gvals hh) := by
              have hb : Below w14.heap.size w14 ((w14.alloc (.cells #[.int .u8 111, .int .u8 110] 5 (2, 3))).alloc (.cells #[.slice (some ⟨w14.heap.size, 0, none⟩) 2 2] 38)) := ((Below.refl _ _).alloc (Nat.le_refl _) _).alloc (by simp) _
              have h2 : ((w14.alloc (.cells #[.int .u8 111, .int .u8 110] 5 (2, 3))).alloc (.cells #[.slice (some ⟨w14.heap.size, 0, none⟩) 2 2] 38)).heap[w14.heap.size + 1]? = some (.cells #[.slice (some ⟨w14.heap.size, 0, none⟩) 2 2] 38 (0, 0)) := by have := heap_alloc_new (w14.alloc (.cells #[.int .u8 111, .int .u8 110] 5 (2, 3))) (.cells #[.slice (some ⟨w14.heap.size, 0, none⟩) 2 2] 38); simpa using this
              have hrow := rowK_on (G := fun _ => True) (b := w14.heap.size) (new_kept (heap_alloc_new w14 (.cells #[.int .u8 111, .int .u8 110] 5 (2, 3))) (.cells #[.slice (some ⟨w14.heap.size, 0, none⟩) 2 2] 38)) h2 trivial trivial
              have h3 := HW13.out
              refine (log_append (H14.out.1.below hb) HT.out _ 1 1 onR hrow.a on_ok.2.1 on_ok.1 (by rw [on_ok.2.2]; omega) (by omega) (by omega)).mono ?_
              rintro e w' ⟨rfl, p', F', k1, k2, k3⟩
              rw [on_ok.2.2] at k1
              exact ⟨rfl, p', F', k1, (H14.out.2.keep (gd_below hb)).keep (gd_fx k3)⟩
            go_upto_region 42 with (first
              | (simp only [hcv])
              | (go_at_call 11; refine HAPP.out.mono ?_; rintro e w16 ⟨rfl, p16, F16, k1, k2⟩; have H16 : Hid (LogSt w0 w16 d l2 p16 F16 (hh ++ [onR]) (A13 + 14) ∧ RecG (Gd w0.heap.size w16 F16 l2) w0.heap.size w16 (.slice pg ng cg) gvals hh) := ⟨k1, k2⟩; clear k1 k2 H14 HAPP hcv))
            go_upto_region 43 with (go_at_call 7; refine (log_openF H16.out.1 HT.out (by have := HW13.out; omega)).mono ?_; rintro e w17 ⟨l3, vm, rfl, k1, ⟨mvals, k2⟩, k3⟩; obtain ⟨pm, cm, hvm, -⟩ := k2.a; obtain ⟨nm, hnm⟩ : ∃ nm, (hh ++ [onR]).length = nm := ⟨_, rfl⟩; rw [hnm] at hvm; have HNM := hide hnm; subst hvm; have H17 : Hid (Below w0.heap.size w0 w17 ∧ RecG (Gd w0.heap.size w17 F16 l2) w0.heap.size w17 (.slice pg ng cg) gvals hh ∧ RecG (fun k => w16.heap.size ≤ k ∧ k < w17.heap.size) w0.heap.size w17 (.slice pm nm cm) mvals (hh ++ [onR]) ∧ ∀ k, Gd w0.heap.size w17 F16 l2 k → k < w17.heap.size) := ⟨k1.bel, H16.out.2.keep (gd_fr k3), k2, fun k hk => hk.2.1⟩; have HGO : Hid (∀ k, (Value.slice pg ng cg).ownBlock = some k → k < w16.heap.size) := (fun k e => (H16.out.2.ob k e).2.1); clear k1 k2 k3 hnm H16)
            have hcv := Go.Joins.run_convert_bytes_const_at (P := Tryd.prog) w17 38 5 #[.int .u8 111, .int .u8 110] 2 2 w17.heap.size rfl Tryd.underlying38 (by kernel_rfl)
            rw [e2] at hcv
            obtain ⟨i37, hi37⟩ := info37
            have Hi := hide hi37
            clear hi37
            have hng21 : ng ≤ 21 := by have := HNG.out; omega
            have HB20 : Hid (Below w17.heap.size w17 ((w17.alloc (.cells #[.int .u8 111, .int .u8 110] 5 (2, 3))).alloc (.cells #[.slice (some ⟨w17.heap.size, 0, none⟩) 2 2] 38))) := ((Below.refl _ _).alloc (Nat.le_refl _) _).alloc (by simp) _
            have HRX : Hid (RecG (Gd w0.heap.size w17 F16 l2) w0.heap.size ((w17.alloc (.cells #[.int .u8 111, .int .u8 110] 5 (2, 3))).alloc (.cells #[.slice (some ⟨w17.heap.size, 0, none⟩) 2 2] 38)) (.slice pg ng cg) gvals hh) := H17.out.2.1.keep fun k hk => ⟨hk, HB20.out.block k hk.2.1⟩
            have HOX : Hid ((((w17.alloc (.cells #[.int .u8 111, .int .u8 110] 5 (2, 3))).alloc (.cells #[.slice (some ⟨w17.heap.size, 0, none⟩) 2 2] 38)).alloc (.cells #[.slice (some ⟨w17.heap.size + 1, 0, none⟩) 1 1] 35)).ownsRow w0.heap.size 35 1 (.slice pg ng cg) ng gvals) := by have := HRX.out.own; rw [HNG.out] at this; exact this.alloc _
            have HNX : Hid (∀ j u, ([.slice (some ⟨w17.heap.size + 1, 0, none⟩) 1 1] : List Value)[j]? = some u → (((w17.alloc (.cells #[.int .u8 111, .int .u8 110] 5 (2, 3))).alloc (.cells #[.slice (some ⟨w17.heap.size, 0, none⟩) 2 2] 38)).alloc (.cells #[.slice (some ⟨w17.heap.size + 1, 0, none⟩) 1 1] 35)).cell? ((⟨w17.heap.size + 2, 0, none⟩ : Addr).add j) = some u) := by
              have h := World.news_of_block (heap_alloc_new ((w17.alloc (.cells #[.int .u8 111, .int .u8 110] 5 (2, 3))).alloc (.cells #[.slice (some ⟨w17.heap.size, 0, none⟩) 2 2] 38)) (.cells #[.slice (some ⟨w17.heap.size + 1, 0, none⟩) 1 1] 35))
              rw [show ((w17.alloc (.cells #[.int .u8 111, .int .u8 110] 5 (2, 3))).alloc (.cells #[.slice (some ⟨w17.heap.size, 0, none⟩) 2 2] 38)).heap.size = w17.heap.size + 2 from by simp] at h
              exact h
            have HSX : Hid (w0.heap.size ≤ (((w17.alloc (.cells #[.int .u8 111, .int .u8 110] 5 (2, 3))).alloc (.cells #[.slice (some ⟨w17.heap.size, 0, none⟩) 2 2] 38)).alloc (.cells #[.slice (some ⟨w17.heap.size + 1, 0, none⟩) 1 1] 35)).heap.size) := by have := H17.out.1.size; show _ ≤ _; simp; omega
            go_wp2_with (first
              | (go_at_call 5; refine (num_any _ _).mono ?_; rintro e wn ⟨rfl, hwn⟩; have hwn2 := hwn.symm; subst hwn2)
              | (simp only [hcv])
              | (refine wpList_appendOn _ _ _ rfl (by rfl) w0.heap.size 35 i37 (.slice none 0 0) 1 24 Tryd.underlying22 Hi.out.1 Hi.out.2.1 Hi.out.2.2.1 Hi.out.2.2.2 rfl (by decide) (.slice pg ng cg) ng gvals rfl HOX.out ⟨w17.heap.size + 2, 0, none⟩ 1 1 [.slice (some ⟨w17.heap.size + 1, 0, none⟩) 1 1] rfl rfl HNX.out ?g1 ?g4 ?g5 HSX.out ?g6))
            case g1 => first | rfl | (intro x hx; simp at hx; subst hx; rfl)
            case g4 => unfold maxLen; omega
            case g5 => omega
            case g6 =>
              intro vz wz hoz hgz _ hatz
              have hvz := ownsRow_slice hoz (by omega)
              have hbz : Below w0.heap.size w0 wz := (H17.out.1.trans (((HB20.out.alloc HB20.out.size _)).mono H17.out.1.size)).trans (grown_below hgz (fun g hg => (HRX.out.ob g hg).1) HSX.out)
              have hon : RowA wz (.slice (some ⟨w17.heap.size + 1, 0, none⟩) 1 1) onR := by
                have hk : ∀ k, w17.heap.size ≤ k → k < w17.heap.size + 2 → wz.heap[k]? = ((w17.alloc (.cells #[.int .u8 111, .int .u8 110] 5 (2, 3))).alloc (.cells #[.slice (some ⟨w17.heap.size, 0, none⟩) 2 2] 38)).heap[k]? := fun k h1 h2 => (hgz.block k (by simp; omega) (fun e => by have := (HRX.out.ob k e.symm).2.1; omega)).trans (Below.heap_alloc _ _ _ (by simp; omega))
                have h2 : ((w17.alloc (.cells #[.int .u8 111, .int .u8 110] 5 (2, 3))).alloc (.cells #[.slice (some ⟨w17.heap.size, 0, none⟩) 2 2] 38)).heap[w17.heap.size + 1]? = some (.cells #[.slice (some ⟨w17.heap.size, 0, none⟩) 2 2] 38 (0, 0)) := by have := heap_alloc_new (w17.alloc (.cells #[.int .u8 111, .int .u8 110] 5 (2, 3))) (.cells #[.slice (some ⟨w17.heap.size, 0, none⟩) 2 2] 38); simpa using this
                exact (rowK_on (G := fun _ => True) (b := w17.heap.size) ((hk _ (by omega) (by omega)).trans (new_kept (heap_alloc_new w17 (.cells #[.int .u8 111, .int .u8 110] 5 (2, 3))) (.cells #[.slice (some ⟨w17.heap.size, 0, none⟩) 2 2] 38))) ((hk _ (by omega) (by omega)).trans h2) trivial trivial).a
              have HZ : Hid (RecA wz vz (hh ++ [onR]) ∧ RecA wz (.slice pm nm cm) (hh ++ [onR]) ∧ Below w0.heap.size w0 wz) := by
                refine ⟨recA_more HRX.out hon (by rw [HNG.out]; exact hoz) hgz (fun k hk => by have := hk.2.1; simp; omega), (H17.out.2.2.1.keep (G' := fun _ => True) fun k hk => ⟨trivial, ?_⟩).a, hbz⟩
                exact ((hgz.block k (by have := hk.2; simp; omega) (fun e => by have := HGO.out k e.symm; have := hk.1; omega)).trans (Below.heap_alloc _ _ _ (by have := hk.2; simp; omega))).trans (HB20.out.block k hk.2)
              obtain ⟨pz, cz, hvz⟩ := hvz
              subst hvz
              have HEQ := hide (eqRows_same (.slice pm nm cm) _ (hh ++ [onR]) wz HZ.out.2.1 HZ.out.1 (by rw [List.length_append]; simp; omega) (fun r hr => by
                rcases List.mem_append.1 hr with hr | hr
                · exact HFH.out r hr
                · rw [List.mem_singleton.1 hr]; decide))
              clear hoz hgz hatz hbz hon hcv HOX HNX HRX HSX HB20 H17
              go_wp2_with (first
                | (go_at_call 5; refine (num_any _ _).mono ?_; rintro e wn ⟨rfl, hwn⟩; have hwn2 := hwn.symm; subst hwn2)
                | (go_at_call 16; refine HEQ.out.mono ?_; rintro e wy ⟨rfl, N2, hN2⟩; have HY : Hid (Below w0.heap.size w0 wy) := (by rw [hN2]; exact HZ.out.2.2.trans ((below_drewN' _ _).mono HZ.out.2.2.size)); clear hN2 HEQ)
                | (go_at_call 6; refine (HEND.out _ HY.out).mono ?_; rintro e wq ⟨rfl, hq⟩; have HQ := hide hq; clear hq))
              go_ret
              exact ⟨rfl, HQ.out⟩
        · clear HC3
          have HOF : Hid (∀ wx, Fa w0 wx d p10 F10 bs10 61 → Calls Tryd.prog 14 #[.pointer (some ⟨d, 0, none⟩)] wx fun e w' => e = .returned (.bool true) ∧ Fa w0 w' d p10 F10 bs10 61 ∧ Fr wx F10 w' F10) := fun wx hd => by
            refine (fa_off hd).mono ?_
            rintro e w' ⟨rfl, k1, k2⟩
            exact ⟨by rw [ho], k1, k2⟩
          go_upto_region 36 with (first
            | (go_at_call 5; refine (num_any _ _).mono ?_; rintro e wn ⟨rfl, hwn⟩; have hwn2 := hwn.symm; subst hwn2)
            | (go_at_call 14; refine (HOF.out _ H10.out.1).mono ?_; rintro e wn ⟨rfl, k1, k2⟩; replace H10 : Hid (Fa w0 wn d p10 F10 bs10 61 ∧ Af rr wh bs10) := ⟨k1, H10.out.2⟩; replace HK10 : Hid (RecG (Gd w0.heap.size wn F10 l) w0.heap.size wn (.slice pw nw cw) vals rr ∧ RecK (Gd w0.heap.size wn F10 l) wn (.slice ph nh ch) wh) := ⟨HK10.out.1.keep (gd_fr k2), HK10.out.2.keep (gd_fr k2)⟩; clear k1 k2 HOF))
          go_upto_region 39 with (first
            | (go_at_call 12; refine (fa_arm H10.out.1 0 0 0 (by decide) (by decide) (by decide)).mono ?_; rintro e w11 ⟨rfl, p11, k1, k2, k3⟩; have H11 : Hid (Fa w0 w11 d p11 F10 bs10 61 ∧ p11.ain = 0 ∧ Af rr wh bs10) := ⟨k1, k2.2, H10.out.2⟩; have HK11 : Hid (RecG (Gd w0.heap.size w11 F10 l) w0.heap.size w11 (.slice pw nw cw) vals rr ∧ RecK (Gd w0.heap.size w11 F10 l) w11 (.slice ph nh ch) wh) := ⟨HK10.out.1.keep (gd_fr k3), HK10.out.2.keep (gd_fr k3)⟩; clear k1 k2 k3 H10 HK10)
            | (go_at_call 15; refine (fa_on H11.out.1).mono ?_; rintro e w12 ⟨rfl, p12, F12, k1, k2, k3⟩; have H12 : Hid (Fa w0 w12 d p12 F12 bs10 61 ∧ (p12.off = false ∧ p12.ain = 0) ∧ Af rr wh bs10) := ⟨k1, ⟨k2.1, by rw [k2.2]; exact H11.out.2.1⟩, H11.out.2.2⟩; have HK12 : Hid (RecG (Gd w0.heap.size w12 F12 l) w0.heap.size w12 (.slice pw nw cw) vals rr ∧ RecK (Gd w0.heap.size w12 F12 l) w12 (.slice ph nh ch) wh) := ⟨HK11.out.1.keep (gd_fr k3), HK11.out.2.keep (gd_fr k3)⟩; clear k1 k2 k3 H11 HK11)
            | (go_at_call 7; refine (fa_openL H12.out.1 H12.out.2.1.1 H12.out.2.1.2 (by decide) HT.out H12.out.2.2 (by have := HFEW.out; omega) (by have := HFEW.out; rcases HWH.out with e | e <;> rw [e] <;> simp <;> omega)).mono ?_; rintro e w13 ⟨l2, vg, rfl, p13, F13, hh, A13, k1, k2, k3, k4, ⟨gvals, k5⟩, k6⟩; obtain ⟨pg, cg, hvg, -⟩ := k5.a; obtain ⟨ng, hng⟩ : ∃ ng, hh.length = ng := ⟨_, rfl⟩; rw [hng] at hvg; have HNG := hide hng; subst hvg; have H13 : Hid (LogSt w0 w13 d l2 p13 F13 hh A13 ∧ (hh = rr ∨ hh = wh) ∧ p13.wr ≤ 62 ∧ RecG (Gd w0.heap.size w13 F13 l2) w0.heap.size w13 (.slice pg ng cg) gvals hh) := ⟨k1, k2, k3, k5⟩; have HK13 : Hid (RecG (Gd w0.heap.size w13 F13 l) w0.heap.size w13 (.slice pw nw cw) vals rr ∧ RecK (Gd w0.heap.size w13 F13 l) w13 (.slice ph nh ch) wh) := ⟨HK12.out.1.keep (gd_fr k6), HK12.out.2.keep (gd_fr k6)⟩; have HA13 : Hid (A13 ≤ bs10.length) := k4; clear k1 k2 k3 k4 k5 k6 hng H12 HK12))
          have HFW : Hid (∀ r ∈ wh, r.length ≤ 1000000 ∧ ∀ x ∈ r, x.length ≤ 140737488355328) := by
            rcases HWH.out with e | e <;> rw [e]
            · intro r hr
              rcases List.mem_append.1 hr with hr | hr
              · exact HFEW.out.2.2.1 r hr
              · rw [List.mem_singleton.1 hr]; decide
            · exact fun r hr => absurd hr (by simp)
          have hwl : wh.length ≤ 21 := by have := HFEW.out; rcases HWH.out with e | e <;> rw [e] <;> simp <;> omega
          have hgn : hh.length ≤ 21 := by rcases H13.out.2.1 with e | e <;> rw [e] <;> have := HFEW.out <;> omega
          have HFH : Hid (∀ r ∈ hh, r.length ≤ 1000000 ∧ ∀ x ∈ r, x.length ≤ 140737488355328) := by
            rcases H13.out.2.1 with e | e <;> rw [e]
            · exact HFEW.out.2.2.1
            · exact HFW.out
          have hrn : rr.length ≤ 20 := HFEW.out.1
          by_cases hl : ng = nw
          · have HE : Hid (hh = rr) := by
              rcases H13.out.2.1 with e | e
              · exact e
              · have h1 := HNG.out
                have h2 := HNW.out
                rcases HWH.out with e2 | e2
                · rw [e, e2, List.length_append, List.length_singleton] at h1; omega
                · rw [e, e2] at h1
                  rw [e, e2]
                  exact (List.eq_nil_of_length_eq_zero (by simp at h1; omega)).symm
            have HEQ := hide (eqRows_same (.slice pg ng cg) (.slice pw nw cw) rr w13 (by have := H13.out.2.2.2.a; rw [HE.out] at this; exact this) HK13.out.1.a (by omega) HFEW.out.2.2.1)
            clear HE hl
            go_upto_region 41 with (first
              | (go_at_call 5; refine (num_any _ _).mono ?_; rintro e wn ⟨rfl, hwn⟩; have hwn2 := hwn.symm; subst hwn2)
              | (go_at_call 16; refine HEQ.out.mono ?_; rintro e w14 ⟨rfl, N1, hN1⟩; have hB14 : Below w13.heap.size w13 w14 := (by rw [hN1]; exact below_drewN' _ _); have H14 : Hid (LogSt w0 w14 d l2 p13 F13 hh A13 ∧ RecG (Gd w0.heap.size w14 F13 l2) w0.heap.size w14 (.slice pg ng cg) gvals hh) := ⟨H13.out.1.below hB14, H13.out.2.2.2.keep (gd_below hB14)⟩; clear hN1 hB14 HEQ))
            have HW13 : Hid (p13.wr ≤ 62 ∧ A13 ≤ 80000) := ⟨H13.out.2.2.1, Nat.le_trans HA13.out HBS10.out⟩
            clear H13 HK13
            have e2 : (Array.size (α := Value) #[.int .u8 111, .int .u8 110]) = 2 := rfl
            have hcv := Go.Joins.run_convert_bytes_const_at (P := Tryd.prog) w14 38 5 #[.int .u8 111, .int .u8 110] 2 2 w14.heap.size rfl Tryd.underlying38 (by kernel_rfl)
            rw [e2] at hcv
            have HAPP : Hid (Calls Tryd.prog 11 #[.pointer (some ⟨l2, 0, none⟩), .slice (some ⟨w14.heap.size + 1, 0, none⟩) 1 1] ((w14.alloc (.cells #[.int .u8 111, .int .u8 110] 5 (2, 3))).alloc (.cells #[.slice (some ⟨w14.heap.size, 0, none⟩) 2 2] 38)) fun e w' => e = .returned (.int .i64 0) ∧ ∃ p' F', LogSt w0 w' d l2 p' F' (hh ++ [onR]) (A13 + 14) ∧ RecG (Gd w0.heap.size w' F' l2) w0.heap.size w' (.slice pg ng cg) gvals hh) := by
              have hb : Below w14.heap.size w14 ((w14.alloc (.cells #[.int .u8 111, .int .u8 110] 5 (2, 3))).alloc (.cells #[.slice (some ⟨w14.heap.size, 0, none⟩) 2 2] 38)) := ((Below.refl _ _).alloc (Nat.le_refl _) _).alloc (by simp) _
              have h2 : ((w14.alloc (.cells #[.int .u8 111, .int .u8 110] 5 (2, 3))).alloc (.cells #[.slice (some ⟨w14.heap.size, 0, none⟩) 2 2] 38)).heap[w14.heap.size + 1]? = some (.cells #[.slice (some ⟨w14.heap.size, 0, none⟩) 2 2] 38 (0, 0)) := by have := heap_alloc_new (w14.alloc (.cells #[.int .u8 111, .int .u8 110] 5 (2, 3))) (.cells #[.slice (some ⟨w14.heap.size, 0, none⟩) 2 2] 38); simpa using this
              have hrow := rowK_on (G := fun _ => True) (b := w14.heap.size) (new_kept (heap_alloc_new w14 (.cells #[.int .u8 111, .int .u8 110] 5 (2, 3))) (.cells #[.slice (some ⟨w14.heap.size, 0, none⟩) 2 2] 38)) h2 trivial trivial
              have h3 := HW13.out
              refine (log_append (H14.out.1.below hb) HT.out _ 1 1 onR hrow.a on_ok.2.1 on_ok.1 (by rw [on_ok.2.2]; omega) (by omega) (by omega)).mono ?_
              rintro e w' ⟨rfl, p', F', k1, k2, k3⟩
              rw [on_ok.2.2] at k1
              exact ⟨rfl, p', F', k1, (H14.out.2.keep (gd_below hb)).keep (gd_fx k3)⟩
            go_upto_region 42 with (first
              | (simp only [hcv])
              | (go_at_call 11; refine HAPP.out.mono ?_; rintro e w16 ⟨rfl, p16, F16, k1, k2⟩; have H16 : Hid (LogSt w0 w16 d l2 p16 F16 (hh ++ [onR]) (A13 + 14) ∧ RecG (Gd w0.heap.size w16 F16 l2) w0.heap.size w16 (.slice pg ng cg) gvals hh) := ⟨k1, k2⟩; clear k1 k2 H14 HAPP hcv))
            go_upto_region 43 with (go_at_call 7; refine (log_openF H16.out.1 HT.out (by have := HW13.out; omega)).mono ?_; rintro e w17 ⟨l3, vm, rfl, k1, ⟨mvals, k2⟩, k3⟩; obtain ⟨pm, cm, hvm, -⟩ := k2.a; obtain ⟨nm, hnm⟩ : ∃ nm, (hh ++ [onR]).length = nm := ⟨_, rfl⟩; rw [hnm] at hvm; have HNM := hide hnm; subst hvm; have H17 : Hid (Below w0.heap.size w0 w17 ∧ RecG (Gd w0.heap.size w17 F16 l2) w0.heap.size w17 (.slice pg ng cg) gvals hh ∧ RecG (fun k => w16.heap.size ≤ k ∧ k < w17.heap.size) w0.heap.size w17 (.slice pm nm cm) mvals (hh ++ [onR]) ∧ ∀ k, Gd w0.heap.size w17 F16 l2 k → k < w17.heap.size) := ⟨k1.bel, H16.out.2.keep (gd_fr k3), k2, fun k hk => hk.2.1⟩; have HGO : Hid (∀ k, (Value.slice pg ng cg).ownBlock = some k → k < w16.heap.size) := (fun k e => (H16.out.2.ob k e).2.1); clear k1 k2 k3 hnm H16)
            have hcv := Go.Joins.run_convert_bytes_const_at (P := Tryd.prog) w17 38 5 #[.int .u8 111, .int .u8 110] 2 2 w17.heap.size rfl Tryd.underlying38 (by kernel_rfl)
            rw [e2] at hcv
            obtain ⟨i37, hi37⟩ := info37
            have Hi := hide hi37
            clear hi37
            have hng21 : ng ≤ 21 := by have := HNG.out; omega
            have HB20 : Hid (Below w17.heap.size w17 ((w17.alloc (.cells #[.int .u8 111, .int .u8 110] 5 (2, 3))).alloc (.cells #[.slice (some ⟨w17.heap.size, 0, none⟩) 2 2] 38))) := ((Below.refl _ _).alloc (Nat.le_refl _) _).alloc (by simp) _
            have HRX : Hid (RecG (Gd w0.heap.size w17 F16 l2) w0.heap.size ((w17.alloc (.cells #[.int .u8 111, .int .u8 110] 5 (2, 3))).alloc (.cells #[.slice (some ⟨w17.heap.size, 0, none⟩) 2 2] 38)) (.slice pg ng cg) gvals hh) := H17.out.2.1.keep fun k hk => ⟨hk, HB20.out.block k hk.2.1⟩
            have HOX : Hid ((((w17.alloc (.cells #[.int .u8 111, .int .u8 110] 5 (2, 3))).alloc (.cells #[.slice (some ⟨w17.heap.size, 0, none⟩) 2 2] 38)).alloc (.cells #[.slice (some ⟨w17.heap.size + 1, 0, none⟩) 1 1] 35)).ownsRow w0.heap.size 35 1 (.slice pg ng cg) ng gvals) := by have := HRX.out.own; rw [HNG.out] at this; exact this.alloc _
            have HNX : Hid (∀ j u, ([.slice (some ⟨w17.heap.size + 1, 0, none⟩) 1 1] : List Value)[j]? = some u → (((w17.alloc (.cells #[.int .u8 111, .int .u8 110] 5 (2, 3))).alloc (.cells #[.slice (some ⟨w17.heap.size, 0, none⟩) 2 2] 38)).alloc (.cells #[.slice (some ⟨w17.heap.size + 1, 0, none⟩) 1 1] 35)).cell? ((⟨w17.heap.size + 2, 0, none⟩ : Addr).add j) = some u) := by
              have h := World.news_of_block (heap_alloc_new ((w17.alloc (.cells #[.int .u8 111, .int .u8 110] 5 (2, 3))).alloc (.cells #[.slice (some ⟨w17.heap.size, 0, none⟩) 2 2] 38)) (.cells #[.slice (some ⟨w17.heap.size + 1, 0, none⟩) 1 1] 35))
              rw [show ((w17.alloc (.cells #[.int .u8 111, .int .u8 110] 5 (2, 3))).alloc (.cells #[.slice (some ⟨w17.heap.size, 0, none⟩) 2 2] 38)).heap.size = w17.heap.size + 2 from by simp] at h
              exact h
            have HSX : Hid (w0.heap.size ≤ (((w17.alloc (.cells #[.int .u8 111, .int .u8 110] 5 (2, 3))).alloc (.cells #[.slice (some ⟨w17.heap.size, 0, none⟩) 2 2] 38)).alloc (.cells #[.slice (some ⟨w17.heap.size + 1, 0, none⟩) 1 1] 35)).heap.size) := by have := H17.out.1.size; show _ ≤ _; simp; omega
            go_wp2_with (first
              | (go_at_call 5; refine (num_any _ _).mono ?_; rintro e wn ⟨rfl, hwn⟩; have hwn2 := hwn.symm; subst hwn2)
              | (simp only [hcv])
              | (refine wpList_appendOn _ _ _ rfl (by rfl) w0.heap.size 35 i37 (.slice none 0 0) 1 24 Tryd.underlying22 Hi.out.1 Hi.out.2.1 Hi.out.2.2.1 Hi.out.2.2.2 rfl (by decide) (.slice pg ng cg) ng gvals rfl HOX.out ⟨w17.heap.size + 2, 0, none⟩ 1 1 [.slice (some ⟨w17.heap.size + 1, 0, none⟩) 1 1] rfl rfl HNX.out ?g1 ?g4 ?g5 HSX.out ?g6))
            case g1 => first | rfl | (intro x hx; simp at hx; subst hx; rfl)
            case g4 => unfold maxLen; omega
            case g5 => omega
            case g6 =>
              intro vz wz hoz hgz _ hatz
              have hvz := ownsRow_slice hoz (by omega)
              have hbz : Below w0.heap.size w0 wz := (H17.out.1.trans (((HB20.out.alloc HB20.out.size _)).mono H17.out.1.size)).trans (grown_below hgz (fun g hg => (HRX.out.ob g hg).1) HSX.out)
              have hon : RowA wz (.slice (some ⟨w17.heap.size + 1, 0, none⟩) 1 1) onR := by
                have hk : ∀ k, w17.heap.size ≤ k → k < w17.heap.size + 2 → wz.heap[k]? = ((w17.alloc (.cells #[.int .u8 111, .int .u8 110] 5 (2, 3))).alloc (.cells #[.slice (some ⟨w17.heap.size, 0, none⟩) 2 2] 38)).heap[k]? := fun k h1 h2 => (hgz.block k (by simp; omega) (fun e => by have := (HRX.out.ob k e.symm).2.1; omega)).trans (Below.heap_alloc _ _ _ (by simp; omega))
                have h2 : ((w17.alloc (.cells #[.int .u8 111, .int .u8 110] 5 (2, 3))).alloc (.cells #[.slice (some ⟨w17.heap.size, 0, none⟩) 2 2] 38)).heap[w17.heap.size + 1]? = some (.cells #[.slice (some ⟨w17.heap.size, 0, none⟩) 2 2] 38 (0, 0)) := by have := heap_alloc_new (w17.alloc (.cells #[.int .u8 111, .int .u8 110] 5 (2, 3))) (.cells #[.slice (some ⟨w17.heap.size, 0, none⟩) 2 2] 38); simpa using this
                exact (rowK_on (G := fun _ => True) (b := w17.heap.size) ((hk _ (by omega) (by omega)).trans (new_kept (heap_alloc_new w17 (.cells #[.int .u8 111, .int .u8 110] 5 (2, 3))) (.cells #[.slice (some ⟨w17.heap.size, 0, none⟩) 2 2] 38))) ((hk _ (by omega) (by omega)).trans h2) trivial trivial).a
              have HZ : Hid (RecA wz vz (hh ++ [onR]) ∧ RecA wz (.slice pm nm cm) (hh ++ [onR]) ∧ Below w0.heap.size w0 wz) := by
                refine ⟨recA_more HRX.out hon (by rw [HNG.out]; exact hoz) hgz (fun k hk => by have := hk.2.1; simp; omega), (H17.out.2.2.1.keep (G' := fun _ => True) fun k hk => ⟨trivial, ?_⟩).a, hbz⟩
                exact ((hgz.block k (by have := hk.2; simp; omega) (fun e => by have := HGO.out k e.symm; have := hk.1; omega)).trans (Below.heap_alloc _ _ _ (by have := hk.2; simp; omega))).trans (HB20.out.block k hk.2)
              obtain ⟨pz, cz, hvz⟩ := hvz
              subst hvz
              have HEQ := hide (eqRows_same (.slice pm nm cm) _ (hh ++ [onR]) wz HZ.out.2.1 HZ.out.1 (by rw [List.length_append]; simp; omega) (fun r hr => by
                rcases List.mem_append.1 hr with hr | hr
                · exact HFH.out r hr
                · rw [List.mem_singleton.1 hr]; decide))
              clear hoz hgz hatz hbz hon hcv HOX HNX HRX HSX HB20 H17
              go_wp2_with (first
                | (go_at_call 5; refine (num_any _ _).mono ?_; rintro e wn ⟨rfl, hwn⟩; have hwn2 := hwn.symm; subst hwn2)
                | (go_at_call 16; refine HEQ.out.mono ?_; rintro e wy ⟨rfl, N2, hN2⟩; have HY : Hid (Below w0.heap.size w0 wy) := (by rw [hN2]; exact HZ.out.2.2.trans ((below_drewN' _ _).mono HZ.out.2.2.size)); clear hN2 HEQ)
                | (go_at_call 6; refine (HEND.out _ HY.out).mono ?_; rintro e wq ⟨rfl, hq⟩; have HQ := hide hq; clear hq))
              go_ret
              exact ⟨rfl, HQ.out⟩
          · have HE : Hid (hh = wh) := by
              rcases H13.out.2.1 with e | e
              · have h1 := HNG.out
                have h2 := HNW.out
                rw [e] at h1
                exact absurd (h1.symm.trans h2.symm) hl
              · exact e
            have HEQ1 := hide (eqRows_len pg pw ng cg nw cw w13 hl)
            have HEQ2 := hide (eqRows_same (.slice pg ng cg) (.slice ph nh ch) wh w13 (by have := H13.out.2.2.2.a; rw [HE.out] at this; exact this) HK13.out.2.a (by omega) HFW.out)
            clear HE hl
            go_upto_region 41 with (first
              | (go_at_call 5; refine (num_any _ _).mono ?_; rintro e wn ⟨rfl, hwn⟩; have hwn2 := hwn.symm; subst hwn2)
              | (go_at_call 16; refine HEQ1.out.mono ?_; rintro e wn ⟨rfl, hwn⟩; have hwn2 := hwn.symm; subst hwn2; clear HEQ1)
              | (go_at_call 16; refine HEQ2.out.mono ?_; rintro e w14 ⟨rfl, N1, hN1⟩; have hB14 : Below w13.heap.size w13 w14 := (by rw [hN1]; exact below_drewN' _ _); have H14 : Hid (LogSt w0 w14 d l2 p13 F13 hh A13 ∧ RecG (Gd w0.heap.size w14 F13 l2) w0.heap.size w14 (.slice pg ng cg) gvals hh) := ⟨H13.out.1.below hB14, H13.out.2.2.2.keep (gd_below hB14)⟩; clear hN1 hB14 HEQ2))
            have HW13 : Hid (p13.wr ≤ 62 ∧ A13 ≤ 80000) := ⟨H13.out.2.2.1, Nat.le_trans HA13.out HBS10.out⟩
            clear H13 HK13
            have e2 : (Array.size (α := Value) #[.int .u8 111, .int .u8 110]) = 2 := rfl
            have hcv := Go.Joins.run_convert_bytes_const_at (P := Tryd.prog) w14 38 5 #[.int .u8 111, .int .u8 110] 2 2 w14.heap.size rfl Tryd.underlying38 (by kernel_rfl)
            rw [e2] at hcv
            have HAPP : Hid (Calls Tryd.prog 11 #[.pointer (some ⟨l2, 0, none⟩), .slice (some ⟨w14.heap.size + 1, 0, none⟩) 1 1] ((w14.alloc (.cells #[.int .u8 111, .int .u8 110] 5 (2, 3))).alloc (.cells #[.slice (some ⟨w14.heap.size, 0, none⟩) 2 2] 38)) fun e w' => e = .returned (.int .i64 0) ∧ ∃ p' F', LogSt w0 w' d l2 p' F' (hh ++ [onR]) (A13 + 14) ∧ RecG (Gd w0.heap.size w' F' l2) w0.heap.size w' (.slice pg ng cg) gvals hh) := by
              have hb : Below w14.heap.size w14 ((w14.alloc (.cells #[.int .u8 111, .int .u8 110] 5 (2, 3))).alloc (.cells #[.slice (some ⟨w14.heap.size, 0, none⟩) 2 2] 38)) := ((Below.refl _ _).alloc (Nat.le_refl _) _).alloc (by simp) _
              have h2 : ((w14.alloc (.cells #[.int .u8 111, .int .u8 110] 5 (2, 3))).alloc (.cells #[.slice (some ⟨w14.heap.size, 0, none⟩) 2 2] 38)).heap[w14.heap.size + 1]? = some (.cells #[.slice (some ⟨w14.heap.size, 0, none⟩) 2 2] 38 (0, 0)) := by have := heap_alloc_new (w14.alloc (.cells #[.int .u8 111, .int .u8 110] 5 (2, 3))) (.cells #[.slice (some ⟨w14.heap.size, 0, none⟩) 2 2] 38); simpa using this
              have hrow := rowK_on (G := fun _ => True) (b := w14.heap.size) (new_kept (heap_alloc_new w14 (.cells #[.int .u8 111, .int .u8 110] 5 (2, 3))) (.cells #[.slice (some ⟨w14.heap.size, 0, none⟩) 2 2] 38)) h2 trivial trivial
              have h3 := HW13.out
              refine (log_append (H14.out.1.below hb) HT.out _ 1 1 onR hrow.a on_ok.2.1 on_ok.1 (by rw [on_ok.2.2]; omega) (by omega) (by omega)).mono ?_
              rintro e w' ⟨rfl, p', F', k1, k2, k3⟩
              rw [on_ok.2.2] at k1
              exact ⟨rfl, p', F', k1, (H14.out.2.keep (gd_below hb)).keep (gd_fx k3)⟩
            go_upto_region 42 with (first
              | (simp only [hcv])
              | (go_at_call 11; refine HAPP.out.mono ?_; rintro e w16 ⟨rfl, p16, F16, k1, k2⟩; have H16 : Hid (LogSt w0 w16 d l2 p16 F16 (hh ++ [onR]) (A13 + 14) ∧ RecG (Gd w0.heap.size w16 F16 l2) w0.heap.size w16 (.slice pg ng cg) gvals hh) := ⟨k1, k2⟩; clear k1 k2 H14 HAPP hcv))
            go_upto_region 43 with (go_at_call 7; refine (log_openF H16.out.1 HT.out (by have := HW13.out; omega)).mono ?_; rintro e w17 ⟨l3, vm, rfl, k1, ⟨mvals, k2⟩, k3⟩; obtain ⟨pm, cm, hvm, -⟩ := k2.a; obtain ⟨nm, hnm⟩ : ∃ nm, (hh ++ [onR]).length = nm := ⟨_, rfl⟩; rw [hnm] at hvm; have HNM := hide hnm; subst hvm; have H17 : Hid (Below w0.heap.size w0 w17 ∧ RecG (Gd w0.heap.size w17 F16 l2) w0.heap.size w17 (.slice pg ng cg) gvals hh ∧ RecG (fun k => w16.heap.size ≤ k ∧ k < w17.heap.size) w0.heap.size w17 (.slice pm nm cm) mvals (hh ++ [onR]) ∧ ∀ k, Gd w0.heap.size w17 F16 l2 k → k < w17.heap.size) := ⟨k1.bel, H16.out.2.keep (gd_fr k3), k2, fun k hk => hk.2.1⟩; have HGO : Hid (∀ k, (Value.slice pg ng cg).ownBlock = some k → k < w16.heap.size) := (fun k e => (H16.out.2.ob k e).2.1); clear k1 k2 k3 hnm H16)
            have hcv := Go.Joins.run_convert_bytes_const_at (P := Tryd.prog) w17 38 5 #[.int .u8 111, .int .u8 110] 2 2 w17.heap.size rfl Tryd.underlying38 (by kernel_rfl)
            rw [e2] at hcv
            obtain ⟨i37, hi37⟩ := info37
            have Hi := hide hi37
            clear hi37
            have hng21 : ng ≤ 21 := by have := HNG.out; omega
            have HB20 : Hid (Below w17.heap.size w17 ((w17.alloc (.cells #[.int .u8 111, .int .u8 110] 5 (2, 3))).alloc (.cells #[.slice (some ⟨w17.heap.size, 0, none⟩) 2 2] 38))) := ((Below.refl _ _).alloc (Nat.le_refl _) _).alloc (by simp) _
            have HRX : Hid (RecG (Gd w0.heap.size w17 F16 l2) w0.heap.size ((w17.alloc (.cells #[.int .u8 111, .int .u8 110] 5 (2, 3))).alloc (.cells #[.slice (some ⟨w17.heap.size, 0, none⟩) 2 2] 38)) (.slice pg ng cg) gvals hh) := H17.out.2.1.keep fun k hk => ⟨hk, HB20.out.block k hk.2.1⟩
            have HOX : Hid ((((w17.alloc (.cells #[.int .u8 111, .int .u8 110] 5 (2, 3))).alloc (.cells #[.slice (some ⟨w17.heap.size, 0, none⟩) 2 2] 38)).alloc (.cells #[.slice (some ⟨w17.heap.size + 1, 0, none⟩) 1 1] 35)).ownsRow w0.heap.size 35 1 (.slice pg ng cg) ng gvals) := by have := HRX.out.own; rw [HNG.out] at this; exact this.alloc _
            have HNX : Hid (∀ j u, ([.slice (some ⟨w17.heap.size + 1, 0, none⟩) 1 1] : List Value)[j]? = some u → (((w17.alloc (.cells #[.int .u8 111, .int .u8 110] 5 (2, 3))).alloc (.cells #[.slice (some ⟨w17.heap.size, 0, none⟩) 2 2] 38)).alloc (.cells #[.slice (some ⟨w17.heap.size + 1, 0, none⟩) 1 1] 35)).cell? ((⟨w17.heap.size + 2, 0, none⟩ : Addr).add j) = some u) := by
              have h := World.news_of_block (heap_alloc_new ((w17.alloc (.cells #[.int .u8 111, .int .u8 110] 5 (2, 3))).alloc (.cells #[.slice (some ⟨w17.heap.size, 0, none⟩) 2 2] 38)) (.cells #[.slice (some ⟨w17.heap.size + 1, 0, none⟩) 1 1] 35))
              rw [show ((w17.alloc (.cells #[.int .u8 111, .int .u8 110] 5 (2, 3))).alloc (.cells #[.slice (some ⟨w17.heap.size, 0, none⟩) 2 2] 38)).heap.size = w17.heap.size + 2 from by simp] at h
              exact h
            have HSX : Hid (w0.heap.size ≤ (((w17.alloc (.cells #[.int .u8 111, .int .u8 110] 5 (2, 3))).alloc (.cells #[.slice (some ⟨w17.heap.size, 0, none⟩) 2 2] 38)).alloc (.cells #[.slice (some ⟨w17.heap.size + 1, 0, none⟩) 1 1] 35)).heap.size) := by have := H17.out.1.size; show _ ≤ _; simp; omega
            go_wp2_with (first
              | (go_at_call 5; refine (num_any _ _).mono ?_; rintro e wn ⟨rfl, hwn⟩; have hwn2 := hwn.symm; subst hwn2)
              | (simp only [hcv])
              | (refine wpList_appendOn _ _ _ rfl (by rfl) w0.heap.size 35 i37 (.slice none 0 0) 1 24 Tryd.underlying22 Hi.out.1 Hi.out.2.1 Hi.out.2.2.1 Hi.out.2.2.2 rfl (by decide) (.slice pg ng cg) ng gvals rfl HOX.out ⟨w17.heap.size + 2, 0, none⟩ 1 1 [.slice (some ⟨w17.heap.size + 1, 0, none⟩) 1 1] rfl rfl HNX.out ?g1 ?g4 ?g5 HSX.out ?g6))
            case g1 => first | rfl | (intro x hx; simp at hx; subst hx; rfl)
            case g4 => unfold maxLen; omega
            case g5 => omega
            case g6 =>
              intro vz wz hoz hgz _ hatz
              have hvz := ownsRow_slice hoz (by omega)
              have hbz : Below w0.heap.size w0 wz := (H17.out.1.trans (((HB20.out.alloc HB20.out.size _)).mono H17.out.1.size)).trans (grown_below hgz (fun g hg => (HRX.out.ob g hg).1) HSX.out)
              have hon : RowA wz (.slice (some ⟨w17.heap.size + 1, 0, none⟩) 1 1) onR := by
                have hk : ∀ k, w17.heap.size ≤ k → k < w17.heap.size + 2 → wz.heap[k]? = ((w17.alloc (.cells #[.int .u8 111, .int .u8 110] 5 (2, 3))).alloc (.cells #[.slice (some ⟨w17.heap.size, 0, none⟩) 2 2] 38)).heap[k]? := fun k h1 h2 => (hgz.block k (by simp; omega) (fun e => by have := (HRX.out.ob k e.symm).2.1; omega)).trans (Below.heap_alloc _ _ _ (by simp; omega))
                have h2 : ((w17.alloc (.cells #[.int .u8 111, .int .u8 110] 5 (2, 3))).alloc (.cells #[.slice (some ⟨w17.heap.size, 0, none⟩) 2 2] 38)).heap[w17.heap.size + 1]? = some (.cells #[.slice (some ⟨w17.heap.size, 0, none⟩) 2 2] 38 (0, 0)) := by have := heap_alloc_new (w17.alloc (.cells #[.int .u8 111, .int .u8 110] 5 (2, 3))) (.cells #[.slice (some ⟨w17.heap.size, 0, none⟩) 2 2] 38); simpa using this
                exact (rowK_on (G := fun _ => True) (b := w17.heap.size) ((hk _ (by omega) (by omega)).trans (new_kept (heap_alloc_new w17 (.cells #[.int .u8 111, .int .u8 110] 5 (2, 3))) (.cells #[.slice (some ⟨w17.heap.size, 0, none⟩) 2 2] 38))) ((hk _ (by omega) (by omega)).trans h2) trivial trivial).a
              have HZ : Hid (RecA wz vz (hh ++ [onR]) ∧ RecA wz (.slice pm nm cm) (hh ++ [onR]) ∧ Below w0.heap.size w0 wz) := by
                refine ⟨recA_more HRX.out hon (by rw [HNG.out]; exact hoz) hgz (fun k hk => by have := hk.2.1; simp; omega), (H17.out.2.2.1.keep (G' := fun _ => True) fun k hk => ⟨trivial, ?_⟩).a, hbz⟩
                exact ((hgz.block k (by have := hk.2; simp; omega) (fun e => by have := HGO.out k e.symm; have := hk.1; omega)).trans (Below.heap_alloc _ _ _ (by have := hk.2; simp; omega))).trans (HB20.out.block k hk.2)
              obtain ⟨pz, cz, hvz⟩ := hvz
              subst hvz
              have HEQ := hide (eqRows_same (.slice pm nm cm) _ (hh ++ [onR]) wz HZ.out.2.1 HZ.out.1 (by rw [List.length_append]; simp; omega) (fun r hr => by
                rcases List.mem_append.1 hr with hr | hr
                · exact HFH.out r hr
                · rw [List.mem_singleton.1 hr]; decide))
              clear hoz hgz hatz hbz hon hcv HOX HNX HRX HSX HB20 H17
              go_wp2_with (first
                | (go_at_call 5; refine (num_any _ _).mono ?_; rintro e wn ⟨rfl, hwn⟩; have hwn2 := hwn.symm; subst hwn2)
                | (go_at_call 16; refine HEQ.out.mono ?_; rintro e wy ⟨rfl, N2, hN2⟩; have HY : Hid (Below w0.heap.size w0 wy) := (by rw [hN2]; exact HZ.out.2.2.trans ((below_drewN' _ _).mono HZ.out.2.2.size)); clear hN2 HEQ)
                | (go_at_call 6; refine (HEND.out _ HY.out).mono ?_; rintro e wq ⟨rfl, hq⟩; have HQ := hide hq; clear hq))
              go_ret
              exact ⟨rfl, HQ.out⟩
      · have HOF : Hid (∀ wx, Di w0.heap.size wx d p7 F7 → Calls Tryd.prog 14 #[.pointer (some ⟨d, 0, none⟩)] wx fun e w' => e = .returned (.bool false) ∧ Di w0.heap.size w' d p7 F7 ∧ Fr wx F7 w' F7) := fun wx hd => by
          refine (di_off wx hd).mono ?_
          rintro e w' ⟨rfl, k1, k2⟩
          exact ⟨by rw [ho], k1, k2⟩
        have HD : Hid (Di w0.heap.size wc d p7 F7 ∧ Below w0.heap.size w0 wc) := ⟨hD, hB⟩
        clear hD hB hw hrg hR
        go_wp2_with (go_at_call 14; refine (HOF.out _ HD.out.1).mono ?_; rintro e wn ⟨rfl, k1, k2⟩; replace HD : Hid (Di w0.heap.size wn d p7 F7 ∧ Below w0.heap.size w0 wn) := ⟨k1, bel_fr HD.out.2 (Nat.le_refl _) k2 HD.out.1.ge⟩; have s5 : wn.cell? ⟨w.heap.size, 5, none⟩ = some (.bool true) := (by rw [HD.out.2.cell (p := ⟨w.heap.size, 5, none⟩) (heap_lt HX.out)]; exact b5); clear k1 k2)
        go_ret
        exact ⟨rfl, HB0.out.trans (HD.out.2.mono HB0.out.size)⟩

end Go.Proofs.YtgmahgfelbkoeaaDoor

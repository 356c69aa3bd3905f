/- DiskOrder's walk. -/
import Derived.Test.YtiblnkiecpcdpaaJ14S
import Derived.Lib.SmallJoins
import Derived.Deep.CutRange
namespace Go.Proofs.Ytiblnkiecpcdpaa
open Go.RowKit
set_option linter.unusedVariables false
set_option linter.unusedSimpArgs false

set_option maxRecDepth 100000 in
set_option maxHeartbeats 16000000 in
theorem diskOrder_any (pf : Option Addr) (nf cf : Nat) (turn room : Int) (w : World) (hF : FilesIn w (.slice pf nf cf)) (ht : -9223372036854775808 ≤ turn ∧ turn ≤ 9223372036854775807) (hroom : -9223372036854775808 ≤ room ∧ room ≤ 9223372036854775807) :
    Calls Try.prog 4 #[.agg #[.slice pf nf cf, .int .i64 turn, .int .i64 room]] w fun e w' => e = .returned (.bool true) ∧ Below w.heap.size w w' := by
  have HX : Hid ((w.alloc (.cells #[.slice pf nf cf, .int .i64 turn, .int .i64 room] 51)).heap[w.heap.size]? = some (.cells #[.slice pf nf cf, .int .i64 turn, .int .i64 room] 51 (0, 0))) := heap_alloc_new _ _
  have HB0 : Hid (Below w.heap.size w (w.alloc (.cells #[.slice pf nf cf, .int .i64 turn, .int .i64 room] 51))) := (Below.refl _ _).alloc (Nat.le_refl _) _
  obtain ⟨vals, fs, ⟨hfa, pf', cf', hvf, hfb⟩, hfl, hfd⟩ := hF
  simp only [Value.slice.injEq] at hvf
  obtain ⟨rfl, hnf, rfl⟩ := hvf
  have HFR : Hid (FilesR (w.alloc (.cells #[.slice pf nf cf, .int .i64 turn, .int .i64 room] 51)) (.slice pf nf cf) vals fs ∧ FilesBy (w.alloc (.cells #[.slice pf nf cf, .int .i64 turn, .int .i64 room] 51)) vals fs) := by
    have h1 : FilesR w (.slice pf nf cf) vals fs := ⟨hfa, pf, cf, by rw [hnf], hfb⟩
    have h2 : FilesBy w vals fs := hfd
    exact ⟨h1.below HB0.out, h2.below HB0.out⟩
  have HNF : Hid (fs.length = nf) := hnf.symm
  rw [← hnf] at hfl
  clear hfa hfb hfd hnf
  go_enter Try.func4, Try.ntmps4
  go_upto_region 1 with fail
  obtain ⟨w0, hw0⟩ : ∃ w0, w.alloc (.cells #[.slice pf nf cf, .int .i64 turn, .int .i64 room] 51) = w0 := ⟨_, rfl⟩
  rw [hw0] at HX HB0 HFR ⊢
  clear hw0
  have b0 : w0.cell? ⟨w.heap.size, 0, none⟩ = some (.slice pf nf cf) := cell_of_row _ _ _ _ _ _ HX.out
  by_cases h4 : nf ≤ 400
  · have h4' : ¬ (400 : Int) < (nf : Int) := by omega
    have HSI : Hid (Calls Try.prog 10 #[.agg #[.int .i64 0, .int .i64 0, .string { data := #[] }, .string { data := #[] }, .slice none 0 0, .int .i64 0, .int .i64 0, .int .i64 0, .slice pf nf cf]] w0 fun e w' => (∃ r : Nat, e = .returned (.int .i64 (r : Int)) ∧ (r ≤ 524288 → totB fs ≤ r) ∧ r ≤ 1000000000000000) ∧ Below w0.heap.size w0 w') := by
      refine size10_tot 0 0 { data := #[] } { data := #[] } none 0 0 0 0 0 _ vals fs w0 HFR.out.1 (by rw [HNF.out]; omega) (by decide) (by decide) (by decide) fun i hi => ?_
      obtain ⟨k1, p', n', c', k2, k3, _, _, _, k4, _⟩ := HFR.out.2 i hi
      exact ⟨by omega, p', n', c', k2, by omega, k4⟩
    go_upto_if 26 with (go_at_call 10; refine HSI.out.mono ?_; rintro e ws ⟨⟨r, rfl, hr1, hr2⟩, hbs⟩; have HR1 := hide hr1; have HBS := hide (HB0.out.trans (hbs.mono HB0.out.size)); have HB1 := hide hbs; clear hr1 hbs HSI)
    by_cases hr5 : r ≤ 524288
    · have hr5' : ¬ (524288 : Int) < (r : Int) := by omega
      have HT := hide (HR1.out hr5)
      clear HR1
      have HZS := hide (heap_lt HX.out)
      have bs0 := HB1.out.cell (p := ⟨w.heap.size, 0, none⟩) (heap_lt HX.out)
      rw [b0] at bs0
      have HCP : Hid (Calls Try.prog 18 #[.slice pf nf cf] ws fun e w' => ∃ (p : Option Addr) (c : Nat), e = .returned (.slice p nf c) ∧ ∃ us, (FilesAt w' ws.heap.size (.slice p nf c) us fs ∧ ∀ u ∈ us, Off0 u) ∧ Below ws.heap.size ws w') := by
        have h := copyFiles_any _ vals fs ws (HFR.out.1.below HB1.out) (HFR.out.2.below HB1.out) (by rw [HNF.out]; exact h4) (fun x hx => by have h1 := totB_mem x hx; have h2 := HT.out; omega)
        rw [HNF.out] at h
        exact h
      go_upto_region 4 with (go_at_call 18; refine HCP.out.mono ?_; rintro e w1 ⟨pl, cl, rfl, us, ⟨hA, hOf⟩, hb1⟩; have HA := hide hA; have HOF := hide hOf; have HBL := hide (HBS.out.trans (hb1.mono HBS.out.size)); have HBX := hide hb1; clear hA hOf hb1 HCP)
      obtain ⟨hOL, hfst⟩ := orL_of (HFR.out.2.below HB1.out) HA.out HOF.out
      obtain ⟨ps, hps⟩ : ∃ ps, fs.zip us = ps := ⟨_, rfl⟩
      rw [hps] at hOL hfst
      have HOL := hide hOL
      have HFST := hide hfst
      have HLN : Hid (ps.length = nf) := by show _ = _; rw [← HNF.out, ← hfst, List.length_map]
      clear hOL hfst hps HA HOF bs0 b0 HFR
      obtain ⟨s, hs⟩ : ∃ s, wi turn nf = s := ⟨_, rfl⟩
      have HS := hide hs
      have HWI : Hid (0 < nf → ∀ wx : World, Calls Try.prog 6 #[.int .i64 turn, .int .i64 (nf : Int)] wx fun e w' => e = .returned (.int .i64 (s : Int)) ∧ w' = wx) := fun h0 wx => by
        rw [← HS.out]
        exact within10_is turn nf wx ht.1 ht.2 h0 (by omega)
      have HSL : Hid (0 < nf → s < nf) := fun h0 => by rw [← HS.out]; exact wi_lt turn nf h0
      have HC1 : Hid (w1.cell? ⟨w.heap.size, 1, none⟩ = some (.int .i64 turn) ∧ w1.cell? ⟨w.heap.size, 2, none⟩ = some (.int .i64 room) ∧ w.heap.size < w1.heap.size) := by
        have h1 : w1.heap[w.heap.size]? = some (.cells #[.slice pf nf cf, .int .i64 turn, .int .i64 room] 51 (0, 0)) := (HBX.out.block _ (Nat.lt_of_lt_of_le (heap_lt HX.out) HB1.out.size)).trans ((HB1.out.block _ (heap_lt HX.out)).trans HX.out)
        exact ⟨cell_of_row _ _ _ _ _ _ h1, cell_of_row _ _ _ _ _ _ h1, heap_lt h1⟩
      clear hs HX
      obtain ⟨iF, hiF⟩ := infoFile
      have Hi := hide hiF
      clear hiF
      go_wp2_with fail
      go_loopw [4, 5] (fun t4 t5 wr => ∃ (pq : Option Addr) (cq k : Nat), t4 = .slice pq k cq ∧ t5 = .int .i64 (k : Int) ∧ k ≤ nf ∧ Hid (OrM w1 wr (.slice pq k cq) k ((rot s ps).take k))) (fun _ t5 _ => nf - (intOf t5).toNat)
      case atStart => exact ⟨none, 0, 0, rfl, rfl, Nat.zero_le _, World.ownsRow_nil _ _ _ _, by simp, Below.refl _ _⟩
      case round =>
        obtain ⟨pq, cq, k, rfl, rfl, hk, HI⟩ := hrel
        by_cases hlt : k < nf
        · have hlt' : (k : Int) < (nf : Int) := by omega
          have hnf0 : ¬ (nf : Int) = 0 := by omega
          have hnf1 : ¬ (nf : Int) = -1 := by omega
          have hs1 := HSL.out (by omega)
          obtain ⟨j, hj⟩ : ∃ j, (k + s) % nf = j := ⟨_, rfl⟩
          have hjl : j < nf := by rw [← hj]; exact Nat.mod_lt _ (by omega)
          have hidx : ((k : Int) + (s : Int)) % (nf : Int) = (j : Int) := by rw [← hj]; norm_cast
          have HJ : Hid (j < ps.length ∧ (rot s ps)[k]? = ps[j]?) := ⟨by rw [HLN.out]; exact hjl, by rw [rot_at s ps (by rw [HLN.out]; exact hs1) k (by rw [HLN.out]; exact hlt), HLN.out, hj]⟩
          obtain ⟨q, hq⟩ : ∃ q, ps[j]'HJ.out.1 = q := ⟨_, rfl⟩
          have hqm : q ∈ ps := by rw [← hq]; exact List.getElem_mem _
          obtain ⟨hsz, pb, nb, cb, hqv, -⟩ := HOL.out.by_ q hqm
          have hPI := HOL.out.inn
          obtain ⟨hpa, pl', cl', hpv, hpc⟩ := hPI
          obtain ⟨g, o, hpl, k1, k2⟩ := hpc j (by rw [List.length_map]; exact HJ.out.1)
          simp only [Value.slice.injEq] at hpv
          obtain ⟨rfl, -, rfl⟩ := hpv
          subst hpl
          have e3 : (ps.map (·.1)).getD j (.empty, []) = q.1 := by rw [← hq]; simp [List.getD, List.getElem?_eq_getElem HJ.out.1]
          have e4 : (ps.map (·.2)).getD j (.slice none 0 0) = q.2 := by rw [← hq]; simp [List.getD, List.getElem?_eq_getElem HJ.out.1]
          rw [e3] at k1
          rw [e4, hqv] at k2
          have HTK : Hid ((rot s ps).take (k + 1) = (rot s ps).take k ++ [q]) := by
            show _ = _
            rw [List.take_add_one, HJ.out.2, List.getElem?_eq_getElem HJ.out.1, hq]
            rfl
          obtain ⟨⟨nm, bs⟩, qv⟩ := q
          have hqv' : qv = .slice pb nb cb := hqv
          subst hqv'
          have c1 : wr.cell? ⟨g, o + j * 2, none⟩ = some (.string nm) := (HI.out.bel.cell (p := ⟨g, o + j * 2, none⟩) (World.block_lt_of_cell? _ _ k1)).trans k1
          have c2 : wr.cell? ⟨g, o + j * 2 + 1, none⟩ = some (.slice pb nb cb) := (HI.out.bel.cell (p := ⟨g, o + j * 2 + 1, none⟩) (World.block_lt_of_cell? _ _ k2)).trans k2
          have c3 : wr.cell? ⟨w.heap.size, 1, none⟩ = some (.int .i64 turn) := (HI.out.bel.cell (p := ⟨w.heap.size, 1, none⟩) HC1.out.2.2).trans HC1.out.1
          have HWX := hide (HWI.out (by omega) wr)
          have hsb : s ≤ 400 := by omega
          obtain ⟨FC, hFC⟩ : ∃ FC, fcells (((rot s ps).take k).map (·.1)) (((rot s ps).take k).map (·.2)) = FC := ⟨_, rfl⟩
          have HFC := hide hFC
          clear hFC
          clear hpa hpc k1 k2 e3 e4 hq hqm hqv hsz hs1 hj HJ
          go_wp2_with (first
            | (go_at_call 6; refine HWX.out.mono ?_; rintro e wn ⟨rfl, hwn⟩; have hwn2 := hwn.symm; subst hwn2; clear HWX)
            | (at_builtin; refine wpList_append_own_at _ rfl _ _ _ rfl w1.heap.size 45 iF (.agg #[.string ByteArray.empty, .slice none 0 0]) 2 40 Try.underlying33 Hi.out.1 Hi.out.2.1 Hi.out.2.2.1 Hi.out.2.2.2 rfl (by decide) (.slice pq k cq) k FC rfl ?f0 ⟨wr.heap.size, 0, none⟩ 1 1 [.string nm, .slice pb nb cb] rfl rfl (World.news_of_block (heap_alloc_new wr _)) ?f1 ?f4 ?f5 ?f7 ?f6)
            | (simp only [hidx]))
          case f0 => rw [← HFC.out]; exact HI.out.own.alloc _
          case f1 => first | exact ⟨rfl, rfl⟩ | (intro u hu; rcases List.mem_cons.1 hu with rfl | hu; rfl; rw [List.mem_singleton.1 hu]; rfl)
          case f4 => unfold maxLen; omega
          case f5 => omega
          case f7 => have h1 := HI.out.bel.size; simp; omega
          case f6 =>
            intro v6 w6 ho6 hg6 _ hat6
            have hv6 : ∃ p c, v6 = .slice p (k + 1) c := by
              rcases ho6.2 with ⟨_, e2⟩ | ⟨g', cap, cur, e1, _⟩
              · omega
              · exact ⟨_, _, e1⟩
            have H6 : Hid (OrM w1 w6 v6 (k + 1) ((rot s ps).take (k + 1))) := by
              rw [← HFC.out] at ho6
              have := HI.out.next (bs := bs) ho6 hg6
              rw [← HTK.out] at this
              exact this
            obtain ⟨p6, c6, hv6⟩ := hv6
            subst hv6
            clear ho6 hg6 hat6
            go_wp2_with fail
            go_roundw
            case rel => exact ⟨p6, c6, k + 1, by simp, by simp, by omega, H6.out⟩
            case measure => simp [intOf]; omega
        · have hlt' : ¬ (k : Int) < (nf : Int) := by omega
          have hkn : k = nf := by omega
          subst hkn
          have HRT : Hid ((rot s ps).take k = rot s ps) := by show _ = _; rw [List.take_of_length_le (by rw [(rot_perm s ps).length_eq, HLN.out]; exact Nat.le_refl _)]
          have HM := hide HI.out
          rw [HRT.out] at HM
          have HPM := hide (rot_perm s ps)
          obtain ⟨qs, hqs⟩ : ∃ qs, rot s ps = qs := ⟨_, rfl⟩
          rw [hqs] at HM HPM
          clear hqs HRT HI hlt hk hlt'
          have c3 : wr.cell? ⟨w.heap.size, 1, none⟩ = some (.int .i64 turn) := (HM.out.bel.cell (p := ⟨w.heap.size, 1, none⟩) HC1.out.2.2).trans HC1.out.1
          obtain ⟨r2, hr2e⟩ : ∃ r2, Int.tmod turn 2 = r2 := ⟨_, rfl⟩
          go_upto_if 56 with (simp only [hr2e])
          go_cut [4, 6, 7] from 53 to 86 (fun t4 t6 t7 wc => ∃ (pc : Option Addr) (cc : Nat), t4 = .slice pc k cc ∧ Hid (∃ qs : List Pr, PIn wc (.slice pc k cc) qs ∧ qs.Perm ps ∧ Below w1.heap.size w1 wc))
          case first =>
            by_cases hpar : r2 = 0
            · have hpb : (r2 == 0) = true := by simp [hpar]
              go_wp2_with fail
              go_meet
              case rel => exact ⟨_, _, rfl, qs, HM.out.pin, HPM.out, HM.out.bel⟩
            · have hpb : (r2 == 0) = false := by simp [hpar]
              by_cases hk0 : k = 0
              · subst hk0
                go_wp2_with fail
                go_loopw [6] (fun t6 wr => t6 = .int .i64 0 ∧ Hid (OrM w1 wr (.slice pq 0 cq) 0 qs)) (fun _ _ => 0)
                case atStart => exact ⟨rfl, HM.out⟩
                case round =>
                  obtain ⟨rfl, HI⟩ := hrel
                  go_wp2_with fail
                  go_meet
                  case rel => exact ⟨_, _, rfl, qs, HI.out.pin, HPM.out, HI.out.bel⟩
              · obtain ⟨g, c0, hv, hRV⟩ := RvI.of HM.out (by omega)
                simp only [Value.slice.injEq] at hv
                obtain ⟨rfl, -, rfl⟩ := hv
                have HR0 := hide hRV
                have HQV : Hid (∀ q ∈ ps, ∃ p n c, q.2 = .slice p n c) := fun q hq => by
                  obtain ⟨_, p', n', c', e, _⟩ := HOL.out.by_ q hq
                  exact ⟨p', n', c', e⟩
                clear hRV c3
                go_wp2_with fail
                go_loopw [6, 7] (fun t6 t7 wr => ∃ i : Nat, t6 = .int .i64 (i : Int) ∧ i ≤ k / 2 ∧ Hid (∃ qs : List Pr, RvI w1 wr g k qs ∧ qs.Perm ps)) (fun t6 _ _ => k - (intOf t6).toNat)
                case atStart => exact ⟨0, rfl, Nat.zero_le _, qs, HR0.out, HPM.out⟩
                case round =>
                  clear HR0 HM
                  obtain ⟨i, rfl, hi, HI⟩ := hrel
                  obtain ⟨qs, hI, hpm⟩ := HI.out
                  have HQ := hide hI
                  have HPM := hide hpm
                  clear hI hpm HI
                  by_cases hlt : i < k / 2
                  · have hlt' : (i : Int) < (k : Int) / 2 := by omega
                    obtain ⟨jj, hjj⟩ : ∃ jj : Nat, (k : Int) - 1 - (i : Int) = (jj : Int) := ⟨k - 1 - i, by omega⟩
                    have hij : i < jj ∧ jj < k := by omega
                    have hiq : i < qs.length := by rw [HQ.out.len]; omega
                    have hjq : jj < qs.length := by rw [HQ.out.len]; omega
                    obtain ⟨qi, hqi⟩ : ∃ q, qs[i] = q := ⟨_, rfl⟩
                    obtain ⟨qj, hqj⟩ : ∃ q, qs[jj] = q := ⟨_, rfl⟩
                    obtain ⟨pi, ni, ci, hvi⟩ := HQV.out qi (HPM.out.mem_iff.1 (by rw [← hqi]; exact List.getElem_mem _))
                    obtain ⟨pj, nj, cj, hvj⟩ := HQV.out qj (HPM.out.mem_iff.1 (by rw [← hqj]; exact List.getElem_mem _))
                    have hci := HQ.out.cells i hiq
                    have hcj := HQ.out.cells jj hjq
                    rw [hqi] at hci
                    rw [hqj] at hcj
                    obtain ⟨⟨nmi, bsi⟩, vi⟩ := qi
                    obtain ⟨⟨nmj, bsj⟩, vj⟩ := qj
                    have hvi' : vi = .slice pi ni ci := hvi
                    have hvj' : vj = .slice pj nj cj := hvj
                    subst hvi'
                    subst hvj'
                    obtain ⟨i0, i1⟩ := hci
                    obtain ⟨j0, j1⟩ := hcj
                    change wr.cell? _ = some (.string nmi) at i0
                    change wr.cell? _ = some (.slice pi ni ci) at i1
                    change wr.cell? _ = some (.string nmj) at j0
                    change wr.cell? _ = some (.slice pj nj cj) at j1
                    have HQE : Hid (∃ (h1 : i < qs.length) (h2 : jj < qs.length), qs[i] = ((nmi, bsi), .slice pi ni ci) ∧ qs[jj] = ((nmj, bsj), .slice pj nj cj)) := ⟨hiq, hjq, hqi, hqj⟩
                    have HBX : Hid (Below wr.heap.size wr (wr.alloc (.cells #[.string nmi, .slice pi ni ci] 45))) := (Below.refl _ _).alloc (Nat.le_refl _) _
                    have HXR : Hid ((wr.alloc (.cells #[.string nmi, .slice pi ni ci] 45)).heap[wr.heap.size]? = some (.cells #[.string nmi, .slice pi ni ci] 45 (0, 0))) := heap_alloc_new _ _
                    have HGN : Hid (g ≠ wr.heap.size) := fun e => by obtain ⟨cur, h1, _⟩ := HQ.out.row; have := heap_lt h1; omega
                    clear hqi hqj hvi hvj hiq hjq
                    go_upto_region 14 with fail
                    obtain ⟨wx, hwx⟩ : ∃ wx, wr.alloc (.cells #[.string nmi, .slice pi ni ci] 45) = wx := ⟨_, rfl⟩
                    rw [hwx] at HBX HXR ⊢
                    clear hwx i0 i1 j0 j1
                    have HQX := hide (HQ.out.below HBX.out)
                    have i0 : wx.cell? ⟨g, i * 2, none⟩ = some (.string nmi) := by obtain ⟨h1, h2, h3, h4⟩ := HQE.out; have := (HQX.out.cells i h1).1; rw [h3] at this; exact this
                    have i1 : wx.cell? ⟨g, i * 2 + 1, none⟩ = some (.slice pi ni ci) := by obtain ⟨h1, h2, h3, h4⟩ := HQE.out; have := (HQX.out.cells i h1).2; rw [h3] at this; exact this
                    have j0 : wx.cell? ⟨g, jj * 2, none⟩ = some (.string nmj) := by obtain ⟨h1, h2, h3, h4⟩ := HQE.out; have := (HQX.out.cells jj h2).1; rw [h4] at this; exact this
                    have j1 : wx.cell? ⟨g, jj * 2 + 1, none⟩ = some (.slice pj nj cj) := by obtain ⟨h1, h2, h3, h4⟩ := HQE.out; have := (HQX.out.cells jj h2).2; rw [h4] at this; exact this
                    have f0 := HQX.out.frozen (i * 2)
                    have f1 := HQX.out.frozen (i * 2 + 1)
                    go_upto_region 15 with (simp only [hjj])
                    obtain ⟨wy, hwy⟩ : ∃ wy, (wx.setCell ⟨g, i * 2, none⟩ (.string nmj)).setCell ⟨g, i * 2 + 1, none⟩ (.slice pj nj cj) = wy := ⟨_, rfl⟩
                    have HWY := hide hwy
                    have hxr : wy.heap[wr.heap.size]? = some (.cells #[.string nmi, .slice pi ni ci] 45 (0, 0)) := by
                      rw [← hwy]
                      have hl := heap_lt HXR.out
                      have h1 := (Fr.setCell (w := wx) (F := fun k => k = g) (a := ⟨g, i * 2, none⟩) rfl (.string nmj)).block wr.heap.size hl (fun e => HGN.out e.symm)
                      have h2 := (Fr.setCell (w := wx.setCell ⟨g, i * 2, none⟩ (.string nmj)) (F := fun k => k = g) (a := ⟨g, i * 2 + 1, none⟩) rfl (.slice pj nj cj)).block wr.heap.size (by simpa [World.setCell] using hl) (fun e => HGN.out e.symm)
                      exact h2.2.trans (h1.2.trans HXR.out)
                    have x0 : wy.cell? ⟨wr.heap.size, 0, none⟩ = some (.string nmi) := cell_of_row _ _ _ _ _ _ hxr
                    have x1 : wy.cell? ⟨wr.heap.size, 1, none⟩ = some (.slice pi ni ci) := cell_of_row _ _ _ _ _ _ hxr
                    obtain ⟨cur, hcu, hcs⟩ : ∃ cur : Array Value, wy.heap[g]? = some (.cells cur 45 (0, 0)) ∧ 2 * k ≤ cur.size := by
                      obtain ⟨cur, h1, h2, _⟩ := HQX.out.row
                      rw [← hwy]
                      exact ⟨_, heap_set_at (heap_set_at h1 _) _, by simpa using h2⟩
                    have y0 : wy.cell? ⟨g, jj * 2, none⟩ = some (cur[jj * 2]'(by omega)) := by rw [cell_of_row _ _ _ _ _ _ hcu, Array.getElem?_eq_getElem]
                    have y1 : wy.cell? ⟨g, jj * 2 + 1, none⟩ = some (cur[jj * 2 + 1]'(by omega)) := by rw [cell_of_row _ _ _ _ _ _ hcu, Array.getElem?_eq_getElem]
                    obtain ⟨d0, hd0⟩ : ∃ d, cur[jj * 2]'(by omega) = d := ⟨_, rfl⟩
                    obtain ⟨d1, hd1⟩ : ∃ d, cur[jj * 2 + 1]'(by omega) = d := ⟨_, rfl⟩
                    rw [hd0] at y0
                    rw [hd1] at y1
                    have g0 := frozen_of hcu (jj * 2)
                    have g1 := frozen_of hcu (jj * 2 + 1)
                    rw [hwy]
                    have HSW : Hid (∃ qs' : List Pr, RvI w1 ((wy.setCell ⟨g, jj * 2, none⟩ (.string nmi)).setCell ⟨g, jj * 2 + 1, none⟩ (.slice pi ni ci)) g k qs' ∧ qs'.Perm ps) := by
                      obtain ⟨h1, h2, h3, h4⟩ := HQE.out
                      refine ⟨_, ?_, (exch_perm h1 h2).trans HPM.out⟩
                      rw [← HWY.out]
                      exact HQX.out.swap h1 h2 hij.1 (by rw [h4]) (by rw [h4]) (by rw [h3]) (by rw [h3])
                    clear hwy hxr hcu hcs hd0 hd1 i0 i1 j0 j1 f0 f1
                    go_wp2_with (simp only [hjj])
                    go_roundw
                    case rel => exact ⟨i + 1, by simp, by omega, HSW.out⟩
                    case measure => simp [intOf]; omega
                  · have hlt' : ¬ (i : Int) < (k : Int) / 2 := by omega
                    go_wp2_with fail
                    go_meet
                    case rel => exact ⟨_, _, rfl, qs, HQ.out.pin, HPM.out, HQ.out.bel⟩
          case rest =>
            obtain ⟨pc, cc, rfl, HCUT⟩ := hcut
            obtain ⟨qs, hq1, hq2, hq3⟩ := HCUT.out
            have HPQ := hide (And.intro hq1 (And.intro hq2 hq3))
            clear hq1 hq2 hq3 HCUT
            have cw2 : wc.cell? ⟨w.heap.size, 2, none⟩ = some (.int .i64 room) := (HPQ.out.2.2.cell (p := ⟨w.heap.size, 2, none⟩) HC1.out.2.2).trans HC1.out.2.1
            have HPL : Hid (PIn wc (.slice pl k cl) ps ∧ PBy wc ps) := ⟨HOL.out.inn.below HPQ.out.2.2, HOL.out.by_.below HPQ.out.2.2⟩
            have HQB : Hid (PBy wc qs) := HPL.out.2.perm HPQ.out.2.1
            have hlq : Hid (qs.length ≤ 400 ∧ ps.length ≤ 400) := by
              have := HPQ.out.2.1.length_eq
              have h2 := HLN.out
              show _ ∧ _
              omega
            have HBC := hide (HBL.out.trans (HPQ.out.2.2.mono HBL.out.size))
            by_cases hc0 : ldC (ps.map (·.1)) room = 0
            · have HC0 := hide hc0
              clear hc0
              have HL1 : Hid (Calls Try.prog 19 #[.slice pl k cl, .int .i64 room] wc fun e w' => ∃ (S : DS) (r : Nat), e = .returned (.tuple #[.pointer (some ⟨S.d, 0, none⟩), .int .i64 0]) ∧ room = (r : Int) ∧ Dk wc.heap.size w' 0 S ∧ S.ps = { con := con1 (ps.map (·.1)), room := r, off := false, ain := 0, keep := 0, lose := 0, wr := 0 } ∧ LoadOk (ps.map (·.1)) r ∧ Below wc.heap.size wc w') := by
                refine (or_load wc _ ps HPL.out.1 HPL.out.2 hlq.out.2 room).mono ?_
                rintro e w' (⟨h, _⟩ | ⟨_, S, r, h1, h2, h3, h4, h5, h6⟩)
                · exact absurd HC0.out h
                · exact ⟨S, r, h2, h1, h3, h4, h5, h6⟩
              have HL2 : Hid (∀ wa, Below wc.heap.size wc wa → Calls Try.prog 19 #[.slice pc k cc, .int .i64 room] wa fun e w' => ∃ (S : DS), e = .returned (.tuple #[.pointer (some ⟨S.d, 0, none⟩), .int .i64 0]) ∧ Dk wa.heap.size w' 0 S ∧ S.ps.con = con1 (qs.map (·.1)) ∧ Below wa.heap.size wa w') := fun wa hba => by
                refine (or_load wa _ qs (HPQ.out.1.below hba) (HQB.out.below hba) hlq.out.1 room).mono ?_
                rintro e w' (⟨h, _⟩ | ⟨_, S, r, h1, h2, h3, h4, h5, h6⟩)
                · exact absurd ((ldC_perm (HPQ.out.2.1.map (·.1)) room).trans HC0.out) h
                · exact ⟨S, h2, h3, by rw [h4], h6⟩
              go_upto_region 22 with (first
                | (go_at_call 8; refine (num10_any _ _).mono ?_; rintro e wn ⟨rfl, hwn⟩; have hwn2 := hwn.symm; subst hwn2)
                | (go_at_call 19; refine HL1.out.mono ?_; rintro e wa ⟨Sa, r0, rfl, hrr, h1, h2, h3, h4⟩; have HA := hide (And.intro h1 (And.intro h2 (And.intro h3 h4))); have HRR := hide hrr; have ca2 : wa.cell? ⟨w.heap.size, 2, none⟩ = some (.int .i64 room) := cell_bel h4 cw2; have HLB := hide (HL2.out wa h4); clear h1 h2 h3 h4 hrr HL1 HL2 cw2)
                | (go_at_call 19; refine HLB.out.mono ?_; rintro e wb ⟨Sb, rfl, h1, h2, h3⟩; have HB := hide (And.intro h1 (And.intro h2 h3)); have cb2 : wb.cell? ⟨w.heap.size, 2, none⟩ = some (.int .i64 room) := cell_bel h3 ca2; clear h1 h2 h3 HLB ca2))
              have HBN : Hid (∀ x ∈ Sb.L, x.nm.size ≤ 64) := fun x hx => by
                have h1 := con_mem hx
                rw [HB.out.2.1] at h1
                obtain ⟨y, hy, e⟩ := List.mem_map.1 h1
                have h2 : y ∈ ps.map (·.1) := ((HPQ.out.2.1.map (·.1)).mem_iff).1 hy
                have h3 := (HA.out.2.2.1.1 y h2).2.1
                have e2 : y.1 = x.nm := congrArg (·.1) e
                rw [← e2]; exact h3
              have HFB : Hid (Calls Try.prog 13 #[.pointer (some ⟨Sb.d, 0, none⟩)] wb fun e w' => ∃ (p : Option Addr) (c : Nat), e = .returned (.slice p k c) ∧ ∃ (vals : List Value) (ns : List ByteArray), ((k = ns.length ∧ ns.Perm (Sb.L.map (·.nm)) ∧ inOrder ns) ∧ FilesAt w' wb.heap.size (.slice p k c) vals (filesOf Sb ns)) ∧ Dk wa.heap.size w' 0 Sb ∧ Fr wb (Fp Sb) w' (Fp Sb)) := by
                refine (files_any wb HB.out.1 fun x hx => Nat.le_trans (HBN.out x hx) (by unfold maxLen; omega)).mono ?_
                rintro e w' ⟨p, n, c, rfl, vs, ns, ⟨e1, e2, e3⟩, g1, g2, g3⟩
                have hn : n = k := by
                  rw [e1, e2.length_eq, List.length_map]
                  have h1 : Sb.ps.con.length = Sb.L.length := by unfold DS.ps; simp
                  rw [← h1, HB.out.2.1]
                  unfold con1
                  rw [List.length_map, List.length_map, HPQ.out.2.1.length_eq]
                  exact HLN.out
                rw [← hn]
                exact ⟨p, c, rfl, vs, ns, ⟨⟨e1, e2, e3⟩, g1⟩, g2, g3⟩
              go_upto_region 23 with (go_at_call 13; refine HFB.out.mono ?_; rintro e w5 ⟨pw, cw, rfl, wv, nsb, ⟨⟨e1, e2, e3⟩, hF⟩, hD5, hf5⟩; have HF5 := hide (And.intro e1 (And.intro e2 (And.intro e3 (And.intro hF (And.intro hD5 hf5))))); clear e1 e2 e3 hF hD5 hf5 HFB)
              have HST := hide (or_start HBS.out (Nat.lt_of_lt_of_le HZS.out HB1.out.size) HBX.out HOL.out rfl HLN.out (by rw [HFST.out]; have := HT.out; omega) HPQ.out.2.1 HPQ.out.2.2 HA.out.1 HA.out.2.1 HA.out.2.2.1 HA.out.2.2.2 HB.out.1 HB.out.2.1 HB.out.2.2 HF5.out.2.2.2.1 HF5.out.2.1 HF5.out.2.2.1 HF5.out.2.2.2.2.1 HF5.out.2.2.2.2.2)
              obtain ⟨L, hL⟩ : ∃ L, filesOf Sb nsb = L := ⟨_, rfl⟩
              rw [hL] at HST
              obtain ⟨da, hda⟩ : ∃ da, Sa.d = da := ⟨_, rfl⟩
              have HRA : Hid (Sa.room = r0) := congrArg PS.room HA.out.2.1
              have HZ := hide HST.out.1
              have H5 : Hid (OrA wc.heap.size w5 da 0 (ps.map (·.1)) Sa ∧ OrK w w5 w5 (KB w Sb (.slice pl k cl) (.slice pw k cw) wv) (UB ps) Sa) := by have := HST.out.2; rw [hda] at this; exact this
              rw [hda]
              have HDB : Hid (∃ db, Sb.d = db) := ⟨_, rfl⟩
              have HKB : Hid (KB w Sb (.slice pl k cl) (.slice pw k cw) wv w.heap.size) := .inr (.inl rfl)
              have c52 : w5.cell? ⟨w.heap.size, 2, none⟩ = some (.int .i64 (r0 : Int)) := by
                have h1 := (HF5.out.2.2.2.2.2.block w.heap.size ?_ fun e => ?_).2
                · rw [World.cell?_of_block (w := wb) (w' := w5) (a := ⟨w.heap.size, 2, none⟩) h1, cb2, HRR.out]
                · exact World.block_lt_of_cell? _ _ cb2
                · have h2 := HB.out.1.fpB _ e
                  have h3 := HA.out.2.2.2.size
                  have h4 := HBC.out.size
                  have h5 := HPQ.out.2.2.size
                  have h6 := HC1.out.2.2
                  omega
              have C52 := hide c52
              clear hL hda HST HF5 HA HB cb2 HBC HPL HQB
              have H5d : Hid (OrA wc.heap.size w5.drew da 0 (ps.map (·.1)) Sa ∧ OrK w w5 w5.drew (KB w Sb (.slice pl k cl) (.slice pw k cw) wv) (UB ps) Sa) := H5.out.2.below H5.out.1 HZ.out.hBa (below_drew w5)
              have HCA : Hid (∀ wx, OrK w w5 wx (KB w Sb (.slice pl k cl) (.slice pw k cw) wv) (UB ps) Sa → wx.cell? ⟨w.heap.size, 2, none⟩ = some (.int .i64 (r0 : Int))) := fun wx h => (h.cellK HKB.out).trans C52.out
              have HFA := hide (HZ.out.filesA H5d.out.1 H5d.out.2)
              refine wp_region_held_drew (S := fun w' => w'.cell? ⟨w.heap.size, 2, none⟩ = some (.int .i64 (r0 : Int))) (by kernel_rfl) (HCA.out _ H5d.out.2) (fun hHeld => ?_)
              refine wpAnyH_take (i := 0) (v := ?_) rfl (by kernel_rfl) (by kernel_rfl) (by kernel_rfl) (fun _ _ _ h => h) (Or.inl ⟨by rfl, ?_⟩) hHeld ?_
              rotate_left
              · (intro wq hSw; (try dsimp only at hSw); (go_simp <;> with_reducible rfl))
              try simp only [Act.put, List.getElem_toArray, List.getElem_cons_zero, List.getElem_cons_succ, List.setIfInBounds_toArray, List.set_cons_zero, List.set_cons_succ]
              refine wpAnyH_take (i := 2) (v := ?_) rfl (by kernel_rfl) (by kernel_rfl) (by kernel_rfl) (fun _ _ _ h => h) (Or.inl ⟨by rfl, ?_⟩) hHeld ?_
              rotate_left
              · (intro wq hSw; (try dsimp only at hSw); (go_simp <;> with_reducible rfl))
              try simp only [Act.put, List.getElem_toArray, List.getElem_cons_zero, List.getElem_cons_succ, List.setIfInBounds_toArray, List.set_cons_zero, List.set_cons_succ]
              refine wpAnyH_ready (rs := [1]) (by kernel_rfl) (by simp) ?_
              refine AllReadyH.cons rfl (fun K hK => ?_) AllReadyH.nil
              go_simp
              refine HFA.out.mono ?_
              rintro _ wA ⟨p1, c1, rfl, hy, h1, h2⟩
              have H6 : Hid (OrA wc.heap.size wA da 0 (ps.map (·.1)) Sa ∧ OrK w w5 wA (KB w Sb (.slice pl k cl) (.slice pw k cw) wv) (UB ps) Sa) := ⟨h1, h2⟩
              have HEQ := hide (HZ.out.eqA h2 hy)
              clear hy h1 h2 HFA
              refine hK.out _ _ (HCA.out _ H6.out.2) (fun hHeld => ?_)
              clear hK K
              try simp only [Act.put, List.getElem_toArray, List.getElem_cons_zero, List.getElem_cons_succ, List.setIfInBounds_toArray, List.set_cons_zero, List.set_cons_succ]
              refine wpAnyH_ready (rs := [3]) (by kernel_rfl) (by simp) ?_
              refine AllReadyH.cons rfl (fun K hK => ?_) AllReadyH.nil
              go_simp
              refine HEQ.out.mono ?_
              rintro _ wB ⟨rfl, hb⟩
              have H7 : Hid (OrA wc.heap.size wB da 0 (ps.map (·.1)) Sa ∧ OrK w w5 wB (KB w Sb (.slice pl k cl) (.slice pw k cw) wv) (UB ps) Sa) := H6.out.2.below H6.out.1 HZ.out.hBa hb
              have HWR := hide (HZ.out.writes H7.out.1 H7.out.2)
              clear hb HEQ H6
              refine hK.out _ _ (HCA.out _ H7.out.2) (fun hHeld => ?_)
              clear hK K
              try simp only [Act.put, List.getElem_toArray, List.getElem_cons_zero, List.getElem_cons_succ, List.setIfInBounds_toArray, List.set_cons_zero, List.set_cons_succ]
              refine wpAnyH_take (i := 4) (v := ?_) rfl (by kernel_rfl) (by kernel_rfl) (by kernel_rfl) (fun _ _ _ h => h) (Or.inl ⟨by rfl, ?_⟩) hHeld ?_
              rotate_left
              · (intro wq hSw; (try dsimp only at hSw); (go_simp <;> with_reducible rfl))
              try simp only [Act.put, List.getElem_toArray, List.getElem_cons_zero, List.getElem_cons_succ, List.setIfInBounds_toArray, List.set_cons_zero, List.set_cons_succ]
              refine wpAnyH_take (i := 5) (v := ?_) rfl (by kernel_rfl) (by kernel_rfl) (by kernel_rfl) (fun _ _ _ h => h) (Or.inl ⟨by rfl, ?_⟩) hHeld ?_
              rotate_left
              · (intro wq hSw; (try dsimp only at hSw); (go_simp <;> with_reducible rfl))
              try simp only [Act.put, List.getElem_toArray, List.getElem_cons_zero, List.getElem_cons_succ, List.setIfInBounds_toArray, List.set_cons_zero, List.set_cons_succ]
              refine wpAnyH_take (i := 6) (v := ?_) rfl (by kernel_rfl) (by kernel_rfl) (by kernel_rfl) (fun _ _ _ h => h) (Or.inl ⟨by rfl, ?_⟩) hHeld ?_
              rotate_left
              · (intro wq hSw; (try dsimp only at hSw); (go_simp <;> with_reducible rfl))
              try simp only [Act.put, List.getElem_toArray, List.getElem_cons_zero, List.getElem_cons_succ, List.setIfInBounds_toArray, List.set_cons_zero, List.set_cons_succ]
              refine wpAnyH_take (i := 7) (v := ?_) rfl (by kernel_rfl) (by kernel_rfl) (by kernel_rfl) (fun _ _ _ h => h) (Or.inl ⟨by rfl, ?_⟩) hHeld ?_
              rotate_left
              · (intro wq hSw; (try dsimp only at hSw); (go_simp <;> with_reducible rfl))
              try simp only [Act.put, List.getElem_toArray, List.getElem_cons_zero, List.getElem_cons_succ, List.setIfInBounds_toArray, List.set_cons_zero, List.set_cons_succ]
              refine wpAnyH_take (i := 8) (v := ?_) rfl (by kernel_rfl) (by kernel_rfl) (by kernel_rfl) (fun _ _ _ h => h) (Or.inl ⟨by rfl, ?_⟩) hHeld ?_
              rotate_left
              · (intro wq hSw; (try dsimp only at hSw); (go_simp <;> with_reducible rfl))
              try simp only [Act.put, List.getElem_toArray, List.getElem_cons_zero, List.getElem_cons_succ, List.setIfInBounds_toArray, List.set_cons_zero, List.set_cons_succ]
              refine wpAnyH_take (i := 9) (v := ?_) rfl (by kernel_rfl) (by kernel_rfl) (by kernel_rfl) (fun _ _ _ h => h) (Or.inl ⟨by rfl, ?_⟩) hHeld ?_
              rotate_left
              · (intro wq hSw; (try dsimp only at hSw); (go_simp <;> with_reducible rfl))
              try simp only [Act.put, List.getElem_toArray, List.getElem_cons_zero, List.getElem_cons_succ, List.setIfInBounds_toArray, List.set_cons_zero, List.set_cons_succ]
              refine wpAnyH_take (i := 10) (v := ?_) rfl (by kernel_rfl) (by kernel_rfl) (by kernel_rfl) (fun _ _ _ h => h) (Or.inl ⟨by rfl, ?_⟩) hHeld ?_
              rotate_left
              · (intro wq hSw; (try dsimp only at hSw); (go_simp <;> with_reducible rfl))
              try simp only [Act.put, List.getElem_toArray, List.getElem_cons_zero, List.getElem_cons_succ, List.setIfInBounds_toArray, List.set_cons_zero, List.set_cons_succ]
              refine wpAnyH_take (i := 11) (v := ?_) rfl (by kernel_rfl) (by kernel_rfl) (by kernel_rfl) (fun _ _ _ h => h) (Or.inl ⟨by rfl, ?_⟩) hHeld ?_
              rotate_left
              · (intro wq hSw; (try dsimp only at hSw); (go_simp <;> with_reducible rfl))
              try simp only [Act.put, List.getElem_toArray, List.getElem_cons_zero, List.getElem_cons_succ, List.setIfInBounds_toArray, List.set_cons_zero, List.set_cons_succ]
              refine wpAnyH_take (i := 12) (v := ?_) rfl (by kernel_rfl) (by kernel_rfl) (by kernel_rfl) (fun _ _ _ h => h) (Or.inl ⟨by rfl, ?_⟩) hHeld ?_
              rotate_left
              · (intro wq hSw; (try dsimp only at hSw); (go_simp <;> with_reducible rfl))
              try simp only [Act.put, List.getElem_toArray, List.getElem_cons_zero, List.getElem_cons_succ, List.setIfInBounds_toArray, List.set_cons_zero, List.set_cons_succ]
              refine wpAnyH_take (i := 13) (v := ?_) rfl (by kernel_rfl) (by kernel_rfl) (by kernel_rfl) (fun _ _ _ h => h) (Or.inl ⟨by rfl, ?_⟩) hHeld ?_
              rotate_left
              · (intro wq hSw; (try dsimp only at hSw); (go_simp <;> with_reducible rfl))
              try simp only [Act.put, List.getElem_toArray, List.getElem_cons_zero, List.getElem_cons_succ, List.setIfInBounds_toArray, List.set_cons_zero, List.set_cons_succ]
              refine wpAnyH_ready (rs := [14]) (by kernel_rfl) (by simp) ?_
              refine AllReadyH.cons rfl (fun K hK => ?_) AllReadyH.nil
              go_simp
              refine HWR.out.mono ?_
              rintro _ wC ⟨rfl, h1, h2⟩
              have H8 : Hid (OrA wc.heap.size wC da 0 (ps.map (·.1)) Sa ∧ OrK w w5 wC (KB w Sb (.slice pl k cl) (.slice pw k cw) wv) (UB ps) Sa) := ⟨h1, h2⟩
              have HOFF := hide (HZ.out.offs h1 h2)
              clear h1 h2 HWR H7
              refine hK.out _ _ (HCA.out _ H8.out.2) (fun hHeld => ?_)
              clear hK K
              try simp only [Act.put, List.getElem_toArray, List.getElem_cons_zero, List.getElem_cons_succ, List.setIfInBounds_toArray, List.set_cons_zero, List.set_cons_succ]
              refine wpAnyH_take (i := 15) (v := ?_) rfl (by kernel_rfl) (by kernel_rfl) (by kernel_rfl) (fun _ _ _ h => h) (Or.inl ⟨by rfl, ?_⟩) hHeld ?_
              rotate_left
              · (intro wq hSw; (try dsimp only at hSw); (go_simp <;> with_reducible rfl))
              try simp only [Act.put, List.getElem_toArray, List.getElem_cons_zero, List.getElem_cons_succ, List.setIfInBounds_toArray, List.set_cons_zero, List.set_cons_succ]
              refine wpAnyH_take (i := 16) (v := ?_) rfl (by kernel_rfl) (by kernel_rfl) (by kernel_rfl) (fun _ _ _ h => h) (Or.inl ⟨by rfl, ?_⟩) hHeld ?_
              rotate_left
              · (intro wq hSw; (try dsimp only at hSw); (go_simp <;> with_reducible rfl))
              try simp only [Act.put, List.getElem_toArray, List.getElem_cons_zero, List.getElem_cons_succ, List.setIfInBounds_toArray, List.set_cons_zero, List.set_cons_succ]
              refine wpAnyH_take (i := 17) (v := ?_) rfl (by kernel_rfl) (by kernel_rfl) (by kernel_rfl) (fun _ _ _ h => h) (Or.inl ⟨by rfl, ?_⟩) hHeld ?_
              rotate_left
              · (intro wq hSw; (try dsimp only at hSw); (go_simp <;> with_reducible rfl))
              try simp only [Act.put, List.getElem_toArray, List.getElem_cons_zero, List.getElem_cons_succ, List.setIfInBounds_toArray, List.set_cons_zero, List.set_cons_succ]
              refine wpAnyH_take (i := 18) (v := ?_) rfl (by kernel_rfl) (by kernel_rfl) (by kernel_rfl) (fun _ _ _ h => h) (Or.inl ⟨by rfl, ?_⟩) hHeld ?_
              rotate_left
              · (intro wq hSw; (try dsimp only at hSw); (go_simp <;> with_reducible rfl))
              try simp only [Act.put, List.getElem_toArray, List.getElem_cons_zero, List.getElem_cons_succ, List.setIfInBounds_toArray, List.set_cons_zero, List.set_cons_succ]
              refine wpAnyH_ready (rs := [19]) (by kernel_rfl) (by simp) ?_
              refine AllReadyH.cons rfl (fun K hK => ?_) AllReadyH.nil
              go_simp
              refine HOFF.out.mono ?_
              rintro _ wD ⟨rfl, h1, h2⟩
              have H9 : Hid (OrA wc.heap.size wD da 0 (ps.map (·.1)) Sa ∧ OrK w w5 wD (KB w Sb (.slice pl k cl) (.slice pw k cw) wv) (UB ps) Sa) := ⟨h1, h2⟩
              have HRM := hide (HZ.out.rooms h1 h2 HRA.out)
              clear h1 h2 HOFF H8
              refine hK.out _ _ (HCA.out _ H9.out.2) (fun hHeld => ?_)
              clear hK K
              try simp only [Act.put, List.getElem_toArray, List.getElem_cons_zero, List.getElem_cons_succ, List.setIfInBounds_toArray, List.set_cons_zero, List.set_cons_succ]
              refine wpAnyH_take (i := 20) (v := ?_) rfl (by kernel_rfl) (by kernel_rfl) (by kernel_rfl) (fun _ _ _ h => h) (Or.inl ⟨by rfl, ?_⟩) hHeld ?_
              rotate_left
              · (intro wq hSw; (try dsimp only at hSw); (go_simp <;> with_reducible rfl))
              try simp only [Act.put, List.getElem_toArray, List.getElem_cons_zero, List.getElem_cons_succ, List.setIfInBounds_toArray, List.set_cons_zero, List.set_cons_succ]
              refine wpAnyH_take (i := 21) (v := ?_) rfl (by kernel_rfl) (by kernel_rfl) (by kernel_rfl) (fun _ _ _ h => h) (Or.inl ⟨by rfl, ?_⟩) hHeld ?_
              rotate_left
              · (intro wq hSw; (try dsimp only at hSw); (go_simp <;> with_reducible rfl))
              try simp only [Act.put, List.getElem_toArray, List.getElem_cons_zero, List.getElem_cons_succ, List.setIfInBounds_toArray, List.set_cons_zero, List.set_cons_succ]
              refine wpAnyH_take (i := 22) (v := ?_) rfl (by kernel_rfl) (by kernel_rfl) (by kernel_rfl) (fun _ _ _ h => h) (Or.inl ⟨by rfl, ?_⟩) hHeld ?_
              rotate_left
              · (intro wq hSw; (try dsimp only at hSw); (go_simp <;> with_reducible rfl))
              try simp only [Act.put, List.getElem_toArray, List.getElem_cons_zero, List.getElem_cons_succ, List.setIfInBounds_toArray, List.set_cons_zero, List.set_cons_succ]
              refine wpAnyH_take (i := 24) (v := ?_) rfl (by kernel_rfl) (by kernel_rfl) (by kernel_rfl) (fun _ _ _ h => h) (Or.inl ⟨by rfl, ?_⟩) hHeld ?_
              rotate_left
              · (intro wq hSw; (try dsimp only at hSw); (go_simp <;> with_reducible rfl))
              try simp only [Act.put, List.getElem_toArray, List.getElem_cons_zero, List.getElem_cons_succ, List.setIfInBounds_toArray, List.set_cons_zero, List.set_cons_succ]
              refine wpAnyH_take (i := 25) (v := ?_) rfl (by kernel_rfl) (by kernel_rfl) (by kernel_rfl) (fun _ _ _ h => h) (Or.inl ⟨by rfl, ?_⟩) hHeld ?_
              rotate_left
              · (intro wq hSw; (try dsimp only at hSw); (go_simp <;> with_reducible rfl))
              try simp only [Act.put, List.getElem_toArray, List.getElem_cons_zero, List.getElem_cons_succ, List.setIfInBounds_toArray, List.set_cons_zero, List.set_cons_succ]
              refine wpAnyH_ready (rs := [23]) (by kernel_rfl) (by simp) ?_
              refine AllReadyH.cons rfl (fun K hK => ?_) AllReadyH.nil
              go_simp
              refine HRM.out.mono ?_
              rintro _ wE ⟨rfl, h1, h2⟩
              have H10 : Hid (OrA wc.heap.size wE da 0 (ps.map (·.1)) Sa ∧ OrK w w5 wE (KB w Sb (.slice pl k cl) (.slice pw k cw) wv) (UB ps) Sa) := ⟨h1, h2⟩
              have HSW := hide (HZ.out.sumW h2)
              clear h1 h2 HRM H9
              refine hK.out _ _ (HCA.out _ H10.out.2) (fun hHeld => ?_)
              clear hK K
              try simp only [Act.put, List.getElem_toArray, List.getElem_cons_zero, List.getElem_cons_succ, List.setIfInBounds_toArray, List.set_cons_zero, List.set_cons_succ]
              refine wpAnyH_take (i := 26) (v := ?_) rfl (by kernel_rfl) (by kernel_rfl) (by kernel_rfl) (fun _ _ _ h => h) (Or.inl ⟨by rfl, ?_⟩) hHeld ?_
              rotate_left
              · (intro wq hSw; (try dsimp only at hSw); (go_simp <;> with_reducible rfl))
              try simp only [Act.put, List.getElem_toArray, List.getElem_cons_zero, List.getElem_cons_succ, List.setIfInBounds_toArray, List.set_cons_zero, List.set_cons_succ]
              refine wpAnyH_take (i := 27) (v := ?_) rfl (by kernel_rfl) (by kernel_rfl) (by kernel_rfl) (fun _ _ _ h => h) (Or.inl ⟨by rfl, ?_⟩) hHeld ?_
              rotate_left
              · (intro wq hSw; (try dsimp only at hSw); (go_simp <;> with_reducible rfl))
              try simp only [Act.put, List.getElem_toArray, List.getElem_cons_zero, List.getElem_cons_succ, List.setIfInBounds_toArray, List.set_cons_zero, List.set_cons_succ]
              refine wpAnyH_take (i := 28) (v := ?_) rfl (by kernel_rfl) (by kernel_rfl) (by kernel_rfl) (fun _ _ _ h => h) (Or.inl ⟨by rfl, ?_⟩) hHeld ?_
              rotate_left
              · (intro wq hSw; (try dsimp only at hSw); (go_simp <;> with_reducible rfl))
              try simp only [Act.put, List.getElem_toArray, List.getElem_cons_zero, List.getElem_cons_succ, List.setIfInBounds_toArray, List.set_cons_zero, List.set_cons_succ]
              refine wpAnyH_take (i := 29) (v := ?_) rfl (by kernel_rfl) (by kernel_rfl) (by kernel_rfl) (fun _ _ _ h => h) (Or.inl ⟨by rfl, ?_⟩) hHeld ?_
              rotate_left
              · (intro wq hSw; (try dsimp only at hSw); (go_simp <;> with_reducible rfl))
              try simp only [Act.put, List.getElem_toArray, List.getElem_cons_zero, List.getElem_cons_succ, List.setIfInBounds_toArray, List.set_cons_zero, List.set_cons_succ]
              refine wpAnyH_take (i := 31) (v := ?_) rfl (by kernel_rfl) (by kernel_rfl) (by kernel_rfl) (fun _ _ _ h => h) (Or.inl ⟨by rfl, ?_⟩) hHeld ?_
              rotate_left
              · (intro wq hSw; (try dsimp only at hSw); (go_simp <;> with_reducible rfl))
              try simp only [Act.put, List.getElem_toArray, List.getElem_cons_zero, List.getElem_cons_succ, List.setIfInBounds_toArray, List.set_cons_zero, List.set_cons_succ]
              refine wpAnyH_ready (rs := [30]) (by kernel_rfl) (by simp) ?_
              refine AllReadyH.cons rfl (fun K hK => ?_) AllReadyH.nil
              go_simp
              refine HSW.out.mono ?_
              rintro _ wG ⟨rfl, hb⟩
              have H11 : Hid (OrA wc.heap.size wG da 0 (ps.map (·.1)) Sa ∧ OrK w w5 wG (KB w Sb (.slice pl k cl) (.slice pw k cw) wv) (UB ps) Sa) := H10.out.2.below H10.out.1 HZ.out.hBa hb
              have HSL2 := hide (HZ.out.sumL H11.out.2)
              clear hb HSW H10
              refine hK.out _ _ (HCA.out _ H11.out.2) (fun hHeld => ?_)
              clear hK K
              try simp only [Act.put, List.getElem_toArray, List.getElem_cons_zero, List.getElem_cons_succ, List.setIfInBounds_toArray, List.set_cons_zero, List.set_cons_succ]
              refine wpAnyH_ready (rs := [32]) (by kernel_rfl) (by simp) ?_
              refine AllReadyH.cons rfl (fun K hK => ?_) AllReadyH.nil
              go_simp
              refine HSL2.out.mono ?_
              rintro _ wH ⟨rfl, hb⟩
              have H12 : Hid (OrA wc.heap.size wH da 0 (ps.map (·.1)) Sa ∧ OrK w w5 wH (KB w Sb (.slice pl k cl) (.slice pw k cw) wv) (UB ps) Sa) := H11.out.2.below H11.out.1 HZ.out.hBa hb
              clear hb HSL2 H11
              refine hK.out _ _ (HCA.out _ H12.out.2) (fun hHeld => ?_)
              clear hK K
              try simp only [Act.put, List.getElem_toArray, List.getElem_cons_zero, List.getElem_cons_succ, List.setIfInBounds_toArray, List.set_cons_zero, List.set_cons_succ]
              refine wpAnyH_take (i := 33) (v := ?_) rfl (by kernel_rfl) (by kernel_rfl) (by kernel_rfl) (fun _ _ _ h => h) (Or.inl ⟨by rfl, ?_⟩) hHeld ?_
              rotate_left
              · (intro wq hSw; (try dsimp only at hSw); (go_simp <;> with_reducible rfl))
              try simp only [Act.put, List.getElem_toArray, List.getElem_cons_zero, List.getElem_cons_succ, List.setIfInBounds_toArray, List.set_cons_zero, List.set_cons_succ]
              refine wpAnyH_take (i := 34) (v := ?_) rfl (by kernel_rfl) (by kernel_rfl) (by kernel_rfl) (fun _ _ _ h => h) (Or.inl ⟨by rfl, ?_⟩) hHeld ?_
              rotate_left
              · (intro wq hSw; (try dsimp only at hSw); (go_simp <;> with_reducible rfl))
              try simp only [Act.put, List.getElem_toArray, List.getElem_cons_zero, List.getElem_cons_succ, List.setIfInBounds_toArray, List.set_cons_zero, List.set_cons_succ]
              refine wpAnyH_done (by kernel_rfl) ?_ _
              clear c52 H5d
              go_wp2_with fail
              go_loopw [13] (fun t13 wr => ∃ i : Nat, t13 = .int .i64 (i : Int) ∧ i ≤ k ∧ Hid (∃ Sa : DS, OrA wc.heap.size wr da i (ps.map (·.1)) Sa ∧ OrK w w5 wr (KB w Sb (.slice pl k cl) (.slice pw k cw) wv) (UB ps) Sa)) (fun t13 _ => k - (intOf t13).toNat)
              case atStart => exact ⟨0, rfl, Nat.zero_le _, Sa, H12.out⟩
              case round =>
                clear H12 HCA
                obtain ⟨i, rfl, hi, HI⟩ := hrel
                obtain ⟨Sa, hS⟩ := HI.out
                have HI := hide hS
                clear hS
                by_cases hlt : i < k
                · have hlt' : (i : Int) < (k : Int) := by omega
                  obtain ⟨pl', cl', g, o, pb, cb, e1, e2, k1, k2, hov⟩ := HZ.out.at2 hlt
                  simp only [Value.slice.injEq] at e1
                  obtain ⟨rfl, -, rfl⟩ := e1
                  subst e2
                  have HLK : Hid (KB w Sb (.slice (some ⟨g, o, none⟩) k cl) (.slice pw k cw) wv g) := .inr (.inr (.inl rfl))
                  have HSU := hide (HI.out.1.sure HI.out.2 HZ.out.hBa HZ.out.ok (by rw [HZ.out.len.1]; exact hlt))
                  have HRV : Hid (∀ wx Sx, OrA wc.heap.size wx da i (ps.map (·.1)) Sx → OrK w w5 wx (KB w Sb (.slice (some ⟨g, o, none⟩) k cl) (.slice pw k cw) wv) (UB ps) Sx → Calls Try.prog 24 #[.pointer (some ⟨da, 0, none⟩), .string ((ps.map (·.1)).getD i (.empty, [])).1] wx fun e w2 => ∃ z : Int, e = .returned (.int .i64 z) ∧ ∃ Sa' : DS, OrA wc.heap.size w2 da (i + 1) (ps.map (·.1)) Sa' ∧ OrK w w5 w2 (KB w Sb (.slice (some ⟨g, o, none⟩) k cl) (.slice pw k cw) wv) (UB ps) Sa') := fun wx Sx h1 h2 => h1.remove h2 HZ.out.hBa HZ.out.ok (by rw [HZ.out.len.1]; exact hlt) (by have := HZ.out.len.2; omega)
                  have h1m := HZ.out.one_le hlt
                  obtain ⟨nm, hnm⟩ : ∃ nm, ((ps.map (·.1)).getD i (.empty, [])).1 = nm := ⟨_, rfl⟩
                  obtain ⟨m, hm⟩ : ∃ m, ((ps.map (·.1)).getD i (.empty, [])).2.length = m := ⟨_, rfl⟩
                  rw [hnm] at HSU HRV k1
                  rw [hm] at HSU k2 hov h1m
                  have HOV := hide hov
                  have HK1 : Hid (w5.cell? ⟨g, o + i * 2, none⟩ = some (.string nm)) := k1
                  have HK2 : Hid (w5.cell? ⟨g, o + i * 2 + 1, none⟩ = some (.slice pb m cb)) := k2
                  have r1 : wr.cell? ⟨g, o + i * 2, none⟩ = some (.string nm) := (HI.out.2.cellK (a := ⟨g, o + i * 2, none⟩) HLK.out).trans k1
                  clear hnm hm k1 k2 hov
                  go_upto_region 29 with (go_at_call 14; refine HSU.out.mono ?_; rintro e wa ⟨rfl, h1, h2⟩; have HA2 := hide (And.intro h1 h2); have a1 : wa.cell? ⟨g, o + i * 2, none⟩ = some (.string nm) := (h2.cellK (a := ⟨g, o + i * 2, none⟩) HLK.out).trans HK1.out; have a2 : wa.cell? ⟨g, o + i * 2 + 1, none⟩ = some (.slice pb m cb) := (h2.cellK (a := ⟨g, o + i * 2 + 1, none⟩) HLK.out).trans HK2.out; have HR2 := hide (HRV.out wa Sa h1 h2); clear h1 h2 HSU HRV r1)
                  go_wp2_with (first
                    | (go_at_call 8; refine (num10_any _ _).mono ?_; rintro e wn ⟨rfl, hwn⟩; have hwn2 := hwn.symm; subst hwn2)
                    | (go_at_call 24; refine HR2.out.mono ?_; rintro e wb' ⟨zz, rfl, Sa', h1, h2⟩; have HB2 := hide (And.intro h1 h2); have b1 : wb'.cell? ⟨g, o + i * 2, none⟩ = some (.string nm) := (h2.cellK (a := ⟨g, o + i * 2, none⟩) HLK.out).trans HK1.out; have b2 : wb'.cell? ⟨g, o + i * 2 + 1, none⟩ = some (.slice pb m cb) := (h2.cellK (a := ⟨g, o + i * 2 + 1, none⟩) HLK.out).trans HK2.out; have HOV2 := hide (HZ.out.over (cb := cb) h1 h2 h1m HOV.out); clear h1 h2 HR2 a1 a2)
                    | (go_at_call 25; refine HOV2.out.mono ?_; rintro e wg ⟨rfl, h1, h2⟩; have HG := hide (And.intro h1 h2); clear h1 h2 HOV2 b1 b2))
                  go_roundw
                  case rel => exact ⟨i + 1, by simp, by omega, Sa', HG.out⟩
                  case measure => simp [intOf]; omega
                · have hlt' : ¬ (i : Int) < (k : Int) := by omega
                  have hik : i = k := by omega
                  subst hik
                  have HFE := hide (HZ.out.filesE HI.out.1 HI.out.2)
                  go_wp2_with (first
                    | (go_at_call 8; refine (num10_any _ _).mono ?_; rintro e wn ⟨rfl, hwn⟩; have hwn2 := hwn.symm; subst hwn2)
                    | (go_at_call 13; refine HFE.out.mono ?_; rintro e wa ⟨p1, c1, rfl, h1, h2⟩; have HLB := hide (HZ.out.lastB h2); clear h1 h2 HFE)
                    | (go_at_call 13; refine HLB.out.mono ?_; rintro e wb' ⟨p2, m2, c2, rfl, ⟨⟨ys, y1, y2⟩, y3, y4⟩, hbx⟩; have HEQ := hide (eqFiles_same (.slice p2 m2 c2) (.slice pw i cw) ys wv L wb' y1 y3 y2 y4 (by rw [HZ.out.was.2.2.1]; have := HZ.out.len.2; omega) HZ.out.small); have HBX2 := hide hbx; clear y1 y2 y3 y4 hbx HLB)
                    | (go_at_call 17; refine HEQ.out.mono ?_; rintro e wg ⟨rfl, hb⟩; have HBY := hide (HBX2.out.trans (hb.mono HBX2.out.size)); clear hb HEQ)
                    | (go_at_call 9; refine (works10_any _).mono ?_; rintro e wz ⟨rfl, hBz⟩; have HZZ := hide (HBY.out.trans (hBz.mono HBY.out.size)); clear hBz))
                  go_ret
                  exact ⟨rfl, HZZ.out⟩
            · have HC0 := hide hc0
              have HL1 : Hid (Calls Try.prog 19 #[.slice pl k cl, .int .i64 room] wc fun e w' => e = .returned (.tuple #[.pointer none, .int .i64 (ldC (ps.map (·.1)) room)]) ∧ Below wc.heap.size wc w') := by
                refine (or_load wc _ ps HPL.out.1 HPL.out.2 hlq.out.2 room).mono ?_
                rintro e w' (⟨_, h1, h2⟩ | ⟨h, _⟩)
                · exact ⟨h1, h2⟩
                · exact absurd h HC0.out
              have HL2 : Hid (∀ wa, Below wc.heap.size wc wa → Calls Try.prog 19 #[.slice pc k cc, .int .i64 room] wa fun e w' => e = .returned (.tuple #[.pointer none, .int .i64 (ldC (ps.map (·.1)) room)]) ∧ Below wa.heap.size wa w') := fun wa hba => by
                refine (or_load wa _ qs (HPQ.out.1.below hba) (HQB.out.below hba) hlq.out.1 room).mono ?_
                have hcc := ldC_perm (HPQ.out.2.1.map (·.1)) room
                rintro e w' (⟨_, h1, h2⟩ | ⟨h, _⟩)
                · rw [hcc] at h1; exact ⟨h1, h2⟩
                · exact absurd (hcc.symm.trans h) HC0.out
              obtain ⟨c, hc⟩ : ∃ c, ldC (ps.map (·.1)) room = c := ⟨_, rfl⟩
              rw [hc] at HL1 HL2 hc0
              have hcb : (c == 0) = false := by simp [hc0]
              clear HC0 hc
              go_wp2_with (first
                | (go_at_call 8; refine (num10_any _ _).mono ?_; rintro e wn ⟨rfl, hwn⟩; have hwn2 := hwn.symm; subst hwn2)
                | (go_at_call 19; refine HL1.out.mono ?_; rintro e wa ⟨rfl, h4⟩; have HA := hide (HBC.out.trans (h4.mono HBC.out.size)); have ca2 : wa.cell? ⟨w.heap.size, 2, none⟩ = some (.int .i64 room) := cell_bel h4 cw2; have HLB := hide (HL2.out wa h4); clear h4 HL1 HL2 cw2)
                | (go_at_call 19; refine HLB.out.mono ?_; rintro e wb ⟨rfl, h3⟩; have HB := hide (HA.out.trans (h3.mono HA.out.size)); clear h3 HLB HA)
                | (go_at_call 9; refine (works10_any _).mono ?_; rintro e wz ⟨rfl, hBz⟩; have HZ := hide (HB.out.trans (hBz.mono HB.out.size)); clear hBz))
              go_ret
              exact ⟨rfl, HZ.out⟩
    · have hr5' : (524288 : Int) < (r : Int) := by omega
      go_wp2_with (go_at_call 9; refine (works10_any _).mono ?_; rintro e wz ⟨rfl, hBz⟩; have HZ := hide (HBS.out.trans (hBz.mono HBS.out.size)); clear hBz)
      go_ret
      exact ⟨rfl, HZ.out⟩
  · have h4' : (400 : Int) < (nf : Int) := by omega
    go_wp2_with (go_at_call 9; refine (works10_any _).mono ?_; rintro e wz ⟨rfl, hBz⟩; have HZ := hide (HB0.out.trans (hBz.mono HB0.out.size)); clear hBz)
    go_ret
    exact ⟨rfl, HZ.out⟩

end Go.Proofs.Ytiblnkiecpcdpaa

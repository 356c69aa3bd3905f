/- JournalBack: the walk. -/
import Derived.Test.YtpecgmcalbojcaaDoorJ4F
namespace Go.Proofs.YtpecgmcalbojcaaDoor
open Go.RowKit
set_option linter.unusedVariables false
set_option linter.unusedSimpArgs false

/-- Rows of rows of bytes, as they are handed in. -/
def RowsIn (w : World) (p : Option Addr) (n : Nat) : Prop := ∀ i, i < n → ∃ (b o : Nat) (pe : Option Addr) (ne ce : Nat) (q : Nat → List Nat), p = some ⟨b, o, none⟩ ∧ w.cell? ⟨b, o + i, none⟩ = some (.slice pe ne ce) ∧ ne ≤ 140737488355328 ∧ PartsOf w pe ne q ∧ ∀ j, j < ne → (q j).length ≤ 140737488355328 ∧ ∀ x ∈ q j, x < 256
def IntsIn (w : World) (p : Option Addr) (n : Nat) : Prop := ∀ i, i < n → ∃ (b o : Nat) (z : Int), p = some ⟨b, o, none⟩ ∧ w.cell? ⟨b, o + i, none⟩ = some (.int .i64 z)

/-- The walk's state. -/
structure BkSt (w0 wr : World) (d l nL : Nat) (v : Value) (A L k : Nat) (p : PS) (F : Nat → Prop) (vals : List Value) (rr : List (List (List Nat))) : Prop where
  log : LogSt w0 wr d l p F rr A
  want : RecG (Gd w0.heap.size wr F l) w0.heap.size wr v vals rr
  k1 : k ≤ 60
  k2 : k ≤ nL
  a1 : A ≤ 8 + 8 * k + (65536 - L)
  l1 : L ≤ 65536
  wr1 : p.wr ≤ 2 + 22 * k
  len : rr.length ≤ k
  few : ∀ r ∈ rr, r.length ≤ 1000000 ∧ ∀ x ∈ r, x.length ≤ 140737488355328

theorem BkSt.fr {w0 wr w' : World} {d l nL : Nat} {v : Value} {A L k : Nat} {p : PS} {F : Nat → Prop} {vals : List Value} {rr : List (List (List Nat))} (h : BkSt w0 wr d l nL v A L k p F vals rr) (hl : LogSt w0 w' d l p F rr A) (hf : Fr wr F w' F) : BkSt w0 w' d l nL v A L k p F vals rr := { h with log := hl, want := h.want.keep (gd_fr hf) }

theorem LogSt.grown {W wr w' : World} {d l : Nat} {p : PS} {F : Nat → Prop} {ff : List (List (List Nat))} {A : Nat} {X : Obj} {v : Value} (h : LogSt W wr d l p F ff A) (hg : (wr.alloc X).grownBy w' v.ownBlock) (hv : ∀ k, v.ownBlock = some k → Gd W.heap.size wr F l k) : LogSt W w' d l p F ff A := by
  have hk : ∀ k, k < wr.heap.size → (¬ Gd W.heap.size wr F l k) → w'.heap[k]? = wr.heap[k]? := fun k hk hn => (hg.block k (by simp; omega) (fun e => hn (hv k e.symm))).trans (Below.heap_alloc _ _ _ hk)
  have hl := heap_lt h.lg
  exact { h with
    di := h.di.keep fun k hF => hk k (h.di.lt k hF) fun e => e.2.2.1 hF
    lg := (hk l hl fun e => e.2.2.2 rfl).trans h.lg
    bel := h.bel.trans ⟨hg.os, hg.tape, hg.output, Nat.le_trans (by simp) hg.size, fun k hkB => hk k (Nat.lt_of_lt_of_le hkB h.bel.size) fun e => by have := e.1; omega⟩ }

set_option maxRecDepth 100000 in
set_option maxHeartbeats 8000000 in
theorem journalBack_any (pL : Option Addr) (nL cL : Nat) (pC : Option Addr) (nC cC : Nat) (w : World) (hL : RowsIn w pL nL) (hC : IntsIn w pC nC) (hnL : nL ≤ 140737488355328) (hnC : nC ≤ 140737488355328) (hT : TabC w) :
    Calls Tryd.prog 3 #[.agg #[.slice pL nL cL, .slice pC nC cC]] w fun e w' => e = .returned (.bool true) ∧ Below w.heap.size w w' := by
  have HX : Hid ((w.alloc (.cells #[.slice pL nL cL, .slice pC nC cC] 25)).heap[w.heap.size]? = some (.cells #[.slice pL nL cL, .slice pC nC cC] 25 (0, 0))) := heap_alloc_new _ _
  have HB0 : Hid (Below w.heap.size w (w.alloc (.cells #[.slice pL nL cL, .slice pC nC cC] 25))) := (Below.refl _ _).alloc (Nat.le_refl _) _
  have HL := hide hL
  have HC := hide hC
  have HTw := hide hT
  clear hL hC hT
  go_enter Tryd.func3, Tryd.ntmps3
  go_upto_region 1 with fail
  generalize w.alloc (.cells #[.slice pL nL cL, .slice pC nC cC] 25) = w0 at *
  have HT : Hid (TabC w0) := HTw.out.below HB0.out
  have hnj : nmJ.toList = [106] := by rw [ByteArray.toList_eq]; rfl
  have HNW := hide (di_new w0 w0.heap.size (Nat.le_refl _) 268435456 (by decide) (by decide))
  go_wp2_with (first
    | (go_at_call 10; refine (num_any _ _).mono ?_; rintro e wn ⟨rfl, hwn⟩; have hwn2 := hwn.symm; subst hwn2)
    | (go_at_call 9; refine HNW.out.mono ?_; rintro e w1 ⟨d, F1, rfl, hD1, hB1, hG1⟩; have H1 : Hid (Di w0.heap.size w1 d { con := [], room := 268435456, off := false, ain := 0, keep := 0, lose := 0, wr := 0 } F1 ∧ Below w0.heap.size w0 w1) := ⟨hD1, hB1⟩; clear hD1 hB1 hG1 HNW)
    | (go_at_call 11; refine (works_any _ (HT.out.below H1.out.2)).mono ?_; rintro e w2 ⟨rfl, hB2⟩; have H2 : Hid (Di w0.heap.size w2 d { con := [], room := 268435456, off := false, ain := 0, keep := 0, lose := 0, wr := 0 } F1 ∧ Below w0.heap.size w0 w2) := ⟨H1.out.1.below hB2, H1.out.2.trans (hB2.mono H1.out.2.size)⟩; clear hB2 H1)
    | (go_at_call 12; refine (log_new w0 _ d F1 H2.out.1 H2.out.2).mono ?_; rintro e w3 ⟨l, p, F, rfl, hS, hp⟩; have HS : Hid (LogSt w0 w3 d l p F [] 8 ∧ p.wr = 2) := ⟨hS, hp⟩; clear hS hp H2)
    | (go_at_call 13; refine (lsize_any _ HS.out.1.lg).mono ?_; rintro e wn ⟨rfl, hwn⟩; have hwn2 := hwn.symm; subst hwn2)
    | (go_at_call 14; refine (lname_any _ HS.out.1.lg).mono ?_; rintro e wn ⟨rfl, hwn⟩; have hwn2 := hwn.symm; subst hwn2))
  go_loopw [8, 9, 10, 11] (fun t8 t9 t10 t11 wr => ∃ (pw : Option Addr) (nw cw A L k : Nat), t8 = .slice pw nw cw ∧ t9 = .int .i64 (A : Int) ∧ t10 = .int .i64 (L : Int) ∧ t11 = .int .i64 (k : Int) ∧ Hid (∃ p F vals rr, nw = rr.length ∧ BkSt w0 wr d l nL (.slice pw nw cw) A L k p F vals rr)) (fun _ _ _ t11 _ => 60 - (intOf t11).toNat)
  case atStart => exact ⟨none, 0, 0, 8, 65536, 0, rfl, rfl, rfl, rfl, p, F, [], [], rfl, ⟨HS.out.1, RecG.nil _ _ _, by omega, by omega, by omega, by omega, by rw [HS.out.2]; omega, by simp, by simp⟩⟩
  case round =>
    obtain ⟨pw, nw, cw, A, L, k, rfl, rfl, rfl, rfl, hI⟩ := hrel
    clear HS hnj
    have HEND : Hid (∀ wx, Below w0.heap.size w0 wx → Calls Tryd.prog 11 #[] wx fun e w' => e = .returned (.bool true) ∧ Below w.heap.size w w') := fun wx hB => by
      refine (works_any wx (HT.out.below hB)).mono ?_
      rintro e w' ⟨rfl, hB2⟩
      have h3 : Below w0.heap.size w0 w' := hB.trans (hB2.mono hB.size)
      exact ⟨rfl, HB0.out.trans (h3.mono HB0.out.size)⟩
    obtain ⟨p, F, vals, rr, hnw, hS⟩ := hI.out
    have HS := hide hS
    have HNW := hide hnw
    have b0 : wr.cell? ⟨w.heap.size, 0, none⟩ = some (.slice pL nL cL) := by
      rw [hS.log.bel.cell (p := ⟨w.heap.size, 0, none⟩) (heap_lt HX.out), cell_of_row _ _ _ _ _ _ HX.out]; rfl
    clear hI hS hnw
    by_cases hk : k < nL
    · have hk' : (k : Int) < (nL : Int) := by omega
      by_cases hk6 : k < 60
      · have hk6' : (k : Int) < 60 := by omega
        obtain ⟨gL, oL, pe, ne, ce, q, hpL, hcL, hne, hPq, hq⟩ := HL.out k hk
        have hbW : Below w.heap.size w wr := HB0.out.trans (HS.out.log.bel.mono HB0.out.size)
        have hcL2 : wr.cell? ⟨gL, oL + k, none⟩ = some (.slice pe ne ce) := by rw [hbW.cell (p := ⟨gL, oL + k, none⟩) (block_lt_of_cell hcL)]; exact hcL
        subst hpL
        obtain ⟨rs, hrs⟩ : ∃ rs, (List.range (min ne 300)).map q = rs := ⟨_, rfl⟩
        have HCP := hide (copied_any pe ne ce q wr (hPq.below hbW) (fun i hi => (hq i hi).1) hne)
        rw [hrs] at HCP
        have HRS : Hid (rs.length ≤ 300 ∧ ∀ r ∈ rs, r.length ≤ 140737488355328 ∧ ∀ x ∈ r, x < 256) := by
          rw [← hrs]
          refine ⟨by simp; omega, fun r hr => ?_⟩
          obtain ⟨i, hi, rfl⟩ := List.mem_map.1 hr
          exact hq i (by have := List.mem_range.1 hi; omega)
        clear hcL hPq hq hbW hrs hne
        go_wp2_with (go_at_call 15; refine HCP.out.mono ?_; rintro e w1 ⟨v1, rfl, hR1, hB1⟩; have HR1 := hide (And.intro hR1 hB1); obtain ⟨p1, c1, hv1, -⟩ := hR1.a; obtain ⟨m, hm⟩ : ∃ m, rs.length = m := ⟨_, rfl⟩; rw [hm] at hv1; subst hv1; have HM := hide hm; clear hR1 hB1 hm HCP)
        have HP1 : Hid (PartsOf w1 p1 m (fun i => rs.getD i [])) := HR1.out.1.a.parts.2
        have hm3 : m ≤ 300 := by have := HRS.out.1; have := HM.out; omega
        have HQ : Hid (∀ i, i < m → (rs.getD i []).length ≤ 140737488355328) := fun i hi => by
          have hi' : i < rs.length := by rw [HM.out]; exact hi
          exact (HRS.out.2 (rs.getD i []) (by rw [List.getD_eq_getElem?_getD, List.getElem?_eq_getElem hi']; exact List.getElem_mem hi')).1
        refine (size_any p1 m c1 (fun i => rs.getD i []) w1 HP1.out HQ.out (by omega)).mono ?_
        rintro e w2 ⟨z, rfl, hz1, hz2, hB2⟩
        have HB2 : Hid (Below w1.heap.size w1 w2) := hB2
        have HBR2 : Hid (Below wr.heap.size wr w2) := HR1.out.2.trans (hB2.mono HR1.out.2.size)
        clear hB2
        by_cases hzl : z ≤ L
        · have hzL : L ≤ 65536 := HS.out.l1
          have HZ : Hid (z = sumL (fun i => rs.getD i []) m) := by rcases hz1 with h | h; exact h; omega
          obtain ⟨L', hL'⟩ : ∃ L' : Nat, (L : Int) - (z : Int) = (L' : Int) := ⟨L - z, by omega⟩
          have HLL : Hid (L' + z = L) := by show _ = _; omega
          have hL0 : ¬ (L : Int) < (z : Int) := by omega
          have HL1 := hide hL'
          clear hL'
          have HCP2 := hide (copied_any p1 m c1 (fun i => rs.getD i []) w2 (HP1.out.below HB2.out) HQ.out (by omega))
          rw [show (List.range (min m 300)).map (fun i => rs.getD i []) = rs from by rw [show min m 300 = rs.length from by rw [HM.out]; omega]; exact map_getD rs] at HCP2
          have HAP : Hid (∀ w3 p3 c3, RowA w3 (.slice p3 m c3) rs → Below w2.heap.size w2 w3 → Calls Tryd.prog 17 #[.pointer (some ⟨l, 0, none⟩), .slice p3 m c3] w3 fun e w' => e = .returned (.int .i64 0) ∧ ∃ p' F', (LogSt w0 w' d l p' F' (rr ++ [rs]) (A + (recB rs).length) ∧ p'.wr = p.wr + 2) ∧ RecG (Gd w0.heap.size w' F' l) w0.heap.size w' (.slice pw nw cw) vals rr ∧ RowG (Gd w0.heap.size w' F' l) w0.heap.size w' (.slice p1 m c1) rs) := fun w3 p3 c3 hra hb3 => by
            have hb : Below wr.heap.size wr w3 := HBR2.out.trans (hb3.mono HBR2.out.size)
            have hb1 : Below w1.heap.size w1 w3 := HB2.out.trans (hb3.mono HB2.out.size)
            have hlog := HS.out.log.below hb
            have hbody : (bodyB rs).length ≤ 65536 := by
              have h1 := body_sumL (fun i => rs.getD i []) rs.length
              rw [(recP_rs rs).2, HM.out] at h1
              have := HZ.out
              omega
            have hrl := recB_len rs
            have ha1 := HS.out.a1
            have hl1 := HS.out.l1
            have hw1 := HS.out.wr1
            have hln := HS.out.len
            refine (log_append hlog HT.out p3 m c3 rs hra (fun r hr => (HRS.out.2 r hr).2) ⟨by have := HRS.out.1; omega, by omega⟩ (by omega) (by omega) (by omega)).mono ?_
            rintro e w' ⟨rfl, p', F', k1, k2, k3⟩
            have hrow : RowG (Gd w0.heap.size w1 F l) w0.heap.size w1 (.slice p1 m c1) rs := HR1.out.1.g HS.out.log.bel.size fun k h1 h2 => ⟨Nat.le_trans HS.out.log.bel.size h1, h2, fun e => by have := HS.out.log.di.lt k e; omega, fun e => by have := heap_lt HS.out.log.lg; omega⟩
            exact ⟨rfl, p', F', ⟨k1, k2⟩, (HS.out.want.keep (gd_below hb)).keep (gd_fx k3), (hrow.keep fun k _ _ hk _ _ => gd_below hb1 k hk).keep fun k _ _ hk _ _ => gd_fx k3 k hk⟩
          obtain ⟨i37, hi37⟩ := info37
          have Hi := hide hi37
          have HNM := hide HNW.out
          have hnw6 : nw ≤ 60 := by have := HS.out.len; have := HS.out.k1; have := HNW.out; omega
          clear hi37 hz1
          go_wp2_with (first
            | (go_at_call 15; refine HCP2.out.mono ?_; rintro e w3 ⟨v3, rfl, hR3, hB3⟩; have HR3 := hide (And.intro hR3 hB3); obtain ⟨p3, c3, hv3, -⟩ := hR3.a; rw [HM.out] at hv3; subst hv3; clear hR3 hB3 HCP2)
            | (go_at_call 17; refine (HAP.out _ _ _ HR3.out.1.a HR3.out.2).mono ?_; rintro e w4 ⟨rfl, p4, F4, h4⟩; have H4 := hide h4; clear h4 HAP HR3)
            | (go_at_call 10; refine (num_any _ _).mono ?_; rintro e wn ⟨rfl, hwn⟩; have hwn2 := hwn.symm; subst hwn2)
            | (at_builtin; refine wpList_append_own_at _ rfl _ _ _ rfl w0.heap.size 37 i37 (.slice none 0 0) 1 24 Tryd.underlying22 Hi.out.1 Hi.out.2.1 Hi.out.2.2.1 Hi.out.2.2.2 rfl (by decide) (.slice pw nw cw) nw vals rfl (by have := H4.out.2.1.own; rw [← HNM.out] at this; exact this.alloc _) ⟨w4.heap.size, 0, none⟩ 1 1 [.slice p1 m c1] rfl rfl (World.news_of_block (heap_alloc_new w4 _)) ?f1 ?f4 ?f5 ?f7 ?f6))
          case f1 => intro x hx; simp at hx; subst hx; rfl
          case f4 => unfold maxLen; omega
          case f5 => omega
          case f7 => have h4 := H4.out.1.1.bel.size; simp; omega
          case f6 =>
            intro v6 w5 ho5 hg5 _ hat
            have H5 : Hid (LogSt w0 w5 d l p4 F4 (rr ++ [rs]) (A + (recB rs).length) ∧ RecG (Gd w0.heap.size w5 F4 l) w0.heap.size w5 v6 (vals ++ [.slice p1 m c1]) (rr ++ [rs])) := by
              obtain ⟨⟨g1, g2⟩, g3, g4⟩ := H4.out
              rw [HNM.out] at ho5
              have hsz : w4.heap.size ≤ w5.heap.size := Nat.le_trans (by simp) hg5.size
              refine ⟨g1.grown hg5 g3.ob, g3.more g4 ho5 hg5 (fun k hk => hk.2.1) (fun k hk => ⟨hk.1, Nat.lt_of_lt_of_le hk.2.1 hsz, hk.2.2⟩) fun k e => ?_⟩
              rcases hat with h | h
              · have hk := g3.ob k (h ▸ e)
                exact ⟨hk.1, Nat.lt_of_lt_of_le hk.2.1 hsz, hk.2.2⟩
              · have ek : k = w4.heap.size + 1 := by rw [h] at e; simpa using e.symm
                have hb := g1.bel.size
                exact ⟨by omega, (ho5.lt k e).2, fun e2 => by have := g1.di.lt k e2; omega, fun e2 => by have := heap_lt g1.lg; omega⟩
            have HP4 : Hid (p4.wr = p.wr + 2) := H4.out.1.2
            have HW5 : Hid (∀ i, i < m → ∃ g pe ne ce, p1 = some ⟨g, 0, none⟩ ∧ w5.cell? ⟨g, i, none⟩ = some (.slice pe ne ce) ∧ ne = (rs.getD i []).length) := fun i hi => by
              have hro := H5.out.2.row rr.length (.slice p1 m c1) (by rw [← H4.out.2.1.len]; simp)
              rw [show (rr ++ [rs]).getD rr.length [] = rs from by simp [List.getD]] at hro
              obtain ⟨p', c', e, hc⟩ := hro.a
              simp only [Value.slice.injEq] at e
              obtain ⟨g, u, e1, e2, e3⟩ := hc i (by rw [HM.out]; exact hi)
              obtain ⟨pe, ce, rfl, _⟩ := by_slice e3
              exact ⟨g, pe, _, ce, e.1.trans e1, e2, rfl⟩
            obtain ⟨p6, c6, hv6⟩ : ∃ p6 c6, v6 = .slice p6 (nw + 1) c6 := by
              rcases ho5.2 with ⟨e1, e2⟩ | ⟨g', cap, cur, e1, _⟩
              · omega
              · exact ⟨_, _, e1⟩
            subst hv6
            have hA2 : A ≤ 70000 := by have := HS.out.a1; have := HS.out.k1; omega
            clear ho5 hg5 hat H4 HNW b0
            go_upto_block 2 with fail
            have HBM : Hid (∀ i, i ≤ m → (bodyP (fun i => rs.getD i []) i).length ≤ 65536) := fun i hi => by
              have h1 := body_sumL (fun i => rs.getD i []) m
              have h2 := bodyP_le (fun i => rs.getD i []) i m hi
              have := HZ.out
              have := HLL.out
              have := HS.out.l1
              omega
            have HA4 : Hid (A + (recB rs).length = A + 8 + (bodyP (fun i => rs.getD i []) m).length) := by
              show _ = _
              rw [recB_len, ← (recP_rs rs).2, HM.out]; omega
            obtain ⟨A4, hA4⟩ : ∃ A4, A + (recB rs).length = A4 := ⟨_, rfl⟩
            rw [hA4] at HA4 H5
            have hA5 : A4 ≤ 200000 := by rw [HA4.out]; have := HBM.out m (Nat.le_refl _); omega
            clear hA4
            go_cut [9] from 64 to 203 (fun t9 wc => t9 = .int .i64 (A4 : Int) ∧ w5 = wc)
            case first =>
              as_aux_lemma =>
                go_wp2_with fail
                go_loopw [9, 13] (fun t9 t13 wx => ∃ (i X : Nat), t9 = .int .i64 (X : Int) ∧ t13 = .int .i64 (i : Int) ∧ wx = w5 ∧ X ≤ 200000 ∧ Hid (i ≤ m ∧ X = A + 8 + (bodyP (fun i => rs.getD i []) i).length)) (fun _ t13 _ => m - (intOf t13).toNat)
                case atStart => exact ⟨0, A + 8, by simp, rfl, rfl, by omega, Nat.zero_le _, rfl⟩
                case round =>
                  obtain ⟨i, X, rfl, rfl, rfl, hX2, hJ⟩ := hrel
                  by_cases him : i < m
                  · have him' : (i : Int) < (m : Int) := by omega
                    obtain ⟨g5, pe5, ne5, ce5, e5, hc5, hne5⟩ := HW5.out i him
                    have HNX : Hid (i + 1 ≤ m ∧ X + 4 + ne5 = A + 8 + (bodyP (fun i => rs.getD i []) (i + 1)).length) := ⟨him, by rw [hJ.out.2, hne5]; simp only [bodyP, List.length_append, four_len]; omega⟩
                    have hX3 : X + 4 + ne5 ≤ 200000 := by rw [HNX.out.2]; have := HBM.out (i + 1) him; omega
                    subst e5
                    clear hne5 hJ
                    go_wp2_with fail
                    go_roundw
                    case rel => exact ⟨i + 1, X + 4 + ne5, by simp, by simp, by first | rfl | trivial, hX3, HNX.out⟩
                    case measure => simp [intOf]; omega
                  · have him' : ¬ (i : Int) < (m : Int) := by omega
                    have HXE : Hid (X = A4) := by
                      show _ = _
                      rw [hJ.out.2, HA4.out, show i = m from by have := hJ.out.1; omega]
                    clear hJ
                    go_wp2_with fail
                    go_meet
                    case rel => exact ⟨by rw [HXE.out], rfl⟩
            case rest =>
              obtain ⟨rfl, hw5⟩ := hcut
              subst hw5
              have HBK : Hid (BkSt w0 w5 d l nL (.slice p6 (nw + 1) c6) A4 L' (k + 1) p4 F4 (vals ++ [.slice p1 m c1]) (rr ++ [rs]) ∧ p4.wr ≤ 4 + 22 * k ∧ nw + 1 = (rr ++ [rs]).length) := by
                have h1 := HS.out.wr1
                have h2 := HS.out.a1
                have h3 := HLL.out
                have h4 := HZ.out
                have h5 := body_sumL (fun i => rs.getD i []) m
                have h6 := HA4.out
                have h7 := HP4.out
                have h8 := HS.out.len
                have h9 := HS.out.l1
                refine ⟨⟨H5.out.1, H5.out.2, by omega, by omega, by omega, by omega, by omega, by simp; omega, fun r hr => ?_⟩, by omega, by simp [HNM.out]⟩
                rcases List.mem_append.1 hr with hr | hr
                · exact HS.out.few r hr
                · rw [List.mem_singleton.1 hr]; exact ⟨by have := HRS.out.1; omega, fun x hx => (HRS.out.2 x hx).1⟩
              clear HS H5 HLL HZ HA4 HP4 HNM HBM HW5 HRS hA5 hA2 HM HP1 HQ HB2 HBR2 HR1
              go_upto_block 4 with fail
              go_cut [8, 9] from 64 to 203 (fun t8 t9 wc => ∃ (pw : Option Addr) (nw cw A : Nat), t8 = .slice pw nw cw ∧ t9 = .int .i64 (A : Int) ∧ Hid (∃ p F vals rr, nw = rr.length ∧ BkSt w0 wc d l nL (.slice pw nw cw) A L' (k + 1) p F vals rr))
              case first =>
                as_aux_lemma =>
                  go_wp2_with fail
                  go_loopw [8, 9, 14] (fun t8 t9 t14 wx => ∃ (pw : Option Addr) (nw cw A j : Nat), t8 = .slice pw nw cw ∧ t9 = .int .i64 (A : Int) ∧ t14 = .int .i64 (j : Int) ∧ j ≤ 20 ∧ Hid (∃ p F vals rr, nw = rr.length ∧ BkSt w0 wx d l nL (.slice pw nw cw) A L' (k + 1) p F vals rr ∧ p.wr ≤ 4 + 22 * k + j)) (fun _ _ t14 _ => 20 - (intOf t14).toNat)
                  case atStart => exact ⟨p6, nw + 1, c6, A4, 0, by simp, rfl, rfl, by omega, p4, F4, _, _, HBK.out.2.2, HBK.out.1, HBK.out.2.1⟩
                  case round =>
                    obtain ⟨pw2, nw2, cw2, A2, j, rfl, rfl, rfl, hj20, hJ⟩ := hrel
                    obtain ⟨p7, F7, vals7, rr7, h71, h72, h73⟩ := hJ.out
                    have H7 : Hid (nw2 = rr7.length ∧ BkSt w0 wr d l nL (.slice pw2 nw2 cw2) A2 L' (k + 1) p7 F7 vals7 rr7 ∧ p7.wr ≤ 4 + 22 * k + j) := ⟨h71, h72, h73⟩
                    have b1 : wr.cell? ⟨w.heap.size, 1, none⟩ = some (.slice pC nC cC) := by
                      rw [h72.log.bel.cell (p := ⟨w.heap.size, 1, none⟩) (heap_lt HX.out), cell_of_row _ _ _ _ _ _ HX.out]; rfl
                    clear h71 h72 h73 hJ
                    by_cases hjC : j < nC
                    · have hjC' : (j : Int) < (nC : Int) := by omega
                      by_cases hj2 : j < 20
                      · have hj2' : (j : Int) < 20 := by omega
                        obtain ⟨gC, oC, z, hpC, hcC⟩ := HC.out j hjC
                        have hbW : Below w.heap.size w wr := HB0.out.trans (H7.out.2.1.log.bel.mono HB0.out.size)
                        have hcC2 : wr.cell? ⟨gC, oC + j, none⟩ = some (.int .i64 z) := by rw [hbW.cell (p := ⟨gC, oC + j, none⟩) (block_lt_of_cell hcC)]; exact hcC
                        subst hpC
                        clear hcC hbW
                        by_cases hzk : z = (k : Int)
                        · have hw7 : p7.wr ≤ 10000 := by have := H7.out.2.2; omega
                          have HCL := hide (log_clear H7.out.2.1.log hw7)
                          subst hzk
                          clear hw7
                          go_wp2_with (first | (go_at_call 18; refine HCL.out.mono ?_; rintro e w8 ⟨rfl, p8, F8, k8, l8, -⟩; have H8 := hide (And.intro k8 l8); clear k8 l8) | (go_at_call 10; refine (num_any _ _).mono ?_; rintro e wn ⟨rfl, hwn⟩; have hwn2 := hwn.symm; subst hwn2))
                          go_roundw
                          case rel => exact ⟨none, 0, 0, 8, j + 1, rfl, rfl, by simp, by omega, p8, F8, [], [], rfl, ⟨H8.out.1, RecG.nil _ _ _, H7.out.2.1.k1, H7.out.2.1.k2, by omega, H7.out.2.1.l1, by have := H7.out.2.2; rw [H8.out.2]; omega, by simp, by simp⟩, by have := H7.out.2.2; rw [H8.out.2]; omega⟩
                          case measure => simp [intOf]; omega
                        · go_wp2_with fail
                          go_roundw
                          case rel => exact ⟨pw2, nw2, cw2, A2, j + 1, rfl, rfl, by simp, by omega, p7, F7, vals7, rr7, H7.out.1, H7.out.2.1, by have := H7.out.2.2; omega⟩
                          case measure => simp [intOf]; omega
                      · have hj2' : ¬ (j : Int) < 20 := by omega
                        go_wp2_with fail
                        go_meet
                        case rel => exact ⟨pw2, nw2, cw2, A2, rfl, rfl, p7, F7, vals7, rr7, H7.out.1, H7.out.2.1⟩
                    · have hjC' : ¬ (j : Int) < (nC : Int) := by omega
                      go_wp2_with fail
                      go_meet
                      case rel => exact ⟨pw2, nw2, cw2, A2, rfl, rfl, p7, F7, vals7, rr7, H7.out.1, H7.out.2.1⟩
              case rest =>
                obtain ⟨pw2, nw2, cw2, A2, rfl, rfl, HJ⟩ := hcut
                obtain ⟨p7, F7, vals7, rr7, h71, h72⟩ := HJ.out
                have H7 := hide h72
                have HN7 := hide h71
                have hA7 : A2 ≤ 200000 := by have := h72.a1; have := h72.k1; omega
                have hn7 : nw2 ≤ 100 := by have := h72.len; have := h72.k1; omega
                clear HJ h71 h72
                go_wp2_with (first
                  | (go_at_call 10; refine (num_any _ _).mono ?_; rintro e wn ⟨rfl, hwn⟩; have hwn2 := hwn.symm; subst hwn2)
                  | (go_at_call 19; refine (log_writes H7.out.log).mono ?_; rintro e w10 ⟨rfl, k1, k2⟩; have H8 := hide (H7.out.fr k1 k2); clear k1 k2 H7)
                  | (go_at_call 12; refine (log_open H8.out.log HT.out (by omega)).mono ?_; rintro e w11 ⟨l2, v2, rfl, k1, k2, k3, k4, k5⟩; have H9 := hide (And.intro (H8.out.fr k1 k4) (And.intro k2 (And.intro k3 k5))); obtain ⟨vals8, k8⟩ := k3; obtain ⟨p8, c8, hv8, -⟩ := k8.a; rw [← HN7.out] at hv8; subst hv8; clear k1 k2 k4 k5 k8 H8)
                  | (go_at_call 20; refine (log_sure H9.out.1.log).mono ?_; rintro e w12 ⟨rfl, k1, k2⟩; have H10 : Hid (BkSt w0 w12 d l nL (.slice pw2 nw2 cw2) A2 L' (k + 1) p7 F7 vals7 rr7 ∧ Lg w12 l2 d nmJ A2 rr7.length ∧ RecA w12 (.slice p8 nw2 c8) rr7) := ⟨H9.out.1.fr k1 k2, H9.out.2.1.fr k2 H9.out.2.2.2, (by obtain ⟨vv, hvv⟩ := H9.out.2.2.1; exact (hvv.keep (gd_fr k2)).a)⟩; clear k1 k2 H9)
                  | (go_at_call 21; refine (eqRows_same _ _ rr7 _ H10.out.2.2 H10.out.1.want.a (by have := H10.out.1.len; have := H10.out.1.k1; omega) H10.out.1.few).mono ?_; rintro e w13 ⟨rfl, N, hN⟩; have hB13 : Below w12.heap.size w12 w13 := (by rw [hN]; exact below_drewN (Below.refl _ _) N); have H11 : Hid (BkSt w0 w13 d l nL (.slice pw2 nw2 cw2) A2 L' (k + 1) p7 F7 vals7 rr7 ∧ Lg w13 l2 d nmJ A2 nw2 ∧ Lg w13 l d nmJ A2 nw2) := ⟨H10.out.1.fr (H10.out.1.log.below hB13) (Fr.of_below hB13), (by rw [HN7.out]; exact H10.out.2.1.below hB13), (by rw [HN7.out]; exact H10.out.1.log.lg.below hB13)⟩; have HS1 : Hid (Lg w13 l d nmJ A2 nw2) := H11.out.2.2; have HC1 : Hid (Lg w13 l d nmJ A2 nw2) := H11.out.2.2; have HS2 : Hid (Lg w13 l2 d nmJ A2 nw2) := H11.out.2.1; have HC2 : Hid (Lg w13 l2 d nmJ A2 nw2) := H11.out.2.1; clear hN hB13 H10)
                  | (go_at_call 13; refine (lsize_any _ HS1.out).mono ?_; rintro e wn ⟨rfl, hwn⟩; have hwn2 := hwn.symm; subst hwn2; clear HS1)
                  | (go_at_call 13; refine (lsize_any _ HS2.out).mono ?_; rintro e wn ⟨rfl, hwn⟩; have hwn2 := hwn.symm; subst hwn2; clear HS2)
                  | (go_at_call 22; refine (lcount_any _ HC1.out).mono ?_; rintro e wn ⟨rfl, hwn⟩; have hwn2 := hwn.symm; subst hwn2; clear HC1)
                  | (go_at_call 22; refine (lcount_any _ HC2.out).mono ?_; rintro e wn ⟨rfl, hwn⟩; have hwn2 := hwn.symm; subst hwn2; clear HC2)
                  | (go_at_call 19; refine (log_writes H11.out.1.log).mono ?_; rintro e w14 ⟨rfl, k1, k2⟩; have H12 := hide (H11.out.1.fr k1 k2); clear k1 k2 H11))
                go_roundw
                case rel =>
                  exact ⟨pw2, nw2, cw2, A2, L', k + 1, by simp, by simp, by simp [HL1.out], by simp, p7, F7, vals7, rr7, HN7.out, H12.out⟩
                case measure => simp [intOf]; omega
        · have hzl' : (L : Int) < (z : Int) := by omega
          have hzL : L ≤ 65536 := HS.out.l1
          clear hz1
          go_wp2_with (go_at_call 11; refine (HEND.out _ (HS.out.log.bel.trans (HBR2.out.mono HS.out.log.bel.size))).mono ?_; rintro e w9 ⟨rfl, hB9⟩; have H9 := hide hB9; clear hB9)
          go_ret
          exact ⟨rfl, H9.out⟩
      · have hk6' : ¬ (k : Int) < 60 := by omega
        go_wp2_with (go_at_call 11; refine (HEND.out _ HS.out.log.bel).mono ?_; rintro e w9 ⟨rfl, hB9⟩; have H9 := hide hB9; clear hB9)
        go_ret
        exact ⟨rfl, H9.out⟩
    · have hk' : ¬ (k : Int) < (nL : Int) := by omega
      go_wp2_with (go_at_call 11; refine (HEND.out _ HS.out.log.bel).mono ?_; rintro e w9 ⟨rfl, hB9⟩; have H9 := hide hB9; clear hB9)
      go_ret
      exact ⟨rfl, H9.out⟩

end Go.Proofs.YtpecgmcalbojcaaDoor

/- laid: a disk with a log of records, and where each begins. -/
import Derived.Test.YtpjinakhgfpafaaDoorJ4G
namespace Go.Proofs.YtpjinakhgfpafaaDoor
open Go.RowKit
set_option linter.unusedVariables false
set_option linter.unusedSimpArgs false

theorem infoInt : ∃ i, Tryd.prog.info? 3 = some i ∧ i.zero = some (.int .i64 0) ∧ i.size = 1 ∧ i.bytes = 8 := by
  obtain ⟨i, h1, h2, h3, h4⟩ := info_parts (P := Tryd.prog) (e := 3) (z := .int .i64 0) (size := 1) (bytes := 8) (by kernel_rfl)
  exact ⟨i, h1, h2, h3, h4⟩

/-- Where each record begins. -/
def pl (rr : List (List (List Nat))) (i : Nat) : Nat := 8 + (recsB (rr.take i)).length
def plV (rr : List (List (List Nat))) : List Value := (List.range (rr.length + 1)).map fun i => .int .i64 ((pl rr i : Nat) : Int)
theorem plV_more (rr : List (List (List Nat))) (rs : List (List Nat)) : plV (rr ++ [rs]) = plV rr ++ [.int .i64 ((8 + (recsB (rr ++ [rs])).length : Nat) : Int)] := by
  unfold plV
  rw [List.length_append, List.length_singleton, List.range_succ, List.map_append]
  congr 1
  · apply List.map_congr_left
    intro i hi
    have hi' : i ≤ rr.length := by have := List.mem_range.1 hi; omega
    simp only [pl]
    rw [List.take_append_of_le_length hi']
  · simp only [pl, List.map_cons, List.map_nil]
    rw [List.take_of_length_le (by simp)]

/-- A block of the law's own that is not the one of the places. -/
def GP (B : Nat) (w : World) (F : Nat → Prop) (l : Nat) (v : Value) (k : Nat) : Prop := Gd B w F l k ∧ v.ownBlock ≠ some k
theorem gp_fx {B : Nat} {w w' : World} {F F' : Nat → Prop} {l : Nat} {v : Value} (h : Fx l w F w' F') : ∀ k, GP B w F l v k → GP B w' F' l v k ∧ w'.heap[k]? = w.heap[k]? := fun k hk => ⟨⟨(gd_fx h k hk.1).1, hk.2⟩, (gd_fx h k hk.1).2⟩
theorem gp_below {B : Nat} {w w' : World} {F : Nat → Prop} {l : Nat} {v : Value} (h : Below w.heap.size w w') : ∀ k, GP B w F l v k → GP B w' F l v k ∧ w'.heap[k]? = w.heap[k]? := fun k hk => ⟨⟨(gd_below h k hk.1).1, hk.2⟩, (gd_below h k hk.1).2⟩

structure LdSt (W wr : World) (d l n : Nat) (vw vp : Value) (A L k : Nat) (p : PS) (F : Nat → Prop) (vals : List Value) (rr : List (List (List Nat))) : Prop where
  log : LogSt W wr d l p F rr A
  want : RecG (GP W.heap.size wr F l vp) W.heap.size wr vw vals rr
  plc : wr.ownsRow W.heap.size 3 1 vp (rr.length + 1) (plV rr)
  plg : ∀ k, vp.ownBlock = some k → Gd W.heap.size wr F l k
  k1 : k ≤ 30
  k2 : k ≤ n
  a1 : A ≤ 8 + 8 * k + (32768 - L)
  l1 : L ≤ 32768
  wr1 : p.wr ≤ 2 + 2 * k
  len : rr.length ≤ k
  few : ∀ r ∈ rr, r.length ≤ 1000000 ∧ ∀ x ∈ r, x.length ≤ 140737488355328

theorem ownsRow_slice {w : World} {B : Nat} {e : TypeId} {v : Value} {n : Nat} {xs : List Value} (h : w.ownsRow B e 1 v n xs) (hn : 0 < n) : ∃ p c, v = .slice p n c := by
  rcases h.2 with ⟨_, e2⟩ | ⟨g', cap, cur, e1, _⟩
  · omega
  · exact ⟨_, _, e1⟩

set_option maxRecDepth 100000 in
set_option maxHeartbeats 8000000 in
theorem laid11_any (W : World) (pL : Option Addr) (nL cL : Nat) (w : World) (hbW : Below W.heap.size W w) (hL : RowsIn W pL nL) (hnL : nL ≤ 140737488355328) (hT : TabC W) :
    Calls Tryd.prog 4 #[.slice pL nL cL] w fun e w' => ∃ (d l A L k : Nat) (pw : Option Addr) (nw cw : Nat) (pp : Option Addr) (np cp : Nat), e = .returned (.tuple #[.pointer (some ⟨d, 0, none⟩), .slice pw nw cw, .slice pp np cp]) ∧ ∃ (p : PS) (F : Nat → Prop) (vals : List Value) (rr : List (List (List Nat))), nw = rr.length ∧ np = rr.length + 1 ∧ LdSt W w' d l nL (.slice pw nw cw) (.slice pp np cp) A L k p F vals rr := by
  have HL := hide hL
  have HT := hide hT
  have HBW := hide hbW
  have HNW := hide (di_new w W.heap.size hbW.size 268435456 (by decide) (by decide))
  clear hL hT hbW
  go_enter Tryd.func4, Tryd.ntmps4
  go_upto_region 8 with (first
    | (go_at_call 7; refine (num_any _ _).mono ?_; rintro e wn ⟨rfl, hwn⟩; have hwn2 := hwn.symm; subst hwn2)
    | (go_at_call 16; refine HNW.out.mono ?_; rintro e w1 ⟨d, F1, rfl, hD1, hB1, hG1⟩; have H1 : Hid (Di W.heap.size w1 d { con := [], room := 268435456, off := false, ain := 0, keep := 0, lose := 0, wr := 0 } F1 ∧ Below W.heap.size W w1) := ⟨hD1, HBW.out.trans (hB1.mono HBW.out.size)⟩; clear hD1 hB1 hG1 HNW)
    | (go_at_call 11; refine (log_new W _ d F1 H1.out.1 H1.out.2).mono ?_; rintro e w3 ⟨l, p, F, rfl, hS, hp⟩; have HS : Hid (LogSt W w3 d l p F [] 8 ∧ p.wr = 2) := ⟨hS, hp⟩; clear hS hp H1))
  have HS0 : Hid (LdSt W (w3.alloc (.cells #[.int .i64 8] 3)) d l nL (.slice none 0 0) (.slice (some ⟨w3.heap.size, 0, none⟩) 1 1) 8 32768 0 p F [] []) := by
    have hb : Below w3.heap.size w3 (w3.alloc (.cells #[.int .i64 8] 3)) := (Below.refl _ _).alloc (Nat.le_refl _) _
    have hsz := HS.out.1.bel.size
    refine ⟨HS.out.1.below hb, RecG.nil _ _ _, ⟨rfl, .inr ⟨w3.heap.size, 1, #[.int .i64 8], rfl, hsz, heap_alloc_new w3 _, Nat.le_refl _, by unfold maxLen; omega, rfl, rfl⟩⟩, fun k hk => ?_, by omega, by omega, by omega, by omega, by rw [HS.out.2]; omega, by simp, by simp⟩
    have ek : w3.heap.size = k := by simpa [Value.ownBlock] using hk
    subst ek
    exact ⟨hsz, by simp, fun e => by have := HS.out.1.di.lt _ e; omega, fun e => by have := heap_lt HS.out.1.lg; omega⟩
  clear HS
  go_upto_block 0 with fail
  go_wp2_with fail
  generalize w3.alloc (.cells #[.int .i64 8] 3) = w4 at *
  go_loopw [10, 11, 12, 13] (fun t10 t11 t12 t13 wr => ∃ (pw : Option Addr) (nw cw : Nat) (pp : Option Addr) (np cp A L k : Nat), t10 = .slice pw nw cw ∧ t11 = .slice pp np cp ∧ t12 = .int .i64 (L : Int) ∧ t13 = .int .i64 (k : Int) ∧ Hid (∃ p F vals rr, (nw = rr.length ∧ np = rr.length + 1) ∧ LdSt W wr d l nL (.slice pw nw cw) (.slice pp np cp) A L k p F vals rr)) (fun _ _ _ t13 _ => 30 - (intOf t13).toNat)
  case atStart => exact ⟨none, 0, 0, some ⟨w3.heap.size, 0, none⟩, 1, 1, 8, 32768, 0, rfl, rfl, rfl, rfl, p, F, [], [], ⟨rfl, rfl⟩, HS0.out⟩
  case round =>
    obtain ⟨pw, nw, cw, pp, np, cp, A, L, k, rfl, rfl, rfl, rfl, hI⟩ := hrel
    clear HS0
    obtain ⟨p, F, vals, rr, hnw, hS⟩ := hI.out
    have HS := hide hS
    have HNW := hide hnw.1
    have HNP := hide hnw.2
    clear hI hS hnw
    by_cases hk : k < nL
    · have hk' : (k : Int) < (nL : Int) := by omega
      by_cases hk6 : k < 30
      · have hk6' : (k : Int) < 30 := by omega
        obtain ⟨gL, oL, pe, ne, ce, q, hpL, hcL, hne, hPq, hq⟩ := HL.out k hk
        have hcL2 : wr.cell? ⟨gL, oL + k, none⟩ = some (.slice pe ne ce) := by rw [HS.out.log.bel.cell (p := ⟨gL, oL + k, none⟩) (block_lt_of_cell hcL)]; exact hcL
        subst hpL
        obtain ⟨rs, hrs⟩ : ∃ rs, (List.range (min ne 300)).map q = rs := ⟨_, rfl⟩
        have HCP := hide (copied_any pe ne ce q wr (hPq.below HS.out.log.bel) (fun i hi => (hq i hi).1) hne)
        rw [hrs] at HCP
        have HRS : Hid (rs.length ≤ 300 ∧ ∀ r ∈ rs, r.length ≤ 140737488355328 ∧ ∀ x ∈ r, x < 256) := by
          rw [← hrs]
          refine ⟨by simp; omega, fun r hr => ?_⟩
          obtain ⟨i, hi, rfl⟩ := List.mem_map.1 hr
          exact hq i (by have := List.mem_range.1 hi; omega)
        clear hcL hPq hq hrs hne
        go_wp2_with (go_at_call 17; refine HCP.out.mono ?_; rintro e w1 ⟨v1, rfl, hR1, hB1⟩; have HR1 := hide (And.intro hR1 hB1); obtain ⟨p1, c1, hv1, -⟩ := hR1.a; obtain ⟨m, hm⟩ : ∃ m, rs.length = m := ⟨_, rfl⟩; rw [hm] at hv1; subst hv1; have HM := hide hm; clear hR1 hB1 hm HCP)
        have HP1 : Hid (PartsOf w1 p1 m (fun i => rs.getD i [])) := HR1.out.1.a.parts.2
        have hm3 : m ≤ 300 := by have := HRS.out.1; have := HM.out; omega
        have HQ : Hid (∀ i, i < m → (rs.getD i []).length ≤ 140737488355328) := fun i hi => by
          have hi' : i < rs.length := by rw [HM.out]; exact hi
          exact (HRS.out.2 (rs.getD i []) (by rw [List.getD_eq_getElem?_getD, List.getElem?_eq_getElem hi']; exact List.getElem_mem hi')).1
        refine (size_any p1 m c1 (fun i => rs.getD i []) w1 HP1.out HQ.out (by omega)).mono ?_
        rintro e w2 ⟨z, rfl, hz1, hz2, hB2⟩
        have HB2 : Hid (Below w1.heap.size w1 w2) := hB2
        have HBR2 : Hid (Below wr.heap.size wr w2) := HR1.out.2.trans (hB2.mono HR1.out.2.size)
        clear hB2
        by_cases hzl : z ≤ L
        · have hzL : L ≤ 32768 := HS.out.l1
          have HZ : Hid (z = sumL (fun i => rs.getD i []) m) := by rcases hz1 with h | h; exact h; omega
          obtain ⟨L', hL'⟩ : ∃ L' : Nat, (L : Int) - (z : Int) = (L' : Int) := ⟨L - z, by omega⟩
          have HLL : Hid (L' + z = L) := by show _ = _; omega
          have hL0 : ¬ (L : Int) < (z : Int) := by omega
          have HL1 := hide hL'
          clear hL'
          have HCP2 := hide (copied_any p1 m c1 (fun i => rs.getD i []) w2 (HP1.out.below HB2.out) HQ.out (by omega))
          rw [show (List.range (min m 300)).map (fun i => rs.getD i []) = rs from by rw [show min m 300 = rs.length from by rw [HM.out]; omega]; exact map_getD rs] at HCP2
          obtain ⟨A4, hA4⟩ : ∃ A4, A + (recB rs).length = A4 := ⟨_, rfl⟩
          have HA4 : Hid (A + 8 + (bodyB rs).length = A4) := by show _ = _; rw [← hA4, recB_len]; omega
          have HBL : Hid ((bodyB rs).length + 4 * m = z) := by
            have h1 := body_sumL (fun i => rs.getD i []) rs.length
            rw [(recP_rs rs).2, HM.out] at h1
            have := HZ.out
            show _ = _
            omega
          have HAP : Hid (∀ w3 p3 c3, RowA w3 (.slice p3 m c3) rs → Below w2.heap.size w2 w3 → Calls Tryd.prog 19 #[.pointer (some ⟨l, 0, none⟩), .slice p3 m c3] w3 fun e w' => e = .returned (.int .i64 0) ∧ ∃ p' F', (LogSt W w' d l p' F' (rr ++ [rs]) A4 ∧ p'.wr = p.wr + 2) ∧ RecG (GP W.heap.size w' F' l (.slice pp np cp)) W.heap.size w' (.slice pw nw cw) vals rr ∧ RowG (GP W.heap.size w' F' l (.slice pp np cp)) W.heap.size w' (.slice p1 m c1) rs ∧ w'.ownsRow W.heap.size 3 1 (.slice pp np cp) np (plV rr) ∧ ∀ k, (Value.slice pp np cp).ownBlock = some k → Gd W.heap.size w' F' l k) := fun w3 p3 c3 hra hb3 => by
            have hb : Below wr.heap.size wr w3 := HBR2.out.trans (hb3.mono HBR2.out.size)
            have hb1 : Below w1.heap.size w1 w3 := HB2.out.trans (hb3.mono HB2.out.size)
            have hlog := HS.out.log.below hb
            have hbl := HBL.out
            have hrl := recB_len rs
            have ha1 := HS.out.a1
            have hl1 := HS.out.l1
            have hw1 := HS.out.wr1
            have hln := HS.out.len
            refine (log_append hlog HT.out p3 m c3 rs hra (fun r hr => (HRS.out.2 r hr).2) ⟨by have := HRS.out.1; omega, by omega⟩ (by omega) (by omega) (by omega)).mono ?_
            rintro e w' ⟨rfl, p', F', k1, k2, k3⟩
            rw [hA4] at k1
            have hrow : RowG (GP W.heap.size w1 F l (.slice pp np cp)) W.heap.size w1 (.slice p1 m c1) rs := HR1.out.1.g HS.out.log.bel.size fun k h1 h2 => ⟨⟨Nat.le_trans HS.out.log.bel.size h1, h2, fun e => by have := HS.out.log.di.lt k e; omega, fun e => by have := heap_lt HS.out.log.lg; omega⟩, fun e => by have := (HS.out.plg k e).2.1; omega⟩
            have hgd : ∀ k, (Value.slice pp np cp).ownBlock = some k → Gd W.heap.size w' F' l k ∧ w'.heap[k]? = wr.heap[k]? := fun k e => by
              have a1 := gd_below hb k (HS.out.plg k e)
              have a2 := gd_fx k3 k a1.1
              exact ⟨a2.1, a2.2.trans a1.2⟩
            refine ⟨rfl, p', F', ⟨k1, k2⟩, (HS.out.want.keep (gp_below hb)).keep (gp_fx k3), (hrow.keep fun k _ _ hk _ _ => gp_below hb1 k hk).keep fun k _ _ hk _ _ => gp_fx k3 k hk, ?_, fun k e => (hgd k e).1⟩
            have := HS.out.plc
            rw [← HNP.out] at this
            exact ownsRow_keep this fun k e => (hgd k e).2
          obtain ⟨i37, hi37⟩ := info37
          have Hi := hide hi37
          have hnw6 : nw ≤ 60 := by have := HS.out.len; have := HS.out.k1; have := HNW.out; omega
          have hnp6 : np ≤ 61 := by have := HNP.out; have := HNW.out; omega
          have hA5 : A4 ≤ 200000 := by have := HA4.out; have := HBL.out; have := HS.out.a1; have := HS.out.k1; omega
          clear hi37 hz1 hA4
          go_wp2_with (first
            | (go_at_call 17; refine HCP2.out.mono ?_; rintro e w3 ⟨v3, rfl, hR3, hB3⟩; have HR3 := hide (And.intro hR3 hB3); obtain ⟨p3, c3, hv3, -⟩ := hR3.a; rw [HM.out] at hv3; subst hv3; clear hR3 hB3 HCP2)
            | (go_at_call 19; refine (HAP.out _ _ _ HR3.out.1.a HR3.out.2).mono ?_; rintro e w4 ⟨rfl, p4, F4, h4⟩; have H4 := hide h4; clear h4 HAP HR3)
            | (go_at_call 7; refine (num_any _ _).mono ?_; rintro e wn ⟨rfl, hwn⟩; have hwn2 := hwn.symm; subst hwn2)
            | (at_builtin; refine wpList_append_own_at _ rfl _ _ _ rfl W.heap.size 48 i37 (.slice none 0 0) 1 24 Tryd.underlying22 Hi.out.1 Hi.out.2.1 Hi.out.2.2.1 Hi.out.2.2.2 rfl (by decide) (.slice pw nw cw) nw vals rfl (by have := H4.out.2.1.own; rw [← HNW.out] at this; exact this.alloc _) ⟨w4.heap.size, 0, none⟩ 1 1 [.slice p1 m c1] rfl rfl (World.news_of_block (heap_alloc_new w4 _)) ?f1 ?f4 ?f5 ?f7 ?f6))
          case f1 => intro x hx; simp at hx; subst hx; rfl
          case f4 => unfold maxLen; omega
          case f5 => omega
          case f7 => have h4 := H4.out.1.1.bel.size; simp; omega
          case f6 =>
            intro v6 w5 ho5 hg5 _ hat
            have H5 : Hid (LogSt W w5 d l p4 F4 (rr ++ [rs]) A4 ∧ RecG (GP W.heap.size w5 F4 l (.slice pp np cp)) W.heap.size w5 v6 (vals ++ [.slice p1 m c1]) (rr ++ [rs]) ∧ w5.ownsRow W.heap.size 3 1 (.slice pp np cp) np (plV rr) ∧ ∀ k, (Value.slice pp np cp).ownBlock = some k → Gd W.heap.size w5 F4 l k) := by
              obtain ⟨⟨g1, g2⟩, g3, g4, g5, g6⟩ := H4.out
              rw [HNW.out] at ho5
              have hsz : w4.heap.size ≤ w5.heap.size := Nat.le_trans (by simp) hg5.size
              refine ⟨g1.grown hg5 fun k e => (g3.ob k e).1, g3.more g4 ho5 hg5 (fun k hk => hk.1.2.1) (fun k hk => ⟨⟨hk.1.1, Nat.lt_of_lt_of_le hk.1.2.1 hsz, hk.1.2.2⟩, hk.2⟩) (fun k e => ?_), ownsRow_keep g5 fun k e => ?_, fun k e => ?_⟩
              · rcases hat with h | h
                · have hk := g3.ob k (h ▸ e)
                  exact ⟨⟨hk.1.1, Nat.lt_of_lt_of_le hk.1.2.1 hsz, hk.1.2.2⟩, hk.2⟩
                · have ek : k = w4.heap.size + 1 := by rw [h] at e; simpa using e.symm
                  have hb := g1.bel.size
                  exact ⟨⟨by omega, (ho5.lt k e).2, fun e2 => by have := g1.di.lt k e2; omega, fun e2 => by have := heap_lt g1.lg; omega⟩, fun e2 => by have := (g6 k e2).2.1; omega⟩
              · have hgk := g6 k e
                exact (hg5.block k (by have := hgk.2.1; simp; omega) (fun e2 => (g3.ob k e2.symm).2 e)).trans (Below.heap_alloc _ _ _ hgk.2.1)
              · have hgk := g6 k e
                exact ⟨hgk.1, Nat.lt_of_lt_of_le hgk.2.1 hsz, hgk.2.2⟩
            have HP4 : Hid (p4.wr = p.wr + 2) := H4.out.1.2
            obtain ⟨p6, c6, hv6⟩ := ownsRow_slice ho5 (by omega)
            subst hv6
            obtain ⟨iI, hiI⟩ := infoInt
            have HiI := hide hiI
            clear ho5 hg5 hat H4 hiI
            go_wp2_with (first
              | (go_at_call 20; refine (lsize_any _ H5.out.1.lg).mono ?_; rintro e wn ⟨rfl, hwn⟩; have hwn2 := hwn.symm; subst hwn2)
              | (at_builtin; refine wpList_append_own_at _ rfl _ _ _ rfl W.heap.size 3 iI (.int .i64 0) 1 8 Tryd.underlying26 HiI.out.1 HiI.out.2.1 HiI.out.2.2.1 HiI.out.2.2.2 rfl (by decide) (.slice pp np cp) np (plV rr) rfl (H5.out.2.2.1.alloc _) ⟨w5.heap.size, 0, none⟩ 1 1 [.int .i64 (A4 : Int)] rfl rfl (World.news_of_block (heap_alloc_new w5 _)) ?g1 ?g4 ?g5 ?g7 ?g6))
            case g1 => intro x hx; simp at hx; subst hx; rfl
            case g4 => unfold maxLen; omega
            case g5 => omega
            case g7 => have h5 := H5.out.1.bel.size; simp; omega
            case g6 =>
              intro v7 w7 ho7 hg7 _ hat
              obtain ⟨p7, c7, hv7⟩ := ownsRow_slice ho7 (by omega)
              subst hv7
              have H7 : Hid (LdSt W w7 d l nL (.slice p6 (nw + 1) c6) (.slice p7 (np + 1) c7) A4 L' (k + 1) p4 F4 (vals ++ [.slice p1 m c1]) (rr ++ [rs])) := by
                obtain ⟨g1, g3, g5, g6⟩ := H5.out
                have h1 := HS.out.wr1
                have h2 := HS.out.a1
                have h3 := HLL.out
                have h5 := HBL.out
                have h6 := HA4.out
                have h7 := HP4.out
                have h8 := HS.out.len
                have h9 := HS.out.l1
                have hsz : w5.heap.size ≤ w7.heap.size := Nat.le_trans (by simp) hg7.size
                have hal := g1.alen
                refine ⟨g1.grown hg7 g6, g3.keep fun k hk => ⟨⟨⟨hk.1.1, Nat.lt_of_lt_of_le hk.1.2.1 hsz, hk.1.2.2⟩, fun e => ?_⟩, ?_⟩, ?_, fun k e => ?_, by omega, by omega, by omega, by omega, by omega, by simp; omega, fun r hr => ?_⟩
                · rcases hat with h | h
                  · exact hk.2 (h ▸ e)
                  · have ek : k = w5.heap.size + 1 := by rw [h] at e; simpa using e.symm
                    have := hk.1.2.1
                    omega
                · exact (hg7.block k (by have := hk.1.2.1; simp; omega) (fun e2 => hk.2 e2.symm)).trans (Below.heap_alloc _ _ _ hk.1.2.1)
                · have e1 : plV (rr ++ [rs]) = plV rr ++ [.int .i64 (A4 : Int)] := by
                    rw [plV_more, ← hal, List.length_append]; rfl
                  rw [e1, List.length_append, List.length_singleton, ← HNP.out]
                  exact ho7
                · rcases hat with h | h
                  · have hk := g6 k (h ▸ e)
                    exact ⟨hk.1, Nat.lt_of_lt_of_le hk.2.1 hsz, hk.2.2⟩
                  · have ek : k = w5.heap.size + 1 := by rw [h] at e; simpa using e.symm
                    have hb := g1.bel.size
                    exact ⟨by omega, (ho7.lt k e).2, fun e2 => by have := g1.di.lt k e2; omega, fun e2 => by have := heap_lt g1.lg; omega⟩
                · rcases List.mem_append.1 hr with hr | hr
                  · exact HS.out.few r hr
                  · rw [List.mem_singleton.1 hr]; exact ⟨by have := HRS.out.1; omega, fun x hx => (HRS.out.2 x hx).1⟩
              clear ho7 hg7 hat H5
              go_wp2_with fail
              go_roundw
              case rel => exact ⟨p6, nw + 1, c6, p7, np + 1, c7, A4, L', k + 1, by simp, by simp, by simp [HL1.out], by simp, p4, F4, _, _, ⟨by simp [HNW.out], by simp [HNP.out]⟩, H7.out⟩
              case measure => simp [intOf]; omega
        · have hzl' : (L : Int) < (z : Int) := by omega
          have hzL : L ≤ 32768 := HS.out.l1
          have HFI : Hid (LdSt W w2 d l nL (.slice pw nw cw) (.slice pp np cp) A L k p F vals rr) := { HS.out with log := HS.out.log.below HBR2.out, want := HS.out.want.keep (gp_below HBR2.out), plc := ownsRow_keep HS.out.plc (fun k e => (gd_below HBR2.out k (HS.out.plg k e)).2), plg := fun k e => (gd_below HBR2.out k (HS.out.plg k e)).1 }
          clear hz1
          go_wp2_with fail
          go_ret3
          exact ⟨d, l, A, L, k, pw, nw, cw, pp, np, cp, rfl, p, F, vals, rr, HNW.out, HNP.out, HFI.out⟩
      · have hk6' : ¬ (k : Int) < 30 := by omega
        go_wp2_with fail
        go_ret3
        exact ⟨d, l, A, L, k, pw, nw, cw, pp, np, cp, rfl, p, F, vals, rr, HNW.out, HNP.out, HS.out⟩
    · have hk' : ¬ (k : Int) < (nL : Int) := by omega
      go_wp2_with fail
      go_ret3
      exact ⟨d, l, A, L, k, pw, nw, cw, pp, np, cp, rfl, p, F, vals, rr, HNW.out, HNP.out, HS.out⟩

end Go.Proofs.YtpjinakhgfpafaaDoor

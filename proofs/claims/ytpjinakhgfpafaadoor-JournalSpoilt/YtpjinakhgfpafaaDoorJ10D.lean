/- JournalSpoilt: the walk. -/
import Derived.Test.YtpjinakhgfpafaaDoorJ10C
import Derived.Test.YtpjinakhgfpafaaDoorJ7C
namespace Go.Proofs.YtpjinakhgfpafaaDoor
open Go.RowKit
set_option linter.unusedVariables false
set_option linter.unusedSimpArgs false

theorem Kp.keep {W w w' : World} {F F' : Nat → Prop} {vw : Value} {ff : List (List (List Nat))} {vp : Value} {bl : List (Value × List Nat)} {gl : List (Value × List (List (List Nat)))} (h : Kp W w F vw ff vp bl gl) (hk : ∀ k, Gf W.heap.size w F k → Gf W.heap.size w' F' k ∧ w'.heap[k]? = w.heap[k]?) : Kp W w' F' vw ff vp bl gl := by
  obtain ⟨vals, h1⟩ := h.want
  exact ⟨⟨vals, h1.keep hk⟩, ownsRow_keep h.plc fun k e => (hk k (h.plg k e)).2, fun k e => (hk k (h.plg k e)).1, fun x hx => ⟨isBy_keep (h.byt x hx).1 fun k e => (hk k ((h.byt x hx).2 k e)).2, fun k e => (hk k ((h.byt x hx).2 k e)).1⟩, fun x hx => by obtain ⟨vv, hv⟩ := h.got x hx; exact ⟨vv, hv.keep hk⟩⟩

theorem di_bytes {B : Nat} {w : World} {d : Nat} {p : PS} {F : Nat → Prop} (h : Di B w d p F) {nm : ByteArray} {bs : List Nat} {su : Nat} (hc : (nm, bs, su) ∈ p.con) : ∀ n ∈ bs, n < 256 := by
  obtain ⟨S, rfl, rfl, rfl, h⟩ := h
  obtain ⟨x, hx, rfl, rfl, rfl⟩ := fi_of hc
  exact h.by_ x hx
theorem Fl.bytes {W w : World} {d : Nat} {p : PS} {F : Nat → Prop} {bs : List Nat} {V : Nat} (h : Fl W w d p F bs V) : ∀ n ∈ bs, n < 256 := by
  obtain ⟨su, hm⟩ := h.mem
  exact di_bytes h.di hm
/-- The end of bytes that are one's own. -/
theorem cy_end {w : World} {g N cc S : Nat} {bs : List Nat} (h : IsBy w (.slice (some ⟨g, 0, none⟩) N cc) bs) (hN : N = bs.length) (hc : N ≤ cc) (hS : S < N) : Cy w (some ⟨g, S, none⟩) (N - S) (cc - S) (bs.drop S) := by
  obtain ⟨p', c', e, h1⟩ := by_slice h
  simp only [Value.slice.injEq] at e
  have hl : (bs.drop S).length = N - S := by rw [List.length_drop, hN]
  refine ⟨.inl (.inr ⟨g, S, cc - S, by rw [hl], fun i hi => ?_⟩), hl.symm, by omega, fun e => by cases e⟩
  rw [hl] at hi
  obtain ⟨b, o, e1, hh⟩ := h1 (S + i) (by omega)
  have e2 := e.1.trans e1
  simp only [Option.some.injEq, Addr.mk.injEq, and_true] at e2
  obtain ⟨rfl, rfl⟩ := e2
  rw [Nat.zero_add] at hh
  rw [hh]
  congr 3
  simp only [List.getD_eq_getElem?_getD, List.getElem?_drop]

set_option maxRecDepth 100000 in
set_option maxHeartbeats 8000000 in
theorem journalSpoilt_any (pL : Option Addr) (nL cL : Nat) (zA zC : Int) (zB : Nat) (w : World) (hL : RowsIn w pL nL) (hnL : nL ≤ 140737488355328) (hz1 : -9223372036854775808 ≤ zA) (hz2 : zA ≤ 9223372036854775807) (hzB : zB < 256) (hT : TabC w) :
    Calls Tryd.prog 3 #[.agg #[.slice pL nL cL, .int .i64 zA, .int .i64 zC, .int .u8 (zB : Int)]] w fun e w' => e = .returned (.bool true) ∧ Below w.heap.size w w' := by
  have HX : Hid ((w.alloc (.cells #[.slice pL nL cL, .int .i64 zA, .int .i64 zC, .int .u8 (zB : Int)] 24)).heap[w.heap.size]? = some (.cells #[.slice pL nL cL, .int .i64 zA, .int .i64 zC, .int .u8 (zB : Int)] 24 (0, 0))) := heap_alloc_new _ _
  have HB0 : Hid (Below w.heap.size w (w.alloc (.cells #[.slice pL nL cL, .int .i64 zA, .int .i64 zC, .int .u8 (zB : Int)] 24))) := (Below.refl _ _).alloc (Nat.le_refl _) _
  have HL : Hid (RowsIn (w.alloc (.cells #[.slice pL nL cL, .int .i64 zA, .int .i64 zC, .int .u8 (zB : Int)] 24)) pL nL) := fun i hi => by
    obtain ⟨b, o, pe, ne, ce, q, h1, h2, h3, h4, h5⟩ := hL i hi
    exact ⟨b, o, pe, ne, ce, q, h1, by rw [HB0.out.cell (p := ⟨b, o + i, none⟩) (World.block_lt_of_cell? _ _ h2)]; exact h2, h3, h4.below HB0.out, h5⟩
  have HT : Hid (TabC (w.alloc (.cells #[.slice pL nL cL, .int .i64 zA, .int .i64 zC, .int .u8 (zB : Int)] 24))) := hT.below HB0.out
  clear hL hT
  go_enter Tryd.func3, Tryd.ntmps3
  go_upto_region 1 with fail
  generalize w.alloc (.cells #[.slice pL nL cL, .int .i64 zA, .int .i64 zC, .int .u8 (zB : Int)] 24) = w0 at *
  have b0 : w0.cell? ⟨w.heap.size, 0, none⟩ = some (.slice pL nL cL) := by rw [cell_of_row _ _ _ _ _ _ HX.out]; rfl
  have HEND : Hid (∀ wx, Below w0.heap.size w0 wx → Calls Tryd.prog 5 #[] wx fun e w' => e = .returned (.bool true) ∧ Below w.heap.size w w') := fun wx hB => by
    refine (works_any wx (HT.out.below hB)).mono ?_
    rintro e w' ⟨rfl, hB2⟩
    have h3 : Below w0.heap.size w0 w' := hB.trans (hB2.mono hB.size)
    exact ⟨rfl, HB0.out.trans (h3.mono HB0.out.size)⟩
  go_upto_region 5 with (first
    | (go_at_call 7; refine (num_any _ _).mono ?_; rintro e wn ⟨rfl, hwn⟩; have hwn2 := hwn.symm; subst hwn2)
    | (go_at_call 4; refine (laid11_any w0 pL nL cL w0 (Below.refl _ _) HL.out hnL HT.out).mono ?_; rintro e w1 ⟨d, l, A, L, kk, pw, nw, cw, pp, np, cp, rfl, p1, F1, vals, rr, hnw, hnp, hS⟩; have H1 := hide hS.fl; have HOK : Hid ((∀ r ∈ rr, Okr r) ∧ rr.length ≤ 30 ∧ (∀ r ∈ rr, r.length ≤ 1000000 ∧ ∀ x ∈ r, x.length ≤ 140737488355328) ∧ (headB ++ recsB rr).length ≤ 100000) := ⟨hS.log.okr, by have := hS.len; have := hS.k1; omega, hS.few, by have := hS.log.alen; have := hS.a1; have := hS.k1; have := hS.l1; omega⟩; have HNW := hide hnw; have HNP := hide hnp; clear hnw hnp hS b0)
    | (go_at_call 5; refine (works_any _ (HT.out.below H1.out.1.bel)).mono ?_; rintro e w2 ⟨rfl, hB2⟩; have H2 : Hid (Fl w0 w2 d p1 F1 (headB ++ recsB rr) 100 ∧ Kp w0 w2 F1 (.slice pw nw cw) rr (.slice pp np cp) [] []) := ⟨H1.out.1.below hB2, H1.out.2.fr (Fr.of_below hB2)⟩; clear hB2 H1)
    | (go_at_call 6; refine (fl_read H2.out.1).mono ?_; rintro e w3 ⟨pv, cv, N, rfl, hN, k1, k2, k3, k4⟩; have HN : Hid ((headB ++ recsB rr).length = N) := hN.symm; have hN6 : N ≤ 100000 := (by rw [hN]; exact HOK.out.2.2.2); have hN8 : 8 ≤ N := (by rw [hN, List.length_append]; show 8 ≤ 8 + _; omega); clear hN; have H3 : Hid (Fl w0 w3 d p1 F1 (headB ++ recsB rr) 100 ∧ Kp w0 w3 F1 (.slice pw nw cw) rr (.slice pp np cp) [] [] ∧ IsBy w3 (.slice pv N cv) (headB ++ recsB rr)) := ⟨k1, H2.out.2.fr k2, k3.1⟩; clear k1 k2 k3 k4 H2))
  have b1 : w3.cell? ⟨w.heap.size, 1, none⟩ = some (.int .i64 zA) := by
    rw [H3.out.1.bel.cell (p := ⟨w.heap.size, 1, none⟩) (heap_lt HX.out), cell_of_row _ _ _ _ _ _ HX.out]; rfl
  have b3 : w3.cell? ⟨w.heap.size, 3, none⟩ = some (.int .u8 (zB : Int)) := by
    rw [H3.out.1.bel.cell (p := ⟨w.heap.size, 3, none⟩) (heap_lt HX.out), cell_of_row _ _ _ _ _ _ HX.out]; rfl
  by_cases hB0 : zB = 0
  · subst hB0
    have HF := hide (HB0.out.trans (H3.out.1.bel.mono HB0.out.size))
    go_wp2_with (go_at_call 7; refine (num_any _ _).mono ?_; rintro e wn ⟨rfl, hwn⟩; have hwn2 := hwn.symm; subst hwn2)
    go_ret
    exact ⟨rfl, HF.out⟩
  · have hB0' : ¬ (zB : Int) = 0 := by omega
    go_upto_region 9 with (first
      | (go_at_call 7; refine (num_any _ _).mono ?_; rintro e wn ⟨rfl, hwn⟩; have hwn2 := hwn.symm; subst hwn2)
      | (go_at_call 8; refine (within11_any zA N _ hz1 hz2 (by omega) (by omega)).mono ?_; rintro e wn ⟨at_, rfl, hatN, hwn⟩; have hwn2 := hwn.symm; subst hwn2)
      | (go_at_call 9; refine (copy_any _ (headB ++ recsB rr) _ H3.out.2.2 (by rw [HN.out]; omega)).mono ?_; rintro e w4 ⟨v4, rfl, ho4⟩; obtain ⟨gc, cc, hv4, hgc, k4, f4⟩ := ob_at ho4 (by rw [HN.out]; omega); rw [HN.out] at hv4; subst hv4; have H4 := hide (And.intro ho4 (And.intro hgc (And.intro k4 f4))); clear ho4 hgc k4 f4))
    have hx9 := H4.out.2.2.1 at_ (by rw [HN.out]; exact hatN)
    obtain ⟨x, hx⟩ : ∃ x, (headB ++ recsB rr).getD at_ 0 = x := ⟨_, rfl⟩
    rw [hx] at hx9
    have HX0 := hide hx
    have hx2 : x < 256 := by rw [← hx]; exact getD_lt H3.out.1.bytes at_ (by rw [HN.out]; exact hatN)
    have fz9 : w4.drew.frozen? ⟨gc, at_, none⟩ = false := H4.out.2.2.2 at_
    obtain ⟨z, hz⟩ : ∃ z, x ^^^ zB = z := ⟨_, rfl⟩
    have q1 : bits BinOp.xor IntKind.u8 (x : Int) (zB : Int) = (z : Int) := by rw [← hz]; exact u8_xor_nat x zB hx2 hzB
    have HZ : Hid (z < 256 ∧ z ≠ x) := ⟨by rw [← hz]; exact Nat.xor_lt_two_pow (n := 8) hx2 hzB, fun e => hB0 (by
      have h1 : x ^^^ (x ^^^ zB) = x ^^^ x := by rw [hz, e]
      rwa [← Nat.xor_assoc, Nat.xor_self, Nat.zero_xor] at h1)⟩
    have hat' : (at_ : Int) < (N : Int) := by omega
    have g1 : w4.drew.cell? ⟨gc, at_, none⟩ = some (.int .u8 (x : Int)) := hx9
    have g2 : w4.drew.cell? ⟨w.heap.size, 3, none⟩ = some (.int .u8 (zB : Int)) := by
      have hb : Below w3.heap.size w3 w4 := H4.out.1.bel
      show w4.cell? ⟨w.heap.size, 3, none⟩ = _
      rw [hb.cell (p := ⟨w.heap.size, 3, none⟩) (block_lt_of_cell b3)]; exact b3
    clear hx hz
    have g1b : w4.cell? ⟨gc, at_, none⟩ = some (.int .u8 (x : Int)) := g1
    have g2b : w4.cell? ⟨w.heap.size, 3, none⟩ = some (.int .u8 (zB : Int)) := g2
    have fzb : w4.frozen? ⟨gc, at_, none⟩ = false := fz9
    go_region
    obtain ⟨w5, hw5⟩ : ∃ w5, (w4.setCell ⟨gc, at_, none⟩ (.int .u8 (z : Int))).drew = w5 := ⟨_, rfl⟩
    rw [hw5]
    clear g1 g2 g1b g2b fz9 fzb q1
    have H5 : Hid (Fl w0 w5 d p1 F1 (headB ++ recsB rr) 100 ∧ Kp w0 w5 F1 (.slice pw nw cw) rr (.slice pp np cp) [] [] ∧ Hb w0.heap.size w5 F1 (.slice (some ⟨gc, 0, none⟩) N cc) ((headB ++ recsB rr).set at_ z) ∧ N ≤ cc) := by
      obtain ⟨ho4, hgc, k4, f4⟩ := H4.out
      have hb34 : Below w3.heap.size w3 w4 := ho4.bel
      have hB := H3.out.1.bel.size
      have hnF : ¬ F1 gc := fun e => by have := H3.out.1.di.lt gc e; omega
      have hgl : gc < w4.heap.size := World.block_lt_of_cell? _ _ (k4 at_ (by rw [HN.out]; exact hatN))
      have hsz : w5.heap.size = w4.heap.size := by rw [← hw5]; simp [World.setCell]
      have hk : ∀ k, k < w3.heap.size → w5.heap[k]? = w3.heap[k]? := fun k hk => by
        rw [← hw5]
        exact (Below.heap_setCell w4 ⟨gc, at_, none⟩ _ _ (fun e => by have e' : k = gc := e; omega)).trans (hb34.block k hk)
      have hfl := H3.out.1.below hb34
      refine ⟨⟨by rw [← hw5]; exact (hfl.di.setCell (a := ⟨gc, at_, none⟩) hnF _).drew, hfl.con, hfl.room, hfl.off, hfl.ain, hfl.wr, by rw [← hw5]; have hbs := below_set (i := at_) (v := .int .u8 (z : Int)) hfl.bel (show w0.heap.size ≤ gc by omega); exact hbs.trans ((below_drewN (Below.refl _ _) 1).mono hbs.size), hfl.len⟩, H3.out.2.1.keep fun k hk2 => ⟨⟨hk2.1, by rw [hsz]; exact Nat.lt_of_lt_of_le hk2.2.1 hb34.size, hk2.2.2⟩, hk k hk2.2.1⟩, ⟨?_, fun k e => ?_⟩, ?_⟩
      · rw [← hw5]
        have := isBy_set (w := w4) (c := cc) (z := z) (i := at_) (fun i hi => k4 i hi) (by rw [HN.out]; exact hatN)
        rw [HN.out] at this
        exact isBy_heap this rfl
      · have ek : gc = k := by simpa [Value.ownBlock] using e
        subst ek
        exact ⟨by omega, by rw [hsz]; exact hgl, hnF⟩
      · have := own_cap ho4.own
        rw [HN.out] at this
        exact this.1
    have HCL : Hid (((headB ++ recsB rr).set at_ z).length = N) := by show _ = _; rw [List.length_set]; exact HN.out
    have HCB : Hid (∀ y ∈ (headB ++ recsB rr).set at_ z, y < 256) := fun y hy => by
      rcases List.mem_or_eq_of_mem_set hy with h | h
      · exact H3.out.1.bytes y h
      · rw [h]; exact HZ.out.1
    have HR256 : Hid (∀ y ∈ recsB rr, y < 256) := fun y hy => H3.out.1.bytes y (by simp [hy])
    clear hw5 H3 H4 b1 b3
    go_upto_region 12 with (go_at_call 10; refine (rewritten_any H5.out.1 (by omega) (some ⟨gc, 0, none⟩) N cc H5.out.2.2.1 HCL.out.symm HCB.out (by rw [HCL.out]; omega)).mono ?_; rintro e w6 ⟨rfl, p6, F6, k1, k2⟩; have H6 : Hid (Fl w0 w6 d p6 F6 ((headB ++ recsB rr).set at_ z) 102 ∧ Kp w0 w6 F6 (.slice pw nw cw) rr (.slice pp np cp) [((.slice (some ⟨gc, 0, none⟩) N cc), (headB ++ recsB rr).set at_ z)] [] ∧ N ≤ cc) := ⟨k1, { H5.out.2.1.fr k2 with byt := fun y hy => by rw [List.mem_singleton.1 hy]; exact H5.out.2.2.1.fr k2 }, H5.out.2.2.2⟩; clear k1 k2 H5)
    by_cases hbad : Bad ((headB ++ recsB rr).set at_ z)
    · go_wp2_with (first
        | (go_at_call 7; refine (num_any _ _).mono ?_; rintro e wn ⟨rfl, hwn⟩; have hwn2 := hwn.symm; subst hwn2)
        | (go_at_call 11; refine (raw_bad H6.out.1 HT.out HCB.out hbad).mono ?_; rintro e w7 ⟨rfl, k1, k2⟩; have H7 : Hid (Fl w0 w7 d p6 F6 ((headB ++ recsB rr).set at_ z) 102 ∧ IsBy w7 (.slice (some ⟨gc, 0, none⟩) N cc) ((headB ++ recsB rr).set at_ z) ∧ Kp w0 w7 F6 (.slice pw nw cw) rr (.slice pp np cp) [((.slice (some ⟨gc, 0, none⟩) N cc), (headB ++ recsB rr).set at_ z)] []) := ⟨k1, ((H6.out.2.1.fr k2).byt _ (List.mem_singleton.2 rfl)).1, H6.out.2.1.fr k2⟩; clear k1 k2 H6)
        | (go_at_call 6; refine (fl_read H7.out.1).mono ?_; rintro e w8 ⟨pn, cn, M, rfl, hM, k1, k2, k3, k4⟩; have H8 : Hid (Below w0.heap.size w0 w8 ∧ IsBy w8 (.slice pn M cn) ((headB ++ recsB rr).set at_ z) ∧ IsBy w8 (.slice (some ⟨gc, 0, none⟩) N cc) ((headB ++ recsB rr).set at_ z)) := ⟨k1.bel, k3.1, ((H7.out.2.2.fr k2).byt _ (List.mem_singleton.2 rfl)).1⟩; clear hM k1 k2 k3 k4 H7)
        | (go_at_call 12; refine (eq_same _ _ ((headB ++ recsB rr).set at_ z) _ H8.out.2.1 H8.out.2.2 (by rw [HCL.out]; omega)).mono ?_; rintro e w9 ⟨rfl, N1, hN1⟩; have H9 : Hid (Below w0.heap.size w0 w9) := (by rw [hN1]; exact H8.out.1.trans (below_drewN ((Below.refl _ _).mono H8.out.1.size) N1)); clear hN1)
        | (go_at_call 5; refine (HEND.out _ H9.out).mono ?_; rintro e w10 ⟨rfl, hB10⟩; have H10 := hide hB10; clear hB10))
      go_ret
      exact ⟨rfl, H10.out⟩
    · obtain ⟨h8, k0, hk0, ha1, ha2, hsp⟩ := spoilt rr HOK.out.1 HR256.out at_ z (by rw [HN.out]; exact hatN) HZ.out.1 (by rw [HX0.out]; exact HZ.out.2) hbad
      have HSP := hide (And.intro ha1 (And.intro ha2 hsp))
      have H88 := hide h8
      clear ha1 ha2 hsp h8
      have hkR : k0 < rr.length := hk0
      go_upto_region 16 with (first
        | (go_at_call 7; refine (num_any _ _).mono ?_; rintro e wn ⟨rfl, hwn⟩; have hwn2 := hwn.symm; subst hwn2)
        | (go_at_call 11; refine (raw_tk H6.out.1 (by omega) HT.out HCB.out H88.out hbad).mono ?_; rintro e w7 ⟨l2, v, rfl, p7, F7, tt, m, htk, k1, k2, k3⟩; have HTK := hide (HSP.out.2.2 tt m htk); obtain ⟨vv, k3'⟩ := k3; obtain ⟨pg, cg, hv, -⟩ := k3'.a; obtain ⟨R, hR⟩ : ∃ R, tt.length = R := ⟨_, rfl⟩; rw [hR] at hv; have HRR := hide hR; subst hv; have H7 : Hid (Fl w0 w7 d p7 F7 (headB ++ recsB tt) 105 ∧ Kp w0 w7 F7 (.slice pw nw cw) rr (.slice pp np cp) [((.slice (some ⟨gc, 0, none⟩) N cc), (headB ++ recsB rr).set at_ z)] [(.slice pg R cg, tt)] ∧ N ≤ cc) := ⟨k1, { H6.out.2.1.fr k2 with got := fun y hy => by rw [List.mem_singleton.1 hy]; exact ⟨vv, k3'⟩ }, H6.out.2.2⟩; have HTB : Hid (R ≤ 34000000) := (by show _ ≤ _; have h1 := recs_many tt; have h2 := k1.len; rw [List.length_append, show headB.length = 8 from rfl] at h2; omega); clear k1 k2 k3' htk hR H6)
        | (go_at_call 6; refine (fl_read H7.out.1).mono ?_; rintro e w8 ⟨pn, cn, M, rfl, hM, k1, k2, k3, k4⟩; have H8 : Hid (Below w0.heap.size w0 w8 ∧ Kp w0 w8 F7 (.slice pw nw cw) rr (.slice pp np cp) [((.slice (some ⟨gc, 0, none⟩) N cc), (headB ++ recsB rr).set at_ z)] [(.slice pg R cg, tt)] ∧ N ≤ cc) := ⟨k1.bel, H7.out.2.1.fr k2, H7.out.2.2⟩; clear hM k1 k2 k3 k4 H7))
      obtain ⟨gp, hcp, epp, HPL⟩ : ∃ g c, Value.slice pp np cp = .slice (some ⟨g, 0, none⟩) np c ∧ ∀ i, i ≤ rr.length → w8.cell? ⟨g, i, none⟩ = some (.int .i64 ((pl rr i : Nat) : Int)) := by
        obtain ⟨g, c, e, h⟩ := plc_at H8.out.2.1.plc
        exact ⟨g, c, by rw [HNP.out]; rw [HNP.out] at e; exact e, h⟩
      simp only [Value.slice.injEq, true_and] at epp
      obtain ⟨rfl, rfl⟩ := epp
      have HPB : Hid (∀ i, i ≤ rr.length → pl rr i ≤ N) := fun i hi => by
        have h1 := pl_mono rr rr.length i hi (Nat.le_refl _)
        have h2 : pl rr rr.length = (headB ++ recsB rr).length := by unfold pl; rw [List.take_length, List.length_append]; rfl
        rw [h2, HN.out] at h1
        exact h1
      have HLA := hide (length_any w8 rr gp np cp at_ k0 HNP.out HPL (fun i hi => by have := HPB.out i hi; omega) (by have := HOK.out.2.1; omega) hkR (by omega) HSP.out.1 HSP.out.2.1)
      have HPL := hide HPL
      have hr30 : rr.length ≤ 30 := HOK.out.2.1
      obtain ⟨Q, hQ⟩ : ∃ Q, rr.length = Q := ⟨_, rfl⟩
      rw [hQ] at hr30 hkR HNP HNW
      have HQQ := hide hQ
      clear hQ hk0
      have hnp : np = Q + 1 := HNP.out
      have hnw : nw = Q := HNW.out
      subst hnp
      subst hnw
      go_upto_block 0 with (first | (go_at_call 7; refine (num_any _ _).mono ?_; rintro e wn ⟨rfl, hwn⟩; have hwn2 := hwn.symm; subst hwn2) | (go_at_call 13; refine HLA.out.mono ?_; rintro e wn ⟨rfl, hwn⟩; have hwn2 := hwn.symm; subst hwn2))
      clear HLA
      go_cut [15] from 15 (fun t15 wc => t15 = .int .i64 (k0 : Int) ∧ w8 = wc)
      case first =>
        as_aux_lemma =>
          go_wp2_with fail
          go_loopw [15] (fun t15 wr => ∃ k : Nat, t15 = .int .i64 (k : Int) ∧ wr = w8 ∧ k ≤ k0) (fun t15 _ => 40 - (intOf t15).toNat)
          case atStart => exact ⟨0, rfl, rfl, by omega⟩
          case round =>
            obtain ⟨k, rfl, rfl, hkk⟩ := hrel
            by_cases hk1 : k + 2 < nw + 1
            · have hk1' : (k : Int) + 2 < (nw : Int) + 1 := by omega
              have hcp2 := HPL.out (k + 1) (by rw [HQQ.out]; omega)
              obtain ⟨q, hq⟩ : ∃ q, pl rr (k + 1) = q := ⟨_, rfl⟩
              rw [hq] at hcp2
              have HQ1 := hide hq
              have hq6 : q ≤ 100000 := by have := HPB.out (k + 1) (by rw [HQQ.out]; omega); omega
              clear hq
              by_cases hqn : q ≤ at_
              · have hqn' : (q : Int) ≤ (at_ : Int) := by omega
                have HKK : Hid (k + 1 ≤ k0) := by
                  show _ ≤ _
                  rcases Nat.lt_or_ge k k0 with h | h
                  · exact h
                  · exfalso
                    have e : k = k0 := by omega
                    have h1 := HQ1.out
                    rw [e] at h1
                    have h2 := recs_take_len rr k0 (by rw [HQQ.out]; omega)
                    have h3 := HSP.out.2.1
                    unfold pl at h1 h3
                    omega
                go_wp2_with fail
                go_roundw
                case rel => exact ⟨k + 1, by simp, by first | rfl | trivial, HKK.out⟩
                case measure => simp [intOf]; omega
              · have hqn' : ¬ (q : Int) ≤ (at_ : Int) := by omega
                have HKK : Hid (k = k0) := by
                  show _ = _
                  rcases Nat.lt_or_ge k k0 with h | h
                  · exfalso
                    have h1 := HQ1.out
                    have h3 := pl_mono rr k0 (k + 1) (by omega) (by rw [HQQ.out]; omega)
                    have h4 := HSP.out.1
                    omega
                  · omega
                go_wp2_with fail
                go_meet
                case rel => exact ⟨by rw [HKK.out], by first | rfl | trivial⟩
            · have hk1' : ¬ (k : Int) + 2 < (nw : Int) + 1 := by omega
              have HKK : Hid (k = k0) := by show _ = _; omega
              go_wp2_with fail
              go_meet
              case rel => exact ⟨by rw [HKK.out], by first | rfl | trivial⟩
      case rest =>
        obtain ⟨rfl, hwc⟩ := hcut
        subst hwc
        rcases HTK.out with ht | ⟨ht, hso⟩
        · have hRk : R = k0 := by rw [← HRR.out, ht, List.length_take, HQQ.out]; omega
          have hgt : ¬ (k0 : Int) < (R : Int) := by omega
          have HW : Hid (nw ≤ cw ∧ (pw = none → cw = 0)) := by
            obtain ⟨vv, hv⟩ := H8.out.2.1.want
            have := own_cap hv.own
            rw [HQQ.out] at this
            exact this
          have hwc1 : nw ≤ cw := HW.out.1
          have HEQ1 : Hid (RecA w8 (.slice pg k0 cg) (rr.take k0) ∧ RecA w8 (.slice pw k0 cw) (rr.take k0)) := by
            obtain ⟨vv, hv⟩ := H8.out.2.1.got (.slice pg R cg, tt) (by simp)
            obtain ⟨vv2, hv2⟩ := H8.out.2.1.want
            obtain ⟨p', c', e, h⟩ := hv2.a.take k0 (by rw [HQQ.out]; omega)
            simp only [Value.slice.injEq] at e
            obtain ⟨rfl, _, rfl⟩ := e
            have h1 := hv.a
            dsimp only at h1
            rw [hRk, ht] at h1
            exact ⟨h1, h⟩
          subst hRk
          go_wp2_with (first
            | (go_at_call 15; refine (eqRows_same _ _ (rr.take R) _ HEQ1.out.1 HEQ1.out.2 (by rw [List.length_take]; omega) (fun r hr => HOK.out.2.2.1 r (List.mem_of_mem_take hr))).mono ?_; rintro e w9 ⟨rfl, N1, hN1⟩; have H9 : Hid (Below w0.heap.size w0 w9) := (by rw [hN1]; exact H8.out.1.trans (below_drewN ((Below.refl _ _).mono H8.out.1.size) N1)); clear hN1)
            | (go_at_call 5; refine (HEND.out _ H9.out).mono ?_; rintro e w10 ⟨rfl, hB10⟩; have H10 := hide hB10; clear hB10))
          go_ret
          exact ⟨rfl, H10.out⟩
        · have hgt : (k0 : Int) < (R : Int) := by have := HRR.out; omega
          obtain ⟨S, hS⟩ : ∃ S, pl rr k0 = S := ⟨_, rfl⟩
          have hcS := HPL.out k0 (by rw [HQQ.out]; omega)
          rw [hS] at hcS hso
          have hSa : S ≤ at_ := by rw [← hS]; exact HSP.out.1
          have hNc : N ≤ cc := H8.out.2.2
          have hcc : ¬ cc = S := by omega
          have HSU := hide (sums_true w8 gc S (N - S) (cc - S) _ (cy_end (H8.out.2.1.byt _ (List.mem_singleton.2 rfl)).1 HCL.out.symm hNc (show S < N by omega)) (fun y hy => HCB.out y (List.mem_of_mem_drop hy)) hso (by omega) (HT.out.below H8.out.1))
          clear hS hso ht
          go_wp2_with (first
            | (go_at_call 14; refine HSU.out.mono ?_; rintro e w9 ⟨rfl, hB9⟩; have H9 : Hid (Below w0.heap.size w0 w9) := H8.out.1.trans (hB9.mono H8.out.1.size); clear hB9)
            | (go_at_call 5; refine (HEND.out _ H9.out).mono ?_; rintro e w10 ⟨rfl, hB10⟩; have H10 := hide hB10; clear hB10))
          go_ret
          exact ⟨rfl, H10.out⟩

end Go.Proofs.YtpjinakhgfpafaaDoor

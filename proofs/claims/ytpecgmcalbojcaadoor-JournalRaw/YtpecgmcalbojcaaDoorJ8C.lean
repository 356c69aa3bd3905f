/- JournalRaw: the walk. -/
import Derived.Test.YtpecgmcalbojcaaDoorJ8B
import Derived.Test.YtpecgmcalbojcaaDoorJ3A
namespace Go.Proofs.YtpecgmcalbojcaaDoor
open Go.RowKit
set_option linter.unusedVariables false
set_option linter.unusedSimpArgs false

theorem fl_first {W w : World} {d : Nat} {F : Nat → Prop} (h : Di W.heap.size w d { con := [], room := 268435456, off := false, ain := 0, keep := 0, lose := 0, wr := 0 } F) (hbel : Below W.heap.size W w) (v : Value) (bs : List Nat) (w2 : World) (ho : OB w.heap.size w bs v w2) (hb : ∀ x ∈ bs, x < 256) (hl : bs.length ≤ 262144) :
    ∃ q c, v = .slice q bs.length c ∧ Calls Tryd.prog 28 #[.pointer (some ⟨d, 0, none⟩), .string { data := #[106] }, .slice q bs.length c] w2 fun e w' => e = .returned (.int .i64 0) ∧ ∃ p' F', Fl W w' d p' F' bs 1 := by
  obtain ⟨q, c, rfl, hcy⟩ := ho.cy
  have hB : Below w.heap.size w w2 := ho.bel
  have h2 := h.below hB
  refine ⟨q, c, rfl, (di_append w2 h2 rfl rfl (by decide) nmJ okJ (.inr ⟨by simp, by decide⟩) q bs.length c bs rfl hcy.2.2.1 hcy.2.2.2 hcy.1 (fun k hk e => ?_) hb (by simp only [Con.tot]; omega)).mono ?_⟩
  · have h1 := (ho.own.lt k hk).1
    have h3 := h.lt k e
    omega
  · rintro e w' ⟨rfl, F', k1, k2⟩
    have hb2 : Below W.heap.size W w2 := hbel.trans (hB.mono hbel.size)
    exact ⟨rfl, _, F', ⟨k1, ⟨0, rfl⟩, rfl, rfl, rfl, Nat.le_refl _, bel_fr hb2 (Nat.le_refl _) k2 h2.ge, by omega⟩⟩

theorem map_getD_take (r : List (List Nat)) : (List.range (min r.length 300)).map (fun i => r.getD i []) = r.take 300 := by
  apply List.ext_getElem
  · simp [Nat.min_comm]
  · intro i h1 h2
    simp at h1 h2
    simp [List.getD, show i < r.length from by omega]
theorem body_take : ∀ (r : List (List Nat)) (k : Nat), (bodyB (r.take k)).length ≤ (bodyB r).length
  | [], k => by simp [bodyB]
  | a :: t, 0 => by simp [bodyB]
  | a :: t, k + 1 => by
    have h1 := row_len a (t.take k)
    have h2 := row_len a t
    have := body_take t k
    rw [List.take_succ_cons]; omega

/-- While the records are laid again. -/
structure RwSt (W w : World) (d lk l2 : Nat) (p : PS) (F : Nat → Prop) (rr : List (List (List Nat))) (v : Value) (vals : List Value) (vn : Value) (i : Nat) : Prop where
  one : One W w d lk p F nmK (headB ++ recsB (rr.take i)) i
  recs : RecG (Gd W.heap.size w F lk) W.heap.size w v vals rr
  now : IsBy w vn (headB ++ recsB rr) ∧ ∀ k, vn.ownBlock = some k → Gd W.heap.size w F lk k
  lg2 : Lg w l2 d nmJ (headB ++ recsB rr).length rr.length ∧ ¬ F l2 ∧ l2 ≠ lk
  tot : Con.tot p.con ≤ 262160 + (recsB (rr.take i)).length
  wr : p.wr ≤ 110 + 2 * i
  len : (headB ++ recsB rr).length ≤ 262152
  okr : (∀ r ∈ rr, Okr r) ∧ ∀ x ∈ recsB rr, x < 256

theorem RwSt.fx {W w w' : World} {d lk l2 : Nat} {p p' : PS} {F F' : Nat → Prop} {rr : List (List (List Nat))} {v : Value} {vals : List Value} {vn : Value} {i j : Nat} (h : RwSt W w d lk l2 p F rr v vals vn i) (hf : Fx lk w F w' F') (ho : One W w' d lk p' F' nmK (headB ++ recsB (rr.take j)) j) (ht : Con.tot p'.con ≤ 262160 + (recsB (rr.take j)).length) (hw : p'.wr ≤ 110 + 2 * j) : RwSt W w' d lk l2 p' F' rr v vals vn j := by
  have hb := hf.block l2 (heap_lt h.lg2.1) h.lg2.2.1
  exact ⟨ho, h.recs.keep (gd_fx hf), ⟨isBy_keep h.now.1 fun k e => (gd_fx hf k (h.now.2 k e)).2, fun k e => (gd_fx hf k (h.now.2 k e)).1⟩, ⟨(hb.2 h.lg2.2.2).trans h.lg2.1, hb.1, h.lg2.2.2⟩, ht, hw, h.len, h.okr⟩
theorem RwSt.below {W w w' : World} {d lk l2 : Nat} {p : PS} {F : Nat → Prop} {rr : List (List (List Nat))} {v : Value} {vals : List Value} {vn : Value} {i : Nat} (h : RwSt W w d lk l2 p F rr v vals vn i) (hb : Below w.heap.size w w') : RwSt W w' d lk l2 p F rr v vals vn i := h.fx (Fr.of_below hb).fx (h.one.below hb) h.tot h.wr

theorem take_more (rr : List (List (List Nat))) (i : Nat) (hi : i < rr.length) : rr.take (i + 1) = rr.take i ++ [rr.getD i []] := by
  rw [List.take_succ_eq_append_getElem hi]
  simp [List.getD, hi]

/-- One record is laid again, as far as it is copied. -/
theorem rw_app {W w w3 : World} {d lk l2 : Nat} {p : PS} {F : Nat → Prop} {rr : List (List (List Nat))} {v : Value} {vals : List Value} {vn : Value} {i : Nat} (h : RwSt W w d lk l2 p F rr v vals vn i) (hi : i < rr.length) (hT : TabC W) (hb3 : Below w.heap.size w w3) (p3 : Option Addr) (m c3 : Nat) (hra : RowA w3 (.slice p3 m c3) ((rr.getD i []).take 300)) :
    Calls Tryd.prog 17 #[.pointer (some ⟨lk, 0, none⟩), .slice p3 m c3] w3 fun e w' => e = .returned (.int .i64 0) ∧ ∃ p' F', RecG (Gd W.heap.size w' F' lk) W.heap.size w' v vals rr ∧ Below W.heap.size W w' ∧ ((rr.getD i []).length ≤ 300 → RwSt W w' d lk l2 p' F' rr v vals vn (i + 1)) := by
  have h3 := h.below hb3
  have hmem : rr.getD i [] ∈ rr := by rw [List.getD_eq_getElem?_getD, List.getElem?_eq_getElem hi]; exact List.getElem_mem hi
  have hok := h.okr.1 _ hmem
  have hbt := body_take (rr.getD i []) 300
  have hrl := recB_len ((rr.getD i []).take 300)
  have hin := recs_mem hmem
  have hlen := h.len
  have hll : (headB ++ recsB rr).length = 8 + (recsB rr).length := by rw [List.length_append]; rfl
  have hpre : (recsB (rr.take i)).length ≤ (recsB rr).length := by
    have e : recsB rr = recsB (rr.take i) ++ recsB (rr.drop i) := by rw [← recsB_app, List.take_append_drop]
    rw [e, List.length_append]; omega
  have hmany := recs_many rr
  have htt := h.tot
  have hww := h.wr
  refine (one_append h3.one okK hT p3 m c3 _ hra (fun r hr x hx => h.okr.2 x (hin.2 x ((body_mem (List.mem_of_mem_take hr)).2 x hx))) ⟨by rw [List.length_take]; omega, by have := hok.2; omega⟩ (by omega) (by omega) (by omega)).mono ?_
  rintro e w' ⟨rfl, p', F', k⟩
  refine ⟨rfl, p', F', h3.recs.keep (gd_fx k.fx), k.one.bel, fun hr => ?_⟩
  have et : (rr.getD i []).take 300 = rr.getD i [] := List.take_of_length_le hr
  rw [et] at k
  have eb : headB ++ recsB (rr.take i) ++ recB (rr.getD i []) = headB ++ recsB (rr.take (i + 1)) := by
    rw [take_more rr i hi, recsB_app, List.append_assoc]; simp [recsB]
  have el : (recsB (rr.take (i + 1))).length = (recsB (rr.take i)).length + (recB (rr.getD i [])).length := by
    rw [take_more rr i hi, recsB_app, List.length_append]; simp [recsB]
  have ho := k.one
  rw [eb] at ho
  have k1 := k.tot
  have k2 := k.wr
  exact h3.fx k.fx ho (by omega) (by omega)

theorem rw_read {W w : World} {d lk l2 : Nat} {p : PS} {F : Nat → Prop} {rr : List (List (List Nat))} {v : Value} {vals : List Value} {vn : Value} (h : RwSt W w d lk l2 p F rr v vals vn rr.length) :
    Calls Tryd.prog 24 #[.pointer (some ⟨d, 0, none⟩), .string { data := #[107] }] w fun e w' => ∃ va, e = .returned (.tuple #[va, .int .i64 0]) ∧ IsBy w' va (headB ++ recsB rr) ∧ IsBy w' vn (headB ++ recsB rr) ∧ Lg w' l2 d nmJ (headB ++ recsB rr).length rr.length ∧ Below W.heap.size W w' := by
  have ho := h.one
  rw [List.take_length] at ho
  refine (di_read w ho.di ho.off nmK okK _ _ ho.mem).mono ?_
  rintro e w' ⟨va, rfl, ⟨k1, k2⟩, k3, k4, k5⟩
  have hb := k2.block l2 (heap_lt h.lg2.1) h.lg2.2.1
  exact ⟨va, rfl, (⟨k3, Below.refl _ _, k2.size⟩ : OB w.heap.size w' _ va w').by_, isBy_keep h.now.1 fun k e => (k2.block k (h.now.2 k e).2.1 (h.now.2 k e).2.2.1).2, hb.2.trans h.lg2.1, bel_fr ho.bel (Nat.le_refl _) k2 ho.di.ge⟩

/-- The second log. -/
theorem rw_open {W w : World} {d l2 : Nat} {p : PS} {F : Nat → Prop} {rr : List (List (List Nat))} {v : Value} {vals : List Value} {vn : Value} {V : Nat} (h : Fl W w d p F (headB ++ recsB rr) V) (hV : V ≤ 100) (hr : RecG (Gf W.heap.size w F) W.heap.size w v vals rr) (hn : Hb W.heap.size w F vn (headB ++ recsB rr)) (hl : Lg w l2 d nmJ (headB ++ recsB rr).length rr.length) (hnl : ¬ F l2) (hok : (∀ r ∈ rr, Okr r) ∧ ∀ x ∈ recsB rr, x < 256) (hlen : (headB ++ recsB rr).length ≤ 262152) :
    Calls Tryd.prog 12 #[.pointer (some ⟨d, 0, none⟩), .string { data := #[107] }] w fun e w' => ∃ lk, e = .returned (.tuple #[.pointer (some ⟨lk, 0, none⟩), .slice none 0 0, .int .i64 0]) ∧ ∃ p' F', RwSt W w' d lk l2 p' F' rr v vals vn 0 := by
  obtain ⟨su, hcon⟩ := h.con
  have hno : ∀ y ∈ p.con, y.1 ≠ nmK := fun y hy => by rw [hcon] at hy; rw [List.mem_singleton.1 hy]; show nmJ ≠ nmK; decide
  have hw := h.wr
  have htot : Con.tot p.con = (headB ++ recsB rr).length := by rw [hcon]; simp [Con.tot]
  refine (open_new w h.di nmK h.off h.ain (by omega) okK ⟨hno, by rw [hcon]; show 1 < 256; decide⟩ (by rw [htot, h.room]; omega)).mono ?_
  rintro e w' ⟨lk, F', rfl, k1, k2, k3, k4, k5⟩
  have hbel := bel_fr h.bel (Nat.le_refl _) k5 h.di.ge
  have hc := con_lay_new hno headB
  have hB := h.bel.size
  have g : ∀ k, Gf W.heap.size w F k → Gd W.heap.size w' F' lk k ∧ w'.heap[k]? = w.heap[k]? := fun k hk => by
    have a := gf_fr k5 k hk
    exact ⟨⟨a.1.1, a.1.2.1, a.1.2.2, fun e => by have := hk.2.1; omega⟩, a.2⟩
  have hb := k5.block l2 (heap_lt hl) hnl
  have he : headB ++ recsB (rr.take 0) = headB := by simp [recsB]
  refine ⟨lk, rfl, _, F', ⟨⟨k1, ?_, ?_, ?_, h.room, h.off, h.ain, ?_, k3, by omega, hbel⟩, hr.keep g, ⟨isBy_keep hn.1 fun k e => (g k (hn.2 k e)).2, fun k e => (g k (hn.2 k e)).1⟩, ⟨hb.2.trans hl, hb.1, fun e => by have := heap_lt hl; omega⟩, ?_, by dsimp only; omega, hlen, hok⟩⟩
  · rw [he]; dsimp only; rw [hc]; exact List.mem_append_right _ (List.mem_singleton.2 rfl)
  · rw [he]; decide
  · rw [he]; decide
  · rw [he]; exact k2
  · dsimp only
    rw [hc, con_tot_app, htot]
    show _ + (8 + 0) ≤ _
    simp only [List.take_zero, recsB, List.length_nil]
    omega

set_option maxRecDepth 100000 in
set_option maxHeartbeats 8000000 in
theorem journalRaw_any (pa : Option Addr) (na ca : Nat) (al : List Nat) (w : World) (hA : Cy w pa na ca al) (hna : na ≤ 140737488355328) (hal : ∀ x ∈ al, x < 256) (hT : TabC w) :
    Calls Tryd.prog 5 #[.slice pa na ca] w fun e w' => e = .returned (.bool true) ∧ Below w.heap.size w w' := by
  have HA : Hid (Cy w pa na ca al ∧ ∀ x ∈ al, x < 256) := ⟨hA, hal⟩
  have HT := hide hT
  clear hA hal hT
  go_enter Tryd.func5, Tryd.ntmps5
  go_upto_if 18 with fail
  go_cut [0] from 16 (fun t0 wc => ∃ (p1 : Option Addr) (n1 c1 : Nat), t0 = .slice p1 n1 c1 ∧ n1 ≤ 262144 ∧ Hid (∃ a, Cy w p1 n1 c1 a ∧ ∀ x ∈ a, x < 256) ∧ w = wc)
  case first =>
    by_cases hn : 262144 < na
    · have hn' : (262144 : Int) < (na : Int) := by omega
      obtain ⟨p', hs, hc⟩ := cy_cut HA.out.1 262144 (by omega)
      have HR : Hid (∃ a, Cy w p' 262144 ca a ∧ ∀ x ∈ a, x < 256) := ⟨_, hc, fun x hx => HA.out.2 x (List.mem_of_mem_take hx)⟩
      clear hc
      have hs' : ∀ w', (Instr.slice 40 (.slice pa na ca) none (some (.int .i64 262144)) none).run Tryd.prog w' = .ok (.slice p' 262144 ca) w' := hs
      clear hs
      go_wp2_with (simp only [hs'])
      go_meet
      case rel => exact ⟨p', 262144, ca, rfl, Nat.le_refl _, HR, rfl⟩
    · have hn' : ¬ (262144 : Int) < (na : Int) := by omega
      have HR : Hid (∃ a, Cy w pa na ca a ∧ ∀ x ∈ a, x < 256) := ⟨_, HA.out⟩
      go_wp2_with fail
      go_meet
      case rel => exact ⟨pa, na, ca, rfl, by omega, HR, rfl⟩
  case rest =>
    obtain ⟨p1, n1, c1, rfl, hn1, HR1, hwc⟩ := hcut
    subst hwc
    clear HA hna
    obtain ⟨bs, hcy, hb⟩ := HR1.out
    have HCY : Hid (Cy w p1 n1 c1 bs ∧ ∀ x ∈ bs, x < 256) := ⟨hcy, hb⟩
    have HLN : Hid (bs.length = n1) := hcy.2.1.symm
    clear HR1 hcy hb
    have HN1 := hide (di_new w w.heap.size (Nat.le_refl _) 268435456 (by decide) (by decide))
    go_upto_region 6 with (first
      | (go_at_call 10; refine (num_any _ _).mono ?_; rintro e wn ⟨rfl, hwn⟩; have hwn2 := hwn.symm; subst hwn2)
      | (go_at_call 9; refine HN1.out.mono ?_; rintro e w1 ⟨d, F1, rfl, hD1, hB1, hG1⟩; have H1 : Hid (Di w.heap.size w1 d { con := [], room := 268435456, off := false, ain := 0, keep := 0, lose := 0, wr := 0 } F1 ∧ Below w.heap.size w w1) := ⟨hD1, hB1⟩; clear hD1 hB1 hG1 HN1)
      | (go_at_call 29; refine (copy_any _ bs _ (isBy_below HCY.out.1.1 H1.out.2) (by rw [HLN.out]; omega)).mono ?_; rintro e w2 ⟨v2, rfl, ho2⟩; obtain ⟨q2, c2, hv2, hap⟩ := fl_first H1.out.1 H1.out.2 v2 bs w2 ho2 HCY.out.2 (by rw [HLN.out]; exact hn1); rw [HLN.out] at hv2 hap; subst hv2; have HAP := hide hap; clear ho2 hap)
      | (go_at_call 28; refine HAP.out.mono ?_; rintro e w3 ⟨rfl, p3, F3, h3⟩; have H3 := hide h3; clear h3 HAP H1)
      | (go_at_call 11; refine (works_any _ (HT.out.below H3.out.bel)).mono ?_; rintro e w4 ⟨rfl, hB4⟩; have H4 := hide (H3.out.below hB4); clear hB4 H3))
    by_cases hbad : Bad bs
    · go_wp2_with (first
        | (go_at_call 10; refine (num_any _ _).mono ?_; rintro e wn ⟨rfl, hwn⟩; have hwn2 := hwn.symm; subst hwn2)
        | (go_at_call 12; refine (raw_bad H4.out HT.out HCY.out.2 hbad).mono ?_; rintro e w5 ⟨rfl, k1, k2⟩; have H5 := hide k1; clear k1 k2 H4)
        | (go_at_call 24; refine (fl_read H5.out).mono ?_; rintro e w6 ⟨pn, cn, M, rfl, hM, k1, k2, k3, k4⟩; have H6 : Hid (Below w.heap.size w w6 ∧ IsBy w6 (.slice pn M cn) bs) := ⟨k1.bel, k3.1⟩; clear hM k1 k2 k3 k4 H5)
        | (go_at_call 27; refine (eq_same _ _ bs _ H6.out.2 (isBy_below HCY.out.1.1 H6.out.1) (by rw [HLN.out]; omega)).mono ?_; rintro e w7 ⟨rfl, N1, hN1⟩; have H7 : Hid (Below w.heap.size w w7) := (by rw [hN1]; exact H6.out.1.trans (below_drewN ((Below.refl _ _).mono H6.out.1.size) N1)); clear hN1))
      go_ret
      exact ⟨rfl, H7.out⟩
    · go_upto_block 0 with (first
        | (go_at_call 10; refine (num_any _ _).mono ?_; rintro e wn ⟨rfl, hwn⟩; have hwn2 := hwn.symm; subst hwn2)
        | (go_at_call 12; refine (raw_good H4.out (by omega) HT.out HCY.out.2 hbad).mono ?_; rintro e w5 ⟨l2, v, rfl, p5, F5, rr, k1, k2, ⟨vals, k3⟩, k4, k5, k6, k7, k8⟩; have HOK : Hid (((∀ r ∈ rr, Okr r) ∧ ∀ x ∈ recsB rr, x < 256) ∧ (headB ++ recsB rr).length ≤ 262152) := ⟨⟨k6, k7⟩, by rw [HLN.out] at k8; omega⟩; obtain ⟨pg, cg, hv, -⟩ := k3.a; obtain ⟨R, hR⟩ : ∃ R, rr.length = R := ⟨_, rfl⟩; rw [hR] at hv; have HRR := hide hR; subst hv; have H5 := hide (And.intro k1 (And.intro k3 (And.intro k4 k5))); clear k1 k2 k3 k4 k5 k6 k7 k8 hR H4)
        | (go_at_call 24; refine (fl_read H5.out.1).mono ?_; rintro e w6 ⟨pn, cn, M, rfl, hM, k1, k2, k3, k4⟩; have HM := hide hM; have H6 : Hid (Fl w w6 d p5 F5 (headB ++ recsB rr) 4 ∧ RecG (Gf w.heap.size w6 F5) w.heap.size w6 (.slice pg R cg) vals rr ∧ Hb w.heap.size w6 F5 (.slice pn M cn) (headB ++ recsB rr) ∧ Lg w6 l2 d nmJ (headB ++ recsB rr).length rr.length ∧ ¬ F5 l2) := ⟨k1, H5.out.2.1.keep (gf_fr k2), k3, H5.out.2.2.1.fr k2 H5.out.2.2.2, H5.out.2.2.2⟩; clear hM k1 k2 k3 k4 H5)
        | (go_at_call 12; refine (rw_open H6.out.1 (by omega) H6.out.2.1 H6.out.2.2.1 H6.out.2.2.2.1 H6.out.2.2.2.2 HOK.out.1 HOK.out.2).mono ?_; rintro e w7 ⟨lk, rfl, p7, F7, k1⟩; have H7 : Hid (∃ p' F', RwSt w w7 d lk l2 p' F' rr (.slice pg R cg) vals (.slice pn M cn) 0) := ⟨p7, F7, k1⟩; clear k1 H6))
      have hR6 : R ≤ 33000 := by
        have := recs_many rr
        have h2 := HOK.out.2
        rw [List.length_append, show headB.length = 8 from rfl] at h2
        have := HRR.out
        omega
      go_cut [13] from 13 (fun t13 wc => Hid (∃ p' F', RwSt w wc d lk l2 p' F' rr (.slice pg R cg) vals (.slice pn M cn) rr.length))
      case first =>
        as_aux_lemma =>
          go_wp2_with fail
          go_loopw [13] (fun t13 wr => ∃ i : Nat, t13 = .int .i64 (i : Int) ∧ i ≤ R ∧ Hid (∃ p' F', RwSt w wr d lk l2 p' F' rr (.slice pg R cg) vals (.slice pn M cn) i)) (fun t13 _ => R - (intOf t13).toNat)
          case atStart => exact ⟨0, rfl, by omega, H7.out⟩
          case round =>
            obtain ⟨i, rfl, hiR, hI⟩ := hrel
            clear H7
            obtain ⟨p', F', hS⟩ := hI.out
            have HS := hide hS
            clear hI hS
            by_cases hi : i < R
            · have hi' : (i : Int) < (R : Int) := by omega
              have HI : Hid (i < rr.length) := by show _ < _; rw [HRR.out]; exact hi
              obtain ⟨g, pe, ne, ce, hpg, hcell, hrow⟩ : ∃ g pe ne ce, pg = some ⟨g, 0, none⟩ ∧ wr.cell? ⟨g, i, none⟩ = some (.slice pe ne ce) ∧ RowA wr (.slice pe ne ce) (rr.getD i []) := by
                obtain ⟨p', c', e, h⟩ := HS.out.recs.a
                simp only [Value.slice.injEq] at e
                obtain ⟨g, u, e1, e2, e3⟩ := h i HI.out
                obtain ⟨pe, ce, hu, hh⟩ := e3
                subst hu
                exact ⟨g, pe, _, ce, e.1.trans e1, e2, pe, ce, rfl, hh⟩
              subst hpg
              obtain ⟨hne, hparts⟩ := hrow.parts
              have HNE := hide hne
              have HMEM : Hid (rr.getD i [] ∈ rr) := by show _ ∈ _; rw [List.getD_eq_getElem?_getD, List.getElem?_eq_getElem HI.out]; exact List.getElem_mem HI.out
              have HQ : Hid (∀ j, j < ne → ((fun j => (rr.getD i []).getD j []) j).length ≤ 140737488355328) := fun j hj => by
                rw [HNE.out] at hj
                have hm : (rr.getD i []).getD j [] ∈ rr.getD i [] := by rw [List.getD_eq_getElem?_getD (l := rr.getD i []), List.getElem?_eq_getElem hj]; exact List.getElem_mem hj
                have h1 := (body_mem hm).1
                have h2 := (HOK.out.1.1 _ HMEM.out).2
                show ((rr.getD i []).getD j []).length ≤ _
                omega
              have hne4 : ne ≤ 4096 := by rw [HNE.out]; exact (HOK.out.1.1 _ HMEM.out).1
              have HCP := hide (copied_any pe ne ce (fun j => (rr.getD i []).getD j []) wr hparts HQ.out (by omega))
              rw [show (List.range (min ne 300)).map (fun j => (rr.getD i []).getD j []) = (rr.getD i []).take 300 from by rw [HNE.out]; exact map_getD_take _] at HCP
              clear hrow hne hparts
              have HCL : Hid (∀ w' F', RecG (Gd w.heap.size w' F' lk) w.heap.size w' (.slice (some ⟨g, 0, none⟩) R cg) vals rr → w'.cell? ⟨g, i, none⟩ = wr.cell? ⟨g, i, none⟩) := fun w' F' h2 => by
                have hv : ∀ ww, RecG (Gd w.heap.size ww F' lk) w.heap.size ww (.slice (some ⟨g, 0, none⟩) R cg) vals rr → True := fun _ _ => trivial
                have hlt : 0 < rr.length := by have := HI.out; omega
                obtain ⟨g1, c1, a1, a2⟩ := own_at HS.out.recs.own hlt
                obtain ⟨g2, c2, b1, b2⟩ := own_at h2.own hlt
                simp only [Value.slice.injEq, Option.some.injEq, Addr.mk.injEq, and_true] at a1 b1
                obtain ⟨rfl, _⟩ := a1
                obtain ⟨rfl, _⟩ := b1
                have hvi : i < vals.length := by rw [HS.out.recs.len]; exact HI.out
                rw [a2 i _ HI.out (List.getElem?_eq_getElem hvi), b2 i _ HI.out (List.getElem?_eq_getElem hvi)]
              by_cases h3 : 300 < ne
              · have h3' : (300 : Int) < (ne : Int) := by omega
                go_wp2_with (first
                  | (go_at_call 10; refine (num_any _ _).mono ?_; rintro e wn ⟨rfl, hwn⟩; have hwn2 := hwn.symm; subst hwn2)
                  | (go_at_call 15; refine HCP.out.mono ?_; rintro e w1 ⟨v1, rfl, hR1, hB1⟩; have HR1 := hide (And.intro hR1 hB1); obtain ⟨q1, c1, hv1, -⟩ := hR1.a; obtain ⟨m, hm⟩ : ∃ m, ((rr.getD i []).take 300).length = m := ⟨_, rfl⟩; rw [hm] at hv1; subst hv1; clear hR1 hB1 hm HCP)
                  | (go_at_call 17; refine (rw_app HS.out HI.out HT.out HR1.out.2 q1 m c1 HR1.out.1.a).mono ?_; rintro e w2 ⟨rfl, p2, F2, k1, k2, k3⟩; have hc2 : w2.cell? ⟨g, i, none⟩ = some (.slice pe ne ce) := (HCL.out w2 F2 k1).trans hcell; have H2 := hide k2; clear k1 k2 k3 HR1))
                go_ret
                exact ⟨rfl, H2.out⟩
              · have h3' : ¬ (300 : Int) < (ne : Int) := by omega
                go_wp2_with (first
                  | (go_at_call 10; refine (num_any _ _).mono ?_; rintro e wn ⟨rfl, hwn⟩; have hwn2 := hwn.symm; subst hwn2)
                  | (go_at_call 15; refine HCP.out.mono ?_; rintro e w1 ⟨v1, rfl, hR1, hB1⟩; have HR1 := hide (And.intro hR1 hB1); obtain ⟨q1, c1, hv1, -⟩ := hR1.a; obtain ⟨m, hm⟩ : ∃ m, ((rr.getD i []).take 300).length = m := ⟨_, rfl⟩; rw [hm] at hv1; subst hv1; clear hR1 hB1 hm HCP)
                  | (go_at_call 17; refine (rw_app HS.out HI.out HT.out HR1.out.2 q1 m c1 HR1.out.1.a).mono ?_; rintro e w2 ⟨rfl, p2, F2, k1, k2, k3⟩; have hc2 : w2.cell? ⟨g, i, none⟩ = some (.slice pe ne ce) := (HCL.out w2 F2 k1).trans hcell; have H2 := hide (k3 (by rw [← HNE.out]; omega)); clear k1 k2 k3 HR1))
                go_roundw
                case rel => exact ⟨i + 1, by simp, by omega, p2, F2, H2.out⟩
                case measure => simp [intOf]; omega
            · have hi' : ¬ (i : Int) < (R : Int) := by omega
              have HE : Hid (i = rr.length) := by show _ = _; rw [HRR.out]; omega
              go_wp2_with fail
              go_meet
              case rel => exact ⟨p', F', by rw [← HE.out]; exact HS.out⟩
      case rest =>
        obtain ⟨p8, F8, h8⟩ := hcut.out
        have H8 := hide h8
        clear hcut h8
        have HEND : Hid (∀ wx, Below w.heap.size w wx → Calls Tryd.prog 11 #[] wx fun e w' => e = .returned (.bool true) ∧ Below w.heap.size w w') := fun wx hB => by
          refine (works_any wx (HT.out.below hB)).mono ?_
          rintro e w' ⟨rfl, hB2⟩
          exact ⟨rfl, hB.trans (hB2.mono hB.size)⟩
        have hM6 : M ≤ 262152 := by rw [HM.out]; exact HOK.out.2
        go_wp2_with (first
          | (go_at_call 10; refine (num_any _ _).mono ?_; rintro e wn ⟨rfl, hwn⟩; have hwn2 := hwn.symm; subst hwn2)
          | (go_at_call 24; refine (rw_read H8.out).mono ?_; rintro e w9 ⟨va, rfl, k1, k2, k3, k4⟩; have H9 := hide (And.intro k1 (And.intro k2 (And.intro k3 k4))); clear k1 k2 k3 k4 H8)
          | (go_at_call 27; refine (eq_same _ _ (headB ++ recsB rr) _ H9.out.2.1 H9.out.1 (by rw [← HM.out]; omega)).mono ?_; rintro e w10 ⟨rfl, N1, hN1⟩; have hB10 : Below w9.heap.size w9 w10 := (by rw [hN1]; exact below_drewN (Below.refl _ _) N1); have H10 : Hid (Below w.heap.size w w10) := H9.out.2.2.2.trans (hB10.mono H9.out.2.2.2.size); have HL1 : Hid (Lg w10 l2 d nmJ M R) := (by have h := H9.out.2.2.1.below hB10; rw [← HM.out, HRR.out] at h; exact h); have HL2 : Hid (Lg w10 l2 d nmJ M R) := HL1.out; clear hN1 hB10 H9)
          | (go_at_call 13; refine (lsize_any _ HL1.out).mono ?_; rintro e wn ⟨rfl, hwn⟩; have hwn2 := hwn.symm; subst hwn2)
          | (go_at_call 22; refine (lcount_any _ HL2.out).mono ?_; rintro e wn ⟨rfl, hwn⟩; have hwn2 := hwn.symm; subst hwn2)
          | (go_at_call 11; refine (HEND.out _ H10.out).mono ?_; rintro e w11 ⟨rfl, hB11⟩; have H11 := hide hB11; clear hB11))
        go_ret
        exact ⟨rfl, H11.out⟩

end Go.Proofs.YtpecgmcalbojcaaDoor

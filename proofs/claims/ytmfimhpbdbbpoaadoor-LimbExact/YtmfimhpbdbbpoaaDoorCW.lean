/- The law's parts. -/
import Derived.Test.YtmfimhpbdbbpoaaDoorCV
import Derived.Test.YtmfimhpbdbbpoaaDoorAB
namespace Go.Proofs.YtmfimhpbdbbpoaaDoor
open Go.RowKit
open M
set_option linter.unusedVariables false
set_option linter.unusedSimpArgs false

/-- What DivMod tells: the quotient's block lies below the rest's. -/
def Divided2 (w : World) (base : Nat) (q r : Value) (A C : Nat) : Prop :=
  ∃ mid n1 n2, base ≤ mid ∧ (∀ g, q.ownBlock = some g → g < mid) ∧ Own w base q n1 (A / C) ∧ Nrm n1 (A / C) ∧ RowX (· < mid) w q n1 (A / C) ∧ Own w mid r n2 (A % C) ∧ Nrm n2 (A % C)

set_option maxRecDepth 100000 in
set_option maxHeartbeats 400000 in
theorem DivMod_of2 {v u : Value} {A C k m : Nat} {w : World} (h1 : Row w v k A) (h2 : Nrm k A) (h3 : k ≤ 8192) (g1 : Row w u m C) (g2 : Nrm m C) (g3 : m ≤ 8192) (hC : 0 < C)
    (hd : Calls Tryd.prog 81 #[v, u] w fun e w' => ∃ q r, e = .returned (.tuple #[q, r]) ∧ Parts w' q r A C ∧ Below w.heap.size w w') :
    Calls Tryd.prog 45 #[v, u] w fun e w' => ∃ q r, e = .returned (.tuple #[q, r, .int .i64 0]) ∧ Divided2 w' w.heap.size q r A C ∧ Below w.heap.size w w' := by
  have HC := hide (checkBoth_ok v u k A m C w h1 g1 h2 g2 h3 g3)
  have HD := hide hd
  have hm0 : ((m : Int) == 0) = false := by
    rw [beq_eq_false_iff_ne]
    intro e
    have := g2.zero_iff.1 (by omega)
    omega
  obtain ⟨_, _, ad', cap', rfl, _, _⟩ := g1
  clear h1 h2 g2 hd
  go_enter Tryd.func45, Tryd.ntmps45
  go_wp2_with fail
  refine HC.out.mono ?_
  rintro e w1 ⟨rfl, rfl⟩
  go_wp2_with fail
  refine HD.out.mono ?_
  rintro e w2 ⟨q, r, rfl, ⟨⟨n1, hq, hq'⟩, n2, hr, hr'⟩, hb2⟩
  have H2 := hide (And.intro (And.intro hq hr) (And.intro (And.intro hq' hr') hb2))
  clear hq hq' hr hr' hb2
  go_wp2_with fail
  refine (fresh_any q n1 (A / C) w2 H2.out.1.1).mono ?_
  rintro e w3 ⟨q3, rfl, ho3, hb3⟩
  have H3 := hide (And.intro ho3 hb3)
  clear ho3 hb3
  go_wp2_with fail
  refine (fresh_any r n2 (A % C) w3 (H2.out.1.2.below H3.out.2)).mono ?_
  rintro e w4 ⟨r4, rfl, ho4, hb4⟩
  have H4 : Hid (Divided2 w4 w1.heap.size q3 r4 A C ∧ Below w1.heap.size w1 w4) := by
    have hs2 := H2.out.2.2.size
    have hs3 := H3.out.2.size
    exact ⟨⟨w3.heap.size, n1, n2, by omega, fun g hg => (H3.out.1.2.2.lt g hg).2, (H3.out.1.below hb4).mono hs2, H2.out.2.1.1, RowX.below (Row.old H3.out.1.row) hb4, ho4, H2.out.2.1.2⟩, H2.out.2.2.trans ((H3.out.2.mono hs2).trans (hb4.mono (by omega)))⟩
  clear ho4 hb4
  go_wp2_with fail
  go_ret3
  exact ⟨_, _, rfl, H4.out⟩

/-- Two numbers of one's own, and a code. -/
def GivesD (fn : Nat) (c : Int) (n1 n2 Q R : Nat) (args : Array Value) (w : World) : Prop :=
  Calls Tryd.prog fn args w fun e w' => ∃ q r, e = .returned (.tuple #[q, r, .int .i64 c]) ∧ (∃ mid, w.heap.size ≤ mid ∧ (∀ g, q.ownBlock = some g → g < mid) ∧ Own w' w.heap.size q n1 Q ∧ Own w' mid r n2 R) ∧ Below w.heap.size w w'
def GivesDR (fn : Nat) (c : Int) (n1 n2 Q R : Nat) (args : Array Value) (w : World) : Prop :=
  Calls Tryd.prog fn args w fun e w' => ∃ q r, e = .returned (.tuple #[q, r, .int .i64 c]) ∧ (RowX (w.heap.size ≤ ·) w' q n1 Q ∧ RowX (w.heap.size ≤ ·) w' r n2 R) ∧ Below w.heap.size w w'

theorem givesD_bad {fn : Nat} {args : Array Value} {w : World} {c : Int} (h : Calls Tryd.prog fn args w fun e w' => e = .returned (.tuple #[.slice none 0 0, .slice none 0 0, .int .i64 c]) ∧ w' = w) : GivesD fn c 0 0 0 0 args w :=
  Calls.mono h fun e w' ⟨h1, h2⟩ => ⟨_, _, h1, ⟨w.heap.size, Nat.le_refl _, fun g hg => by simp [Value.ownBlock] at hg, Own.nil _ _, Own.nil _ _⟩, by rw [h2]; exact Below.refl _ _⟩
theorem givesDR_bad {fn : Nat} {args : Array Value} {w : World} {c : Int} (h : Calls Tryd.prog fn args w fun e w' => e = .returned (.tuple #[.slice none 0 0, .slice none 0 0, .int .i64 c]) ∧ w' = w) : GivesDR fn c 0 0 0 0 args w :=
  Calls.mono h fun e w' ⟨h1, h2⟩ => ⟨_, _, h1, ⟨(Own.nil _ _).rowX, (Own.nil _ _).rowX⟩, by rw [h2]; exact Below.refl _ _⟩

theorem divmod_spec {k A m C : Nat} (hA : A < 4294967296 ^ k) (hC : C < 4294967296 ^ m) : ∃ c n1 n2 Q R, n1 ≤ 8192 ∧ n2 ≤ 8192 ∧ ∀ (w : World) (v u : Value), Row w v k A → Row w u m C → GivesD 45 c n1 n2 Q R #[v, u] w ∧ GivesDR 46 c n1 n2 Q R #[v, u] w := by
  by_cases hc : chk2 k A m C = 0
  · obtain ⟨⟨h1, h2⟩, h3, h4⟩ := chk2_ok hA hC hc
    by_cases h0 : C = 0
    · subst h0
      exact ⟨23, 0, 0, 0, 0, by omega, by omega, fun w v u hv hu => ⟨givesD_bad (DivMod_zero ⟨k, hv, h1, h2⟩ ⟨m, hu, h3, h4⟩), givesDR_bad (rDivMod_zero v u k A m w hv hu h1 h2 h3)⟩⟩
    · have hC0 : 0 < C := by omega
      obtain ⟨n1, hn1⟩ := nrm_exists (A / C)
      obtain ⟨n2, hn2⟩ := nrm_exists (A % C)
      have e1 : n1 ≤ k := hn1.le (Nat.lt_of_le_of_lt (Nat.div_le_self _ _) hA)
      have e2 : n2 ≤ m := hn2.le (Nat.lt_trans (Nat.mod_lt _ hC0) hC)
      refine ⟨0, n1, n2, A / C, A % C, by omega, by omega, fun w v u hv hu => ⟨?_, ?_⟩⟩
      · refine Calls.mono (DivMod_of2 hv h1 h2 hu h3 h4 hC0 (divide_any v u k A m C w hv hu h1 h3 hC0 (by omega))) fun e w' ⟨q, r, g1, ⟨mid, m1, m2, g2, g3, g4, g5, _, g6, g7⟩, g8⟩ => ?_
        obtain rfl : m1 = n1 := Nat.le_antisymm (g5.le hn1.1) (hn1.le g5.1)
        obtain rfl : m2 = n2 := Nat.le_antisymm (g7.le hn2.1) (hn2.le g7.1)
        exact ⟨q, r, g1, ⟨mid, g2, g3, g4, g6⟩, g8⟩
      · refine Calls.mono (rDivMod_ok v u k A m C w hv hu h1 h2 h3 h4 hC0) fun e w' ⟨q, r, g1, ⟨⟨m1, g2, g3⟩, m2, g4, g5⟩, g6⟩ => ?_
        obtain rfl : m1 = n1 := Nat.le_antisymm (g3.le hn1.1) (hn1.le g3.1)
        obtain rfl : m2 = n2 := Nat.le_antisymm (g5.le hn2.1) (hn2.le g5.1)
        exact ⟨q, r, g1, ⟨g2, g4⟩, g6⟩
  · exact ⟨_, 0, 0, 0, 0, by omega, by omega, fun w v u hv hu => ⟨givesD_bad (DivMod_bad v u k A m C w hv hu hc), givesDR_bad (rDivMod_bad v u k A m C w hv hu hc)⟩⟩

/-- What the quotient's own changes leave. -/
theorem sep_left {wa wb wc : World} {q r u v : Value} {n1 n2 Q R mid base : Nat} (hm : base ≤ mid) (hq : ∀ g, q.ownBlock = some g → g < mid) (hqa : ∀ g, q.ownBlock = some g → g < wa.heap.size) (hqo : Own wb base q n1 Q) (hr : Own wb mid r n2 R) (hv : RowX (wa.heap.size ≤ ·) wb v n2 R) (hb : base ≤ wb.heap.size) (hg : wb.grownBy wc q.ownBlock) :
    (Own wc base r n2 R ∧ Row wc v n2 R) ∧ Below base wb wc := by
  refine ⟨⟨Own.mono ⟨hr.1, hr.2.1, hr.2.2.kept hg ?_⟩ hm, ?_⟩, grown_below hg (fun g h => (hqo.2.2.lt g h).1) hb⟩
  · cases h : r.ownBlock with
    | none => exact .inl rfl
    | some g =>
      refine .inr fun e => ?_
      have h1 := (hr.2.2.lt g h).1
      have h2 := hq g e.symm
      omega
  · exact (hv.keep fun g o hs hl => World.cell?_of_block (a := ⟨g, o, none⟩) (hg.block g hl fun e => by have := hqa g e.symm; omega)).row

set_option maxRecDepth 100000 in
set_option maxHeartbeats 16000000 in
theorem parts_true (a b : Value) (k A m C : Nat) (w : World) (ha : Row w a k A) (hb : Row w b m C) (na : Nil0 a) (nb : Nil0 b) (hk : k ≤ 16384) (hm : m ≤ 16384) :
    Calls Tryd.prog 8 #[a, b] w fun e w' => e = .returned (.bool true) ∧ Below w.heap.size w w' := by
  have HA := hide (And.intro ha.old na)
  have HC := hide (And.intro hb.old nb)
  obtain ⟨cD, nQ, nR, QQ, RR, hnQ, hnR, sD⟩ := divmod_spec ha.1 hb.1
  obtain ⟨cG, nG, RG, hnG, sG⟩ := gcd_spec ha.1 hb.1
  obtain ⟨bO, cO, nO, RO, hnO, sO⟩ := root_spec ha.1
  have SD := hide sD
  have SG := hide sG
  have SO := hide sO
  obtain ⟨_, _, ada, capa, rfl, _, _⟩ := ha
  obtain ⟨_, _, adb, capb, rfl, _, _⟩ := hb
  clear na nb sD sG sO
  go_enter Tryd.func8, Tryd.ntmps8
  go_wp2_with fail
  refine (lent_any _ k A w HA.out.1 (fun cap => HA.out.2 k cap) (by omega)).mono ?_
  rintro e v1 ⟨gx, cx, rfl, hl, hb⟩
  have HX := hide (L1.start (Nat.le_refl _) HA.out.1 hl hb)
  have HBl := hide hb
  have HG := hide hl.lies.2.2.1
  clear hl hb
  go_wp2_with fail
  refine (lent_any _ m C v1 (HC.out.1.belowB HBl.out) (fun cap => HC.out.2 m cap) (by omega)).mono ?_
  rintro e v2 ⟨gy, cy, rfl, hl, hb⟩
  have HY := hide (L1.start HBl.out.size (HC.out.1.belowB HBl.out) hl hb)
  have HNE : Hid (gx ≠ gy) := by show _ ≠ _; have := HG.out; have := hl.lies.2.1; omega
  have HX' := hide (HX.out.later hb)
  have HBl' := hide (HBl.out.trans (hb.mono HBl.out.size))
  clear HX HBl hl hb
  have HX := HX'
  have HBl := HBl'
  clear HX' HBl'
  go_wp2_with fail
  refine Calls.mono (SD.out v2 (.slice (some ⟨gx, 0, none⟩) k cx) (.slice (some ⟨gy, 0, none⟩) m cy) HX.out.x HY.out.x).1 ?_
  rintro e v3 ⟨q, r, rfl, hqr, hb⟩
  have HP := hide (And.intro hqr hb)
  clear hqr hb
  go_wp2_with fail
  refine Calls.mono (SD.out v3 _ _ (HX.out.later HP.out.2).a (HY.out.later HP.out.2).a).2 ?_
  rintro e v4 ⟨q', r', rfl, hqr, hb⟩
  have HQ : Hid (∃ mid, (v2.heap.size ≤ mid ∧ (∀ g, q.ownBlock = some g → g < mid) ∧ (∀ g, q.ownBlock = some g → g < v3.heap.size) ∧ Own v4 v2.heap.size q nQ QQ ∧ Own v4 mid r nR RR) ∧ RowX (v3.heap.size ≤ ·) v4 q' nQ QQ ∧ RowX (v3.heap.size ≤ ·) v4 r' nR RR ∧ Below v2.heap.size v2 v4) := by
    obtain ⟨⟨mid, h1, h2, h3, h4⟩, h5⟩ := HP.out
    exact ⟨mid, ⟨h1, h2, fun g hg => (h3.2.2.lt g hg).2, h3.below hb, h4.below hb⟩, hqr.1, hqr.2, h5.trans (hb.mono h5.size)⟩
  clear hqr hb HP
  obtain ⟨mid, hQ⟩ := HQ.out
  have HQ2 := hide hQ
  clear hQ HQ
  go_wp2_with fail
  refine (same_sep q q' nQ QQ v2.heap.size cD v4 HQ2.out.1.2.2.2.1 HQ2.out.2.1.row HQ2.out.2.2.2.size (by omega)).mono ?_
  rintro e v5 ⟨rfl, hg⟩
  have HS := hide (sep_left HQ2.out.1.1 HQ2.out.1.2.1 HQ2.out.1.2.2.1 HQ2.out.1.2.2.2.1 HQ2.out.1.2.2.2.2 HQ2.out.2.2.1 (u := q) HQ2.out.2.2.2.size hg)
  have HS2 := hide (HQ2.out.2.2.2.trans HS.out.2)
  clear hg HQ2
  go_wp2_with fail
  refine (same_true r r' nR RR v2.heap.size cD v5 HS.out.1.1 HS.out.1.2 HS2.out.size (by omega)).mono ?_
  rintro e v6 ⟨rfl, hb⟩
  have HZ := hide (HS2.out.trans hb)
  clear hb HS HS2
  have HX' := hide (HX.out.later HZ.out)
  have HY' := hide (HY.out.later HZ.out)
  have HBl' := hide (HBl.out.trans (HZ.out.mono HBl.out.size))
  clear HX HY HBl
  have HX := HX'
  clear HX'
  have HY := HY'
  clear HY'
  have HBl := HBl'
  clear HBl'
  clear HZ
  go_wp2_with fail
  refine Calls.mono (SG.out v6 (.slice (some ⟨gx, 0, none⟩) k cx) (.slice (some ⟨gy, 0, none⟩) m cy) HX.out.x HY.out.x).1 ?_
  rintro e v7 ⟨r9, rfl, hr1, hb1⟩
  have HP := hide (And.intro hr1 hb1)
  clear hr1 hb1
  go_wp2_with fail
  refine Calls.mono (SG.out v7 _ _ (HX.out.later HP.out.2).a (HY.out.later HP.out.2).a).2 ?_
  rintro e v8 ⟨q9, rfl, hr2, hb2⟩
  have HQ := hide (And.intro (And.intro (HP.out.1.below hb2) hr2) (And.intro (HP.out.2.trans (hb2.mono HP.out.2.size)) (Nat.le_trans HP.out.2.size hb2.size)))
  clear hr2 hb2 HP
  go_wp2_with fail
  refine (same_true r9 q9 _ _ v6.heap.size _ v8 HQ.out.1.1 HQ.out.1.2 HQ.out.2.2 (by omega)).mono ?_
  rintro e v9 ⟨rfl, hb3⟩
  have HZ := hide (HQ.out.2.1.trans hb3)
  clear hb3 HQ
  have HX' := hide (HX.out.later HZ.out)
  have HY' := hide (HY.out.later HZ.out)
  have HBl' := hide (HBl.out.trans (HZ.out.mono HBl.out.size))
  clear HX HY HBl
  have HX := HX'
  clear HX'
  have HY := HY'
  clear HY'
  have HBl := HBl'
  clear HBl'
  clear HZ
  by_cases hk1 : k ≤ 120
  · have hdec : decide ((k : Int) ≤ 120) = true := decide_eq_true (by omega)
    have hk2 : (k : Int) ≤ 120 := by omega
    clear hk1
    go_wp2_with fail
    refine Calls.mono (SO.out v9 (.slice (some ⟨gx, 0, none⟩) k cx) HX.out.x).1 ?_
    rintro e v10 ⟨r12, rfl, hr1, hb1⟩
    have HP := hide (And.intro hr1 hb1)
    clear hr1 hb1
    go_wp2_with fail
    refine Calls.mono (SO.out v10 _ (HX.out.later HP.out.2).a).2 ?_
    rintro e v11 ⟨q12, rfl, hr2, hb2⟩
    have HQ := hide (And.intro (And.intro (HP.out.1.below hb2) hr2) (And.intro (HP.out.2.trans (hb2.mono HP.out.2.size)) (Nat.le_trans HP.out.2.size hb2.size)))
    clear hr2 hb2 HP
    go_wp2_with fail
    refine (same_true r12 q12 _ _ v9.heap.size _ v11 HQ.out.1.1 HQ.out.1.2 HQ.out.2.2 (by omega)).mono ?_
    rintro e v12 ⟨rfl, hb3⟩
    have HZ := hide (HQ.out.2.1.trans hb3)
    clear hb3 HQ
    have HX' := hide (HX.out.later HZ.out)
    have HY' := hide (HY.out.later HZ.out)
    have HBl' := hide (HBl.out.trans (HZ.out.mono HBl.out.size))
    clear HX HY HBl
    have HX := HX'
    clear HX'
    have HY := HY'
    clear HY'
    have HBl := HBl'
    clear HBl'
    clear HZ
    go_wp2_with fail
    refine (back_any _ k A w.heap.size gx cx v12 HX.out.ra (by omega) HX.out.lx).mono ?_
    rintro e v13 ⟨rfl, ho⟩
    have HY' := hide (HY.out.only ho HNE.out HX.out.ge.1)
    have HB' := hide (HBl.out.trans (ho.below HX.out.ge.1 HBl.out.size))
    clear ho HY HBl
    go_wp2_with fail
    refine (back_any _ m C w.heap.size gy cy v13 HY'.out.ra (by omega) HY'.out.lx).mono ?_
    rintro e v14 ⟨rfl, ho⟩
    have HB2 := hide (HB'.out.trans (ho.below HY'.out.ge.1 HB'.out.size))
    clear ho HB' HY'
    go_wp2_with fail
    go_ret
    exact ⟨rfl, HB2.out⟩
  · have hdec : decide ((k : Int) ≤ 120) = false := decide_eq_false (by omega)
    clear hk1
    have HK := hide (rcheck_any _ k A v9 HX.out.a)
    obtain ⟨c, hc⟩ : ∃ c, chk k A = c := ⟨_, rfl⟩
    rw [hc] at HK
    clear hc
    by_cases hc0 : c = 0
    · subst hc0
      go_wp2_with fail
      refine HK.out.mono ?_
      rintro e wk ⟨rfl, hw⟩
      have hw1 := hw.symm
      subst hw1
      clear HK
      go_wp2_with fail
      refine (back_any _ k A w.heap.size gx cx v9 HX.out.ra (by omega) HX.out.lx).mono ?_
      rintro e v10 ⟨rfl, ho⟩
      have HY' := hide (HY.out.only ho HNE.out HX.out.ge.1)
      have HB' := hide (HBl.out.trans (ho.below HX.out.ge.1 HBl.out.size))
      clear ho HY HBl
      go_wp2_with fail
      refine (back_any _ m C w.heap.size gy cy v10 HY'.out.ra (by omega) HY'.out.lx).mono ?_
      rintro e v11 ⟨rfl, ho⟩
      have HB2 := hide (HB'.out.trans (ho.below HY'.out.ge.1 HB'.out.size))
      clear ho HB' HY'
      go_wp2_with fail
      go_ret
      exact ⟨rfl, HB2.out⟩
    · have h0 : (c == 0) = false := by rw [beq_eq_false_iff_ne]; exact hc0
      have h1 : (c != 0) = true := by rw [bne_iff_ne]; exact hc0
      go_wp2_with fail
      refine HK.out.mono ?_
      rintro e wk ⟨rfl, hw⟩
      have hw1 := hw.symm
      subst hw1
      clear HK
      go_wp2_with fail
      refine Calls.mono (SO.out v9 (.slice (some ⟨gx, 0, none⟩) k cx) HX.out.x).1 ?_
      rintro e v10 ⟨r12, rfl, hr1, hb1⟩
      have HP := hide (And.intro hr1 hb1)
      clear hr1 hb1
      go_wp2_with fail
      refine Calls.mono (SO.out v10 _ (HX.out.later HP.out.2).a).2 ?_
      rintro e v11 ⟨q12, rfl, hr2, hb2⟩
      have HQ := hide (And.intro (And.intro (HP.out.1.below hb2) hr2) (And.intro (HP.out.2.trans (hb2.mono HP.out.2.size)) (Nat.le_trans HP.out.2.size hb2.size)))
      clear hr2 hb2 HP
      go_wp2_with fail
      refine (same_true r12 q12 _ _ v9.heap.size _ v11 HQ.out.1.1 HQ.out.1.2 HQ.out.2.2 (by omega)).mono ?_
      rintro e v12 ⟨rfl, hb3⟩
      have HZ := hide (HQ.out.2.1.trans hb3)
      clear hb3 HQ
      have HX' := hide (HX.out.later HZ.out)
      have HY' := hide (HY.out.later HZ.out)
      have HBl' := hide (HBl.out.trans (HZ.out.mono HBl.out.size))
      clear HX HY HBl
      have HX := HX'
      clear HX'
      have HY := HY'
      clear HY'
      have HBl := HBl'
      clear HBl'
      clear HZ
      go_wp2_with fail
      refine (back_any _ k A w.heap.size gx cx v12 HX.out.ra (by omega) HX.out.lx).mono ?_
      rintro e v13 ⟨rfl, ho⟩
      have HY' := hide (HY.out.only ho HNE.out HX.out.ge.1)
      have HB' := hide (HBl.out.trans (ho.below HX.out.ge.1 HBl.out.size))
      clear ho HY HBl
      go_wp2_with fail
      refine (back_any _ m C w.heap.size gy cy v13 HY'.out.ra (by omega) HY'.out.lx).mono ?_
      rintro e v14 ⟨rfl, ho⟩
      have HB2 := hide (HB'.out.trans (ho.below HY'.out.ge.1 HB'.out.size))
      clear ho HB' HY'
      go_wp2_with fail
      go_ret
      exact ⟨rfl, HB2.out⟩

end Go.Proofs.YtmfimhpbdbbpoaaDoor

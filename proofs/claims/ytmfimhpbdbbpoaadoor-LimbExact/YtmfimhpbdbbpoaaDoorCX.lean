/- The law's told. -/
import Derived.Test.YtmfimhpbdbbpoaaDoorCV
import Derived.Test.YtmfimhpbdbbpoaaDoorCT
import Derived.Test.YtmfimhpbdbbpoaaDoorCQ
import Derived.Test.YtmfimhpbdbbpoaaDoorT
namespace Go.Proofs.YtmfimhpbdbbpoaaDoor
open Go.RowKit
open M
set_option linter.unusedVariables false
set_option linter.unusedSimpArgs false

/-- Bytes in memory that may be written over: a number's, the highest first. -/
def BytesFr (w : World) (base : Nat) (v : Value) (L N : Nat) : Prop :=
  ∃ g, v = .slice (some ⟨g, 0, none⟩) L L ∧ base ≤ g ∧ g < w.heap.size ∧ ∀ j, j < L → w.cell? ⟨g, L - 1 - j, none⟩ = some (.int .u8 (db N j : Nat)) ∧ w.frozen? ⟨g, L - 1 - j, none⟩ = false

set_option maxRecDepth 100000 in
set_option maxHeartbeats 1000000 in
theorem Bytes_row2 {S : Nat → Prop} (v : Value) (k N : Nat) (w : World) (h : RowX S w v k N) (hn : Nrm k N) (hk : k ≤ 8192) :
    Calls Tryd.prog 19 #[v] w fun e w' => ∃ r, e = .returned r ∧ BytesFr w' w.heap.size r ((bitLen N + 7) / 8) N ∧ Below w.heap.size w w' := by
  obtain ⟨i8, hi8⟩ := info8
  have Hi := hide hi8
  clear hi8
  have HC := hide (check_ok v k N w h hn hk)
  have HL := hide (Len_row v k N w h hn hk)
  have hbl : bitLen N ≤ 32 * k := bitLen_le (by rw [Nat.pow_mul]; exact hn.1)
  obtain ⟨_, _, ad, cap, rfl, hc, hcell⟩ := Row.old h.row
  have HR := hide hcell
  clear hcell h hn
  obtain ⟨L, hL, hL'⟩ : ∃ L : Nat, L = (bitLen N + 7) / 8 ∧ (((bitLen N : Nat) : Int) + 7).tdiv 8 = (L : Int) := ⟨(bitLen N + 7) / 8, rfl, rfl⟩
  have hL2 : (((bitLen N : Nat) : Int) + 7) / 8 = (L : Int) := by omega
  have hLk : L ≤ 4 * k := by omega
  have HLb := hide hL
  clear hL
  generalize bitLen N = b at *
  have HS0 := hide (ByteSt.start w L N)
  go_enter Tryd.func19, Tryd.ntmps19
  go_wp2_with fail
  refine HC.out.mono ?_
  rintro e w1 ⟨rfl, hw1⟩
  subst hw1
  go_wp2_with fail
  refine HL.out.mono ?_
  rintro e w2 ⟨rfl, hw2⟩
  subst hw2
  have hbb : b ≤ 262144 := by omega
  have hLb : L ≤ 32768 := by omega
  go_wp2_with (at_make; refine wpList_make_row _ rfl _ _ _ rfl 5 i8 (.int .u8 0) Tryd.underlying46 Hi.out.1 Hi.out.2.1 Hi.out.2.2.1 rfl .i64 .i64 L rfl rfl (by rw [Hi.out.2.2.2]; omega) (by omega) ?_)
  generalize w2.alloc (.cells (madeCells #[Value.int .u8 0] L) 5) = wa at *
  go_loopw [15] (fun t15 wr => ∃ i : Nat, i ≤ L ∧ t15 = .int .i64 i ∧ Hid (ByteSt w2 w2.heap.size L N i wr)) (fun t15 _ => L - (intOf t15).toNat)
  case atStart => exact ⟨0, by omega, rfl, HS0⟩
  case round =>
    obtain ⟨i, hi, rfl, HM⟩ := hrel
    by_cases hlt : i < L
    · have hlt' : (i : Int) < (L : Int) := by omega
      obtain ⟨q, hq, hq'⟩ : ∃ q : Nat, q = i / 4 ∧ (i : Int).tdiv 4 = (q : Int) := ⟨i / 4, rfl, rfl⟩
      obtain ⟨r, hr, hr'⟩ : ∃ r : Nat, r = i % 4 ∧ (i : Int).tmod 4 = (r : Int) := ⟨i % 4, rfl, rfl⟩
      have hq2 : (i : Int) / 4 = (q : Int) := by omega
      have hr2 : (i : Int) % 4 = (r : Int) := by omega
      have hqk : q < k := by omega
      have hqk' : (q : Int) < (k : Int) := by omega
      have hr4 : r < 4 := by omega
      have hiq : i = 4 * q + r := by omega
      obtain ⟨t, ht, ht'⟩ : ∃ t : Nat, t = 8 * r ∧ (r : Int) * 8 = (t : Int) := ⟨8 * r, rfl, by omega⟩
      have ht32 : t < 32 := by omega
      obtain ⟨p, hp, hp'⟩ : ∃ p : Nat, p = L - 1 - i ∧ (L : Int) - 1 - (i : Int) = (p : Int) := ⟨L - 1 - i, rfl, by omega⟩
      have hpL : (p : Int) < (L : Int) := by omega
      obtain ⟨g, o, rfl, hg, hj⟩ := HR.out (by omega)
      have hx : wr.cell? ⟨g, o + q, none⟩ = some (.int .u32 (dg N q : Nat)) := by rw [HM.out.2.1.cell (p := ⟨g, o + q, none⟩) hg]; exact hj q hqk
      have hy := (HM.out.1 i hlt).1
      have hfr := (HM.out.1 i hlt).2
      rw [← hp] at hy hfr
      rw [if_neg (by omega)] at hy
      have Hs : Hid (dg N q / 2 ^ t % 256 = db N i) := by show _ = _; rw [ht, hiq]; exact db_dg N q r hr4
      have hxl := dg_lt N q
      have HP := hide hp
      clear hj hq hr ht hp hiq
      generalize dg N q = x at *
      go_wp2_with fail
      go_roundw
      case rel => exact ⟨i + 1, by omega, by go_num, HM.out.step hlt (Nat.le_refl _) p HP.out _ (by rw [← Hs.out]; simp)⟩
      case measure => simp [intOf]; omega
    · obtain rfl : i = L := by omega
      go_wp2_with fail
      go_ret
      refine ⟨_, rfl, ?_, HM.out.2.1⟩
      rw [← HLb.out]
      refine ⟨w2.heap.size, rfl, Nat.le_refl _, ?_, fun j hj => ?_⟩
      · exact HM.out.2.2
      · refine ⟨?_, (HM.out.1 j hj).2⟩
        rw [(HM.out.1 j hj).1, if_pos hj]

/-- Bytes of one's own, to be written over. -/
def OwnB (w : World) (base : Nat) (p : Option Addr) (L : Nat) : Prop := 0 < L → ∃ g, p = some ⟨g, 0, none⟩ ∧ base ≤ g ∧ g < w.heap.size ∧ ∀ j, j < L → (∃ y : Int, w.cell? ⟨g, j, none⟩ = some (.int .u8 y)) ∧ w.frozen? ⟨g, j, none⟩ = false

theorem OwnB.later {w w' : World} {base : Nat} {p : Option Addr} {L : Nat} (h : OwnB w base p L) (hb : Below w.heap.size w w') : OwnB w' base p L := fun h0 => by
  obtain ⟨g, h1, h2, h3, h4⟩ := h h0
  refine ⟨g, h1, h2, Nat.lt_of_lt_of_le h3 hb.size, fun j hj => ⟨?_, ?_⟩⟩
  · obtain ⟨y, hy⟩ := (h4 j hj).1
    exact ⟨y, by rw [hb.cell (p := ⟨g, j, none⟩) h3]; exact hy⟩
  · rw [hb.frozen (p := ⟨g, j, none⟩) h3]; exact (h4 j hj).2

theorem OwnB.put {w : World} {base g L : Nat} (h : OwnB w base (some ⟨g, 0, none⟩) L) (i : Nat) (hi : i < L) (z : Int) : OwnB (w.setCell ⟨g, i, none⟩ (.int .u8 z)) base (some ⟨g, 0, none⟩) L := fun h0 => by
  obtain ⟨g', h1, h2, h3, h4⟩ := h h0
  simp only [Option.some.injEq, Addr.mk.injEq, and_true] at h1
  subst h1
  refine ⟨g, rfl, h2, by simpa [World.setCell] using h3, fun j hj => ⟨?_, by rw [frozen_setCell]; exact (h4 j hj).2⟩⟩
  obtain ⟨y, hy⟩ := (h4 j hj).1
  by_cases e : j = i
  · subst e; exact ⟨z, cell_setCell_eq _ _ _ _ _ hy⟩
  · exact ⟨y, by rw [cell_setCell_ne _ _ _ _ _ e]; exact hy⟩

theorem BRow.later {w w' : World} {p : Option Addr} {n B : Nat} {f : Nat → Nat} (h : BRow w p n f) (hg : ∀ g o, 0 < n → p = some ⟨g, o, none⟩ → g < w.heap.size) (hb : Below w.heap.size w w') : BRow w' p n f := fun h0 => by
  obtain ⟨g, o, h1, h2⟩ := h h0
  exact ⟨g, o, h1, fun i hi => by rw [hb.cell (p := ⟨g, o + i, none⟩) (hg g o h0 h1)]; exact h2 i hi⟩

theorem BytesFr.forms {w : World} {base : Nat} {v : Value} {L N : Nat} (h : BytesFr w base v L N) : ∃ p cap, v = .slice p L cap ∧ OwnB w base p L ∧ BRow w p L (fun i => db N (L - 1 - i)) := by
  obtain ⟨g, rfl, h2, h3, h4⟩ := h
  have h5 : ∀ i, i < L → w.cell? ⟨g, i, none⟩ = some (.int .u8 (db N (L - 1 - i) : Nat)) ∧ w.frozen? ⟨g, i, none⟩ = false := fun i hi => by
    have := h4 (L - 1 - i) (by omega)
    rwa [show L - 1 - (L - 1 - i) = i by omega] at this
  exact ⟨_, _, rfl, fun _ => ⟨g, rfl, h2, h3, fun j hj => ⟨⟨_, (h5 j hj).1⟩, (h5 j hj).2⟩⟩, fun _ => ⟨g, 0, rfl, fun i hi => by rw [Nat.zero_add]; exact (h5 i hi).1⟩⟩

theorem bytes_spec {k A : Nat} (hA : A < 4294967296 ^ k) : ∃ (L : Nat) (f : Nat → Nat), L ≤ 40000 ∧ ∀ (w : World) (v : Value), Row w v k A →
    (Calls Tryd.prog 19 #[v] w fun e w' => ∃ p cap, e = .returned (.slice p L cap) ∧ (OwnB w' w.heap.size p L ∧ BRow w' p L f) ∧ Below w.heap.size w w') ∧
    (Calls Tryd.prog 23 #[v] w fun e w' => ∃ p cap, e = .returned (.slice p L cap) ∧ BRow w' p L f ∧ Below w.heap.size w w') := by
  by_cases hc : chk k A = 0
  · obtain ⟨h1, h2⟩ := chk_ok hA hc
    have hbl : bitLen A ≤ 32 * k := bitLen_row h1
    refine ⟨(bitLen A + 7) / 8, fun i => db A ((bitLen A + 7) / 8 - 1 - i), by omega, fun w v hv => ⟨?_, ?_⟩⟩
    · refine Calls.mono (Bytes_row2 v k A w hv h1 h2) fun e w' ⟨r, g1, g2, g3⟩ => ?_
      obtain ⟨p, cap, rfl, h5, h6⟩ := g2.forms
      exact ⟨p, cap, g1, ⟨h5, h6⟩, g3⟩
    · refine Calls.mono (rBytes_ok v k A w hv h1 h2) fun e w' ⟨r, g1, g2⟩ => ?_
      obtain ⟨p, cap, rfl, h5⟩ := g2.brow
      exact ⟨p, cap, g1, h5, g2.below⟩
  · refine ⟨0, fun _ => 0, by omega, fun w v hv => ⟨?_, ?_⟩⟩
    · exact Calls.mono (Bytes_bad v k A w hv hc) fun e w' ⟨g1, g2⟩ => ⟨none, 0, g1, ⟨fun h => by omega, fun h => by omega⟩, by rw [g2]; exact Below.refl _ _⟩
    · exact Calls.mono (rBytes_bad v k A w hv hc) fun e w' ⟨g1, g2⟩ => ⟨none, 0, g1, fun h => by omega, by rw [g2]; exact Below.refl _ _⟩

theorem dec0_exists : ∀ A : Nat, ∃ L, Dec0 L A := by
  intro A
  induction A using Nat.strongRecOn with
  | ind A ih =>
    by_cases h : A < 10
    · exact ⟨1, by simpa using h, by omega, .inl rfl⟩
    · obtain ⟨L, h1, h2, h3⟩ := ih (A / 10) (by omega)
      refine ⟨L + 1, ?_, by omega, .inr ?_⟩
      · rw [Nat.pow_succ]; omega
      · rw [Nat.add_sub_cancel]
        rcases h3 with rfl | h3
        · omega
        · obtain ⟨l, rfl⟩ : ∃ l, L = l + 1 := ⟨L - 1, by omega⟩
          rw [Nat.add_sub_cancel] at h3
          rw [Nat.pow_succ]; omega

theorem text_spec {k A : Nat} (hA : A < 4294967296 ^ k) : ∃ s : ByteArray, ∀ (w : World) (v : Value), Row w v k A → GivesV 24 (.string s) #[v] w ∧ GivesV 25 (.string s) #[v] w := by
  by_cases hc : chk k A = 0
  · obtain ⟨h1, h2⟩ := chk_ok hA hc
    obtain ⟨L, hL⟩ := dec0_exists A
    refine ⟨strOf (txt L A), fun w v hv => ⟨?_, ?_⟩⟩
    · refine Calls.mono (Text_ok ⟨k, hv, h1, h2⟩) fun e w' ⟨L', g1, g2, g3⟩ => ?_
      obtain rfl := hL.uniq g2
      exact ⟨g1, g3⟩
    · refine Calls.mono (rText_ok v k A w hv h1 h2) fun e w' ⟨L', g1, g2, g3⟩ => ?_
      obtain rfl := hL.uniq g2
      exact ⟨g1, g3⟩
  · exact ⟨_, fun w v hv => ⟨gives_val (Text_bad v k A w hv hc), gives_val (rText_bad v k A w hv hc)⟩⟩

theorem check_spec (k A : Nat) : ∃ c : Int, ∀ (w : World) (v : Value), Row w v k A →
    (Calls Tryd.prog 20 #[v] w fun e w' => e = .returned (.int .i64 c) ∧ w' = w) ∧ (Calls Tryd.prog 21 #[v] w fun e w' => e = .returned (.int .i64 c) ∧ w' = w) :=
  ⟨chk k A, fun w v hv => ⟨check_any v k A w hv, rcheck_any v k A w hv⟩⟩

set_option maxRecDepth 100000 in
set_option maxHeartbeats 16000000 in
theorem told_true (a : Value) (k A : Nat) (w : World) (ha : Row w a k A) (na : Nil0 a) (hk : k ≤ 16384) :
    Calls Tryd.prog 4 #[a] w fun e w' => e = .returned (.bool true) ∧ Below w.heap.size w w' := by
  have HA := hide (And.intro ha.old na)
  obtain ⟨xS, bS, sS⟩ := small_spec ha.1
  obtain ⟨L, f, hL, sB⟩ := bytes_spec ha.1
  obtain ⟨s, sT⟩ := text_spec ha.1
  obtain ⟨c, sK⟩ := check_spec k A
  have SS := hide sS
  have SB := hide sB
  have ST := hide sT
  have SK := hide sK
  obtain ⟨_, _, ada, capa, rfl, _, _⟩ := ha
  clear na sS sB sT sK
  go_enter Tryd.func4, Tryd.ntmps4
  go_wp2_with fail
  refine (lent_any _ k A w HA.out.1 (fun cap => HA.out.2 k cap) (by omega)).mono ?_
  rintro e v1 ⟨gx, cx, rfl, hl, hb⟩
  have HX := hide (L1.start (Nat.le_refl _) HA.out.1 hl hb)
  have HBl := hide hb
  clear hl hb
  go_wp2_with fail
  refine Calls.mono (SS.out v1 (.slice (some ⟨gx, 0, none⟩) k cx) HX.out.x).1 ?_
  rintro e v2 ⟨rfl, hb1⟩
  have HZ := hide hb1
  clear hb1
  have HX' := hide (HX.out.later HZ.out)
  have HBl' := hide (HBl.out.trans (HZ.out.mono HBl.out.size))
  clear HX HBl
  have HX := HX'
  clear HX'
  have HBl := HBl'
  clear HBl'
  clear HZ
  go_wp2_with fail
  refine Calls.mono (SS.out v2 _ HX.out.a).2 ?_
  rintro e v3 ⟨rfl, hb1⟩
  have HZ := hide hb1
  clear hb1
  have HX' := hide (HX.out.later HZ.out)
  have HBl' := hide (HBl.out.trans (HZ.out.mono HBl.out.size))
  clear HX HBl
  have HX := HX'
  clear HX'
  have HBl := HBl'
  clear HBl'
  clear HZ
  go_wp2_with fail
  refine Calls.mono (SB.out v3 (.slice (some ⟨gx, 0, none⟩) k cx) HX.out.x).1 ?_
  rintro e vb ⟨pb, cb, rfl, hob, hb⟩
  obtain ⟨B, hB⟩ : ∃ B, B = v3.heap.size := ⟨_, rfl⟩
  have HB0 : Hid (w.heap.size ≤ B ∧ gx < B) := by rw [hB]; exact ⟨HBl.out.size, HX.out.ge.2⟩
  rw [← hB] at hob
  have HO := hide hob.1
  have HR0 := hide hob.2
  have HZ := hide hb
  clear hob hb hB
  have HX' := hide (HX.out.later HZ.out)
  have HBl' := hide (HBl.out.trans (HZ.out.mono HBl.out.size))
  clear HX HBl
  have HX := HX'
  clear HX'
  have HBl := HBl'
  clear HBl'
  clear HZ
  go_wp2_with fail
  refine (SK.out vb (.slice (some ⟨gx, 0, none⟩) k cx) HX.out.x).1.mono ?_
  rintro e vk ⟨rfl, hw⟩
  have hw1 := hw.symm
  subst hw1
  go_wp2_with fail
  refine (num_any c vb).mono ?_
  rintro e vk ⟨rfl, hw⟩
  have hw1 := hw.symm
  subst hw1
  go_wp2_with fail
  refine (SK.out vb _ HX.out.a).2.mono ?_
  rintro e vk ⟨rfl, hw⟩
  have hw1 := hw.symm
  subst hw1
  go_wp2_with fail
  refine Calls.mono (SB.out vb _ HX.out.a).2 ?_
  rintro e vc ⟨pc, cc, rfl, hbr, hb⟩
  have HE := hide (eqBytes_same pb pc L cb cc f vc (by omega) (fun h0 => by obtain ⟨g, e1, _, h3, _⟩ := HO.out h0; obtain ⟨g', o', e2, h4⟩ := HR0.out h0; rw [e1] at e2; simp only [Option.some.injEq, Addr.mk.injEq, and_true] at e2; obtain ⟨rfl, rfl⟩ := e2; exact ⟨g, 0, e1, fun i hi => by rw [hb.cell (p := ⟨g, 0 + i, none⟩) h3]; exact h4 i hi⟩) hbr)
  have HO2 := hide (HO.out.later hb)
  have HZ := hide hb
  clear hbr hb HO HR0
  have HX' := hide (HX.out.later HZ.out)
  have HBl' := hide (HBl.out.trans (HZ.out.mono HBl.out.size))
  clear HX HBl
  have HX := HX'
  clear HX'
  have HBl := HBl'
  clear HBl'
  clear HZ
  go_wp2_with fail
  refine HE.out.mono ?_
  rintro e vd ⟨rfl, nd, rfl⟩
  have HO := hide (HO2.out.later (below_drewN (Below.refl _ _) nd))
  have HZ : Hid (Below vc.heap.size vc (vc.drewN nd)) := below_drewN (Below.refl _ _) nd
  clear HE HO2
  generalize vc.drewN nd = ve at *
  have HX' := hide (HX.out.later HZ.out)
  have HBl' := hide (HBl.out.trans (HZ.out.mono HBl.out.size))
  clear HX HBl
  have HX := HX'
  clear HX'
  have HBl := HBl'
  clear HBl'
  clear HZ
  by_cases hk1 : k < 300
  · have hdec : decide ((k : Int) < 300) = true := decide_eq_true (by omega)
    have hk2 : (k : Int) < 300 := by omega
    clear hk1
    go_wp2_with fail
    refine Calls.mono (ST.out ve (.slice (some ⟨gx, 0, none⟩) k cx) HX.out.x).1 ?_
    rintro e v4 ⟨rfl, hb1⟩
    have HZ := hide hb1
    clear hb1
    have HX' := hide (HX.out.later HZ.out)
    have HO' := hide (HO.out.later HZ.out)
    have HBl' := hide (HBl.out.trans (HZ.out.mono HBl.out.size))
    clear HX HO HBl
    have HX := HX'
    clear HX'
    have HO := HO'
    clear HO'
    have HBl := HBl'
    clear HBl'
    clear HZ
    go_wp2_with fail
    refine Calls.mono (ST.out v4 _ HX.out.a).2 ?_
    rintro e v5 ⟨rfl, hb1⟩
    have HZ := hide hb1
    clear hb1
    have HX' := hide (HX.out.later HZ.out)
    have HO' := hide (HO.out.later HZ.out)
    have HBl' := hide (HBl.out.trans (HZ.out.mono HBl.out.size))
    clear HX HO HBl
    have HX := HX'
    clear HX'
    have HO := HO'
    clear HO'
    have HBl := HBl'
    clear HBl'
    clear HZ
    go_wp2_with fail
    go_loopw [10] (fun t10 wr => ∃ i : Nat, i ≤ L ∧ t10 = .int .i64 i ∧ Hid (OwnB wr B pb L ∧ Below w.heap.size w wr ∧ L1 w.heap.size (.slice ada k capa) k A gx cx wr)) (fun t10 _ => L - (intOf t10).toNat)
    case atStart => exact ⟨0, by omega, rfl, HO.out, HBl.out, HX.out⟩
    case round =>
      obtain ⟨i, hi, rfl, HI⟩ := hrel
      by_cases hlt : i < L
      · have hlt' : (i : Int) < (L : Int) := by omega
        obtain ⟨g, rfl, hge, hgl, hcl⟩ := HI.out.1 (by omega)
        obtain ⟨⟨y, hy⟩, hf⟩ := hcl i hlt
        have HGE := hide hge
        clear hcl hge hgl
        go_wp2_with fail
        go_roundw
        case rel =>
          refine ⟨i + 1, by omega, by go_num, ?_, HI.out.2.1.setCell (Nat.le_trans HB0.out.1 HGE.out) _, ?_⟩
          · exact HI.out.1.put i hlt _
          · exact HI.out.2.2.only ((Only.refl g 0 L _).setCell i (by omega) hlt _) (by have := HB0.out.2; have := HGE.out; omega) (Nat.le_trans HB0.out.1 HGE.out)
        case measure => simp [intOf]; omega
      · obtain rfl : i = L := by omega
        have HX := hide HI.out.2.2
        have HBl := hide HI.out.2.1
        clear HI
        go_wp2_with fail
        refine (back_any _ k A w.heap.size gx cx wr HX.out.ra (by omega) HX.out.lx).mono ?_
        rintro e v99 ⟨rfl, ho⟩
        have HB2 := hide (HBl.out.trans (ho.below HX.out.ge.1 HBl.out.size))
        clear ho HBl
        go_wp2_with fail
        go_ret
        exact ⟨rfl, HB2.out⟩
  · have hdec : decide ((k : Int) < 300) = false := decide_eq_false (by omega)
    clear hk1
    have HK := hide (SK.out ve _ HX.out.a).2
    by_cases hc0 : c = 0
    · subst hc0
      go_wp2_with fail
      refine HK.out.mono ?_
      rintro e wk ⟨rfl, hw⟩
      have hw1 := hw.symm
      subst hw1
      clear HK
      go_wp2_with fail
      go_loopw [10] (fun t10 wr => ∃ i : Nat, i ≤ L ∧ t10 = .int .i64 i ∧ Hid (OwnB wr B pb L ∧ Below w.heap.size w wr ∧ L1 w.heap.size (.slice ada k capa) k A gx cx wr)) (fun t10 _ => L - (intOf t10).toNat)
      case atStart => exact ⟨0, by omega, rfl, HO.out, HBl.out, HX.out⟩
      case round =>
        obtain ⟨i, hi, rfl, HI⟩ := hrel
        by_cases hlt : i < L
        · have hlt' : (i : Int) < (L : Int) := by omega
          obtain ⟨g, rfl, hge, hgl, hcl⟩ := HI.out.1 (by omega)
          obtain ⟨⟨y, hy⟩, hf⟩ := hcl i hlt
          have HGE := hide hge
          clear hcl hge hgl
          go_wp2_with fail
          go_roundw
          case rel =>
            refine ⟨i + 1, by omega, by go_num, ?_, HI.out.2.1.setCell (Nat.le_trans HB0.out.1 HGE.out) _, ?_⟩
            · exact HI.out.1.put i hlt _
            · exact HI.out.2.2.only ((Only.refl g 0 L _).setCell i (by omega) hlt _) (by have := HB0.out.2; have := HGE.out; omega) (Nat.le_trans HB0.out.1 HGE.out)
          case measure => simp [intOf]; omega
        · obtain rfl : i = L := by omega
          have HX := hide HI.out.2.2
          have HBl := hide HI.out.2.1
          clear HI
          go_wp2_with fail
          refine (back_any _ k A w.heap.size gx cx wr HX.out.ra (by omega) HX.out.lx).mono ?_
          rintro e v99 ⟨rfl, ho⟩
          have HB2 := hide (HBl.out.trans (ho.below HX.out.ge.1 HBl.out.size))
          clear ho HBl
          go_wp2_with fail
          go_ret
          exact ⟨rfl, HB2.out⟩
    · have h0 : (c == 0) = false := by rw [beq_eq_false_iff_ne]; exact hc0
      have h1 : (c != 0) = true := by rw [bne_iff_ne]; exact hc0
      go_wp2_with fail
      refine HK.out.mono ?_
      rintro e wk ⟨rfl, hw⟩
      have hw1 := hw.symm
      subst hw1
      clear HK
      go_wp2_with fail
      refine Calls.mono (ST.out ve (.slice (some ⟨gx, 0, none⟩) k cx) HX.out.x).1 ?_
      rintro e v4 ⟨rfl, hb1⟩
      have HZ := hide hb1
      clear hb1
      have HX' := hide (HX.out.later HZ.out)
      have HO' := hide (HO.out.later HZ.out)
      have HBl' := hide (HBl.out.trans (HZ.out.mono HBl.out.size))
      clear HX HO HBl
      have HX := HX'
      clear HX'
      have HO := HO'
      clear HO'
      have HBl := HBl'
      clear HBl'
      clear HZ
      go_wp2_with fail
      refine Calls.mono (ST.out v4 _ HX.out.a).2 ?_
      rintro e v5 ⟨rfl, hb1⟩
      have HZ := hide hb1
      clear hb1
      have HX' := hide (HX.out.later HZ.out)
      have HO' := hide (HO.out.later HZ.out)
      have HBl' := hide (HBl.out.trans (HZ.out.mono HBl.out.size))
      clear HX HO HBl
      have HX := HX'
      clear HX'
      have HO := HO'
      clear HO'
      have HBl := HBl'
      clear HBl'
      clear HZ
      go_wp2_with fail
      go_loopw [10] (fun t10 wr => ∃ i : Nat, i ≤ L ∧ t10 = .int .i64 i ∧ Hid (OwnB wr B pb L ∧ Below w.heap.size w wr ∧ L1 w.heap.size (.slice ada k capa) k A gx cx wr)) (fun t10 _ => L - (intOf t10).toNat)
      case atStart => exact ⟨0, by omega, rfl, HO.out, HBl.out, HX.out⟩
      case round =>
        obtain ⟨i, hi, rfl, HI⟩ := hrel
        by_cases hlt : i < L
        · have hlt' : (i : Int) < (L : Int) := by omega
          obtain ⟨g, rfl, hge, hgl, hcl⟩ := HI.out.1 (by omega)
          obtain ⟨⟨y, hy⟩, hf⟩ := hcl i hlt
          have HGE := hide hge
          clear hcl hge hgl
          go_wp2_with fail
          go_roundw
          case rel =>
            refine ⟨i + 1, by omega, by go_num, ?_, HI.out.2.1.setCell (Nat.le_trans HB0.out.1 HGE.out) _, ?_⟩
            · exact HI.out.1.put i hlt _
            · exact HI.out.2.2.only ((Only.refl g 0 L _).setCell i (by omega) hlt _) (by have := HB0.out.2; have := HGE.out; omega) (Nat.le_trans HB0.out.1 HGE.out)
          case measure => simp [intOf]; omega
        · obtain rfl : i = L := by omega
          have HX := hide HI.out.2.2
          have HBl := hide HI.out.2.1
          clear HI
          go_wp2_with fail
          refine (back_any _ k A w.heap.size gx cx wr HX.out.ra (by omega) HX.out.lx).mono ?_
          rintro e v99 ⟨rfl, ho⟩
          have HB2 := hide (HBl.out.trans (ho.below HX.out.ge.1 HBl.out.size))
          clear ho HBl
          go_wp2_with fail
          go_ret
          exact ⟨rfl, HB2.out⟩

end Go.Proofs.YtmfimhpbdbbpoaaDoor

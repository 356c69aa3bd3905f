/- leading, goDown. -/
import Derived.Test.YtmfimhpbdbbpoaaDoorT
import Derived.Test.YtmfimhpbdbbpoaaDoorZ
import Derived.Test.YtmfimhpbdbbpoaaDoorBC
import Derived.Test.YtmfimhpbdbbpoaaDoorAB
import Derived.Deep.RegionHeldLaw
import Derived.Deep.RegionHeld3
/- Small. -/
namespace Go.Proofs.YtmfimhpbdbbpoaaDoor
open Go.RowKit
open M
set_option linter.unusedVariables false
set_option linter.unusedSimpArgs false

theorem copy_new_t {S : Nat → Prop} (w : World) (v : Value) (k N m g : Nat) (dT sT ty bt : TypeId) (hu : Tryd.prog.underlying dT = some (.slice 24)) (h : RowX S w v k N) (hkm : k ≤ m) (hg : w.heap[g]? = some (.cells (limbsV m 0).toArray bt (0, 0))) :
    ∃ w', (Builtin.copy_ #[dT, sT] ty #[.slice (some ⟨g, 0, none⟩) m m, v]).run Tryd.prog w = .ok (goInt k) w' ∧ w'.heap[g]? = some (.cells (limbsV m N).toArray bt (0, 0)) ∧ Below g w w' := by
  obtain ⟨hN, hk, ad, cap, rfl, hc, hcell⟩ := h
  have hmin : (limbsV k N).length = Nat.min k m := by rw [limbsV_length]; exact (Nat.min_eq_left hkm).symm
  have hsp : (limbsV m 0).take 0 ++ limbsV k N ++ (limbsV m 0).drop (0 + (limbsV k N).length) = limbsV m N := by
    apply List.ext_getElem?
    intro j
    simp only [List.take_zero, List.nil_append, limbsV_length, Nat.zero_add]
    rcases Nat.lt_or_ge j k with h | h
    · rw [List.getElem?_append_left (by simpa using h), limbsV_get k N j h, limbsV_get m N j (by omega)]
    · rw [List.getElem?_append_right (by simpa using h), limbsV_length, List.getElem?_drop, show k + (j - k) = j from by omega]
      rcases Nat.lt_or_ge j m with h1 | h1
      · rw [limbsV_get m 0 j h1, limbsV_get m N j h1, dg_high hN h, dg_zero]
      · rw [List.getElem?_eq_none (by simpa using h1), List.getElem?_eq_none (by simpa using h1)]
  by_cases h0 : k = 0
  · subst h0
    have hz : N = 0 := by simpa using hN
    subst hz
    exact ⟨w, run_copy_none w dT sT ty _ _ _ _ _ _ _ hu size32 (by simp), hg, Below.refl _ _⟩
  · obtain ⟨g', o, rfl, _, hj⟩ := hcell (by omega)
    have hr := run_copy_row (P := Tryd.prog) w dT sT ty 24 g 0 m m ⟨g', o, none⟩ k cap (limbsV m 0).toArray bt (limbsV k N) hu size32 hg hmin ?_ (by simpa using hkm) (limbsV_cell k N)
    · rw [limbsV_length] at hr
      refine ⟨_, hr, ?_, below_setRow (Below.refl _ _) (Nat.le_refl _) _⟩
      rw [setRow_heap w g _ _ _ _ hg]
      rw [limbsV_length] at hsp
      simp only [Option.some.injEq, Obj.cells.injEq, and_true]
      exact congrArg List.toArray hsp
    · intro j u hju
      have hjk : j < k := by
        rcases Nat.lt_or_ge j k with h | h
        · exact h
        · rw [List.getElem?_eq_none (by simpa using h)] at hju; cases hju
      rw [limbsV_get k N j hjk] at hju
      rw [← hju, show (⟨g', o, none⟩ : Addr).add j = ⟨g', o + j, none⟩ from by unfold Addr.add; split <;> simp_all]
      exact hj j hjk

theorem limbs_two (N : Nat) : (limbsV 2 N).toArray = #[.int .u32 (dg N 0 : Nat), .int .u32 (dg N 1 : Nat)] := rfl

set_option maxRecDepth 100000 in
set_option maxHeartbeats 1000000 in
theorem Small_row {S : Nat → Prop} (v : Value) (k N : Nat) (w : World) (h : RowX S w v k N) (hn : Nrm k N) (hk : k ≤ 2) :
    Calls Tryd.prog 17 #[v] w fun e w' => e = .returned (.tuple #[.int .u64 N, .bool true]) ∧ Below w.heap.size w w' := by
  have HC := hide (check_ok v k N w h hn (by omega))
  have hb1 : Below w.heap.size w (w.alloc (.cells (limbsV 2 0).toArray 71)) := (Below.refl _ _).alloc (Nat.le_refl _) _
  obtain ⟨w', hrun, hg', hb'⟩ := copy_new_t (w.alloc (.cells (limbsV 2 0).toArray 71)) v k N 2 w.heap.size 23 32 3 71 Tryd.underlying23 (h.below hb1) hk (heap_alloc_new w _)
  have e0 : (limbsV 2 0).toArray = #[.int .u32 0, .int .u32 0] := by rw [limbs_two, dg_zero, dg_zero]; rfl
  rw [limbs_two] at hg'
  rw [e0] at hrun
  have HB : Hid (Below w.heap.size w w') := hb1.trans hb'
  have hc0 : w'.cell? ⟨w.heap.size, 0, none⟩ = some (.int .u32 (dg N 0 : Nat)) := by rw [cell_of_row _ _ 0 _ _ (0, 0) hg']; rfl
  have hc1 : w'.cell? ⟨w.heap.size, 1, none⟩ = some (.int .u32 (dg N 1 : Nat)) := by rw [cell_of_row _ _ 1 _ _ (0, 0) hg']; rfl
  have HE : Hid (dg N 1 * 4294967296 + dg N 0 = N) := by
    have hlt : N < 4294967296 ^ 2 := Nat.lt_of_lt_of_le hn.1 (Nat.pow_le_pow_right (by omega) hk)
    show _ = _
    unfold dg
    simp
    omega
  have hd0 := dg_lt N 0
  have hd1 := dg_lt N 1
  obtain ⟨_, _, ad, cap, rfl, hc, _⟩ := h
  clear hg' hb' hb1 hn e0
  generalize dg N 0 = x at *
  generalize dg N 1 = y at *
  have ho1 := or_hi y x hd1 hd0
  have ho2 := or_hi_w y x hd1 hd0
  have hk2 : ¬ (2 : Int) < (k : Int) := by omega
  go_enter Tryd.func17, Tryd.ntmps17
  go_wp2_with fail
  refine HC.out.mono ?_
  rintro e w1 ⟨rfl, hw1⟩
  subst hw1
  go_wp2_with fail
  go_ret2
  exact ⟨by rw [← HE.out]; rfl, HB.out⟩

end Go.Proofs.YtmfimhpbdbbpoaaDoor

namespace Go.Proofs.YtmfimhpbdbbpoaaDoor
open Go.RowKit
open M
set_option linter.unusedVariables false
set_option linter.unusedSimpArgs false

theorem Lem.rows_of (X Y K x0 y0 : Nat) (w : World) (hx : X / K = x0) (hy : Y / K = y0) (hK : 0 < K) (hX : x0 < 4611686018427387904) (hYX : Y ≤ X) :
    Calls Tryd.prog 94 #[.int .i64 x0, .int .i64 y0] w fun e w' => ∃ fu fv su sv : Int, e = .returned (.tuple #[.agg #[.int .i64 fu, .int .i64 fv], .agg #[.int .i64 su, .int .i64 sv]]) ∧ (fv = 0 ∨ Good X Y fu fv su sv) ∧ Below w.heap.size w w' := by
  subst hx hy
  exact rowsOf_any X Y K w hK hX hYX

set_option maxRecDepth 100000 in
set_option maxHeartbeats 1000000 in
theorem leading_any {v : Value} {A : Nat} (n x0 : Nat) (w : World) (h : Num w v A) (hx : A / 2 ^ n = x0) (hl : x0 < 4611686018427387904) (hn : n < 1000000) :
    Calls Tryd.prog 95 #[v, .int .i64 n] w fun e w' => e = .returned (.int .i64 x0) ∧ Below w.heap.size w w' := by
  obtain ⟨k, hrow, hnrm, hk⟩ := h
  have hs := bitLen_spec A
  have hb32 : bitLen A ≤ 32 * k := bitLen_le (by rw [Nat.pow_mul]; exact hnrm.1)
  have HL := hide (Len_row v k A w hrow hnrm hk)
  have HR := hide (And.intro hrow (And.intro hx (And.intro hnrm hs)))
  clear hrow hnrm hx hs
  generalize bitLen A = b at *
  by_cases hbn : b ≤ n
  · have hbn' : (b : Int) ≤ (n : Int) := by omega
    have h0 : x0 = 0 := by
      rw [← HR.out.2.1]
      exact Nat.div_eq_of_lt (Nat.lt_of_lt_of_le HR.out.2.2.2.1 (Nat.pow_le_pow_right (by omega) hbn))
    subst h0
    clear HR
    go_enter Tryd.func95, Tryd.ntmps95
    go_wp2_with fail
    refine HL.out.mono ?_
    rintro e w1 ⟨rfl, rfl⟩
    go_wp2_with fail
    go_ret
    exact ⟨rfl, Below.refl _ _⟩
  · have hbn' : ¬ (b : Int) ≤ (n : Int) := by omega
    go_enter Tryd.func95, Tryd.ntmps95
    go_wp2_with fail
    refine HL.out.mono ?_
    rintro e w1 ⟨rfl, rfl⟩
    go_wp2_with fail
    refine (shiftDown_any v k A n w1 HR.out.1 (by omega)).mono ?_
    rintro e w2 ⟨r, rfl, m, hr, hm, _, hb⟩
    rw [HR.out.2.1] at hr hm
    have HM := hide (And.intro hr (And.intro hm (And.intro (hm.le (m := 2) (by omega)) hb)))
    clear hr hm hb
    go_wp2_with fail
    refine (Small_row r m x0 w2 HM.out.1 HM.out.2.1 HM.out.2.2.1).mono ?_
    rintro e w3 ⟨rfl, hb⟩
    have HB := hide hb
    clear hb
    go_wp2_with fail
    go_ret
    exact ⟨rfl, HM.out.2.2.2.trans (HB.out.mono HM.out.2.2.2.size)⟩

theorem mix_num {v u : Value} {X Y P : Nat} {fu fv : Int} {w : World} (h : Num w v X) (h' : Num w u Y) (hO : Opp fu fv) (hP : fu * X + fv * Y = P) (hPX : P ≤ X) :
    Calls Tryd.prog 96 #[v, u, .agg #[.int .i64 fu, .int .i64 fv]] w fun e w' => ∃ r, e = .returned r ∧ Num w' r P ∧ Below w.heap.size w w' := by
  have hf := h.fits.le hPX
  obtain ⟨k, h1, h2, h3⟩ := h
  obtain ⟨m, g1, g2, g3⟩ := h'
  exact (mix_any v u k X m Y P fu fv w h1 g1 hO hP (Nat.lt_of_le_of_lt hPX h2.1)).mono fun e w' ⟨r, he, n, hr, hn, _, hb⟩ => ⟨r, he, ⟨n, hr.row, hn, hn.fits.2 hf⟩, hb⟩

/-- What goDown tells. -/
def Down (w : World) (r s : Value) (X Y : Nat) : Prop := ∃ P Q, Num w r P ∧ Num w s Q ∧ Q ≤ P ∧ Q < Y ∧ Nat.gcd P Q = Nat.gcd X Y

set_option maxRecDepth 100000 in
set_option maxHeartbeats 2000000 in
theorem goDown_num {v u : Value} {X Y : Nat} {w : World} (h : Num w v X) (h' : Num w u Y) (hYX : Y ≤ X) (hY : 0 < Y) :
    Calls Tryd.prog 83 #[v, u] w fun e w' => ∃ r s, e = .returned (.tuple #[r, s]) ∧ Down w' r s X Y ∧ Below w.heap.size w w' := by
  have H1 := hide (And.intro h h')
  have HYX := hide hYX
  have HY0 := hide hY
  clear h h' hYX hY
  obtain ⟨k, hrow, hnrm, hk⟩ := H1.out.1
  have HS := hide (bitLen_spec X)
  have hb32 : bitLen X ≤ 32 * k := bitLen_le (by rw [Nat.pow_mul]; exact hnrm.1)
  have HL := hide (Len_row v k X w hrow hnrm hk)
  clear hrow hnrm
  generalize bitLen X = bl at *
  by_cases hbl : bl ≤ 62
  · have hmx : ¬ (0 : Int) < (bl : Int) - 62 := by omega
    have hmx2 : (bl : Int) - 62 ≤ 0 := by omega
    have hnl : 0 < 1000000 := by omega
    obtain ⟨x0, hx0⟩ : ∃ x0, X / 2 ^ 0 = x0 := ⟨_, rfl⟩
    obtain ⟨y0, hy0⟩ : ∃ y0, Y / 2 ^ 0 = y0 := ⟨_, rfl⟩
    have hxl : x0 < 4611686018427387904 := by
      rw [← hx0]
      refine Nat.div_lt_of_lt_mul (Nat.lt_of_lt_of_le HS.out.1 ?_)
      rw [show (4611686018427387904 : Nat) = 2 ^ 62 from by decide, ← Nat.pow_add]
      exact Nat.pow_le_pow_right (by omega) (by omega)
    have hyl : y0 < 4611686018427387904 := Nat.lt_of_le_of_lt (by rw [← hx0, ← hy0]; exact Nat.div_le_div_right HYX.out) hxl
    have Hxy := hide (And.intro hx0 hy0)
    clear hx0 hy0
    go_enter Tryd.func83, Tryd.ntmps83
    go_wp2_with fail
    refine HL.out.mono ?_
    rintro e w1 ⟨rfl, rfl⟩
    go_wp2_with fail
    refine (leading_any 0 x0 _ H1.out.1 Hxy.out.1 hxl hnl).mono ?_
    rintro e w2 ⟨rfl, hb⟩
    have H2 : Hid (Num w2 v X ∧ Num w2 u Y ∧ Below w1.heap.size w1 w2) := ⟨H1.out.1.below hb, H1.out.2.below hb, hb⟩
    clear hb
    go_wp2_with fail
    refine (leading_any 0 y0 _ H2.out.2.1 Hxy.out.2 hyl hnl).mono ?_
    rintro e w3 ⟨rfl, hb⟩
    have H3 : Hid (Num w3 v X ∧ Num w3 u Y ∧ Below w1.heap.size w1 w3) := ⟨H2.out.1.below hb, H2.out.2.1.below hb, H2.out.2.2.trans (hb.mono H2.out.2.2.size)⟩
    clear hb H2
    go_wp2_with fail
    refine (Lem.rows_of X Y (2 ^ 0) x0 y0 _ Hxy.out.1 Hxy.out.2 (Nat.two_pow_pos _) hxl HYX.out).mono ?_
    rintro e w4 ⟨fu, fv, su, sv, rfl, hgood, hb⟩
    have H4 : Hid (Num w4 v X ∧ Num w4 u Y ∧ Below w1.heap.size w1 w4) := ⟨H3.out.1.below hb, H3.out.2.1.below hb, H3.out.2.2.trans (hb.mono H3.out.2.2.size)⟩
    have HG := hide hgood
    clear hb H3 hgood
    by_cases hfv : fv = 0
    · subst hfv
      go_wp2_with fail
      have hbw : Below w4.heap.size w4 ((w4.alloc (.cells #[.int .i64 fu, .int .i64 0] 100)).alloc (.cells #[.int .i64 su, .int .i64 sv] 100)) := ((Below.refl _ _).alloc (Nat.le_refl _) _).alloc (by simp) _
      have H5 : Hid (Num ((w4.alloc (.cells #[.int .i64 fu, .int .i64 0] 100)).alloc (.cells #[.int .i64 su, .int .i64 sv] 100)) v X ∧ Num ((w4.alloc (.cells #[.int .i64 fu, .int .i64 0] 100)).alloc (.cells #[.int .i64 su, .int .i64 sv] 100)) u Y ∧ Below w1.heap.size w1 ((w4.alloc (.cells #[.int .i64 fu, .int .i64 0] 100)).alloc (.cells #[.int .i64 su, .int .i64 sv] 100))) := ⟨H4.out.1.below hbw, H4.out.2.1.below hbw, H4.out.2.2.trans (hbw.mono H4.out.2.2.size)⟩
      clear hbw H4 HG
      generalize (w4.alloc (.cells #[.int .i64 fu, .int .i64 0] 100)).alloc (.cells #[.int .i64 su, .int .i64 sv] 100) = w5 at *
      obtain ⟨k5, r5, n5, l5⟩ := H5.out.1
      obtain ⟨m5, s5, o5, t5⟩ := H5.out.2.1
      have HD := hide (divide_any v u k5 X m5 Y w5 r5 s5 n5 o5 HY0.out (by omega))
      clear r5 s5 n5 o5
      refine HD.out.mono ?_
      rintro e w6 ⟨q, r, rfl, ⟨_, ⟨nr, hr, hrn⟩⟩, hb⟩
      have H6 : Hid (Num w6 u Y ∧ Num w6 r (X % Y) ∧ Below w1.heap.size w1 w6) := ⟨H5.out.2.1.below hb, ⟨nr, hr, hrn, hrn.fits.2 (H5.out.1.fits.le (Nat.mod_le _ _))⟩, H5.out.2.2.trans (hb.mono H5.out.2.2.size)⟩
      clear hb hr hrn H5 HD
      go_wp2_with fail
      go_ret2
      have hml := Nat.mod_lt X HY0.out
      exact ⟨u, r, rfl, ⟨Y, X % Y, H6.out.1, H6.out.2.1, by omega, hml, by rw [Nat.gcd_comm, ← Nat.gcd_rec, Nat.gcd_comm]⟩, H6.out.2.2⟩
    · have hfv2 : (fv == 0) = false := by simp [hfv]
      have HG2 : Hid (Good X Y fu fv su sv) := HG.out.resolve_left hfv
      go_wp2_with fail
      have hbw : Below w4.heap.size w4 ((w4.alloc (.cells #[.int .i64 fu, .int .i64 fv] 100)).alloc (.cells #[.int .i64 su, .int .i64 sv] 100)) := ((Below.refl _ _).alloc (Nat.le_refl _) _).alloc (by simp) _
      have H5 : Hid (Num ((w4.alloc (.cells #[.int .i64 fu, .int .i64 fv] 100)).alloc (.cells #[.int .i64 su, .int .i64 sv] 100)) v X ∧ Num ((w4.alloc (.cells #[.int .i64 fu, .int .i64 fv] 100)).alloc (.cells #[.int .i64 su, .int .i64 sv] 100)) u Y ∧ Below w1.heap.size w1 ((w4.alloc (.cells #[.int .i64 fu, .int .i64 fv] 100)).alloc (.cells #[.int .i64 su, .int .i64 sv] 100)) ∧ Duo w4.heap.size ((w4.alloc (.cells #[.int .i64 fu, .int .i64 fv] 100)).alloc (.cells #[.int .i64 su, .int .i64 sv] 100)) fu fv su sv) := ⟨H4.out.1.below hbw, H4.out.2.1.below hbw, H4.out.2.2.trans (hbw.mono H4.out.2.2.size), by simp, by simp, by simp, by simp⟩
      clear hbw H4 HG
      generalize (w4.alloc (.cells #[.int .i64 fu, .int .i64 fv] 100)).alloc (.cells #[.int .i64 su, .int .i64 sv] 100) = w5 at *
      generalize w4.heap.size = nb at *
      obtain ⟨c0, c1, c2, c3⟩ := H5.out.2.2.2
      obtain ⟨P, Q, hP⟩ : ∃ P Q : Nat, Hid (Opp fu fv ∧ Opp su sv ∧ fu * X + fv * Y = P ∧ su * X + sv * Y = Q ∧ Q < P ∧ P ≤ Y ∧ Nat.gcd P Q = Nat.gcd X Y) := by
        obtain ⟨O1, O2, P, Q, h⟩ := HG2.out
        exact ⟨P, Q, O1, O2, h⟩
      have HM1 : Hid (∀ w', Num w' v X → Num w' u Y → Calls Tryd.prog 96 #[v, u, .agg #[.int .i64 fu, .int .i64 fv]] w' fun e w2 => ∃ r, e = .returned r ∧ Num w2 r P ∧ Below w'.heap.size w' w2) := fun w' h h' => mix_num h h' hP.out.1 hP.out.2.2.1 (Nat.le_trans hP.out.2.2.2.2.2.1 HYX.out)
      have HM2 : Hid (∀ w', Num w' v X → Num w' u Y → Calls Tryd.prog 96 #[v, u, .agg #[.int .i64 su, .int .i64 sv]] w' fun e w2 => ∃ r, e = .returned r ∧ Num w2 r Q ∧ Below w'.heap.size w' w2) := fun w' h h' => mix_num h h' hP.out.2.1 hP.out.2.2.2.1 (Nat.le_trans (Nat.le_of_lt hP.out.2.2.2.2.1) (Nat.le_trans hP.out.2.2.2.2.2.1 HYX.out))
      refine wp_region_held_drew (S := fun w' => w'.cell? ⟨nb, 0, none⟩ = some (.int .i64 fu) ∧ w'.cell? ⟨nb, 1, none⟩ = some (.int .i64 fv) ∧ w'.cell? ⟨nb + 1, 0, none⟩ = some (.int .i64 su) ∧ w'.cell? ⟨nb + 1, 1, none⟩ = some (.int .i64 sv)) (by kernel_rfl) ⟨c0, c1, c2, c3⟩ (fun hHeld => ?_)
      refine wpAnyH_take (i := 0) (v := ?_) rfl (by kernel_rfl) (by kernel_rfl) (by kernel_rfl) (fun _ _ _ h => h) (Or.inl ⟨by rfl, ?_⟩) hHeld ?_
      rotate_left
      · (intro w hSw; (try dsimp only at hSw); obtain ⟨s0, s1, s2, s3⟩ := hSw; (go_simp <;> with_reducible rfl))
      simp only [Act.put, List.getElem_toArray, List.getElem_cons_zero, List.getElem_cons_succ, List.setIfInBounds_toArray, List.set_cons_zero, List.set_cons_succ]
      refine wpAnyH_take (i := 1) (v := ?_) rfl (by kernel_rfl) (by kernel_rfl) (by kernel_rfl) (fun _ _ _ h => h) (Or.inl ⟨by rfl, ?_⟩) hHeld ?_
      rotate_left
      · (intro w hSw; (try dsimp only at hSw); obtain ⟨s0, s1, s2, s3⟩ := hSw; (go_simp <;> with_reducible rfl))
      simp only [Act.put, List.getElem_toArray, List.getElem_cons_zero, List.getElem_cons_succ, List.setIfInBounds_toArray, List.set_cons_zero, List.set_cons_succ]
      refine wpAnyH_take (i := 2) (v := ?_) rfl (by kernel_rfl) (by kernel_rfl) (by kernel_rfl) (fun _ _ _ h => h) (Or.inl ⟨by rfl, ?_⟩) hHeld ?_
      rotate_left
      · (intro w hSw; (try dsimp only at hSw); obtain ⟨s0, s1, s2, s3⟩ := hSw; (go_simp <;> with_reducible rfl))
      simp only [Act.put, List.getElem_toArray, List.getElem_cons_zero, List.getElem_cons_succ, List.setIfInBounds_toArray, List.set_cons_zero, List.set_cons_succ]
      refine wpAnyH_take (i := 4) (v := ?_) rfl (by kernel_rfl) (by kernel_rfl) (by kernel_rfl) (fun _ _ _ h => h) (Or.inl ⟨by rfl, ?_⟩) hHeld ?_
      rotate_left
      · (intro w hSw; (try dsimp only at hSw); obtain ⟨s0, s1, s2, s3⟩ := hSw; (go_simp <;> with_reducible rfl))
      simp only [Act.put, List.getElem_toArray, List.getElem_cons_zero, List.getElem_cons_succ, List.setIfInBounds_toArray, List.set_cons_zero, List.set_cons_succ]
      refine wpAnyH_take (i := 5) (v := ?_) rfl (by kernel_rfl) (by kernel_rfl) (by kernel_rfl) (fun _ _ _ h => h) (Or.inl ⟨by rfl, ?_⟩) hHeld ?_
      rotate_left
      · (intro w hSw; (try dsimp only at hSw); obtain ⟨s0, s1, s2, s3⟩ := hSw; (go_simp <;> with_reducible rfl))
      simp only [Act.put, List.getElem_toArray, List.getElem_cons_zero, List.getElem_cons_succ, List.setIfInBounds_toArray, List.set_cons_zero, List.set_cons_succ]
      refine wpAnyH_take (i := 6) (v := ?_) rfl (by kernel_rfl) (by kernel_rfl) (by kernel_rfl) (fun _ _ _ h => h) (Or.inl ⟨by rfl, ?_⟩) hHeld ?_
      rotate_left
      · (intro w hSw; (try dsimp only at hSw); obtain ⟨s0, s1, s2, s3⟩ := hSw; (go_simp <;> with_reducible rfl))
      simp only [Act.put, List.getElem_toArray, List.getElem_cons_zero, List.getElem_cons_succ, List.setIfInBounds_toArray, List.set_cons_zero, List.set_cons_succ]
      refine wpAnyH_ready (rs := [3]) (by kernel_rfl) (by simp) ?_
      refine AllReadyH.cons rfl (fun K hK => ?_) AllReadyH.nil
      go_simp
      refine (HM1.out _ (H5.out.1.below (Below.refl _ _).drew) (H5.out.2.1.below (Below.refl _ _).drew)).mono ?_
      rintro e w6 ⟨r, rfl, hr, hb⟩
      have H6 : Hid (Num w6 v X ∧ Num w6 u Y ∧ Num w6 r P ∧ Below w1.heap.size w1 w6 ∧ Duo nb w6 fu fv su sv) := ⟨H5.out.1.below (((Below.refl _ _).drew).trans hb), H5.out.2.1.below (((Below.refl _ _).drew).trans hb), hr, H5.out.2.2.1.drew.trans (hb.mono H5.out.2.2.1.drew.size), (hb.cell (p := ⟨nb, 0, none⟩) (lt_of_cell c0)).trans c0, (hb.cell (p := ⟨nb, 1, none⟩) (lt_of_cell c1)).trans c1, (hb.cell (p := ⟨nb + 1, 0, none⟩) (lt_of_cell c2)).trans c2, (hb.cell (p := ⟨nb + 1, 1, none⟩) (lt_of_cell c3)).trans c3⟩
      clear hb hr
      go_wp2_with fail
      refine hK.out _ _ ?_ (fun hHeld => ?_)
      · exact ⟨H6.out.2.2.2.2.c0, H6.out.2.2.2.2.c1, H6.out.2.2.2.2.c2, H6.out.2.2.2.2.c3⟩
      clear hK K
      try simp only [Act.put, List.getElem_toArray, List.getElem_cons_zero, List.getElem_cons_succ, List.setIfInBounds_toArray, List.set_cons_zero, List.set_cons_succ]
      refine wpAnyH_ready (rs := [7]) (by kernel_rfl) (by simp) ?_
      refine AllReadyH.cons rfl (fun K hK => ?_) AllReadyH.nil
      go_simp
      refine (HM2.out _ H6.out.1 H6.out.2.1).mono ?_
      rintro e w7 ⟨s, rfl, hr, hb⟩
      have H7 : Hid (Num w7 r P ∧ Num w7 s Q ∧ Below w1.heap.size w1 w7 ∧ Duo nb w7 fu fv su sv) := ⟨H6.out.2.2.1.below hb, hr, H6.out.2.2.2.1.trans (hb.mono H6.out.2.2.2.1.size), (hb.cell (p := ⟨nb, 0, none⟩) (lt_of_cell H6.out.2.2.2.2.c0)).trans H6.out.2.2.2.2.c0, (hb.cell (p := ⟨nb, 1, none⟩) (lt_of_cell H6.out.2.2.2.2.c1)).trans H6.out.2.2.2.2.c1, (hb.cell (p := ⟨nb + 1, 0, none⟩) (lt_of_cell H6.out.2.2.2.2.c2)).trans H6.out.2.2.2.2.c2, (hb.cell (p := ⟨nb + 1, 1, none⟩) (lt_of_cell H6.out.2.2.2.2.c3)).trans H6.out.2.2.2.2.c3⟩
      clear hb hr
      go_wp2_with fail
      refine hK.out _ _ ?_ (fun hHeld => ?_)
      · exact ⟨H7.out.2.2.2.c0, H7.out.2.2.2.c1, H7.out.2.2.2.c2, H7.out.2.2.2.c3⟩
      clear hK K
      try simp only [Act.put, List.getElem_toArray, List.getElem_cons_zero, List.getElem_cons_succ, List.setIfInBounds_toArray, List.set_cons_zero, List.set_cons_succ]
      refine wpAnyH_take (i := 8) (v := ?_) rfl (by kernel_rfl) (by kernel_rfl) (by kernel_rfl) (fun _ _ _ h => h) (Or.inl ⟨by rfl, ?_⟩) hHeld ?_
      rotate_left
      · (intro w hSw; (try dsimp only at hSw); obtain ⟨s0, s1, s2, s3⟩ := hSw; (go_simp <;> with_reducible rfl))
      simp only [Act.put, List.getElem_toArray, List.getElem_cons_zero, List.getElem_cons_succ, List.setIfInBounds_toArray, List.set_cons_zero, List.set_cons_succ]
      refine wpAnyH_take (i := 9) (v := ?_) rfl (by kernel_rfl) (by kernel_rfl) (by kernel_rfl) (fun _ _ _ h => h) (Or.inl ⟨by rfl, ?_⟩) hHeld ?_
      rotate_left
      · (intro w hSw; (try dsimp only at hSw); obtain ⟨s0, s1, s2, s3⟩ := hSw; (go_simp <;> with_reducible rfl))
      simp only [Act.put, List.getElem_toArray, List.getElem_cons_zero, List.getElem_cons_succ, List.setIfInBounds_toArray, List.set_cons_zero, List.set_cons_succ]
      refine wpAnyH_done (by kernel_rfl) ?_ _
      go_wp2_with fail
      go_ret2
      exact ⟨r, s, rfl, ⟨P, Q, H7.out.1, H7.out.2.1, Nat.le_of_lt hP.out.2.2.2.2.1, Nat.lt_of_lt_of_le hP.out.2.2.2.2.1 hP.out.2.2.2.2.2.1, hP.out.2.2.2.2.2.2⟩, H7.out.2.2.1⟩
  · have hmx : (0 : Int) < (bl : Int) - 62 := by omega
    obtain ⟨n, hn0⟩ : ∃ n : Nat, n = bl - 62 := ⟨_, rfl⟩
    have hni : (bl : Int) - 62 = (n : Int) := by omega
    have hmx3 : (0 : Int) < (n : Int) := by omega
    have hnl : n < 1000000 := by omega
    obtain ⟨x0, hx0⟩ : ∃ x0, X / 2 ^ n = x0 := ⟨_, rfl⟩
    obtain ⟨y0, hy0⟩ : ∃ y0, Y / 2 ^ n = y0 := ⟨_, rfl⟩
    have hxl : x0 < 4611686018427387904 := by
      rw [← hx0]
      refine Nat.div_lt_of_lt_mul (Nat.lt_of_lt_of_le HS.out.1 ?_)
      rw [show (4611686018427387904 : Nat) = 2 ^ 62 from by decide, ← Nat.pow_add]
      exact Nat.pow_le_pow_right (by omega) (by omega)
    have hyl : y0 < 4611686018427387904 := Nat.lt_of_le_of_lt (by rw [← hx0, ← hy0]; exact Nat.div_le_div_right HYX.out) hxl
    have Hxy := hide (And.intro hx0 hy0)
    clear hx0 hy0 hn0
    go_enter Tryd.func83, Tryd.ntmps83
    go_wp2_with fail
    refine HL.out.mono ?_
    rintro e w1 ⟨rfl, rfl⟩
    go_wp2_with fail
    refine (leading_any n x0 _ H1.out.1 Hxy.out.1 hxl hnl).mono ?_
    rintro e w2 ⟨rfl, hb⟩
    have H2 : Hid (Num w2 v X ∧ Num w2 u Y ∧ Below w1.heap.size w1 w2) := ⟨H1.out.1.below hb, H1.out.2.below hb, hb⟩
    clear hb
    go_wp2_with fail
    refine (leading_any n y0 _ H2.out.2.1 Hxy.out.2 hyl hnl).mono ?_
    rintro e w3 ⟨rfl, hb⟩
    have H3 : Hid (Num w3 v X ∧ Num w3 u Y ∧ Below w1.heap.size w1 w3) := ⟨H2.out.1.below hb, H2.out.2.1.below hb, H2.out.2.2.trans (hb.mono H2.out.2.2.size)⟩
    clear hb H2
    go_wp2_with fail
    refine (Lem.rows_of X Y (2 ^ n) x0 y0 _ Hxy.out.1 Hxy.out.2 (Nat.two_pow_pos _) hxl HYX.out).mono ?_
    rintro e w4 ⟨fu, fv, su, sv, rfl, hgood, hb⟩
    have H4 : Hid (Num w4 v X ∧ Num w4 u Y ∧ Below w1.heap.size w1 w4) := ⟨H3.out.1.below hb, H3.out.2.1.below hb, H3.out.2.2.trans (hb.mono H3.out.2.2.size)⟩
    have HG := hide hgood
    clear hb H3 hgood
    by_cases hfv : fv = 0
    · subst hfv
      go_wp2_with fail
      have hbw : Below w4.heap.size w4 ((w4.alloc (.cells #[.int .i64 fu, .int .i64 0] 100)).alloc (.cells #[.int .i64 su, .int .i64 sv] 100)) := ((Below.refl _ _).alloc (Nat.le_refl _) _).alloc (by simp) _
      have H5 : Hid (Num ((w4.alloc (.cells #[.int .i64 fu, .int .i64 0] 100)).alloc (.cells #[.int .i64 su, .int .i64 sv] 100)) v X ∧ Num ((w4.alloc (.cells #[.int .i64 fu, .int .i64 0] 100)).alloc (.cells #[.int .i64 su, .int .i64 sv] 100)) u Y ∧ Below w1.heap.size w1 ((w4.alloc (.cells #[.int .i64 fu, .int .i64 0] 100)).alloc (.cells #[.int .i64 su, .int .i64 sv] 100))) := ⟨H4.out.1.below hbw, H4.out.2.1.below hbw, H4.out.2.2.trans (hbw.mono H4.out.2.2.size)⟩
      clear hbw H4 HG
      generalize (w4.alloc (.cells #[.int .i64 fu, .int .i64 0] 100)).alloc (.cells #[.int .i64 su, .int .i64 sv] 100) = w5 at *
      obtain ⟨k5, r5, n5, l5⟩ := H5.out.1
      obtain ⟨m5, s5, o5, t5⟩ := H5.out.2.1
      have HD := hide (divide_any v u k5 X m5 Y w5 r5 s5 n5 o5 HY0.out (by omega))
      clear r5 s5 n5 o5
      refine HD.out.mono ?_
      rintro e w6 ⟨q, r, rfl, ⟨_, ⟨nr, hr, hrn⟩⟩, hb⟩
      have H6 : Hid (Num w6 u Y ∧ Num w6 r (X % Y) ∧ Below w1.heap.size w1 w6) := ⟨H5.out.2.1.below hb, ⟨nr, hr, hrn, hrn.fits.2 (H5.out.1.fits.le (Nat.mod_le _ _))⟩, H5.out.2.2.trans (hb.mono H5.out.2.2.size)⟩
      clear hb hr hrn H5 HD
      go_wp2_with fail
      go_ret2
      have hml := Nat.mod_lt X HY0.out
      exact ⟨u, r, rfl, ⟨Y, X % Y, H6.out.1, H6.out.2.1, by omega, hml, by rw [Nat.gcd_comm, ← Nat.gcd_rec, Nat.gcd_comm]⟩, H6.out.2.2⟩
    · have hfv2 : (fv == 0) = false := by simp [hfv]
      have HG2 : Hid (Good X Y fu fv su sv) := HG.out.resolve_left hfv
      go_wp2_with fail
      have hbw : Below w4.heap.size w4 ((w4.alloc (.cells #[.int .i64 fu, .int .i64 fv] 100)).alloc (.cells #[.int .i64 su, .int .i64 sv] 100)) := ((Below.refl _ _).alloc (Nat.le_refl _) _).alloc (by simp) _
      have H5 : Hid (Num ((w4.alloc (.cells #[.int .i64 fu, .int .i64 fv] 100)).alloc (.cells #[.int .i64 su, .int .i64 sv] 100)) v X ∧ Num ((w4.alloc (.cells #[.int .i64 fu, .int .i64 fv] 100)).alloc (.cells #[.int .i64 su, .int .i64 sv] 100)) u Y ∧ Below w1.heap.size w1 ((w4.alloc (.cells #[.int .i64 fu, .int .i64 fv] 100)).alloc (.cells #[.int .i64 su, .int .i64 sv] 100)) ∧ Duo w4.heap.size ((w4.alloc (.cells #[.int .i64 fu, .int .i64 fv] 100)).alloc (.cells #[.int .i64 su, .int .i64 sv] 100)) fu fv su sv) := ⟨H4.out.1.below hbw, H4.out.2.1.below hbw, H4.out.2.2.trans (hbw.mono H4.out.2.2.size), by simp, by simp, by simp, by simp⟩
      clear hbw H4 HG
      generalize (w4.alloc (.cells #[.int .i64 fu, .int .i64 fv] 100)).alloc (.cells #[.int .i64 su, .int .i64 sv] 100) = w5 at *
      generalize w4.heap.size = nb at *
      obtain ⟨c0, c1, c2, c3⟩ := H5.out.2.2.2
      obtain ⟨P, Q, hP⟩ : ∃ P Q : Nat, Hid (Opp fu fv ∧ Opp su sv ∧ fu * X + fv * Y = P ∧ su * X + sv * Y = Q ∧ Q < P ∧ P ≤ Y ∧ Nat.gcd P Q = Nat.gcd X Y) := by
        obtain ⟨O1, O2, P, Q, h⟩ := HG2.out
        exact ⟨P, Q, O1, O2, h⟩
      have HM1 : Hid (∀ w', Num w' v X → Num w' u Y → Calls Tryd.prog 96 #[v, u, .agg #[.int .i64 fu, .int .i64 fv]] w' fun e w2 => ∃ r, e = .returned r ∧ Num w2 r P ∧ Below w'.heap.size w' w2) := fun w' h h' => mix_num h h' hP.out.1 hP.out.2.2.1 (Nat.le_trans hP.out.2.2.2.2.2.1 HYX.out)
      have HM2 : Hid (∀ w', Num w' v X → Num w' u Y → Calls Tryd.prog 96 #[v, u, .agg #[.int .i64 su, .int .i64 sv]] w' fun e w2 => ∃ r, e = .returned r ∧ Num w2 r Q ∧ Below w'.heap.size w' w2) := fun w' h h' => mix_num h h' hP.out.2.1 hP.out.2.2.2.1 (Nat.le_trans (Nat.le_of_lt hP.out.2.2.2.2.1) (Nat.le_trans hP.out.2.2.2.2.2.1 HYX.out))
      refine wp_region_held_drew (S := fun w' => w'.cell? ⟨nb, 0, none⟩ = some (.int .i64 fu) ∧ w'.cell? ⟨nb, 1, none⟩ = some (.int .i64 fv) ∧ w'.cell? ⟨nb + 1, 0, none⟩ = some (.int .i64 su) ∧ w'.cell? ⟨nb + 1, 1, none⟩ = some (.int .i64 sv)) (by kernel_rfl) ⟨c0, c1, c2, c3⟩ (fun hHeld => ?_)
      refine wpAnyH_take (i := 0) (v := ?_) rfl (by kernel_rfl) (by kernel_rfl) (by kernel_rfl) (fun _ _ _ h => h) (Or.inl ⟨by rfl, ?_⟩) hHeld ?_
      rotate_left
      · (intro w hSw; (try dsimp only at hSw); obtain ⟨s0, s1, s2, s3⟩ := hSw; (go_simp <;> with_reducible rfl))
      simp only [Act.put, List.getElem_toArray, List.getElem_cons_zero, List.getElem_cons_succ, List.setIfInBounds_toArray, List.set_cons_zero, List.set_cons_succ]
      refine wpAnyH_take (i := 1) (v := ?_) rfl (by kernel_rfl) (by kernel_rfl) (by kernel_rfl) (fun _ _ _ h => h) (Or.inl ⟨by rfl, ?_⟩) hHeld ?_
      rotate_left
      · (intro w hSw; (try dsimp only at hSw); obtain ⟨s0, s1, s2, s3⟩ := hSw; (go_simp <;> with_reducible rfl))
      simp only [Act.put, List.getElem_toArray, List.getElem_cons_zero, List.getElem_cons_succ, List.setIfInBounds_toArray, List.set_cons_zero, List.set_cons_succ]
      refine wpAnyH_take (i := 2) (v := ?_) rfl (by kernel_rfl) (by kernel_rfl) (by kernel_rfl) (fun _ _ _ h => h) (Or.inl ⟨by rfl, ?_⟩) hHeld ?_
      rotate_left
      · (intro w hSw; (try dsimp only at hSw); obtain ⟨s0, s1, s2, s3⟩ := hSw; (go_simp <;> with_reducible rfl))
      simp only [Act.put, List.getElem_toArray, List.getElem_cons_zero, List.getElem_cons_succ, List.setIfInBounds_toArray, List.set_cons_zero, List.set_cons_succ]
      refine wpAnyH_take (i := 4) (v := ?_) rfl (by kernel_rfl) (by kernel_rfl) (by kernel_rfl) (fun _ _ _ h => h) (Or.inl ⟨by rfl, ?_⟩) hHeld ?_
      rotate_left
      · (intro w hSw; (try dsimp only at hSw); obtain ⟨s0, s1, s2, s3⟩ := hSw; (go_simp <;> with_reducible rfl))
      simp only [Act.put, List.getElem_toArray, List.getElem_cons_zero, List.getElem_cons_succ, List.setIfInBounds_toArray, List.set_cons_zero, List.set_cons_succ]
      refine wpAnyH_take (i := 5) (v := ?_) rfl (by kernel_rfl) (by kernel_rfl) (by kernel_rfl) (fun _ _ _ h => h) (Or.inl ⟨by rfl, ?_⟩) hHeld ?_
      rotate_left
      · (intro w hSw; (try dsimp only at hSw); obtain ⟨s0, s1, s2, s3⟩ := hSw; (go_simp <;> with_reducible rfl))
      simp only [Act.put, List.getElem_toArray, List.getElem_cons_zero, List.getElem_cons_succ, List.setIfInBounds_toArray, List.set_cons_zero, List.set_cons_succ]
      refine wpAnyH_take (i := 6) (v := ?_) rfl (by kernel_rfl) (by kernel_rfl) (by kernel_rfl) (fun _ _ _ h => h) (Or.inl ⟨by rfl, ?_⟩) hHeld ?_
      rotate_left
      · (intro w hSw; (try dsimp only at hSw); obtain ⟨s0, s1, s2, s3⟩ := hSw; (go_simp <;> with_reducible rfl))
      simp only [Act.put, List.getElem_toArray, List.getElem_cons_zero, List.getElem_cons_succ, List.setIfInBounds_toArray, List.set_cons_zero, List.set_cons_succ]
      refine wpAnyH_ready (rs := [3]) (by kernel_rfl) (by simp) ?_
      refine AllReadyH.cons rfl (fun K hK => ?_) AllReadyH.nil
      go_simp
      refine (HM1.out _ (H5.out.1.below (Below.refl _ _).drew) (H5.out.2.1.below (Below.refl _ _).drew)).mono ?_
      rintro e w6 ⟨r, rfl, hr, hb⟩
      have H6 : Hid (Num w6 v X ∧ Num w6 u Y ∧ Num w6 r P ∧ Below w1.heap.size w1 w6 ∧ Duo nb w6 fu fv su sv) := ⟨H5.out.1.below (((Below.refl _ _).drew).trans hb), H5.out.2.1.below (((Below.refl _ _).drew).trans hb), hr, H5.out.2.2.1.drew.trans (hb.mono H5.out.2.2.1.drew.size), (hb.cell (p := ⟨nb, 0, none⟩) (lt_of_cell c0)).trans c0, (hb.cell (p := ⟨nb, 1, none⟩) (lt_of_cell c1)).trans c1, (hb.cell (p := ⟨nb + 1, 0, none⟩) (lt_of_cell c2)).trans c2, (hb.cell (p := ⟨nb + 1, 1, none⟩) (lt_of_cell c3)).trans c3⟩
      clear hb hr
      go_wp2_with fail
      refine hK.out _ _ ?_ (fun hHeld => ?_)
      · exact ⟨H6.out.2.2.2.2.c0, H6.out.2.2.2.2.c1, H6.out.2.2.2.2.c2, H6.out.2.2.2.2.c3⟩
      clear hK K
      try simp only [Act.put, List.getElem_toArray, List.getElem_cons_zero, List.getElem_cons_succ, List.setIfInBounds_toArray, List.set_cons_zero, List.set_cons_succ]
      refine wpAnyH_ready (rs := [7]) (by kernel_rfl) (by simp) ?_
      refine AllReadyH.cons rfl (fun K hK => ?_) AllReadyH.nil
      go_simp
      refine (HM2.out _ H6.out.1 H6.out.2.1).mono ?_
      rintro e w7 ⟨s, rfl, hr, hb⟩
      have H7 : Hid (Num w7 r P ∧ Num w7 s Q ∧ Below w1.heap.size w1 w7 ∧ Duo nb w7 fu fv su sv) := ⟨H6.out.2.2.1.below hb, hr, H6.out.2.2.2.1.trans (hb.mono H6.out.2.2.2.1.size), (hb.cell (p := ⟨nb, 0, none⟩) (lt_of_cell H6.out.2.2.2.2.c0)).trans H6.out.2.2.2.2.c0, (hb.cell (p := ⟨nb, 1, none⟩) (lt_of_cell H6.out.2.2.2.2.c1)).trans H6.out.2.2.2.2.c1, (hb.cell (p := ⟨nb + 1, 0, none⟩) (lt_of_cell H6.out.2.2.2.2.c2)).trans H6.out.2.2.2.2.c2, (hb.cell (p := ⟨nb + 1, 1, none⟩) (lt_of_cell H6.out.2.2.2.2.c3)).trans H6.out.2.2.2.2.c3⟩
      clear hb hr
      go_wp2_with fail
      refine hK.out _ _ ?_ (fun hHeld => ?_)
      · exact ⟨H7.out.2.2.2.c0, H7.out.2.2.2.c1, H7.out.2.2.2.c2, H7.out.2.2.2.c3⟩
      clear hK K
      try simp only [Act.put, List.getElem_toArray, List.getElem_cons_zero, List.getElem_cons_succ, List.setIfInBounds_toArray, List.set_cons_zero, List.set_cons_succ]
      refine wpAnyH_take (i := 8) (v := ?_) rfl (by kernel_rfl) (by kernel_rfl) (by kernel_rfl) (fun _ _ _ h => h) (Or.inl ⟨by rfl, ?_⟩) hHeld ?_
      rotate_left
      · (intro w hSw; (try dsimp only at hSw); obtain ⟨s0, s1, s2, s3⟩ := hSw; (go_simp <;> with_reducible rfl))
      simp only [Act.put, List.getElem_toArray, List.getElem_cons_zero, List.getElem_cons_succ, List.setIfInBounds_toArray, List.set_cons_zero, List.set_cons_succ]
      refine wpAnyH_take (i := 9) (v := ?_) rfl (by kernel_rfl) (by kernel_rfl) (by kernel_rfl) (fun _ _ _ h => h) (Or.inl ⟨by rfl, ?_⟩) hHeld ?_
      rotate_left
      · (intro w hSw; (try dsimp only at hSw); obtain ⟨s0, s1, s2, s3⟩ := hSw; (go_simp <;> with_reducible rfl))
      simp only [Act.put, List.getElem_toArray, List.getElem_cons_zero, List.getElem_cons_succ, List.setIfInBounds_toArray, List.set_cons_zero, List.set_cons_succ]
      refine wpAnyH_done (by kernel_rfl) ?_ _
      go_wp2_with fail
      go_ret2
      exact ⟨r, s, rfl, ⟨P, Q, H7.out.1, H7.out.2.1, Nat.le_of_lt hP.out.2.2.2.2.1, Nat.lt_of_lt_of_le hP.out.2.2.2.2.1 hP.out.2.2.2.2.2.1, hP.out.2.2.2.2.2.2⟩, H7.out.2.2.1⟩

end Go.Proofs.YtmfimhpbdbbpoaaDoor

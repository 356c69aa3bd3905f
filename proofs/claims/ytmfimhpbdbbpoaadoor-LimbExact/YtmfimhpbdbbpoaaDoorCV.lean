/- The law's shifts. -/
import Derived.Test.YtmfimhpbdbbpoaaDoorCU
namespace Go.Proofs.YtmfimhpbdbbpoaaDoor
open Go.RowKit
open M
set_option linter.unusedVariables false
set_option linter.unusedSimpArgs false

theorem Tab.later {w w' : World} (h : Tab w) (hb : Below w.heap.size w w') : Tab w' := h.below hb

set_option maxRecDepth 100000 in
set_option maxHeartbeats 8000000 in
theorem shifts_true (a : Value) (k A : Nat) (i : Int) (w : World) (ha : Row w a k A) (na : Nil0 a) (hk : k ≤ 16384) (hT : Tab w) (hi2 : i < 9223372036854775808) :
    Calls Tryd.prog 6 #[a, .int .i64 i] w fun e w' => e = .returned (.bool true) ∧ Below w.heap.size w w' := by
  have HA := hide (And.intro ha.old na)
  have HTb := hide hT
  obtain ⟨cL, nL, RL, hnL, sL⟩ := left_spec ha.1 i hi2
  obtain ⟨bR, cR, nR, RR, hnR, sR⟩ := right_spec ha.1 i hi2
  obtain ⟨xN, sN⟩ := len_spec ha.1
  obtain ⟨xW, sW⟩ := low_spec ha.1
  obtain ⟨bT, sT⟩ := bit_spec ha.1 i hi2
  have SL := hide sL
  have SR := hide sR
  have SN := hide sN
  have SW := hide sW
  have ST := hide sT
  obtain ⟨_, _, ada, capa, rfl, _, _⟩ := ha
  clear na sL sR sN sW sT hT
  go_enter Tryd.func6, Tryd.ntmps6
  go_wp2_with fail
  refine (lent_any _ k A w HA.out.1 (fun cap => HA.out.2 k cap) (by omega)).mono ?_
  rintro e v1 ⟨gx, cx, rfl, hl, hb⟩
  have HX := hide (L1.start (Nat.le_refl _) HA.out.1 hl hb)
  have HBl := hide hb
  have HTb' := hide (HTb.out.below hb)
  clear hl hb HTb
  have HTb := HTb'
  clear HTb'
  go_wp2_with fail
  refine Calls.mono (SL.out v1 (.slice (some ⟨gx, 0, none⟩) k cx) HX.out.x).1 ?_
  rintro e v2 ⟨r4, rfl, hr1, hb1⟩
  have HP := hide (And.intro hr1 hb1)
  clear hr1 hb1
  go_wp2_with fail
  refine Calls.mono (SL.out v2 _ (HX.out.later HP.out.2).a).2 ?_
  rintro e v3 ⟨q4, rfl, hr2, hb2⟩
  have HQ := hide (And.intro (And.intro (HP.out.1.below hb2) hr2.row) (And.intro (HP.out.2.trans (hb2.mono HP.out.2.size)) (Nat.le_trans HP.out.2.size hb2.size)))
  clear hr2 hb2 HP
  go_wp2_with fail
  refine (same_true r4 q4 _ _ v1.heap.size _ v3 HQ.out.1.1 HQ.out.1.2 HQ.out.2.2 (by omega)).mono ?_
  rintro e v4 ⟨rfl, hb3⟩
  have HZ := hide (HQ.out.2.1.trans hb3)
  clear hb3 HQ
  have HX' := hide (HX.out.later HZ.out)
  have HTb' := hide (HTb.out.later HZ.out)
  have HBl' := hide (HBl.out.trans (HZ.out.mono HBl.out.size))
  clear HX HTb HBl
  have HX := HX'
  clear HX'
  have HTb := HTb'
  clear HTb'
  have HBl := HBl'
  clear HBl'
  clear HZ
  go_wp2_with fail
  refine Calls.mono (SR.out v4 (.slice (some ⟨gx, 0, none⟩) k cx) HX.out.x HTb.out).1 ?_
  rintro e v5 ⟨r7, rfl, hr1, hb1⟩
  have HP := hide (And.intro hr1 hb1)
  clear hr1 hb1
  go_wp2_with fail
  refine Calls.mono (SR.out v5 _ (HX.out.later HP.out.2).a (HTb.out.below HP.out.2)).2 ?_
  rintro e v6 ⟨q7, rfl, hr2, hb2⟩
  have HQ := hide (And.intro (And.intro (HP.out.1.below hb2) hr2.row) (And.intro (HP.out.2.trans (hb2.mono HP.out.2.size)) (Nat.le_trans HP.out.2.size hb2.size)))
  clear hr2 hb2 HP
  go_wp2_with fail
  refine (same_true r7 q7 _ _ v4.heap.size _ v6 HQ.out.1.1 HQ.out.1.2 HQ.out.2.2 (by omega)).mono ?_
  rintro e v7 ⟨rfl, hb3⟩
  have HZ := hide (HQ.out.2.1.trans hb3)
  clear hb3 HQ
  have HX' := hide (HX.out.later HZ.out)
  have HTb' := hide (HTb.out.later HZ.out)
  have HBl' := hide (HBl.out.trans (HZ.out.mono HBl.out.size))
  clear HX HTb HBl
  have HX := HX'
  clear HX'
  have HTb := HTb'
  clear HTb'
  have HBl := HBl'
  clear HBl'
  clear HZ
  go_wp2_with fail
  refine Calls.mono (SN.out v7 (.slice (some ⟨gx, 0, none⟩) k cx) HX.out.x).1 ?_
  rintro e v8 ⟨rfl, hb1⟩
  have HZ := hide hb1
  clear hb1
  have HX' := hide (HX.out.later HZ.out)
  have HTb' := hide (HTb.out.later HZ.out)
  have HBl' := hide (HBl.out.trans (HZ.out.mono HBl.out.size))
  clear HX HTb HBl
  have HX := HX'
  clear HX'
  have HTb := HTb'
  clear HTb'
  have HBl := HBl'
  clear HBl'
  clear HZ
  go_wp2_with fail
  refine Calls.mono (SN.out v8 _ HX.out.a).2 ?_
  rintro e v9 ⟨rfl, hb1⟩
  have HZ := hide hb1
  clear hb1
  have HX' := hide (HX.out.later HZ.out)
  have HTb' := hide (HTb.out.later HZ.out)
  have HBl' := hide (HBl.out.trans (HZ.out.mono HBl.out.size))
  clear HX HTb HBl
  have HX := HX'
  clear HX'
  have HTb := HTb'
  clear HTb'
  have HBl := HBl'
  clear HBl'
  clear HZ
  go_wp2_with fail
  refine Calls.mono (SW.out v9 (.slice (some ⟨gx, 0, none⟩) k cx) HX.out.x HTb.out).1 ?_
  rintro e v10 ⟨rfl, hb1⟩
  have HZ := hide hb1
  clear hb1
  have HX' := hide (HX.out.later HZ.out)
  have HTb' := hide (HTb.out.later HZ.out)
  have HBl' := hide (HBl.out.trans (HZ.out.mono HBl.out.size))
  clear HX HTb HBl
  have HX := HX'
  clear HX'
  have HTb := HTb'
  clear HTb'
  have HBl := HBl'
  clear HBl'
  clear HZ
  go_wp2_with fail
  refine Calls.mono (SW.out v10 _ HX.out.a HTb.out).2 ?_
  rintro e v11 ⟨rfl, hb1⟩
  have HZ := hide hb1
  clear hb1
  have HX' := hide (HX.out.later HZ.out)
  have HTb' := hide (HTb.out.later HZ.out)
  have HBl' := hide (HBl.out.trans (HZ.out.mono HBl.out.size))
  clear HX HTb HBl
  have HX := HX'
  clear HX'
  have HTb := HTb'
  clear HTb'
  have HBl := HBl'
  clear HBl'
  clear HZ
  go_wp2_with fail
  refine Calls.mono (ST.out v11 (.slice (some ⟨gx, 0, none⟩) k cx) HX.out.x).1 ?_
  rintro e v12 ⟨rfl, hb1⟩
  have HZ := hide hb1
  clear hb1
  have HX' := hide (HX.out.later HZ.out)
  have HTb' := hide (HTb.out.later HZ.out)
  have HBl' := hide (HBl.out.trans (HZ.out.mono HBl.out.size))
  clear HX HTb HBl
  have HX := HX'
  clear HX'
  have HTb := HTb'
  clear HTb'
  have HBl := HBl'
  clear HBl'
  clear HZ
  go_wp2_with fail
  refine Calls.mono (ST.out v12 _ HX.out.a).2 ?_
  rintro e v13 ⟨rfl, hb1⟩
  have HZ := hide hb1
  clear hb1
  have HX' := hide (HX.out.later HZ.out)
  have HTb' := hide (HTb.out.later HZ.out)
  have HBl' := hide (HBl.out.trans (HZ.out.mono HBl.out.size))
  clear HX HTb HBl
  have HX := HX'
  clear HX'
  have HTb := HTb'
  clear HTb'
  have HBl := HBl'
  clear HBl'
  clear HZ
  go_wp2_with fail
  refine (back_any _ k A w.heap.size gx cx v13 HX.out.ra (by omega) HX.out.lx).mono ?_
  rintro e v14 ⟨rfl, ho⟩
  have HB2 := hide (HBl.out.trans (ho.below HX.out.ge.1 HBl.out.size))
  clear ho HBl
  go_wp2_with fail
  go_ret
  exact ⟨rfl, HB2.out⟩

end Go.Proofs.YtmfimhpbdbbpoaaDoor

/- What is lent, by the side of what it was lent of; the law's sums. -/
import Derived.Test.YtmfimhpbdbbpoaaDoorCS
import Derived.Test.YtmfimhpbdbbpoaaDoorCL
import Derived.Test.YtmfimhpbdbbpoaaDoorCJ
namespace Go.Proofs.YtmfimhpbdbbpoaaDoor
open Go.RowKit
open M
set_option linter.unusedVariables false
set_option linter.unusedSimpArgs false

/-- A row that was handed in, and what is lent of it. -/
structure L1 (B : Nat) (a : Value) (k A g cap : Nat) (w : World) : Prop where
  ra : RowX (· < B) w a k A
  lx : LentU32 w B g cap k (dg A)

theorem L1.later {B : Nat} {a : Value} {k A g cap : Nat} {w w' : World} (h : L1 B a k A g cap w) (hb : Below w.heap.size w w') : L1 B a k A g cap w' := ⟨h.ra.below hb, h.lx.below hb⟩
theorem L1.a {B : Nat} {a : Value} {k A g cap : Nat} {w : World} (h : L1 B a k A g cap w) : Row w a k A := h.ra.row
theorem L1.x {B : Nat} {a : Value} {k A g cap : Nat} {w : World} (h : L1 B a k A g cap w) : Row w (.slice (some ⟨g, 0, none⟩) k cap) k A := (h.lx.rowX h.ra.1 h.ra.2.1).row
theorem L1.ge {B : Nat} {a : Value} {k A g cap : Nat} {w : World} (h : L1 B a k A g cap w) : B ≤ g ∧ g < w.heap.size := ⟨h.lx.lies.2.1, h.lx.lies.2.2.1⟩
theorem L1.only {B : Nat} {a : Value} {k A g cap lo hi g' : Nat} {w w' : World} (h : L1 B a k A g cap w) (ho : Only g' lo hi w w') (hne : g' ≠ g) (hB : B ≤ g') : L1 B a k A g cap w' :=
  ⟨h.ra.keep fun g o hg hl => World.cell?_of_block (a := ⟨g, o, none⟩) (ho.block g hl (by omega)),
   ownsRow_keep h.lx fun b hb => by simp only [Value.ownBlock, Option.some.injEq] at hb; subst hb; exact ho.block g h.lx.lies.2.2.1 (fun e => hne e.symm)⟩

theorem L1.start {B : Nat} {a : Value} {k A g cap : Nat} {w w' : World} (hB : B ≤ w.heap.size) (ha : RowX (· < B) w a k A) (hl : LentU32 w' w.heap.size g cap k (dg A)) (hb : Below w.heap.size w w') : L1 B a k A g cap w' := ⟨ha.below hb, ⟨hl.1, by
    rcases hl.2 with h | ⟨g', c', cur, h1, h2, h3⟩
    · exact .inl h
    · exact .inr ⟨g', c', cur, h1, Nat.le_trans hB h2, h3⟩⟩⟩

/-- nil has no room. -/
def Nil0 (v : Value) : Prop := ∀ k cap, v = .slice none k cap → cap = 0

set_option maxRecDepth 100000 in
set_option maxHeartbeats 8000000 in
theorem sums_true (a b : Value) (k A m C : Nat) (w : World) (ha : Row w a k A) (hb : Row w b m C) (na : Nil0 a) (nb : Nil0 b) (hk : k ≤ 16384) (hm : m ≤ 16384) :
    Calls Tryd.prog 5 #[a, b] w fun e w' => e = .returned (.bool true) ∧ Below w.heap.size w w' := by
  have HA := hide (And.intro ha.old na)
  have HC := hide (And.intro hb.old nb)
  obtain ⟨cA, nA, RA, hnA, sA⟩ := add_spec ha.1 hb.1
  obtain ⟨cS, nS, RS, hnS, sS⟩ := sub_spec ha.1 hb.1
  obtain ⟨cM, nM, RM, hnM, sM⟩ := mul_spec ha.1 hb.1
  obtain ⟨xC, sC⟩ := cmp_spec ha.1 hb.1
  have SA := hide sA
  have SS := hide sS
  have SM := hide sM
  have SC := hide sC
  obtain ⟨p, hp, hp1⟩ : ∃ p : Nat, (k : Int) * (m : Int) = (p : Int) ∧ p ≤ 268435456 := ⟨k * m, by rw [Int.natCast_mul], Nat.mul_le_mul hk hm⟩
  obtain ⟨_, _, ada, capa, rfl, _, _⟩ := ha
  obtain ⟨_, _, adb, capb, rfl, _, _⟩ := hb
  clear na nb sA sS sM sC
  go_enter Tryd.func5, Tryd.ntmps5
  go_wp2_with fail
  go_loopw [5] (fun t5 wr => ∃ i : Nat, i ≤ 2 ∧ t5 = .int .i64 i ∧ Hid (Below w.heap.size w wr)) (fun t5 _ => 2 - (intOf t5).toNat)
  case atStart => exact ⟨0, by omega, rfl, Below.refl _ _⟩
  case round =>
    obtain ⟨i, hi, rfl, HI⟩ := hrel
    by_cases hlt : i < 2
    · have hlt' : (i : Int) < 2 := by omega
      have HCr := hide (HC.out.1.belowB HI.out)
      go_wp2_with fail
      refine (lent_any _ k A wr (HA.out.1.belowB HI.out) (fun cap => HA.out.2 k cap) (by omega)).mono ?_
      rintro e v1 ⟨gx, cx, rfl, hl, hb⟩
      have HX := hide (L1.start HI.out.size (HA.out.1.belowB HI.out) hl hb)
      have HBl := hide (HI.out.trans (hb.mono HI.out.size))
      have HG := hide hl.lies.2.2.1
      clear hl hb
      go_wp2_with fail
      refine (lent_any _ m C v1 (HC.out.1.belowB HBl.out) (fun cap => HC.out.2 m cap) (by omega)).mono ?_
      rintro e v2 ⟨gy, cy, rfl, hl, hb⟩
      have HY := hide (L1.start HBl.out.size (HC.out.1.belowB HBl.out) hl hb)
      have HNE : Hid (gx ≠ gy) := by show _ ≠ _; have := HG.out; have := hl.lies.2.1; omega
      have HX' := hide (HX.out.later hb)
      have HBl' := hide (HBl.out.trans (hb.mono HBl.out.size))
      clear HX HBl hl hb HCr
      have HX := HX'
      have HBl := HBl'
      clear HX' HBl'
      go_wp2_with fail
      refine Calls.mono (SA.out v2 (.slice (some ⟨gx, 0, none⟩) k cx) (.slice (some ⟨gy, 0, none⟩) m cy) HX.out.x HY.out.x).1 ?_
      rintro e v3 ⟨r5, rfl, hr1, hb1⟩
      have HP := hide (And.intro hr1 hb1)
      clear hr1 hb1
      go_wp2_with fail
      refine Calls.mono (SA.out v3 _ _ (HX.out.later HP.out.2).a (HY.out.later HP.out.2).a).2 ?_
      rintro e v4 ⟨q5, rfl, hr2, hb2⟩
      have HQ := hide (And.intro (And.intro (HP.out.1.below hb2) hr2.row) (And.intro (HP.out.2.trans (hb2.mono HP.out.2.size)) (Nat.le_trans HP.out.2.size hb2.size)))
      clear hr2 hb2 HP
      go_wp2_with fail
      refine (same_true r5 q5 _ _ v2.heap.size _ v4 HQ.out.1.1 HQ.out.1.2 HQ.out.2.2 (by omega)).mono ?_
      rintro e v5 ⟨rfl, hb3⟩
      have HZ := hide (HQ.out.2.1.trans hb3)
      clear hb3 HQ
      have HX' := hide (HX.out.later HZ.out)
      have HY' := hide (HY.out.later HZ.out)
      have HBl' := hide (HBl.out.trans (HZ.out.mono HBl.out.size))
      clear HX HY HBl
      have HX := HX'
      clear HX'
      have HY := HY'
      clear HY'
      have HBl := HBl'
      clear HBl'
      clear HZ
      go_wp2_with fail
      refine Calls.mono (SS.out v5 (.slice (some ⟨gx, 0, none⟩) k cx) (.slice (some ⟨gy, 0, none⟩) m cy) HX.out.x HY.out.x).1 ?_
      rintro e v6 ⟨r8, rfl, hr1, hb1⟩
      have HP := hide (And.intro hr1 hb1)
      clear hr1 hb1
      go_wp2_with fail
      refine Calls.mono (SS.out v6 _ _ (HX.out.later HP.out.2).a (HY.out.later HP.out.2).a).2 ?_
      rintro e v7 ⟨q8, rfl, hr2, hb2⟩
      have HQ := hide (And.intro (And.intro (HP.out.1.below hb2) hr2.row) (And.intro (HP.out.2.trans (hb2.mono HP.out.2.size)) (Nat.le_trans HP.out.2.size hb2.size)))
      clear hr2 hb2 HP
      go_wp2_with fail
      refine (same_true r8 q8 _ _ v5.heap.size _ v7 HQ.out.1.1 HQ.out.1.2 HQ.out.2.2 (by omega)).mono ?_
      rintro e v8 ⟨rfl, hb3⟩
      have HZ := hide (HQ.out.2.1.trans hb3)
      clear hb3 HQ
      have HX' := hide (HX.out.later HZ.out)
      have HY' := hide (HY.out.later HZ.out)
      have HBl' := hide (HBl.out.trans (HZ.out.mono HBl.out.size))
      clear HX HY HBl
      have HX := HX'
      clear HX'
      have HY := HY'
      clear HY'
      have HBl := HBl'
      clear HBl'
      clear HZ
      go_wp2_with fail
      refine Calls.mono (SC.out v8 (.slice (some ⟨gx, 0, none⟩) k cx) (.slice (some ⟨gy, 0, none⟩) m cy) HX.out.x HY.out.x).1 ?_
      rintro e v9 ⟨rfl, hb1⟩
      have HZ := hide hb1
      clear hb1
      have HX' := hide (HX.out.later HZ.out)
      have HY' := hide (HY.out.later HZ.out)
      have HBl' := hide (HBl.out.trans (HZ.out.mono HBl.out.size))
      clear HX HY HBl
      have HX := HX'
      clear HX'
      have HY := HY'
      clear HY'
      have HBl := HBl'
      clear HBl'
      clear HZ
      go_wp2_with fail
      refine Calls.mono (SC.out v9 _ _ HX.out.a HY.out.a).2 ?_
      rintro e v10 ⟨rfl, hb1⟩
      have HZ := hide hb1
      clear hb1
      have HX' := hide (HX.out.later HZ.out)
      have HY' := hide (HY.out.later HZ.out)
      have HBl' := hide (HBl.out.trans (HZ.out.mono HBl.out.size))
      clear HX HY HBl
      have HX := HX'
      clear HX'
      have HY := HY'
      clear HY'
      have HBl := HBl'
      clear HBl'
      clear HZ
      by_cases hpp : p < 100000
      · have hpp' : (p : Int) < 100000 := by omega
        go_wp2_with fail
        refine Calls.mono (SM.out v10 (.slice (some ⟨gx, 0, none⟩) k cx) (.slice (some ⟨gy, 0, none⟩) m cy) HX.out.x HY.out.x).1 ?_
        rintro e v11 ⟨r13, rfl, hr1, hb1⟩
        have HP := hide (And.intro hr1 hb1)
        clear hr1 hb1
        go_wp2_with fail
        refine Calls.mono (SM.out v11 _ _ (HX.out.later HP.out.2).a (HY.out.later HP.out.2).a).2 ?_
        rintro e v12 ⟨q13, rfl, hr2, hb2⟩
        have HQ := hide (And.intro (And.intro (HP.out.1.below hb2) hr2.row) (And.intro (HP.out.2.trans (hb2.mono HP.out.2.size)) (Nat.le_trans HP.out.2.size hb2.size)))
        clear hr2 hb2 HP
        go_wp2_with fail
        refine (same_true r13 q13 _ _ v10.heap.size _ v12 HQ.out.1.1 HQ.out.1.2 HQ.out.2.2 (by omega)).mono ?_
        rintro e v13 ⟨rfl, hb3⟩
        have HZ := hide (HQ.out.2.1.trans hb3)
        clear hb3 HQ
        have HX' := hide (HX.out.later HZ.out)
        have HY' := hide (HY.out.later HZ.out)
        have HBl' := hide (HBl.out.trans (HZ.out.mono HBl.out.size))
        clear HX HY HBl
        have HX := HX'
        clear HX'
        have HY := HY'
        clear HY'
        have HBl := HBl'
        clear HBl'
        clear HZ
        go_wp2_with fail
        refine (back_any _ k A w.heap.size gx cx v13 HX.out.ra (by omega) HX.out.lx).mono ?_
        rintro e v14 ⟨rfl, ho⟩
        have HY' := hide (HY.out.only ho HNE.out HX.out.ge.1)
        have HB' := hide (HBl.out.trans (ho.below HX.out.ge.1 HBl.out.size))
        clear ho HY HBl
        go_wp2_with fail
        refine (back_any _ m C w.heap.size gy cy v14 HY'.out.ra (by omega) HY'.out.lx).mono ?_
        rintro e v15 ⟨rfl, ho⟩
        have HB2 := hide (HB'.out.trans (ho.below HY'.out.ge.1 HB'.out.size))
        clear ho HB' HY'
        go_wp2_with fail
        go_roundw
        case rel => exact ⟨i + 1, by omega, by go_num, HB2.out⟩
        case measure => simp [intOf] <;> omega
      · have hdec : decide ((p : Int) < 100000) = false := decide_eq_false (by omega)
        clear hpp
        go_wp2_with fail
        refine (back_any _ k A w.heap.size gx cx v10 HX.out.ra (by omega) HX.out.lx).mono ?_
        rintro e v11 ⟨rfl, ho⟩
        have HY' := hide (HY.out.only ho HNE.out HX.out.ge.1)
        have HB' := hide (HBl.out.trans (ho.below HX.out.ge.1 HBl.out.size))
        clear ho HY HBl
        go_wp2_with fail
        refine (back_any _ m C w.heap.size gy cy v11 HY'.out.ra (by omega) HY'.out.lx).mono ?_
        rintro e v12 ⟨rfl, ho⟩
        have HB2 := hide (HB'.out.trans (ho.below HY'.out.ge.1 HB'.out.size))
        clear ho HB' HY'
        go_wp2_with fail
        go_roundw
        case rel => exact ⟨i + 1, by omega, by go_num, HB2.out⟩
        case measure => simp [intOf] <;> omega
    · obtain rfl : i = 2 := by omega
      go_wp2_with fail
      go_ret
      exact ⟨rfl, HI.out⟩

end Go.Proofs.YtmfimhpbdbbpoaaDoor

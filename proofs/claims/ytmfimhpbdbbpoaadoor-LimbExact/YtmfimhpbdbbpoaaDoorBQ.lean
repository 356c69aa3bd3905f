/- same: a number that is told, held against the document's; then written over. -/
import Derived.Test.YtmfimhpbdbbpoaaDoorAL
import Derived.Test.YtmfimhpbdbbpoaaDoorS
namespace Go.Proofs.YtmfimhpbdbbpoaaDoor
open Go.RowKit
open M
set_option linter.unusedVariables false
set_option linter.unusedSimpArgs false

set_option maxRecDepth 100000 in
set_option maxHeartbeats 2000000 in
theorem same_true (u v : Value) (n N base : Nat) (c : Int) (w : World) (hu : Own w base u n N) (hv : Row w v n N) (hbase : base ≤ w.heap.size) (hn : n ≤ 1000000) :
    Calls Tryd.prog 11 #[u, .int .i64 c, v, .int .i64 c] w fun e w' => e = .returned (.bool true) ∧ Below base w w' := by
  obtain ⟨i5, hi5⟩ := info32
  have Hi := hide hi5
  clear hi5
  have HE := hide (eqNat_any u v n N n N w hu.row hv)
  rw [decide_eq_true ⟨rfl, rfl⟩] at HE
  obtain ⟨X, hX, hXd⟩ := of_limbs (fun _ => 4008636142) n (fun _ _ => by omega)
  have HX := hide hXd
  have HO := hide hu
  have HBs := hide hbase
  obtain ⟨_, _, ad, cap, rfl, hc, _⟩ := hu.row
  clear hv hX hXd hu hbase
  go_enter Tryd.func11, Tryd.ntmps11
  go_wp2_with fail
  refine HE.out.mono ?_
  rintro e w1 ⟨rfl, m, rfl⟩
  have H1 : Hid ((w.drewN m).ownsRow base 24 1 (.slice ad n cap) n (limbsV n N) ∧ Below base w (w.drewN m) ∧ base ≤ (w.drewN m).heap.size) := ⟨HO.out.2.2, below_drewN (Below.refl _ _) m, HBs.out⟩
  generalize w.drewN m = w1 at *
  go_wp2_with fail
  refine (num_any c w1).mono ?_
  rintro e w2 ⟨rfl, rfl⟩
  go_wp2_with fail
  go_loopw [10] (fun t10 wr => ∃ i : Nat, i ≤ n ∧ t10 = .int .i64 i ∧ Hid (GrowSt w2 base ad n cap N X i wr)) (fun t10 _ => n - (intOf t10).toNat)
  case atStart => exact ⟨0, by omega, rfl, GrowSt.start H1.out.1 X⟩
  case round =>
    obtain ⟨i, hi, rfl, HM⟩ := hrel
    by_cases hlt : i < n
    · have hlt' : (i : Int) < (n : Int) := by omega
      obtain ⟨g, rfl, hb, hM, hs, h1, h2⟩ := HM.out.some (by omega)
      have hy := hM.hi i (Nat.le_refl _) hlt
      have hf := hM.free i hlt
      rw [Nat.zero_add] at hy hf
      clear hM hs
      go_wp2_with fail
      go_roundw
      case rel => exact ⟨i + 1, by omega, by go_num, HM.out.step hlt H1.out.2.2 4008636142 (by rw [HX.out i hlt]; rfl)⟩
      case measure => simp [intOf]; omega
    · obtain rfl : i = n := by omega
      have HD := hide HM.out.done
      have HW : Hid (base ≤ wr.heap.size ∧ Below base w wr) := ⟨Nat.le_trans H1.out.2.2 HM.out.below.size, H1.out.2.1.trans HM.out.below⟩
      clear HM
      go_wp2_with (at_builtin; refine wpList_append_lies _ rfl _ _ _ rfl base 24 i5 (.int .u32 0) 1 4 Tryd.underlying32 Hi.out.1 Hi.out.2.1 Hi.out.2.2.1 Hi.out.2.2.2 rfl (by decide) _ i (limbsV i X) rfl (HD.out.alloc _) ⟨wr.heap.size, 0, none⟩ 1 1 [.int .u32 3722304989] rfl rfl (fun j u hj => cell_new1 wr _ 24 j u hj) (fun u hu => by simp at hu; subst hu; rfl) (by decide) (by unfold maxLen; omega) (by omega) (by have := HW.out.1; simp; omega) _ rfl ?d6)
      case d6 =>
        intro g4 cap4 w4 ho4 hg4 _ _
        have HF : Hid (Below base w w4) := (HW.out.2.alloc HW.out.1 _).trans (grown_below hg4 (fun g hg => (HD.out.lt g hg).1) (by have := HW.out.1; simp; omega))
        clear ho4 hg4
        have hpos : (0 : Int) < (i : Int) + 1 := by omega
        go_wp2_with fail
        go_ret
        exact ⟨rfl, HF.out⟩

end Go.Proofs.YtmfimhpbdbbpoaaDoor

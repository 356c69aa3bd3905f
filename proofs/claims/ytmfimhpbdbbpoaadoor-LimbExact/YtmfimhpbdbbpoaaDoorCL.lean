/- same: what it changes: the row that it writes over, and no other. -/
import Derived.Test.YtmfimhpbdbbpoaaDoorBQ
namespace Go.Proofs.YtmfimhpbdbbpoaaDoor
open Go.RowKit
open M
set_option linter.unusedVariables false
set_option linter.unusedSimpArgs false

theorem grown_trans {a b c : World} {r : Option Nat} (h : a.grownBy b r) (k : b.grownBy c r) : a.grownBy c r :=
  ⟨k.os.trans h.os, k.tape.trans h.tape, k.output.trans h.output, Nat.le_trans h.size k.size, fun i hi hn => (k.block i (Nat.lt_of_lt_of_le hi h.size) hn).trans (h.block i hi hn)⟩

theorem grown_of_below {a b : World} (r : Option Nat) (h : Below a.heap.size a b) : a.grownBy b r := ⟨h.os, h.tape, h.output, h.size, fun i hi _ => h.block i hi⟩

/-- Behind i limbs that are written over. -/
structure GrowSp (w : World) (base : Nat) (ad : Option Addr) (k cap N X i : Nat) (wr : World) : Prop where
  sep : w.grownBy wr (Value.slice ad k cap).ownBlock
  some : 0 < k → ∃ g, ad = some ⟨g, 0, none⟩ ∧ base ≤ g ∧ Mid wr g 0 k i N X ∧ Shape wr g cap ∧ k ≤ cap ∧ cap ≤ maxLen
  none : k = 0 → wr.ownsRow base 24 1 (.slice ad k cap) k (limbsV k X)

theorem GrowSp.start {w : World} {base : Nat} {ad : Option Addr} {k cap N : Nat} (h : w.ownsRow base 24 1 (.slice ad k cap) k (limbsV k N)) (X : Nat) : GrowSp w base ad k cap N X 0 w :=
  ⟨World.grownBy.refl _ _, (GrowSt.start h X).some, (GrowSt.start h X).none⟩

theorem GrowSp.done {w wr : World} {base : Nat} {ad : Option Addr} {k cap N X : Nat} (h : GrowSp w base ad k cap N X k wr) : wr.ownsRow base 24 1 (.slice ad k cap) k (limbsV k X) := by
  rcases Nat.eq_zero_or_pos k with hk | hk
  · exact h.none hk
  · obtain ⟨g, rfl, hb, hM, hs, h1, h2⟩ := h.some hk
    exact hs.owns hb h1 h2 fun j hj => hM.lo j hj

theorem GrowSp.step {w wr : World} {base g : Nat} {k cap N X i : Nat} (h : GrowSp w base (.some ⟨g, 0, .none⟩) k cap N X i wr) (hi : i < k) (y : Int) (hy : y = (dg X i : Nat)) :
    GrowSp w base (.some ⟨g, 0, .none⟩) k cap N X (i + 1) (wr.setCell ⟨g, i, .none⟩ (.int .u32 y)) := by
  obtain ⟨g', e, hb, hM, hs, h1, h2⟩ := h.some (by omega)
  simp only [Option.some.injEq, Addr.mk.injEq, and_true] at e
  subst e
  refine ⟨?_, fun _ => ⟨g, rfl, hb, ?_, hs.setCell _ _, h1, h2⟩, fun h => by omega⟩
  · refine ⟨h.sep.os, h.sep.tape, h.sep.output, by simpa [World.setCell] using h.sep.size, fun j hj hn => ?_⟩
    exact (Below.heap_setCell _ _ _ _ (fun e => hn (by rw [e]; rfl))).trans (h.sep.block j hj hn)
  · have := hM.step hi y hy
    rw [Nat.zero_add] at this
    exact this

set_option maxRecDepth 100000 in
set_option maxHeartbeats 2000000 in
theorem same_sep (u v : Value) (n N base : Nat) (c : Int) (w : World) (hu : Own w base u n N) (hv : Row w v n N) (hbase : base ≤ w.heap.size) (hn : n ≤ 1000000) :
    Calls Tryd.prog 11 #[u, .int .i64 c, v, .int .i64 c] w fun e w' => e = .returned (.bool true) ∧ w.grownBy w' u.ownBlock := by
  obtain ⟨i5, hi5⟩ := info32
  have Hi := hide hi5
  clear hi5
  have HE := hide (eqNat_any u v n N n N w hu.row hv)
  rw [decide_eq_true ⟨rfl, rfl⟩] at HE
  obtain ⟨X, hX, hXd⟩ := of_limbs (fun _ => 4008636142) n (fun _ _ => by omega)
  have HX := hide hXd
  have HO := hide hu
  have HBs := hide hbase
  obtain ⟨_, _, ad, cap, rfl, hc, _⟩ := hu.row
  clear hv hX hXd hu hbase
  go_enter Tryd.func11, Tryd.ntmps11
  go_wp2_with fail
  refine HE.out.mono ?_
  rintro e w1 ⟨rfl, m, rfl⟩
  have H1 : Hid ((w.drewN m).ownsRow base 24 1 (.slice ad n cap) n (limbsV n N) ∧ w.grownBy (w.drewN m) (Value.slice ad n cap).ownBlock ∧ base ≤ (w.drewN m).heap.size) := ⟨HO.out.2.2, grown_of_below _ (below_drewN (Below.refl _ _) m), HBs.out⟩
  generalize w.drewN m = w1 at *
  go_wp2_with fail
  refine (num_any c w1).mono ?_
  rintro e w2 ⟨rfl, rfl⟩
  go_wp2_with fail
  go_loopw [10] (fun t10 wr => ∃ i : Nat, i ≤ n ∧ t10 = .int .i64 i ∧ Hid (GrowSp w2 base ad n cap N X i wr)) (fun t10 _ => n - (intOf t10).toNat)
  case atStart => exact ⟨0, by omega, rfl, GrowSp.start H1.out.1 X⟩
  case round =>
    obtain ⟨i, hi, rfl, HM⟩ := hrel
    by_cases hlt : i < n
    · have hlt' : (i : Int) < (n : Int) := by omega
      obtain ⟨g, rfl, hb, hM, hs, h1, h2⟩ := HM.out.some (by omega)
      have hy := hM.hi i (Nat.le_refl _) hlt
      have hf := hM.free i hlt
      rw [Nat.zero_add] at hy hf
      clear hM hs
      go_wp2_with fail
      go_roundw
      case rel => exact ⟨i + 1, by omega, by go_num, HM.out.step hlt 4008636142 (by rw [HX.out i hlt]; rfl)⟩
      case measure => simp [intOf]; omega
    · obtain rfl : i = n := by omega
      have HD := hide HM.out.done
      have HW : Hid (base ≤ wr.heap.size ∧ w.grownBy wr (Value.slice ad i cap).ownBlock) := ⟨Nat.le_trans H1.out.2.2 HM.out.sep.size, grown_trans H1.out.2.1 HM.out.sep⟩
      clear HM
      go_wp2_with (at_builtin; refine wpList_append_lies _ rfl _ _ _ rfl base 24 i5 (.int .u32 0) 1 4 Tryd.underlying32 Hi.out.1 Hi.out.2.1 Hi.out.2.2.1 Hi.out.2.2.2 rfl (by decide) _ i (limbsV i X) rfl (HD.out.alloc _) ⟨wr.heap.size, 0, none⟩ 1 1 [.int .u32 3722304989] rfl rfl (fun j u hj => cell_new1 wr _ 24 j u hj) (fun u hu => by simp at hu; subst hu; rfl) (by decide) (by unfold maxLen; omega) (by omega) (by have := HW.out.1; simp; omega) _ rfl ?d6)
      case d6 =>
        intro g4 cap4 w4 ho4 hg4 _ _
        have HF : Hid (w.grownBy w4 (Value.slice ad i cap).ownBlock) := grown_trans (grown_trans HW.out.2 (grown_of_below _ ((Below.refl _ _).alloc (Nat.le_refl _) _))) hg4
        clear ho4 hg4
        have hpos : (0 : Int) < (i : Int) + 1 := by omega
        go_wp2_with fail
        go_ret
        exact ⟨rfl, HF.out⟩

/-- What is told of a number, or its error. -/
theorem told_same {wa wb : World} {ba bb : Nat} {u v : Value} {c d : Int} {N : Nat} (h : Told wa ba u c N) (h' : Told wb bb v d N) : c = d ∧ ∃ n R, Own wa ba u n R ∧ Own wb bb v n R ∧ n ≤ 8192 := by
  rcases h with ⟨h1, rfl, n, h2, h3⟩ | ⟨h1, rfl, rfl⟩
  · rcases h' with ⟨k1, rfl, n', k2, k3⟩ | ⟨k1, _⟩
    · have e : n = n' := Nat.le_antisymm (h3.le k3.1) (k3.le h3.1)
      subst e
      exact ⟨rfl, n, N, h2, k2, h3.fits.2 h1⟩
    · exact absurd h1 k1
  · rcases h' with ⟨k1, _⟩ | ⟨_, rfl, rfl⟩
    · exact absurd k1 h1
    · exact ⟨rfl, 0, 0, Own.nil _ _, Own.nil _ _, by omega⟩

end Go.Proofs.YtmfimhpbdbbpoaaDoor

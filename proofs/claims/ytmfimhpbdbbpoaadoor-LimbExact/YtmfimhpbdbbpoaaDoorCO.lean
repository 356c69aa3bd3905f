/- The document's Tenth. -/
import Derived.Test.YtmfimhpbdbbpoaaDoorCN
namespace Go.Proofs.YtmfimhpbdbbpoaaDoor
open Go.RowKit
open M
set_option linter.unusedVariables false
set_option linter.unusedSimpArgs false

/-- Behind i limbs of Tenth, from the highest. -/
def TnSt (w : World) (g N k i : Nat) (wr : World) : Prop :=
  (∀ j, j < k → wr.cell? ⟨g, j, none⟩ = some (.int .u32 ((if k - i ≤ j then dg (N / 10) j else 0 : Nat) : Int)) ∧ wr.frozen? ⟨g, j, none⟩ = false) ∧ Below w.heap.size w wr

theorem TnSt.step {w wr : World} {g N k i : Nat} (h : TnSt w g N k i wr) (hg : w.heap.size ≤ g) (j : Nat) (hj : k - i = j + 1) (x : Int) (hx : x = (dg (N / 10) j : Nat)) (hi : i < k) :
    TnSt w g N k (i + 1) (wr.setCell ⟨g, j, none⟩ (.int .u32 x)) := by
  refine ⟨fun p hp => ⟨?_, by rw [frozen_setCell]; exact (h.1 p hp).2⟩, h.2.setCell hg _⟩
  by_cases e : p = j
  · subst e
    rw [cell_setCell_eq wr _ _ _ _ (h.1 p hp).1, if_pos (by omega), hx]
  · rw [cell_setCell_ne _ _ _ _ _ e, (h.1 p hp).1]
    by_cases e2 : k - i ≤ p
    · rw [if_pos e2, if_pos (by omega)]
    · rw [if_neg e2, if_neg (by omega)]

theorem TnSt.row {w wr : World} {g N k : Nat} (h : TnSt w g N k k wr) (hN : N < 4294967296 ^ k) (hk : k ≤ 70368744177664) : RowX (fun _ => True) wr (.slice (some ⟨g, 0, none⟩) k k) k (N / 10) := by
  refine ⟨Nat.lt_of_le_of_lt (Nat.div_le_self _ _) hN, hk, _, k, rfl, Nat.le_refl _, fun _ => ⟨g, 0, rfl, trivial, fun j hj => ?_⟩⟩
  rw [Nat.zero_add, (h.1 j hj).1, if_pos (by omega)]

set_option maxRecDepth 100000 in
set_option maxHeartbeats 2000000 in
theorem rTenth_any {S : Nat → Prop} (v : Value) (k N : Nat) (w : World) (h : RowX S w v k N) (hk : k ≤ 100000) :
    Calls Tryd.prog 61 #[v] w fun e w' => ∃ r n, e = .returned (.tuple #[r, .int .u8 (N % 10 : Nat)]) ∧ Own w' w.heap.size r n (N / 10) ∧ Nrm n (N / 10) ∧ n ≤ k ∧ Below w.heap.size w w' := by
  obtain ⟨i5, hi5⟩ := info32
  have Hi := hide hi5
  clear hi5
  have HR := hide (Row.old h.row)
  have HA := hide h.1
  obtain ⟨_, _, ad, cap, rfl, _, _⟩ := h
  have HS0 : Hid (TnSt w w.heap.size N k 0 (w.alloc (.cells (madeCells #[Value.int .u32 0] k) 24))) := by
    have hw := wk_of_block (w := w.alloc (.cells (madeCells #[Value.int .u32 0] k) 24)) (g := w.heap.size) (k := k) (N := 0) (pw_pos _) (make_block w k)
    refine ⟨fun j hj => ⟨?_, ?_⟩, (Below.refl _ _).alloc (Nat.le_refl _) _⟩
    · have := hw.cell j (by omega)
      rw [Nat.zero_add, dg_zero] at this
      rw [this, if_neg (by omega)]
    · have := hw.free j (by omega)
      rwa [Nat.zero_add] at this
  go_enter Tryd.func61, Tryd.ntmps61
  go_wp2_with (at_make; refine wpList_make_row _ rfl _ _ _ rfl 24 i5 (.int .u32 0) Tryd.underlying23 Hi.out.1 Hi.out.2.1 Hi.out.2.2.1 rfl .i64 .i64 k rfl rfl (by rw [Hi.out.2.2.2]; omega) (by omega) ?_)
  generalize w.alloc (.cells (madeCells #[Value.int .u32 0] k) 24) = wa at *
  go_loopw [5, 6] (fun t5 t6 wr => ∃ i : Nat, i ≤ k ∧ t5 = .int .u64 (N / 4294967296 ^ (k - i) % 10 : Nat) ∧ t6 = .int .i64 ((k : Int) - 1 - (i : Int)) ∧ Hid (TnSt w w.heap.size N k i wr)) (fun _ t6 _ => (intOf t6 + 1).toNat)
  case atStart => exact ⟨0, by omega, by rw [Nat.sub_zero, Nat.div_eq_of_lt HA.out, Nat.zero_mod]; rfl, by go_num, HS0⟩
  case round =>
    obtain ⟨i, hi, rfl, rfl, HS⟩ := hrel
    by_cases hlt : i < k
    · obtain ⟨j, hj, hj'⟩ : ∃ j : Nat, k - i = j + 1 ∧ (k : Int) - 1 - (i : Int) = (j : Int) := ⟨k - 1 - i, by omega, by omega⟩
      have hjk : j < k := by omega
      have hjk' : (j : Int) < (k : Int) := by omega
      obtain ⟨_, _, ad2, cap2, hv2, _, hcell2⟩ := HR.out.belowB HS.out.2
      obtain ⟨g2, o2, ha2, _, hj2⟩ := hcell2 (by omega)
      simp only [Value.slice.injEq] at hv2
      rw [← hv2.1] at ha2
      subst ha2
      have hx := hj2 j hjk
      have hy := (HS.out.1 j hjk).1
      rw [if_neg (by omega)] at hy
      have hf := (HS.out.1 j hjk).2
      have Hs := hide (shrink_step N 10 j (by omega) (by omega))
      have hrl : N / 4294967296 ^ (j + 1) % 10 < 10 := Nat.mod_lt _ (by omega)
      have hdl := dg_lt N j
      rw [hj', hj]
      have HJ : Hid (k - i = j + 1 ∧ (k : Int) - 1 - ((i + 1 : Nat) : Int) = (j : Int) - 1 ∧ k - (i + 1) = j) := ⟨hj, by omega, by omega⟩
      clear hj hj' hj2 hcell2 hv2
      generalize N / 4294967296 ^ (j + 1) % 10 = r at *
      generalize dg N j = d at *
      obtain ⟨z, hz, hz1⟩ : ∃ z : Nat, r * 4294967296 + d = z ∧ (r : Int) * 4294967296 + (d : Int) = (z : Int) := ⟨_, rfl, by omega⟩
      have hzl : z < 42949672960 := by omega
      rw [hz] at Hs
      clear hz
      obtain ⟨q, hq1, hq2, hq3⟩ : ∃ q : Nat, z / 10 = q ∧ (z : Int).tdiv 10 = (q : Int) ∧ (z : Int) / 10 = (q : Int) := ⟨z / 10, rfl, rfl, by omega⟩
      obtain ⟨t, ht1, ht2, ht3⟩ : ∃ t : Nat, z % 10 = t ∧ (z : Int).tmod 10 = (t : Int) ∧ (z : Int) % 10 = (t : Int) := ⟨z % 10, rfl, rfl, by omega⟩
      have hql : q < 4294967296 := by omega
      have hqm : (q : Int) % 4294967296 = (q : Int) := by omega
      have htl : t < 10 := by omega
      rw [hq1, ht1] at Hs
      clear hq1 ht1
      go_wp2_with fail
      go_roundw
      case rel =>
        refine ⟨i + 1, by omega, ?_, by rw [HJ.out.2.1], HS.out.step (Nat.le_refl _) j HJ.out.1 _ (by rw [← Hs.out.1]) hlt⟩
        rw [HJ.out.2.2, ← Hs.out.2.1]
      case measure => simp [intOf] <;> omega
    · obtain rfl : i = k := by omega
      have HT := hide (rtrim_any _ i (N / 10) wr (HS.out.row HA.out (by omega)) (by omega))
      have hneg : ¬ (0 : Int) ≤ (i : Int) - 1 - (i : Int) := by omega
      have hr : N / 4294967296 ^ (i - i) % 10 = N % 10 := by rw [Nat.sub_self, Nat.pow_zero, Nat.div_one]
      rw [hr]
      have HB := hide HS.out.2
      have hml : N % 10 < 10 := Nat.mod_lt _ (by omega)
      clear HS hr
      generalize hm : N % 10 = m at *
      have Hm := hide hm
      clear hm
      have hmm : (m : Int) % 256 = (m : Int) := by omega
      go_wp2_with fail
      refine HT.out.mono ?_
      rintro e w2 ⟨x, rfl, n, ho, hn, hnk, hb⟩
      have H2 : Hid (Own w2 w.heap.size x n (N / 10) ∧ Nrm n (N / 10) ∧ n ≤ i ∧ Below w.heap.size w w2) := ⟨ho.mono HB.out.size, hn, hnk, HB.out.trans (hb.mono HB.out.size)⟩
      clear ho hn hnk hb HT
      go_wp2_with fail
      go_ret2
      exact ⟨x, n, by rw [Hm.out]; rfl, H2.out⟩

end Go.Proofs.YtmfimhpbdbbpoaaDoor

/- nat. -/
import Derived.Test.YtmfimhpbdbbpoaaDoorQ
/- The laws' helpers: ok, add, sub, mul, EqNat, eq. -/
namespace Go.Proofs.YtmfimhpbdbbpoaaDoor
open Go.RowKit
open M
set_option linter.unusedVariables false
set_option linter.unusedSimpArgs false



set_option maxRecDepth 100000 in
set_option maxHeartbeats 1000000 in
theorem eqNat_any {S S' : Nat → Prop} (v u : Value) (k A m C : Nat) (w : World) (h : RowX S w v k A) (h' : RowX S' w u m C) :
    Calls Tryd.prog 53 #[v, u] w fun e w' => e = .returned (.bool (decide (k = m ∧ A = C))) ∧ ∃ n, w' = w.drewN n := by
  have HA := hide h.1
  have HC := hide h'.1
  obtain ⟨hN, hk, ad, cap, rfl, hc, hcell⟩ := h
  obtain ⟨hN', hk', ad', cap', rfl, hc', hcell'⟩ := h'
  by_cases hkm : k = m
  · subst hkm
    have H1 := hide hcell
    have H2 := hide hcell'
    clear hN hN' hcell hcell'
    go_enter Tryd.func53, Tryd.ntmps53
    go_wp2_with fail
    go_loopw [5] (fun t5 wr => ∃ i : Nat, i ≤ k ∧ t5 = .int .i64 i ∧ Hid ((∀ j, j < i → dg A j = dg C j) ∧ ∃ n, wr = w.drewN n)) (fun t5 _ => k - (intOf t5).toNat)
    case atStart => exact ⟨0, by omega, rfl, fun j hj => by omega, 0, rfl⟩
    case round =>
      obtain ⟨i, hi, rfl, HI⟩ := hrel
      by_cases hlt : i < k
      · have hlt' : (i : Int) < (k : Int) := by omega
        obtain ⟨g, o, rfl, _, hc1⟩ := H1.out (by omega)
        obtain ⟨g', o', rfl, _, hc2⟩ := H2.out (by omega)
        have hx : wr.cell? ⟨g, o + i, none⟩ = some (.int .u32 (dg A i : Nat)) := by obtain ⟨n, rfl⟩ := HI.out.2; exact hc1 i hlt
        have hy : wr.cell? ⟨g', o' + i, none⟩ = some (.int .u32 (dg C i : Nat)) := by obtain ⟨n, rfl⟩ := HI.out.2; exact hc2 i hlt
        have HX : Hid (dg A i = dg C i → ∀ j, j < i + 1 → dg A j = dg C j) := fun e j hj => by
          by_cases ej : j = i
          · subst ej; exact e
          · exact HI.out.1 j (by omega)
        have HY : Hid (dg A i ≠ dg C i → ¬ (k = k ∧ A = C)) := fun h e => h (by rw [e.2])
        clear hc1 hc2
        generalize dg A i = x at *
        generalize dg C i = y at *
        by_cases hxy : x = y
        · subst hxy
          have HQ := hide (HX.out rfl)
          clear HX HY
          go_wp2_with fail
          go_quiet (fail)
          go_wp2_with fail
          refine ⟨⟨i + 1, by omega, by go_num, HQ.out, ?_⟩, by simp [intOf]; omega⟩
          obtain ⟨n, rfl⟩ := HI.out.2
          exact ⟨n + nq, World.drewN_drewN _ _ _⟩
        · have hne : ((x : Int) == (y : Int)) = false := by rw [beq_eq_false_iff_ne]; omega
          have hne2 : ((x : Int) != (y : Int)) = true := by rw [bne_iff_ne]; omega
          have HQ := hide (HY.out hxy)
          clear HX HY
          go_wp2_with fail
          go_quiet (fail)
          go_wp2_with fail
          go_ret
          refine ⟨by rw [decide_eq_false HQ.out]; rfl, ?_⟩
          obtain ⟨n, rfl⟩ := HI.out.2
          exact ⟨n + nq, World.drewN_drewN _ _ _⟩
      · have HQ : Hid (A = C) := ext HA.out HC.out (fun j hj => HI.out.1 j (by omega))
        go_wp2_with fail
        go_ret
        have e := HQ.out
        exact ⟨by simp [e], HI.out.2⟩
  · have hne : ((k : Int) == (m : Int)) = false := by rw [beq_eq_false_iff_ne]; omega
    have hne2 : ((k : Int) != (m : Int)) = true := by rw [bne_iff_ne]; omega
    have HQ : Hid (¬ (k = m ∧ A = C)) := fun e => hkm e.1
    clear hcell hcell' hN hN'
    go_enter Tryd.func53, Tryd.ntmps53
    go_wp2_with fail
    go_ret
    exact ⟨by rw [decide_eq_false HQ.out]; rfl, 0, rfl⟩


end Go.Proofs.YtmfimhpbdbbpoaaDoor

namespace Go.Proofs.YtmfimhpbdbbpoaaDoor
open Go.RowKit
open M
set_option linter.unusedVariables false
set_option linter.unusedSimpArgs false

theorem limbsV_succ (i N : Nat) : limbsV (i + 1) N = limbsV i N ++ [.int .u32 (dg N i : Nat)] := by simp [limbsV, List.range_succ]
theorem limbsV_mod (i N : Nat) : limbsV i (N % 4294967296 ^ i) = limbsV i N := by
  unfold limbsV
  apply List.map_congr_left
  intro j hj
  rw [dg_mod N (List.mem_range.1 hj)]

/-- Behind i limbs that were taken over. -/
def NatSt (w : World) (N i : Nat) (v : Value) (wr : World) : Prop := wr.ownsRow w.heap.size 24 1 v i (limbsV i N) ∧ Below w.heap.size w wr

theorem NatSt.next {w wr w4 : World} {N i g cap : Nat} {v : Value} (h : NatSt w N i v wr)
    (ho : w4.ownsRow w.heap.size 24 1 (.slice (some ⟨g, 0, none⟩) (i + 1) cap) (i + 1) (limbsV i N ++ [.int .u32 (dg N i : Nat)]))
    (hg : (wr.alloc (.cells #[.int .u32 (dg N i : Nat)] 24)).grownBy w4 v.ownBlock) : NatSt w N (i + 1) (.slice (some ⟨g, 0, none⟩) (i + 1) cap) w4 := by
  refine ⟨by rw [limbsV_succ]; exact ho, (h.2.alloc h.2.size _).trans (grown_below hg (fun g hg => (h.1.lt g hg).1) (by have := h.2.size; simp; omega))⟩

/-- A row that came in: as long as may be. -/
def RowL (w : World) (v : Value) (k N : Nat) : Prop :=
  N < 4294967296 ^ k ∧ k ≤ 9223372036854775807 ∧ ∃ ad cap, v = .slice ad k cap ∧ k ≤ cap ∧
    (0 < k → ∃ g o, ad = some ⟨g, o, none⟩ ∧ g < w.heap.size ∧ ∀ j, j < k → w.cell? ⟨g, o + j, none⟩ = some (.int .u32 (dg N j : Nat)))

theorem RowL.belowB {w w' : World} {v : Value} {k N : Nat} (h : RowL w v k N) (hb : Below w.heap.size w w') : RowL w' v k N := by
  obtain ⟨h1, h2, ad, cap, hv, hc, hcell⟩ := h
  refine ⟨h1, h2, ad, cap, hv, hc, fun hk => ?_⟩
  obtain ⟨g, o, ha, hg, hj⟩ := hcell hk
  exact ⟨g, o, ha, Nat.lt_of_lt_of_le hg hb.size, fun j hj' => by rw [hb.cell (p := ⟨g, o + j, none⟩) hg]; exact hj j hj'⟩

theorem RowL.row {w : World} {v : Value} {k N : Nat} (h : RowL w v k N) (hk : k ≤ 70368744177664) : Row w v k N := by
  obtain ⟨h1, h2, ad, cap, hv, hc, hcell⟩ := h
  refine ⟨h1, hk, ad, cap, hv, hc, fun hk => ?_⟩
  obtain ⟨g, o, ha, hg, hj⟩ := hcell hk
  exact ⟨g, o, ha, trivial, hj⟩


end Go.Proofs.YtmfimhpbdbbpoaaDoor

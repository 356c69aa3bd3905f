/- Small. -/
import Derived.Test.YtleeahigceppiaaDoorP
/- (limb's T has nothing that is needed here.) -/
namespace Go.Proofs.YtleeahigceppiaaDoor
end Go.Proofs.YtleeahigceppiaaDoor

namespace Go.Proofs.YtleeahigceppiaaDoor
open Go.RowKit
open M
set_option linter.unusedVariables false
set_option linter.unusedSimpArgs false

theorem copy_new_t {S : Nat → Prop} (w : World) (v : Value) (k N m g : Nat) (dT sT ty bt : TypeId) (hu : Tryd.prog.underlying dT = some (.slice 85)) (h : RowX S w v k N) (hkm : k ≤ m) (hg : w.heap[g]? = some (.cells (limbsV m 0).toArray bt (0, 0))) :
    ∃ w', (Builtin.copy_ #[dT, sT] ty #[.slice (some ⟨g, 0, none⟩) m m, v]).run Tryd.prog w = .ok (goInt k) w' ∧ w'.heap[g]? = some (.cells (limbsV m N).toArray bt (0, 0)) ∧ Below g w w' := by
  obtain ⟨hN, hk, ad, cap, rfl, hc, hcell⟩ := h
  have hmin : (limbsV k N).length = Nat.min k m := by rw [limbsV_length]; exact (Nat.min_eq_left hkm).symm
  have hsp : (limbsV m 0).take 0 ++ limbsV k N ++ (limbsV m 0).drop (0 + (limbsV k N).length) = limbsV m N := by
    apply List.ext_getElem?
    intro j
    simp only [List.take_zero, List.nil_append, limbsV_length, Nat.zero_add]
    rcases Nat.lt_or_ge j k with h | h
    · rw [List.getElem?_append_left (by simpa using h), limbsV_get k N j h, limbsV_get m N j (by omega)]
    · rw [List.getElem?_append_right (by simpa using h), limbsV_length, List.getElem?_drop, show k + (j - k) = j from by omega]
      rcases Nat.lt_or_ge j m with h1 | h1
      · rw [limbsV_get m 0 j h1, limbsV_get m N j h1, dg_high hN h, dg_zero]
      · rw [List.getElem?_eq_none (by simpa using h1), List.getElem?_eq_none (by simpa using h1)]
  by_cases h0 : k = 0
  · subst h0
    have hz : N = 0 := by simpa using hN
    subst hz
    exact ⟨w, run_copy_none w dT sT ty _ _ _ _ _ _ _ hu size32 (by simp), hg, Below.refl _ _⟩
  · obtain ⟨g', o, rfl, _, hj⟩ := hcell (by omega)
    have hr := run_copy_row (P := Tryd.prog) w dT sT ty 85 g 0 m m ⟨g', o, none⟩ k cap (limbsV m 0).toArray bt (limbsV k N) hu size32 hg hmin ?_ (by simpa using hkm) (limbsV_cell k N)
    · rw [limbsV_length] at hr
      refine ⟨_, hr, ?_, below_setRow (Below.refl _ _) (Nat.le_refl _) _⟩
      rw [setRow_heap w g _ _ _ _ hg]
      rw [limbsV_length] at hsp
      simp only [Option.some.injEq, Obj.cells.injEq, and_true]
      exact congrArg List.toArray hsp
    · intro j u hju
      have hjk : j < k := by
        rcases Nat.lt_or_ge j k with h | h
        · exact h
        · rw [List.getElem?_eq_none (by simpa using h)] at hju; cases hju
      rw [limbsV_get k N j hjk] at hju
      rw [← hju, show (⟨g', o, none⟩ : Addr).add j = ⟨g', o + j, none⟩ from by unfold Addr.add; split <;> simp_all]
      exact hj j hjk

theorem limbs_two (N : Nat) : (limbsV 2 N).toArray = #[.int .u32 (dg N 0 : Nat), .int .u32 (dg N 1 : Nat)] := rfl

set_option maxRecDepth 100000 in
set_option maxHeartbeats 1000000 in
theorem Small_row {S : Nat → Prop} (v : Value) (k N : Nat) (w : World) (h : RowX S w v k N) (hn : Nrm k N) (hk : k ≤ 2) :
    Calls Tryd.prog 46 #[v] w fun e w' => e = .returned (.tuple #[.int .u64 N, .bool true]) ∧ Below w.heap.size w w' := by
  have HC := hide (check_ok v k N w h hn (by omega))
  have hb1 : Below w.heap.size w (w.alloc (.cells (limbsV 2 0).toArray 96)) := (Below.refl _ _).alloc (Nat.le_refl _) _
  obtain ⟨w', hrun, hg', hb'⟩ := copy_new_t (w.alloc (.cells (limbsV 2 0).toArray 96)) v k N 2 w.heap.size 63 64 3 96 Tryd.underlying63 (h.below hb1) hk (heap_alloc_new w _)
  have e0 : (limbsV 2 0).toArray = #[.int .u32 0, .int .u32 0] := by rw [limbs_two, dg_zero, dg_zero]; rfl
  rw [limbs_two] at hg'
  rw [e0] at hrun
  have HB : Hid (Below w.heap.size w w') := hb1.trans hb'
  have hc0 : w'.cell? ⟨w.heap.size, 0, none⟩ = some (.int .u32 (dg N 0 : Nat)) := by rw [cell_of_row _ _ 0 _ _ (0, 0) hg']; rfl
  have hc1 : w'.cell? ⟨w.heap.size, 1, none⟩ = some (.int .u32 (dg N 1 : Nat)) := by rw [cell_of_row _ _ 1 _ _ (0, 0) hg']; rfl
  have HE : Hid (dg N 1 * 4294967296 + dg N 0 = N) := by
    have hlt : N < 4294967296 ^ 2 := Nat.lt_of_lt_of_le hn.1 (Nat.pow_le_pow_right (by omega) hk)
    show _ = _
    unfold dg
    simp
    omega
  have hd0 := dg_lt N 0
  have hd1 := dg_lt N 1
  obtain ⟨_, _, ad, cap, rfl, hc, _⟩ := h
  clear hg' hb' hb1 hn e0
  generalize dg N 0 = x at *
  generalize dg N 1 = y at *
  have ho1 := or_hi y x hd1 hd0
  have ho2 := or_hi_w y x hd1 hd0
  have hk2 : ¬ (2 : Int) < (k : Int) := by omega
  go_enter Tryd.func46, Tryd.ntmps46
  go_wp2_with fail
  refine HC.out.mono ?_
  rintro e w1 ⟨rfl, hw1⟩
  subst hw1
  go_wp2_with fail
  go_ret2
  exact ⟨by rw [← HE.out]; rfl, HB.out⟩

end Go.Proofs.YtleeahigceppiaaDoor

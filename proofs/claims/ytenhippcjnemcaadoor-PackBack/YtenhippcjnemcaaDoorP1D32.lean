/- The contracts of pick, of a window's lay (32 bits). -/
import Derived.Test.YtenhippcjnemcaaDoorP1C32
namespace Go.Proofs.YtenhippcjnemcaaDoor
open Go.RowKit
open M
set_option linter.unusedVariables false
set_option linter.unusedSimpArgs false

/-- A column's state: the value ahead, the window that was laid last. -/
structure Col32 (w : World) (c : Nat) (p L N : Nat) : Prop where
  ahead : w.cell? ⟨c, 0, none⟩ = some (.int .u32 (p : Int))
  lead : w.cell? ⟨c, 1, none⟩ = some (.int .i64 (L : Int))
  len : w.cell? ⟨c, 2, none⟩ = some (.int .i64 (N : Int))
  fz : ∀ i, w.frozen? ⟨c, i, none⟩ = false

theorem Col32.lt {w : World} {c p L N : Nat} (h : Col32 w c p L N) : c < w.heap.size := block_lt_of_cell h.ahead
theorem Col32.below {w w' : World} {c p L N B : Nat} (h : Col32 w c p L N) (hB : Below B w w') (hc : c < B) : Col32 w' c p L N := by
  have e := hB.block c hc
  exact ⟨by rw [World.cell?_of_block (w := w) e]; exact h.ahead, by rw [World.cell?_of_block (w := w) e]; exact h.lead, by rw [World.cell?_of_block (w := w) e]; exact h.len,
    fun i => by rw [World.frozen?_of_block (w := w) (w' := w') (a := ⟨c, i, none⟩) e]; exact h.fz i⟩

/-- What pick tells. -/
def PickE32 (P : Prop) (L N l' n' : Nat) (w : World) (e : Ending) (w' : World) : Prop :=
  ∃ (l n : Nat) (own : Bool), e = .returned (.tuple #[.agg #[.int .i64 (l : Int), .int .i64 (n : Int)], .bool own]) ∧ Below w.heap.size w w' ∧
    ((own = false ∧ P ∧ l = L ∧ n = N) ∨ (own = true ∧ ¬ P ∧ l = l' ∧ n = n'))
def PickEnd32 (L N x : Nat) (w : World) (e : Ending) (w' : World) : Prop := PickE32 (sut 32 5 L N x) L N (32 - bitLen x) (wl x) w e w'

set_option maxRecDepth 100000 in
set_option maxHeartbeats 4000000 in
theorem pick32_any (c p L N x : Nat) (w : World) (h : Col32 w c p L N) (hw : L + N ≤ 32) (hx : x < 4294967296) (h0 : x ≠ 0) (hT : Tab64 w) :
    Calls Tryd.prog 48 #[.pointer (some ⟨c, 0, none⟩), .int .u32 x] w (PickEnd32 L N x w) := by
  have hb := bitLen_le x 32 hx
  have ht := tz_lt x h0 (by omega)
  have HW : Hid (32 - bitLen x + wl x ≤ 32 ∧ (sut 32 5 L N x ↔ (0 < N ∧ L ≤ 32 - bitLen x ∧ 32 - L - N ≤ 32 - (32 - bitLen x) - wl x ∧ N ≤ wl x + 2 * 5))) := by
    have q : wl x = bitLen x - tz x := rfl
    refine ⟨by omega, ?_⟩
    unfold sut
    rw [show 32 - (32 - bitLen x) - wl x = tz x from by omega]
  have HWO : Hid (∀ w, Tab64 w → Calls Tryd.prog 58 #[.int .u32 x] w fun e w' => e = .returned (.agg #[.int .i64 ((32 - bitLen x : Nat) : Int), .int .i64 (wl x : Int)]) ∧ Below w.heap.size w w') := fun w h => windowOf32_any x w hx h0 h
  have HH := hide h
  have HT := hide hT
  have HL := hide hw
  clear h hT hw hb ht hx
  unfold PickEnd32
  generalize 32 - bitLen x = l at *
  generalize wl x = n at *
  have HN0 : Hid ((w.alloc (.cells #[.int .i64 0, .int .i64 0] 78)).heap[w.heap.size]? = some (.cells #[.int .i64 0, .int .i64 0] 78 (0, 0)) ∧ Below w.heap.size w (w.alloc (.cells #[.int .i64 0, .int .i64 0] 78))) := ⟨heap_alloc_new w _, (Below.refl _ w).alloc (Nat.le_refl _) _⟩
  go_enter Tryd.func48, Tryd.ntmps48
  go_wp2_with fail
  generalize w.alloc (.cells #[.int .i64 0, .int .i64 0] 78) = w0 at *
  refine (HWO.out _ (HT.out.below HN0.out.2)).mono ?_
  rintro e w1 ⟨rfl, hb1⟩
  have s0 : w.heap.size < w0.heap.size := size_lt_of_row HN0.out.1
  have s1 := hb1.size
  have HB2 : Hid (Below w.heap.size w (w1.alloc (.cells #[.int .i64 (l : Int), .int .i64 (n : Int)] 78)) ∧ w.heap.size ≤ (w1.alloc (.cells #[.int .i64 (l : Int), .int .i64 (n : Int)] 78)).heap.size ∧
      (w1.alloc (.cells #[.int .i64 (l : Int), .int .i64 (n : Int)] 78)).heap[w.heap.size]? = some (.cells #[.int .i64 0, .int .i64 0] 78 (0, 0)) ∧
      (w1.alloc (.cells #[.int .i64 (l : Int), .int .i64 (n : Int)] 78)).heap[w1.heap.size]? = some (.cells #[.int .i64 (l : Int), .int .i64 (n : Int)] 78 (0, 0))) := by
    have b1 : Below w.heap.size w w1 := HN0.out.2.trans (hb1.mono HN0.out.2.size)
    refine ⟨b1.alloc (by omega) _, by simp; omega, ?_, heap_alloc_new w1 _⟩
    exact new_kept (by rw [hb1.block w.heap.size s0]; exact HN0.out.1) _
  clear hb1 HN0
  go_wp2_with fail
  obtain ⟨H, hH⟩ : ∃ H, w1.heap.size = H := ⟨_, rfl⟩
  rw [hH] at HB2 s1 ⊢
  generalize w1.alloc (.cells #[.int .i64 (l : Int), .int .i64 (n : Int)] 78) = w2 at *
  obtain ⟨G, hG⟩ : ∃ G, w.heap.size = G := ⟨_, rfl⟩
  have hcG : c < w.heap.size := HH.out.lt
  have HC2 : Hid (Col32 w2 c p L N) := HH.out.below HB2.out.1 hcG
  rw [hG] at HB2 s0 hcG ⊢
  have HG := hide hG
  clear hG hH
  have HBW : Hid (Below G w w2 ∧ G ≤ w2.heap.size) := ⟨HB2.out.1, HB2.out.2.1⟩
  have c0 : w2.cell? ⟨c, 1, none⟩ = some (.int .i64 (L : Int)) := HC2.out.lead
  have c1 : w2.cell? ⟨c, 2, none⟩ = some (.int .i64 (N : Int)) := HC2.out.len
  have c2 : w2.cell? ⟨H, 0, none⟩ = some (.int .i64 (l : Int)) := by rw [cell_of_row _ _ _ _ _ _ HB2.out.2.2.2]; rfl
  have c3 : w2.cell? ⟨H, 1, none⟩ = some (.int .i64 (n : Int)) := by rw [cell_of_row _ _ _ _ _ _ HB2.out.2.2.2]; rfl
  have HGB := hide HB2.out.2.2.1
  clear HB2 HC2
  go_region_held3 (fun w' => w'.cell? ⟨c, 1, none⟩ = some (.int .i64 (L : Int)) ∧ w'.cell? ⟨c, 2, none⟩ = some (.int .i64 (N : Int)) ∧ w'.cell? ⟨H, 0, none⟩ = some (.int .i64 (l : Int)) ∧ w'.cell? ⟨H, 1, none⟩ = some (.int .i64 (n : Int))) (first | exact ⟨d0, d1, d2, d3⟩ | exact ⟨c0, c1, c2, c3⟩)
    ((go_at_call 59; go_must (refine (suits32_any L N l n _ HL.out HW.out.1).mono ?_); rintro _ wz ⟨v, rfl, hv, hbz⟩; (have d0 : wz.cell? ⟨c, 1, none⟩ = some (.int .i64 (L : Int)) := by rw [hbz.cell (p := ⟨c, 1, none⟩) (block_lt_of_cell c0)]; exact c0); (have d1 : wz.cell? ⟨c, 2, none⟩ = some (.int .i64 (N : Int)) := by rw [hbz.cell (p := ⟨c, 2, none⟩) (block_lt_of_cell c1)]; exact c1); (have d2 : wz.cell? ⟨H, 0, none⟩ = some (.int .i64 (l : Int)) := by rw [hbz.cell (p := ⟨H, 0, none⟩) (block_lt_of_cell c2)]; exact c2); (have d3 : wz.cell? ⟨H, 1, none⟩ = some (.int .i64 (n : Int)) := by rw [hbz.cell (p := ⟨H, 1, none⟩) (block_lt_of_cell c3)]; exact c3); (have HGZ : Hid (wz.heap[G]? = some (.cells #[.int .i64 0, .int .i64 0] 78 (0, 0))) := (by show _ = _; rw [hbz.block G (size_lt_of_row HGB.out)]; exact HGB.out)); (have HBW : Hid (Below G w wz ∧ G ≤ wz.heap.size) := next_below HBW.out hbz ⟨rfl, rfl, rfl, Nat.le_refl _, fun _ _ => rfl⟩); clear hbz))
  rw [← HW.out.2] at hv
  have HV := hide hv
  clear hv
  have f0 : wz.frozen? ⟨G, 0, none⟩ = false := frozen_of_row _ _ _ _ _ HGZ.out
  have f1 : wz.frozen? ⟨G, 1, none⟩ = false := frozen_of_row _ _ _ _ _ HGZ.out
  have g0 : wz.cell? ⟨G, 0, none⟩ = some (.int .i64 0) := by rw [cell_of_row _ _ _ _ _ _ HGZ.out]; rfl
  have g1 : wz.cell? ⟨G, 1, none⟩ = some (.int .i64 0) := by rw [cell_of_row _ _ _ _ _ _ HGZ.out]; rfl
  cases v with
  | true =>
    go_wp2_with fail
    obtain ⟨r0, r1⟩ := set_two (v := .int .i64 (L : Int)) (v' := .int .i64 (N : Int)) g0 g1
    refine bodyPost_ret (v := .tuple #[.agg #[.int .i64 (L : Int), .int .i64 (N : Int)], .bool false]) (by simp [results, Tryd.results48, go_sem, r0, r1]) rfl ?_
    refine ⟨L, N, false, rfl, ?_, ?_⟩
    · rw [HG.out]; exact (HBW.out.1.setCell (Nat.le_refl _) _).setCell (Nat.le_refl _) _
    · exact .inl ⟨rfl, HV.out.1 (by trivial), rfl, rfl⟩
  | false =>
    go_wp2_with fail
    obtain ⟨r0, r1⟩ := set_two (v := .int .i64 (l : Int)) (v' := .int .i64 (n : Int)) g0 g1
    refine bodyPost_ret (v := .tuple #[.agg #[.int .i64 (l : Int), .int .i64 (n : Int)], .bool true]) (by simp [results, Tryd.results48, go_sem, r0, r1]) rfl ?_
    refine ⟨l, n, true, rfl, ?_, ?_⟩
    · rw [HG.out]; exact (HBW.out.1.setCell (Nat.le_refl _) _).setCell (Nat.le_refl _) _
    · exact .inr ⟨rfl, fun h => (by have := HV.out.2 h; cases this), rfl, rfl⟩

end Go.Proofs.YtenhippcjnemcaaDoor

/- The contracts of a window's lay, a column's lay (64 bits). -/
import Derived.Test.YtpdaklklhoenhaaGreatDoorP1B64
/- The contracts of suits, pick (64 bits). -/
namespace Go.Proofs.YtpdaklklhoenhaaGreatDoor
open Go.RowKit
open M
set_option linter.unusedVariables false
set_option linter.unusedSimpArgs false

/-- What suits tells. -/
def SuitEnd64 (L N l n : Nat) (w : World) (e : Ending) (w' : World) : Prop :=
  ∃ v : Bool, e = .returned (.bool v) ∧ (v = true ↔ 0 < N ∧ L ≤ l ∧ 64 - L - N ≤ 64 - l - n ∧ N ≤ n + 2 * 6) ∧ Below w.heap.size w w'

theorem boxed64 (w : World) (L N l n : Nat) : ((w.alloc (.cells #[.int .i64 (L : Int), .int .i64 (N : Int)] 225)).alloc (.cells #[.int .i64 (l : Int), .int .i64 (n : Int)] 225)).cell? ⟨w.heap.size, 0, none⟩ = some (.int .i64 (L : Int)) ∧
    ((w.alloc (.cells #[.int .i64 (L : Int), .int .i64 (N : Int)] 225)).alloc (.cells #[.int .i64 (l : Int), .int .i64 (n : Int)] 225)).cell? ⟨w.heap.size, 1, none⟩ = some (.int .i64 (N : Int)) ∧
    ((w.alloc (.cells #[.int .i64 (L : Int), .int .i64 (N : Int)] 225)).alloc (.cells #[.int .i64 (l : Int), .int .i64 (n : Int)] 225)).cell? ⟨w.heap.size + 1, 0, none⟩ = some (.int .i64 (l : Int)) ∧
    ((w.alloc (.cells #[.int .i64 (L : Int), .int .i64 (N : Int)] 225)).alloc (.cells #[.int .i64 (l : Int), .int .i64 (n : Int)] 225)).cell? ⟨w.heap.size + 1, 1, none⟩ = some (.int .i64 (n : Int)) ∧
    Below w.heap.size w ((w.alloc (.cells #[.int .i64 (L : Int), .int .i64 (N : Int)] 225)).alloc (.cells #[.int .i64 (l : Int), .int .i64 (n : Int)] 225)) := by
  have h1 := new_kept (heap_alloc_new w (.cells #[.int .i64 (L : Int), .int .i64 (N : Int)] 225)) (.cells #[.int .i64 (l : Int), .int .i64 (n : Int)] 225)
  have h2 := heap_alloc_new (w.alloc (.cells #[.int .i64 (L : Int), .int .i64 (N : Int)] 225)) (.cells #[.int .i64 (l : Int), .int .i64 (n : Int)] 225)
  rw [World.size_alloc] at h2
  exact ⟨by rw [cell_of_row _ _ _ _ _ _ h1]; rfl, by rw [cell_of_row _ _ _ _ _ _ h1]; rfl, by rw [cell_of_row _ _ _ _ _ _ h2]; rfl, by rw [cell_of_row _ _ _ _ _ _ h2]; rfl, ((Below.refl _ w).alloc (Nat.le_refl _) _).alloc (by simp) _⟩

set_option maxRecDepth 100000 in
set_option maxHeartbeats 4000000 in
theorem suits64_a (L N l n : Nat) (w : World) (h1 : L + N ≤ 64) (h2 : l + n ≤ 64) (c : ¬ (L ≤ l)) :
    Calls Tryz.prog 230 #[wn64 L N, wn64 l n] w (SuitEnd64 L N l n w) := by
  have HNO : Hid (¬ (0 < N ∧ L ≤ l ∧ 64 - L - N ≤ 64 - l - n ∧ N ≤ n + 2 * 6)) := fun h => c h.2.1
  have cd : decide (L ≤ l) = false := decide_eq_false c
  have HS : Hid (∀ w, Calls Tryz.prog 213 #[.agg #[.int .i64 (L : Int), .int .i64 (N : Int)]] w fun e w' => e = .returned (.bool (decide (0 < N))) ∧ Below w.heap.size w w') := fun w => stands64_any L N w h1
  have HB1 : Hid (∀ w, Calls Tryz.prog 214 #[.agg #[.int .i64 (L : Int), .int .i64 (N : Int)]] w fun e w' => e = .returned (.int .i64 ((64 - L - N : Nat) : Int)) ∧ Below w.heap.size w w') := fun w => behind64_any L N (64 - L - N) w (by omega)
  have HB2 : Hid (∀ w, Calls Tryz.prog 214 #[.agg #[.int .i64 (l : Int), .int .i64 (n : Int)]] w fun e w' => e = .returned (.int .i64 ((64 - l - n : Nat) : Int)) ∧ Below w.heap.size w w') := fun w => behind64_any l n (64 - l - n) w (by omega)
  have HM := hide (boxed64 w L N l n)
  clear h1 h2 c
  unfold wn64
  go_enter Tryz.func230, Tryz.ntmps230
  go_wp2_with fail
  generalize (w.alloc (.cells #[.int .i64 (L : Int), .int .i64 (N : Int)] 225)).alloc (.cells #[.int .i64 (l : Int), .int .i64 (n : Int)] 225) = W1 at *
  obtain ⟨c0, c1, c2, c3, B1⟩ := HM.out
  have HBW : Hid (Below w.heap.size w W1 ∧ w.heap.size ≤ W1.heap.size) := ⟨B1, B1.size⟩
  clear B1 HM
  obtain ⟨G, hG⟩ : ∃ G, w.heap.size = G := ⟨_, rfl⟩
  rw [hG] at c0 c1 c2 c3 HBW ⊢
  have HG := hide hG
  clear hG
  refine wp_region_held_drew (S := fun w' => w'.cell? ⟨G, 0, none⟩ = some (.int .i64 (L : Int)) ∧ w'.cell? ⟨G, 1, none⟩ = some (.int .i64 (N : Int)) ∧ w'.cell? ⟨G + 1, 0, none⟩ = some (.int .i64 (l : Int)) ∧ w'.cell? ⟨G + 1, 1, none⟩ = some (.int .i64 (n : Int))) (by kernel_rfl) ⟨c0, c1, c2, c3⟩ (fun hHeld => ?_)
  refine wpAnyH_take (i := 0) (v := ?_) rfl (by kernel_rfl) (by kernel_rfl) (by kernel_rfl) (fun _ _ _ h => h) (Or.inl ⟨by rfl, ?_⟩) hHeld ?_
  rotate_left
  · (intro wq hSw; (try dsimp only at hSw); (try obtain ⟨s0, s1, s2, s3⟩ := hSw); (go_simp <;> with_reducible rfl))
  try simp only [Act.put, List.getElem_toArray, List.getElem_cons_zero, List.getElem_cons_succ, List.setIfInBounds_toArray, List.set_cons_zero, List.set_cons_succ]
  refine wpAnyH_take (i := 1) (v := ?_) rfl (by kernel_rfl) (by kernel_rfl) (by kernel_rfl) (fun _ _ _ h => h) (Or.inl ⟨by rfl, ?_⟩) hHeld ?_
  rotate_left
  · (intro wq hSw; (try dsimp only at hSw); (try obtain ⟨s0, s1, s2, s3⟩ := hSw); (go_simp <;> with_reducible rfl))
  try simp only [Act.put, List.getElem_toArray, List.getElem_cons_zero, List.getElem_cons_succ, List.setIfInBounds_toArray, List.set_cons_zero, List.set_cons_succ]
  refine wpAnyH_take (i := 2) (v := ?_) rfl (by kernel_rfl) (by kernel_rfl) (by kernel_rfl) (fun _ _ _ h => h) (Or.inl ⟨by rfl, ?_⟩) hHeld ?_
  rotate_left
  · (intro wq hSw; (try dsimp only at hSw); (try obtain ⟨s0, s1, s2, s3⟩ := hSw); (go_simp <;> with_reducible rfl))
  try simp only [Act.put, List.getElem_toArray, List.getElem_cons_zero, List.getElem_cons_succ, List.setIfInBounds_toArray, List.set_cons_zero, List.set_cons_succ]
  refine wpAnyH_take (i := 3) (v := ?_) rfl (by kernel_rfl) (by kernel_rfl) (by kernel_rfl) (fun _ _ _ h => h) (Or.inl ⟨by rfl, ?_⟩) hHeld ?_
  rotate_left
  · (intro wq hSw; (try dsimp only at hSw); (try obtain ⟨s0, s1, s2, s3⟩ := hSw); (go_simp <;> with_reducible rfl))
  try simp only [Act.put, List.getElem_toArray, List.getElem_cons_zero, List.getElem_cons_succ, List.setIfInBounds_toArray, List.set_cons_zero, List.set_cons_succ]
  refine wpAnyH_take (i := 4) (v := ?_) rfl (by kernel_rfl) (by kernel_rfl) (by kernel_rfl) (fun _ _ _ h => h) (Or.inl ⟨by rfl, ?_⟩) hHeld ?_
  rotate_left
  · (intro wq hSw; (try dsimp only at hSw); (try obtain ⟨s0, s1, s2, s3⟩ := hSw); (go_simp <;> with_reducible rfl))
  try simp only [Act.put, List.getElem_toArray, List.getElem_cons_zero, List.getElem_cons_succ, List.setIfInBounds_toArray, List.set_cons_zero, List.set_cons_succ]
  refine wpAnyH_take (i := 5) (v := ?_) rfl (by kernel_rfl) (by kernel_rfl) (by kernel_rfl) (fun _ _ _ h => h) (Or.inl ⟨by rfl, ?_⟩) hHeld ?_
  rotate_left
  · (intro wq hSw; (try dsimp only at hSw); (try obtain ⟨s0, s1, s2, s3⟩ := hSw); (go_simp <;> with_reducible rfl))
  try simp only [Act.put, List.getElem_toArray, List.getElem_cons_zero, List.getElem_cons_succ, List.setIfInBounds_toArray, List.set_cons_zero, List.set_cons_succ]
  refine wpAnyH_take (i := 6) (v := undef) rfl (by kernel_rfl) (by kernel_rfl) (by kernel_rfl) (fun _ _ _ h => h) (Or.inr ⟨by rfl, rfl⟩) hHeld ?_
  try simp only [Act.put, List.getElem_toArray, List.getElem_cons_zero, List.getElem_cons_succ, List.setIfInBounds_toArray, List.set_cons_zero, List.set_cons_succ]
  refine wpAnyH_take (i := 8) (v := undef) rfl (by kernel_rfl) (by kernel_rfl) (by kernel_rfl) (fun _ _ _ h => h) (Or.inr ⟨by rfl, rfl⟩) hHeld ?_
  try simp only [Act.put, List.getElem_toArray, List.getElem_cons_zero, List.getElem_cons_succ, List.setIfInBounds_toArray, List.set_cons_zero, List.set_cons_succ]
  refine wpAnyH_ready (rs := [7]) (by kernel_rfl) (by simp) ?_
  refine AllReadyH.cons rfl (fun K hK => ?_) AllReadyH.nil
  go_simp
  refine hK.out _ _ ?_ (fun hHeld => ?_)
  · exact ⟨c0, c1, c2, c3⟩
  clear hK K
  try simp only [Act.put, List.getElem_toArray, List.getElem_cons_zero, List.getElem_cons_succ, List.setIfInBounds_toArray, List.set_cons_zero, List.set_cons_succ]
  refine wpAnyH_ready (rs := [9]) (by kernel_rfl) (by simp) ?_
  refine AllReadyH.cons rfl (fun K hK => ?_) AllReadyH.nil
  go_simp
  refine hK.out _ _ ?_ (fun hHeld => ?_)
  · exact ⟨c0, c1, c2, c3⟩
  clear hK K
  try simp only [Act.put, List.getElem_toArray, List.getElem_cons_zero, List.getElem_cons_succ, List.setIfInBounds_toArray, List.set_cons_zero, List.set_cons_succ]
  refine wpAnyH_take (i := 10) (v := undef) rfl (by kernel_rfl) (by kernel_rfl) (by kernel_rfl) (fun _ _ _ h => h) (Or.inr ⟨by rfl, rfl⟩) hHeld ?_
  try simp only [Act.put, List.getElem_toArray, List.getElem_cons_zero, List.getElem_cons_succ, List.setIfInBounds_toArray, List.set_cons_zero, List.set_cons_succ]
  refine wpAnyH_take (i := 11) (v := ?_) rfl (by kernel_rfl) (by kernel_rfl) (by kernel_rfl) (fun _ _ _ h => h) (Or.inl ⟨by rfl, ?_⟩) hHeld ?_
  rotate_left
  · (intro wq hSw; (try dsimp only at hSw); (try obtain ⟨s0, s1, s2, s3⟩ := hSw); (go_simp <;> with_reducible rfl))
  try simp only [Act.put, List.getElem_toArray, List.getElem_cons_zero, List.getElem_cons_succ, List.setIfInBounds_toArray, List.set_cons_zero, List.set_cons_succ]
  refine wpAnyH_take (i := 12) (v := ?_) rfl (by kernel_rfl) (by kernel_rfl) (by kernel_rfl) (fun _ _ _ h => h) (Or.inl ⟨by rfl, ?_⟩) hHeld ?_
  rotate_left
  · (intro wq hSw; (try dsimp only at hSw); (try obtain ⟨s0, s1, s2, s3⟩ := hSw); (go_simp <;> with_reducible rfl))
  try simp only [Act.put, List.getElem_toArray, List.getElem_cons_zero, List.getElem_cons_succ, List.setIfInBounds_toArray, List.set_cons_zero, List.set_cons_succ]
  refine wpAnyH_done (by kernel_rfl) ?_ _
  go_wp2_with fail
  by_cases h0 : N = 0
  · rw [show decide (0 < N) = false from by simp; omega] at HS
    have HN := hide h0
    clear h0
    refine wp_region_held_drew (S := fun w' => w'.cell? ⟨G, 0, none⟩ = some (.int .i64 (L : Int)) ∧ w'.cell? ⟨G, 1, none⟩ = some (.int .i64 (N : Int)) ∧ w'.cell? ⟨G + 1, 0, none⟩ = some (.int .i64 (l : Int)) ∧ w'.cell? ⟨G + 1, 1, none⟩ = some (.int .i64 (n : Int))) (by kernel_rfl) (by first | exact ⟨d0, d1, d2, d3⟩ | exact ⟨c0, c1, c2, c3⟩) (fun hHeld => ?_)
    refine wpAnyH_take (i := 0) (v := ?_) rfl (by kernel_rfl) (by kernel_rfl) (by kernel_rfl) (fun _ _ _ h => h) (Or.inl ⟨by rfl, ?_⟩) hHeld ?_
    rotate_left
    · (intro wq hSw; (try dsimp only at hSw); (try obtain ⟨s0, s1, s2, s3⟩ := hSw); (go_simp <;> with_reducible rfl))
    try simp only [Act.put, List.getElem_toArray, List.getElem_cons_zero, List.getElem_cons_succ, List.setIfInBounds_toArray, List.set_cons_zero, List.set_cons_succ]
    refine wpAnyH_ready (rs := [1]) (by kernel_rfl) (by simp) ?_
    refine AllReadyH.cons rfl (fun K hK => ?_) AllReadyH.nil
    go_simp
    refine (HS.out _).mono ?_
    rintro e wz ⟨rfl, hbz⟩
    have d0 : wz.cell? ⟨G, 0, none⟩ = some (.int .i64 (L : Int)) := by rw [hbz.cell (p := ⟨G, 0, none⟩) (block_lt_of_cell (by first | exact d0 | exact c0))]; first | exact d0 | exact c0
    have d1 : wz.cell? ⟨G, 1, none⟩ = some (.int .i64 (N : Int)) := by rw [hbz.cell (p := ⟨G, 1, none⟩) (block_lt_of_cell (by first | exact d1 | exact c1))]; first | exact d1 | exact c1
    have d2 : wz.cell? ⟨G + 1, 0, none⟩ = some (.int .i64 (l : Int)) := by rw [hbz.cell (p := ⟨G + 1, 0, none⟩) (block_lt_of_cell (by first | exact d2 | exact c2))]; first | exact d2 | exact c2
    have d3 : wz.cell? ⟨G + 1, 1, none⟩ = some (.int .i64 (n : Int)) := by rw [hbz.cell (p := ⟨G + 1, 1, none⟩) (block_lt_of_cell (by first | exact d3 | exact c3))]; first | exact d3 | exact c3
    have HBW : Hid (Below G w wz ∧ G ≤ wz.heap.size) := next_below HBW.out hbz ⟨rfl, rfl, rfl, Nat.le_refl _, fun _ _ => rfl⟩
    clear hbz
    go_wp2_with fail
    refine hK.out _ _ ?_ (fun hHeld => ?_)
    · exact ⟨d0, d1, d2, d3⟩
    clear hK K
    try simp only [Act.put, List.getElem_toArray, List.getElem_cons_zero, List.getElem_cons_succ, List.setIfInBounds_toArray, List.set_cons_zero, List.set_cons_succ]
    refine wpAnyH_take (i := 2) (v := ?_) rfl (by kernel_rfl) (by kernel_rfl) (by kernel_rfl) (fun _ _ _ h => h) (Or.inl ⟨by rfl, ?_⟩) hHeld ?_
    rotate_left
    · (intro wq hSw; (try dsimp only at hSw); (try obtain ⟨s0, s1, s2, s3⟩ := hSw); (go_simp <;> with_reducible rfl))
    try simp only [Act.put, List.getElem_toArray, List.getElem_cons_zero, List.getElem_cons_succ, List.setIfInBounds_toArray, List.set_cons_zero, List.set_cons_succ]
    refine wpAnyH_take (i := 3) (v := undef) rfl (by kernel_rfl) (by kernel_rfl) (by kernel_rfl) (fun _ _ _ h => h) (Or.inr ⟨by rfl, rfl⟩) hHeld ?_
    try simp only [Act.put, List.getElem_toArray, List.getElem_cons_zero, List.getElem_cons_succ, List.setIfInBounds_toArray, List.set_cons_zero, List.set_cons_succ]
    refine wpAnyH_take (i := 4) (v := ?_) rfl (by kernel_rfl) (by kernel_rfl) (by kernel_rfl) (fun _ _ _ h => h) (Or.inl ⟨by rfl, ?_⟩) hHeld ?_
    rotate_left
    · (intro wq hSw; (try dsimp only at hSw); (try obtain ⟨s0, s1, s2, s3⟩ := hSw); (go_simp <;> with_reducible rfl))
    try simp only [Act.put, List.getElem_toArray, List.getElem_cons_zero, List.getElem_cons_succ, List.setIfInBounds_toArray, List.set_cons_zero, List.set_cons_succ]
    refine wpAnyH_take (i := 5) (v := ?_) rfl (by kernel_rfl) (by kernel_rfl) (by kernel_rfl) (fun _ _ _ h => h) (Or.inl ⟨by rfl, ?_⟩) hHeld ?_
    rotate_left
    · (intro wq hSw; (try dsimp only at hSw); (try obtain ⟨s0, s1, s2, s3⟩ := hSw); (go_simp <;> with_reducible rfl))
    try simp only [Act.put, List.getElem_toArray, List.getElem_cons_zero, List.getElem_cons_succ, List.setIfInBounds_toArray, List.set_cons_zero, List.set_cons_succ]
    refine wpAnyH_take (i := 6) (v := undef) rfl (by kernel_rfl) (by kernel_rfl) (by kernel_rfl) (fun _ _ _ h => h) (Or.inr ⟨by rfl, rfl⟩) hHeld ?_
    try simp only [Act.put, List.getElem_toArray, List.getElem_cons_zero, List.getElem_cons_succ, List.setIfInBounds_toArray, List.set_cons_zero, List.set_cons_succ]
    refine wpAnyH_take (i := 7) (v := undef) rfl (by kernel_rfl) (by kernel_rfl) (by kernel_rfl) (fun _ _ _ h => h) (Or.inr ⟨by rfl, rfl⟩) hHeld ?_
    try simp only [Act.put, List.getElem_toArray, List.getElem_cons_zero, List.getElem_cons_succ, List.setIfInBounds_toArray, List.set_cons_zero, List.set_cons_succ]
    refine wpAnyH_take (i := 8) (v := undef) rfl (by kernel_rfl) (by kernel_rfl) (by kernel_rfl) (fun _ _ _ h => h) (Or.inr ⟨by rfl, rfl⟩) hHeld ?_
    try simp only [Act.put, List.getElem_toArray, List.getElem_cons_zero, List.getElem_cons_succ, List.setIfInBounds_toArray, List.set_cons_zero, List.set_cons_succ]
    refine wpAnyH_take (i := 9) (v := undef) rfl (by kernel_rfl) (by kernel_rfl) (by kernel_rfl) (fun _ _ _ h => h) (Or.inr ⟨by rfl, rfl⟩) hHeld ?_
    try simp only [Act.put, List.getElem_toArray, List.getElem_cons_zero, List.getElem_cons_succ, List.setIfInBounds_toArray, List.set_cons_zero, List.set_cons_succ]
    refine wpAnyH_ready (rs := [10]) (by kernel_rfl) (by simp) ?_
    refine AllReadyH.cons rfl (fun K hK => ?_) AllReadyH.nil
    go_simp
    refine hK.out _ _ ?_ (fun hHeld => ?_)
    · exact ⟨d0, d1, d2, d3⟩
    clear hK K
    try simp only [Act.put, List.getElem_toArray, List.getElem_cons_zero, List.getElem_cons_succ, List.setIfInBounds_toArray, List.set_cons_zero, List.set_cons_succ]
    refine wpAnyH_take (i := 11) (v := undef) rfl (by kernel_rfl) (by kernel_rfl) (by kernel_rfl) (fun _ _ _ h => h) (Or.inr ⟨by rfl, rfl⟩) hHeld ?_
    try simp only [Act.put, List.getElem_toArray, List.getElem_cons_zero, List.getElem_cons_succ, List.setIfInBounds_toArray, List.set_cons_zero, List.set_cons_succ]
    refine wpAnyH_take (i := 12) (v := undef) rfl (by kernel_rfl) (by kernel_rfl) (by kernel_rfl) (fun _ _ _ h => h) (Or.inr ⟨by rfl, rfl⟩) hHeld ?_
    try simp only [Act.put, List.getElem_toArray, List.getElem_cons_zero, List.getElem_cons_succ, List.setIfInBounds_toArray, List.set_cons_zero, List.set_cons_succ]
    refine wpAnyH_take (i := 13) (v := undef) rfl (by kernel_rfl) (by kernel_rfl) (by kernel_rfl) (fun _ _ _ h => h) (Or.inr ⟨by rfl, rfl⟩) hHeld ?_
    try simp only [Act.put, List.getElem_toArray, List.getElem_cons_zero, List.getElem_cons_succ, List.setIfInBounds_toArray, List.set_cons_zero, List.set_cons_succ]
    refine wpAnyH_take (i := 14) (v := ?_) rfl (by kernel_rfl) (by kernel_rfl) (by kernel_rfl) (fun _ _ _ h => h) (Or.inl ⟨by rfl, ?_⟩) hHeld ?_
    rotate_left
    · (intro wq hSw; (try dsimp only at hSw); (try obtain ⟨s0, s1, s2, s3⟩ := hSw); (go_simp <;> with_reducible rfl))
    try simp only [Act.put, List.getElem_toArray, List.getElem_cons_zero, List.getElem_cons_succ, List.setIfInBounds_toArray, List.set_cons_zero, List.set_cons_succ]
    refine wpAnyH_take (i := 15) (v := ?_) rfl (by kernel_rfl) (by kernel_rfl) (by kernel_rfl) (fun _ _ _ h => h) (Or.inl ⟨by rfl, ?_⟩) hHeld ?_
    rotate_left
    · (intro wq hSw; (try dsimp only at hSw); (try obtain ⟨s0, s1, s2, s3⟩ := hSw); (go_simp <;> with_reducible rfl))
    try simp only [Act.put, List.getElem_toArray, List.getElem_cons_zero, List.getElem_cons_succ, List.setIfInBounds_toArray, List.set_cons_zero, List.set_cons_succ]
    refine wpAnyH_done (by kernel_rfl) ?_ _
    go_wp2_with fail
    go_ret
    refine ⟨false, rfl, ⟨fun h => (by cases h), fun h => absurd h.1 (by have := HN.out; omega)⟩, by rw [HG.out]; exact HBW.out.1⟩
  rw [show decide (0 < N) = true from by simp; omega] at HS
  have HN := hide h0
  clear h0
  refine wp_region_held_drew (S := fun w' => w'.cell? ⟨G, 0, none⟩ = some (.int .i64 (L : Int)) ∧ w'.cell? ⟨G, 1, none⟩ = some (.int .i64 (N : Int)) ∧ w'.cell? ⟨G + 1, 0, none⟩ = some (.int .i64 (l : Int)) ∧ w'.cell? ⟨G + 1, 1, none⟩ = some (.int .i64 (n : Int))) (by kernel_rfl) (by first | exact ⟨d0, d1, d2, d3⟩ | exact ⟨c0, c1, c2, c3⟩) (fun hHeld => ?_)
  refine wpAnyH_take (i := 0) (v := ?_) rfl (by kernel_rfl) (by kernel_rfl) (by kernel_rfl) (fun _ _ _ h => h) (Or.inl ⟨by rfl, ?_⟩) hHeld ?_
  rotate_left
  · (intro wq hSw; (try dsimp only at hSw); (try obtain ⟨s0, s1, s2, s3⟩ := hSw); (go_simp <;> with_reducible rfl))
  try simp only [Act.put, List.getElem_toArray, List.getElem_cons_zero, List.getElem_cons_succ, List.setIfInBounds_toArray, List.set_cons_zero, List.set_cons_succ]
  refine wpAnyH_ready (rs := [1]) (by kernel_rfl) (by simp) ?_
  refine AllReadyH.cons rfl (fun K hK => ?_) AllReadyH.nil
  go_simp
  refine (HS.out _).mono ?_
  rintro e wz ⟨rfl, hbz⟩
  have d0 : wz.cell? ⟨G, 0, none⟩ = some (.int .i64 (L : Int)) := by rw [hbz.cell (p := ⟨G, 0, none⟩) (block_lt_of_cell (by first | exact d0 | exact c0))]; first | exact d0 | exact c0
  have d1 : wz.cell? ⟨G, 1, none⟩ = some (.int .i64 (N : Int)) := by rw [hbz.cell (p := ⟨G, 1, none⟩) (block_lt_of_cell (by first | exact d1 | exact c1))]; first | exact d1 | exact c1
  have d2 : wz.cell? ⟨G + 1, 0, none⟩ = some (.int .i64 (l : Int)) := by rw [hbz.cell (p := ⟨G + 1, 0, none⟩) (block_lt_of_cell (by first | exact d2 | exact c2))]; first | exact d2 | exact c2
  have d3 : wz.cell? ⟨G + 1, 1, none⟩ = some (.int .i64 (n : Int)) := by rw [hbz.cell (p := ⟨G + 1, 1, none⟩) (block_lt_of_cell (by first | exact d3 | exact c3))]; first | exact d3 | exact c3
  have HBW : Hid (Below G w wz ∧ G ≤ wz.heap.size) := next_below HBW.out hbz ⟨rfl, rfl, rfl, Nat.le_refl _, fun _ _ => rfl⟩
  clear hbz
  go_wp2_with fail
  refine hK.out _ _ ?_ (fun hHeld => ?_)
  · exact ⟨d0, d1, d2, d3⟩
  clear hK K
  try simp only [Act.put, List.getElem_toArray, List.getElem_cons_zero, List.getElem_cons_succ, List.setIfInBounds_toArray, List.set_cons_zero, List.set_cons_succ]
  refine wpAnyH_take (i := 2) (v := ?_) rfl (by kernel_rfl) (by kernel_rfl) (by kernel_rfl) (fun _ _ _ h => h) (Or.inl ⟨by rfl, ?_⟩) hHeld ?_
  rotate_left
  · (intro wq hSw; (try dsimp only at hSw); (try obtain ⟨s0, s1, s2, s3⟩ := hSw); (go_simp <;> with_reducible rfl))
  try simp only [Act.put, List.getElem_toArray, List.getElem_cons_zero, List.getElem_cons_succ, List.setIfInBounds_toArray, List.set_cons_zero, List.set_cons_succ]
  refine wpAnyH_take (i := 3) (v := ?_) rfl (by kernel_rfl) (by kernel_rfl) (by kernel_rfl) (fun _ _ _ h => h) (Or.inl ⟨by rfl, ?_⟩) hHeld ?_
  rotate_left
  · (intro wq hSw; (try dsimp only at hSw); (try obtain ⟨s0, s1, s2, s3⟩ := hSw); (go_simp <;> with_reducible rfl))
  try simp only [Act.put, List.getElem_toArray, List.getElem_cons_zero, List.getElem_cons_succ, List.setIfInBounds_toArray, List.set_cons_zero, List.set_cons_succ]
  refine wpAnyH_take (i := 4) (v := ?_) rfl (by kernel_rfl) (by kernel_rfl) (by kernel_rfl) (fun _ _ _ h => h) (Or.inl ⟨by rfl, ?_⟩) hHeld ?_
  rotate_left
  · (intro wq hSw; (try dsimp only at hSw); (try obtain ⟨s0, s1, s2, s3⟩ := hSw); (go_simp <;> with_reducible rfl))
  try simp only [Act.put, List.getElem_toArray, List.getElem_cons_zero, List.getElem_cons_succ, List.setIfInBounds_toArray, List.set_cons_zero, List.set_cons_succ]
  refine wpAnyH_take (i := 5) (v := ?_) rfl (by kernel_rfl) (by kernel_rfl) (by kernel_rfl) (fun _ _ _ h => h) (Or.inl ⟨by rfl, ?_⟩) hHeld ?_
  rotate_left
  · (intro wq hSw; (try dsimp only at hSw); (try obtain ⟨s0, s1, s2, s3⟩ := hSw); (go_simp <;> with_reducible rfl))
  try simp only [Act.put, List.getElem_toArray, List.getElem_cons_zero, List.getElem_cons_succ, List.setIfInBounds_toArray, List.set_cons_zero, List.set_cons_succ]
  refine wpAnyH_take (i := 6) (v := undef) rfl (by kernel_rfl) (by kernel_rfl) (by kernel_rfl) (fun _ _ _ h => h) (Or.inr ⟨by rfl, rfl⟩) hHeld ?_
  try simp only [Act.put, List.getElem_toArray, List.getElem_cons_zero, List.getElem_cons_succ, List.setIfInBounds_toArray, List.set_cons_zero, List.set_cons_succ]
  refine wpAnyH_take (i := 7) (v := undef) rfl (by kernel_rfl) (by kernel_rfl) (by kernel_rfl) (fun _ _ _ h => h) (Or.inr ⟨by rfl, rfl⟩) hHeld ?_
  try simp only [Act.put, List.getElem_toArray, List.getElem_cons_zero, List.getElem_cons_succ, List.setIfInBounds_toArray, List.set_cons_zero, List.set_cons_succ]
  refine wpAnyH_take (i := 8) (v := undef) rfl (by kernel_rfl) (by kernel_rfl) (by kernel_rfl) (fun _ _ _ h => h) (Or.inr ⟨by rfl, rfl⟩) hHeld ?_
  try simp only [Act.put, List.getElem_toArray, List.getElem_cons_zero, List.getElem_cons_succ, List.setIfInBounds_toArray, List.set_cons_zero, List.set_cons_succ]
  refine wpAnyH_take (i := 9) (v := undef) rfl (by kernel_rfl) (by kernel_rfl) (by kernel_rfl) (fun _ _ _ h => h) (Or.inr ⟨by rfl, rfl⟩) hHeld ?_
  try simp only [Act.put, List.getElem_toArray, List.getElem_cons_zero, List.getElem_cons_succ, List.setIfInBounds_toArray, List.set_cons_zero, List.set_cons_succ]
  refine wpAnyH_ready (rs := [10]) (by kernel_rfl) (by simp) ?_
  refine AllReadyH.cons rfl (fun K hK => ?_) AllReadyH.nil
  go_simp
  refine hK.out _ _ ?_ (fun hHeld => ?_)
  · exact ⟨d0, d1, d2, d3⟩
  clear hK K
  try simp only [Act.put, List.getElem_toArray, List.getElem_cons_zero, List.getElem_cons_succ, List.setIfInBounds_toArray, List.set_cons_zero, List.set_cons_succ]
  refine wpAnyH_take (i := 11) (v := undef) rfl (by kernel_rfl) (by kernel_rfl) (by kernel_rfl) (fun _ _ _ h => h) (Or.inr ⟨by rfl, rfl⟩) hHeld ?_
  try simp only [Act.put, List.getElem_toArray, List.getElem_cons_zero, List.getElem_cons_succ, List.setIfInBounds_toArray, List.set_cons_zero, List.set_cons_succ]
  refine wpAnyH_take (i := 12) (v := undef) rfl (by kernel_rfl) (by kernel_rfl) (by kernel_rfl) (fun _ _ _ h => h) (Or.inr ⟨by rfl, rfl⟩) hHeld ?_
  try simp only [Act.put, List.getElem_toArray, List.getElem_cons_zero, List.getElem_cons_succ, List.setIfInBounds_toArray, List.set_cons_zero, List.set_cons_succ]
  refine wpAnyH_take (i := 13) (v := undef) rfl (by kernel_rfl) (by kernel_rfl) (by kernel_rfl) (fun _ _ _ h => h) (Or.inr ⟨by rfl, rfl⟩) hHeld ?_
  try simp only [Act.put, List.getElem_toArray, List.getElem_cons_zero, List.getElem_cons_succ, List.setIfInBounds_toArray, List.set_cons_zero, List.set_cons_succ]
  refine wpAnyH_take (i := 14) (v := ?_) rfl (by kernel_rfl) (by kernel_rfl) (by kernel_rfl) (fun _ _ _ h => h) (Or.inl ⟨by rfl, ?_⟩) hHeld ?_
  rotate_left
  · (intro wq hSw; (try dsimp only at hSw); (try obtain ⟨s0, s1, s2, s3⟩ := hSw); (go_simp <;> with_reducible rfl))
  try simp only [Act.put, List.getElem_toArray, List.getElem_cons_zero, List.getElem_cons_succ, List.setIfInBounds_toArray, List.set_cons_zero, List.set_cons_succ]
  refine wpAnyH_take (i := 15) (v := ?_) rfl (by kernel_rfl) (by kernel_rfl) (by kernel_rfl) (fun _ _ _ h => h) (Or.inl ⟨by rfl, ?_⟩) hHeld ?_
  rotate_left
  · (intro wq hSw; (try dsimp only at hSw); (try obtain ⟨s0, s1, s2, s3⟩ := hSw); (go_simp <;> with_reducible rfl))
  try simp only [Act.put, List.getElem_toArray, List.getElem_cons_zero, List.getElem_cons_succ, List.setIfInBounds_toArray, List.set_cons_zero, List.set_cons_succ]
  refine wpAnyH_done (by kernel_rfl) ?_ _
  go_wp2_with fail
  go_ret
  refine ⟨false, rfl, ⟨fun h => (by cases h), fun h => absurd h HNO.out⟩, by rw [HG.out]; exact HBW.out.1⟩

set_option maxRecDepth 100000 in
set_option maxHeartbeats 4000000 in
theorem suits64_b (L N l n : Nat) (w : World) (h1 : L + N ≤ 64) (h2 : l + n ≤ 64) (c : L ≤ l) (c' : ¬ (bh64 L N ≤ bh64 l n)) :
    Calls Tryz.prog 230 #[wn64 L N, wn64 l n] w (SuitEnd64 L N l n w) := by
  have HNO : Hid (¬ (0 < N ∧ L ≤ l ∧ 64 - L - N ≤ 64 - l - n ∧ N ≤ n + 2 * 6)) := fun h => c' (by unfold bh64; exact h.2.2.1)
  have cd : decide (L ≤ l) = true := decide_eq_true c
  have cd2 : decide (bh64 L N ≤ bh64 l n) = false := decide_eq_false c'
  have H1 := hide h1
  have H2 := hide h2
  have HS : Hid (∀ w, Calls Tryz.prog 213 #[.agg #[.int .i64 (L : Int), .int .i64 (N : Int)]] w fun e w' => e = .returned (.bool (decide (0 < N))) ∧ Below w.heap.size w w') := fun w => stands64_any L N w h1
  have HB1 : Hid (∀ w, Calls Tryz.prog 214 #[.agg #[.int .i64 (L : Int), .int .i64 (N : Int)]] w fun e w' => e = .returned (.int .i64 ((64 - L - N : Nat) : Int)) ∧ Below w.heap.size w w') := fun w => behind64_any L N (64 - L - N) w (by omega)
  have HB2 : Hid (∀ w, Calls Tryz.prog 214 #[.agg #[.int .i64 (l : Int), .int .i64 (n : Int)]] w fun e w' => e = .returned (.int .i64 ((64 - l - n : Nat) : Int)) ∧ Below w.heap.size w w') := fun w => behind64_any l n (64 - l - n) w (by omega)
  have HM := hide (boxed64 w L N l n)
  clear h1 h2 c c'
  unfold wn64
  go_enter Tryz.func230, Tryz.ntmps230
  go_wp2_with fail
  generalize (w.alloc (.cells #[.int .i64 (L : Int), .int .i64 (N : Int)] 225)).alloc (.cells #[.int .i64 (l : Int), .int .i64 (n : Int)] 225) = W1 at *
  obtain ⟨c0, c1, c2, c3, B1⟩ := HM.out
  have HBW : Hid (Below w.heap.size w W1 ∧ w.heap.size ≤ W1.heap.size) := ⟨B1, B1.size⟩
  clear B1 HM HB1 HB2
  obtain ⟨G, hG⟩ : ∃ G, w.heap.size = G := ⟨_, rfl⟩
  rw [hG] at c0 c1 c2 c3 HBW ⊢
  have HG := hide hG
  clear hG
  go_region_held3 (fun w' => w'.cell? ⟨G, 0, none⟩ = some (.int .i64 (L : Int)) ∧ w'.cell? ⟨G, 1, none⟩ = some (.int .i64 (N : Int)) ∧ w'.cell? ⟨G + 1, 0, none⟩ = some (.int .i64 (l : Int)) ∧ w'.cell? ⟨G + 1, 1, none⟩ = some (.int .i64 (n : Int))) (first | exact ⟨d0, d1, d2, d3⟩ | exact ⟨c0, c1, c2, c3⟩)
    ((go_at_call 214; go_must (refine (behindN64_any _ _ _ (by first | exact H1.out | exact H2.out)).mono ?_); rintro _ wz ⟨rfl, hbz⟩; (have d0 : wz.cell? ⟨G, 0, none⟩ = some (.int .i64 (L : Int)) := by rw [hbz.cell (p := ⟨G, 0, none⟩) (block_lt_of_cell (by first | exact d0 | exact c0))]; first | exact d0 | exact c0); (have d1 : wz.cell? ⟨G, 1, none⟩ = some (.int .i64 (N : Int)) := by rw [hbz.cell (p := ⟨G, 1, none⟩) (block_lt_of_cell (by first | exact d1 | exact c1))]; first | exact d1 | exact c1); (have d2 : wz.cell? ⟨G + 1, 0, none⟩ = some (.int .i64 (l : Int)) := by rw [hbz.cell (p := ⟨G + 1, 0, none⟩) (block_lt_of_cell (by first | exact d2 | exact c2))]; first | exact d2 | exact c2); (have d3 : wz.cell? ⟨G + 1, 1, none⟩ = some (.int .i64 (n : Int)) := by rw [hbz.cell (p := ⟨G + 1, 1, none⟩) (block_lt_of_cell (by first | exact d3 | exact c3))]; first | exact d3 | exact c3); (have HBW : Hid (Below G w wz ∧ G ≤ wz.heap.size) := next_below HBW.out hbz ⟨rfl, rfl, rfl, Nat.le_refl _, fun _ _ => rfl⟩); clear hbz))
  go_wp2_with fail
  by_cases h0 : N = 0
  · rw [show decide (0 < N) = false from by simp; omega] at HS
    have HN := hide h0
    clear h0
    refine wp_region_held_drew (S := fun w' => w'.cell? ⟨G, 0, none⟩ = some (.int .i64 (L : Int)) ∧ w'.cell? ⟨G, 1, none⟩ = some (.int .i64 (N : Int)) ∧ w'.cell? ⟨G + 1, 0, none⟩ = some (.int .i64 (l : Int)) ∧ w'.cell? ⟨G + 1, 1, none⟩ = some (.int .i64 (n : Int))) (by kernel_rfl) (by first | exact ⟨d0, d1, d2, d3⟩ | exact ⟨c0, c1, c2, c3⟩) (fun hHeld => ?_)
    refine wpAnyH_take (i := 0) (v := ?_) rfl (by kernel_rfl) (by kernel_rfl) (by kernel_rfl) (fun _ _ _ h => h) (Or.inl ⟨by rfl, ?_⟩) hHeld ?_
    rotate_left
    · (intro wq hSw; (try dsimp only at hSw); (try obtain ⟨s0, s1, s2, s3⟩ := hSw); (go_simp <;> with_reducible rfl))
    try simp only [Act.put, List.getElem_toArray, List.getElem_cons_zero, List.getElem_cons_succ, List.setIfInBounds_toArray, List.set_cons_zero, List.set_cons_succ]
    refine wpAnyH_ready (rs := [1]) (by kernel_rfl) (by simp) ?_
    refine AllReadyH.cons rfl (fun K hK => ?_) AllReadyH.nil
    go_simp
    refine (HS.out _).mono ?_
    rintro e wz ⟨rfl, hbz⟩
    have d0 : wz.cell? ⟨G, 0, none⟩ = some (.int .i64 (L : Int)) := by rw [hbz.cell (p := ⟨G, 0, none⟩) (block_lt_of_cell (by first | exact d0 | exact c0))]; first | exact d0 | exact c0
    have d1 : wz.cell? ⟨G, 1, none⟩ = some (.int .i64 (N : Int)) := by rw [hbz.cell (p := ⟨G, 1, none⟩) (block_lt_of_cell (by first | exact d1 | exact c1))]; first | exact d1 | exact c1
    have d2 : wz.cell? ⟨G + 1, 0, none⟩ = some (.int .i64 (l : Int)) := by rw [hbz.cell (p := ⟨G + 1, 0, none⟩) (block_lt_of_cell (by first | exact d2 | exact c2))]; first | exact d2 | exact c2
    have d3 : wz.cell? ⟨G + 1, 1, none⟩ = some (.int .i64 (n : Int)) := by rw [hbz.cell (p := ⟨G + 1, 1, none⟩) (block_lt_of_cell (by first | exact d3 | exact c3))]; first | exact d3 | exact c3
    have HBW : Hid (Below G w wz ∧ G ≤ wz.heap.size) := next_below HBW.out hbz ⟨rfl, rfl, rfl, Nat.le_refl _, fun _ _ => rfl⟩
    clear hbz
    go_wp2_with fail
    refine hK.out _ _ ?_ (fun hHeld => ?_)
    · exact ⟨d0, d1, d2, d3⟩
    clear hK K
    try simp only [Act.put, List.getElem_toArray, List.getElem_cons_zero, List.getElem_cons_succ, List.setIfInBounds_toArray, List.set_cons_zero, List.set_cons_succ]
    refine wpAnyH_take (i := 2) (v := ?_) rfl (by kernel_rfl) (by kernel_rfl) (by kernel_rfl) (fun _ _ _ h => h) (Or.inl ⟨by rfl, ?_⟩) hHeld ?_
    rotate_left
    · (intro wq hSw; (try dsimp only at hSw); (try obtain ⟨s0, s1, s2, s3⟩ := hSw); (go_simp <;> with_reducible rfl))
    try simp only [Act.put, List.getElem_toArray, List.getElem_cons_zero, List.getElem_cons_succ, List.setIfInBounds_toArray, List.set_cons_zero, List.set_cons_succ]
    refine wpAnyH_take (i := 3) (v := undef) rfl (by kernel_rfl) (by kernel_rfl) (by kernel_rfl) (fun _ _ _ h => h) (Or.inr ⟨by rfl, rfl⟩) hHeld ?_
    try simp only [Act.put, List.getElem_toArray, List.getElem_cons_zero, List.getElem_cons_succ, List.setIfInBounds_toArray, List.set_cons_zero, List.set_cons_succ]
    refine wpAnyH_take (i := 4) (v := ?_) rfl (by kernel_rfl) (by kernel_rfl) (by kernel_rfl) (fun _ _ _ h => h) (Or.inl ⟨by rfl, ?_⟩) hHeld ?_
    rotate_left
    · (intro wq hSw; (try dsimp only at hSw); (try obtain ⟨s0, s1, s2, s3⟩ := hSw); (go_simp <;> with_reducible rfl))
    try simp only [Act.put, List.getElem_toArray, List.getElem_cons_zero, List.getElem_cons_succ, List.setIfInBounds_toArray, List.set_cons_zero, List.set_cons_succ]
    refine wpAnyH_take (i := 5) (v := ?_) rfl (by kernel_rfl) (by kernel_rfl) (by kernel_rfl) (fun _ _ _ h => h) (Or.inl ⟨by rfl, ?_⟩) hHeld ?_
    rotate_left
    · (intro wq hSw; (try dsimp only at hSw); (try obtain ⟨s0, s1, s2, s3⟩ := hSw); (go_simp <;> with_reducible rfl))
    try simp only [Act.put, List.getElem_toArray, List.getElem_cons_zero, List.getElem_cons_succ, List.setIfInBounds_toArray, List.set_cons_zero, List.set_cons_succ]
    refine wpAnyH_take (i := 6) (v := undef) rfl (by kernel_rfl) (by kernel_rfl) (by kernel_rfl) (fun _ _ _ h => h) (Or.inr ⟨by rfl, rfl⟩) hHeld ?_
    try simp only [Act.put, List.getElem_toArray, List.getElem_cons_zero, List.getElem_cons_succ, List.setIfInBounds_toArray, List.set_cons_zero, List.set_cons_succ]
    refine wpAnyH_take (i := 7) (v := undef) rfl (by kernel_rfl) (by kernel_rfl) (by kernel_rfl) (fun _ _ _ h => h) (Or.inr ⟨by rfl, rfl⟩) hHeld ?_
    try simp only [Act.put, List.getElem_toArray, List.getElem_cons_zero, List.getElem_cons_succ, List.setIfInBounds_toArray, List.set_cons_zero, List.set_cons_succ]
    refine wpAnyH_take (i := 8) (v := undef) rfl (by kernel_rfl) (by kernel_rfl) (by kernel_rfl) (fun _ _ _ h => h) (Or.inr ⟨by rfl, rfl⟩) hHeld ?_
    try simp only [Act.put, List.getElem_toArray, List.getElem_cons_zero, List.getElem_cons_succ, List.setIfInBounds_toArray, List.set_cons_zero, List.set_cons_succ]
    refine wpAnyH_take (i := 9) (v := undef) rfl (by kernel_rfl) (by kernel_rfl) (by kernel_rfl) (fun _ _ _ h => h) (Or.inr ⟨by rfl, rfl⟩) hHeld ?_
    try simp only [Act.put, List.getElem_toArray, List.getElem_cons_zero, List.getElem_cons_succ, List.setIfInBounds_toArray, List.set_cons_zero, List.set_cons_succ]
    refine wpAnyH_ready (rs := [10]) (by kernel_rfl) (by simp) ?_
    refine AllReadyH.cons rfl (fun K hK => ?_) AllReadyH.nil
    go_simp
    refine hK.out _ _ ?_ (fun hHeld => ?_)
    · exact ⟨d0, d1, d2, d3⟩
    clear hK K
    try simp only [Act.put, List.getElem_toArray, List.getElem_cons_zero, List.getElem_cons_succ, List.setIfInBounds_toArray, List.set_cons_zero, List.set_cons_succ]
    refine wpAnyH_take (i := 11) (v := undef) rfl (by kernel_rfl) (by kernel_rfl) (by kernel_rfl) (fun _ _ _ h => h) (Or.inr ⟨by rfl, rfl⟩) hHeld ?_
    try simp only [Act.put, List.getElem_toArray, List.getElem_cons_zero, List.getElem_cons_succ, List.setIfInBounds_toArray, List.set_cons_zero, List.set_cons_succ]
    refine wpAnyH_take (i := 12) (v := undef) rfl (by kernel_rfl) (by kernel_rfl) (by kernel_rfl) (fun _ _ _ h => h) (Or.inr ⟨by rfl, rfl⟩) hHeld ?_
    try simp only [Act.put, List.getElem_toArray, List.getElem_cons_zero, List.getElem_cons_succ, List.setIfInBounds_toArray, List.set_cons_zero, List.set_cons_succ]
    refine wpAnyH_take (i := 13) (v := undef) rfl (by kernel_rfl) (by kernel_rfl) (by kernel_rfl) (fun _ _ _ h => h) (Or.inr ⟨by rfl, rfl⟩) hHeld ?_
    try simp only [Act.put, List.getElem_toArray, List.getElem_cons_zero, List.getElem_cons_succ, List.setIfInBounds_toArray, List.set_cons_zero, List.set_cons_succ]
    refine wpAnyH_take (i := 14) (v := ?_) rfl (by kernel_rfl) (by kernel_rfl) (by kernel_rfl) (fun _ _ _ h => h) (Or.inl ⟨by rfl, ?_⟩) hHeld ?_
    rotate_left
    · (intro wq hSw; (try dsimp only at hSw); (try obtain ⟨s0, s1, s2, s3⟩ := hSw); (go_simp <;> with_reducible rfl))
    try simp only [Act.put, List.getElem_toArray, List.getElem_cons_zero, List.getElem_cons_succ, List.setIfInBounds_toArray, List.set_cons_zero, List.set_cons_succ]
    refine wpAnyH_take (i := 15) (v := ?_) rfl (by kernel_rfl) (by kernel_rfl) (by kernel_rfl) (fun _ _ _ h => h) (Or.inl ⟨by rfl, ?_⟩) hHeld ?_
    rotate_left
    · (intro wq hSw; (try dsimp only at hSw); (try obtain ⟨s0, s1, s2, s3⟩ := hSw); (go_simp <;> with_reducible rfl))
    try simp only [Act.put, List.getElem_toArray, List.getElem_cons_zero, List.getElem_cons_succ, List.setIfInBounds_toArray, List.set_cons_zero, List.set_cons_succ]
    refine wpAnyH_done (by kernel_rfl) ?_ _
    go_wp2_with fail
    go_ret
    refine ⟨false, rfl, ⟨fun h => (by cases h), fun h => absurd h.1 (by have := HN.out; omega)⟩, by rw [HG.out]; exact HBW.out.1⟩
  rw [show decide (0 < N) = true from by simp; omega] at HS
  have HN := hide h0
  clear h0
  refine wp_region_held_drew (S := fun w' => w'.cell? ⟨G, 0, none⟩ = some (.int .i64 (L : Int)) ∧ w'.cell? ⟨G, 1, none⟩ = some (.int .i64 (N : Int)) ∧ w'.cell? ⟨G + 1, 0, none⟩ = some (.int .i64 (l : Int)) ∧ w'.cell? ⟨G + 1, 1, none⟩ = some (.int .i64 (n : Int))) (by kernel_rfl) (by first | exact ⟨d0, d1, d2, d3⟩ | exact ⟨c0, c1, c2, c3⟩) (fun hHeld => ?_)
  refine wpAnyH_take (i := 0) (v := ?_) rfl (by kernel_rfl) (by kernel_rfl) (by kernel_rfl) (fun _ _ _ h => h) (Or.inl ⟨by rfl, ?_⟩) hHeld ?_
  rotate_left
  · (intro wq hSw; (try dsimp only at hSw); (try obtain ⟨s0, s1, s2, s3⟩ := hSw); (go_simp <;> with_reducible rfl))
  try simp only [Act.put, List.getElem_toArray, List.getElem_cons_zero, List.getElem_cons_succ, List.setIfInBounds_toArray, List.set_cons_zero, List.set_cons_succ]
  refine wpAnyH_ready (rs := [1]) (by kernel_rfl) (by simp) ?_
  refine AllReadyH.cons rfl (fun K hK => ?_) AllReadyH.nil
  go_simp
  refine (HS.out _).mono ?_
  rintro e wz ⟨rfl, hbz⟩
  have d0 : wz.cell? ⟨G, 0, none⟩ = some (.int .i64 (L : Int)) := by rw [hbz.cell (p := ⟨G, 0, none⟩) (block_lt_of_cell (by first | exact d0 | exact c0))]; first | exact d0 | exact c0
  have d1 : wz.cell? ⟨G, 1, none⟩ = some (.int .i64 (N : Int)) := by rw [hbz.cell (p := ⟨G, 1, none⟩) (block_lt_of_cell (by first | exact d1 | exact c1))]; first | exact d1 | exact c1
  have d2 : wz.cell? ⟨G + 1, 0, none⟩ = some (.int .i64 (l : Int)) := by rw [hbz.cell (p := ⟨G + 1, 0, none⟩) (block_lt_of_cell (by first | exact d2 | exact c2))]; first | exact d2 | exact c2
  have d3 : wz.cell? ⟨G + 1, 1, none⟩ = some (.int .i64 (n : Int)) := by rw [hbz.cell (p := ⟨G + 1, 1, none⟩) (block_lt_of_cell (by first | exact d3 | exact c3))]; first | exact d3 | exact c3
  have HBW : Hid (Below G w wz ∧ G ≤ wz.heap.size) := next_below HBW.out hbz ⟨rfl, rfl, rfl, Nat.le_refl _, fun _ _ => rfl⟩
  clear hbz
  go_wp2_with fail
  refine hK.out _ _ ?_ (fun hHeld => ?_)
  · exact ⟨d0, d1, d2, d3⟩
  clear hK K
  try simp only [Act.put, List.getElem_toArray, List.getElem_cons_zero, List.getElem_cons_succ, List.setIfInBounds_toArray, List.set_cons_zero, List.set_cons_succ]
  refine wpAnyH_take (i := 2) (v := ?_) rfl (by kernel_rfl) (by kernel_rfl) (by kernel_rfl) (fun _ _ _ h => h) (Or.inl ⟨by rfl, ?_⟩) hHeld ?_
  rotate_left
  · (intro wq hSw; (try dsimp only at hSw); (try obtain ⟨s0, s1, s2, s3⟩ := hSw); (go_simp <;> with_reducible rfl))
  try simp only [Act.put, List.getElem_toArray, List.getElem_cons_zero, List.getElem_cons_succ, List.setIfInBounds_toArray, List.set_cons_zero, List.set_cons_succ]
  refine wpAnyH_take (i := 3) (v := ?_) rfl (by kernel_rfl) (by kernel_rfl) (by kernel_rfl) (fun _ _ _ h => h) (Or.inl ⟨by rfl, ?_⟩) hHeld ?_
  rotate_left
  · (intro wq hSw; (try dsimp only at hSw); (try obtain ⟨s0, s1, s2, s3⟩ := hSw); (go_simp <;> with_reducible rfl))
  try simp only [Act.put, List.getElem_toArray, List.getElem_cons_zero, List.getElem_cons_succ, List.setIfInBounds_toArray, List.set_cons_zero, List.set_cons_succ]
  refine wpAnyH_take (i := 4) (v := ?_) rfl (by kernel_rfl) (by kernel_rfl) (by kernel_rfl) (fun _ _ _ h => h) (Or.inl ⟨by rfl, ?_⟩) hHeld ?_
  rotate_left
  · (intro wq hSw; (try dsimp only at hSw); (try obtain ⟨s0, s1, s2, s3⟩ := hSw); (go_simp <;> with_reducible rfl))
  try simp only [Act.put, List.getElem_toArray, List.getElem_cons_zero, List.getElem_cons_succ, List.setIfInBounds_toArray, List.set_cons_zero, List.set_cons_succ]
  refine wpAnyH_take (i := 5) (v := ?_) rfl (by kernel_rfl) (by kernel_rfl) (by kernel_rfl) (fun _ _ _ h => h) (Or.inl ⟨by rfl, ?_⟩) hHeld ?_
  rotate_left
  · (intro wq hSw; (try dsimp only at hSw); (try obtain ⟨s0, s1, s2, s3⟩ := hSw); (go_simp <;> with_reducible rfl))
  try simp only [Act.put, List.getElem_toArray, List.getElem_cons_zero, List.getElem_cons_succ, List.setIfInBounds_toArray, List.set_cons_zero, List.set_cons_succ]
  refine wpAnyH_take (i := 6) (v := undef) rfl (by kernel_rfl) (by kernel_rfl) (by kernel_rfl) (fun _ _ _ h => h) (Or.inr ⟨by rfl, rfl⟩) hHeld ?_
  try simp only [Act.put, List.getElem_toArray, List.getElem_cons_zero, List.getElem_cons_succ, List.setIfInBounds_toArray, List.set_cons_zero, List.set_cons_succ]
  refine wpAnyH_take (i := 7) (v := undef) rfl (by kernel_rfl) (by kernel_rfl) (by kernel_rfl) (fun _ _ _ h => h) (Or.inr ⟨by rfl, rfl⟩) hHeld ?_
  try simp only [Act.put, List.getElem_toArray, List.getElem_cons_zero, List.getElem_cons_succ, List.setIfInBounds_toArray, List.set_cons_zero, List.set_cons_succ]
  refine wpAnyH_take (i := 8) (v := undef) rfl (by kernel_rfl) (by kernel_rfl) (by kernel_rfl) (fun _ _ _ h => h) (Or.inr ⟨by rfl, rfl⟩) hHeld ?_
  try simp only [Act.put, List.getElem_toArray, List.getElem_cons_zero, List.getElem_cons_succ, List.setIfInBounds_toArray, List.set_cons_zero, List.set_cons_succ]
  refine wpAnyH_take (i := 9) (v := undef) rfl (by kernel_rfl) (by kernel_rfl) (by kernel_rfl) (fun _ _ _ h => h) (Or.inr ⟨by rfl, rfl⟩) hHeld ?_
  try simp only [Act.put, List.getElem_toArray, List.getElem_cons_zero, List.getElem_cons_succ, List.setIfInBounds_toArray, List.set_cons_zero, List.set_cons_succ]
  refine wpAnyH_ready (rs := [10]) (by kernel_rfl) (by simp) ?_
  refine AllReadyH.cons rfl (fun K hK => ?_) AllReadyH.nil
  go_simp
  refine hK.out _ _ ?_ (fun hHeld => ?_)
  · exact ⟨d0, d1, d2, d3⟩
  clear hK K
  try simp only [Act.put, List.getElem_toArray, List.getElem_cons_zero, List.getElem_cons_succ, List.setIfInBounds_toArray, List.set_cons_zero, List.set_cons_succ]
  refine wpAnyH_take (i := 11) (v := undef) rfl (by kernel_rfl) (by kernel_rfl) (by kernel_rfl) (fun _ _ _ h => h) (Or.inr ⟨by rfl, rfl⟩) hHeld ?_
  try simp only [Act.put, List.getElem_toArray, List.getElem_cons_zero, List.getElem_cons_succ, List.setIfInBounds_toArray, List.set_cons_zero, List.set_cons_succ]
  refine wpAnyH_take (i := 12) (v := undef) rfl (by kernel_rfl) (by kernel_rfl) (by kernel_rfl) (fun _ _ _ h => h) (Or.inr ⟨by rfl, rfl⟩) hHeld ?_
  try simp only [Act.put, List.getElem_toArray, List.getElem_cons_zero, List.getElem_cons_succ, List.setIfInBounds_toArray, List.set_cons_zero, List.set_cons_succ]
  refine wpAnyH_take (i := 13) (v := undef) rfl (by kernel_rfl) (by kernel_rfl) (by kernel_rfl) (fun _ _ _ h => h) (Or.inr ⟨by rfl, rfl⟩) hHeld ?_
  try simp only [Act.put, List.getElem_toArray, List.getElem_cons_zero, List.getElem_cons_succ, List.setIfInBounds_toArray, List.set_cons_zero, List.set_cons_succ]
  refine wpAnyH_take (i := 14) (v := ?_) rfl (by kernel_rfl) (by kernel_rfl) (by kernel_rfl) (fun _ _ _ h => h) (Or.inl ⟨by rfl, ?_⟩) hHeld ?_
  rotate_left
  · (intro wq hSw; (try dsimp only at hSw); (try obtain ⟨s0, s1, s2, s3⟩ := hSw); (go_simp <;> with_reducible rfl))
  try simp only [Act.put, List.getElem_toArray, List.getElem_cons_zero, List.getElem_cons_succ, List.setIfInBounds_toArray, List.set_cons_zero, List.set_cons_succ]
  refine wpAnyH_take (i := 15) (v := ?_) rfl (by kernel_rfl) (by kernel_rfl) (by kernel_rfl) (fun _ _ _ h => h) (Or.inl ⟨by rfl, ?_⟩) hHeld ?_
  rotate_left
  · (intro wq hSw; (try dsimp only at hSw); (try obtain ⟨s0, s1, s2, s3⟩ := hSw); (go_simp <;> with_reducible rfl))
  try simp only [Act.put, List.getElem_toArray, List.getElem_cons_zero, List.getElem_cons_succ, List.setIfInBounds_toArray, List.set_cons_zero, List.set_cons_succ]
  refine wpAnyH_done (by kernel_rfl) ?_ _
  go_wp2_with fail
  go_ret
  refine ⟨false, rfl, ⟨fun h => (by cases h), fun h => absurd h HNO.out⟩, by rw [HG.out]; exact HBW.out.1⟩

set_option maxRecDepth 100000 in
set_option maxHeartbeats 4000000 in
theorem suits64_c (L N l n : Nat) (w : World) (h1 : L + N ≤ 64) (h2 : l + n ≤ 64) (c : L ≤ l) (c' : bh64 L N ≤ bh64 l n) :
    Calls Tryz.prog 230 #[wn64 L N, wn64 l n] w (SuitEnd64 L N l n w) := by
  have HC1 := hide c
  have HC2 := hide c'
  have cd : decide (L ≤ l) = true := decide_eq_true c
  have cd2 : decide (bh64 L N ≤ bh64 l n) = true := decide_eq_true c'
  have H1 := hide h1
  have H2 := hide h2
  have HS : Hid (∀ w, Calls Tryz.prog 213 #[.agg #[.int .i64 (L : Int), .int .i64 (N : Int)]] w fun e w' => e = .returned (.bool (decide (0 < N))) ∧ Below w.heap.size w w') := fun w => stands64_any L N w h1
  have HB1 : Hid (∀ w, Calls Tryz.prog 214 #[.agg #[.int .i64 (L : Int), .int .i64 (N : Int)]] w fun e w' => e = .returned (.int .i64 ((64 - L - N : Nat) : Int)) ∧ Below w.heap.size w w') := fun w => behind64_any L N (64 - L - N) w (by omega)
  have HB2 : Hid (∀ w, Calls Tryz.prog 214 #[.agg #[.int .i64 (l : Int), .int .i64 (n : Int)]] w fun e w' => e = .returned (.int .i64 ((64 - l - n : Nat) : Int)) ∧ Below w.heap.size w w') := fun w => behind64_any l n (64 - l - n) w (by omega)
  have HM := hide (boxed64 w L N l n)
  clear h1 h2 c c'
  unfold wn64
  go_enter Tryz.func230, Tryz.ntmps230
  go_wp2_with fail
  generalize (w.alloc (.cells #[.int .i64 (L : Int), .int .i64 (N : Int)] 225)).alloc (.cells #[.int .i64 (l : Int), .int .i64 (n : Int)] 225) = W1 at *
  obtain ⟨c0, c1, c2, c3, B1⟩ := HM.out
  have HBW : Hid (Below w.heap.size w W1 ∧ w.heap.size ≤ W1.heap.size) := ⟨B1, B1.size⟩
  clear B1 HM HB1 HB2
  obtain ⟨G, hG⟩ : ∃ G, w.heap.size = G := ⟨_, rfl⟩
  rw [hG] at c0 c1 c2 c3 HBW ⊢
  have HG := hide hG
  clear hG
  go_region_held3 (fun w' => w'.cell? ⟨G, 0, none⟩ = some (.int .i64 (L : Int)) ∧ w'.cell? ⟨G, 1, none⟩ = some (.int .i64 (N : Int)) ∧ w'.cell? ⟨G + 1, 0, none⟩ = some (.int .i64 (l : Int)) ∧ w'.cell? ⟨G + 1, 1, none⟩ = some (.int .i64 (n : Int))) (first | exact ⟨d0, d1, d2, d3⟩ | exact ⟨c0, c1, c2, c3⟩)
    ((go_at_call 214; go_must (refine (behindN64_any _ _ _ (by first | exact H1.out | exact H2.out)).mono ?_); rintro _ wz ⟨rfl, hbz⟩; (have d0 : wz.cell? ⟨G, 0, none⟩ = some (.int .i64 (L : Int)) := by rw [hbz.cell (p := ⟨G, 0, none⟩) (block_lt_of_cell (by first | exact d0 | exact c0))]; first | exact d0 | exact c0); (have d1 : wz.cell? ⟨G, 1, none⟩ = some (.int .i64 (N : Int)) := by rw [hbz.cell (p := ⟨G, 1, none⟩) (block_lt_of_cell (by first | exact d1 | exact c1))]; first | exact d1 | exact c1); (have d2 : wz.cell? ⟨G + 1, 0, none⟩ = some (.int .i64 (l : Int)) := by rw [hbz.cell (p := ⟨G + 1, 0, none⟩) (block_lt_of_cell (by first | exact d2 | exact c2))]; first | exact d2 | exact c2); (have d3 : wz.cell? ⟨G + 1, 1, none⟩ = some (.int .i64 (n : Int)) := by rw [hbz.cell (p := ⟨G + 1, 1, none⟩) (block_lt_of_cell (by first | exact d3 | exact c3))]; first | exact d3 | exact c3); (have HBW : Hid (Below G w wz ∧ G ≤ wz.heap.size) := next_below HBW.out hbz ⟨rfl, rfl, rfl, Nat.le_refl _, fun _ _ => rfl⟩); clear hbz))
  go_wp2_with fail
  by_cases h0 : N = 0
  · rw [show decide (0 < N) = false from by simp; omega] at HS
    have HN := hide h0
    clear h0
    refine wp_region_held_drew (S := fun w' => w'.cell? ⟨G, 0, none⟩ = some (.int .i64 (L : Int)) ∧ w'.cell? ⟨G, 1, none⟩ = some (.int .i64 (N : Int)) ∧ w'.cell? ⟨G + 1, 0, none⟩ = some (.int .i64 (l : Int)) ∧ w'.cell? ⟨G + 1, 1, none⟩ = some (.int .i64 (n : Int))) (by kernel_rfl) (by first | exact ⟨d0, d1, d2, d3⟩ | exact ⟨c0, c1, c2, c3⟩) (fun hHeld => ?_)
    refine wpAnyH_take (i := 0) (v := ?_) rfl (by kernel_rfl) (by kernel_rfl) (by kernel_rfl) (fun _ _ _ h => h) (Or.inl ⟨by rfl, ?_⟩) hHeld ?_
    rotate_left
    · (intro wq hSw; (try dsimp only at hSw); (try obtain ⟨s0, s1, s2, s3⟩ := hSw); (go_simp <;> with_reducible rfl))
    try simp only [Act.put, List.getElem_toArray, List.getElem_cons_zero, List.getElem_cons_succ, List.setIfInBounds_toArray, List.set_cons_zero, List.set_cons_succ]
    refine wpAnyH_ready (rs := [1]) (by kernel_rfl) (by simp) ?_
    refine AllReadyH.cons rfl (fun K hK => ?_) AllReadyH.nil
    go_simp
    refine (HS.out _).mono ?_
    rintro e wz ⟨rfl, hbz⟩
    have d0 : wz.cell? ⟨G, 0, none⟩ = some (.int .i64 (L : Int)) := by rw [hbz.cell (p := ⟨G, 0, none⟩) (block_lt_of_cell (by first | exact d0 | exact c0))]; first | exact d0 | exact c0
    have d1 : wz.cell? ⟨G, 1, none⟩ = some (.int .i64 (N : Int)) := by rw [hbz.cell (p := ⟨G, 1, none⟩) (block_lt_of_cell (by first | exact d1 | exact c1))]; first | exact d1 | exact c1
    have d2 : wz.cell? ⟨G + 1, 0, none⟩ = some (.int .i64 (l : Int)) := by rw [hbz.cell (p := ⟨G + 1, 0, none⟩) (block_lt_of_cell (by first | exact d2 | exact c2))]; first | exact d2 | exact c2
    have d3 : wz.cell? ⟨G + 1, 1, none⟩ = some (.int .i64 (n : Int)) := by rw [hbz.cell (p := ⟨G + 1, 1, none⟩) (block_lt_of_cell (by first | exact d3 | exact c3))]; first | exact d3 | exact c3
    have HBW : Hid (Below G w wz ∧ G ≤ wz.heap.size) := next_below HBW.out hbz ⟨rfl, rfl, rfl, Nat.le_refl _, fun _ _ => rfl⟩
    clear hbz
    go_wp2_with fail
    refine hK.out _ _ ?_ (fun hHeld => ?_)
    · exact ⟨d0, d1, d2, d3⟩
    clear hK K
    try simp only [Act.put, List.getElem_toArray, List.getElem_cons_zero, List.getElem_cons_succ, List.setIfInBounds_toArray, List.set_cons_zero, List.set_cons_succ]
    refine wpAnyH_take (i := 2) (v := ?_) rfl (by kernel_rfl) (by kernel_rfl) (by kernel_rfl) (fun _ _ _ h => h) (Or.inl ⟨by rfl, ?_⟩) hHeld ?_
    rotate_left
    · (intro wq hSw; (try dsimp only at hSw); (try obtain ⟨s0, s1, s2, s3⟩ := hSw); (go_simp <;> with_reducible rfl))
    try simp only [Act.put, List.getElem_toArray, List.getElem_cons_zero, List.getElem_cons_succ, List.setIfInBounds_toArray, List.set_cons_zero, List.set_cons_succ]
    refine wpAnyH_take (i := 3) (v := undef) rfl (by kernel_rfl) (by kernel_rfl) (by kernel_rfl) (fun _ _ _ h => h) (Or.inr ⟨by rfl, rfl⟩) hHeld ?_
    try simp only [Act.put, List.getElem_toArray, List.getElem_cons_zero, List.getElem_cons_succ, List.setIfInBounds_toArray, List.set_cons_zero, List.set_cons_succ]
    refine wpAnyH_take (i := 4) (v := ?_) rfl (by kernel_rfl) (by kernel_rfl) (by kernel_rfl) (fun _ _ _ h => h) (Or.inl ⟨by rfl, ?_⟩) hHeld ?_
    rotate_left
    · (intro wq hSw; (try dsimp only at hSw); (try obtain ⟨s0, s1, s2, s3⟩ := hSw); (go_simp <;> with_reducible rfl))
    try simp only [Act.put, List.getElem_toArray, List.getElem_cons_zero, List.getElem_cons_succ, List.setIfInBounds_toArray, List.set_cons_zero, List.set_cons_succ]
    refine wpAnyH_take (i := 5) (v := ?_) rfl (by kernel_rfl) (by kernel_rfl) (by kernel_rfl) (fun _ _ _ h => h) (Or.inl ⟨by rfl, ?_⟩) hHeld ?_
    rotate_left
    · (intro wq hSw; (try dsimp only at hSw); (try obtain ⟨s0, s1, s2, s3⟩ := hSw); (go_simp <;> with_reducible rfl))
    try simp only [Act.put, List.getElem_toArray, List.getElem_cons_zero, List.getElem_cons_succ, List.setIfInBounds_toArray, List.set_cons_zero, List.set_cons_succ]
    refine wpAnyH_take (i := 6) (v := undef) rfl (by kernel_rfl) (by kernel_rfl) (by kernel_rfl) (fun _ _ _ h => h) (Or.inr ⟨by rfl, rfl⟩) hHeld ?_
    try simp only [Act.put, List.getElem_toArray, List.getElem_cons_zero, List.getElem_cons_succ, List.setIfInBounds_toArray, List.set_cons_zero, List.set_cons_succ]
    refine wpAnyH_take (i := 7) (v := undef) rfl (by kernel_rfl) (by kernel_rfl) (by kernel_rfl) (fun _ _ _ h => h) (Or.inr ⟨by rfl, rfl⟩) hHeld ?_
    try simp only [Act.put, List.getElem_toArray, List.getElem_cons_zero, List.getElem_cons_succ, List.setIfInBounds_toArray, List.set_cons_zero, List.set_cons_succ]
    refine wpAnyH_take (i := 8) (v := undef) rfl (by kernel_rfl) (by kernel_rfl) (by kernel_rfl) (fun _ _ _ h => h) (Or.inr ⟨by rfl, rfl⟩) hHeld ?_
    try simp only [Act.put, List.getElem_toArray, List.getElem_cons_zero, List.getElem_cons_succ, List.setIfInBounds_toArray, List.set_cons_zero, List.set_cons_succ]
    refine wpAnyH_take (i := 9) (v := undef) rfl (by kernel_rfl) (by kernel_rfl) (by kernel_rfl) (fun _ _ _ h => h) (Or.inr ⟨by rfl, rfl⟩) hHeld ?_
    try simp only [Act.put, List.getElem_toArray, List.getElem_cons_zero, List.getElem_cons_succ, List.setIfInBounds_toArray, List.set_cons_zero, List.set_cons_succ]
    refine wpAnyH_ready (rs := [10]) (by kernel_rfl) (by simp) ?_
    refine AllReadyH.cons rfl (fun K hK => ?_) AllReadyH.nil
    go_simp
    refine hK.out _ _ ?_ (fun hHeld => ?_)
    · exact ⟨d0, d1, d2, d3⟩
    clear hK K
    try simp only [Act.put, List.getElem_toArray, List.getElem_cons_zero, List.getElem_cons_succ, List.setIfInBounds_toArray, List.set_cons_zero, List.set_cons_succ]
    refine wpAnyH_take (i := 11) (v := undef) rfl (by kernel_rfl) (by kernel_rfl) (by kernel_rfl) (fun _ _ _ h => h) (Or.inr ⟨by rfl, rfl⟩) hHeld ?_
    try simp only [Act.put, List.getElem_toArray, List.getElem_cons_zero, List.getElem_cons_succ, List.setIfInBounds_toArray, List.set_cons_zero, List.set_cons_succ]
    refine wpAnyH_take (i := 12) (v := undef) rfl (by kernel_rfl) (by kernel_rfl) (by kernel_rfl) (fun _ _ _ h => h) (Or.inr ⟨by rfl, rfl⟩) hHeld ?_
    try simp only [Act.put, List.getElem_toArray, List.getElem_cons_zero, List.getElem_cons_succ, List.setIfInBounds_toArray, List.set_cons_zero, List.set_cons_succ]
    refine wpAnyH_take (i := 13) (v := undef) rfl (by kernel_rfl) (by kernel_rfl) (by kernel_rfl) (fun _ _ _ h => h) (Or.inr ⟨by rfl, rfl⟩) hHeld ?_
    try simp only [Act.put, List.getElem_toArray, List.getElem_cons_zero, List.getElem_cons_succ, List.setIfInBounds_toArray, List.set_cons_zero, List.set_cons_succ]
    refine wpAnyH_take (i := 14) (v := ?_) rfl (by kernel_rfl) (by kernel_rfl) (by kernel_rfl) (fun _ _ _ h => h) (Or.inl ⟨by rfl, ?_⟩) hHeld ?_
    rotate_left
    · (intro wq hSw; (try dsimp only at hSw); (try obtain ⟨s0, s1, s2, s3⟩ := hSw); (go_simp <;> with_reducible rfl))
    try simp only [Act.put, List.getElem_toArray, List.getElem_cons_zero, List.getElem_cons_succ, List.setIfInBounds_toArray, List.set_cons_zero, List.set_cons_succ]
    refine wpAnyH_take (i := 15) (v := ?_) rfl (by kernel_rfl) (by kernel_rfl) (by kernel_rfl) (fun _ _ _ h => h) (Or.inl ⟨by rfl, ?_⟩) hHeld ?_
    rotate_left
    · (intro wq hSw; (try dsimp only at hSw); (try obtain ⟨s0, s1, s2, s3⟩ := hSw); (go_simp <;> with_reducible rfl))
    try simp only [Act.put, List.getElem_toArray, List.getElem_cons_zero, List.getElem_cons_succ, List.setIfInBounds_toArray, List.set_cons_zero, List.set_cons_succ]
    refine wpAnyH_done (by kernel_rfl) ?_ _
    go_wp2_with fail
    go_ret
    refine ⟨false, rfl, ⟨fun h => (by cases h), fun h => absurd h.1 (by have := HN.out; omega)⟩, by rw [HG.out]; exact HBW.out.1⟩
  rw [show decide (0 < N) = true from by simp; omega] at HS
  have HN := hide h0
  clear h0
  go_region_held3 (fun w' => w'.cell? ⟨G, 0, none⟩ = some (.int .i64 (L : Int)) ∧ w'.cell? ⟨G, 1, none⟩ = some (.int .i64 (N : Int)) ∧ w'.cell? ⟨G + 1, 0, none⟩ = some (.int .i64 (l : Int)) ∧ w'.cell? ⟨G + 1, 1, none⟩ = some (.int .i64 (n : Int))) (first | exact ⟨d0, d1, d2, d3⟩ | exact ⟨c0, c1, c2, c3⟩)
    (first | (go_at_call 213; go_must (refine (HS.out _).mono ?_); rintro _ wz ⟨rfl, hbz⟩; (have d0 : wz.cell? ⟨G, 0, none⟩ = some (.int .i64 (L : Int)) := by rw [hbz.cell (p := ⟨G, 0, none⟩) (block_lt_of_cell (by first | exact d0 | exact c0))]; first | exact d0 | exact c0); (have d1 : wz.cell? ⟨G, 1, none⟩ = some (.int .i64 (N : Int)) := by rw [hbz.cell (p := ⟨G, 1, none⟩) (block_lt_of_cell (by first | exact d1 | exact c1))]; first | exact d1 | exact c1); (have d2 : wz.cell? ⟨G + 1, 0, none⟩ = some (.int .i64 (l : Int)) := by rw [hbz.cell (p := ⟨G + 1, 0, none⟩) (block_lt_of_cell (by first | exact d2 | exact c2))]; first | exact d2 | exact c2); (have d3 : wz.cell? ⟨G + 1, 1, none⟩ = some (.int .i64 (n : Int)) := by rw [hbz.cell (p := ⟨G + 1, 1, none⟩) (block_lt_of_cell (by first | exact d3 | exact c3))]; first | exact d3 | exact c3); (have HBW : Hid (Below G w wz ∧ G ≤ wz.heap.size) := next_below HBW.out hbz ⟨rfl, rfl, rfl, Nat.le_refl _, fun _ _ => rfl⟩); clear hbz) | (go_at_call 228; go_must (refine (fieldWidth64_any _).mono ?_); rintro _ wy ⟨rfl, rfl⟩))
  go_wp2_with fail
  go_ret
  refine ⟨_, rfl, ?_, by rw [HG.out]; exact HBW.out.1⟩
  have q0 := H2.out
  rw [decide_eq_true_iff, IntKind.wrap_i64, IntKind.wrap_i64]
  have q1 := HN.out
  have q2 := HC1.out
  have q3 := HC2.out
  unfold bh64 at q3
  omega

theorem suits64_any (L N l n : Nat) (w : World) (h1 : L + N ≤ 64) (h2 : l + n ≤ 64) : Calls Tryz.prog 230 #[wn64 L N, wn64 l n] w (SuitEnd64 L N l n w) := by
  by_cases c : L ≤ l
  · by_cases c2 : bh64 L N ≤ bh64 l n
    · exact suits64_c L N l n w h1 h2 c c2
    · exact suits64_b L N l n w h1 h2 c c2
  · exact suits64_a L N l n w h1 h2 c

end Go.Proofs.YtpdaklklhoenhaaGreatDoor

/- The contracts of pick, of a window's lay (64 bits). -/
namespace Go.Proofs.YtpdaklklhoenhaaGreatDoor
open Go.RowKit
open M
set_option linter.unusedVariables false
set_option linter.unusedSimpArgs false

/-- A column's state: the value ahead, the window that was laid last. -/
structure Col64 (w : World) (c : Nat) (p L N : Nat) : Prop where
  ahead : w.cell? ⟨c, 0, none⟩ = some (.int .u64 (p : Int))
  lead : w.cell? ⟨c, 1, none⟩ = some (.int .i64 (L : Int))
  len : w.cell? ⟨c, 2, none⟩ = some (.int .i64 (N : Int))
  fz : ∀ i, w.frozen? ⟨c, i, none⟩ = false

theorem Col64.lt {w : World} {c p L N : Nat} (h : Col64 w c p L N) : c < w.heap.size := block_lt_of_cell h.ahead
theorem Col64.below {w w' : World} {c p L N B : Nat} (h : Col64 w c p L N) (hB : Below B w w') (hc : c < B) : Col64 w' c p L N := by
  have e := hB.block c hc
  exact ⟨by rw [World.cell?_of_block (w := w) e]; exact h.ahead, by rw [World.cell?_of_block (w := w) e]; exact h.lead, by rw [World.cell?_of_block (w := w) e]; exact h.len,
    fun i => by rw [World.frozen?_of_block (w := w) (w' := w') (a := ⟨c, i, none⟩) e]; exact h.fz i⟩

/-- What pick tells. -/
def PickE64 (P : Prop) (L N l' n' : Nat) (w : World) (e : Ending) (w' : World) : Prop :=
  ∃ (l n : Nat) (own : Bool), e = .returned (.tuple #[.agg #[.int .i64 (l : Int), .int .i64 (n : Int)], .bool own]) ∧ Below w.heap.size w w' ∧
    ((own = false ∧ P ∧ l = L ∧ n = N) ∨ (own = true ∧ ¬ P ∧ l = l' ∧ n = n'))
def PickEnd64 (L N x : Nat) (w : World) (e : Ending) (w' : World) : Prop := PickE64 (sut 64 6 L N x) L N (64 - bitLen x) (wl x) w e w'

set_option maxRecDepth 100000 in
set_option maxHeartbeats 4000000 in
theorem pick64_any (c p L N x : Nat) (w : World) (h : Col64 w c p L N) (hw : L + N ≤ 64) (hx : x < 18446744073709551616) (h0 : x ≠ 0) (hT : Tab64 w) :
    Calls Tryz.prog 215 #[.pointer (some ⟨c, 0, none⟩), .int .u64 x] w (PickEnd64 L N x w) := by
  have hb := bitLen_le x 64 hx
  have ht := tz_lt x h0 (by omega)
  have HW : Hid (64 - bitLen x + wl x ≤ 64 ∧ (sut 64 6 L N x ↔ (0 < N ∧ L ≤ 64 - bitLen x ∧ 64 - L - N ≤ 64 - (64 - bitLen x) - wl x ∧ N ≤ wl x + 2 * 6))) := by
    have q : wl x = bitLen x - tz x := rfl
    refine ⟨by omega, ?_⟩
    unfold sut
    rw [show 64 - (64 - bitLen x) - wl x = tz x from by omega]
  have HWO : Hid (∀ w, Tab64 w → Calls Tryz.prog 229 #[.int .u64 x] w fun e w' => e = .returned (.agg #[.int .i64 ((64 - bitLen x : Nat) : Int), .int .i64 (wl x : Int)]) ∧ Below w.heap.size w w') := fun w h => windowOf64_any x w hx h0 h
  have HH := hide h
  have HT := hide hT
  have HL := hide hw
  clear h hT hw hb ht hx
  unfold PickEnd64
  generalize 64 - bitLen x = l at *
  generalize wl x = n at *
  have HN0 : Hid ((w.alloc (.cells #[.int .i64 0, .int .i64 0] 225)).heap[w.heap.size]? = some (.cells #[.int .i64 0, .int .i64 0] 225 (0, 0)) ∧ Below w.heap.size w (w.alloc (.cells #[.int .i64 0, .int .i64 0] 225))) := ⟨heap_alloc_new w _, (Below.refl _ w).alloc (Nat.le_refl _) _⟩
  go_enter Tryz.func215, Tryz.ntmps215
  go_wp2_with fail
  generalize w.alloc (.cells #[.int .i64 0, .int .i64 0] 225) = w0 at *
  refine (HWO.out _ (HT.out.below HN0.out.2)).mono ?_
  rintro e w1 ⟨rfl, hb1⟩
  have s0 : w.heap.size < w0.heap.size := size_lt_of_row HN0.out.1
  have s1 := hb1.size
  have HB2 : Hid (Below w.heap.size w (w1.alloc (.cells #[.int .i64 (l : Int), .int .i64 (n : Int)] 225)) ∧ w.heap.size ≤ (w1.alloc (.cells #[.int .i64 (l : Int), .int .i64 (n : Int)] 225)).heap.size ∧
      (w1.alloc (.cells #[.int .i64 (l : Int), .int .i64 (n : Int)] 225)).heap[w.heap.size]? = some (.cells #[.int .i64 0, .int .i64 0] 225 (0, 0)) ∧
      (w1.alloc (.cells #[.int .i64 (l : Int), .int .i64 (n : Int)] 225)).heap[w1.heap.size]? = some (.cells #[.int .i64 (l : Int), .int .i64 (n : Int)] 225 (0, 0))) := by
    have b1 : Below w.heap.size w w1 := HN0.out.2.trans (hb1.mono HN0.out.2.size)
    refine ⟨b1.alloc (by omega) _, by simp; omega, ?_, heap_alloc_new w1 _⟩
    exact new_kept (by rw [hb1.block w.heap.size s0]; exact HN0.out.1) _
  clear hb1 HN0
  go_wp2_with fail
  obtain ⟨H, hH⟩ : ∃ H, w1.heap.size = H := ⟨_, rfl⟩
  rw [hH] at HB2 s1 ⊢
  generalize w1.alloc (.cells #[.int .i64 (l : Int), .int .i64 (n : Int)] 225) = w2 at *
  obtain ⟨G, hG⟩ : ∃ G, w.heap.size = G := ⟨_, rfl⟩
  have hcG : c < w.heap.size := HH.out.lt
  have HC2 : Hid (Col64 w2 c p L N) := HH.out.below HB2.out.1 hcG
  rw [hG] at HB2 s0 hcG ⊢
  have HG := hide hG
  clear hG hH
  have HBW : Hid (Below G w w2 ∧ G ≤ w2.heap.size) := ⟨HB2.out.1, HB2.out.2.1⟩
  have c0 : w2.cell? ⟨c, 1, none⟩ = some (.int .i64 (L : Int)) := HC2.out.lead
  have c1 : w2.cell? ⟨c, 2, none⟩ = some (.int .i64 (N : Int)) := HC2.out.len
  have c2 : w2.cell? ⟨H, 0, none⟩ = some (.int .i64 (l : Int)) := by rw [cell_of_row _ _ _ _ _ _ HB2.out.2.2.2]; rfl
  have c3 : w2.cell? ⟨H, 1, none⟩ = some (.int .i64 (n : Int)) := by rw [cell_of_row _ _ _ _ _ _ HB2.out.2.2.2]; rfl
  have HGB := hide HB2.out.2.2.1
  clear HB2 HC2
  go_region_held3 (fun w' => w'.cell? ⟨c, 1, none⟩ = some (.int .i64 (L : Int)) ∧ w'.cell? ⟨c, 2, none⟩ = some (.int .i64 (N : Int)) ∧ w'.cell? ⟨H, 0, none⟩ = some (.int .i64 (l : Int)) ∧ w'.cell? ⟨H, 1, none⟩ = some (.int .i64 (n : Int))) (first | exact ⟨d0, d1, d2, d3⟩ | exact ⟨c0, c1, c2, c3⟩)
    ((go_at_call 230; go_must (refine (suits64_any L N l n _ HL.out HW.out.1).mono ?_); rintro _ wz ⟨v, rfl, hv, hbz⟩; (have d0 : wz.cell? ⟨c, 1, none⟩ = some (.int .i64 (L : Int)) := by rw [hbz.cell (p := ⟨c, 1, none⟩) (block_lt_of_cell c0)]; exact c0); (have d1 : wz.cell? ⟨c, 2, none⟩ = some (.int .i64 (N : Int)) := by rw [hbz.cell (p := ⟨c, 2, none⟩) (block_lt_of_cell c1)]; exact c1); (have d2 : wz.cell? ⟨H, 0, none⟩ = some (.int .i64 (l : Int)) := by rw [hbz.cell (p := ⟨H, 0, none⟩) (block_lt_of_cell c2)]; exact c2); (have d3 : wz.cell? ⟨H, 1, none⟩ = some (.int .i64 (n : Int)) := by rw [hbz.cell (p := ⟨H, 1, none⟩) (block_lt_of_cell c3)]; exact c3); (have HGZ : Hid (wz.heap[G]? = some (.cells #[.int .i64 0, .int .i64 0] 225 (0, 0))) := (by show _ = _; rw [hbz.block G (size_lt_of_row HGB.out)]; exact HGB.out)); (have HBW : Hid (Below G w wz ∧ G ≤ wz.heap.size) := next_below HBW.out hbz ⟨rfl, rfl, rfl, Nat.le_refl _, fun _ _ => rfl⟩); clear hbz))
  rw [← HW.out.2] at hv
  have HV := hide hv
  clear hv
  have f0 : wz.frozen? ⟨G, 0, none⟩ = false := frozen_of_row _ _ _ _ _ HGZ.out
  have f1 : wz.frozen? ⟨G, 1, none⟩ = false := frozen_of_row _ _ _ _ _ HGZ.out
  have g0 : wz.cell? ⟨G, 0, none⟩ = some (.int .i64 0) := by rw [cell_of_row _ _ _ _ _ _ HGZ.out]; rfl
  have g1 : wz.cell? ⟨G, 1, none⟩ = some (.int .i64 0) := by rw [cell_of_row _ _ _ _ _ _ HGZ.out]; rfl
  cases v with
  | true =>
    go_wp2_with fail
    obtain ⟨r0, r1⟩ := set_two (v := .int .i64 (L : Int)) (v' := .int .i64 (N : Int)) g0 g1
    refine bodyPost_ret (v := .tuple #[.agg #[.int .i64 (L : Int), .int .i64 (N : Int)], .bool false]) (by simp [results, Tryz.results215, go_sem, r0, r1]) rfl ?_
    refine ⟨L, N, false, rfl, ?_, ?_⟩
    · rw [HG.out]; exact (HBW.out.1.setCell (Nat.le_refl _) _).setCell (Nat.le_refl _) _
    · exact .inl ⟨rfl, HV.out.1 (by trivial), rfl, rfl⟩
  | false =>
    go_wp2_with fail
    obtain ⟨r0, r1⟩ := set_two (v := .int .i64 (l : Int)) (v' := .int .i64 (n : Int)) g0 g1
    refine bodyPost_ret (v := .tuple #[.agg #[.int .i64 (l : Int), .int .i64 (n : Int)], .bool true]) (by simp [results, Tryz.results215, go_sem, r0, r1]) rfl ?_
    refine ⟨l, n, true, rfl, ?_, ?_⟩
    · rw [HG.out]; exact (HBW.out.1.setCell (Nat.le_refl _) _).setCell (Nat.le_refl _) _
    · exact .inr ⟨rfl, fun h => (by have := HV.out.2 h; cases this), rfl, rfl⟩

end Go.Proofs.YtpdaklklhoenhaaGreatDoor

namespace Go.Proofs.YtpdaklklhoenhaaGreatDoor
open Go.RowKit
open M
set_option linter.unusedVariables false
set_option linter.unusedSimpArgs false

set_option maxRecDepth 100000 in
set_option maxHeartbeats 4000000 in
theorem layWin64_any (L N n b lo : Nat) (w : World) (l : List Bool) (hW : Wr w lo b 0 l 0) (hb : b < lo) (hlo : lo ≤ w.heap.size) (hlen : l.length < 1000000000) (hL : L < 64) (hn : n < 64) (hN : n + 1 = N) :
    Calls Tryz.prog 220 #[.agg #[.int .i64 (L : Int), .int .i64 (N : Int)], .pointer (some ⟨b, 0, none⟩)] w fun e w' => e = .returned (.tuple #[]) ∧ Wr w' lo b 0 (l ++ bitsOf L 6 ++ bitsOf n 6) 0 ∧ Only b 0 123 w w' := by
  have q1 : (N : Int) - 1 = (n : Int) := by omega
  have r1 : IntKind.u64.wrap (L : Int) = (L : Int) := by rw [IntKind.wrap_u64]; omega
  have r2 : IntKind.u64.wrap (n : Int) = (n : Int) := by rw [IntKind.wrap_u64]; omega
  have r3 : IntKind.i64.wrap (n : Int) = (n : Int) := by rw [IntKind.wrap_i64]; omega
  have HLn := hide (And.intro hL hn)
  have HLEN := hide hlen
  have B0 : Below w.heap.size w (w.alloc (.cells #[.int .i64 (L : Int), .int .i64 (N : Int)] 225)) := (Below.refl _ w).alloc (Nat.le_refl _) _
  have HM : Hid (Wr (w.alloc (.cells #[.int .i64 (L : Int), .int .i64 (N : Int)] 225)) lo b 0 l 0 ∧ Only b 0 123 w (w.alloc (.cells #[.int .i64 (L : Int), .int .i64 (N : Int)] 225)) ∧
      (w.alloc (.cells #[.int .i64 (L : Int), .int .i64 (N : Int)] 225)).heap[w.heap.size]? = some (.cells #[.int .i64 (L : Int), .int .i64 (N : Int)] 225 (0, 0))) :=
    ⟨hW.below B0, (Only.refl b 0 123 w).alloc (by omega) _, heap_alloc_new w _⟩
  clear B0 hW hlen hN hL hn
  go_enter Tryz.func220, Tryz.ntmps220
  go_wp2_with fail
  generalize w.alloc (.cells #[.int .i64 (L : Int), .int .i64 (N : Int)] 225) = w0 at *
  have c0 : w0.cell? ⟨w.heap.size, 0, none⟩ = some (.int .i64 (L : Int)) := by rw [cell_of_row _ _ _ _ _ _ HM.out.2.2]; rfl
  have c1 : w0.cell? ⟨w.heap.size, 1, none⟩ = some (.int .i64 (N : Int)) := by rw [cell_of_row _ _ _ _ _ _ HM.out.2.2]; rfl
  have HS : Hid (w.heap.size < w0.heap.size ∧ lo ≤ w.heap.size ∧ b < lo) := ⟨size_lt_of_row HM.out.2.2, hlo, hb⟩
  obtain ⟨G, hG⟩ : ∃ G, w.heap.size = G := ⟨_, rfl⟩
  rw [hG] at c0 c1 HS hlo ⊢
  have HG := hide hG
  clear hG
  have HMd : Hid (Wr w0.drew lo b 0 l 0) := HM.out.1.below (w' := w0.drew) ⟨rfl, rfl, rfl, Nat.le_refl _, fun _ _ => rfl⟩
  go_region_held3 (fun w' => w'.cell? ⟨G, 0, none⟩ = some (.int .i64 (L : Int)) ∧ w'.cell? ⟨G, 1, none⟩ = some (.int .i64 (N : Int))) (first | exact ⟨d0, d1⟩ | exact ⟨c0, c1⟩)
    (first | (go_at_call 228; go_must (refine (fieldWidth64_any _).mono ?_); rintro _ wy ⟨rfl, rfl⟩) | (go_at_call 49; go_must (refine (wbits_any b 0 lo 6 L _ l HMd.out HS.out.2.2 (show lo ≤ w0.drew.heap.size from Nat.le_trans HS.out.2.1 (Nat.le_of_lt HS.out.1)) (by have := HLEN.out; omega) (by omega) (by have := HLn.out; omega) (by have := HLn.out; omega)).mono ?_); rintro _ w1 ⟨rfl, W1, O1⟩; (have d0 : w1.cell? ⟨G, 0, none⟩ = some (.int .i64 (L : Int)) := by rw [World.cell?_of_block (O1.block G HS.out.1 (by have := HS.out; omega))]; exact c0); (have d1 : w1.cell? ⟨G, 1, none⟩ = some (.int .i64 (N : Int)) := by rw [World.cell?_of_block (O1.block G HS.out.1 (by have := HS.out; omega))]; exact c1)))
  have HO1 : Hid (Only b 0 123 w w1 ∧ w0.heap.size ≤ w1.heap.size) := ⟨HM.out.2.1.drew.trans O1, O1.size⟩
  have HW1 : Hid (Wr w1.drew lo b 0 (l ++ bitsOf L 6) 0) := W1.below (w' := w1.drew) ⟨rfl, rfl, rfl, Nat.le_refl _, fun _ _ => rfl⟩
  clear W1 O1 HMd
  go_wp2_with fail
  go_region_held3 (fun w' => w'.cell? ⟨G, 0, none⟩ = some (.int .i64 (L : Int)) ∧ w'.cell? ⟨G, 1, none⟩ = some (.int .i64 (N : Int))) (first | exact ⟨d0, d1⟩ | exact ⟨d0, d1⟩)
    (first | (go_at_call 228; go_must (refine (fieldWidth64_any _).mono ?_); rintro _ wy ⟨rfl, rfl⟩) | (go_at_call 49; go_must (refine (wbits_any b 0 lo 6 n _ _ HW1.out HS.out.2.2 (show lo ≤ w1.drew.heap.size from Nat.le_trans HS.out.2.1 (Nat.le_trans (Nat.le_of_lt HS.out.1) HO1.out.2)) (by have := HLEN.out; simp; omega) (by omega) (by have := HLn.out; omega) (by have := HLn.out; omega)).mono ?_); rintro _ w2 ⟨rfl, W2, O2⟩; (have d0 : w2.cell? ⟨G, 0, none⟩ = some (.int .i64 (L : Int)) := by rw [World.cell?_of_block (O2.block G (Nat.lt_of_lt_of_le HS.out.1 HO1.out.2) (by have := HS.out; omega))]; exact d0); (have d1 : w2.cell? ⟨G, 1, none⟩ = some (.int .i64 (N : Int)) := by rw [World.cell?_of_block (O2.block G (Nat.lt_of_lt_of_le HS.out.1 HO1.out.2) (by have := HS.out; omega))]; exact d1)))
  go_wp2_with fail
  go_end0
  exact ⟨rfl, W2, HO1.out.1.drew.trans O2⟩

/-- Only blocks b and c may have changed. -/
structure Two64 (b c : Nat) (w w' : World) : Prop where
  os : w'.os = w.os
  tape : w'.tape = w.tape
  output : w'.output = w.output
  size : w.heap.size ≤ w'.heap.size
  block : ∀ k, k < w.heap.size → k ≠ b → k ≠ c → w'.heap[k]? = w.heap[k]?

theorem Two64.trans {b c : Nat} {u v w : World} (h : Two64 b c u v) (k : Two64 b c v w) : Two64 b c u w :=
  ⟨k.os.trans h.os, k.tape.trans h.tape, k.output.trans h.output, Nat.le_trans h.size k.size, fun i hi h1 h2 => (k.block i (Nat.lt_of_lt_of_le hi h.size) h1 h2).trans (h.block i hi h1 h2)⟩
theorem Two64.ofB {b c lo hi : Nat} {w w' : World} (h : Only b lo hi w w') : Two64 b c w w' := ⟨h.os, h.tape, h.output, h.size, fun k hk h1 _ => h.block k hk h1⟩
theorem Two64.ofC {b c lo hi : Nat} {w w' : World} (h : Only c lo hi w w') : Two64 b c w w' := ⟨h.os, h.tape, h.output, h.size, fun k hk _ h2 => h.block k hk h2⟩
theorem Two64.ofBelow {b c : Nat} {w w' : World} (h : Below w.heap.size w w') : Two64 b c w w' := ⟨h.os, h.tape, h.output, h.size, fun k hk _ _ => h.block k hk⟩
theorem Two64.below {b c B : Nat} {w w' : World} (h : Two64 b c w w') (hB : B ≤ b) (hC : B ≤ c) (hs : B ≤ w.heap.size) : Below B w w' :=
  ⟨h.os, h.tape, h.output, h.size, fun k hk => h.block k (by omega) (by omega) (by omega)⟩
theorem Two64.tab {b c : Nat} {w w' : World} (h : Two64 b c w w') (hT : Tab64 w) (hb : 2 ≠ b) (hc : 2 ≠ c) : Tab64 w' := fun j hj => by
  rw [World.cell?_of_block (w := w) (h.block _ (block_lt_of_cell (hT j hj)) hb hc)]; exact hT j hj

end Go.Proofs.YtpdaklklhoenhaaGreatDoor

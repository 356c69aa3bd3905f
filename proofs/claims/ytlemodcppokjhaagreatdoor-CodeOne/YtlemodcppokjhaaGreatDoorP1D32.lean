/- The contracts of pick, of a window's lay (32 bits). -/
import Derived.Test.YtlemodcppokjhaaGreatDoorP1B64
import Derived.Deep.RegionHeld3
import Derived.Laws.Tables
import Derived.Great.Walk
/- The contracts of pack's width, fieldWidth, windows; pick (32 bits). -/
namespace Go.Proofs.YtlemodcppokjhaaGreatDoor
open Go.RowKit
open M
set_option linter.unusedVariables false
set_option linter.unusedSimpArgs false

theorem width32_any (w : World) : Calls Tryz.prog 117 #[] w fun e w' => e = .returned (.int .i64 32) ∧ w' = w := by
  have hx : bits BinOp.xor IntKind.u32 0 4294967295 = 4294967295 := by decide +kernel
  have HL := hide (len64_all 4294967295 w (by omega))
  rw [show bitLen 4294967295 = 32 from by decide +kernel] at HL
  go_enter Tryz.func117, Tryz.ntmps117
  go_wp2_with fail
  refine HL.out.mono ?_
  rintro e w1 ⟨rfl, rfl⟩
  go_wp2_with fail
  go_ret
  exact ⟨rfl, rfl⟩

theorem fieldWidth32_any (w : World) : Calls Tryz.prog 180 #[] w fun e w' => e = .returned (.int .i64 5) ∧ w' = w := by
  have HL := hide (len64_all 31 w (by omega))
  rw [show bitLen 31 = 5 from by decide +kernel] at HL
  go_enter Tryz.func180, Tryz.ntmps180
  go_wp2_with fail
  refine (width32_any w).mono ?_
  rintro e w1 ⟨rfl, rfl⟩
  go_wp2_with fail
  refine HL.out.mono ?_
  rintro e w1 ⟨rfl, rfl⟩
  go_wp2_with fail
  go_ret
  exact ⟨rfl, rfl⟩

/-- A window as a value. -/
def wn32 (L N : Nat) : Value := .agg #[.int .i64 (L : Int), .int .i64 (N : Int)]

theorem is_struct32 {o p : Option TypeDesc} (e : p = o) (h : (match o with | some (.struct _) => true | _ => false) = true) : ∃ fs, p = some (.struct fs) := by
  subst e
  cases p with
  | none => simp at h
  | some d => cases d <;> first | exact ⟨_, rfl⟩ | simp at h

set_option maxRecDepth 100000 in
set_option maxHeartbeats 1000000 in
theorem windowOf32_any (x : Nat) (w : World) (hx : x < 4294967296) (h0 : x ≠ 0) (hT : Tab64 w) : Calls Tryz.prog 181 #[.int .u32 x] w fun e w' => e = .returned (.agg #[.int .i64 ((32 - bitLen x : Nat) : Int), .int .i64 (wl x : Int)]) ∧ Below w.heap.size w w' := by
  have hb := bitLen_le x 32 hx
  have ht := tz_lt x h0 (by omega)
  obtain ⟨B, hB⟩ : ∃ B, B = bitLen x := ⟨_, rfl⟩
  obtain ⟨Z, hZ⟩ : ∃ Z, Z = tz x := ⟨_, rfl⟩
  obtain ⟨L, hL⟩ : ∃ L, L = 32 - bitLen x := ⟨_, rfl⟩
  obtain ⟨N, hN⟩ : ∃ N, N = wl x := ⟨_, rfl⟩
  have q1 : (32 : Int) - (B : Int) = (L : Int) := by omega
  have q2 : wl x = bitLen x - tz x := rfl
  have q3 : (32 : Int) - (L : Int) = (B : Int) := by omega
  have q4 : (B : Int) - (Z : Int) = (N : Int) := by omega
  have HL : Hid (∀ w : World, Calls Tryz.prog 138 #[.int .u64 x] w fun e w' => e = .returned (.int .i64 (B : Int)) ∧ w' = w) := fun w => by rw [hB]; exact len64_all x w (by omega)
  have HZ : Hid (∀ w : World, Tab64 w → Calls Tryz.prog 188 #[.int .u64 x] w fun e w' => e = .returned (.int .i64 (Z : Int)) ∧ w' = w) := fun w h => by rw [hZ]; exact tz64_any x w (by omega) h0 h
  rw [← hL, ← hN]
  have r0 : IntKind.u64.wrap (x : Int) = (x : Int) := by rw [IntKind.wrap_u64]; omega
  have HT : Hid (Tab64 (w.alloc (.cells #[.int .i64 0, .int .i64 0] 162))) := hT.below ((Below.refl _ w).alloc (Nat.le_refl _) _)
  have HX := hide hx
  clear hB hZ hL hN q2 hT hx hb ht h0
  go_enter Tryz.func181, Tryz.ntmps181
  go_wp2_with fail
  refine (width32_any _).mono ?_
  rintro e w1 ⟨rfl, rfl⟩
  go_wp2_with fail
  refine (HL.out _).mono ?_
  rintro e w1 ⟨rfl, rfl⟩
  go_wp2_with fail
  refine (HZ.out _ HT.out).mono ?_
  rintro e w1 ⟨rfl, rfl⟩
  go_wp2_with fail
  refine (width32_any _).mono ?_
  rintro e w1 ⟨rfl, rfl⟩
  go_wp2_with fail
  obtain ⟨fs, hu⟩ := is_struct32 (show Tryz.prog.underlying 162 = Tryz.prog.underlying 162 from rfl) (by kernel_rfl)
  first
    | (refine bodyPost_ret (results_cell_row rfl _ _ w.heap.size _ _ (0, 0) (.struct fs) rfl (heap_alloc_new w _) hu rfl (by kernel_rfl)) rfl ?_
       exact ⟨rfl, ((Below.refl _ w).alloc (Nat.le_refl _) _)⟩)
    | trace_state

theorem behind32_any (L N s : Nat) (w : World) (h : L + N + s = 32) : Calls Tryz.prog 156 #[wn32 L N] w fun e w' => e = .returned (.int .i64 (s : Int)) ∧ Below w.heap.size w w' := by
  have q1 : (32 : Int) - (L : Int) = ((N + s : Nat) : Int) := by omega
  have q2 : ((N + s : Nat) : Int) - (N : Int) = (s : Int) := by omega
  generalize N + s = Z at *
  unfold wn32
  go_enter Tryz.func156, Tryz.ntmps156
  go_wp2_with fail
  go_quiet ((go_at_call 117; exact Calls.quiet_of_same (width32_any _)))
  go_wp2_with fail
  go_ret
  exact ⟨rfl, below_drewN ((Below.refl _ w).alloc (Nat.le_refl _) _) _⟩

theorem behindZ32_any (L N : Nat) (z : Int) (w : World) (hL : L ≤ 64) (hN : N ≤ 64) (h : z = (32 : Int) - L - N) : Calls Tryz.prog 156 #[wn32 L N] w fun e w' => e = .returned (.int .i64 z) ∧ Below w.heap.size w w' := by
  obtain ⟨y, hy⟩ : ∃ y : Int, y = (32 : Int) - L := ⟨_, rfl⟩
  have q1 : (32 : Int) - (L : Int) = y := by omega
  have q2 : y - (N : Int) = z := by omega
  have r1 : wrap64 y = y := by unfold wrap64; omega
  have r2 : wrap64 z = z := by unfold wrap64; omega
  have r3 : IntKind.i64.wrap y = y := by rw [IntKind.wrap_i64]; omega
  have r4 : IntKind.i64.wrap z = z := by rw [IntKind.wrap_i64]; omega
  have HH := hide h
  have HY := hide hy
  clear h hy
  unfold wn32
  go_enter Tryz.func156, Tryz.ntmps156
  go_wp2_with fail
  go_quiet ((go_at_call 117; exact Calls.quiet_of_same (width32_any _)))
  go_wp2_with fail
  go_ret
  exact ⟨rfl, below_drewN ((Below.refl _ w).alloc (Nat.le_refl _) _) _⟩

/-- How many bits stand behind a window. -/
def bh32 (L N : Nat) : Nat := 32 - L - N
theorem behindN32_any (L N : Nat) (w : World) (h : L + N ≤ 32) : Calls Tryz.prog 156 #[.agg #[.int .i64 (L : Int), .int .i64 (N : Int)]] w fun e w' => e = .returned (.int .i64 (bh32 L N : Int)) ∧ Below w.heap.size w w' := behind32_any L N _ w (by unfold bh32; omega)

/-- A window that is none, or lies within a value, stands if it is one. -/
theorem stands32_any (L N : Nat) (w : World) (h : L + N ≤ 32) : Calls Tryz.prog 155 #[wn32 L N] w fun e w' => e = .returned (.bool (decide (0 < N))) ∧ Below w.heap.size w w' := by
  by_cases h0 : N = 0
  · subst h0
    unfold wn32
    go_enter Tryz.func155, Tryz.ntmps155
    go_wp2_with fail
    go_ret
    exact ⟨rfl, ((Below.refl _ w).alloc (Nat.le_refl _) _)⟩
  · have hp : decide ((0 : Int) < (N : Int)) = true := by simp; omega
    rw [show decide (0 < N) = true from by simp; omega]
    have HB : Hid (∀ w, Calls Tryz.prog 156 #[.agg #[.int .i64 (L : Int), .int .i64 (N : Int)]] w fun e w' => e = .returned (.int .i64 ((32 - L - N : Nat) : Int)) ∧ Below w.heap.size w w') := fun w => behind32_any L N (32 - L - N) w (by omega)
    generalize 32 - L - N = s at *
    unfold wn32
    go_enter Tryz.func155, Tryz.ntmps155
    go_wp2_with fail
    refine (HB.out _).mono ?_
    rintro e w1 ⟨rfl, hb⟩
    have hb2 : Below w.heap.size w w1 := ((Below.refl _ w).alloc (Nat.le_refl _) _).trans (hb.mono (by simp))
    clear hb
    go_wp2_with fail
    go_ret
    exact ⟨rfl, hb2⟩

/-- A window that goes beyond the value does not. -/
theorem stands32_bad (L N : Nat) (w : World) (hL : L ≤ 64) (hN : N ≤ 64) (h : 32 < L + N) (h0 : 0 < N) : Calls Tryz.prog 155 #[wn32 L N] w fun e w' => e = .returned (.bool false) ∧ Below w.heap.size w w' := by
  have hp : decide ((0 : Int) < (N : Int)) = true := by simp; omega
  obtain ⟨z, hz⟩ : ∃ z : Int, z = (32 : Int) - L - N := ⟨_, rfl⟩
  have hz0 : decide ((0 : Int) ≤ z) = false := by simp; omega
  have HB : Hid (∀ w, Calls Tryz.prog 156 #[.agg #[.int .i64 (L : Int), .int .i64 (N : Int)]] w fun e w' => e = .returned (.int .i64 z) ∧ Below w.heap.size w w') := fun w => behindZ32_any L N z w hL hN hz
  unfold wn32
  have HZ := hide hz
  have HH := hide h
  clear hz h
  go_enter Tryz.func155, Tryz.ntmps155
  go_wp2_with fail
  refine (HB.out _).mono ?_
  rintro e w1 ⟨rfl, hb⟩
  have hb2 : Below w.heap.size w w1 := ((Below.refl _ w).alloc (Nat.le_refl _) _).trans (hb.mono (by simp))
  clear hb
  go_wp2_with fail
  go_ret
  exact ⟨rfl, hb2⟩

end Go.Proofs.YtlemodcppokjhaaGreatDoor

/- The contracts of suits, pick (32 bits). -/
namespace Go.Proofs.YtlemodcppokjhaaGreatDoor
open Go.RowKit
open M
set_option linter.unusedVariables false
set_option linter.unusedSimpArgs false

/-- What suits tells. -/
def SuitEnd32 (L N l n : Nat) (w : World) (e : Ending) (w' : World) : Prop :=
  ∃ v : Bool, e = .returned (.bool v) ∧ (v = true ↔ 0 < N ∧ L ≤ l ∧ 32 - L - N ≤ 32 - l - n ∧ N ≤ n + 2 * 5) ∧ Below w.heap.size w w'

theorem boxed32 (w : World) (L N l n : Nat) : ((w.alloc (.cells #[.int .i64 (L : Int), .int .i64 (N : Int)] 162)).alloc (.cells #[.int .i64 (l : Int), .int .i64 (n : Int)] 162)).cell? ⟨w.heap.size, 0, none⟩ = some (.int .i64 (L : Int)) ∧
    ((w.alloc (.cells #[.int .i64 (L : Int), .int .i64 (N : Int)] 162)).alloc (.cells #[.int .i64 (l : Int), .int .i64 (n : Int)] 162)).cell? ⟨w.heap.size, 1, none⟩ = some (.int .i64 (N : Int)) ∧
    ((w.alloc (.cells #[.int .i64 (L : Int), .int .i64 (N : Int)] 162)).alloc (.cells #[.int .i64 (l : Int), .int .i64 (n : Int)] 162)).cell? ⟨w.heap.size + 1, 0, none⟩ = some (.int .i64 (l : Int)) ∧
    ((w.alloc (.cells #[.int .i64 (L : Int), .int .i64 (N : Int)] 162)).alloc (.cells #[.int .i64 (l : Int), .int .i64 (n : Int)] 162)).cell? ⟨w.heap.size + 1, 1, none⟩ = some (.int .i64 (n : Int)) ∧
    Below w.heap.size w ((w.alloc (.cells #[.int .i64 (L : Int), .int .i64 (N : Int)] 162)).alloc (.cells #[.int .i64 (l : Int), .int .i64 (n : Int)] 162)) := by
  have h1 := new_kept (heap_alloc_new w (.cells #[.int .i64 (L : Int), .int .i64 (N : Int)] 162)) (.cells #[.int .i64 (l : Int), .int .i64 (n : Int)] 162)
  have h2 := heap_alloc_new (w.alloc (.cells #[.int .i64 (L : Int), .int .i64 (N : Int)] 162)) (.cells #[.int .i64 (l : Int), .int .i64 (n : Int)] 162)
  rw [World.size_alloc] at h2
  exact ⟨by rw [cell_of_row _ _ _ _ _ _ h1]; rfl, by rw [cell_of_row _ _ _ _ _ _ h1]; rfl, by rw [cell_of_row _ _ _ _ _ _ h2]; rfl, by rw [cell_of_row _ _ _ _ _ _ h2]; rfl, ((Below.refl _ w).alloc (Nat.le_refl _) _).alloc (by simp) _⟩

set_option maxRecDepth 100000 in
set_option maxHeartbeats 4000000 in
theorem suits32_a (L N l n : Nat) (w : World) (h1 : L + N ≤ 32) (h2 : l + n ≤ 32) (c : ¬ (L ≤ l)) :
    Calls Tryz.prog 182 #[wn32 L N, wn32 l n] w (SuitEnd32 L N l n w) := by
  have HNO : Hid (¬ (0 < N ∧ L ≤ l ∧ 32 - L - N ≤ 32 - l - n ∧ N ≤ n + 2 * 5)) := fun h => c h.2.1
  have cd : decide (L ≤ l) = false := decide_eq_false c
  have HS : Hid (∀ w, Calls Tryz.prog 155 #[.agg #[.int .i64 (L : Int), .int .i64 (N : Int)]] w fun e w' => e = .returned (.bool (decide (0 < N))) ∧ Below w.heap.size w w') := fun w => stands32_any L N w h1
  have HB1 : Hid (∀ w, Calls Tryz.prog 156 #[.agg #[.int .i64 (L : Int), .int .i64 (N : Int)]] w fun e w' => e = .returned (.int .i64 ((32 - L - N : Nat) : Int)) ∧ Below w.heap.size w w') := fun w => behind32_any L N (32 - L - N) w (by omega)
  have HB2 : Hid (∀ w, Calls Tryz.prog 156 #[.agg #[.int .i64 (l : Int), .int .i64 (n : Int)]] w fun e w' => e = .returned (.int .i64 ((32 - l - n : Nat) : Int)) ∧ Below w.heap.size w w') := fun w => behind32_any l n (32 - l - n) w (by omega)
  have HM := hide (boxed32 w L N l n)
  clear h1 h2 c
  unfold wn32
  go_enter Tryz.func182, Tryz.ntmps182
  go_wp2_with fail
  generalize (w.alloc (.cells #[.int .i64 (L : Int), .int .i64 (N : Int)] 162)).alloc (.cells #[.int .i64 (l : Int), .int .i64 (n : Int)] 162) = W1 at *
  obtain ⟨c0, c1, c2, c3, B1⟩ := HM.out
  have HBW : Hid (Below w.heap.size w W1 ∧ w.heap.size ≤ W1.heap.size) := ⟨B1, B1.size⟩
  clear B1 HM
  obtain ⟨G, hG⟩ : ∃ G, w.heap.size = G := ⟨_, rfl⟩
  rw [hG] at c0 c1 c2 c3 HBW ⊢
  have HG := hide hG
  clear hG
  refine wp_region_held_drew (S := fun w' => w'.cell? ⟨G, 0, none⟩ = some (.int .i64 (L : Int)) ∧ w'.cell? ⟨G, 1, none⟩ = some (.int .i64 (N : Int)) ∧ w'.cell? ⟨G + 1, 0, none⟩ = some (.int .i64 (l : Int)) ∧ w'.cell? ⟨G + 1, 1, none⟩ = some (.int .i64 (n : Int))) (by kernel_rfl) ⟨c0, c1, c2, c3⟩ (fun hHeld => ?_)
  refine wpAnyH_take (i := 0) (v := ?_) rfl (by kernel_rfl) (by kernel_rfl) (by kernel_rfl) (fun _ _ _ h => h) (Or.inl ⟨by rfl, ?_⟩) hHeld ?_
  rotate_left
  · (intro wq hSw; (try dsimp only at hSw); (try obtain ⟨s0, s1, s2, s3⟩ := hSw); (go_simp <;> with_reducible rfl))
  try simp only [Act.put, List.getElem_toArray, List.getElem_cons_zero, List.getElem_cons_succ, List.setIfInBounds_toArray, List.set_cons_zero, List.set_cons_succ]
  refine wpAnyH_take (i := 1) (v := ?_) rfl (by kernel_rfl) (by kernel_rfl) (by kernel_rfl) (fun _ _ _ h => h) (Or.inl ⟨by rfl, ?_⟩) hHeld ?_
  rotate_left
  · (intro wq hSw; (try dsimp only at hSw); (try obtain ⟨s0, s1, s2, s3⟩ := hSw); (go_simp <;> with_reducible rfl))
  try simp only [Act.put, List.getElem_toArray, List.getElem_cons_zero, List.getElem_cons_succ, List.setIfInBounds_toArray, List.set_cons_zero, List.set_cons_succ]
  refine wpAnyH_take (i := 2) (v := ?_) rfl (by kernel_rfl) (by kernel_rfl) (by kernel_rfl) (fun _ _ _ h => h) (Or.inl ⟨by rfl, ?_⟩) hHeld ?_
  rotate_left
  · (intro wq hSw; (try dsimp only at hSw); (try obtain ⟨s0, s1, s2, s3⟩ := hSw); (go_simp <;> with_reducible rfl))
  try simp only [Act.put, List.getElem_toArray, List.getElem_cons_zero, List.getElem_cons_succ, List.setIfInBounds_toArray, List.set_cons_zero, List.set_cons_succ]
  refine wpAnyH_take (i := 3) (v := ?_) rfl (by kernel_rfl) (by kernel_rfl) (by kernel_rfl) (fun _ _ _ h => h) (Or.inl ⟨by rfl, ?_⟩) hHeld ?_
  rotate_left
  · (intro wq hSw; (try dsimp only at hSw); (try obtain ⟨s0, s1, s2, s3⟩ := hSw); (go_simp <;> with_reducible rfl))
  try simp only [Act.put, List.getElem_toArray, List.getElem_cons_zero, List.getElem_cons_succ, List.setIfInBounds_toArray, List.set_cons_zero, List.set_cons_succ]
  refine wpAnyH_take (i := 4) (v := ?_) rfl (by kernel_rfl) (by kernel_rfl) (by kernel_rfl) (fun _ _ _ h => h) (Or.inl ⟨by rfl, ?_⟩) hHeld ?_
  rotate_left
  · (intro wq hSw; (try dsimp only at hSw); (try obtain ⟨s0, s1, s2, s3⟩ := hSw); (go_simp <;> with_reducible rfl))
  try simp only [Act.put, List.getElem_toArray, List.getElem_cons_zero, List.getElem_cons_succ, List.setIfInBounds_toArray, List.set_cons_zero, List.set_cons_succ]
  refine wpAnyH_take (i := 5) (v := ?_) rfl (by kernel_rfl) (by kernel_rfl) (by kernel_rfl) (fun _ _ _ h => h) (Or.inl ⟨by rfl, ?_⟩) hHeld ?_
  rotate_left
  · (intro wq hSw; (try dsimp only at hSw); (try obtain ⟨s0, s1, s2, s3⟩ := hSw); (go_simp <;> with_reducible rfl))
  try simp only [Act.put, List.getElem_toArray, List.getElem_cons_zero, List.getElem_cons_succ, List.setIfInBounds_toArray, List.set_cons_zero, List.set_cons_succ]
  refine wpAnyH_take (i := 6) (v := undef) rfl (by kernel_rfl) (by kernel_rfl) (by kernel_rfl) (fun _ _ _ h => h) (Or.inr ⟨by rfl, rfl⟩) hHeld ?_
  try simp only [Act.put, List.getElem_toArray, List.getElem_cons_zero, List.getElem_cons_succ, List.setIfInBounds_toArray, List.set_cons_zero, List.set_cons_succ]
  refine wpAnyH_take (i := 8) (v := undef) rfl (by kernel_rfl) (by kernel_rfl) (by kernel_rfl) (fun _ _ _ h => h) (Or.inr ⟨by rfl, rfl⟩) hHeld ?_
  try simp only [Act.put, List.getElem_toArray, List.getElem_cons_zero, List.getElem_cons_succ, List.setIfInBounds_toArray, List.set_cons_zero, List.set_cons_succ]
  refine wpAnyH_ready (rs := [7]) (by kernel_rfl) (by simp) ?_
  refine AllReadyH.cons rfl (fun K hK => ?_) AllReadyH.nil
  go_simp
  refine hK.out _ _ ?_ (fun hHeld => ?_)
  · exact ⟨c0, c1, c2, c3⟩
  clear hK K
  try simp only [Act.put, List.getElem_toArray, List.getElem_cons_zero, List.getElem_cons_succ, List.setIfInBounds_toArray, List.set_cons_zero, List.set_cons_succ]
  refine wpAnyH_ready (rs := [9]) (by kernel_rfl) (by simp) ?_
  refine AllReadyH.cons rfl (fun K hK => ?_) AllReadyH.nil
  go_simp
  refine hK.out _ _ ?_ (fun hHeld => ?_)
  · exact ⟨c0, c1, c2, c3⟩
  clear hK K
  try simp only [Act.put, List.getElem_toArray, List.getElem_cons_zero, List.getElem_cons_succ, List.setIfInBounds_toArray, List.set_cons_zero, List.set_cons_succ]
  refine wpAnyH_take (i := 10) (v := undef) rfl (by kernel_rfl) (by kernel_rfl) (by kernel_rfl) (fun _ _ _ h => h) (Or.inr ⟨by rfl, rfl⟩) hHeld ?_
  try simp only [Act.put, List.getElem_toArray, List.getElem_cons_zero, List.getElem_cons_succ, List.setIfInBounds_toArray, List.set_cons_zero, List.set_cons_succ]
  refine wpAnyH_take (i := 11) (v := ?_) rfl (by kernel_rfl) (by kernel_rfl) (by kernel_rfl) (fun _ _ _ h => h) (Or.inl ⟨by rfl, ?_⟩) hHeld ?_
  rotate_left
  · (intro wq hSw; (try dsimp only at hSw); (try obtain ⟨s0, s1, s2, s3⟩ := hSw); (go_simp <;> with_reducible rfl))
  try simp only [Act.put, List.getElem_toArray, List.getElem_cons_zero, List.getElem_cons_succ, List.setIfInBounds_toArray, List.set_cons_zero, List.set_cons_succ]
  refine wpAnyH_take (i := 12) (v := ?_) rfl (by kernel_rfl) (by kernel_rfl) (by kernel_rfl) (fun _ _ _ h => h) (Or.inl ⟨by rfl, ?_⟩) hHeld ?_
  rotate_left
  · (intro wq hSw; (try dsimp only at hSw); (try obtain ⟨s0, s1, s2, s3⟩ := hSw); (go_simp <;> with_reducible rfl))
  try simp only [Act.put, List.getElem_toArray, List.getElem_cons_zero, List.getElem_cons_succ, List.setIfInBounds_toArray, List.set_cons_zero, List.set_cons_succ]
  refine wpAnyH_done (by kernel_rfl) ?_ _
  go_wp2_with fail
  by_cases h0 : N = 0
  · rw [show decide (0 < N) = false from by simp; omega] at HS
    have HN := hide h0
    clear h0
    refine wp_region_held_drew (S := fun w' => w'.cell? ⟨G, 0, none⟩ = some (.int .i64 (L : Int)) ∧ w'.cell? ⟨G, 1, none⟩ = some (.int .i64 (N : Int)) ∧ w'.cell? ⟨G + 1, 0, none⟩ = some (.int .i64 (l : Int)) ∧ w'.cell? ⟨G + 1, 1, none⟩ = some (.int .i64 (n : Int))) (by kernel_rfl) (by first | exact ⟨d0, d1, d2, d3⟩ | exact ⟨c0, c1, c2, c3⟩) (fun hHeld => ?_)
    refine wpAnyH_take (i := 0) (v := ?_) rfl (by kernel_rfl) (by kernel_rfl) (by kernel_rfl) (fun _ _ _ h => h) (Or.inl ⟨by rfl, ?_⟩) hHeld ?_
    rotate_left
    · (intro wq hSw; (try dsimp only at hSw); (try obtain ⟨s0, s1, s2, s3⟩ := hSw); (go_simp <;> with_reducible rfl))
    try simp only [Act.put, List.getElem_toArray, List.getElem_cons_zero, List.getElem_cons_succ, List.setIfInBounds_toArray, List.set_cons_zero, List.set_cons_succ]
    refine wpAnyH_ready (rs := [1]) (by kernel_rfl) (by simp) ?_
    refine AllReadyH.cons rfl (fun K hK => ?_) AllReadyH.nil
    go_simp
    refine (HS.out _).mono ?_
    rintro e wz ⟨rfl, hbz⟩
    have d0 : wz.cell? ⟨G, 0, none⟩ = some (.int .i64 (L : Int)) := by rw [hbz.cell (p := ⟨G, 0, none⟩) (block_lt_of_cell (by first | exact d0 | exact c0))]; first | exact d0 | exact c0
    have d1 : wz.cell? ⟨G, 1, none⟩ = some (.int .i64 (N : Int)) := by rw [hbz.cell (p := ⟨G, 1, none⟩) (block_lt_of_cell (by first | exact d1 | exact c1))]; first | exact d1 | exact c1
    have d2 : wz.cell? ⟨G + 1, 0, none⟩ = some (.int .i64 (l : Int)) := by rw [hbz.cell (p := ⟨G + 1, 0, none⟩) (block_lt_of_cell (by first | exact d2 | exact c2))]; first | exact d2 | exact c2
    have d3 : wz.cell? ⟨G + 1, 1, none⟩ = some (.int .i64 (n : Int)) := by rw [hbz.cell (p := ⟨G + 1, 1, none⟩) (block_lt_of_cell (by first | exact d3 | exact c3))]; first | exact d3 | exact c3
    have HBW : Hid (Below G w wz ∧ G ≤ wz.heap.size) := next_below HBW.out hbz ⟨rfl, rfl, rfl, Nat.le_refl _, fun _ _ => rfl⟩
    clear hbz
    go_wp2_with fail
    refine hK.out _ _ ?_ (fun hHeld => ?_)
    · exact ⟨d0, d1, d2, d3⟩
    clear hK K
    try simp only [Act.put, List.getElem_toArray, List.getElem_cons_zero, List.getElem_cons_succ, List.setIfInBounds_toArray, List.set_cons_zero, List.set_cons_succ]
    refine wpAnyH_take (i := 2) (v := ?_) rfl (by kernel_rfl) (by kernel_rfl) (by kernel_rfl) (fun _ _ _ h => h) (Or.inl ⟨by rfl, ?_⟩) hHeld ?_
    rotate_left
    · (intro wq hSw; (try dsimp only at hSw); (try obtain ⟨s0, s1, s2, s3⟩ := hSw); (go_simp <;> with_reducible rfl))
    try simp only [Act.put, List.getElem_toArray, List.getElem_cons_zero, List.getElem_cons_succ, List.setIfInBounds_toArray, List.set_cons_zero, List.set_cons_succ]
    refine wpAnyH_take (i := 3) (v := undef) rfl (by kernel_rfl) (by kernel_rfl) (by kernel_rfl) (fun _ _ _ h => h) (Or.inr ⟨by rfl, rfl⟩) hHeld ?_
    try simp only [Act.put, List.getElem_toArray, List.getElem_cons_zero, List.getElem_cons_succ, List.setIfInBounds_toArray, List.set_cons_zero, List.set_cons_succ]
    refine wpAnyH_take (i := 4) (v := ?_) rfl (by kernel_rfl) (by kernel_rfl) (by kernel_rfl) (fun _ _ _ h => h) (Or.inl ⟨by rfl, ?_⟩) hHeld ?_
    rotate_left
    · (intro wq hSw; (try dsimp only at hSw); (try obtain ⟨s0, s1, s2, s3⟩ := hSw); (go_simp <;> with_reducible rfl))
    try simp only [Act.put, List.getElem_toArray, List.getElem_cons_zero, List.getElem_cons_succ, List.setIfInBounds_toArray, List.set_cons_zero, List.set_cons_succ]
    refine wpAnyH_take (i := 5) (v := ?_) rfl (by kernel_rfl) (by kernel_rfl) (by kernel_rfl) (fun _ _ _ h => h) (Or.inl ⟨by rfl, ?_⟩) hHeld ?_
    rotate_left
    · (intro wq hSw; (try dsimp only at hSw); (try obtain ⟨s0, s1, s2, s3⟩ := hSw); (go_simp <;> with_reducible rfl))
    try simp only [Act.put, List.getElem_toArray, List.getElem_cons_zero, List.getElem_cons_succ, List.setIfInBounds_toArray, List.set_cons_zero, List.set_cons_succ]
    refine wpAnyH_take (i := 6) (v := undef) rfl (by kernel_rfl) (by kernel_rfl) (by kernel_rfl) (fun _ _ _ h => h) (Or.inr ⟨by rfl, rfl⟩) hHeld ?_
    try simp only [Act.put, List.getElem_toArray, List.getElem_cons_zero, List.getElem_cons_succ, List.setIfInBounds_toArray, List.set_cons_zero, List.set_cons_succ]
    refine wpAnyH_take (i := 7) (v := undef) rfl (by kernel_rfl) (by kernel_rfl) (by kernel_rfl) (fun _ _ _ h => h) (Or.inr ⟨by rfl, rfl⟩) hHeld ?_
    try simp only [Act.put, List.getElem_toArray, List.getElem_cons_zero, List.getElem_cons_succ, List.setIfInBounds_toArray, List.set_cons_zero, List.set_cons_succ]
    refine wpAnyH_take (i := 8) (v := undef) rfl (by kernel_rfl) (by kernel_rfl) (by kernel_rfl) (fun _ _ _ h => h) (Or.inr ⟨by rfl, rfl⟩) hHeld ?_
    try simp only [Act.put, List.getElem_toArray, List.getElem_cons_zero, List.getElem_cons_succ, List.setIfInBounds_toArray, List.set_cons_zero, List.set_cons_succ]
    refine wpAnyH_take (i := 9) (v := undef) rfl (by kernel_rfl) (by kernel_rfl) (by kernel_rfl) (fun _ _ _ h => h) (Or.inr ⟨by rfl, rfl⟩) hHeld ?_
    try simp only [Act.put, List.getElem_toArray, List.getElem_cons_zero, List.getElem_cons_succ, List.setIfInBounds_toArray, List.set_cons_zero, List.set_cons_succ]
    refine wpAnyH_ready (rs := [10]) (by kernel_rfl) (by simp) ?_
    refine AllReadyH.cons rfl (fun K hK => ?_) AllReadyH.nil
    go_simp
    refine hK.out _ _ ?_ (fun hHeld => ?_)
    · exact ⟨d0, d1, d2, d3⟩
    clear hK K
    try simp only [Act.put, List.getElem_toArray, List.getElem_cons_zero, List.getElem_cons_succ, List.setIfInBounds_toArray, List.set_cons_zero, List.set_cons_succ]
    refine wpAnyH_take (i := 11) (v := undef) rfl (by kernel_rfl) (by kernel_rfl) (by kernel_rfl) (fun _ _ _ h => h) (Or.inr ⟨by rfl, rfl⟩) hHeld ?_
    try simp only [Act.put, List.getElem_toArray, List.getElem_cons_zero, List.getElem_cons_succ, List.setIfInBounds_toArray, List.set_cons_zero, List.set_cons_succ]
    refine wpAnyH_take (i := 12) (v := undef) rfl (by kernel_rfl) (by kernel_rfl) (by kernel_rfl) (fun _ _ _ h => h) (Or.inr ⟨by rfl, rfl⟩) hHeld ?_
    try simp only [Act.put, List.getElem_toArray, List.getElem_cons_zero, List.getElem_cons_succ, List.setIfInBounds_toArray, List.set_cons_zero, List.set_cons_succ]
    refine wpAnyH_take (i := 13) (v := undef) rfl (by kernel_rfl) (by kernel_rfl) (by kernel_rfl) (fun _ _ _ h => h) (Or.inr ⟨by rfl, rfl⟩) hHeld ?_
    try simp only [Act.put, List.getElem_toArray, List.getElem_cons_zero, List.getElem_cons_succ, List.setIfInBounds_toArray, List.set_cons_zero, List.set_cons_succ]
    refine wpAnyH_take (i := 14) (v := ?_) rfl (by kernel_rfl) (by kernel_rfl) (by kernel_rfl) (fun _ _ _ h => h) (Or.inl ⟨by rfl, ?_⟩) hHeld ?_
    rotate_left
    · (intro wq hSw; (try dsimp only at hSw); (try obtain ⟨s0, s1, s2, s3⟩ := hSw); (go_simp <;> with_reducible rfl))
    try simp only [Act.put, List.getElem_toArray, List.getElem_cons_zero, List.getElem_cons_succ, List.setIfInBounds_toArray, List.set_cons_zero, List.set_cons_succ]
    refine wpAnyH_take (i := 15) (v := ?_) rfl (by kernel_rfl) (by kernel_rfl) (by kernel_rfl) (fun _ _ _ h => h) (Or.inl ⟨by rfl, ?_⟩) hHeld ?_
    rotate_left
    · (intro wq hSw; (try dsimp only at hSw); (try obtain ⟨s0, s1, s2, s3⟩ := hSw); (go_simp <;> with_reducible rfl))
    try simp only [Act.put, List.getElem_toArray, List.getElem_cons_zero, List.getElem_cons_succ, List.setIfInBounds_toArray, List.set_cons_zero, List.set_cons_succ]
    refine wpAnyH_done (by kernel_rfl) ?_ _
    go_wp2_with fail
    go_ret
    refine ⟨false, rfl, ⟨fun h => (by cases h), fun h => absurd h.1 (by have := HN.out; omega)⟩, by rw [HG.out]; exact HBW.out.1⟩
  rw [show decide (0 < N) = true from by simp; omega] at HS
  have HN := hide h0
  clear h0
  refine wp_region_held_drew (S := fun w' => w'.cell? ⟨G, 0, none⟩ = some (.int .i64 (L : Int)) ∧ w'.cell? ⟨G, 1, none⟩ = some (.int .i64 (N : Int)) ∧ w'.cell? ⟨G + 1, 0, none⟩ = some (.int .i64 (l : Int)) ∧ w'.cell? ⟨G + 1, 1, none⟩ = some (.int .i64 (n : Int))) (by kernel_rfl) (by first | exact ⟨d0, d1, d2, d3⟩ | exact ⟨c0, c1, c2, c3⟩) (fun hHeld => ?_)
  refine wpAnyH_take (i := 0) (v := ?_) rfl (by kernel_rfl) (by kernel_rfl) (by kernel_rfl) (fun _ _ _ h => h) (Or.inl ⟨by rfl, ?_⟩) hHeld ?_
  rotate_left
  · (intro wq hSw; (try dsimp only at hSw); (try obtain ⟨s0, s1, s2, s3⟩ := hSw); (go_simp <;> with_reducible rfl))
  try simp only [Act.put, List.getElem_toArray, List.getElem_cons_zero, List.getElem_cons_succ, List.setIfInBounds_toArray, List.set_cons_zero, List.set_cons_succ]
  refine wpAnyH_ready (rs := [1]) (by kernel_rfl) (by simp) ?_
  refine AllReadyH.cons rfl (fun K hK => ?_) AllReadyH.nil
  go_simp
  refine (HS.out _).mono ?_
  rintro e wz ⟨rfl, hbz⟩
  have d0 : wz.cell? ⟨G, 0, none⟩ = some (.int .i64 (L : Int)) := by rw [hbz.cell (p := ⟨G, 0, none⟩) (block_lt_of_cell (by first | exact d0 | exact c0))]; first | exact d0 | exact c0
  have d1 : wz.cell? ⟨G, 1, none⟩ = some (.int .i64 (N : Int)) := by rw [hbz.cell (p := ⟨G, 1, none⟩) (block_lt_of_cell (by first | exact d1 | exact c1))]; first | exact d1 | exact c1
  have d2 : wz.cell? ⟨G + 1, 0, none⟩ = some (.int .i64 (l : Int)) := by rw [hbz.cell (p := ⟨G + 1, 0, none⟩) (block_lt_of_cell (by first | exact d2 | exact c2))]; first | exact d2 | exact c2
  have d3 : wz.cell? ⟨G + 1, 1, none⟩ = some (.int .i64 (n : Int)) := by rw [hbz.cell (p := ⟨G + 1, 1, none⟩) (block_lt_of_cell (by first | exact d3 | exact c3))]; first | exact d3 | exact c3
  have HBW : Hid (Below G w wz ∧ G ≤ wz.heap.size) := next_below HBW.out hbz ⟨rfl, rfl, rfl, Nat.le_refl _, fun _ _ => rfl⟩
  clear hbz
  go_wp2_with fail
  refine hK.out _ _ ?_ (fun hHeld => ?_)
  · exact ⟨d0, d1, d2, d3⟩
  clear hK K
  try simp only [Act.put, List.getElem_toArray, List.getElem_cons_zero, List.getElem_cons_succ, List.setIfInBounds_toArray, List.set_cons_zero, List.set_cons_succ]
  refine wpAnyH_take (i := 2) (v := ?_) rfl (by kernel_rfl) (by kernel_rfl) (by kernel_rfl) (fun _ _ _ h => h) (Or.inl ⟨by rfl, ?_⟩) hHeld ?_
  rotate_left
  · (intro wq hSw; (try dsimp only at hSw); (try obtain ⟨s0, s1, s2, s3⟩ := hSw); (go_simp <;> with_reducible rfl))
  try simp only [Act.put, List.getElem_toArray, List.getElem_cons_zero, List.getElem_cons_succ, List.setIfInBounds_toArray, List.set_cons_zero, List.set_cons_succ]
  refine wpAnyH_take (i := 3) (v := ?_) rfl (by kernel_rfl) (by kernel_rfl) (by kernel_rfl) (fun _ _ _ h => h) (Or.inl ⟨by rfl, ?_⟩) hHeld ?_
  rotate_left
  · (intro wq hSw; (try dsimp only at hSw); (try obtain ⟨s0, s1, s2, s3⟩ := hSw); (go_simp <;> with_reducible rfl))
  try simp only [Act.put, List.getElem_toArray, List.getElem_cons_zero, List.getElem_cons_succ, List.setIfInBounds_toArray, List.set_cons_zero, List.set_cons_succ]
  refine wpAnyH_take (i := 4) (v := ?_) rfl (by kernel_rfl) (by kernel_rfl) (by kernel_rfl) (fun _ _ _ h => h) (Or.inl ⟨by rfl, ?_⟩) hHeld ?_
  rotate_left
  · (intro wq hSw; (try dsimp only at hSw); (try obtain ⟨s0, s1, s2, s3⟩ := hSw); (go_simp <;> with_reducible rfl))
  try simp only [Act.put, List.getElem_toArray, List.getElem_cons_zero, List.getElem_cons_succ, List.setIfInBounds_toArray, List.set_cons_zero, List.set_cons_succ]
  refine wpAnyH_take (i := 5) (v := ?_) rfl (by kernel_rfl) (by kernel_rfl) (by kernel_rfl) (fun _ _ _ h => h) (Or.inl ⟨by rfl, ?_⟩) hHeld ?_
  rotate_left
  · (intro wq hSw; (try dsimp only at hSw); (try obtain ⟨s0, s1, s2, s3⟩ := hSw); (go_simp <;> with_reducible rfl))
  try simp only [Act.put, List.getElem_toArray, List.getElem_cons_zero, List.getElem_cons_succ, List.setIfInBounds_toArray, List.set_cons_zero, List.set_cons_succ]
  refine wpAnyH_take (i := 6) (v := undef) rfl (by kernel_rfl) (by kernel_rfl) (by kernel_rfl) (fun _ _ _ h => h) (Or.inr ⟨by rfl, rfl⟩) hHeld ?_
  try simp only [Act.put, List.getElem_toArray, List.getElem_cons_zero, List.getElem_cons_succ, List.setIfInBounds_toArray, List.set_cons_zero, List.set_cons_succ]
  refine wpAnyH_take (i := 7) (v := undef) rfl (by kernel_rfl) (by kernel_rfl) (by kernel_rfl) (fun _ _ _ h => h) (Or.inr ⟨by rfl, rfl⟩) hHeld ?_
  try simp only [Act.put, List.getElem_toArray, List.getElem_cons_zero, List.getElem_cons_succ, List.setIfInBounds_toArray, List.set_cons_zero, List.set_cons_succ]
  refine wpAnyH_take (i := 8) (v := undef) rfl (by kernel_rfl) (by kernel_rfl) (by kernel_rfl) (fun _ _ _ h => h) (Or.inr ⟨by rfl, rfl⟩) hHeld ?_
  try simp only [Act.put, List.getElem_toArray, List.getElem_cons_zero, List.getElem_cons_succ, List.setIfInBounds_toArray, List.set_cons_zero, List.set_cons_succ]
  refine wpAnyH_take (i := 9) (v := undef) rfl (by kernel_rfl) (by kernel_rfl) (by kernel_rfl) (fun _ _ _ h => h) (Or.inr ⟨by rfl, rfl⟩) hHeld ?_
  try simp only [Act.put, List.getElem_toArray, List.getElem_cons_zero, List.getElem_cons_succ, List.setIfInBounds_toArray, List.set_cons_zero, List.set_cons_succ]
  refine wpAnyH_ready (rs := [10]) (by kernel_rfl) (by simp) ?_
  refine AllReadyH.cons rfl (fun K hK => ?_) AllReadyH.nil
  go_simp
  refine hK.out _ _ ?_ (fun hHeld => ?_)
  · exact ⟨d0, d1, d2, d3⟩
  clear hK K
  try simp only [Act.put, List.getElem_toArray, List.getElem_cons_zero, List.getElem_cons_succ, List.setIfInBounds_toArray, List.set_cons_zero, List.set_cons_succ]
  refine wpAnyH_take (i := 11) (v := undef) rfl (by kernel_rfl) (by kernel_rfl) (by kernel_rfl) (fun _ _ _ h => h) (Or.inr ⟨by rfl, rfl⟩) hHeld ?_
  try simp only [Act.put, List.getElem_toArray, List.getElem_cons_zero, List.getElem_cons_succ, List.setIfInBounds_toArray, List.set_cons_zero, List.set_cons_succ]
  refine wpAnyH_take (i := 12) (v := undef) rfl (by kernel_rfl) (by kernel_rfl) (by kernel_rfl) (fun _ _ _ h => h) (Or.inr ⟨by rfl, rfl⟩) hHeld ?_
  try simp only [Act.put, List.getElem_toArray, List.getElem_cons_zero, List.getElem_cons_succ, List.setIfInBounds_toArray, List.set_cons_zero, List.set_cons_succ]
  refine wpAnyH_take (i := 13) (v := undef) rfl (by kernel_rfl) (by kernel_rfl) (by kernel_rfl) (fun _ _ _ h => h) (Or.inr ⟨by rfl, rfl⟩) hHeld ?_
  try simp only [Act.put, List.getElem_toArray, List.getElem_cons_zero, List.getElem_cons_succ, List.setIfInBounds_toArray, List.set_cons_zero, List.set_cons_succ]
  refine wpAnyH_take (i := 14) (v := ?_) rfl (by kernel_rfl) (by kernel_rfl) (by kernel_rfl) (fun _ _ _ h => h) (Or.inl ⟨by rfl, ?_⟩) hHeld ?_
  rotate_left
  · (intro wq hSw; (try dsimp only at hSw); (try obtain ⟨s0, s1, s2, s3⟩ := hSw); (go_simp <;> with_reducible rfl))
  try simp only [Act.put, List.getElem_toArray, List.getElem_cons_zero, List.getElem_cons_succ, List.setIfInBounds_toArray, List.set_cons_zero, List.set_cons_succ]
  refine wpAnyH_take (i := 15) (v := ?_) rfl (by kernel_rfl) (by kernel_rfl) (by kernel_rfl) (fun _ _ _ h => h) (Or.inl ⟨by rfl, ?_⟩) hHeld ?_
  rotate_left
  · (intro wq hSw; (try dsimp only at hSw); (try obtain ⟨s0, s1, s2, s3⟩ := hSw); (go_simp <;> with_reducible rfl))
  try simp only [Act.put, List.getElem_toArray, List.getElem_cons_zero, List.getElem_cons_succ, List.setIfInBounds_toArray, List.set_cons_zero, List.set_cons_succ]
  refine wpAnyH_done (by kernel_rfl) ?_ _
  go_wp2_with fail
  go_ret
  refine ⟨false, rfl, ⟨fun h => (by cases h), fun h => absurd h HNO.out⟩, by rw [HG.out]; exact HBW.out.1⟩

set_option maxRecDepth 100000 in
set_option maxHeartbeats 4000000 in
theorem suits32_b (L N l n : Nat) (w : World) (h1 : L + N ≤ 32) (h2 : l + n ≤ 32) (c : L ≤ l) (c' : ¬ (bh32 L N ≤ bh32 l n)) :
    Calls Tryz.prog 182 #[wn32 L N, wn32 l n] w (SuitEnd32 L N l n w) := by
  have HNO : Hid (¬ (0 < N ∧ L ≤ l ∧ 32 - L - N ≤ 32 - l - n ∧ N ≤ n + 2 * 5)) := fun h => c' (by unfold bh32; exact h.2.2.1)
  have cd : decide (L ≤ l) = true := decide_eq_true c
  have cd2 : decide (bh32 L N ≤ bh32 l n) = false := decide_eq_false c'
  have H1 := hide h1
  have H2 := hide h2
  have HS : Hid (∀ w, Calls Tryz.prog 155 #[.agg #[.int .i64 (L : Int), .int .i64 (N : Int)]] w fun e w' => e = .returned (.bool (decide (0 < N))) ∧ Below w.heap.size w w') := fun w => stands32_any L N w h1
  have HB1 : Hid (∀ w, Calls Tryz.prog 156 #[.agg #[.int .i64 (L : Int), .int .i64 (N : Int)]] w fun e w' => e = .returned (.int .i64 ((32 - L - N : Nat) : Int)) ∧ Below w.heap.size w w') := fun w => behind32_any L N (32 - L - N) w (by omega)
  have HB2 : Hid (∀ w, Calls Tryz.prog 156 #[.agg #[.int .i64 (l : Int), .int .i64 (n : Int)]] w fun e w' => e = .returned (.int .i64 ((32 - l - n : Nat) : Int)) ∧ Below w.heap.size w w') := fun w => behind32_any l n (32 - l - n) w (by omega)
  have HM := hide (boxed32 w L N l n)
  clear h1 h2 c c'
  unfold wn32
  go_enter Tryz.func182, Tryz.ntmps182
  go_wp2_with fail
  generalize (w.alloc (.cells #[.int .i64 (L : Int), .int .i64 (N : Int)] 162)).alloc (.cells #[.int .i64 (l : Int), .int .i64 (n : Int)] 162) = W1 at *
  obtain ⟨c0, c1, c2, c3, B1⟩ := HM.out
  have HBW : Hid (Below w.heap.size w W1 ∧ w.heap.size ≤ W1.heap.size) := ⟨B1, B1.size⟩
  clear B1 HM HB1 HB2
  obtain ⟨G, hG⟩ : ∃ G, w.heap.size = G := ⟨_, rfl⟩
  rw [hG] at c0 c1 c2 c3 HBW ⊢
  have HG := hide hG
  clear hG
  go_region_held3 (fun w' => w'.cell? ⟨G, 0, none⟩ = some (.int .i64 (L : Int)) ∧ w'.cell? ⟨G, 1, none⟩ = some (.int .i64 (N : Int)) ∧ w'.cell? ⟨G + 1, 0, none⟩ = some (.int .i64 (l : Int)) ∧ w'.cell? ⟨G + 1, 1, none⟩ = some (.int .i64 (n : Int))) (first | exact ⟨d0, d1, d2, d3⟩ | exact ⟨c0, c1, c2, c3⟩)
    ((go_at_call 156; go_must (refine (behindN32_any _ _ _ (by first | exact H1.out | exact H2.out)).mono ?_); rintro _ wz ⟨rfl, hbz⟩; (have d0 : wz.cell? ⟨G, 0, none⟩ = some (.int .i64 (L : Int)) := by rw [hbz.cell (p := ⟨G, 0, none⟩) (block_lt_of_cell (by first | exact d0 | exact c0))]; first | exact d0 | exact c0); (have d1 : wz.cell? ⟨G, 1, none⟩ = some (.int .i64 (N : Int)) := by rw [hbz.cell (p := ⟨G, 1, none⟩) (block_lt_of_cell (by first | exact d1 | exact c1))]; first | exact d1 | exact c1); (have d2 : wz.cell? ⟨G + 1, 0, none⟩ = some (.int .i64 (l : Int)) := by rw [hbz.cell (p := ⟨G + 1, 0, none⟩) (block_lt_of_cell (by first | exact d2 | exact c2))]; first | exact d2 | exact c2); (have d3 : wz.cell? ⟨G + 1, 1, none⟩ = some (.int .i64 (n : Int)) := by rw [hbz.cell (p := ⟨G + 1, 1, none⟩) (block_lt_of_cell (by first | exact d3 | exact c3))]; first | exact d3 | exact c3); (have HBW : Hid (Below G w wz ∧ G ≤ wz.heap.size) := next_below HBW.out hbz ⟨rfl, rfl, rfl, Nat.le_refl _, fun _ _ => rfl⟩); clear hbz))
  go_wp2_with fail
  by_cases h0 : N = 0
  · rw [show decide (0 < N) = false from by simp; omega] at HS
    have HN := hide h0
    clear h0
    refine wp_region_held_drew (S := fun w' => w'.cell? ⟨G, 0, none⟩ = some (.int .i64 (L : Int)) ∧ w'.cell? ⟨G, 1, none⟩ = some (.int .i64 (N : Int)) ∧ w'.cell? ⟨G + 1, 0, none⟩ = some (.int .i64 (l : Int)) ∧ w'.cell? ⟨G + 1, 1, none⟩ = some (.int .i64 (n : Int))) (by kernel_rfl) (by first | exact ⟨d0, d1, d2, d3⟩ | exact ⟨c0, c1, c2, c3⟩) (fun hHeld => ?_)
    refine wpAnyH_take (i := 0) (v := ?_) rfl (by kernel_rfl) (by kernel_rfl) (by kernel_rfl) (fun _ _ _ h => h) (Or.inl ⟨by rfl, ?_⟩) hHeld ?_
    rotate_left
    · (intro wq hSw; (try dsimp only at hSw); (try obtain ⟨s0, s1, s2, s3⟩ := hSw); (go_simp <;> with_reducible rfl))
    try simp only [Act.put, List.getElem_toArray, List.getElem_cons_zero, List.getElem_cons_succ, List.setIfInBounds_toArray, List.set_cons_zero, List.set_cons_succ]
    refine wpAnyH_ready (rs := [1]) (by kernel_rfl) (by simp) ?_
    refine AllReadyH.cons rfl (fun K hK => ?_) AllReadyH.nil
    go_simp
    refine (HS.out _).mono ?_
    rintro e wz ⟨rfl, hbz⟩
    have d0 : wz.cell? ⟨G, 0, none⟩ = some (.int .i64 (L : Int)) := by rw [hbz.cell (p := ⟨G, 0, none⟩) (block_lt_of_cell (by first | exact d0 | exact c0))]; first | exact d0 | exact c0
    have d1 : wz.cell? ⟨G, 1, none⟩ = some (.int .i64 (N : Int)) := by rw [hbz.cell (p := ⟨G, 1, none⟩) (block_lt_of_cell (by first | exact d1 | exact c1))]; first | exact d1 | exact c1
    have d2 : wz.cell? ⟨G + 1, 0, none⟩ = some (.int .i64 (l : Int)) := by rw [hbz.cell (p := ⟨G + 1, 0, none⟩) (block_lt_of_cell (by first | exact d2 | exact c2))]; first | exact d2 | exact c2
    have d3 : wz.cell? ⟨G + 1, 1, none⟩ = some (.int .i64 (n : Int)) := by rw [hbz.cell (p := ⟨G + 1, 1, none⟩) (block_lt_of_cell (by first | exact d3 | exact c3))]; first | exact d3 | exact c3
    have HBW : Hid (Below G w wz ∧ G ≤ wz.heap.size) := next_below HBW.out hbz ⟨rfl, rfl, rfl, Nat.le_refl _, fun _ _ => rfl⟩
    clear hbz
    go_wp2_with fail
    refine hK.out _ _ ?_ (fun hHeld => ?_)
    · exact ⟨d0, d1, d2, d3⟩
    clear hK K
    try simp only [Act.put, List.getElem_toArray, List.getElem_cons_zero, List.getElem_cons_succ, List.setIfInBounds_toArray, List.set_cons_zero, List.set_cons_succ]
    refine wpAnyH_take (i := 2) (v := ?_) rfl (by kernel_rfl) (by kernel_rfl) (by kernel_rfl) (fun _ _ _ h => h) (Or.inl ⟨by rfl, ?_⟩) hHeld ?_
    rotate_left
    · (intro wq hSw; (try dsimp only at hSw); (try obtain ⟨s0, s1, s2, s3⟩ := hSw); (go_simp <;> with_reducible rfl))
    try simp only [Act.put, List.getElem_toArray, List.getElem_cons_zero, List.getElem_cons_succ, List.setIfInBounds_toArray, List.set_cons_zero, List.set_cons_succ]
    refine wpAnyH_take (i := 3) (v := undef) rfl (by kernel_rfl) (by kernel_rfl) (by kernel_rfl) (fun _ _ _ h => h) (Or.inr ⟨by rfl, rfl⟩) hHeld ?_
    try simp only [Act.put, List.getElem_toArray, List.getElem_cons_zero, List.getElem_cons_succ, List.setIfInBounds_toArray, List.set_cons_zero, List.set_cons_succ]
    refine wpAnyH_take (i := 4) (v := ?_) rfl (by kernel_rfl) (by kernel_rfl) (by kernel_rfl) (fun _ _ _ h => h) (Or.inl ⟨by rfl, ?_⟩) hHeld ?_
    rotate_left
    · (intro wq hSw; (try dsimp only at hSw); (try obtain ⟨s0, s1, s2, s3⟩ := hSw); (go_simp <;> with_reducible rfl))
    try simp only [Act.put, List.getElem_toArray, List.getElem_cons_zero, List.getElem_cons_succ, List.setIfInBounds_toArray, List.set_cons_zero, List.set_cons_succ]
    refine wpAnyH_take (i := 5) (v := ?_) rfl (by kernel_rfl) (by kernel_rfl) (by kernel_rfl) (fun _ _ _ h => h) (Or.inl ⟨by rfl, ?_⟩) hHeld ?_
    rotate_left
    · (intro wq hSw; (try dsimp only at hSw); (try obtain ⟨s0, s1, s2, s3⟩ := hSw); (go_simp <;> with_reducible rfl))
    try simp only [Act.put, List.getElem_toArray, List.getElem_cons_zero, List.getElem_cons_succ, List.setIfInBounds_toArray, List.set_cons_zero, List.set_cons_succ]
    refine wpAnyH_take (i := 6) (v := undef) rfl (by kernel_rfl) (by kernel_rfl) (by kernel_rfl) (fun _ _ _ h => h) (Or.inr ⟨by rfl, rfl⟩) hHeld ?_
    try simp only [Act.put, List.getElem_toArray, List.getElem_cons_zero, List.getElem_cons_succ, List.setIfInBounds_toArray, List.set_cons_zero, List.set_cons_succ]
    refine wpAnyH_take (i := 7) (v := undef) rfl (by kernel_rfl) (by kernel_rfl) (by kernel_rfl) (fun _ _ _ h => h) (Or.inr ⟨by rfl, rfl⟩) hHeld ?_
    try simp only [Act.put, List.getElem_toArray, List.getElem_cons_zero, List.getElem_cons_succ, List.setIfInBounds_toArray, List.set_cons_zero, List.set_cons_succ]
    refine wpAnyH_take (i := 8) (v := undef) rfl (by kernel_rfl) (by kernel_rfl) (by kernel_rfl) (fun _ _ _ h => h) (Or.inr ⟨by rfl, rfl⟩) hHeld ?_
    try simp only [Act.put, List.getElem_toArray, List.getElem_cons_zero, List.getElem_cons_succ, List.setIfInBounds_toArray, List.set_cons_zero, List.set_cons_succ]
    refine wpAnyH_take (i := 9) (v := undef) rfl (by kernel_rfl) (by kernel_rfl) (by kernel_rfl) (fun _ _ _ h => h) (Or.inr ⟨by rfl, rfl⟩) hHeld ?_
    try simp only [Act.put, List.getElem_toArray, List.getElem_cons_zero, List.getElem_cons_succ, List.setIfInBounds_toArray, List.set_cons_zero, List.set_cons_succ]
    refine wpAnyH_ready (rs := [10]) (by kernel_rfl) (by simp) ?_
    refine AllReadyH.cons rfl (fun K hK => ?_) AllReadyH.nil
    go_simp
    refine hK.out _ _ ?_ (fun hHeld => ?_)
    · exact ⟨d0, d1, d2, d3⟩
    clear hK K
    try simp only [Act.put, List.getElem_toArray, List.getElem_cons_zero, List.getElem_cons_succ, List.setIfInBounds_toArray, List.set_cons_zero, List.set_cons_succ]
    refine wpAnyH_take (i := 11) (v := undef) rfl (by kernel_rfl) (by kernel_rfl) (by kernel_rfl) (fun _ _ _ h => h) (Or.inr ⟨by rfl, rfl⟩) hHeld ?_
    try simp only [Act.put, List.getElem_toArray, List.getElem_cons_zero, List.getElem_cons_succ, List.setIfInBounds_toArray, List.set_cons_zero, List.set_cons_succ]
    refine wpAnyH_take (i := 12) (v := undef) rfl (by kernel_rfl) (by kernel_rfl) (by kernel_rfl) (fun _ _ _ h => h) (Or.inr ⟨by rfl, rfl⟩) hHeld ?_
    try simp only [Act.put, List.getElem_toArray, List.getElem_cons_zero, List.getElem_cons_succ, List.setIfInBounds_toArray, List.set_cons_zero, List.set_cons_succ]
    refine wpAnyH_take (i := 13) (v := undef) rfl (by kernel_rfl) (by kernel_rfl) (by kernel_rfl) (fun _ _ _ h => h) (Or.inr ⟨by rfl, rfl⟩) hHeld ?_
    try simp only [Act.put, List.getElem_toArray, List.getElem_cons_zero, List.getElem_cons_succ, List.setIfInBounds_toArray, List.set_cons_zero, List.set_cons_succ]
    refine wpAnyH_take (i := 14) (v := ?_) rfl (by kernel_rfl) (by kernel_rfl) (by kernel_rfl) (fun _ _ _ h => h) (Or.inl ⟨by rfl, ?_⟩) hHeld ?_
    rotate_left
    · (intro wq hSw; (try dsimp only at hSw); (try obtain ⟨s0, s1, s2, s3⟩ := hSw); (go_simp <;> with_reducible rfl))
    try simp only [Act.put, List.getElem_toArray, List.getElem_cons_zero, List.getElem_cons_succ, List.setIfInBounds_toArray, List.set_cons_zero, List.set_cons_succ]
    refine wpAnyH_take (i := 15) (v := ?_) rfl (by kernel_rfl) (by kernel_rfl) (by kernel_rfl) (fun _ _ _ h => h) (Or.inl ⟨by rfl, ?_⟩) hHeld ?_
    rotate_left
    · (intro wq hSw; (try dsimp only at hSw); (try obtain ⟨s0, s1, s2, s3⟩ := hSw); (go_simp <;> with_reducible rfl))
    try simp only [Act.put, List.getElem_toArray, List.getElem_cons_zero, List.getElem_cons_succ, List.setIfInBounds_toArray, List.set_cons_zero, List.set_cons_succ]
    refine wpAnyH_done (by kernel_rfl) ?_ _
    go_wp2_with fail
    go_ret
    refine ⟨false, rfl, ⟨fun h => (by cases h), fun h => absurd h.1 (by have := HN.out; omega)⟩, by rw [HG.out]; exact HBW.out.1⟩
  rw [show decide (0 < N) = true from by simp; omega] at HS
  have HN := hide h0
  clear h0
  refine wp_region_held_drew (S := fun w' => w'.cell? ⟨G, 0, none⟩ = some (.int .i64 (L : Int)) ∧ w'.cell? ⟨G, 1, none⟩ = some (.int .i64 (N : Int)) ∧ w'.cell? ⟨G + 1, 0, none⟩ = some (.int .i64 (l : Int)) ∧ w'.cell? ⟨G + 1, 1, none⟩ = some (.int .i64 (n : Int))) (by kernel_rfl) (by first | exact ⟨d0, d1, d2, d3⟩ | exact ⟨c0, c1, c2, c3⟩) (fun hHeld => ?_)
  refine wpAnyH_take (i := 0) (v := ?_) rfl (by kernel_rfl) (by kernel_rfl) (by kernel_rfl) (fun _ _ _ h => h) (Or.inl ⟨by rfl, ?_⟩) hHeld ?_
  rotate_left
  · (intro wq hSw; (try dsimp only at hSw); (try obtain ⟨s0, s1, s2, s3⟩ := hSw); (go_simp <;> with_reducible rfl))
  try simp only [Act.put, List.getElem_toArray, List.getElem_cons_zero, List.getElem_cons_succ, List.setIfInBounds_toArray, List.set_cons_zero, List.set_cons_succ]
  refine wpAnyH_ready (rs := [1]) (by kernel_rfl) (by simp) ?_
  refine AllReadyH.cons rfl (fun K hK => ?_) AllReadyH.nil
  go_simp
  refine (HS.out _).mono ?_
  rintro e wz ⟨rfl, hbz⟩
  have d0 : wz.cell? ⟨G, 0, none⟩ = some (.int .i64 (L : Int)) := by rw [hbz.cell (p := ⟨G, 0, none⟩) (block_lt_of_cell (by first | exact d0 | exact c0))]; first | exact d0 | exact c0
  have d1 : wz.cell? ⟨G, 1, none⟩ = some (.int .i64 (N : Int)) := by rw [hbz.cell (p := ⟨G, 1, none⟩) (block_lt_of_cell (by first | exact d1 | exact c1))]; first | exact d1 | exact c1
  have d2 : wz.cell? ⟨G + 1, 0, none⟩ = some (.int .i64 (l : Int)) := by rw [hbz.cell (p := ⟨G + 1, 0, none⟩) (block_lt_of_cell (by first | exact d2 | exact c2))]; first | exact d2 | exact c2
  have d3 : wz.cell? ⟨G + 1, 1, none⟩ = some (.int .i64 (n : Int)) := by rw [hbz.cell (p := ⟨G + 1, 1, none⟩) (block_lt_of_cell (by first | exact d3 | exact c3))]; first | exact d3 | exact c3
  have HBW : Hid (Below G w wz ∧ G ≤ wz.heap.size) := next_below HBW.out hbz ⟨rfl, rfl, rfl, Nat.le_refl _, fun _ _ => rfl⟩
  clear hbz
  go_wp2_with fail
  refine hK.out _ _ ?_ (fun hHeld => ?_)
  · exact ⟨d0, d1, d2, d3⟩
  clear hK K
  try simp only [Act.put, List.getElem_toArray, List.getElem_cons_zero, List.getElem_cons_succ, List.setIfInBounds_toArray, List.set_cons_zero, List.set_cons_succ]
  refine wpAnyH_take (i := 2) (v := ?_) rfl (by kernel_rfl) (by kernel_rfl) (by kernel_rfl) (fun _ _ _ h => h) (Or.inl ⟨by rfl, ?_⟩) hHeld ?_
  rotate_left
  · (intro wq hSw; (try dsimp only at hSw); (try obtain ⟨s0, s1, s2, s3⟩ := hSw); (go_simp <;> with_reducible rfl))
  try simp only [Act.put, List.getElem_toArray, List.getElem_cons_zero, List.getElem_cons_succ, List.setIfInBounds_toArray, List.set_cons_zero, List.set_cons_succ]
  refine wpAnyH_take (i := 3) (v := ?_) rfl (by kernel_rfl) (by kernel_rfl) (by kernel_rfl) (fun _ _ _ h => h) (Or.inl ⟨by rfl, ?_⟩) hHeld ?_
  rotate_left
  · (intro wq hSw; (try dsimp only at hSw); (try obtain ⟨s0, s1, s2, s3⟩ := hSw); (go_simp <;> with_reducible rfl))
  try simp only [Act.put, List.getElem_toArray, List.getElem_cons_zero, List.getElem_cons_succ, List.setIfInBounds_toArray, List.set_cons_zero, List.set_cons_succ]
  refine wpAnyH_take (i := 4) (v := ?_) rfl (by kernel_rfl) (by kernel_rfl) (by kernel_rfl) (fun _ _ _ h => h) (Or.inl ⟨by rfl, ?_⟩) hHeld ?_
  rotate_left
  · (intro wq hSw; (try dsimp only at hSw); (try obtain ⟨s0, s1, s2, s3⟩ := hSw); (go_simp <;> with_reducible rfl))
  try simp only [Act.put, List.getElem_toArray, List.getElem_cons_zero, List.getElem_cons_succ, List.setIfInBounds_toArray, List.set_cons_zero, List.set_cons_succ]
  refine wpAnyH_take (i := 5) (v := ?_) rfl (by kernel_rfl) (by kernel_rfl) (by kernel_rfl) (fun _ _ _ h => h) (Or.inl ⟨by rfl, ?_⟩) hHeld ?_
  rotate_left
  · (intro wq hSw; (try dsimp only at hSw); (try obtain ⟨s0, s1, s2, s3⟩ := hSw); (go_simp <;> with_reducible rfl))
  try simp only [Act.put, List.getElem_toArray, List.getElem_cons_zero, List.getElem_cons_succ, List.setIfInBounds_toArray, List.set_cons_zero, List.set_cons_succ]
  refine wpAnyH_take (i := 6) (v := undef) rfl (by kernel_rfl) (by kernel_rfl) (by kernel_rfl) (fun _ _ _ h => h) (Or.inr ⟨by rfl, rfl⟩) hHeld ?_
  try simp only [Act.put, List.getElem_toArray, List.getElem_cons_zero, List.getElem_cons_succ, List.setIfInBounds_toArray, List.set_cons_zero, List.set_cons_succ]
  refine wpAnyH_take (i := 7) (v := undef) rfl (by kernel_rfl) (by kernel_rfl) (by kernel_rfl) (fun _ _ _ h => h) (Or.inr ⟨by rfl, rfl⟩) hHeld ?_
  try simp only [Act.put, List.getElem_toArray, List.getElem_cons_zero, List.getElem_cons_succ, List.setIfInBounds_toArray, List.set_cons_zero, List.set_cons_succ]
  refine wpAnyH_take (i := 8) (v := undef) rfl (by kernel_rfl) (by kernel_rfl) (by kernel_rfl) (fun _ _ _ h => h) (Or.inr ⟨by rfl, rfl⟩) hHeld ?_
  try simp only [Act.put, List.getElem_toArray, List.getElem_cons_zero, List.getElem_cons_succ, List.setIfInBounds_toArray, List.set_cons_zero, List.set_cons_succ]
  refine wpAnyH_take (i := 9) (v := undef) rfl (by kernel_rfl) (by kernel_rfl) (by kernel_rfl) (fun _ _ _ h => h) (Or.inr ⟨by rfl, rfl⟩) hHeld ?_
  try simp only [Act.put, List.getElem_toArray, List.getElem_cons_zero, List.getElem_cons_succ, List.setIfInBounds_toArray, List.set_cons_zero, List.set_cons_succ]
  refine wpAnyH_ready (rs := [10]) (by kernel_rfl) (by simp) ?_
  refine AllReadyH.cons rfl (fun K hK => ?_) AllReadyH.nil
  go_simp
  refine hK.out _ _ ?_ (fun hHeld => ?_)
  · exact ⟨d0, d1, d2, d3⟩
  clear hK K
  try simp only [Act.put, List.getElem_toArray, List.getElem_cons_zero, List.getElem_cons_succ, List.setIfInBounds_toArray, List.set_cons_zero, List.set_cons_succ]
  refine wpAnyH_take (i := 11) (v := undef) rfl (by kernel_rfl) (by kernel_rfl) (by kernel_rfl) (fun _ _ _ h => h) (Or.inr ⟨by rfl, rfl⟩) hHeld ?_
  try simp only [Act.put, List.getElem_toArray, List.getElem_cons_zero, List.getElem_cons_succ, List.setIfInBounds_toArray, List.set_cons_zero, List.set_cons_succ]
  refine wpAnyH_take (i := 12) (v := undef) rfl (by kernel_rfl) (by kernel_rfl) (by kernel_rfl) (fun _ _ _ h => h) (Or.inr ⟨by rfl, rfl⟩) hHeld ?_
  try simp only [Act.put, List.getElem_toArray, List.getElem_cons_zero, List.getElem_cons_succ, List.setIfInBounds_toArray, List.set_cons_zero, List.set_cons_succ]
  refine wpAnyH_take (i := 13) (v := undef) rfl (by kernel_rfl) (by kernel_rfl) (by kernel_rfl) (fun _ _ _ h => h) (Or.inr ⟨by rfl, rfl⟩) hHeld ?_
  try simp only [Act.put, List.getElem_toArray, List.getElem_cons_zero, List.getElem_cons_succ, List.setIfInBounds_toArray, List.set_cons_zero, List.set_cons_succ]
  refine wpAnyH_take (i := 14) (v := ?_) rfl (by kernel_rfl) (by kernel_rfl) (by kernel_rfl) (fun _ _ _ h => h) (Or.inl ⟨by rfl, ?_⟩) hHeld ?_
  rotate_left
  · (intro wq hSw; (try dsimp only at hSw); (try obtain ⟨s0, s1, s2, s3⟩ := hSw); (go_simp <;> with_reducible rfl))
  try simp only [Act.put, List.getElem_toArray, List.getElem_cons_zero, List.getElem_cons_succ, List.setIfInBounds_toArray, List.set_cons_zero, List.set_cons_succ]
  refine wpAnyH_take (i := 15) (v := ?_) rfl (by kernel_rfl) (by kernel_rfl) (by kernel_rfl) (fun _ _ _ h => h) (Or.inl ⟨by rfl, ?_⟩) hHeld ?_
  rotate_left
  · (intro wq hSw; (try dsimp only at hSw); (try obtain ⟨s0, s1, s2, s3⟩ := hSw); (go_simp <;> with_reducible rfl))
  try simp only [Act.put, List.getElem_toArray, List.getElem_cons_zero, List.getElem_cons_succ, List.setIfInBounds_toArray, List.set_cons_zero, List.set_cons_succ]
  refine wpAnyH_done (by kernel_rfl) ?_ _
  go_wp2_with fail
  go_ret
  refine ⟨false, rfl, ⟨fun h => (by cases h), fun h => absurd h HNO.out⟩, by rw [HG.out]; exact HBW.out.1⟩

set_option maxRecDepth 100000 in
set_option maxHeartbeats 4000000 in
theorem suits32_c (L N l n : Nat) (w : World) (h1 : L + N ≤ 32) (h2 : l + n ≤ 32) (c : L ≤ l) (c' : bh32 L N ≤ bh32 l n) :
    Calls Tryz.prog 182 #[wn32 L N, wn32 l n] w (SuitEnd32 L N l n w) := by
  have HC1 := hide c
  have HC2 := hide c'
  have cd : decide (L ≤ l) = true := decide_eq_true c
  have cd2 : decide (bh32 L N ≤ bh32 l n) = true := decide_eq_true c'
  have H1 := hide h1
  have H2 := hide h2
  have HS : Hid (∀ w, Calls Tryz.prog 155 #[.agg #[.int .i64 (L : Int), .int .i64 (N : Int)]] w fun e w' => e = .returned (.bool (decide (0 < N))) ∧ Below w.heap.size w w') := fun w => stands32_any L N w h1
  have HB1 : Hid (∀ w, Calls Tryz.prog 156 #[.agg #[.int .i64 (L : Int), .int .i64 (N : Int)]] w fun e w' => e = .returned (.int .i64 ((32 - L - N : Nat) : Int)) ∧ Below w.heap.size w w') := fun w => behind32_any L N (32 - L - N) w (by omega)
  have HB2 : Hid (∀ w, Calls Tryz.prog 156 #[.agg #[.int .i64 (l : Int), .int .i64 (n : Int)]] w fun e w' => e = .returned (.int .i64 ((32 - l - n : Nat) : Int)) ∧ Below w.heap.size w w') := fun w => behind32_any l n (32 - l - n) w (by omega)
  have HM := hide (boxed32 w L N l n)
  clear h1 h2 c c'
  unfold wn32
  go_enter Tryz.func182, Tryz.ntmps182
  go_wp2_with fail
  generalize (w.alloc (.cells #[.int .i64 (L : Int), .int .i64 (N : Int)] 162)).alloc (.cells #[.int .i64 (l : Int), .int .i64 (n : Int)] 162) = W1 at *
  obtain ⟨c0, c1, c2, c3, B1⟩ := HM.out
  have HBW : Hid (Below w.heap.size w W1 ∧ w.heap.size ≤ W1.heap.size) := ⟨B1, B1.size⟩
  clear B1 HM HB1 HB2
  obtain ⟨G, hG⟩ : ∃ G, w.heap.size = G := ⟨_, rfl⟩
  rw [hG] at c0 c1 c2 c3 HBW ⊢
  have HG := hide hG
  clear hG
  go_region_held3 (fun w' => w'.cell? ⟨G, 0, none⟩ = some (.int .i64 (L : Int)) ∧ w'.cell? ⟨G, 1, none⟩ = some (.int .i64 (N : Int)) ∧ w'.cell? ⟨G + 1, 0, none⟩ = some (.int .i64 (l : Int)) ∧ w'.cell? ⟨G + 1, 1, none⟩ = some (.int .i64 (n : Int))) (first | exact ⟨d0, d1, d2, d3⟩ | exact ⟨c0, c1, c2, c3⟩)
    ((go_at_call 156; go_must (refine (behindN32_any _ _ _ (by first | exact H1.out | exact H2.out)).mono ?_); rintro _ wz ⟨rfl, hbz⟩; (have d0 : wz.cell? ⟨G, 0, none⟩ = some (.int .i64 (L : Int)) := by rw [hbz.cell (p := ⟨G, 0, none⟩) (block_lt_of_cell (by first | exact d0 | exact c0))]; first | exact d0 | exact c0); (have d1 : wz.cell? ⟨G, 1, none⟩ = some (.int .i64 (N : Int)) := by rw [hbz.cell (p := ⟨G, 1, none⟩) (block_lt_of_cell (by first | exact d1 | exact c1))]; first | exact d1 | exact c1); (have d2 : wz.cell? ⟨G + 1, 0, none⟩ = some (.int .i64 (l : Int)) := by rw [hbz.cell (p := ⟨G + 1, 0, none⟩) (block_lt_of_cell (by first | exact d2 | exact c2))]; first | exact d2 | exact c2); (have d3 : wz.cell? ⟨G + 1, 1, none⟩ = some (.int .i64 (n : Int)) := by rw [hbz.cell (p := ⟨G + 1, 1, none⟩) (block_lt_of_cell (by first | exact d3 | exact c3))]; first | exact d3 | exact c3); (have HBW : Hid (Below G w wz ∧ G ≤ wz.heap.size) := next_below HBW.out hbz ⟨rfl, rfl, rfl, Nat.le_refl _, fun _ _ => rfl⟩); clear hbz))
  go_wp2_with fail
  by_cases h0 : N = 0
  · rw [show decide (0 < N) = false from by simp; omega] at HS
    have HN := hide h0
    clear h0
    refine wp_region_held_drew (S := fun w' => w'.cell? ⟨G, 0, none⟩ = some (.int .i64 (L : Int)) ∧ w'.cell? ⟨G, 1, none⟩ = some (.int .i64 (N : Int)) ∧ w'.cell? ⟨G + 1, 0, none⟩ = some (.int .i64 (l : Int)) ∧ w'.cell? ⟨G + 1, 1, none⟩ = some (.int .i64 (n : Int))) (by kernel_rfl) (by first | exact ⟨d0, d1, d2, d3⟩ | exact ⟨c0, c1, c2, c3⟩) (fun hHeld => ?_)
    refine wpAnyH_take (i := 0) (v := ?_) rfl (by kernel_rfl) (by kernel_rfl) (by kernel_rfl) (fun _ _ _ h => h) (Or.inl ⟨by rfl, ?_⟩) hHeld ?_
    rotate_left
    · (intro wq hSw; (try dsimp only at hSw); (try obtain ⟨s0, s1, s2, s3⟩ := hSw); (go_simp <;> with_reducible rfl))
    try simp only [Act.put, List.getElem_toArray, List.getElem_cons_zero, List.getElem_cons_succ, List.setIfInBounds_toArray, List.set_cons_zero, List.set_cons_succ]
    refine wpAnyH_ready (rs := [1]) (by kernel_rfl) (by simp) ?_
    refine AllReadyH.cons rfl (fun K hK => ?_) AllReadyH.nil
    go_simp
    refine (HS.out _).mono ?_
    rintro e wz ⟨rfl, hbz⟩
    have d0 : wz.cell? ⟨G, 0, none⟩ = some (.int .i64 (L : Int)) := by rw [hbz.cell (p := ⟨G, 0, none⟩) (block_lt_of_cell (by first | exact d0 | exact c0))]; first | exact d0 | exact c0
    have d1 : wz.cell? ⟨G, 1, none⟩ = some (.int .i64 (N : Int)) := by rw [hbz.cell (p := ⟨G, 1, none⟩) (block_lt_of_cell (by first | exact d1 | exact c1))]; first | exact d1 | exact c1
    have d2 : wz.cell? ⟨G + 1, 0, none⟩ = some (.int .i64 (l : Int)) := by rw [hbz.cell (p := ⟨G + 1, 0, none⟩) (block_lt_of_cell (by first | exact d2 | exact c2))]; first | exact d2 | exact c2
    have d3 : wz.cell? ⟨G + 1, 1, none⟩ = some (.int .i64 (n : Int)) := by rw [hbz.cell (p := ⟨G + 1, 1, none⟩) (block_lt_of_cell (by first | exact d3 | exact c3))]; first | exact d3 | exact c3
    have HBW : Hid (Below G w wz ∧ G ≤ wz.heap.size) := next_below HBW.out hbz ⟨rfl, rfl, rfl, Nat.le_refl _, fun _ _ => rfl⟩
    clear hbz
    go_wp2_with fail
    refine hK.out _ _ ?_ (fun hHeld => ?_)
    · exact ⟨d0, d1, d2, d3⟩
    clear hK K
    try simp only [Act.put, List.getElem_toArray, List.getElem_cons_zero, List.getElem_cons_succ, List.setIfInBounds_toArray, List.set_cons_zero, List.set_cons_succ]
    refine wpAnyH_take (i := 2) (v := ?_) rfl (by kernel_rfl) (by kernel_rfl) (by kernel_rfl) (fun _ _ _ h => h) (Or.inl ⟨by rfl, ?_⟩) hHeld ?_
    rotate_left
    · (intro wq hSw; (try dsimp only at hSw); (try obtain ⟨s0, s1, s2, s3⟩ := hSw); (go_simp <;> with_reducible rfl))
    try simp only [Act.put, List.getElem_toArray, List.getElem_cons_zero, List.getElem_cons_succ, List.setIfInBounds_toArray, List.set_cons_zero, List.set_cons_succ]
    refine wpAnyH_take (i := 3) (v := undef) rfl (by kernel_rfl) (by kernel_rfl) (by kernel_rfl) (fun _ _ _ h => h) (Or.inr ⟨by rfl, rfl⟩) hHeld ?_
    try simp only [Act.put, List.getElem_toArray, List.getElem_cons_zero, List.getElem_cons_succ, List.setIfInBounds_toArray, List.set_cons_zero, List.set_cons_succ]
    refine wpAnyH_take (i := 4) (v := ?_) rfl (by kernel_rfl) (by kernel_rfl) (by kernel_rfl) (fun _ _ _ h => h) (Or.inl ⟨by rfl, ?_⟩) hHeld ?_
    rotate_left
    · (intro wq hSw; (try dsimp only at hSw); (try obtain ⟨s0, s1, s2, s3⟩ := hSw); (go_simp <;> with_reducible rfl))
    try simp only [Act.put, List.getElem_toArray, List.getElem_cons_zero, List.getElem_cons_succ, List.setIfInBounds_toArray, List.set_cons_zero, List.set_cons_succ]
    refine wpAnyH_take (i := 5) (v := ?_) rfl (by kernel_rfl) (by kernel_rfl) (by kernel_rfl) (fun _ _ _ h => h) (Or.inl ⟨by rfl, ?_⟩) hHeld ?_
    rotate_left
    · (intro wq hSw; (try dsimp only at hSw); (try obtain ⟨s0, s1, s2, s3⟩ := hSw); (go_simp <;> with_reducible rfl))
    try simp only [Act.put, List.getElem_toArray, List.getElem_cons_zero, List.getElem_cons_succ, List.setIfInBounds_toArray, List.set_cons_zero, List.set_cons_succ]
    refine wpAnyH_take (i := 6) (v := undef) rfl (by kernel_rfl) (by kernel_rfl) (by kernel_rfl) (fun _ _ _ h => h) (Or.inr ⟨by rfl, rfl⟩) hHeld ?_
    try simp only [Act.put, List.getElem_toArray, List.getElem_cons_zero, List.getElem_cons_succ, List.setIfInBounds_toArray, List.set_cons_zero, List.set_cons_succ]
    refine wpAnyH_take (i := 7) (v := undef) rfl (by kernel_rfl) (by kernel_rfl) (by kernel_rfl) (fun _ _ _ h => h) (Or.inr ⟨by rfl, rfl⟩) hHeld ?_
    try simp only [Act.put, List.getElem_toArray, List.getElem_cons_zero, List.getElem_cons_succ, List.setIfInBounds_toArray, List.set_cons_zero, List.set_cons_succ]
    refine wpAnyH_take (i := 8) (v := undef) rfl (by kernel_rfl) (by kernel_rfl) (by kernel_rfl) (fun _ _ _ h => h) (Or.inr ⟨by rfl, rfl⟩) hHeld ?_
    try simp only [Act.put, List.getElem_toArray, List.getElem_cons_zero, List.getElem_cons_succ, List.setIfInBounds_toArray, List.set_cons_zero, List.set_cons_succ]
    refine wpAnyH_take (i := 9) (v := undef) rfl (by kernel_rfl) (by kernel_rfl) (by kernel_rfl) (fun _ _ _ h => h) (Or.inr ⟨by rfl, rfl⟩) hHeld ?_
    try simp only [Act.put, List.getElem_toArray, List.getElem_cons_zero, List.getElem_cons_succ, List.setIfInBounds_toArray, List.set_cons_zero, List.set_cons_succ]
    refine wpAnyH_ready (rs := [10]) (by kernel_rfl) (by simp) ?_
    refine AllReadyH.cons rfl (fun K hK => ?_) AllReadyH.nil
    go_simp
    refine hK.out _ _ ?_ (fun hHeld => ?_)
    · exact ⟨d0, d1, d2, d3⟩
    clear hK K
    try simp only [Act.put, List.getElem_toArray, List.getElem_cons_zero, List.getElem_cons_succ, List.setIfInBounds_toArray, List.set_cons_zero, List.set_cons_succ]
    refine wpAnyH_take (i := 11) (v := undef) rfl (by kernel_rfl) (by kernel_rfl) (by kernel_rfl) (fun _ _ _ h => h) (Or.inr ⟨by rfl, rfl⟩) hHeld ?_
    try simp only [Act.put, List.getElem_toArray, List.getElem_cons_zero, List.getElem_cons_succ, List.setIfInBounds_toArray, List.set_cons_zero, List.set_cons_succ]
    refine wpAnyH_take (i := 12) (v := undef) rfl (by kernel_rfl) (by kernel_rfl) (by kernel_rfl) (fun _ _ _ h => h) (Or.inr ⟨by rfl, rfl⟩) hHeld ?_
    try simp only [Act.put, List.getElem_toArray, List.getElem_cons_zero, List.getElem_cons_succ, List.setIfInBounds_toArray, List.set_cons_zero, List.set_cons_succ]
    refine wpAnyH_take (i := 13) (v := undef) rfl (by kernel_rfl) (by kernel_rfl) (by kernel_rfl) (fun _ _ _ h => h) (Or.inr ⟨by rfl, rfl⟩) hHeld ?_
    try simp only [Act.put, List.getElem_toArray, List.getElem_cons_zero, List.getElem_cons_succ, List.setIfInBounds_toArray, List.set_cons_zero, List.set_cons_succ]
    refine wpAnyH_take (i := 14) (v := ?_) rfl (by kernel_rfl) (by kernel_rfl) (by kernel_rfl) (fun _ _ _ h => h) (Or.inl ⟨by rfl, ?_⟩) hHeld ?_
    rotate_left
    · (intro wq hSw; (try dsimp only at hSw); (try obtain ⟨s0, s1, s2, s3⟩ := hSw); (go_simp <;> with_reducible rfl))
    try simp only [Act.put, List.getElem_toArray, List.getElem_cons_zero, List.getElem_cons_succ, List.setIfInBounds_toArray, List.set_cons_zero, List.set_cons_succ]
    refine wpAnyH_take (i := 15) (v := ?_) rfl (by kernel_rfl) (by kernel_rfl) (by kernel_rfl) (fun _ _ _ h => h) (Or.inl ⟨by rfl, ?_⟩) hHeld ?_
    rotate_left
    · (intro wq hSw; (try dsimp only at hSw); (try obtain ⟨s0, s1, s2, s3⟩ := hSw); (go_simp <;> with_reducible rfl))
    try simp only [Act.put, List.getElem_toArray, List.getElem_cons_zero, List.getElem_cons_succ, List.setIfInBounds_toArray, List.set_cons_zero, List.set_cons_succ]
    refine wpAnyH_done (by kernel_rfl) ?_ _
    go_wp2_with fail
    go_ret
    refine ⟨false, rfl, ⟨fun h => (by cases h), fun h => absurd h.1 (by have := HN.out; omega)⟩, by rw [HG.out]; exact HBW.out.1⟩
  rw [show decide (0 < N) = true from by simp; omega] at HS
  have HN := hide h0
  clear h0
  go_region_held3 (fun w' => w'.cell? ⟨G, 0, none⟩ = some (.int .i64 (L : Int)) ∧ w'.cell? ⟨G, 1, none⟩ = some (.int .i64 (N : Int)) ∧ w'.cell? ⟨G + 1, 0, none⟩ = some (.int .i64 (l : Int)) ∧ w'.cell? ⟨G + 1, 1, none⟩ = some (.int .i64 (n : Int))) (first | exact ⟨d0, d1, d2, d3⟩ | exact ⟨c0, c1, c2, c3⟩)
    (first | (go_at_call 155; go_must (refine (HS.out _).mono ?_); rintro _ wz ⟨rfl, hbz⟩; (have d0 : wz.cell? ⟨G, 0, none⟩ = some (.int .i64 (L : Int)) := by rw [hbz.cell (p := ⟨G, 0, none⟩) (block_lt_of_cell (by first | exact d0 | exact c0))]; first | exact d0 | exact c0); (have d1 : wz.cell? ⟨G, 1, none⟩ = some (.int .i64 (N : Int)) := by rw [hbz.cell (p := ⟨G, 1, none⟩) (block_lt_of_cell (by first | exact d1 | exact c1))]; first | exact d1 | exact c1); (have d2 : wz.cell? ⟨G + 1, 0, none⟩ = some (.int .i64 (l : Int)) := by rw [hbz.cell (p := ⟨G + 1, 0, none⟩) (block_lt_of_cell (by first | exact d2 | exact c2))]; first | exact d2 | exact c2); (have d3 : wz.cell? ⟨G + 1, 1, none⟩ = some (.int .i64 (n : Int)) := by rw [hbz.cell (p := ⟨G + 1, 1, none⟩) (block_lt_of_cell (by first | exact d3 | exact c3))]; first | exact d3 | exact c3); (have HBW : Hid (Below G w wz ∧ G ≤ wz.heap.size) := next_below HBW.out hbz ⟨rfl, rfl, rfl, Nat.le_refl _, fun _ _ => rfl⟩); clear hbz) | (go_at_call 180; go_must (refine (fieldWidth32_any _).mono ?_); rintro _ wy ⟨rfl, rfl⟩))
  go_wp2_with fail
  go_ret
  refine ⟨_, rfl, ?_, by rw [HG.out]; exact HBW.out.1⟩
  have q0 := H2.out
  rw [decide_eq_true_iff, IntKind.wrap_i64, IntKind.wrap_i64]
  have q1 := HN.out
  have q2 := HC1.out
  have q3 := HC2.out
  unfold bh32 at q3
  omega

theorem suits32_any (L N l n : Nat) (w : World) (h1 : L + N ≤ 32) (h2 : l + n ≤ 32) : Calls Tryz.prog 182 #[wn32 L N, wn32 l n] w (SuitEnd32 L N l n w) := by
  by_cases c : L ≤ l
  · by_cases c2 : bh32 L N ≤ bh32 l n
    · exact suits32_c L N l n w h1 h2 c c2
    · exact suits32_b L N l n w h1 h2 c c2
  · exact suits32_a L N l n w h1 h2 c

end Go.Proofs.YtlemodcppokjhaaGreatDoor

namespace Go.Proofs.YtlemodcppokjhaaGreatDoor
open Go.RowKit
open M
set_option linter.unusedVariables false
set_option linter.unusedSimpArgs false

/-- A column's state: the value ahead, the window that was laid last. -/
structure Col32 (w : World) (c : Nat) (p L N : Nat) : Prop where
  ahead : w.cell? ⟨c, 0, none⟩ = some (.int .u32 (p : Int))
  lead : w.cell? ⟨c, 1, none⟩ = some (.int .i64 (L : Int))
  len : w.cell? ⟨c, 2, none⟩ = some (.int .i64 (N : Int))
  fz : ∀ i, w.frozen? ⟨c, i, none⟩ = false

theorem Col32.lt {w : World} {c p L N : Nat} (h : Col32 w c p L N) : c < w.heap.size := block_lt_of_cell h.ahead
theorem Col32.below {w w' : World} {c p L N B : Nat} (h : Col32 w c p L N) (hB : Below B w w') (hc : c < B) : Col32 w' c p L N := by
  have e := hB.block c hc
  exact ⟨by rw [World.cell?_of_block (w := w) e]; exact h.ahead, by rw [World.cell?_of_block (w := w) e]; exact h.lead, by rw [World.cell?_of_block (w := w) e]; exact h.len,
    fun i => by rw [World.frozen?_of_block (w := w) (w' := w') (a := ⟨c, i, none⟩) e]; exact h.fz i⟩

/-- What pick tells. -/
def PickE32 (P : Prop) (L N l' n' : Nat) (w : World) (e : Ending) (w' : World) : Prop :=
  ∃ (l n : Nat) (own : Bool), e = .returned (.tuple #[.agg #[.int .i64 (l : Int), .int .i64 (n : Int)], .bool own]) ∧ Below w.heap.size w w' ∧
    ((own = false ∧ P ∧ l = L ∧ n = N) ∨ (own = true ∧ ¬ P ∧ l = l' ∧ n = n'))
def PickEnd32 (L N x : Nat) (w : World) (e : Ending) (w' : World) : Prop := PickE32 (sut 32 5 L N x) L N (32 - bitLen x) (wl x) w e w'

set_option maxRecDepth 100000 in
set_option maxHeartbeats 4000000 in
theorem pick32_any (c p L N x : Nat) (w : World) (h : Col32 w c p L N) (hw : L + N ≤ 32) (hx : x < 4294967296) (h0 : x ≠ 0) (hT : Tab64 w) :
    Calls Tryz.prog 157 #[.pointer (some ⟨c, 0, none⟩), .int .u32 x] w (PickEnd32 L N x w) := by
  have hb := bitLen_le x 32 hx
  have ht := tz_lt x h0 (by omega)
  have HW : Hid (32 - bitLen x + wl x ≤ 32 ∧ (sut 32 5 L N x ↔ (0 < N ∧ L ≤ 32 - bitLen x ∧ 32 - L - N ≤ 32 - (32 - bitLen x) - wl x ∧ N ≤ wl x + 2 * 5))) := by
    have q : wl x = bitLen x - tz x := rfl
    refine ⟨by omega, ?_⟩
    unfold sut
    rw [show 32 - (32 - bitLen x) - wl x = tz x from by omega]
  have HWO : Hid (∀ w, Tab64 w → Calls Tryz.prog 181 #[.int .u32 x] w fun e w' => e = .returned (.agg #[.int .i64 ((32 - bitLen x : Nat) : Int), .int .i64 (wl x : Int)]) ∧ Below w.heap.size w w') := fun w h => windowOf32_any x w hx h0 h
  have HH := hide h
  have HT := hide hT
  have HL := hide hw
  clear h hT hw hb ht hx
  unfold PickEnd32
  generalize 32 - bitLen x = l at *
  generalize wl x = n at *
  have HN0 : Hid ((w.alloc (.cells #[.int .i64 0, .int .i64 0] 162)).heap[w.heap.size]? = some (.cells #[.int .i64 0, .int .i64 0] 162 (0, 0)) ∧ Below w.heap.size w (w.alloc (.cells #[.int .i64 0, .int .i64 0] 162))) := ⟨heap_alloc_new w _, (Below.refl _ w).alloc (Nat.le_refl _) _⟩
  go_enter Tryz.func157, Tryz.ntmps157
  go_wp2_with fail
  generalize w.alloc (.cells #[.int .i64 0, .int .i64 0] 162) = w0 at *
  refine (HWO.out _ (HT.out.below HN0.out.2)).mono ?_
  rintro e w1 ⟨rfl, hb1⟩
  have s0 : w.heap.size < w0.heap.size := size_lt_of_row HN0.out.1
  have s1 := hb1.size
  have HB2 : Hid (Below w.heap.size w (w1.alloc (.cells #[.int .i64 (l : Int), .int .i64 (n : Int)] 162)) ∧ w.heap.size ≤ (w1.alloc (.cells #[.int .i64 (l : Int), .int .i64 (n : Int)] 162)).heap.size ∧
      (w1.alloc (.cells #[.int .i64 (l : Int), .int .i64 (n : Int)] 162)).heap[w.heap.size]? = some (.cells #[.int .i64 0, .int .i64 0] 162 (0, 0)) ∧
      (w1.alloc (.cells #[.int .i64 (l : Int), .int .i64 (n : Int)] 162)).heap[w1.heap.size]? = some (.cells #[.int .i64 (l : Int), .int .i64 (n : Int)] 162 (0, 0))) := by
    have b1 : Below w.heap.size w w1 := HN0.out.2.trans (hb1.mono HN0.out.2.size)
    refine ⟨b1.alloc (by omega) _, by simp; omega, ?_, heap_alloc_new w1 _⟩
    exact new_kept (by rw [hb1.block w.heap.size s0]; exact HN0.out.1) _
  clear hb1 HN0
  go_wp2_with fail
  obtain ⟨H, hH⟩ : ∃ H, w1.heap.size = H := ⟨_, rfl⟩
  rw [hH] at HB2 s1 ⊢
  generalize w1.alloc (.cells #[.int .i64 (l : Int), .int .i64 (n : Int)] 162) = w2 at *
  obtain ⟨G, hG⟩ : ∃ G, w.heap.size = G := ⟨_, rfl⟩
  have hcG : c < w.heap.size := HH.out.lt
  have HC2 : Hid (Col32 w2 c p L N) := HH.out.below HB2.out.1 hcG
  rw [hG] at HB2 s0 hcG ⊢
  have HG := hide hG
  clear hG hH
  have HBW : Hid (Below G w w2 ∧ G ≤ w2.heap.size) := ⟨HB2.out.1, HB2.out.2.1⟩
  have c0 : w2.cell? ⟨c, 1, none⟩ = some (.int .i64 (L : Int)) := HC2.out.lead
  have c1 : w2.cell? ⟨c, 2, none⟩ = some (.int .i64 (N : Int)) := HC2.out.len
  have c2 : w2.cell? ⟨H, 0, none⟩ = some (.int .i64 (l : Int)) := by rw [cell_of_row _ _ _ _ _ _ HB2.out.2.2.2]; rfl
  have c3 : w2.cell? ⟨H, 1, none⟩ = some (.int .i64 (n : Int)) := by rw [cell_of_row _ _ _ _ _ _ HB2.out.2.2.2]; rfl
  have HGB := hide HB2.out.2.2.1
  clear HB2 HC2
  go_region_held3 (fun w' => w'.cell? ⟨c, 1, none⟩ = some (.int .i64 (L : Int)) ∧ w'.cell? ⟨c, 2, none⟩ = some (.int .i64 (N : Int)) ∧ w'.cell? ⟨H, 0, none⟩ = some (.int .i64 (l : Int)) ∧ w'.cell? ⟨H, 1, none⟩ = some (.int .i64 (n : Int))) (first | exact ⟨d0, d1, d2, d3⟩ | exact ⟨c0, c1, c2, c3⟩)
    ((go_at_call 182; go_must (refine (suits32_any L N l n _ HL.out HW.out.1).mono ?_); rintro _ wz ⟨v, rfl, hv, hbz⟩; (have d0 : wz.cell? ⟨c, 1, none⟩ = some (.int .i64 (L : Int)) := by rw [hbz.cell (p := ⟨c, 1, none⟩) (block_lt_of_cell c0)]; exact c0); (have d1 : wz.cell? ⟨c, 2, none⟩ = some (.int .i64 (N : Int)) := by rw [hbz.cell (p := ⟨c, 2, none⟩) (block_lt_of_cell c1)]; exact c1); (have d2 : wz.cell? ⟨H, 0, none⟩ = some (.int .i64 (l : Int)) := by rw [hbz.cell (p := ⟨H, 0, none⟩) (block_lt_of_cell c2)]; exact c2); (have d3 : wz.cell? ⟨H, 1, none⟩ = some (.int .i64 (n : Int)) := by rw [hbz.cell (p := ⟨H, 1, none⟩) (block_lt_of_cell c3)]; exact c3); (have HGZ : Hid (wz.heap[G]? = some (.cells #[.int .i64 0, .int .i64 0] 162 (0, 0))) := (by show _ = _; rw [hbz.block G (size_lt_of_row HGB.out)]; exact HGB.out)); (have HBW : Hid (Below G w wz ∧ G ≤ wz.heap.size) := next_below HBW.out hbz ⟨rfl, rfl, rfl, Nat.le_refl _, fun _ _ => rfl⟩); clear hbz))
  rw [← HW.out.2] at hv
  have HV := hide hv
  clear hv
  have f0 : wz.frozen? ⟨G, 0, none⟩ = false := frozen_of_row _ _ _ _ _ HGZ.out
  have f1 : wz.frozen? ⟨G, 1, none⟩ = false := frozen_of_row _ _ _ _ _ HGZ.out
  have g0 : wz.cell? ⟨G, 0, none⟩ = some (.int .i64 0) := by rw [cell_of_row _ _ _ _ _ _ HGZ.out]; rfl
  have g1 : wz.cell? ⟨G, 1, none⟩ = some (.int .i64 0) := by rw [cell_of_row _ _ _ _ _ _ HGZ.out]; rfl
  cases v with
  | true =>
    go_wp2_with fail
    obtain ⟨r0, r1⟩ := set_two (v := .int .i64 (L : Int)) (v' := .int .i64 (N : Int)) g0 g1
    refine bodyPost_ret (v := .tuple #[.agg #[.int .i64 (L : Int), .int .i64 (N : Int)], .bool false]) (by simp [results, Tryz.results157, go_sem, r0, r1]) rfl ?_
    refine ⟨L, N, false, rfl, ?_, ?_⟩
    · rw [HG.out]; exact (HBW.out.1.setCell (Nat.le_refl _) _).setCell (Nat.le_refl _) _
    · exact .inl ⟨rfl, HV.out.1 (by trivial), rfl, rfl⟩
  | false =>
    go_wp2_with fail
    obtain ⟨r0, r1⟩ := set_two (v := .int .i64 (l : Int)) (v' := .int .i64 (n : Int)) g0 g1
    refine bodyPost_ret (v := .tuple #[.agg #[.int .i64 (l : Int), .int .i64 (n : Int)], .bool true]) (by simp [results, Tryz.results157, go_sem, r0, r1]) rfl ?_
    refine ⟨l, n, true, rfl, ?_, ?_⟩
    · rw [HG.out]; exact (HBW.out.1.setCell (Nat.le_refl _) _).setCell (Nat.le_refl _) _
    · exact .inr ⟨rfl, fun h => (by have := HV.out.2 h; cases this), rfl, rfl⟩

end Go.Proofs.YtlemodcppokjhaaGreatDoor

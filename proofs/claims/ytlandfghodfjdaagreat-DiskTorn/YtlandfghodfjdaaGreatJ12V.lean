/- Cut: whatever is asked. -/
import Derived.Test.YtlandfghodfjdaaGreatJ12T
namespace Go.Proofs.YtlandfghodfjdaaGreat
open Go.RowKit
open Go.MuLone (lock_free unlock_deferred run_callFunc_enter)
set_option linter.unusedVariables false
set_option linter.unusedSimpArgs false

set_option maxRecDepth 100000 in
set_option maxHeartbeats 1000000 in
theorem cut_low {B : Nat} {S : DS} (w : World) (h : Dk B w 0 S) (hoff : S.off = false) (x : Fi) (hx : x ∈ S.L) (hs : okN x.nm) (z : Int) (hn : z < 0) :
    Calls Tryz.prog 33 #[.pointer (some ⟨S.d, 0, none⟩), .string x.nm, .int .i64 z] w fun e w' => e = .returned (.int .i64 105) ∧ Dk B w' 0 S ∧ Fr w (Fp S) w' (Fp S) := by
  have hb0 : Below w.heap.size w (w.alloc (.cells #[.int .i64 z] 3)) := (Below.refl _ _).alloc (Nat.le_refl _) _
  have h0 := h.below hb0
  have l1 := h0.cell 0 (.int .i32 0) rfl
  have l2 := frozen_of h0.dk 0
  have HN : Hid (¬ Fp S w.heap.size) := fp_new h _ (Nat.le_refl _)
  have hf0 : Fr w (Fp S) ((w.alloc (.cells #[.int .i64 z] 3)).setCell ⟨S.d, 0, none⟩ (.int .i32 1)) (Fp S) := (Fr.of_below hb0).trans (Fr.setCell (.inl rfl) _)
  have HE : Hid (Dk B ((w.alloc (.cells #[.int .i64 z] 3)).setCell ⟨S.d, 0, none⟩ (.int .i32 1)) 1 S ∧ Fr w (Fp S) ((w.alloc (.cells #[.int .i64 z] 3)).setCell ⟨S.d, 0, none⟩ (.int .i32 1)) (Fp S) ∧ ((w.alloc (.cells #[.int .i64 z] 3)).setCell ⟨S.d, 0, none⟩ (.int .i32 1)).cell? ⟨w.heap.size, 0, none⟩ = some (.int .i64 z)) := ⟨h0.setLock 1, hf0, (Fr.setCell (w := (w.alloc (.cells #[.int .i64 z] 3))) (F := Fp S) (a := ⟨S.d, 0, none⟩) (.inl rfl) _).cell (a := ⟨w.heap.size, 0, none⟩) HN.out (by simp)⟩
  have HFI : Hid (∀ w2, Dk B w2 1 S → Calls Tryz.prog 51 #[.pointer (some ⟨S.d, 0, none⟩), .string x.nm] w2 fun e w' => e = .returned (.tuple #[.pointer (some ⟨x.f, 0, none⟩), .int .i64 0]) ∧ Below w2.heap.size w2 w') := fun w2 h2 => find_ok w2 h2 hoff x hx hs
  have HX := hide hx
  obtain ⟨nb, hnb⟩ : ∃ nb, x.bs.length = nb := ⟨_, rfl⟩
  obtain ⟨p, cap, hv⟩ := h.fslice hx
  rw [hnb] at hv
  have HV := hide hv
  clear h hs h0 hf0 hb0 hv hx hnb
  go_enter_defers Tryz.func33, Tryz.ntmps33
  go_upto_region 6 with (first | (go_at_call 28; refine (lock_free muLib ⟨S.d, 0, none⟩ _ l1 l2).mono ?_; rintro e w2 ⟨rfl, hw2⟩; have H2 : Hid (Dk B w2 1 S ∧ Fr w (Fp S) w2 (Fp S) ∧ w2.cell? ⟨w.heap.size, 0, none⟩ = some (.int .i64 z)) := (by rw [hw2]; exact HE.out); clear hw2 l1 l2) | (go_at_call 51; refine (HFI.out _ H2.out.1).mono ?_; rintro e w3 ⟨rfl, hB3⟩; have H3 : Hid (Dk B w3 1 S ∧ Fr w (Fp S) w3 (Fp S) ∧ w3.cell? ⟨w.heap.size, 0, none⟩ = some (.int .i64 z)) := ⟨H2.out.1.below hB3, H2.out.2.1.trans (Fr.of_below hB3), (by rw [hB3.cell (p := ⟨w.heap.size, 0, none⟩) (World.block_lt_of_cell? _ _ H2.out.2.2)]; exact H2.out.2.2)⟩; clear hB3))
  have hba : Below w3.heap.size w3 (w3.alloc (.cells #[.pointer (some ⟨x.f, 0, none⟩)] 80)).drew := ((Below.refl _ _).alloc (Nat.le_refl _) _).drew
  have q1 : (w3.alloc (.cells #[.pointer (some ⟨x.f, 0, none⟩)] 80)).drew.cell? ⟨w.heap.size, 0, none⟩ = some (.int .i64 z) := by rw [hba.cell (p := ⟨w.heap.size, 0, none⟩) (World.block_lt_of_cell? _ _ H3.out.2.2)]; exact H3.out.2.2
  have q2 : (w3.alloc (.cells #[.pointer (some ⟨x.f, 0, none⟩)] 80)).drew.cell? ⟨w3.heap.size, 0, none⟩ = some (.pointer (some ⟨x.f, 0, none⟩)) := by show (w3.alloc _).cell? _ = _; simp
  have q3 : (w3.alloc (.cells #[.pointer (some ⟨x.f, 0, none⟩)] 80)).drew.cell? ⟨x.f, 0, none⟩ = some (.slice p nb cap) := by rw [← HV.out]; exact (H3.out.1.below hba).fcell HX.out
  have H4 := hide (And.intro (H3.out.1.below hba) (H3.out.2.1.trans (Fr.of_below hba)))
  clear hba
  refine wp_region_noPanic ?_
  refine wp_region_held_drew (S := fun w' => w'.cell? ⟨w.heap.size, 0, none⟩ = some (.int .i64 z) ∧ w'.cell? ⟨w3.heap.size, 0, none⟩ = some (.pointer (some ⟨x.f, 0, none⟩)) ∧ w'.cell? ⟨x.f, 0, none⟩ = some (.slice p nb cap)) (by kernel_rfl) ⟨q1, q2, q3⟩ (fun hHeld => ?_)
  refine wpAnyH_take (i := 0) (v := ?_) rfl (by kernel_rfl) (by kernel_rfl) (by kernel_rfl) (fun _ _ _ h => h) (Or.inl ⟨by rfl, ?_⟩) hHeld ?_
  rotate_left
  · (intro wq hSw; (try dsimp only at hSw); (try obtain ⟨s0, s1, s2⟩ := hSw); (go_simp <;> with_reducible rfl))
  try simp only [Act.put, List.getElem_toArray, List.getElem_cons_zero, List.getElem_cons_succ, List.setIfInBounds_toArray, List.set_cons_zero, List.set_cons_succ]
  refine wpAnyH_take (i := 1) (v := ?_) rfl (by kernel_rfl) (by kernel_rfl) (by kernel_rfl) (fun _ _ _ h => h) (Or.inl ⟨by rfl, ?_⟩) hHeld ?_
  rotate_left
  · (intro wq hSw; (try dsimp only at hSw); (try obtain ⟨s0, s1, s2⟩ := hSw); (go_simp <;> with_reducible rfl))
  try simp only [Act.put, List.getElem_toArray, List.getElem_cons_zero, List.getElem_cons_succ, List.setIfInBounds_toArray, List.set_cons_zero, List.set_cons_succ]
  refine wpAnyH_take (i := 2) (v := ?_) rfl (by kernel_rfl) (by kernel_rfl) (by kernel_rfl) (fun _ _ _ h => h) (Or.inl ⟨by rfl, ?_⟩) hHeld ?_
  rotate_left
  · (intro wq hSw; (try dsimp only at hSw); (try obtain ⟨s0, s1, s2⟩ := hSw); (go_simp <;> with_reducible rfl))
  try simp only [Act.put, List.getElem_toArray, List.getElem_cons_zero, List.getElem_cons_succ, List.setIfInBounds_toArray, List.set_cons_zero, List.set_cons_succ]
  refine wpAnyH_take (i := 3) (v := undef) rfl (by kernel_rfl) (by kernel_rfl) (by kernel_rfl) (fun _ _ _ h => h) (Or.inr ⟨by rfl, rfl⟩) hHeld ?_
  try simp only [Act.put, List.getElem_toArray, List.getElem_cons_zero, List.getElem_cons_succ, List.setIfInBounds_toArray, List.set_cons_zero, List.set_cons_succ]
  refine wpAnyH_take (i := 4) (v := undef) rfl (by kernel_rfl) (by kernel_rfl) (by kernel_rfl) (fun _ _ _ h => h) (Or.inr ⟨by rfl, rfl⟩) hHeld ?_
  try simp only [Act.put, List.getElem_toArray, List.getElem_cons_zero, List.getElem_cons_succ, List.setIfInBounds_toArray, List.set_cons_zero, List.set_cons_succ]
  refine wpAnyH_take (i := 5) (v := undef) rfl (by kernel_rfl) (by kernel_rfl) (by kernel_rfl) (fun _ _ _ h => h) (Or.inr ⟨by rfl, rfl⟩) hHeld ?_
  try simp only [Act.put, List.getElem_toArray, List.getElem_cons_zero, List.getElem_cons_succ, List.setIfInBounds_toArray, List.set_cons_zero, List.set_cons_succ]
  refine wpAnyH_take (i := 6) (v := undef) rfl (by kernel_rfl) (by kernel_rfl) (by kernel_rfl) (fun _ _ _ h => h) (Or.inr ⟨by rfl, rfl⟩) hHeld ?_
  try simp only [Act.put, List.getElem_toArray, List.getElem_cons_zero, List.getElem_cons_succ, List.setIfInBounds_toArray, List.set_cons_zero, List.set_cons_succ]
  refine wpAnyH_take (i := 7) (v := undef) rfl (by kernel_rfl) (by kernel_rfl) (by kernel_rfl) (fun _ _ _ h => h) (Or.inr ⟨by rfl, rfl⟩) hHeld ?_
  try simp only [Act.put, List.getElem_toArray, List.getElem_cons_zero, List.getElem_cons_succ, List.setIfInBounds_toArray, List.set_cons_zero, List.set_cons_succ]
  refine wpAnyH_take (i := 8) (v := undef) rfl (by kernel_rfl) (by kernel_rfl) (by kernel_rfl) (fun _ _ _ h => h) (Or.inr ⟨by rfl, rfl⟩) hHeld ?_
  try simp only [Act.put, List.getElem_toArray, List.getElem_cons_zero, List.getElem_cons_succ, List.setIfInBounds_toArray, List.set_cons_zero, List.set_cons_succ]
  refine wpAnyH_take (i := 9) (v := undef) rfl (by kernel_rfl) (by kernel_rfl) (by kernel_rfl) (fun _ _ _ h => h) (Or.inr ⟨by rfl, rfl⟩) hHeld ?_
  try simp only [Act.put, List.getElem_toArray, List.getElem_cons_zero, List.getElem_cons_succ, List.setIfInBounds_toArray, List.set_cons_zero, List.set_cons_succ]
  refine wpAnyH_take (i := 10) (v := ?_) rfl (by kernel_rfl) (by kernel_rfl) (by kernel_rfl) (fun _ _ _ h => h) (Or.inl ⟨by rfl, ?_⟩) hHeld ?_
  rotate_left
  · (intro wq hSw; (try dsimp only at hSw); (try obtain ⟨s0, s1, s2⟩ := hSw); (go_simp <;> with_reducible rfl))
  try simp only [Act.put, List.getElem_toArray, List.getElem_cons_zero, List.getElem_cons_succ, List.setIfInBounds_toArray, List.set_cons_zero, List.set_cons_succ]
  refine wpAnyH_done (by kernel_rfl) ?_ _
  refine NoPanic.normal ?_
  go_wp2_with fail
  have HZ := hide (door_of H4.out.1 rfl)
  refine leaves_cons (f := 29) (args := #[.pointer (some ⟨S.d, 0, none⟩)]) (by simp) (by simp [go_sem]) ?_
  refine (unlock_deferred muLib ⟨S.d, 0, none⟩ .returning _ ?_ ?_).mono ?_
  · exact HZ.out.1
  · exact HZ.out.2.1
  rintro e u' w'' ⟨rfl, rfl, rfl⟩
  exact ⟨_, results_tmp rfl _ _ _, rfl, HZ.out.2.2.1, H4.out.2.trans HZ.out.2.2.2⟩

set_option maxRecDepth 100000 in
set_option maxHeartbeats 1000000 in
theorem cut_high {B : Nat} {S : DS} (w : World) (h : Dk B w 0 S) (hoff : S.off = false) (x : Fi) (hx : x ∈ S.L) (hs : okN x.nm) (z : Int) (hn : (x.bs.length : Int) < z) :
    Calls Tryz.prog 33 #[.pointer (some ⟨S.d, 0, none⟩), .string x.nm, .int .i64 z] w fun e w' => e = .returned (.int .i64 105) ∧ Dk B w' 0 S ∧ Fr w (Fp S) w' (Fp S) := by
  have hb0 : Below w.heap.size w (w.alloc (.cells #[.int .i64 z] 3)) := (Below.refl _ _).alloc (Nat.le_refl _) _
  have h0 := h.below hb0
  have l1 := h0.cell 0 (.int .i32 0) rfl
  have l2 := frozen_of h0.dk 0
  have HN : Hid (¬ Fp S w.heap.size) := fp_new h _ (Nat.le_refl _)
  have hf0 : Fr w (Fp S) ((w.alloc (.cells #[.int .i64 z] 3)).setCell ⟨S.d, 0, none⟩ (.int .i32 1)) (Fp S) := (Fr.of_below hb0).trans (Fr.setCell (.inl rfl) _)
  have HE : Hid (Dk B ((w.alloc (.cells #[.int .i64 z] 3)).setCell ⟨S.d, 0, none⟩ (.int .i32 1)) 1 S ∧ Fr w (Fp S) ((w.alloc (.cells #[.int .i64 z] 3)).setCell ⟨S.d, 0, none⟩ (.int .i32 1)) (Fp S) ∧ ((w.alloc (.cells #[.int .i64 z] 3)).setCell ⟨S.d, 0, none⟩ (.int .i32 1)).cell? ⟨w.heap.size, 0, none⟩ = some (.int .i64 z)) := ⟨h0.setLock 1, hf0, (Fr.setCell (w := (w.alloc (.cells #[.int .i64 z] 3))) (F := Fp S) (a := ⟨S.d, 0, none⟩) (.inl rfl) _).cell (a := ⟨w.heap.size, 0, none⟩) HN.out (by simp)⟩
  have HFI : Hid (∀ w2, Dk B w2 1 S → Calls Tryz.prog 51 #[.pointer (some ⟨S.d, 0, none⟩), .string x.nm] w2 fun e w' => e = .returned (.tuple #[.pointer (some ⟨x.f, 0, none⟩), .int .i64 0]) ∧ Below w2.heap.size w2 w') := fun w2 h2 => find_ok w2 h2 hoff x hx hs
  have HX := hide hx
  obtain ⟨nb, hnb⟩ : ∃ nb, x.bs.length = nb := ⟨_, rfl⟩
  obtain ⟨p, cap, hv⟩ := h.fslice hx
  rw [hnb] at hv
  have HV := hide hv
  rw [hnb] at hn
  have hn1 : decide (z < 0) = false := by simp; omega
  have hn2 : decide ((nb : Int) < z) = true := by simp; omega
  clear h hs h0 hf0 hb0 hv hx hnb
  go_enter_defers Tryz.func33, Tryz.ntmps33
  go_upto_region 6 with (first | (go_at_call 28; refine (lock_free muLib ⟨S.d, 0, none⟩ _ l1 l2).mono ?_; rintro e w2 ⟨rfl, hw2⟩; have H2 : Hid (Dk B w2 1 S ∧ Fr w (Fp S) w2 (Fp S) ∧ w2.cell? ⟨w.heap.size, 0, none⟩ = some (.int .i64 z)) := (by rw [hw2]; exact HE.out); clear hw2 l1 l2) | (go_at_call 51; refine (HFI.out _ H2.out.1).mono ?_; rintro e w3 ⟨rfl, hB3⟩; have H3 : Hid (Dk B w3 1 S ∧ Fr w (Fp S) w3 (Fp S) ∧ w3.cell? ⟨w.heap.size, 0, none⟩ = some (.int .i64 z)) := ⟨H2.out.1.below hB3, H2.out.2.1.trans (Fr.of_below hB3), (by rw [hB3.cell (p := ⟨w.heap.size, 0, none⟩) (World.block_lt_of_cell? _ _ H2.out.2.2)]; exact H2.out.2.2)⟩; clear hB3))
  have hba : Below w3.heap.size w3 (w3.alloc (.cells #[.pointer (some ⟨x.f, 0, none⟩)] 80)).drew := ((Below.refl _ _).alloc (Nat.le_refl _) _).drew
  have q1 : (w3.alloc (.cells #[.pointer (some ⟨x.f, 0, none⟩)] 80)).drew.cell? ⟨w.heap.size, 0, none⟩ = some (.int .i64 z) := by rw [hba.cell (p := ⟨w.heap.size, 0, none⟩) (World.block_lt_of_cell? _ _ H3.out.2.2)]; exact H3.out.2.2
  have q2 : (w3.alloc (.cells #[.pointer (some ⟨x.f, 0, none⟩)] 80)).drew.cell? ⟨w3.heap.size, 0, none⟩ = some (.pointer (some ⟨x.f, 0, none⟩)) := by show (w3.alloc _).cell? _ = _; simp
  have q3 : (w3.alloc (.cells #[.pointer (some ⟨x.f, 0, none⟩)] 80)).drew.cell? ⟨x.f, 0, none⟩ = some (.slice p nb cap) := by rw [← HV.out]; exact (H3.out.1.below hba).fcell HX.out
  have H4 := hide (And.intro (H3.out.1.below hba) (H3.out.2.1.trans (Fr.of_below hba)))
  clear hba
  refine wp_region_noPanic ?_
  refine wp_region_held_drew (S := fun w' => w'.cell? ⟨w.heap.size, 0, none⟩ = some (.int .i64 z) ∧ w'.cell? ⟨w3.heap.size, 0, none⟩ = some (.pointer (some ⟨x.f, 0, none⟩)) ∧ w'.cell? ⟨x.f, 0, none⟩ = some (.slice p nb cap)) (by kernel_rfl) ⟨q1, q2, q3⟩ (fun hHeld => ?_)
  refine wpAnyH_take (i := 0) (v := ?_) rfl (by kernel_rfl) (by kernel_rfl) (by kernel_rfl) (fun _ _ _ h => h) (Or.inl ⟨by rfl, ?_⟩) hHeld ?_
  rotate_left
  · (intro wq hSw; (try dsimp only at hSw); (try obtain ⟨s0, s1, s2⟩ := hSw); (go_simp <;> with_reducible rfl))
  try simp only [Act.put, List.getElem_toArray, List.getElem_cons_zero, List.getElem_cons_succ, List.setIfInBounds_toArray, List.set_cons_zero, List.set_cons_succ]
  refine wpAnyH_take (i := 1) (v := ?_) rfl (by kernel_rfl) (by kernel_rfl) (by kernel_rfl) (fun _ _ _ h => h) (Or.inl ⟨by rfl, ?_⟩) hHeld ?_
  rotate_left
  · (intro wq hSw; (try dsimp only at hSw); (try obtain ⟨s0, s1, s2⟩ := hSw); (go_simp <;> with_reducible rfl))
  try simp only [Act.put, List.getElem_toArray, List.getElem_cons_zero, List.getElem_cons_succ, List.setIfInBounds_toArray, List.set_cons_zero, List.set_cons_succ]
  refine wpAnyH_take (i := 2) (v := ?_) rfl (by kernel_rfl) (by kernel_rfl) (by kernel_rfl) (fun _ _ _ h => h) (Or.inl ⟨by rfl, ?_⟩) hHeld ?_
  rotate_left
  · (intro wq hSw; (try dsimp only at hSw); (try obtain ⟨s0, s1, s2⟩ := hSw); (go_simp <;> with_reducible rfl))
  try simp only [Act.put, List.getElem_toArray, List.getElem_cons_zero, List.getElem_cons_succ, List.setIfInBounds_toArray, List.set_cons_zero, List.set_cons_succ]
  refine wpAnyH_take (i := 3) (v := ?_) rfl (by kernel_rfl) (by kernel_rfl) (by kernel_rfl) (fun _ _ _ h => h) (Or.inl ⟨by rfl, ?_⟩) hHeld ?_
  rotate_left
  · (intro wq hSw; (try dsimp only at hSw); (try obtain ⟨s0, s1, s2⟩ := hSw); (go_simp <;> with_reducible rfl))
  try simp only [Act.put, List.getElem_toArray, List.getElem_cons_zero, List.getElem_cons_succ, List.setIfInBounds_toArray, List.set_cons_zero, List.set_cons_succ]
  refine wpAnyH_take (i := 4) (v := ?_) rfl (by kernel_rfl) (by kernel_rfl) (by kernel_rfl) (fun _ _ _ h => h) (Or.inl ⟨by rfl, ?_⟩) hHeld ?_
  rotate_left
  · (intro wq hSw; (try dsimp only at hSw); (try obtain ⟨s0, s1, s2⟩ := hSw); (go_simp <;> with_reducible rfl))
  try simp only [Act.put, List.getElem_toArray, List.getElem_cons_zero, List.getElem_cons_succ, List.setIfInBounds_toArray, List.set_cons_zero, List.set_cons_succ]
  refine wpAnyH_take (i := 5) (v := ?_) rfl (by kernel_rfl) (by kernel_rfl) (by kernel_rfl) (fun _ _ _ h => h) (Or.inl ⟨by rfl, ?_⟩) hHeld ?_
  rotate_left
  · (intro wq hSw; (try dsimp only at hSw); (try obtain ⟨s0, s1, s2⟩ := hSw); (go_simp <;> with_reducible rfl))
  try simp only [Act.put, List.getElem_toArray, List.getElem_cons_zero, List.getElem_cons_succ, List.setIfInBounds_toArray, List.set_cons_zero, List.set_cons_succ]
  refine wpAnyH_take (i := 6) (v := ?_) rfl (by kernel_rfl) (by kernel_rfl) (by kernel_rfl) (fun _ _ _ h => h) (Or.inl ⟨by rfl, ?_⟩) hHeld ?_
  rotate_left
  · (intro wq hSw; (try dsimp only at hSw); (try obtain ⟨s0, s1, s2⟩ := hSw); (go_simp <;> with_reducible rfl))
  try simp only [Act.put, List.getElem_toArray, List.getElem_cons_zero, List.getElem_cons_succ, List.setIfInBounds_toArray, List.set_cons_zero, List.set_cons_succ]
  refine wpAnyH_take (i := 7) (v := ?_) rfl (by kernel_rfl) (by kernel_rfl) (by kernel_rfl) (fun _ _ _ h => h) (Or.inl ⟨by rfl, ?_⟩) hHeld ?_
  rotate_left
  · (intro wq hSw; (try dsimp only at hSw); (try obtain ⟨s0, s1, s2⟩ := hSw); (go_simp <;> with_reducible rfl))
  try simp only [Act.put, List.getElem_toArray, List.getElem_cons_zero, List.getElem_cons_succ, List.setIfInBounds_toArray, List.set_cons_zero, List.set_cons_succ]
  refine wpAnyH_take (i := 8) (v := ?_) rfl (by kernel_rfl) (by kernel_rfl) (by kernel_rfl) (fun _ _ _ h => h) (Or.inl ⟨by rfl, ?_⟩) hHeld ?_
  rotate_left
  · (intro wq hSw; (try dsimp only at hSw); (try obtain ⟨s0, s1, s2⟩ := hSw); (go_simp <;> with_reducible rfl))
  try simp only [Act.put, List.getElem_toArray, List.getElem_cons_zero, List.getElem_cons_succ, List.setIfInBounds_toArray, List.set_cons_zero, List.set_cons_succ]
  refine wpAnyH_take (i := 9) (v := ?_) rfl (by kernel_rfl) (by kernel_rfl) (by kernel_rfl) (fun _ _ _ h => h) (Or.inl ⟨by rfl, ?_⟩) hHeld ?_
  rotate_left
  · (intro wq hSw; (try dsimp only at hSw); (try obtain ⟨s0, s1, s2⟩ := hSw); (go_simp <;> with_reducible rfl))
  try simp only [Act.put, List.getElem_toArray, List.getElem_cons_zero, List.getElem_cons_succ, List.setIfInBounds_toArray, List.set_cons_zero, List.set_cons_succ]
  refine wpAnyH_take (i := 10) (v := ?_) rfl (by kernel_rfl) (by kernel_rfl) (by kernel_rfl) (fun _ _ _ h => h) (Or.inl ⟨by rfl, ?_⟩) hHeld ?_
  rotate_left
  · (intro wq hSw; (try dsimp only at hSw); (try obtain ⟨s0, s1, s2⟩ := hSw); (go_simp <;> with_reducible rfl))
  try simp only [Act.put, List.getElem_toArray, List.getElem_cons_zero, List.getElem_cons_succ, List.setIfInBounds_toArray, List.set_cons_zero, List.set_cons_succ]
  refine wpAnyH_done (by kernel_rfl) ?_ _
  refine NoPanic.normal ?_
  go_wp2_with fail
  have HZ := hide (door_of H4.out.1 rfl)
  refine leaves_cons (f := 29) (args := #[.pointer (some ⟨S.d, 0, none⟩)]) (by simp) (by simp [go_sem]) ?_
  refine (unlock_deferred muLib ⟨S.d, 0, none⟩ .returning _ ?_ ?_).mono ?_
  · exact HZ.out.1
  · exact HZ.out.2.1
  rintro e u' w'' ⟨rfl, rfl, rfl⟩
  exact ⟨_, results_tmp rfl _ _ _, rfl, HZ.out.2.2.1, H4.out.2.trans HZ.out.2.2.2⟩

/-- What Cut tells and leaves. -/
def CutR (p : PS) (nm : ByteArray) (z : Int) (c : Int) (p' : PS) : Prop := (FindC p nm c ∧ p' = p) ∨ (p.off = false ∧ okN nm ∧ ∃ bs su, (nm, bs, su) ∈ p.con ∧ (¬ (0 ≤ z ∧ z ≤ (bs.length : Int)) ∧ c = 105 ∧ p' = p ∨ (0 ≤ z ∧ z ≤ (bs.length : Int)) ∧ c = p.code ∧ p' = p.wrote (cutF nm z.toNat)))

theorem cut_all {B : Nat} {S : DS} (w : World) (h : Dk B w 0 S) (nm : ByteArray) (hz : nm.size ≤ 140737488355328) (z : Int) (hA : S.ps.arms) (hwr : S.wr ≤ 1000000000) :
    Calls Tryz.prog 33 #[.pointer (some ⟨S.d, 0, none⟩), .string nm, .int .i64 z] w fun e w' => ∃ (c : Int) (S' : DS), e = .returned (.int .i64 c) ∧ S'.d = S.d ∧ CutR S.ps nm z c S'.ps ∧ Dk B w' 0 S' ∧ Fr w (Fp S) w' (Fp S') := by
  by_cases hk : S.off = false ∧ okN nm ∧ ∃ x ∈ S.L, x.nm = nm
  · obtain ⟨ho, hs, x, hx, rfl⟩ := hk
    by_cases hr : 0 ≤ z ∧ z ≤ (x.bs.length : Int)
    · obtain ⟨n, rfl⟩ : ∃ n : Nat, z = (n : Int) := ⟨z.toNat, by omega⟩
      refine (cutW_any w h ho hA hwr x hx hs n (by omega)).mono ?_
      rintro e w' ⟨rfl, S', e1, e2, e3, e4⟩
      exact ⟨_, S', rfl, e1, .inr ⟨ho, hs, x.bs, x.su, con_mem hx, .inr ⟨hr, rfl, by rw [Int.toNat_natCast]; exact e2⟩⟩, e3, e4⟩
    · by_cases hl : z < 0
      · refine (cut_low w h ho x hx hs z hl).mono ?_
        rintro e w' ⟨rfl, e3, e4⟩
        exact ⟨105, S, rfl, rfl, .inr ⟨ho, hs, x.bs, x.su, con_mem hx, .inl ⟨hr, rfl, rfl⟩⟩, e3, e4⟩
      · refine (cut_high w h ho x hx hs z (by omega)).mono ?_
        rintro e w' ⟨rfl, e3, e4⟩
        exact ⟨105, S, rfl, rfl, .inr ⟨ho, hs, x.bs, x.su, con_mem hx, .inl ⟨hr, rfl, rfl⟩⟩, e3, e4⟩
  · refine (cut_none w h z nm hz hk).mono ?_
    rintro e w' ⟨⟨c, rfl, hc⟩, e3, e4⟩
    exact ⟨c, S, rfl, rfl, .inl ⟨hc, rfl⟩, e3, e4⟩

end Go.Proofs.YtlandfghodfjdaaGreat

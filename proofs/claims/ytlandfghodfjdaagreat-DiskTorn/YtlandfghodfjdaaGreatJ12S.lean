/- Rename refused; Cut of no file; what Sync, Remove, Rename tell and leave. -/
import Derived.Test.YtlandfghodfjdaaGreatJ12Q
/- Remove, Rename of a file that is there, whatever is armed. -/
namespace Go.Proofs.YtlandfghodfjdaaGreat
open Go.RowKit
open Go.MuLone (lock_free unlock_deferred run_callFunc_enter)
set_option linter.unusedVariables false
set_option linter.unusedSimpArgs false

set_option maxRecDepth 100000 in
theorem removeW_any {B : Nat} {S : DS} (w : World) (h : Dk B w 0 S) (hoff : S.off = false) (hA : S.ps.arms) (hwr : S.wr ≤ 1000000000) (x : Fi) (hx : x ∈ S.L) (hs : okN x.nm) :
    Calls Tryz.prog 35 #[.pointer (some ⟨S.d, 0, none⟩), .string x.nm] w fun e w' => e = .returned (.int .i64 S.ps.code) ∧ ∃ S' : DS, S'.d = S.d ∧ S'.ps = S.ps.wrote (removeF x.nm) ∧ Dk B w' 0 S' ∧ Fr w (Fp S) w' (Fp S') := by
  have hmf : ∀ (fn : Fn) (first cap : Array Value) (w : World), (Instr.makeFunc fn first cap).run Tryz.prog w = .ok (.func fn first cap) w := fun _ _ _ _ => rfl
  have hb0 : Below w.heap.size w ((w.alloc (.cells #[.pointer (some ⟨S.d, 0, none⟩)] 27)).alloc (.cells #[.string x.nm] 9)) := (((Below.refl _ _).alloc (Nat.le_refl _) _).alloc (by simp <;> omega) _)
  have a0 : ((w.alloc (.cells #[.pointer (some ⟨S.d, 0, none⟩)] 27)).alloc (.cells #[.string x.nm] 9)).heap[w.heap.size]? = some (.cells #[.pointer (some ⟨S.d, 0, none⟩)] 27 (0, 0)) := (new_kept (heap_alloc_new w _) _)
  have a1 : ((w.alloc (.cells #[.pointer (some ⟨S.d, 0, none⟩)] 27)).alloc (.cells #[.string x.nm] 9)).heap[w.heap.size + 1]? = some (.cells #[.string x.nm] 9 (0, 0)) := (by have := heap_alloc_new (w.alloc (.cells #[.pointer (some ⟨S.d, 0, none⟩)] 27)) (.cells #[.string x.nm] 9); simpa using this)
  have h0 := h.below hb0
  have l1 := h0.cell 0 (.int .i32 0) rfl
  have l2 := frozen_of h0.dk 0
  have hd := heap_lt h.dk
  have HE : Hid (Dk B (((w.alloc (.cells #[.pointer (some ⟨S.d, 0, none⟩)] 27)).alloc (.cells #[.string x.nm] 9)).setCell ⟨S.d, 0, none⟩ (.int .i32 1)) 1 S ∧ Fr w (Fp S) (((w.alloc (.cells #[.pointer (some ⟨S.d, 0, none⟩)] 27)).alloc (.cells #[.string x.nm] 9)).setCell ⟨S.d, 0, none⟩ (.int .i32 1)) (Fp S) ∧ (((w.alloc (.cells #[.pointer (some ⟨S.d, 0, none⟩)] 27)).alloc (.cells #[.string x.nm] 9)).setCell ⟨S.d, 0, none⟩ (.int .i32 1)).cell? ⟨w.heap.size, 0, none⟩ = some (.pointer (some ⟨S.d, 0, none⟩)) ∧ (((w.alloc (.cells #[.pointer (some ⟨S.d, 0, none⟩)] 27)).alloc (.cells #[.string x.nm] 9)).setCell ⟨S.d, 0, none⟩ (.int .i32 1)).cell? ⟨w.heap.size + 1, 0, none⟩ = some (.string x.nm)) := ⟨h0.setLock 1, (Fr.of_below hb0).trans (Fr.setCell (.inl rfl) _), by rw [World.cell?_setCell_other _ _ _ _ (fun e => by injection e; omega), cell_of_row _ _ _ _ _ _ a0]; rfl, by rw [World.cell?_setCell_other _ _ _ _ (fun e => by injection e; omega), cell_of_row _ _ _ _ _ _ a1]; rfl⟩
  have hnf := fun k (hk : w.heap.size ≤ k) => fp_new h k hk
  have HFI : Hid (∀ w2, Dk B w2 1 S → Calls Tryz.prog 51 #[.pointer (some ⟨S.d, 0, none⟩), .string x.nm] w2 fun e w' => e = .returned (.tuple #[.pointer (some ⟨x.f, 0, none⟩), .int .i64 0]) ∧ Below w2.heap.size w2 w') := fun w2 h2 => find_ok w2 h2 hoff x hx hs
  have HW : Hid (∀ w3, (Dk B w3 1 S ∧ Fr w (Fp S) w3 (Fp S) ∧ w3.cell? ⟨w.heap.size, 0, none⟩ = some (.pointer (some ⟨S.d, 0, none⟩)) ∧ w3.cell? ⟨w.heap.size + 1, 0, none⟩ = some (.string x.nm)) → Calls Tryz.prog 49 #[.pointer (some ⟨S.d, 0, none⟩), .func (.func 62) #[] #[.pointer (some ⟨w.heap.size, 0, none⟩), .pointer (some ⟨w.heap.size + 1, 0, none⟩)]] w3 fun e w' => e = .returned (.int .i64 S.ps.code) ∧ ∃ S' : DS, S'.d = S.d ∧ S'.ps = S.ps.wrote (removeF x.nm) ∧ Dk B w' 1 S' ∧ Fr w (Fp S) w' (Fp S')) := fun w3 H3 => by
    refine (write_any (f := removeF x.nm) H3.1 hA hwr (fun args w => run_callFunc_enter Tryz.func62 (by kernel_rfl) rfl args w) (fun kp a b w1 k1 k2 k3 k4 => ?_)).mono ?_
    · exact removeG_any (S := { S with ain := a, wr := b }) w1 k3 x hx kp w.heap.size (w.heap.size + 1) (hnf _ (Nat.le_refl _)) (hnf _ (by omega)) (k4.cell (a := ⟨w.heap.size, 0, none⟩) (hnf _ (Nat.le_refl _)) H3.2.2.1) (k4.cell (a := ⟨w.heap.size + 1, 0, none⟩) (hnf (w.heap.size + 1) (by omega)) H3.2.2.2)
    · rintro e w' ⟨rfl, S', e1, e2, e3, e4⟩
      exact ⟨rfl, S', e1, e2, e3, H3.2.1.trans e4⟩
  clear h hb0 h0 a0 a1 hs hx
  go_enter_defers Tryz.func35, Tryz.ntmps35
  go_wp2_with (first | (go_at_call 28; refine (lock_free muLib ⟨S.d, 0, none⟩ _ l1 l2).mono ?_; rintro e w2 ⟨rfl, hw2⟩; have H2 : Hid (Dk B w2 1 S ∧ Fr w (Fp S) w2 (Fp S) ∧ w2.cell? ⟨w.heap.size, 0, none⟩ = some (.pointer (some ⟨S.d, 0, none⟩)) ∧ w2.cell? ⟨w.heap.size + 1, 0, none⟩ = some (.string x.nm)) := (by rw [hw2]; exact HE.out); obtain ⟨_, _, b0, b1⟩ := H2.out; clear hw2 l1 l2) | (go_at_call 51; refine (HFI.out _ H2.out.1).mono ?_; rintro e w3 ⟨rfl, hB3⟩; have H3 : Hid (Dk B w3 1 S ∧ Fr w (Fp S) w3 (Fp S) ∧ w3.cell? ⟨w.heap.size, 0, none⟩ = some (.pointer (some ⟨S.d, 0, none⟩)) ∧ w3.cell? ⟨w.heap.size + 1, 0, none⟩ = some (.string x.nm)) := ⟨H2.out.1.below hB3, H2.out.2.1.trans (Fr.of_below hB3), (by rw [(hB3).cell (p := ⟨w.heap.size, 0, none⟩) (World.block_lt_of_cell? _ _ H2.out.2.2.1)]; exact H2.out.2.2.1), (by rw [(hB3).cell (p := ⟨w.heap.size + 1, 0, none⟩) (World.block_lt_of_cell? _ _ H2.out.2.2.2)]; exact H2.out.2.2.2)⟩; obtain ⟨_, _, b4, b5⟩ := H3.out; clear hB3) | (go_at_call 49; refine (HW.out _ H3.out).mono ?_; rintro e w5 ⟨rfl, hR⟩; have H5 := hide hR; clear hR))
  obtain ⟨S5, e1, e2, e3, e4⟩ := H5.out
  have HZ := hide (door_of e3 e1)
  refine leaves_cons (f := 29) (args := #[.pointer (some ⟨S.d, 0, none⟩)]) (by simp) (by simp [go_sem]) ?_
  refine (unlock_deferred muLib ⟨S.d, 0, none⟩ .returning _ ?_ ?_).mono ?_
  · exact HZ.out.1
  · exact HZ.out.2.1
  rintro e u' w'' ⟨rfl, rfl, rfl⟩
  exact ⟨_, results_tmp rfl _ _ _, rfl, S5, e1, e2, HZ.out.2.2.1, e4.trans HZ.out.2.2.2⟩

set_option maxRecDepth 100000 in
set_option maxHeartbeats 1000000 in
theorem renameW_any {B : Nat} {S : DS} (w : World) (h : Dk B w 0 S) (hoff : S.off = false) (hA : S.ps.arms) (hwr : S.wr ≤ 1000000000) (x : Fi) (hx : x ∈ S.L) (hs : okN x.nm) (tn : ByteArray) (ht : okN tn) :
    Calls Tryz.prog 34 #[.pointer (some ⟨S.d, 0, none⟩), .string x.nm, .string tn] w fun e w' => e = .returned (.int .i64 S.ps.code) ∧ ∃ S' : DS, S'.d = S.d ∧ S'.ps = S.ps.wrote (renameF x.nm tn) ∧ Dk B w' 0 S' ∧ Fr w (Fp S) w' (Fp S') := by
  have hmf : ∀ (fn : Fn) (first cap : Array Value) (w : World), (Instr.makeFunc fn first cap).run Tryz.prog w = .ok (.func fn first cap) w := fun _ _ _ _ => rfl
  have hb0 : Below w.heap.size w (((w.alloc (.cells #[.pointer (some ⟨S.d, 0, none⟩)] 27)).alloc (.cells #[.string x.nm] 9)).alloc (.cells #[.string tn] 9)) := ((((Below.refl _ _).alloc (Nat.le_refl _) _).alloc (by simp <;> omega) _).alloc (by simp <;> omega) _)
  have a0 : (((w.alloc (.cells #[.pointer (some ⟨S.d, 0, none⟩)] 27)).alloc (.cells #[.string x.nm] 9)).alloc (.cells #[.string tn] 9)).heap[w.heap.size]? = some (.cells #[.pointer (some ⟨S.d, 0, none⟩)] 27 (0, 0)) := (new_kept (new_kept (heap_alloc_new w _) _) _)
  have a1 : (((w.alloc (.cells #[.pointer (some ⟨S.d, 0, none⟩)] 27)).alloc (.cells #[.string x.nm] 9)).alloc (.cells #[.string tn] 9)).heap[w.heap.size + 1]? = some (.cells #[.string x.nm] 9 (0, 0)) := (new_kept (by have := heap_alloc_new (w.alloc (.cells #[.pointer (some ⟨S.d, 0, none⟩)] 27)) (.cells #[.string x.nm] 9); simpa using this) _)
  have a2 : (((w.alloc (.cells #[.pointer (some ⟨S.d, 0, none⟩)] 27)).alloc (.cells #[.string x.nm] 9)).alloc (.cells #[.string tn] 9)).heap[w.heap.size + 2]? = some (.cells #[.string tn] 9 (0, 0)) := (by have := heap_alloc_new ((w.alloc (.cells #[.pointer (some ⟨S.d, 0, none⟩)] 27)).alloc (.cells #[.string x.nm] 9)) (.cells #[.string tn] 9); simpa using this)
  have h0 := h.below hb0
  have l1 := h0.cell 0 (.int .i32 0) rfl
  have l2 := frozen_of h0.dk 0
  have hd := heap_lt h.dk
  have HE : Hid (Dk B ((((w.alloc (.cells #[.pointer (some ⟨S.d, 0, none⟩)] 27)).alloc (.cells #[.string x.nm] 9)).alloc (.cells #[.string tn] 9)).setCell ⟨S.d, 0, none⟩ (.int .i32 1)) 1 S ∧ Fr w (Fp S) ((((w.alloc (.cells #[.pointer (some ⟨S.d, 0, none⟩)] 27)).alloc (.cells #[.string x.nm] 9)).alloc (.cells #[.string tn] 9)).setCell ⟨S.d, 0, none⟩ (.int .i32 1)) (Fp S) ∧ ((((w.alloc (.cells #[.pointer (some ⟨S.d, 0, none⟩)] 27)).alloc (.cells #[.string x.nm] 9)).alloc (.cells #[.string tn] 9)).setCell ⟨S.d, 0, none⟩ (.int .i32 1)).cell? ⟨w.heap.size, 0, none⟩ = some (.pointer (some ⟨S.d, 0, none⟩)) ∧ ((((w.alloc (.cells #[.pointer (some ⟨S.d, 0, none⟩)] 27)).alloc (.cells #[.string x.nm] 9)).alloc (.cells #[.string tn] 9)).setCell ⟨S.d, 0, none⟩ (.int .i32 1)).cell? ⟨w.heap.size + 1, 0, none⟩ = some (.string x.nm) ∧ ((((w.alloc (.cells #[.pointer (some ⟨S.d, 0, none⟩)] 27)).alloc (.cells #[.string x.nm] 9)).alloc (.cells #[.string tn] 9)).setCell ⟨S.d, 0, none⟩ (.int .i32 1)).cell? ⟨w.heap.size + 2, 0, none⟩ = some (.string tn)) := ⟨h0.setLock 1, (Fr.of_below hb0).trans (Fr.setCell (.inl rfl) _), by rw [World.cell?_setCell_other _ _ _ _ (fun e => by injection e; omega), cell_of_row _ _ _ _ _ _ a0]; rfl, by rw [World.cell?_setCell_other _ _ _ _ (fun e => by injection e; omega), cell_of_row _ _ _ _ _ _ a1]; rfl, by rw [World.cell?_setCell_other _ _ _ _ (fun e => by injection e; omega), cell_of_row _ _ _ _ _ _ a2]; rfl⟩
  have hnf := fun k (hk : w.heap.size ≤ k) => fp_new h k hk
  have HRF : Hid (∀ w2, Dk B w2 1 S → Calls Tryz.prog 48 #[.pointer (some ⟨S.d, 0, none⟩), .slice (some ⟨w2.heap.size, 0, none⟩) 2 2] (w2.alloc (.cells #[.string x.nm, .string tn] 9)) fun e w' => e = .returned (.int .i64 0) ∧ w' = w2.alloc (.cells #[.string x.nm, .string tn] 9)) := fun w2 h2 => by
    have hh := heap_alloc_new w2 (.cells #[.string x.nm, .string tn] 9)
    refine (refusal2_any _ (h2.below ((Below.refl _ _).alloc (Nat.le_refl _) _)) x.nm (by have := hs.2.1; omega) tn (by have := ht.2.1; omega) w2.heap.size (by rw [cell_of_row _ _ _ _ _ _ hh]; rfl) (by rw [cell_of_row _ _ _ _ _ _ hh]; rfl)).mono ?_
    rintro e w' ⟨⟨c, rfl, hc⟩, rfl⟩
    rcases hc with ⟨e, _⟩ | ⟨_, ⟨s, hs1, hs2⟩, _⟩ | ⟨_, _, rfl⟩
    · rw [hoff] at e; simp at e
    · rcases List.mem_cons.1 hs1 with rfl | hs1
      · exact absurd hs hs2
      · rw [List.mem_singleton.1 hs1] at hs2; exact absurd ht hs2
    · exact ⟨rfl, rfl⟩
  have HFI : Hid (∀ w2, Dk B w2 1 S → Calls Tryz.prog 51 #[.pointer (some ⟨S.d, 0, none⟩), .string x.nm] w2 fun e w' => e = .returned (.tuple #[.pointer (some ⟨x.f, 0, none⟩), .int .i64 0]) ∧ Below w2.heap.size w2 w') := fun w2 h2 => find_ok w2 h2 hoff x hx hs
  have HW : Hid (∀ w4, (Dk B w4 1 S ∧ Fr w (Fp S) w4 (Fp S) ∧ w4.cell? ⟨w.heap.size, 0, none⟩ = some (.pointer (some ⟨S.d, 0, none⟩)) ∧ w4.cell? ⟨w.heap.size + 1, 0, none⟩ = some (.string x.nm) ∧ w4.cell? ⟨w.heap.size + 2, 0, none⟩ = some (.string tn)) → Calls Tryz.prog 49 #[.pointer (some ⟨S.d, 0, none⟩), .func (.func 60) #[] #[.pointer (some ⟨w.heap.size, 0, none⟩), .pointer (some ⟨w.heap.size + 1, 0, none⟩), .pointer (some ⟨w.heap.size + 2, 0, none⟩), .pointer (some ⟨w4.heap.size, 0, none⟩)]] (w4.alloc (.cells #[.pointer (some ⟨x.f, 0, none⟩)] 80)) fun e w' => e = .returned (.int .i64 S.ps.code) ∧ ∃ S' : DS, S'.d = S.d ∧ S'.ps = S.ps.wrote (renameF x.nm tn) ∧ Dk B w' 1 S' ∧ Fr w (Fp S) w' (Fp S')) := fun w4 H4 => by
    have hb : Below w4.heap.size w4 (w4.alloc (.cells #[.pointer (some ⟨x.f, 0, none⟩)] 80)) := (Below.refl _ _).alloc (Nat.le_refl _) _
    have hs4 : w.heap.size ≤ w4.heap.size := H4.2.1.size
    have hn4 : ¬ Fp S w4.heap.size := fp_new H4.1 _ (Nat.le_refl _)
    have q4 : (w4.alloc (.cells #[.pointer (some ⟨x.f, 0, none⟩)] 80)).cell? ⟨w4.heap.size, 0, none⟩ = some (.pointer (some ⟨x.f, 0, none⟩)) := by simp
    refine (write_any (f := renameF x.nm tn) (H4.1.below hb) hA hwr (fun args w => run_callFunc_enter Tryz.func60 (by kernel_rfl) rfl args w) (fun kp a b w1 k1 k2 k3 k4 => ?_)).mono ?_
    · refine renameG_any (S := { S with ain := a, wr := b }) w1 k3 x hx tn (by have := ht.2.1; omega) kp w.heap.size (w.heap.size + 1) (w.heap.size + 2) w4.heap.size (hnf _ (Nat.le_refl _)) (hnf _ (by omega)) (hnf _ (by omega)) hn4 (k4.cell (a := ⟨w.heap.size, 0, none⟩) (hnf _ (Nat.le_refl _)) ?_) (k4.cell (a := ⟨w.heap.size + 1, 0, none⟩) (hnf (w.heap.size + 1) (by omega)) ?_) (k4.cell (a := ⟨w.heap.size + 2, 0, none⟩) (hnf (w.heap.size + 2) (by omega)) ?_) (k4.cell (a := ⟨w4.heap.size, 0, none⟩) hn4 q4)
      · rw [hb.cell (p := ⟨w.heap.size, 0, none⟩) (World.block_lt_of_cell? _ _ H4.2.2.1)]; exact H4.2.2.1
      · rw [hb.cell (p := ⟨w.heap.size + 1, 0, none⟩) (World.block_lt_of_cell? _ _ H4.2.2.2.1)]; exact H4.2.2.2.1
      · rw [hb.cell (p := ⟨w.heap.size + 2, 0, none⟩) (World.block_lt_of_cell? _ _ H4.2.2.2.2)]; exact H4.2.2.2.2
    · rintro e w' ⟨rfl, S', e1, e2, e3, e4⟩
      exact ⟨rfl, S', e1, e2, e3, (H4.2.1.trans (Fr.of_below hb)).trans e4⟩
  clear h hb0 h0 a0 a1 a2 hs hx ht
  go_enter_defers Tryz.func34, Tryz.ntmps34
  go_wp2_with (first | (go_at_call 28; refine (lock_free muLib ⟨S.d, 0, none⟩ _ l1 l2).mono ?_; rintro e w2 ⟨rfl, hw2⟩; have H2 : Hid (Dk B w2 1 S ∧ Fr w (Fp S) w2 (Fp S) ∧ w2.cell? ⟨w.heap.size, 0, none⟩ = some (.pointer (some ⟨S.d, 0, none⟩)) ∧ w2.cell? ⟨w.heap.size + 1, 0, none⟩ = some (.string x.nm) ∧ w2.cell? ⟨w.heap.size + 2, 0, none⟩ = some (.string tn)) := (by rw [hw2]; exact HE.out); obtain ⟨_, _, b0, b1, b2⟩ := H2.out; clear hw2 l1 l2) | (go_at_call 48; refine (HRF.out _ H2.out.1).mono ?_; rintro e w3 ⟨rfl, hw3⟩; have hB3 : Below w2.heap.size w2 w3 := (by rw [hw3]; exact (Below.refl _ _).alloc (Nat.le_refl _) _); have H3 : Hid (Dk B w3 1 S ∧ Fr w (Fp S) w3 (Fp S) ∧ w3.cell? ⟨w.heap.size, 0, none⟩ = some (.pointer (some ⟨S.d, 0, none⟩)) ∧ w3.cell? ⟨w.heap.size + 1, 0, none⟩ = some (.string x.nm) ∧ w3.cell? ⟨w.heap.size + 2, 0, none⟩ = some (.string tn)) := ⟨H2.out.1.below hB3, H2.out.2.1.trans (Fr.of_below hB3), (by rw [(hB3).cell (p := ⟨w.heap.size, 0, none⟩) (World.block_lt_of_cell? _ _ H2.out.2.2.1)]; exact H2.out.2.2.1), (by rw [(hB3).cell (p := ⟨w.heap.size + 1, 0, none⟩) (World.block_lt_of_cell? _ _ H2.out.2.2.2.1)]; exact H2.out.2.2.2.1), (by rw [(hB3).cell (p := ⟨w.heap.size + 2, 0, none⟩) (World.block_lt_of_cell? _ _ H2.out.2.2.2.2)]; exact H2.out.2.2.2.2)⟩; obtain ⟨_, _, b4, b5, b6⟩ := H3.out; clear hB3 hw3) | (go_at_call 51; refine (HFI.out _ H3.out.1).mono ?_; rintro e w4 ⟨rfl, hB4⟩; have H4 : Hid (Dk B w4 1 S ∧ Fr w (Fp S) w4 (Fp S) ∧ w4.cell? ⟨w.heap.size, 0, none⟩ = some (.pointer (some ⟨S.d, 0, none⟩)) ∧ w4.cell? ⟨w.heap.size + 1, 0, none⟩ = some (.string x.nm) ∧ w4.cell? ⟨w.heap.size + 2, 0, none⟩ = some (.string tn)) := ⟨H3.out.1.below hB4, H3.out.2.1.trans (Fr.of_below hB4), (by rw [(hB4).cell (p := ⟨w.heap.size, 0, none⟩) (World.block_lt_of_cell? _ _ H3.out.2.2.1)]; exact H3.out.2.2.1), (by rw [(hB4).cell (p := ⟨w.heap.size + 1, 0, none⟩) (World.block_lt_of_cell? _ _ H3.out.2.2.2.1)]; exact H3.out.2.2.2.1), (by rw [(hB4).cell (p := ⟨w.heap.size + 2, 0, none⟩) (World.block_lt_of_cell? _ _ H3.out.2.2.2.2)]; exact H3.out.2.2.2.2)⟩; obtain ⟨_, _, b7, b8, b9⟩ := H4.out; have b7' : (w4.alloc (.cells #[.pointer (some ⟨x.f, 0, none⟩)] 80)).cell? ⟨w.heap.size, 0, none⟩ = some (.pointer (some ⟨S.d, 0, none⟩)) := (by rw [((Below.refl w4.heap.size w4).alloc (Nat.le_refl _) _).cell (p := ⟨w.heap.size, 0, none⟩) (World.block_lt_of_cell? _ _ b7)]; exact b7); clear hB4) | (go_at_call 49; refine (HW.out _ H4.out).mono ?_; rintro e w5 ⟨rfl, hR⟩; have H5 := hide hR; clear hR))
  obtain ⟨S5, e1, e2, e3, e4⟩ := H5.out
  have HZ := hide (door_of e3 e1)
  refine leaves_cons (f := 29) (args := #[.pointer (some ⟨S.d, 0, none⟩)]) (by simp) (by simp [go_sem]) ?_
  refine (unlock_deferred muLib ⟨S.d, 0, none⟩ .returning _ ?_ ?_).mono ?_
  · exact HZ.out.1
  · exact HZ.out.2.1
  rintro e u' w'' ⟨rfl, rfl, rfl⟩
  exact ⟨_, results_tmp rfl _ _ _, rfl, S5, e1, e2, HZ.out.2.2.1, e4.trans HZ.out.2.2.2⟩

end Go.Proofs.YtlandfghodfjdaaGreat

namespace Go.Proofs.YtlandfghodfjdaaGreat
open Go.RowKit
open Go.MuLone (lock_free unlock_deferred run_callFunc_enter)
set_option linter.unusedVariables false
set_option linter.unusedSimpArgs false

set_option maxRecDepth 100000 in
theorem rename_refused {B : Nat} {S : DS} (w : World) (h : Dk B w 0 S) (nm tn : ByteArray) (hz : nm.size ≤ 140737488355328) (hzt : tn.size ≤ 140737488355328) (hn : ¬ (S.off = false ∧ ∀ s ∈ [nm, tn], okN s)) :
    Calls Tryz.prog 34 #[.pointer (some ⟨S.d, 0, none⟩), .string nm, .string tn] w fun e w' => CodeE (fun c => Refs S.off [nm, tn] c ∧ ¬ c = 0) e ∧ Dk B w' 0 S ∧ Fr w (Fp S) w' (Fp S) := by
  have hb0 : Below w.heap.size w (((w.alloc (.cells #[.pointer (some ⟨S.d, 0, none⟩)] 27)).alloc (.cells #[.string nm] 9)).alloc (.cells #[.string tn] 9)) := ((((Below.refl _ _).alloc (Nat.le_refl _) _).alloc (by simp <;> omega) _).alloc (by simp <;> omega) _)
  have a0 : (((w.alloc (.cells #[.pointer (some ⟨S.d, 0, none⟩)] 27)).alloc (.cells #[.string nm] 9)).alloc (.cells #[.string tn] 9)).heap[w.heap.size]? = some (.cells #[.pointer (some ⟨S.d, 0, none⟩)] 27 (0, 0)) := (new_kept (new_kept (heap_alloc_new w _) _) _)
  have a1 : (((w.alloc (.cells #[.pointer (some ⟨S.d, 0, none⟩)] 27)).alloc (.cells #[.string nm] 9)).alloc (.cells #[.string tn] 9)).heap[w.heap.size + 1]? = some (.cells #[.string nm] 9 (0, 0)) := (new_kept (by have := heap_alloc_new (w.alloc (.cells #[.pointer (some ⟨S.d, 0, none⟩)] 27)) (.cells #[.string nm] 9); simpa using this) _)
  have a2 : (((w.alloc (.cells #[.pointer (some ⟨S.d, 0, none⟩)] 27)).alloc (.cells #[.string nm] 9)).alloc (.cells #[.string tn] 9)).heap[w.heap.size + 2]? = some (.cells #[.string tn] 9 (0, 0)) := (by have := heap_alloc_new ((w.alloc (.cells #[.pointer (some ⟨S.d, 0, none⟩)] 27)).alloc (.cells #[.string nm] 9)) (.cells #[.string tn] 9); simpa using this)
  have h0 := h.below hb0
  have l1 := h0.cell 0 (.int .i32 0) rfl
  have l2 := frozen_of h0.dk 0
  have hd := heap_lt h.dk
  have HE : Hid (Dk B ((((w.alloc (.cells #[.pointer (some ⟨S.d, 0, none⟩)] 27)).alloc (.cells #[.string nm] 9)).alloc (.cells #[.string tn] 9)).setCell ⟨S.d, 0, none⟩ (.int .i32 1)) 1 S ∧ Fr w (Fp S) ((((w.alloc (.cells #[.pointer (some ⟨S.d, 0, none⟩)] 27)).alloc (.cells #[.string nm] 9)).alloc (.cells #[.string tn] 9)).setCell ⟨S.d, 0, none⟩ (.int .i32 1)) (Fp S) ∧ ((((w.alloc (.cells #[.pointer (some ⟨S.d, 0, none⟩)] 27)).alloc (.cells #[.string nm] 9)).alloc (.cells #[.string tn] 9)).setCell ⟨S.d, 0, none⟩ (.int .i32 1)).cell? ⟨w.heap.size, 0, none⟩ = some (.pointer (some ⟨S.d, 0, none⟩)) ∧ ((((w.alloc (.cells #[.pointer (some ⟨S.d, 0, none⟩)] 27)).alloc (.cells #[.string nm] 9)).alloc (.cells #[.string tn] 9)).setCell ⟨S.d, 0, none⟩ (.int .i32 1)).cell? ⟨w.heap.size + 1, 0, none⟩ = some (.string nm) ∧ ((((w.alloc (.cells #[.pointer (some ⟨S.d, 0, none⟩)] 27)).alloc (.cells #[.string nm] 9)).alloc (.cells #[.string tn] 9)).setCell ⟨S.d, 0, none⟩ (.int .i32 1)).cell? ⟨w.heap.size + 2, 0, none⟩ = some (.string tn)) := ⟨h0.setLock 1, (Fr.of_below hb0).trans (Fr.setCell (.inl rfl) _), by rw [World.cell?_setCell_other _ _ _ _ (fun e => by injection e; omega), cell_of_row _ _ _ _ _ _ a0]; rfl, by rw [World.cell?_setCell_other _ _ _ _ (fun e => by injection e; omega), cell_of_row _ _ _ _ _ _ a1]; rfl, by rw [World.cell?_setCell_other _ _ _ _ (fun e => by injection e; omega), cell_of_row _ _ _ _ _ _ a2]; rfl⟩
  have HRF : Hid (∀ w2, Dk B w2 1 S → Calls Tryz.prog 48 #[.pointer (some ⟨S.d, 0, none⟩), .slice (some ⟨w2.heap.size, 0, none⟩) 2 2] (w2.alloc (.cells #[.string nm, .string tn] 9)) fun e w' => RefE S.off [nm, tn] e ∧ w' = w2.alloc (.cells #[.string nm, .string tn] 9)) := fun w2 h2 => by
    have hh := heap_alloc_new w2 (.cells #[.string nm, .string tn] 9)
    exact refusal2_any _ (h2.below ((Below.refl _ _).alloc (Nat.le_refl _) _)) nm hz tn hzt w2.heap.size (by rw [cell_of_row _ _ _ _ _ _ hh]; rfl) (by rw [cell_of_row _ _ _ _ _ _ hh]; rfl)
  have HN := hide hn
  clear h hb0 h0 a0 a1 a2 hn
  go_enter_defers Tryz.func34, Tryz.ntmps34
  go_wp2_with (first | (go_at_call 28; refine (lock_free muLib ⟨S.d, 0, none⟩ _ l1 l2).mono ?_; rintro e w2 ⟨rfl, hw2⟩; have H2 : Hid (Dk B w2 1 S ∧ Fr w (Fp S) w2 (Fp S) ∧ w2.cell? ⟨w.heap.size, 0, none⟩ = some (.pointer (some ⟨S.d, 0, none⟩)) ∧ w2.cell? ⟨w.heap.size + 1, 0, none⟩ = some (.string nm) ∧ w2.cell? ⟨w.heap.size + 2, 0, none⟩ = some (.string tn)) := (by rw [hw2]; exact HE.out); obtain ⟨_, _, b0, b1, b2⟩ := H2.out; clear hw2 l1 l2) | (go_at_call 48; refine (HRF.out _ H2.out.1).mono ?_; rintro e w3 ⟨hE, hw3⟩; obtain ⟨c, rfl, hc⟩ := hE; have hc0 : ¬ c = 0 := refs_no hc HN.out; have HC := hide hc; clear hc; have hB3 : Below w2.heap.size w2 w3 := (by rw [hw3]; exact (Below.refl _ _).alloc (Nat.le_refl _) _); have H3 : Hid (Dk B w3 1 S ∧ Fr w (Fp S) w3 (Fp S) ∧ w3.cell? ⟨w.heap.size, 0, none⟩ = some (.pointer (some ⟨S.d, 0, none⟩)) ∧ w3.cell? ⟨w.heap.size + 1, 0, none⟩ = some (.string nm) ∧ w3.cell? ⟨w.heap.size + 2, 0, none⟩ = some (.string tn)) := ⟨H2.out.1.below hB3, H2.out.2.1.trans (Fr.of_below hB3), (by rw [(hB3).cell (p := ⟨w.heap.size, 0, none⟩) (World.block_lt_of_cell? _ _ H2.out.2.2.1)]; exact H2.out.2.2.1), (by rw [(hB3).cell (p := ⟨w.heap.size + 1, 0, none⟩) (World.block_lt_of_cell? _ _ H2.out.2.2.2.1)]; exact H2.out.2.2.2.1), (by rw [(hB3).cell (p := ⟨w.heap.size + 2, 0, none⟩) (World.block_lt_of_cell? _ _ H2.out.2.2.2.2)]; exact H2.out.2.2.2.2)⟩; obtain ⟨_, _, b4, b5, b6⟩ := H3.out; clear hB3 hw3))
  have HZ := hide (door_of H3.out.1 rfl)
  refine leaves_cons (f := 29) (args := #[.pointer (some ⟨S.d, 0, none⟩)]) (by simp) (by simp [go_sem]) ?_
  refine (unlock_deferred muLib ⟨S.d, 0, none⟩ .returning _ ?_ ?_).mono ?_
  · exact HZ.out.1
  · exact HZ.out.2.1
  rintro e u' w'' ⟨rfl, rfl, rfl⟩
  exact ⟨_, results_tmp rfl _ _ _, ⟨c, rfl, HC.out, hc0⟩, HZ.out.2.2.1, H3.out.2.1.trans HZ.out.2.2.2⟩

set_option maxRecDepth 100000 in
theorem rename_none {B : Nat} {S : DS} (w : World) (h : Dk B w 0 S) (nm tn : ByteArray) (hz : nm.size ≤ 140737488355328) (hzt : tn.size ≤ 140737488355328) (hoff : S.off = false) (hs : okN nm) (ht : okN tn) (hx : ∀ x ∈ S.L, x.nm ≠ nm) :
    Calls Tryz.prog 34 #[.pointer (some ⟨S.d, 0, none⟩), .string nm, .string tn] w fun e w' => e = .returned (.int .i64 102) ∧ Dk B w' 0 S ∧ Fr w (Fp S) w' (Fp S) := by
  have hb0 : Below w.heap.size w (((w.alloc (.cells #[.pointer (some ⟨S.d, 0, none⟩)] 27)).alloc (.cells #[.string nm] 9)).alloc (.cells #[.string tn] 9)) := ((((Below.refl _ _).alloc (Nat.le_refl _) _).alloc (by simp <;> omega) _).alloc (by simp <;> omega) _)
  have a0 : (((w.alloc (.cells #[.pointer (some ⟨S.d, 0, none⟩)] 27)).alloc (.cells #[.string nm] 9)).alloc (.cells #[.string tn] 9)).heap[w.heap.size]? = some (.cells #[.pointer (some ⟨S.d, 0, none⟩)] 27 (0, 0)) := (new_kept (new_kept (heap_alloc_new w _) _) _)
  have a1 : (((w.alloc (.cells #[.pointer (some ⟨S.d, 0, none⟩)] 27)).alloc (.cells #[.string nm] 9)).alloc (.cells #[.string tn] 9)).heap[w.heap.size + 1]? = some (.cells #[.string nm] 9 (0, 0)) := (new_kept (by have := heap_alloc_new (w.alloc (.cells #[.pointer (some ⟨S.d, 0, none⟩)] 27)) (.cells #[.string nm] 9); simpa using this) _)
  have a2 : (((w.alloc (.cells #[.pointer (some ⟨S.d, 0, none⟩)] 27)).alloc (.cells #[.string nm] 9)).alloc (.cells #[.string tn] 9)).heap[w.heap.size + 2]? = some (.cells #[.string tn] 9 (0, 0)) := (by have := heap_alloc_new ((w.alloc (.cells #[.pointer (some ⟨S.d, 0, none⟩)] 27)).alloc (.cells #[.string nm] 9)) (.cells #[.string tn] 9); simpa using this)
  have h0 := h.below hb0
  have l1 := h0.cell 0 (.int .i32 0) rfl
  have l2 := frozen_of h0.dk 0
  have hd := heap_lt h.dk
  have HE : Hid (Dk B ((((w.alloc (.cells #[.pointer (some ⟨S.d, 0, none⟩)] 27)).alloc (.cells #[.string nm] 9)).alloc (.cells #[.string tn] 9)).setCell ⟨S.d, 0, none⟩ (.int .i32 1)) 1 S ∧ Fr w (Fp S) ((((w.alloc (.cells #[.pointer (some ⟨S.d, 0, none⟩)] 27)).alloc (.cells #[.string nm] 9)).alloc (.cells #[.string tn] 9)).setCell ⟨S.d, 0, none⟩ (.int .i32 1)) (Fp S) ∧ ((((w.alloc (.cells #[.pointer (some ⟨S.d, 0, none⟩)] 27)).alloc (.cells #[.string nm] 9)).alloc (.cells #[.string tn] 9)).setCell ⟨S.d, 0, none⟩ (.int .i32 1)).cell? ⟨w.heap.size, 0, none⟩ = some (.pointer (some ⟨S.d, 0, none⟩)) ∧ ((((w.alloc (.cells #[.pointer (some ⟨S.d, 0, none⟩)] 27)).alloc (.cells #[.string nm] 9)).alloc (.cells #[.string tn] 9)).setCell ⟨S.d, 0, none⟩ (.int .i32 1)).cell? ⟨w.heap.size + 1, 0, none⟩ = some (.string nm) ∧ ((((w.alloc (.cells #[.pointer (some ⟨S.d, 0, none⟩)] 27)).alloc (.cells #[.string nm] 9)).alloc (.cells #[.string tn] 9)).setCell ⟨S.d, 0, none⟩ (.int .i32 1)).cell? ⟨w.heap.size + 2, 0, none⟩ = some (.string tn)) := ⟨h0.setLock 1, (Fr.of_below hb0).trans (Fr.setCell (.inl rfl) _), by rw [World.cell?_setCell_other _ _ _ _ (fun e => by injection e; omega), cell_of_row _ _ _ _ _ _ a0]; rfl, by rw [World.cell?_setCell_other _ _ _ _ (fun e => by injection e; omega), cell_of_row _ _ _ _ _ _ a1]; rfl, by rw [World.cell?_setCell_other _ _ _ _ (fun e => by injection e; omega), cell_of_row _ _ _ _ _ _ a2]; rfl⟩
  have HRF : Hid (∀ w2, Dk B w2 1 S → Calls Tryz.prog 48 #[.pointer (some ⟨S.d, 0, none⟩), .slice (some ⟨w2.heap.size, 0, none⟩) 2 2] (w2.alloc (.cells #[.string nm, .string tn] 9)) fun e w' => RefE S.off [nm, tn] e ∧ w' = w2.alloc (.cells #[.string nm, .string tn] 9)) := fun w2 h2 => by
    have hh := heap_alloc_new w2 (.cells #[.string nm, .string tn] 9)
    exact refusal2_any _ (h2.below ((Below.refl _ _).alloc (Nat.le_refl _) _)) nm hz tn hzt w2.heap.size (by rw [cell_of_row _ _ _ _ _ _ hh]; rfl) (by rw [cell_of_row _ _ _ _ _ _ hh]; rfl)
  have HG : Hid (∀ c, Refs S.off [nm, tn] c → c = 0) := fun c hc => by
    rcases hc with ⟨e, _⟩ | ⟨_, ⟨s, hs1, hs2⟩, _⟩ | ⟨_, _, e⟩
    · rw [hoff] at e; simp at e
    · rcases List.mem_cons.1 hs1 with rfl | hs1
      · exact absurd hs hs2
      · rw [List.mem_singleton.1 hs1] at hs2; exact absurd ht hs2
    · exact e
  have HFI : Hid (∀ w2, Dk B w2 1 S → Calls Tryz.prog 51 #[.pointer (some ⟨S.d, 0, none⟩), .string nm] w2 fun e w' => e = .returned (.tuple #[.pointer none, .int .i64 102]) ∧ Below w2.heap.size w2 w') := fun w2 h2 => find_no w2 h2 hoff nm hx hs
  clear h hb0 h0 a0 a1 a2 hs ht hx
  go_enter_defers Tryz.func34, Tryz.ntmps34
  go_wp2_with (first | (go_at_call 28; refine (lock_free muLib ⟨S.d, 0, none⟩ _ l1 l2).mono ?_; rintro e w2 ⟨rfl, hw2⟩; have H2 : Hid (Dk B w2 1 S ∧ Fr w (Fp S) w2 (Fp S) ∧ w2.cell? ⟨w.heap.size, 0, none⟩ = some (.pointer (some ⟨S.d, 0, none⟩)) ∧ w2.cell? ⟨w.heap.size + 1, 0, none⟩ = some (.string nm) ∧ w2.cell? ⟨w.heap.size + 2, 0, none⟩ = some (.string tn)) := (by rw [hw2]; exact HE.out); obtain ⟨_, _, b0, b1, b2⟩ := H2.out; clear hw2 l1 l2) | (go_at_call 48; refine (HRF.out _ H2.out.1).mono ?_; rintro e w3 ⟨hE, hw3⟩; obtain ⟨c, rfl, hc⟩ := hE; obtain rfl := HG.out c hc; clear hc; have hB3 : Below w2.heap.size w2 w3 := (by rw [hw3]; exact (Below.refl _ _).alloc (Nat.le_refl _) _); have H3 : Hid (Dk B w3 1 S ∧ Fr w (Fp S) w3 (Fp S) ∧ w3.cell? ⟨w.heap.size, 0, none⟩ = some (.pointer (some ⟨S.d, 0, none⟩)) ∧ w3.cell? ⟨w.heap.size + 1, 0, none⟩ = some (.string nm) ∧ w3.cell? ⟨w.heap.size + 2, 0, none⟩ = some (.string tn)) := ⟨H2.out.1.below hB3, H2.out.2.1.trans (Fr.of_below hB3), (by rw [(hB3).cell (p := ⟨w.heap.size, 0, none⟩) (World.block_lt_of_cell? _ _ H2.out.2.2.1)]; exact H2.out.2.2.1), (by rw [(hB3).cell (p := ⟨w.heap.size + 1, 0, none⟩) (World.block_lt_of_cell? _ _ H2.out.2.2.2.1)]; exact H2.out.2.2.2.1), (by rw [(hB3).cell (p := ⟨w.heap.size + 2, 0, none⟩) (World.block_lt_of_cell? _ _ H2.out.2.2.2.2)]; exact H2.out.2.2.2.2)⟩; obtain ⟨_, _, b4, b5, b6⟩ := H3.out; clear hB3 hw3) | (go_at_call 51; refine (HFI.out _ H3.out.1).mono ?_; rintro e w4 ⟨rfl, hB4⟩; have H4 : Hid (Dk B w4 1 S ∧ Fr w (Fp S) w4 (Fp S) ∧ w4.cell? ⟨w.heap.size, 0, none⟩ = some (.pointer (some ⟨S.d, 0, none⟩)) ∧ w4.cell? ⟨w.heap.size + 1, 0, none⟩ = some (.string nm) ∧ w4.cell? ⟨w.heap.size + 2, 0, none⟩ = some (.string tn)) := ⟨H3.out.1.below hB4, H3.out.2.1.trans (Fr.of_below hB4), (by rw [(hB4).cell (p := ⟨w.heap.size, 0, none⟩) (World.block_lt_of_cell? _ _ H3.out.2.2.1)]; exact H3.out.2.2.1), (by rw [(hB4).cell (p := ⟨w.heap.size + 1, 0, none⟩) (World.block_lt_of_cell? _ _ H3.out.2.2.2.1)]; exact H3.out.2.2.2.1), (by rw [(hB4).cell (p := ⟨w.heap.size + 2, 0, none⟩) (World.block_lt_of_cell? _ _ H3.out.2.2.2.2)]; exact H3.out.2.2.2.2)⟩; clear hB4))
  have hB5 : Below w4.heap.size w4 (w4.alloc (.cells #[.pointer none] 80)) := (Below.refl _ _).alloc (Nat.le_refl _) _
  have H5 := hide (And.intro (H4.out.1.below hB5) (H4.out.2.1.trans (Fr.of_below hB5)))
  clear hB5
  have HZ := hide (door_of H5.out.1 rfl)
  refine leaves_cons (f := 29) (args := #[.pointer (some ⟨S.d, 0, none⟩)]) (by simp) (by simp [go_sem]) ?_
  refine (unlock_deferred muLib ⟨S.d, 0, none⟩ .returning _ ?_ ?_).mono ?_
  · exact HZ.out.1
  · exact HZ.out.2.1
  rintro e u' w'' ⟨rfl, rfl, rfl⟩
  exact ⟨_, results_tmp rfl _ _ _, rfl, HZ.out.2.2.1, H5.out.2.trans HZ.out.2.2.2⟩

set_option maxRecDepth 100000 in
theorem cut_none {B : Nat} {S : DS} (w : World) (h : Dk B w 0 S) (z : Int) (nm : ByteArray) (hz : nm.size ≤ 140737488355328) (hn : ¬ (S.off = false ∧ okN nm ∧ ∃ x ∈ S.L, x.nm = nm)) :
    Calls Tryz.prog 33 #[.pointer (some ⟨S.d, 0, none⟩), .string nm, .int .i64 z] w fun e w' => CodeE (fun c => FindC S.ps nm c) e ∧ Dk B w' 0 S ∧ Fr w (Fp S) w' (Fp S) := by
  have hb0 : Below w.heap.size w (w.alloc (.cells #[.int .i64 z] 3)) := ((Below.refl _ _).alloc (Nat.le_refl _) _)
  have a0 : (w.alloc (.cells #[.int .i64 z] 3)).heap[w.heap.size]? = some (.cells #[.int .i64 z] 3 (0, 0)) := (heap_alloc_new w _)
  have h0 := h.below hb0
  have l1 := h0.cell 0 (.int .i32 0) rfl
  have l2 := frozen_of h0.dk 0
  have hd := heap_lt h.dk
  have HE : Hid (Dk B ((w.alloc (.cells #[.int .i64 z] 3)).setCell ⟨S.d, 0, none⟩ (.int .i32 1)) 1 S ∧ Fr w (Fp S) ((w.alloc (.cells #[.int .i64 z] 3)).setCell ⟨S.d, 0, none⟩ (.int .i32 1)) (Fp S) ∧ ((w.alloc (.cells #[.int .i64 z] 3)).setCell ⟨S.d, 0, none⟩ (.int .i32 1)).cell? ⟨w.heap.size, 0, none⟩ = some (.int .i64 z)) := ⟨h0.setLock 1, (Fr.of_below hb0).trans (Fr.setCell (.inl rfl) _), by rw [World.cell?_setCell_other _ _ _ _ (fun e => by injection e; omega), cell_of_row _ _ _ _ _ _ a0]; rfl⟩
  have HN := hide hn
  clear h hb0 h0 hn a0
  go_enter_defers Tryz.func33, Tryz.ntmps33
  go_wp2_with (first | (go_at_call 28; refine (lock_free muLib ⟨S.d, 0, none⟩ _ l1 l2).mono ?_; rintro e w2 ⟨rfl, hw2⟩; have H2 : Hid (Dk B w2 1 S ∧ Fr w (Fp S) w2 (Fp S) ∧ w2.cell? ⟨w.heap.size, 0, none⟩ = some (.int .i64 z)) := (by rw [hw2]; exact HE.out); obtain ⟨_, _, b0⟩ := H2.out; clear hw2 l1 l2) | (go_at_call 51; refine (find_any _ H2.out.1 nm hz).mono ?_; rintro e w3 ⟨hE, hB3⟩; obtain ⟨q, c, rfl, hF⟩ := hE; obtain ⟨rfl, hc0, hFC⟩ := finds_no hF HN.out; have HC := hide hFC; have H3 : Hid (Dk B w3 1 S ∧ Fr w (Fp S) w3 (Fp S) ∧ w3.cell? ⟨w.heap.size, 0, none⟩ = some (.int .i64 z)) := ⟨H2.out.1.below hB3, H2.out.2.1.trans (Fr.of_below hB3), (by rw [(hB3).cell (p := ⟨w.heap.size, 0, none⟩) (World.block_lt_of_cell? _ _ H2.out.2.2)]; exact H2.out.2.2)⟩; clear hB3 hF hFC))
  have hB4 : Below w3.heap.size w3 (w3.alloc (.cells #[.pointer none] 80)) := (Below.refl _ _).alloc (Nat.le_refl _) _
  have H4 := hide (And.intro (H3.out.1.below hB4) (H3.out.2.1.trans (Fr.of_below hB4)))
  clear hB4
  have HZ := hide (door_of H4.out.1 rfl)
  refine leaves_cons (f := 29) (args := #[.pointer (some ⟨S.d, 0, none⟩)]) (by simp) (by simp [go_sem]) ?_
  refine (unlock_deferred muLib ⟨S.d, 0, none⟩ .returning _ ?_ ?_).mono ?_
  · exact HZ.out.1
  · exact HZ.out.2.1
  rintro e u' w'' ⟨rfl, rfl, rfl⟩
  exact ⟨_, results_tmp rfl _ _ _, ⟨c, rfl, HC.out⟩, HZ.out.2.2.1, H4.out.2.trans HZ.out.2.2.2⟩

/-- What a write that wants one file tells and leaves. -/
def OpR (p : PS) (nm : ByteArray) (f : Int → Con → Con) (c : Int) (p' : PS) : Prop := (FindC p nm c ∧ p' = p) ∨ (p.off = false ∧ okN nm ∧ p.con.has nm ∧ c = p.code ∧ p' = p.wrote f)

section
variable {B : Nat} {S : DS}
theorem sync_all (w : World) (h : Dk B w 0 S) (nm : ByteArray) (hz : nm.size ≤ 140737488355328) (hA : S.ps.arms) (hwr : S.wr ≤ 1000000000) :
    Calls Tryz.prog 25 #[.pointer (some ⟨S.d, 0, none⟩), .string nm] w fun e w' => ∃ (c : Int) (S' : DS), e = .returned (.int .i64 c) ∧ S'.d = S.d ∧ OpR S.ps nm (syncF nm) c S'.ps ∧ Dk B w' 0 S' ∧ Fr w (Fp S) w' (Fp S') := by
  by_cases hk : S.off = false ∧ okN nm ∧ ∃ x ∈ S.L, x.nm = nm
  · obtain ⟨ho, hs, x, hx, rfl⟩ := hk
    refine (syncW_any w h ho hA hwr x hx hs).mono ?_
    rintro e w' ⟨rfl, S', e1, e2, e3, e4⟩
    exact ⟨_, S', rfl, e1, .inr ⟨ho, hs, (has_iff S x.nm).2 ⟨x, hx, rfl⟩, rfl, e2⟩, e3, e4⟩
  · refine (sync_none w h nm hz hk).mono ?_
    rintro e w' ⟨⟨c, rfl, hc⟩, e3, e4⟩
    exact ⟨c, S, rfl, rfl, .inl ⟨hc, rfl⟩, e3, e4⟩

theorem remove_all (w : World) (h : Dk B w 0 S) (nm : ByteArray) (hz : nm.size ≤ 140737488355328) (hA : S.ps.arms) (hwr : S.wr ≤ 1000000000) :
    Calls Tryz.prog 35 #[.pointer (some ⟨S.d, 0, none⟩), .string nm] w fun e w' => ∃ (c : Int) (S' : DS), e = .returned (.int .i64 c) ∧ S'.d = S.d ∧ OpR S.ps nm (removeF nm) c S'.ps ∧ Dk B w' 0 S' ∧ Fr w (Fp S) w' (Fp S') := by
  by_cases hk : S.off = false ∧ okN nm ∧ ∃ x ∈ S.L, x.nm = nm
  · obtain ⟨ho, hs, x, hx, rfl⟩ := hk
    refine (removeW_any w h ho hA hwr x hx hs).mono ?_
    rintro e w' ⟨rfl, S', e1, e2, e3, e4⟩
    exact ⟨_, S', rfl, e1, .inr ⟨ho, hs, (has_iff S x.nm).2 ⟨x, hx, rfl⟩, rfl, e2⟩, e3, e4⟩
  · refine (remove_none w h nm hz hk).mono ?_
    rintro e w' ⟨⟨c, rfl, hc⟩, e3, e4⟩
    exact ⟨c, S, rfl, rfl, .inl ⟨hc, rfl⟩, e3, e4⟩

/-- What Rename tells and leaves. -/
def RenR (p : PS) (nm tn : ByteArray) (c : Int) (p' : PS) : Prop := (Refs p.off [nm, tn] c ∧ ¬ c = 0 ∧ p' = p) ∨ (p.off = false ∧ okN nm ∧ okN tn ∧ ¬ p.con.has nm ∧ c = 102 ∧ p' = p) ∨ (p.off = false ∧ okN nm ∧ okN tn ∧ p.con.has nm ∧ c = p.code ∧ p' = p.wrote (renameF nm tn))

theorem rename_all (w : World) (h : Dk B w 0 S) (nm tn : ByteArray) (hz : nm.size ≤ 140737488355328) (hzt : tn.size ≤ 140737488355328) (hA : S.ps.arms) (hwr : S.wr ≤ 1000000000) :
    Calls Tryz.prog 34 #[.pointer (some ⟨S.d, 0, none⟩), .string nm, .string tn] w fun e w' => ∃ (c : Int) (S' : DS), e = .returned (.int .i64 c) ∧ S'.d = S.d ∧ RenR S.ps nm tn c S'.ps ∧ Dk B w' 0 S' ∧ Fr w (Fp S) w' (Fp S') := by
  by_cases hk : S.off = false ∧ ∀ s ∈ [nm, tn], okN s
  · have hs := hk.2 nm (by simp)
    have ht := hk.2 tn (by simp)
    by_cases hx : ∃ x ∈ S.L, x.nm = nm
    · obtain ⟨x, hx, rfl⟩ := hx
      refine (renameW_any w h hk.1 hA hwr x hx hs tn ht).mono ?_
      rintro e w' ⟨rfl, S', e1, e2, e3, e4⟩
      exact ⟨_, S', rfl, e1, .inr (.inr ⟨hk.1, hs, ht, (has_iff S x.nm).2 ⟨x, hx, rfl⟩, rfl, e2⟩), e3, e4⟩
    · refine (rename_none w h nm tn hz hzt hk.1 hs ht (fun x h1 e => hx ⟨x, h1, e⟩)).mono ?_
      rintro e w' ⟨rfl, e3, e4⟩
      exact ⟨102, S, rfl, rfl, .inr (.inl ⟨hk.1, hs, ht, fun e => hx ((has_iff S nm).1 e), rfl, rfl⟩), e3, e4⟩
  · refine (rename_refused w h nm tn hz hzt hk).mono ?_
    rintro e w' ⟨⟨c, rfl, hc⟩, e3, e4⟩
    exact ⟨c, S, rfl, rfl, .inl ⟨hc.1, hc.2, rfl⟩, e3, e4⟩
end

end Go.Proofs.YtlandfghodfjdaaGreat

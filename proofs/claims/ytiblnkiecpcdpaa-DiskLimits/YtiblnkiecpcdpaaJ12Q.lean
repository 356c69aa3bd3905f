/- Sync, Remove, Rename: whatever is asked. -/
import Derived.Test.YtiblnkiecpcdpaaJ12P
namespace Go.Proofs.Ytiblnkiecpcdpaa
open Go.RowKit
open Go.MuLone (lock_free unlock_deferred run_callFunc_enter)
set_option linter.unusedVariables false
set_option linter.unusedSimpArgs false

/-- What is told where a file is wanted that may not be, or is not there. -/
def FindC (p : PS) (nm : ByteArray) (c : Int) : Prop := ¬ c = 0 ∧ (Refs p.off [nm] c ∨ (p.off = false ∧ okN nm ∧ ¬ p.con.has nm ∧ c = 102))

theorem finds_no {S : DS} {nm : ByteArray} {q : Option Addr} {c : Int} (h : Finds S nm (.pointer q) c) (hn : ¬ (S.off = false ∧ okN nm ∧ ∃ x ∈ S.L, x.nm = nm)) : q = none ∧ ¬ c = 0 ∧ FindC S.ps nm c := by
  rcases h with ⟨h1, h2, h3⟩ | ⟨_, h2, h3, x, hx, e, _⟩
  · refine ⟨by simpa using h2, h1, h1, ?_⟩
    rcases h3 with h3 | ⟨a1, a2, a3, a4⟩
    · exact .inl h3
    · exact .inr ⟨a1, a2, fun e => by obtain ⟨x, hx, e⟩ := (has_iff S nm).1 e; exact a3 x hx e, a4⟩
  · exact absurd ⟨h2, h3, x, hx, e⟩ hn

set_option maxRecDepth 100000 in
theorem sync_none {B : Nat} {S : DS} (w : World) (h : Dk B w 0 S) (nm : ByteArray) (hz : nm.size ≤ 140737488355328) (hn : ¬ (S.off = false ∧ okN nm ∧ ∃ x ∈ S.L, x.nm = nm)) :
    Calls Try.prog 26 #[.pointer (some ⟨S.d, 0, none⟩), .string nm] w fun e w' => CodeE (fun c => FindC S.ps nm c) e ∧ Dk B w' 0 S ∧ Fr w (Fp S) w' (Fp S) := by
  have hb0 : Below w.heap.size w w := Below.refl _ _
  have h0 := h.below hb0
  have l1 := h0.cell 0 (.int .i32 0) rfl
  have l2 := frozen_of h0.dk 0
  have hd := heap_lt h.dk
  have HE : Hid (Dk B (w.setCell ⟨S.d, 0, none⟩ (.int .i32 1)) 1 S ∧ Fr w (Fp S) (w.setCell ⟨S.d, 0, none⟩ (.int .i32 1)) (Fp S)) := ⟨h0.setLock 1, (Fr.of_below hb0).trans (Fr.setCell (.inl rfl) _)⟩
  have HN := hide hn
  clear h hb0 h0 hn
  go_enter_defers Try.func26, Try.ntmps26
  go_wp2_with (first | (go_at_call 34; refine (lock_free muLib ⟨S.d, 0, none⟩ _ l1 l2).mono ?_; rintro e w2 ⟨rfl, hw2⟩; have H2 : Hid (Dk B w2 1 S ∧ Fr w (Fp S) w2 (Fp S)) := (by rw [hw2]; exact HE.out); clear hw2 l1 l2) | (go_at_call 38; refine (find_any _ H2.out.1 nm hz).mono ?_; rintro e w3 ⟨hE, hB3⟩; obtain ⟨q, c, rfl, hF⟩ := hE; obtain ⟨rfl, hc0, hFC⟩ := finds_no hF HN.out; have HC := hide hFC; have H3 : Hid (Dk B w3 1 S ∧ Fr w (Fp S) w3 (Fp S)) := ⟨H2.out.1.below hB3, H2.out.2.trans (Fr.of_below hB3)⟩; clear hB3 hF hFC))
  have hB4 : Below w3.heap.size w3 (w3.alloc (.cells #[.pointer none] 84)) := (Below.refl _ _).alloc (Nat.le_refl _) _
  have H4 := hide (And.intro (H3.out.1.below hB4) (H3.out.2.trans (Fr.of_below hB4)))
  clear hB4
  have HZ := hide (door_of H4.out.1 rfl)
  refine leaves_cons (f := 35) (args := #[.pointer (some ⟨S.d, 0, none⟩)]) (by simp) (by simp [go_sem]) ?_
  refine (unlock_deferred muLib ⟨S.d, 0, none⟩ .returning _ ?_ ?_).mono ?_
  · exact HZ.out.1
  · exact HZ.out.2.1
  rintro e u' w'' ⟨rfl, rfl, rfl⟩
  exact ⟨_, results_tmp rfl _ _ _, ⟨c, rfl, HC.out⟩, HZ.out.2.2.1, H4.out.2.trans HZ.out.2.2.2⟩

set_option maxRecDepth 100000 in
theorem remove_none {B : Nat} {S : DS} (w : World) (h : Dk B w 0 S) (nm : ByteArray) (hz : nm.size ≤ 140737488355328) (hn : ¬ (S.off = false ∧ okN nm ∧ ∃ x ∈ S.L, x.nm = nm)) :
    Calls Try.prog 24 #[.pointer (some ⟨S.d, 0, none⟩), .string nm] w fun e w' => CodeE (fun c => FindC S.ps nm c) e ∧ Dk B w' 0 S ∧ Fr w (Fp S) w' (Fp S) := by
  have hb0 : Below w.heap.size w ((w.alloc (.cells #[.pointer (some ⟨S.d, 0, none⟩)] 27)).alloc (.cells #[.string nm] 9)) := (((Below.refl _ _).alloc (Nat.le_refl _) _).alloc (by simp <;> omega) _)
  have a0 : ((w.alloc (.cells #[.pointer (some ⟨S.d, 0, none⟩)] 27)).alloc (.cells #[.string nm] 9)).heap[w.heap.size]? = some (.cells #[.pointer (some ⟨S.d, 0, none⟩)] 27 (0, 0)) := (new_kept (heap_alloc_new w _) _)
  have a1 : ((w.alloc (.cells #[.pointer (some ⟨S.d, 0, none⟩)] 27)).alloc (.cells #[.string nm] 9)).heap[w.heap.size + 1]? = some (.cells #[.string nm] 9 (0, 0)) := (by have := heap_alloc_new (w.alloc (.cells #[.pointer (some ⟨S.d, 0, none⟩)] 27)) (.cells #[.string nm] 9); simpa using this)
  have h0 := h.below hb0
  have l1 := h0.cell 0 (.int .i32 0) rfl
  have l2 := frozen_of h0.dk 0
  have hd := heap_lt h.dk
  have HE : Hid (Dk B (((w.alloc (.cells #[.pointer (some ⟨S.d, 0, none⟩)] 27)).alloc (.cells #[.string nm] 9)).setCell ⟨S.d, 0, none⟩ (.int .i32 1)) 1 S ∧ Fr w (Fp S) (((w.alloc (.cells #[.pointer (some ⟨S.d, 0, none⟩)] 27)).alloc (.cells #[.string nm] 9)).setCell ⟨S.d, 0, none⟩ (.int .i32 1)) (Fp S) ∧ (((w.alloc (.cells #[.pointer (some ⟨S.d, 0, none⟩)] 27)).alloc (.cells #[.string nm] 9)).setCell ⟨S.d, 0, none⟩ (.int .i32 1)).cell? ⟨w.heap.size, 0, none⟩ = some (.pointer (some ⟨S.d, 0, none⟩)) ∧ (((w.alloc (.cells #[.pointer (some ⟨S.d, 0, none⟩)] 27)).alloc (.cells #[.string nm] 9)).setCell ⟨S.d, 0, none⟩ (.int .i32 1)).cell? ⟨w.heap.size + 1, 0, none⟩ = some (.string nm)) := ⟨h0.setLock 1, (Fr.of_below hb0).trans (Fr.setCell (.inl rfl) _), by rw [World.cell?_setCell_other _ _ _ _ (fun e => by injection e; omega), cell_of_row _ _ _ _ _ _ a0]; rfl, by rw [World.cell?_setCell_other _ _ _ _ (fun e => by injection e; omega), cell_of_row _ _ _ _ _ _ a1]; rfl⟩
  have HN := hide hn
  clear h hb0 h0 hn a0 a1
  go_enter_defers Try.func24, Try.ntmps24
  go_wp2_with (first | (go_at_call 34; refine (lock_free muLib ⟨S.d, 0, none⟩ _ l1 l2).mono ?_; rintro e w2 ⟨rfl, hw2⟩; have H2 : Hid (Dk B w2 1 S ∧ Fr w (Fp S) w2 (Fp S) ∧ w2.cell? ⟨w.heap.size, 0, none⟩ = some (.pointer (some ⟨S.d, 0, none⟩)) ∧ w2.cell? ⟨w.heap.size + 1, 0, none⟩ = some (.string nm)) := (by rw [hw2]; exact HE.out); obtain ⟨_, _, b0, b1⟩ := H2.out; clear hw2 l1 l2) | (go_at_call 38; refine (find_any _ H2.out.1 nm hz).mono ?_; rintro e w3 ⟨hE, hB3⟩; obtain ⟨q, c, rfl, hF⟩ := hE; obtain ⟨rfl, hc0, hFC⟩ := finds_no hF HN.out; have HC := hide hFC; have H3 : Hid (Dk B w3 1 S ∧ Fr w (Fp S) w3 (Fp S) ∧ w3.cell? ⟨w.heap.size, 0, none⟩ = some (.pointer (some ⟨S.d, 0, none⟩)) ∧ w3.cell? ⟨w.heap.size + 1, 0, none⟩ = some (.string nm)) := ⟨H2.out.1.below hB3, H2.out.2.1.trans (Fr.of_below hB3), (by rw [(hB3).cell (p := ⟨w.heap.size, 0, none⟩) (World.block_lt_of_cell? _ _ H2.out.2.2.1)]; exact H2.out.2.2.1), (by rw [(hB3).cell (p := ⟨w.heap.size + 1, 0, none⟩) (World.block_lt_of_cell? _ _ H2.out.2.2.2)]; exact H2.out.2.2.2)⟩; clear hB3 hF hFC))
  have HZ := hide (door_of H3.out.1 rfl)
  refine leaves_cons (f := 35) (args := #[.pointer (some ⟨S.d, 0, none⟩)]) (by simp) (by simp [go_sem]) ?_
  refine (unlock_deferred muLib ⟨S.d, 0, none⟩ .returning _ ?_ ?_).mono ?_
  · exact HZ.out.1
  · exact HZ.out.2.1
  rintro e u' w'' ⟨rfl, rfl, rfl⟩
  exact ⟨_, results_tmp rfl _ _ _, ⟨c, rfl, HC.out⟩, HZ.out.2.2.1, H3.out.2.1.trans HZ.out.2.2.2⟩

end Go.Proofs.Ytiblnkiecpcdpaa

/- The law's done, arm by arm. -/
import Derived.Test.YtlandfghodfjdaaGreatJ15F
/- The law's done, arm by arm. -/
namespace Go.Proofs.YtlandfghodfjdaaGreat
open Go.RowKit
set_option linter.unusedVariables false
set_option linter.unusedSimpArgs false

set_option maxRecDepth 100000 in
set_option maxHeartbeats 8000000 in
/-- Behind a Sync. -/
theorem done_syn (vW vN u1 u2 : Value) (dw on : Int) (nm tt : ByteArray) (pb : Option Addr) (nb cb : Nat) (z kp ls : Int) (fl : Value) (w : World) (hd : dw = 5) (has2 : Bool)
    (H1 : ∀ w1, Below w.heap.size w w1 → Calls Tryz.prog 13 #[vW, .string nm] w1 fun e w2 => e = .returned (.tuple #[u1, .bool true]) ∧ Below w1.heap.size w1 w2)
    (H2 : ∀ w1, Below w.heap.size w w1 → Calls Tryz.prog 13 #[vN, .string nm] w1 fun e w2 => e = .returned (.tuple #[u2, .bool has2]) ∧ Below w1.heap.size w1 w2)
    (H3 : ∀ w1, Below w.heap.size w w1 → Calls Tryz.prog 14 #[vW, vN] w1 fun e w2 => e = .returned (.bool true) ∧ Below w1.heap.size w1 w2)
    : Calls Tryz.prog 15 #[vW, vN, opV dw on nm tt (.slice pb nb cb) z kp ls fl] w fun e w' => e = .returned (.bool true) ∧ Below w.heap.size w w' := by
  subst hd
  have HH1 := hide H1
  have HH2 := hide H2
  have HH3 := hide H3
  clear H1 H2 H3
  unfold opV
  obtain ⟨W0, hW0⟩ : ∃ W0, w.alloc (.cells #[.int .i64 (5), .int .i64 on, .string nm, .string tt, .slice pb nb cb, .int .i64 z, .int .i64 kp, .int .i64 ls, fl] 36) = W0 := ⟨_, rfl⟩
  have hb0 : Below w.heap.size w W0 := by rw [← hW0]; exact (Below.refl _ _).alloc (Nat.le_refl _) _
  have hrow : W0.heap[w.heap.size]? = some (.cells #[.int .i64 (5), .int .i64 on, .string nm, .string tt, .slice pb nb cb, .int .i64 z, .int .i64 kp, .int .i64 ls, fl] 36 (0, 0)) := by rw [← hW0]; exact heap_alloc_new w _
  have q0 : W0.cell? ⟨w.heap.size, 0, none⟩ = some (.int .i64 5) := cell_of_row _ _ _ _ _ _ hrow
  have q2 : W0.cell? ⟨w.heap.size, 2, none⟩ = some (.string nm) := cell_of_row _ _ _ _ _ _ hrow
  have HB0 := hide hb0
  clear hb0 hrow
  go_enter Tryz.func15, Tryz.ntmps15
  go_wp2_with (first
    | (go_at_call 13; refine (HH1.out _ HB0.out).mono ?_; rintro e wa ⟨rfl, h1⟩; have HW0 := hide (HB0.out.trans (h1.mono HB0.out.size)); have pa0 : wa.cell? ⟨w.heap.size, 0, none⟩ = some (.int .i64 5) := cell_bel h1 q0; have pa2 : wa.cell? ⟨w.heap.size, 2, none⟩ = some (.string nm) := cell_bel h1 q2; clear h1 HH1 hW0 q0 q2)
    | (go_at_call 13; refine (HH2.out _ HW0.out).mono ?_; rintro e wb ⟨rfl, h1⟩; have HW1 := hide (HW0.out.trans (h1.mono HW0.out.size)); have pb0 : wb.cell? ⟨w.heap.size, 0, none⟩ = some (.int .i64 5) := cell_bel h1 pa0; have pb2 : wb.cell? ⟨w.heap.size, 2, none⟩ = some (.string nm) := cell_bel h1 pa2; clear h1 HH2 pa0 pa2)
    | (go_at_call 14; refine (HH3.out _ HW1.out).mono ?_; rintro e wc ⟨rfl, h1⟩; have HW2 := hide (HW1.out.trans (h1.mono HW1.out.size)); clear h1 HH3 pb0 pb2))
  go_ret
  exact ⟨rfl, HW2.out⟩

set_option maxRecDepth 100000 in
set_option maxHeartbeats 8000000 in
/-- Behind a Remove. -/
theorem done_rem (vW vN u1 u2 : Value) (dw on : Int) (nm tt : ByteArray) (pb : Option Addr) (nb cb : Nat) (z kp ls : Int) (fl : Value) (w : World) (hd : dw = 4)
    (H1 : ∀ w1, Below w.heap.size w w1 → Calls Tryz.prog 13 #[vW, .string nm] w1 fun e w2 => e = .returned (.tuple #[u1, .bool true]) ∧ Below w1.heap.size w1 w2)
    (H2 : ∀ w1, Below w.heap.size w w1 → Calls Tryz.prog 13 #[vN, .string nm] w1 fun e w2 => e = .returned (.tuple #[u2, .bool false]) ∧ Below w1.heap.size w1 w2)
    (H3 : ∀ w1, Below w.heap.size w w1 → Calls Tryz.prog 37 #[vW, vN, .string nm, .string nm] w1 fun e w2 => e = .returned (.bool true) ∧ Below w1.heap.size w1 w2)
    : Calls Tryz.prog 15 #[vW, vN, opV dw on nm tt (.slice pb nb cb) z kp ls fl] w fun e w' => e = .returned (.bool true) ∧ Below w.heap.size w w' := by
  subst hd
  have HH1 := hide H1
  have HH2 := hide H2
  have HH3 := hide H3
  clear H1 H2 H3
  unfold opV
  obtain ⟨W0, hW0⟩ : ∃ W0, w.alloc (.cells #[.int .i64 (4), .int .i64 on, .string nm, .string tt, .slice pb nb cb, .int .i64 z, .int .i64 kp, .int .i64 ls, fl] 36) = W0 := ⟨_, rfl⟩
  have hb0 : Below w.heap.size w W0 := by rw [← hW0]; exact (Below.refl _ _).alloc (Nat.le_refl _) _
  have hrow : W0.heap[w.heap.size]? = some (.cells #[.int .i64 (4), .int .i64 on, .string nm, .string tt, .slice pb nb cb, .int .i64 z, .int .i64 kp, .int .i64 ls, fl] 36 (0, 0)) := by rw [← hW0]; exact heap_alloc_new w _
  have q0 : W0.cell? ⟨w.heap.size, 0, none⟩ = some (.int .i64 4) := cell_of_row _ _ _ _ _ _ hrow
  have q2 : W0.cell? ⟨w.heap.size, 2, none⟩ = some (.string nm) := cell_of_row _ _ _ _ _ _ hrow
  have HB0 := hide hb0
  clear hb0 hrow
  go_enter Tryz.func15, Tryz.ntmps15
  go_wp2_with (first
    | (go_at_call 13; refine (HH1.out _ HB0.out).mono ?_; rintro e wa ⟨rfl, h1⟩; have HW0 := hide (HB0.out.trans (h1.mono HB0.out.size)); have pa0 : wa.cell? ⟨w.heap.size, 0, none⟩ = some (.int .i64 4) := cell_bel h1 q0; have pa2 : wa.cell? ⟨w.heap.size, 2, none⟩ = some (.string nm) := cell_bel h1 q2; clear h1 HH1 hW0 q0 q2)
    | (go_at_call 13; refine (HH2.out _ HW0.out).mono ?_; rintro e wb ⟨rfl, h1⟩; have HW1 := hide (HW0.out.trans (h1.mono HW0.out.size)); have pb0 : wb.cell? ⟨w.heap.size, 0, none⟩ = some (.int .i64 4) := cell_bel h1 pa0; have pb2 : wb.cell? ⟨w.heap.size, 2, none⟩ = some (.string nm) := cell_bel h1 pa2; clear h1 HH2 pa0 pa2)
    | (go_at_call 37; refine (HH3.out _ HW1.out).mono ?_; rintro e wc ⟨rfl, h1⟩; have HW2 := hide (HW1.out.trans (h1.mono HW1.out.size)); clear h1 HH3 pb0 pb2))
  go_ret
  exact ⟨rfl, HW2.out⟩

set_option maxRecDepth 100000 in
set_option maxHeartbeats 8000000 in
/-- Behind a Rename to its own name. -/
theorem done_same (vW vN u1 u2 : Value) (dw on : Int) (nm tt : ByteArray) (pb : Option Addr) (nb cb : Nat) (z kp ls : Int) (fl : Value) (w : World) (hd : dw = 3) (u3 : Value) (has2 has3 : Bool) (htt : nm = tt)
    (H1 : ∀ w1, Below w.heap.size w w1 → Calls Tryz.prog 13 #[vW, .string nm] w1 fun e w2 => e = .returned (.tuple #[u1, .bool true]) ∧ Below w1.heap.size w1 w2)
    (H2 : ∀ w1, Below w.heap.size w w1 → Calls Tryz.prog 13 #[vN, .string nm] w1 fun e w2 => e = .returned (.tuple #[u2, .bool has2]) ∧ Below w1.heap.size w1 w2)
    (H4 : ∀ w1, Below w.heap.size w w1 → Calls Tryz.prog 13 #[vN, .string nm] w1 fun e w2 => e = .returned (.tuple #[u3, .bool has3]) ∧ Below w1.heap.size w1 w2)
    (H3 : ∀ w1, Below w.heap.size w w1 → Calls Tryz.prog 14 #[vW, vN] w1 fun e w2 => e = .returned (.bool true) ∧ Below w1.heap.size w1 w2)
    : Calls Tryz.prog 15 #[vW, vN, opV dw on nm tt (.slice pb nb cb) z kp ls fl] w fun e w' => e = .returned (.bool true) ∧ Below w.heap.size w w' := by
  subst hd
  subst htt
  have HH1 := hide H1
  have HH2 := hide H2
  have HH3 := hide H3
  have HH4 := hide H4
  clear H1 H2 H3 H4
  unfold opV
  obtain ⟨W0, hW0⟩ : ∃ W0, w.alloc (.cells #[.int .i64 (3), .int .i64 on, .string nm, .string nm, .slice pb nb cb, .int .i64 z, .int .i64 kp, .int .i64 ls, fl] 36) = W0 := ⟨_, rfl⟩
  have hb0 : Below w.heap.size w W0 := by rw [← hW0]; exact (Below.refl _ _).alloc (Nat.le_refl _) _
  have hrow : W0.heap[w.heap.size]? = some (.cells #[.int .i64 (3), .int .i64 on, .string nm, .string nm, .slice pb nb cb, .int .i64 z, .int .i64 kp, .int .i64 ls, fl] 36 (0, 0)) := by rw [← hW0]; exact heap_alloc_new w _
  have q0 : W0.cell? ⟨w.heap.size, 0, none⟩ = some (.int .i64 3) := cell_of_row _ _ _ _ _ _ hrow
  have q2 : W0.cell? ⟨w.heap.size, 2, none⟩ = some (.string nm) := cell_of_row _ _ _ _ _ _ hrow
  have q3 : W0.cell? ⟨w.heap.size, 3, none⟩ = some (.string nm) := cell_of_row _ _ _ _ _ _ hrow
  have HB0 := hide hb0
  clear hb0 hrow
  go_enter Tryz.func15, Tryz.ntmps15
  go_wp2_with (first
    | (go_at_call 13; refine (HH1.out _ HB0.out).mono ?_; rintro e wa ⟨rfl, h1⟩; have HW0 := hide (HB0.out.trans (h1.mono HB0.out.size)); have pa0 : wa.cell? ⟨w.heap.size, 0, none⟩ = some (.int .i64 3) := cell_bel h1 q0; have pa2 : wa.cell? ⟨w.heap.size, 2, none⟩ = some (.string nm) := cell_bel h1 q2; have pa3 : wa.cell? ⟨w.heap.size, 3, none⟩ = some (.string nm) := cell_bel h1 q3; clear h1 HH1 hW0 q0 q2 q3)
    | (go_at_call 13; refine (HH2.out _ HW0.out).mono ?_; rintro e wb ⟨rfl, h1⟩; have HW1 := hide (HW0.out.trans (h1.mono HW0.out.size)); have pb0 : wb.cell? ⟨w.heap.size, 0, none⟩ = some (.int .i64 3) := cell_bel h1 pa0; have pb2 : wb.cell? ⟨w.heap.size, 2, none⟩ = some (.string nm) := cell_bel h1 pa2; have pb3 : wb.cell? ⟨w.heap.size, 3, none⟩ = some (.string nm) := cell_bel h1 pa3; clear h1 HH2 pa0 pa2 pa3)
    | (go_at_call 13; refine (HH4.out _ HW1.out).mono ?_; rintro e wc ⟨rfl, h1⟩; have HW2 := hide (HW1.out.trans (h1.mono HW1.out.size)); have pc0 : wc.cell? ⟨w.heap.size, 0, none⟩ = some (.int .i64 3) := cell_bel h1 pb0; have pc2 : wc.cell? ⟨w.heap.size, 2, none⟩ = some (.string nm) := cell_bel h1 pb2; have pc3 : wc.cell? ⟨w.heap.size, 3, none⟩ = some (.string nm) := cell_bel h1 pb3; clear h1 HH4 pb0 pb2 pb3)
    | (go_at_call 14; refine (HH3.out _ HW2.out).mono ?_; rintro e wd ⟨rfl, h1⟩; have HW3 := hide (HW2.out.trans (h1.mono HW2.out.size)); clear h1 HH3 pc0 pc2 pc3))
  go_ret
  exact ⟨rfl, HW3.out⟩

set_option maxRecDepth 100000 in
set_option maxHeartbeats 8000000 in
/-- Behind a Rename to another name. -/
theorem done_ren (vW vN u1 u2 : Value) (dw on : Int) (nm tt : ByteArray) (pb : Option Addr) (nb cb : Nat) (z kp ls : Int) (fl : Value) (w : World) (hd : dw = 3) (u3 : Value) (hne : ¬ nm = tt)
    (H1 : ∀ w1, Below w.heap.size w w1 → Calls Tryz.prog 13 #[vW, .string nm] w1 fun e w2 => e = .returned (.tuple #[u1, .bool true]) ∧ Below w1.heap.size w1 w2)
    (H2 : ∀ w1, Below w.heap.size w w1 → Calls Tryz.prog 13 #[vN, .string nm] w1 fun e w2 => e = .returned (.tuple #[u2, .bool false]) ∧ Below w1.heap.size w1 w2)
    (H4 : ∀ w1, Below w.heap.size w w1 → Calls Tryz.prog 13 #[vN, .string tt] w1 fun e w2 => e = .returned (.tuple #[u3, .bool true]) ∧ Below w1.heap.size w1 w2)
    (H5 : ∀ w1, Below w.heap.size w w1 → Calls Tryz.prog 38 #[u3, u1] w1 fun e w2 => e = .returned (.bool true) ∧ Below w1.heap.size w1 w2)
    (H3 : ∀ w1, Below w.heap.size w w1 → Calls Tryz.prog 37 #[vW, vN, .string nm, .string tt] w1 fun e w2 => e = .returned (.bool true) ∧ Below w1.heap.size w1 w2)
    : Calls Tryz.prog 15 #[vW, vN, opV dw on nm tt (.slice pb nb cb) z kp ls fl] w fun e w' => e = .returned (.bool true) ∧ Below w.heap.size w w' := by
  subst hd
  have HH1 := hide H1
  have HH2 := hide H2
  have HH3 := hide H3
  have HH4 := hide H4
  have HH5 := hide H5
  have hse := str_ne hne
  clear H1 H2 H3 H4 H5
  unfold opV
  obtain ⟨W0, hW0⟩ : ∃ W0, w.alloc (.cells #[.int .i64 (3), .int .i64 on, .string nm, .string tt, .slice pb nb cb, .int .i64 z, .int .i64 kp, .int .i64 ls, fl] 36) = W0 := ⟨_, rfl⟩
  have hb0 : Below w.heap.size w W0 := by rw [← hW0]; exact (Below.refl _ _).alloc (Nat.le_refl _) _
  have hrow : W0.heap[w.heap.size]? = some (.cells #[.int .i64 (3), .int .i64 on, .string nm, .string tt, .slice pb nb cb, .int .i64 z, .int .i64 kp, .int .i64 ls, fl] 36 (0, 0)) := by rw [← hW0]; exact heap_alloc_new w _
  have q0 : W0.cell? ⟨w.heap.size, 0, none⟩ = some (.int .i64 3) := cell_of_row _ _ _ _ _ _ hrow
  have q2 : W0.cell? ⟨w.heap.size, 2, none⟩ = some (.string nm) := cell_of_row _ _ _ _ _ _ hrow
  have q3 : W0.cell? ⟨w.heap.size, 3, none⟩ = some (.string tt) := cell_of_row _ _ _ _ _ _ hrow
  have HB0 := hide hb0
  clear hb0 hrow
  go_enter Tryz.func15, Tryz.ntmps15
  go_wp2_with (first
    | (simp only [hse])
    | (go_at_call 13; refine (HH1.out _ HB0.out).mono ?_; rintro e wa ⟨rfl, h1⟩; have HW0 := hide (HB0.out.trans (h1.mono HB0.out.size)); have pa0 : wa.cell? ⟨w.heap.size, 0, none⟩ = some (.int .i64 3) := cell_bel h1 q0; have pa2 : wa.cell? ⟨w.heap.size, 2, none⟩ = some (.string nm) := cell_bel h1 q2; have pa3 : wa.cell? ⟨w.heap.size, 3, none⟩ = some (.string tt) := cell_bel h1 q3; clear h1 HH1 hW0 q0 q2 q3)
    | (go_at_call 13; refine (HH2.out _ HW0.out).mono ?_; rintro e wb ⟨rfl, h1⟩; have HW1 := hide (HW0.out.trans (h1.mono HW0.out.size)); have pb0 : wb.cell? ⟨w.heap.size, 0, none⟩ = some (.int .i64 3) := cell_bel h1 pa0; have pb2 : wb.cell? ⟨w.heap.size, 2, none⟩ = some (.string nm) := cell_bel h1 pa2; have pb3 : wb.cell? ⟨w.heap.size, 3, none⟩ = some (.string tt) := cell_bel h1 pa3; clear h1 HH2 pa0 pa2 pa3)
    | (go_at_call 13; refine (HH4.out _ HW1.out).mono ?_; rintro e wc ⟨rfl, h1⟩; have HW2 := hide (HW1.out.trans (h1.mono HW1.out.size)); have pc0 : wc.cell? ⟨w.heap.size, 0, none⟩ = some (.int .i64 3) := cell_bel h1 pb0; have pc2 : wc.cell? ⟨w.heap.size, 2, none⟩ = some (.string nm) := cell_bel h1 pb2; have pc3 : wc.cell? ⟨w.heap.size, 3, none⟩ = some (.string tt) := cell_bel h1 pb3; clear h1 HH4 pb0 pb2 pb3)
    | (go_at_call 38; refine (HH5.out _ HW2.out).mono ?_; rintro e wd ⟨rfl, h1⟩; have HW3 := hide (HW2.out.trans (h1.mono HW2.out.size)); have pd0 : wd.cell? ⟨w.heap.size, 0, none⟩ = some (.int .i64 3) := cell_bel h1 pc0; have pd2 : wd.cell? ⟨w.heap.size, 2, none⟩ = some (.string nm) := cell_bel h1 pc2; have pd3 : wd.cell? ⟨w.heap.size, 3, none⟩ = some (.string tt) := cell_bel h1 pc3; clear h1 HH5 pc0 pc2 pc3)
    | (go_at_call 37; refine (HH3.out _ HW3.out).mono ?_; rintro e we ⟨rfl, h1⟩; have HW4 := hide (HW3.out.trans (h1.mono HW3.out.size)); clear h1 HH3 pd0 pd2 pd3))
  go_ret
  exact ⟨rfl, HW4.out⟩

set_option maxRecDepth 100000 in
set_option maxHeartbeats 8000000 in
/-- Behind a Cut. -/
theorem done_cut (vW vN u2 : Value) (dw on : Int) (nm tt : ByteArray) (pb : Option Addr) (nb cb : Nat) (z kp ls : Int) (fl : Value) (w : World) (hd : dw = 2) (p1 pL : Option Addr) (n1 c1 k : Nat) (hz : z = (k : Int)) (hk : k ≤ n1) (hn1 : n1 ≤ 1000000000) (hsL : ∀ w1, (Instr.slice 33 (.slice p1 n1 c1) none (some (.int .i64 (k : Int))) none).run Tryz.prog w1 = .ok (.slice pL k c1) w1)
    (H1 : ∀ w1, Below w.heap.size w w1 → Calls Tryz.prog 13 #[vW, .string nm] w1 fun e w2 => e = .returned (.tuple #[.slice p1 n1 c1, .bool true]) ∧ Below w1.heap.size w1 w2)
    (H2 : ∀ w1, Below w.heap.size w w1 → Calls Tryz.prog 13 #[vN, .string nm] w1 fun e w2 => e = .returned (.tuple #[u2, .bool true]) ∧ Below w1.heap.size w1 w2)
    (H5 : ∀ w1, Below w.heap.size w w1 → Calls Tryz.prog 38 #[u2, .slice pL k c1] w1 fun e w2 => e = .returned (.bool true) ∧ Below w1.heap.size w1 w2)
    (H3 : ∀ w1, Below w.heap.size w w1 → Calls Tryz.prog 37 #[vW, vN, .string nm, .string nm] w1 fun e w2 => e = .returned (.bool true) ∧ Below w1.heap.size w1 w2)
    : Calls Tryz.prog 15 #[vW, vN, opV dw on nm tt (.slice pb nb cb) z kp ls fl] w fun e w' => e = .returned (.bool true) ∧ Below w.heap.size w w' := by
  subst hd
  have HH1 := hide H1
  have HH2 := hide H2
  have HH3 := hide H3
  have HH5 := hide H5
  subst hz
  have hsL' : ∀ w1, (Instr.sliceAt 33 (.slice p1 n1 c1) none (some (.int .i64 (k : Int))) none).run Tryz.prog w1 = .ok (.slice pL k c1) w1 := fun w1 => by rw [run_sliceAt_slice (P := Tryz.prog) (t := 33) (h := Tryz.underlying33)]; exact hsL w1
  have g1 : (0 : Int) ≤ (k : Int) := by omega
  have g2 : (k : Int) ≤ (n1 : Int) := by omega
  clear H1 H2 H3 H5
  unfold opV
  obtain ⟨W0, hW0⟩ : ∃ W0, w.alloc (.cells #[.int .i64 (2), .int .i64 on, .string nm, .string tt, .slice pb nb cb, .int .i64 (k : Int), .int .i64 kp, .int .i64 ls, fl] 36) = W0 := ⟨_, rfl⟩
  have hb0 : Below w.heap.size w W0 := by rw [← hW0]; exact (Below.refl _ _).alloc (Nat.le_refl _) _
  have hrow : W0.heap[w.heap.size]? = some (.cells #[.int .i64 (2), .int .i64 on, .string nm, .string tt, .slice pb nb cb, .int .i64 (k : Int), .int .i64 kp, .int .i64 ls, fl] 36 (0, 0)) := by rw [← hW0]; exact heap_alloc_new w _
  have q0 : W0.cell? ⟨w.heap.size, 0, none⟩ = some (.int .i64 2) := cell_of_row _ _ _ _ _ _ hrow
  have q2 : W0.cell? ⟨w.heap.size, 2, none⟩ = some (.string nm) := cell_of_row _ _ _ _ _ _ hrow
  have q5 : W0.cell? ⟨w.heap.size, 5, none⟩ = some (.int .i64 (k : Int)) := cell_of_row _ _ _ _ _ _ hrow
  have HB0 := hide hb0
  clear hb0 hrow
  go_enter Tryz.func15, Tryz.ntmps15
  go_wp2_with (first
    | (go_at_call 13; refine (HH1.out _ HB0.out).mono ?_; rintro e wa ⟨rfl, h1⟩; have HW0 := hide (HB0.out.trans (h1.mono HB0.out.size)); have pa0 : wa.cell? ⟨w.heap.size, 0, none⟩ = some (.int .i64 2) := cell_bel h1 q0; have pa2 : wa.cell? ⟨w.heap.size, 2, none⟩ = some (.string nm) := cell_bel h1 q2; have pa5 : wa.cell? ⟨w.heap.size, 5, none⟩ = some (.int .i64 (k : Int)) := cell_bel h1 q5; clear h1 HH1 hW0 q0 q2 q5)
    | (go_at_call 13; refine (HH2.out _ HW0.out).mono ?_; rintro e wb ⟨rfl, h1⟩; have HW1 := hide (HW0.out.trans (h1.mono HW0.out.size)); have pb0 : wb.cell? ⟨w.heap.size, 0, none⟩ = some (.int .i64 2) := cell_bel h1 pa0; have pb2 : wb.cell? ⟨w.heap.size, 2, none⟩ = some (.string nm) := cell_bel h1 pa2; have pb5 : wb.cell? ⟨w.heap.size, 5, none⟩ = some (.int .i64 (k : Int)) := cell_bel h1 pa5; clear h1 HH2 pa0 pa2 pa5)
    | (go_at_call 38; refine (HH5.out _ HW1.out).mono ?_; rintro e wc ⟨rfl, h1⟩; have HW2 := hide (HW1.out.trans (h1.mono HW1.out.size)); have pc0 : wc.cell? ⟨w.heap.size, 0, none⟩ = some (.int .i64 2) := cell_bel h1 pb0; have pc2 : wc.cell? ⟨w.heap.size, 2, none⟩ = some (.string nm) := cell_bel h1 pb2; have pc5 : wc.cell? ⟨w.heap.size, 5, none⟩ = some (.int .i64 (k : Int)) := cell_bel h1 pb5; clear h1 HH5 pb0 pb2 pb5)
    | (go_at_call 37; refine (HH3.out _ HW2.out).mono ?_; rintro e wd ⟨rfl, h1⟩; have HW3 := hide (HW2.out.trans (h1.mono HW2.out.size)); clear h1 HH3 pc0 pc2 pc5))
  go_ret
  exact ⟨rfl, HW3.out⟩

end Go.Proofs.YtlandfghodfjdaaGreat

namespace Go.Proofs.YtlandfghodfjdaaGreat
open Go.RowKit
set_option linter.unusedVariables false
set_option linter.unusedSimpArgs false

set_option maxRecDepth 100000 in
set_option maxHeartbeats 8000000 in
/-- Behind an Append. -/
theorem done_app (vW vN u1 u2 : Value) (dw on : Int) (nm tt : ByteArray) (pb : Option Addr) (nb cb : Nat) (z kp ls : Int) (fl : Value) (w : World) (hd : dw = 1) (s1 s2 s3 : ByteArray) (has1 : Bool) (hno : ¬ (s1.size + s3.size > 9223372036854775807)) (hs2 : s1 ++ s3 = s2)
    (H1 : ∀ w1, Below w.heap.size w w1 → Calls Tryz.prog 13 #[vW, .string nm] w1 fun e w2 => e = .returned (.tuple #[u1, .bool has1]) ∧ Below w1.heap.size w1 w2)
    (H2 : ∀ w1, Below w.heap.size w w1 → Calls Tryz.prog 13 #[vN, .string nm] w1 fun e w2 => e = .returned (.tuple #[u2, .bool true]) ∧ Below w1.heap.size w1 w2)
    (H5 : ∀ w1, Below w.heap.size w w1 → (convert 33 9 u2).run Tryz.prog w1 = .ok (.string s2) w1)
    (H6 : ∀ w1, Below w.heap.size w w1 → (convert 33 9 u1).run Tryz.prog w1 = .ok (.string s1) w1)
    (H7 : ∀ w1, Below w.heap.size w w1 → (convert 33 9 (.slice pb nb cb)).run Tryz.prog w1 = .ok (.string s3) w1)
    (H3 : ∀ w1, Below w.heap.size w w1 → Calls Tryz.prog 37 #[vW, vN, .string nm, .string nm] w1 fun e w2 => e = .returned (.bool true) ∧ Below w1.heap.size w1 w2)
    : Calls Tryz.prog 15 #[vW, vN, opV dw on nm tt (.slice pb nb cb) z kp ls fl] w fun e w' => e = .returned (.bool true) ∧ Below w.heap.size w w' := by
  subst hd
  have HH1 := hide H1
  have HH2 := hide H2
  have HH3 := hide H3
  have HH5 := hide H5
  have HH6 := hide H6
  have HH7 := hide H7
  have H8 : ∀ w1, (Op.stringOp .add s1 s3).run Tryz.prog w1 = .ok (.string s2) w1 := fun w1 => by rw [run_string_add_sum w1 s1 s3 (by omega), hs2]
  have hle : s1.size + s3.size ≤ 9223372036854775807 := by omega
  have HS2 := hide hs2
  clear hs2
  clear H1 H2 H3 H5 H6 H7
  unfold opV
  obtain ⟨W0, hW0⟩ : ∃ W0, w.alloc (.cells #[.int .i64 (1), .int .i64 on, .string nm, .string tt, .slice pb nb cb, .int .i64 z, .int .i64 kp, .int .i64 ls, fl] 36) = W0 := ⟨_, rfl⟩
  have hb0 : Below w.heap.size w W0 := by rw [← hW0]; exact (Below.refl _ _).alloc (Nat.le_refl _) _
  have hrow : W0.heap[w.heap.size]? = some (.cells #[.int .i64 (1), .int .i64 on, .string nm, .string tt, .slice pb nb cb, .int .i64 z, .int .i64 kp, .int .i64 ls, fl] 36 (0, 0)) := by rw [← hW0]; exact heap_alloc_new w _
  have q0 : W0.cell? ⟨w.heap.size, 0, none⟩ = some (.int .i64 1) := cell_of_row _ _ _ _ _ _ hrow
  have q2 : W0.cell? ⟨w.heap.size, 2, none⟩ = some (.string nm) := cell_of_row _ _ _ _ _ _ hrow
  have q4 : W0.cell? ⟨w.heap.size, 4, none⟩ = some (.slice pb nb cb) := cell_of_row _ _ _ _ _ _ hrow
  have HB0 := hide hb0
  clear hb0 hrow
  go_enter Tryz.func15, Tryz.ntmps15
  go_wp2_with (first
    | (simp only [H8])
    | (simp only [if_neg hno, HS2.out])
    | (simp only [kv1])
    | (simp only [kv2])
    | (simp only [kv3])
    | (go_at_call 13; refine (HH1.out _ HB0.out).mono ?_; rintro e wa ⟨rfl, h1⟩; have HW0 := hide (HB0.out.trans (h1.mono HB0.out.size)); have pa0 : wa.cell? ⟨w.heap.size, 0, none⟩ = some (.int .i64 1) := cell_bel h1 q0; have pa2 : wa.cell? ⟨w.heap.size, 2, none⟩ = some (.string nm) := cell_bel h1 q2; have pa4 : wa.cell? ⟨w.heap.size, 4, none⟩ = some (.slice pb nb cb) := cell_bel h1 q4; clear h1 HH1 hW0 q0 q2 q4)
    | (go_at_call 13; refine (HH2.out _ HW0.out).mono ?_; rintro e wb ⟨rfl, h1⟩; have HW1 := hide (HW0.out.trans (h1.mono HW0.out.size)); have pb0 : wb.cell? ⟨w.heap.size, 0, none⟩ = some (.int .i64 1) := cell_bel h1 pa0; have pb2 : wb.cell? ⟨w.heap.size, 2, none⟩ = some (.string nm) := cell_bel h1 pa2; have pb4 : wb.cell? ⟨w.heap.size, 4, none⟩ = some (.slice pb nb cb) := cell_bel h1 pa4; have kv1 := HH5.out wb HW1.out; have kv2 := HH6.out wb HW1.out; have kv3 := HH7.out wb HW1.out; clear HH5 HH6 HH7; clear h1 HH2 pa0 pa2 pa4)
    | (go_at_call 37; refine (HH3.out _ HW1.out).mono ?_; rintro e wc ⟨rfl, h1⟩; have HW2 := hide (HW1.out.trans (h1.mono HW1.out.size)); clear h1 HH3 pb0 pb2 pb4))
  go_ret
  exact ⟨rfl, HW2.out⟩

end Go.Proofs.YtlandfghodfjdaaGreat

/- The contracts of pack's width, fieldWidth, windows; pick (32 bits). -/
import Derived.Test.YtenhippcjnemcaaDoorP1T
import Derived.Deep.RegionHeld3
import Derived.Laws.Tables
import Derived.Great.Walk
namespace Go.Proofs.YtenhippcjnemcaaDoor
open Go.RowKit
open M
set_option linter.unusedVariables false
set_option linter.unusedSimpArgs false

theorem width32_any (w : World) : Calls Tryd.prog 31 #[] w fun e w' => e = .returned (.int .i64 32) ∧ w' = w := by
  have hx : bits BinOp.xor IntKind.u32 0 4294967295 = 4294967295 := by decide +kernel
  have HL := hide (len64_all 4294967295 w (by omega))
  rw [show bitLen 4294967295 = 32 from by decide +kernel] at HL
  go_enter Tryd.func31, Tryd.ntmps31
  go_wp2_with fail
  refine HL.out.mono ?_
  rintro e w1 ⟨rfl, rfl⟩
  go_wp2_with fail
  go_ret
  exact ⟨rfl, rfl⟩

theorem fieldWidth32_any (w : World) : Calls Tryd.prog 57 #[] w fun e w' => e = .returned (.int .i64 5) ∧ w' = w := by
  have HL := hide (len64_all 31 w (by omega))
  rw [show bitLen 31 = 5 from by decide +kernel] at HL
  go_enter Tryd.func57, Tryd.ntmps57
  go_wp2_with fail
  refine (width32_any w).mono ?_
  rintro e w1 ⟨rfl, rfl⟩
  go_wp2_with fail
  refine HL.out.mono ?_
  rintro e w1 ⟨rfl, rfl⟩
  go_wp2_with fail
  go_ret
  exact ⟨rfl, rfl⟩

/-- A window as a value. -/
def wn32 (L N : Nat) : Value := .agg #[.int .i64 (L : Int), .int .i64 (N : Int)]

theorem is_struct32 {o p : Option TypeDesc} (e : p = o) (h : (match o with | some (.struct _) => true | _ => false) = true) : ∃ fs, p = some (.struct fs) := by
  subst e
  cases p with
  | none => simp at h
  | some d => cases d <;> first | exact ⟨_, rfl⟩ | simp at h

set_option maxRecDepth 100000 in
set_option maxHeartbeats 1000000 in
theorem windowOf32_any (x : Nat) (w : World) (hx : x < 4294967296) (h0 : x ≠ 0) (hT : Tab64 w) : Calls Tryd.prog 58 #[.int .u32 x] w fun e w' => e = .returned (.agg #[.int .i64 ((32 - bitLen x : Nat) : Int), .int .i64 (wl x : Int)]) ∧ Below w.heap.size w w' := by
  have hb := bitLen_le x 32 hx
  have ht := tz_lt x h0 (by omega)
  obtain ⟨B, hB⟩ : ∃ B, B = bitLen x := ⟨_, rfl⟩
  obtain ⟨Z, hZ⟩ : ∃ Z, Z = tz x := ⟨_, rfl⟩
  obtain ⟨L, hL⟩ : ∃ L, L = 32 - bitLen x := ⟨_, rfl⟩
  obtain ⟨N, hN⟩ : ∃ N, N = wl x := ⟨_, rfl⟩
  have q1 : (32 : Int) - (B : Int) = (L : Int) := by omega
  have q2 : wl x = bitLen x - tz x := rfl
  have q3 : (32 : Int) - (L : Int) = (B : Int) := by omega
  have q4 : (B : Int) - (Z : Int) = (N : Int) := by omega
  have HL : Hid (∀ w : World, Calls Tryd.prog 37 #[.int .u64 x] w fun e w' => e = .returned (.int .i64 (B : Int)) ∧ w' = w) := fun w => by rw [hB]; exact len64_all x w (by omega)
  have HZ : Hid (∀ w : World, Tab64 w → Calls Tryd.prog 61 #[.int .u64 x] w fun e w' => e = .returned (.int .i64 (Z : Int)) ∧ w' = w) := fun w h => by rw [hZ]; exact tz64_any x w (by omega) h0 h
  rw [← hL, ← hN]
  have r0 : IntKind.u64.wrap (x : Int) = (x : Int) := by rw [IntKind.wrap_u64]; omega
  have HT : Hid (Tab64 (w.alloc (.cells #[.int .i64 0, .int .i64 0] 78))) := hT.below ((Below.refl _ w).alloc (Nat.le_refl _) _)
  have HX := hide hx
  clear hB hZ hL hN q2 hT hx hb ht h0
  go_enter Tryd.func58, Tryd.ntmps58
  go_wp2_with fail
  refine (width32_any _).mono ?_
  rintro e w1 ⟨rfl, rfl⟩
  go_wp2_with fail
  refine (HL.out _).mono ?_
  rintro e w1 ⟨rfl, rfl⟩
  go_wp2_with fail
  refine (HZ.out _ HT.out).mono ?_
  rintro e w1 ⟨rfl, rfl⟩
  go_wp2_with fail
  refine (width32_any _).mono ?_
  rintro e w1 ⟨rfl, rfl⟩
  go_wp2_with fail
  obtain ⟨fs, hu⟩ := is_struct32 (show Tryd.prog.underlying 78 = Tryd.prog.underlying 78 from rfl) (by kernel_rfl)
  first
    | (refine bodyPost_ret (results_cell_row rfl _ _ w.heap.size _ _ (0, 0) (.struct fs) rfl (heap_alloc_new w _) hu rfl (by kernel_rfl)) rfl ?_
       exact ⟨rfl, ((Below.refl _ w).alloc (Nat.le_refl _) _)⟩)
    | trace_state

theorem behind32_any (L N s : Nat) (w : World) (h : L + N + s = 32) : Calls Tryd.prog 47 #[wn32 L N] w fun e w' => e = .returned (.int .i64 (s : Int)) ∧ Below w.heap.size w w' := by
  have q1 : (32 : Int) - (L : Int) = ((N + s : Nat) : Int) := by omega
  have q2 : ((N + s : Nat) : Int) - (N : Int) = (s : Int) := by omega
  generalize N + s = Z at *
  unfold wn32
  go_enter Tryd.func47, Tryd.ntmps47
  go_wp2_with fail
  go_quiet ((go_at_call 31; exact Calls.quiet_of_same (width32_any _)))
  go_wp2_with fail
  go_ret
  exact ⟨rfl, below_drewN ((Below.refl _ w).alloc (Nat.le_refl _) _) _⟩

theorem behindZ32_any (L N : Nat) (z : Int) (w : World) (hL : L ≤ 64) (hN : N ≤ 64) (h : z = (32 : Int) - L - N) : Calls Tryd.prog 47 #[wn32 L N] w fun e w' => e = .returned (.int .i64 z) ∧ Below w.heap.size w w' := by
  obtain ⟨y, hy⟩ : ∃ y : Int, y = (32 : Int) - L := ⟨_, rfl⟩
  have q1 : (32 : Int) - (L : Int) = y := by omega
  have q2 : y - (N : Int) = z := by omega
  have r1 : wrap64 y = y := by unfold wrap64; omega
  have r2 : wrap64 z = z := by unfold wrap64; omega
  have r3 : IntKind.i64.wrap y = y := by rw [IntKind.wrap_i64]; omega
  have r4 : IntKind.i64.wrap z = z := by rw [IntKind.wrap_i64]; omega
  have HH := hide h
  have HY := hide hy
  clear h hy
  unfold wn32
  go_enter Tryd.func47, Tryd.ntmps47
  go_wp2_with fail
  go_quiet ((go_at_call 31; exact Calls.quiet_of_same (width32_any _)))
  go_wp2_with fail
  go_ret
  exact ⟨rfl, below_drewN ((Below.refl _ w).alloc (Nat.le_refl _) _) _⟩

/-- How many bits stand behind a window. -/
def bh32 (L N : Nat) : Nat := 32 - L - N
theorem behindN32_any (L N : Nat) (w : World) (h : L + N ≤ 32) : Calls Tryd.prog 47 #[.agg #[.int .i64 (L : Int), .int .i64 (N : Int)]] w fun e w' => e = .returned (.int .i64 (bh32 L N : Int)) ∧ Below w.heap.size w w' := behind32_any L N _ w (by unfold bh32; omega)

/-- A window that is none, or lies within a value, stands if it is one. -/
theorem stands32_any (L N : Nat) (w : World) (h : L + N ≤ 32) : Calls Tryd.prog 46 #[wn32 L N] w fun e w' => e = .returned (.bool (decide (0 < N))) ∧ Below w.heap.size w w' := by
  by_cases h0 : N = 0
  · subst h0
    unfold wn32
    go_enter Tryd.func46, Tryd.ntmps46
    go_wp2_with fail
    go_ret
    exact ⟨rfl, ((Below.refl _ w).alloc (Nat.le_refl _) _)⟩
  · have hp : decide ((0 : Int) < (N : Int)) = true := by simp; omega
    rw [show decide (0 < N) = true from by simp; omega]
    have HB : Hid (∀ w, Calls Tryd.prog 47 #[.agg #[.int .i64 (L : Int), .int .i64 (N : Int)]] w fun e w' => e = .returned (.int .i64 ((32 - L - N : Nat) : Int)) ∧ Below w.heap.size w w') := fun w => behind32_any L N (32 - L - N) w (by omega)
    generalize 32 - L - N = s at *
    unfold wn32
    go_enter Tryd.func46, Tryd.ntmps46
    go_wp2_with fail
    refine (HB.out _).mono ?_
    rintro e w1 ⟨rfl, hb⟩
    have hb2 : Below w.heap.size w w1 := ((Below.refl _ w).alloc (Nat.le_refl _) _).trans (hb.mono (by simp))
    clear hb
    go_wp2_with fail
    go_ret
    exact ⟨rfl, hb2⟩

/-- A window that goes beyond the value does not. -/
theorem stands32_bad (L N : Nat) (w : World) (hL : L ≤ 64) (hN : N ≤ 64) (h : 32 < L + N) (h0 : 0 < N) : Calls Tryd.prog 46 #[wn32 L N] w fun e w' => e = .returned (.bool false) ∧ Below w.heap.size w w' := by
  have hp : decide ((0 : Int) < (N : Int)) = true := by simp; omega
  obtain ⟨z, hz⟩ : ∃ z : Int, z = (32 : Int) - L - N := ⟨_, rfl⟩
  have hz0 : decide ((0 : Int) ≤ z) = false := by simp; omega
  have HB : Hid (∀ w, Calls Tryd.prog 47 #[.agg #[.int .i64 (L : Int), .int .i64 (N : Int)]] w fun e w' => e = .returned (.int .i64 z) ∧ Below w.heap.size w w') := fun w => behindZ32_any L N z w hL hN hz
  unfold wn32
  have HZ := hide hz
  have HH := hide h
  clear hz h
  go_enter Tryd.func46, Tryd.ntmps46
  go_wp2_with fail
  refine (HB.out _).mono ?_
  rintro e w1 ⟨rfl, hb⟩
  have hb2 : Below w.heap.size w w1 := ((Below.refl _ w).alloc (Nat.le_refl _) _).trans (hb.mono (by simp))
  clear hb
  go_wp2_with fail
  go_ret
  exact ⟨rfl, hb2⟩

end Go.Proofs.YtenhippcjnemcaaDoor

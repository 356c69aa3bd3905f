/- The contracts of suits, pick (64 bits). -/
import Derived.Test.YtleffbpjjbiobaaGreatDoorC1M
import Derived.Test.YtleffbpjjbiobaaGreatDoorP1T
import Derived.Deep.RegionHeld3
import Derived.Laws.Tables
import Derived.Great.Walk
/- The contracts of code's width, layValue, takeValue (64 bits). -/
namespace Go.Proofs.YtleffbpjjbiobaaGreatDoor
open Go.RowKit
open M
set_option linter.unusedVariables false
set_option linter.unusedSimpArgs false

theorem clen64_any (x : Nat) (w : World) (hx : x < 18446744073709551616) : Calls Tryz.prog 112 #[.int .u64 x] w fun e w' => e = .returned (.int .i64 (bitLen x : Nat)) ∧ w' = w := by
  have HL := hide (len64_all x w hx)
  go_enter Tryz.func112, Tryz.ntmps112
  go_wp2_with fail
  refine HL.out.mono ?_
  rintro e w1 ⟨rfl, rfl⟩
  go_wp2_with fail
  go_ret
  exact ⟨rfl, rfl⟩

theorem cwidth64_any (w : World) : Calls Tryz.prog 104 #[] w fun e w' => e = .returned (.int .i64 64) ∧ w' = w := by
  have hx : bits BinOp.xor IntKind.u64 0 18446744073709551615 = 18446744073709551615 := by decide +kernel
  have HL := hide (clen64_any 18446744073709551615 w (by omega))
  rw [show bitLen 18446744073709551615 = 64 from by decide +kernel] at HL
  go_enter Tryz.func104, Tryz.ntmps104
  go_wp2_with fail
  refine HL.out.mono ?_
  rintro e w1 ⟨rfl, rfl⟩
  go_wp2_with fail
  go_ret
  exact ⟨rfl, rfl⟩

theorem layValue64_any (b off lo : Nat) (v : Nat) (w : World) (l : List Bool) (hW : Wr w lo b off l 0) (hb : b < lo) (hlo : lo ≤ w.heap.size) (hlen : l.length + 64 < 1000000000000) (hv : v < 18446744073709551616) :
    Calls Tryz.prog 84 #[.pointer (some ⟨b, off, none⟩), .int .u64 v] w fun e w' => e = .returned (.tuple #[]) ∧ Wr w' lo b off (l ++ bitsOf v 64) 0 ∧ Only b off (off + 123) w w' := by
  have r0 : IntKind.u64.wrap (v : Int) = (v : Int) := by rw [IntKind.wrap_u64]; omega
  have HW := hide hW
  clear hW
  go_enter Tryz.func84, Tryz.ntmps84
  go_wp2_with fail
  refine (cwidth64_any _).mono ?_
  rintro e w1 ⟨rfl, rfl⟩
  go_wp2_with fail
  refine (wbits_any b off lo 64 v _ l HW.out hb hlo hlen (by omega) (by omega) (by omega)).mono ?_
  rintro e w1 ⟨rfl, W1, O1⟩
  go_wp2_with fail
  go_end0
  exact ⟨rfl, W1, O1⟩

/-- What takeValue tells. -/
def ValueEnd64 (w : World) (b off : Nat) (s : ByteArray) (a : Nat) (e0 : Int) (e : Ending) (w' : World) : Prop :=
  ∃ (x a' : Nat) (e1 : Int), e = .returned (.int .u64 (x : Int)) ∧ x < 18446744073709551616 ∧ Tk w w' b off s a e0 a' e1 (bitsOf x 64)

theorem takeValue64_any (b off : Nat) (s : ByteArray) (a : Nat) (e0 : Int) (w : World) (h : Rd w b off s a e0) :
    Calls Tryz.prog 64 #[.pointer (some ⟨b, off, none⟩)] w (ValueEnd64 w b off s a e0) := by
  have H := hide h
  clear h
  go_enter Tryz.func64, Tryz.ntmps64
  go_wp2_with fail
  refine (cwidth64_any _).mono ?_
  rintro e w1 ⟨rfl, rfl⟩
  go_wp2_with fail
  refine (tk_bits b off s a 64 e0 _ H.out (by omega)).mono ?_
  rintro e w2 ⟨x, a', e1, rfl, hx, T⟩
  have HT := hide T
  clear T
  have hx' : x < 18446744073709551616 := by simpa using hx
  have r0 : IntKind.u64.wrap (x : Int) = (x : Int) := by rw [IntKind.wrap_u64]; omega
  go_wp2_with fail
  go_ret
  exact ⟨x, a', e1, rfl, hx', HT.out⟩

end Go.Proofs.YtleffbpjjbiobaaGreatDoor

/- The contracts of pack's width, fieldWidth, windows; pick (64 bits). -/
namespace Go.Proofs.YtleffbpjjbiobaaGreatDoor
open Go.RowKit
open M
set_option linter.unusedVariables false
set_option linter.unusedSimpArgs false

theorem width64_any (w : World) : Calls Tryz.prog 105 #[] w fun e w' => e = .returned (.int .i64 64) ∧ w' = w := by
  have hx : bits BinOp.xor IntKind.u64 0 18446744073709551615 = 18446744073709551615 := by decide +kernel
  have HL := hide (len64_all 18446744073709551615 w (by omega))
  rw [show bitLen 18446744073709551615 = 64 from by decide +kernel] at HL
  go_enter Tryz.func105, Tryz.ntmps105
  go_wp2_with fail
  refine HL.out.mono ?_
  rintro e w1 ⟨rfl, rfl⟩
  go_wp2_with fail
  go_ret
  exact ⟨rfl, rfl⟩

theorem fieldWidth64_any (w : World) : Calls Tryz.prog 168 #[] w fun e w' => e = .returned (.int .i64 6) ∧ w' = w := by
  have HL := hide (len64_all 63 w (by omega))
  rw [show bitLen 63 = 6 from by decide +kernel] at HL
  go_enter Tryz.func168, Tryz.ntmps168
  go_wp2_with fail
  refine (width64_any w).mono ?_
  rintro e w1 ⟨rfl, rfl⟩
  go_wp2_with fail
  refine HL.out.mono ?_
  rintro e w1 ⟨rfl, rfl⟩
  go_wp2_with fail
  go_ret
  exact ⟨rfl, rfl⟩

/-- A window as a value. -/
def wn64 (L N : Nat) : Value := .agg #[.int .i64 (L : Int), .int .i64 (N : Int)]

theorem is_struct64 {o p : Option TypeDesc} (e : p = o) (h : (match o with | some (.struct _) => true | _ => false) = true) : ∃ fs, p = some (.struct fs) := by
  subst e
  cases p with
  | none => simp at h
  | some d => cases d <;> first | exact ⟨_, rfl⟩ | simp at h

set_option maxRecDepth 100000 in
set_option maxHeartbeats 1000000 in
theorem windowOf64_any (x : Nat) (w : World) (hx : x < 18446744073709551616) (h0 : x ≠ 0) (hT : Tab64 w) : Calls Tryz.prog 169 #[.int .u64 x] w fun e w' => e = .returned (.agg #[.int .i64 ((64 - bitLen x : Nat) : Int), .int .i64 (wl x : Int)]) ∧ Below w.heap.size w w' := by
  have hb := bitLen_le x 64 hx
  have ht := tz_lt x h0 (by omega)
  obtain ⟨B, hB⟩ : ∃ B, B = bitLen x := ⟨_, rfl⟩
  obtain ⟨Z, hZ⟩ : ∃ Z, Z = tz x := ⟨_, rfl⟩
  obtain ⟨L, hL⟩ : ∃ L, L = 64 - bitLen x := ⟨_, rfl⟩
  obtain ⟨N, hN⟩ : ∃ N, N = wl x := ⟨_, rfl⟩
  have q1 : (64 : Int) - (B : Int) = (L : Int) := by omega
  have q2 : wl x = bitLen x - tz x := rfl
  have q3 : (64 : Int) - (L : Int) = (B : Int) := by omega
  have q4 : (B : Int) - (Z : Int) = (N : Int) := by omega
  have HL : Hid (∀ w : World, Calls Tryz.prog 138 #[.int .u64 x] w fun e w' => e = .returned (.int .i64 (B : Int)) ∧ w' = w) := fun w => by rw [hB]; exact len64_all x w (by omega)
  have HZ : Hid (∀ w : World, Tab64 w → Calls Tryz.prog 188 #[.int .u64 x] w fun e w' => e = .returned (.int .i64 (Z : Int)) ∧ w' = w) := fun w h => by rw [hZ]; exact tz64_any x w (by omega) h0 h
  rw [← hL, ← hN]
  have r0 : IntKind.u64.wrap (x : Int) = (x : Int) := by rw [IntKind.wrap_u64]; omega
  have HT : Hid (Tab64 (w.alloc (.cells #[.int .i64 0, .int .i64 0] 150))) := hT.below ((Below.refl _ w).alloc (Nat.le_refl _) _)
  have HX := hide hx
  clear hB hZ hL hN q2 hT hx hb ht h0
  go_enter Tryz.func169, Tryz.ntmps169
  go_wp2_with fail
  refine (width64_any _).mono ?_
  rintro e w1 ⟨rfl, rfl⟩
  go_wp2_with fail
  refine (HL.out _).mono ?_
  rintro e w1 ⟨rfl, rfl⟩
  go_wp2_with fail
  refine (HZ.out _ HT.out).mono ?_
  rintro e w1 ⟨rfl, rfl⟩
  go_wp2_with fail
  refine (width64_any _).mono ?_
  rintro e w1 ⟨rfl, rfl⟩
  go_wp2_with fail
  obtain ⟨fs, hu⟩ := is_struct64 (show Tryz.prog.underlying 150 = Tryz.prog.underlying 150 from rfl) (by kernel_rfl)
  first
    | (refine bodyPost_ret (results_cell_row rfl _ _ w.heap.size _ _ (0, 0) (.struct fs) rfl (heap_alloc_new w _) hu rfl (by kernel_rfl)) rfl ?_
       exact ⟨rfl, ((Below.refl _ w).alloc (Nat.le_refl _) _)⟩)
    | trace_state

theorem behind64_any (L N s : Nat) (w : World) (h : L + N + s = 64) : Calls Tryz.prog 142 #[wn64 L N] w fun e w' => e = .returned (.int .i64 (s : Int)) ∧ Below w.heap.size w w' := by
  have q1 : (64 : Int) - (L : Int) = ((N + s : Nat) : Int) := by omega
  have q2 : ((N + s : Nat) : Int) - (N : Int) = (s : Int) := by omega
  generalize N + s = Z at *
  unfold wn64
  go_enter Tryz.func142, Tryz.ntmps142
  go_wp2_with fail
  go_quiet ((go_at_call 105; exact Calls.quiet_of_same (width64_any _)))
  go_wp2_with fail
  go_ret
  exact ⟨rfl, below_drewN ((Below.refl _ w).alloc (Nat.le_refl _) _) _⟩

theorem behindZ64_any (L N : Nat) (z : Int) (w : World) (hL : L ≤ 64) (hN : N ≤ 64) (h : z = (64 : Int) - L - N) : Calls Tryz.prog 142 #[wn64 L N] w fun e w' => e = .returned (.int .i64 z) ∧ Below w.heap.size w w' := by
  obtain ⟨y, hy⟩ : ∃ y : Int, y = (64 : Int) - L := ⟨_, rfl⟩
  have q1 : (64 : Int) - (L : Int) = y := by omega
  have q2 : y - (N : Int) = z := by omega
  have r1 : wrap64 y = y := by unfold wrap64; omega
  have r2 : wrap64 z = z := by unfold wrap64; omega
  have r3 : IntKind.i64.wrap y = y := by rw [IntKind.wrap_i64]; omega
  have r4 : IntKind.i64.wrap z = z := by rw [IntKind.wrap_i64]; omega
  have HH := hide h
  have HY := hide hy
  clear h hy
  unfold wn64
  go_enter Tryz.func142, Tryz.ntmps142
  go_wp2_with fail
  go_quiet ((go_at_call 105; exact Calls.quiet_of_same (width64_any _)))
  go_wp2_with fail
  go_ret
  exact ⟨rfl, below_drewN ((Below.refl _ w).alloc (Nat.le_refl _) _) _⟩

/-- How many bits stand behind a window. -/
def bh64 (L N : Nat) : Nat := 64 - L - N
theorem behindN64_any (L N : Nat) (w : World) (h : L + N ≤ 64) : Calls Tryz.prog 142 #[.agg #[.int .i64 (L : Int), .int .i64 (N : Int)]] w fun e w' => e = .returned (.int .i64 (bh64 L N : Int)) ∧ Below w.heap.size w w' := behind64_any L N _ w (by unfold bh64; omega)

/-- A window that is none, or lies within a value, stands if it is one. -/
theorem stands64_any (L N : Nat) (w : World) (h : L + N ≤ 64) : Calls Tryz.prog 141 #[wn64 L N] w fun e w' => e = .returned (.bool (decide (0 < N))) ∧ Below w.heap.size w w' := by
  by_cases h0 : N = 0
  · subst h0
    unfold wn64
    go_enter Tryz.func141, Tryz.ntmps141
    go_wp2_with fail
    go_ret
    exact ⟨rfl, ((Below.refl _ w).alloc (Nat.le_refl _) _)⟩
  · have hp : decide ((0 : Int) < (N : Int)) = true := by simp; omega
    rw [show decide (0 < N) = true from by simp; omega]
    have HB : Hid (∀ w, Calls Tryz.prog 142 #[.agg #[.int .i64 (L : Int), .int .i64 (N : Int)]] w fun e w' => e = .returned (.int .i64 ((64 - L - N : Nat) : Int)) ∧ Below w.heap.size w w') := fun w => behind64_any L N (64 - L - N) w (by omega)
    generalize 64 - L - N = s at *
    unfold wn64
    go_enter Tryz.func141, Tryz.ntmps141
    go_wp2_with fail
    refine (HB.out _).mono ?_
    rintro e w1 ⟨rfl, hb⟩
    have hb2 : Below w.heap.size w w1 := ((Below.refl _ w).alloc (Nat.le_refl _) _).trans (hb.mono (by simp))
    clear hb
    go_wp2_with fail
    go_ret
    exact ⟨rfl, hb2⟩

/-- A window that goes beyond the value does not. -/
theorem stands64_bad (L N : Nat) (w : World) (hL : L ≤ 64) (hN : N ≤ 64) (h : 64 < L + N) (h0 : 0 < N) : Calls Tryz.prog 141 #[wn64 L N] w fun e w' => e = .returned (.bool false) ∧ Below w.heap.size w w' := by
  have hp : decide ((0 : Int) < (N : Int)) = true := by simp; omega
  obtain ⟨z, hz⟩ : ∃ z : Int, z = (64 : Int) - L - N := ⟨_, rfl⟩
  have hz0 : decide ((0 : Int) ≤ z) = false := by simp; omega
  have HB : Hid (∀ w, Calls Tryz.prog 142 #[.agg #[.int .i64 (L : Int), .int .i64 (N : Int)]] w fun e w' => e = .returned (.int .i64 z) ∧ Below w.heap.size w w') := fun w => behindZ64_any L N z w hL hN hz
  unfold wn64
  have HZ := hide hz
  have HH := hide h
  clear hz h
  go_enter Tryz.func141, Tryz.ntmps141
  go_wp2_with fail
  refine (HB.out _).mono ?_
  rintro e w1 ⟨rfl, hb⟩
  have hb2 : Below w.heap.size w w1 := ((Below.refl _ w).alloc (Nat.le_refl _) _).trans (hb.mono (by simp))
  clear hb
  go_wp2_with fail
  go_ret
  exact ⟨rfl, hb2⟩

end Go.Proofs.YtleffbpjjbiobaaGreatDoor

namespace Go.Proofs.YtleffbpjjbiobaaGreatDoor
open Go.RowKit
open M
set_option linter.unusedVariables false
set_option linter.unusedSimpArgs false

/-- What suits tells. -/
def SuitEnd64 (L N l n : Nat) (w : World) (e : Ending) (w' : World) : Prop :=
  ∃ v : Bool, e = .returned (.bool v) ∧ (v = true ↔ 0 < N ∧ L ≤ l ∧ 64 - L - N ≤ 64 - l - n ∧ N ≤ n + 2 * 6) ∧ Below w.heap.size w w'

theorem boxed64 (w : World) (L N l n : Nat) : ((w.alloc (.cells #[.int .i64 (L : Int), .int .i64 (N : Int)] 150)).alloc (.cells #[.int .i64 (l : Int), .int .i64 (n : Int)] 150)).cell? ⟨w.heap.size, 0, none⟩ = some (.int .i64 (L : Int)) ∧
    ((w.alloc (.cells #[.int .i64 (L : Int), .int .i64 (N : Int)] 150)).alloc (.cells #[.int .i64 (l : Int), .int .i64 (n : Int)] 150)).cell? ⟨w.heap.size, 1, none⟩ = some (.int .i64 (N : Int)) ∧
    ((w.alloc (.cells #[.int .i64 (L : Int), .int .i64 (N : Int)] 150)).alloc (.cells #[.int .i64 (l : Int), .int .i64 (n : Int)] 150)).cell? ⟨w.heap.size + 1, 0, none⟩ = some (.int .i64 (l : Int)) ∧
    ((w.alloc (.cells #[.int .i64 (L : Int), .int .i64 (N : Int)] 150)).alloc (.cells #[.int .i64 (l : Int), .int .i64 (n : Int)] 150)).cell? ⟨w.heap.size + 1, 1, none⟩ = some (.int .i64 (n : Int)) ∧
    Below w.heap.size w ((w.alloc (.cells #[.int .i64 (L : Int), .int .i64 (N : Int)] 150)).alloc (.cells #[.int .i64 (l : Int), .int .i64 (n : Int)] 150)) := by
  have h1 := new_kept (heap_alloc_new w (.cells #[.int .i64 (L : Int), .int .i64 (N : Int)] 150)) (.cells #[.int .i64 (l : Int), .int .i64 (n : Int)] 150)
  have h2 := heap_alloc_new (w.alloc (.cells #[.int .i64 (L : Int), .int .i64 (N : Int)] 150)) (.cells #[.int .i64 (l : Int), .int .i64 (n : Int)] 150)
  rw [World.size_alloc] at h2
  exact ⟨by rw [cell_of_row _ _ _ _ _ _ h1]; rfl, by rw [cell_of_row _ _ _ _ _ _ h1]; rfl, by rw [cell_of_row _ _ _ _ _ _ h2]; rfl, by rw [cell_of_row _ _ _ _ _ _ h2]; rfl, ((Below.refl _ w).alloc (Nat.le_refl _) _).alloc (by simp) _⟩

set_option maxRecDepth 100000 in
set_option maxHeartbeats 4000000 in
theorem suits64_a (L N l n : Nat) (w : World) (h1 : L + N ≤ 64) (h2 : l + n ≤ 64) (c : ¬ (L ≤ l)) :
    Calls Tryz.prog 170 #[wn64 L N, wn64 l n] w (SuitEnd64 L N l n w) := by
  have HNO : Hid (¬ (0 < N ∧ L ≤ l ∧ 64 - L - N ≤ 64 - l - n ∧ N ≤ n + 2 * 6)) := fun h => c h.2.1
  have cd : decide (L ≤ l) = false := decide_eq_false c
  have HS : Hid (∀ w, Calls Tryz.prog 141 #[.agg #[.int .i64 (L : Int), .int .i64 (N : Int)]] w fun e w' => e = .returned (.bool (decide (0 < N))) ∧ Below w.heap.size w w') := fun w => stands64_any L N w h1
  have HB1 : Hid (∀ w, Calls Tryz.prog 142 #[.agg #[.int .i64 (L : Int), .int .i64 (N : Int)]] w fun e w' => e = .returned (.int .i64 ((64 - L - N : Nat) : Int)) ∧ Below w.heap.size w w') := fun w => behind64_any L N (64 - L - N) w (by omega)
  have HB2 : Hid (∀ w, Calls Tryz.prog 142 #[.agg #[.int .i64 (l : Int), .int .i64 (n : Int)]] w fun e w' => e = .returned (.int .i64 ((64 - l - n : Nat) : Int)) ∧ Below w.heap.size w w') := fun w => behind64_any l n (64 - l - n) w (by omega)
  have HM := hide (boxed64 w L N l n)
  clear h1 h2 c
  unfold wn64
  go_enter Tryz.func170, Tryz.ntmps170
  go_wp2_with fail
  generalize (w.alloc (.cells #[.int .i64 (L : Int), .int .i64 (N : Int)] 150)).alloc (.cells #[.int .i64 (l : Int), .int .i64 (n : Int)] 150) = W1 at *
  obtain ⟨c0, c1, c2, c3, B1⟩ := HM.out
  have HBW : Hid (Below w.heap.size w W1 ∧ w.heap.size ≤ W1.heap.size) := ⟨B1, B1.size⟩
  clear B1 HM
  obtain ⟨G, hG⟩ : ∃ G, w.heap.size = G := ⟨_, rfl⟩
  rw [hG] at c0 c1 c2 c3 HBW ⊢
  have HG := hide hG
  clear hG
  refine wp_region_held_drew (S := fun w' => w'.cell? ⟨G, 0, none⟩ = some (.int .i64 (L : Int)) ∧ w'.cell? ⟨G, 1, none⟩ = some (.int .i64 (N : Int)) ∧ w'.cell? ⟨G + 1, 0, none⟩ = some (.int .i64 (l : Int)) ∧ w'.cell? ⟨G + 1, 1, none⟩ = some (.int .i64 (n : Int))) (by kernel_rfl) ⟨c0, c1, c2, c3⟩ (fun hHeld => ?_)
  refine wpAnyH_take (i := 0) (v := ?_) rfl (by kernel_rfl) (by kernel_rfl) (by kernel_rfl) (fun _ _ _ h => h) (Or.inl ⟨by rfl, ?_⟩) hHeld ?_
  rotate_left
  · (intro wq hSw; (try dsimp only at hSw); (try obtain ⟨s0, s1, s2, s3⟩ := hSw); (go_simp <;> with_reducible rfl))
  try simp only [Act.put, List.getElem_toArray, List.getElem_cons_zero, List.getElem_cons_succ, List.setIfInBounds_toArray, List.set_cons_zero, List.set_cons_succ]
  refine wpAnyH_take (i := 1) (v := ?_) rfl (by kernel_rfl) (by kernel_rfl) (by kernel_rfl) (fun _ _ _ h => h) (Or.inl ⟨by rfl, ?_⟩) hHeld ?_
  rotate_left
  · (intro wq hSw; (try dsimp only at hSw); (try obtain ⟨s0, s1, s2, s3⟩ := hSw); (go_simp <;> with_reducible rfl))
  try simp only [Act.put, List.getElem_toArray, List.getElem_cons_zero, List.getElem_cons_succ, List.setIfInBounds_toArray, List.set_cons_zero, List.set_cons_succ]
  refine wpAnyH_take (i := 2) (v := ?_) rfl (by kernel_rfl) (by kernel_rfl) (by kernel_rfl) (fun _ _ _ h => h) (Or.inl ⟨by rfl, ?_⟩) hHeld ?_
  rotate_left
  · (intro wq hSw; (try dsimp only at hSw); (try obtain ⟨s0, s1, s2, s3⟩ := hSw); (go_simp <;> with_reducible rfl))
  try simp only [Act.put, List.getElem_toArray, List.getElem_cons_zero, List.getElem_cons_succ, List.setIfInBounds_toArray, List.set_cons_zero, List.set_cons_succ]
  refine wpAnyH_take (i := 3) (v := ?_) rfl (by kernel_rfl) (by kernel_rfl) (by kernel_rfl) (fun _ _ _ h => h) (Or.inl ⟨by rfl, ?_⟩) hHeld ?_
  rotate_left
  · (intro wq hSw; (try dsimp only at hSw); (try obtain ⟨s0, s1, s2, s3⟩ := hSw); (go_simp <;> with_reducible rfl))
  try simp only [Act.put, List.getElem_toArray, List.getElem_cons_zero, List.getElem_cons_succ, List.setIfInBounds_toArray, List.set_cons_zero, List.set_cons_succ]
  refine wpAnyH_take (i := 4) (v := ?_) rfl (by kernel_rfl) (by kernel_rfl) (by kernel_rfl) (fun _ _ _ h => h) (Or.inl ⟨by rfl, ?_⟩) hHeld ?_
  rotate_left
  · (intro wq hSw; (try dsimp only at hSw); (try obtain ⟨s0, s1, s2, s3⟩ := hSw); (go_simp <;> with_reducible rfl))
  try simp only [Act.put, List.getElem_toArray, List.getElem_cons_zero, List.getElem_cons_succ, List.setIfInBounds_toArray, List.set_cons_zero, List.set_cons_succ]
  refine wpAnyH_take (i := 5) (v := ?_) rfl (by kernel_rfl) (by kernel_rfl) (by kernel_rfl) (fun _ _ _ h => h) (Or.inl ⟨by rfl, ?_⟩) hHeld ?_
  rotate_left
  · (intro wq hSw; (try dsimp only at hSw); (try obtain ⟨s0, s1, s2, s3⟩ := hSw); (go_simp <;> with_reducible rfl))
  try simp only [Act.put, List.getElem_toArray, List.getElem_cons_zero, List.getElem_cons_succ, List.setIfInBounds_toArray, List.set_cons_zero, List.set_cons_succ]
  refine wpAnyH_take (i := 6) (v := undef) rfl (by kernel_rfl) (by kernel_rfl) (by kernel_rfl) (fun _ _ _ h => h) (Or.inr ⟨by rfl, rfl⟩) hHeld ?_
  try simp only [Act.put, List.getElem_toArray, List.getElem_cons_zero, List.getElem_cons_succ, List.setIfInBounds_toArray, List.set_cons_zero, List.set_cons_succ]
  refine wpAnyH_take (i := 8) (v := undef) rfl (by kernel_rfl) (by kernel_rfl) (by kernel_rfl) (fun _ _ _ h => h) (Or.inr ⟨by rfl, rfl⟩) hHeld ?_
  try simp only [Act.put, List.getElem_toArray, List.getElem_cons_zero, List.getElem_cons_succ, List.setIfInBounds_toArray, List.set_cons_zero, List.set_cons_succ]
  refine wpAnyH_ready (rs := [7]) (by kernel_rfl) (by simp) ?_
  refine AllReadyH.cons rfl (fun K hK => ?_) AllReadyH.nil
  go_simp
  refine hK.out _ _ ?_ (fun hHeld => ?_)
  · exact ⟨c0, c1, c2, c3⟩
  clear hK K
  try simp only [Act.put, List.getElem_toArray, List.getElem_cons_zero, List.getElem_cons_succ, List.setIfInBounds_toArray, List.set_cons_zero, List.set_cons_succ]
  refine wpAnyH_ready (rs := [9]) (by kernel_rfl) (by simp) ?_
  refine AllReadyH.cons rfl (fun K hK => ?_) AllReadyH.nil
  go_simp
  refine hK.out _ _ ?_ (fun hHeld => ?_)
  · exact ⟨c0, c1, c2, c3⟩
  clear hK K
  try simp only [Act.put, List.getElem_toArray, List.getElem_cons_zero, List.getElem_cons_succ, List.setIfInBounds_toArray, List.set_cons_zero, List.set_cons_succ]
  refine wpAnyH_take (i := 10) (v := undef) rfl (by kernel_rfl) (by kernel_rfl) (by kernel_rfl) (fun _ _ _ h => h) (Or.inr ⟨by rfl, rfl⟩) hHeld ?_
  try simp only [Act.put, List.getElem_toArray, List.getElem_cons_zero, List.getElem_cons_succ, List.setIfInBounds_toArray, List.set_cons_zero, List.set_cons_succ]
  refine wpAnyH_take (i := 11) (v := ?_) rfl (by kernel_rfl) (by kernel_rfl) (by kernel_rfl) (fun _ _ _ h => h) (Or.inl ⟨by rfl, ?_⟩) hHeld ?_
  rotate_left
  · (intro wq hSw; (try dsimp only at hSw); (try obtain ⟨s0, s1, s2, s3⟩ := hSw); (go_simp <;> with_reducible rfl))
  try simp only [Act.put, List.getElem_toArray, List.getElem_cons_zero, List.getElem_cons_succ, List.setIfInBounds_toArray, List.set_cons_zero, List.set_cons_succ]
  refine wpAnyH_take (i := 12) (v := ?_) rfl (by kernel_rfl) (by kernel_rfl) (by kernel_rfl) (fun _ _ _ h => h) (Or.inl ⟨by rfl, ?_⟩) hHeld ?_
  rotate_left
  · (intro wq hSw; (try dsimp only at hSw); (try obtain ⟨s0, s1, s2, s3⟩ := hSw); (go_simp <;> with_reducible rfl))
  try simp only [Act.put, List.getElem_toArray, List.getElem_cons_zero, List.getElem_cons_succ, List.setIfInBounds_toArray, List.set_cons_zero, List.set_cons_succ]
  refine wpAnyH_done (by kernel_rfl) ?_ _
  go_wp2_with fail
  by_cases h0 : N = 0
  · rw [show decide (0 < N) = false from by simp; omega] at HS
    have HN := hide h0
    clear h0
    refine wp_region_held_drew (S := fun w' => w'.cell? ⟨G, 0, none⟩ = some (.int .i64 (L : Int)) ∧ w'.cell? ⟨G, 1, none⟩ = some (.int .i64 (N : Int)) ∧ w'.cell? ⟨G + 1, 0, none⟩ = some (.int .i64 (l : Int)) ∧ w'.cell? ⟨G + 1, 1, none⟩ = some (.int .i64 (n : Int))) (by kernel_rfl) (by first | exact ⟨d0, d1, d2, d3⟩ | exact ⟨c0, c1, c2, c3⟩) (fun hHeld => ?_)
    refine wpAnyH_take (i := 0) (v := ?_) rfl (by kernel_rfl) (by kernel_rfl) (by kernel_rfl) (fun _ _ _ h => h) (Or.inl ⟨by rfl, ?_⟩) hHeld ?_
    rotate_left
    · (intro wq hSw; (try dsimp only at hSw); (try obtain ⟨s0, s1, s2, s3⟩ := hSw); (go_simp <;> with_reducible rfl))
    try simp only [Act.put, List.getElem_toArray, List.getElem_cons_zero, List.getElem_cons_succ, List.setIfInBounds_toArray, List.set_cons_zero, List.set_cons_succ]
    refine wpAnyH_ready (rs := [1]) (by kernel_rfl) (by simp) ?_
    refine AllReadyH.cons rfl (fun K hK => ?_) AllReadyH.nil
    go_simp
    refine (HS.out _).mono ?_
    rintro e wz ⟨rfl, hbz⟩
    have d0 : wz.cell? ⟨G, 0, none⟩ = some (.int .i64 (L : Int)) := by rw [hbz.cell (p := ⟨G, 0, none⟩) (block_lt_of_cell (by first | exact d0 | exact c0))]; first | exact d0 | exact c0
    have d1 : wz.cell? ⟨G, 1, none⟩ = some (.int .i64 (N : Int)) := by rw [hbz.cell (p := ⟨G, 1, none⟩) (block_lt_of_cell (by first | exact d1 | exact c1))]; first | exact d1 | exact c1
    have d2 : wz.cell? ⟨G + 1, 0, none⟩ = some (.int .i64 (l : Int)) := by rw [hbz.cell (p := ⟨G + 1, 0, none⟩) (block_lt_of_cell (by first | exact d2 | exact c2))]; first | exact d2 | exact c2
    have d3 : wz.cell? ⟨G + 1, 1, none⟩ = some (.int .i64 (n : Int)) := by rw [hbz.cell (p := ⟨G + 1, 1, none⟩) (block_lt_of_cell (by first | exact d3 | exact c3))]; first | exact d3 | exact c3
    have HBW : Hid (Below G w wz ∧ G ≤ wz.heap.size) := next_below HBW.out hbz ⟨rfl, rfl, rfl, Nat.le_refl _, fun _ _ => rfl⟩
    clear hbz
    go_wp2_with fail
    refine hK.out _ _ ?_ (fun hHeld => ?_)
    · exact ⟨d0, d1, d2, d3⟩
    clear hK K
    try simp only [Act.put, List.getElem_toArray, List.getElem_cons_zero, List.getElem_cons_succ, List.setIfInBounds_toArray, List.set_cons_zero, List.set_cons_succ]
    refine wpAnyH_take (i := 2) (v := ?_) rfl (by kernel_rfl) (by kernel_rfl) (by kernel_rfl) (fun _ _ _ h => h) (Or.inl ⟨by rfl, ?_⟩) hHeld ?_
    rotate_left
    · (intro wq hSw; (try dsimp only at hSw); (try obtain ⟨s0, s1, s2, s3⟩ := hSw); (go_simp <;> with_reducible rfl))
    try simp only [Act.put, List.getElem_toArray, List.getElem_cons_zero, List.getElem_cons_succ, List.setIfInBounds_toArray, List.set_cons_zero, List.set_cons_succ]
    refine wpAnyH_take (i := 3) (v := undef) rfl (by kernel_rfl) (by kernel_rfl) (by kernel_rfl) (fun _ _ _ h => h) (Or.inr ⟨by rfl, rfl⟩) hHeld ?_
    try simp only [Act.put, List.getElem_toArray, List.getElem_cons_zero, List.getElem_cons_succ, List.setIfInBounds_toArray, List.set_cons_zero, List.set_cons_succ]
    refine wpAnyH_take (i := 4) (v := ?_) rfl (by kernel_rfl) (by kernel_rfl) (by kernel_rfl) (fun _ _ _ h => h) (Or.inl ⟨by rfl, ?_⟩) hHeld ?_
    rotate_left
    · (intro wq hSw; (try dsimp only at hSw); (try obtain ⟨s0, s1, s2, s3⟩ := hSw); (go_simp <;> with_reducible rfl))
    try simp only [Act.put, List.getElem_toArray, List.getElem_cons_zero, List.getElem_cons_succ, List.setIfInBounds_toArray, List.set_cons_zero, List.set_cons_succ]
    refine wpAnyH_take (i := 5) (v := ?_) rfl (by kernel_rfl) (by kernel_rfl) (by kernel_rfl) (fun _ _ _ h => h) (Or.inl ⟨by rfl, ?_⟩) hHeld ?_
    rotate_left
    · (intro wq hSw; (try dsimp only at hSw); (try obtain ⟨s0, s1, s2, s3⟩ := hSw); (go_simp <;> with_reducible rfl))
    try simp only [Act.put, List.getElem_toArray, List.getElem_cons_zero, List.getElem_cons_succ, List.setIfInBounds_toArray, List.set_cons_zero, List.set_cons_succ]
    refine wpAnyH_take (i := 6) (v := undef) rfl (by kernel_rfl) (by kernel_rfl) (by kernel_rfl) (fun _ _ _ h => h) (Or.inr ⟨by rfl, rfl⟩) hHeld ?_
    try simp only [Act.put, List.getElem_toArray, List.getElem_cons_zero, List.getElem_cons_succ, List.setIfInBounds_toArray, List.set_cons_zero, List.set_cons_succ]
    refine wpAnyH_take (i := 7) (v := undef) rfl (by kernel_rfl) (by kernel_rfl) (by kernel_rfl) (fun _ _ _ h => h) (Or.inr ⟨by rfl, rfl⟩) hHeld ?_
    try simp only [Act.put, List.getElem_toArray, List.getElem_cons_zero, List.getElem_cons_succ, List.setIfInBounds_toArray, List.set_cons_zero, List.set_cons_succ]
    refine wpAnyH_take (i := 8) (v := undef) rfl (by kernel_rfl) (by kernel_rfl) (by kernel_rfl) (fun _ _ _ h => h) (Or.inr ⟨by rfl, rfl⟩) hHeld ?_
    try simp only [Act.put, List.getElem_toArray, List.getElem_cons_zero, List.getElem_cons_succ, List.setIfInBounds_toArray, List.set_cons_zero, List.set_cons_succ]
    refine wpAnyH_take (i := 9) (v := undef) rfl (by kernel_rfl) (by kernel_rfl) (by kernel_rfl) (fun _ _ _ h => h) (Or.inr ⟨by rfl, rfl⟩) hHeld ?_
    try simp only [Act.put, List.getElem_toArray, List.getElem_cons_zero, List.getElem_cons_succ, List.setIfInBounds_toArray, List.set_cons_zero, List.set_cons_succ]
    refine wpAnyH_ready (rs := [10]) (by kernel_rfl) (by simp) ?_
    refine AllReadyH.cons rfl (fun K hK => ?_) AllReadyH.nil
    go_simp
    refine hK.out _ _ ?_ (fun hHeld => ?_)
    · exact ⟨d0, d1, d2, d3⟩
    clear hK K
    try simp only [Act.put, List.getElem_toArray, List.getElem_cons_zero, List.getElem_cons_succ, List.setIfInBounds_toArray, List.set_cons_zero, List.set_cons_succ]
    refine wpAnyH_take (i := 11) (v := undef) rfl (by kernel_rfl) (by kernel_rfl) (by kernel_rfl) (fun _ _ _ h => h) (Or.inr ⟨by rfl, rfl⟩) hHeld ?_
    try simp only [Act.put, List.getElem_toArray, List.getElem_cons_zero, List.getElem_cons_succ, List.setIfInBounds_toArray, List.set_cons_zero, List.set_cons_succ]
    refine wpAnyH_take (i := 12) (v := undef) rfl (by kernel_rfl) (by kernel_rfl) (by kernel_rfl) (fun _ _ _ h => h) (Or.inr ⟨by rfl, rfl⟩) hHeld ?_
    try simp only [Act.put, List.getElem_toArray, List.getElem_cons_zero, List.getElem_cons_succ, List.setIfInBounds_toArray, List.set_cons_zero, List.set_cons_succ]
    refine wpAnyH_take (i := 13) (v := undef) rfl (by kernel_rfl) (by kernel_rfl) (by kernel_rfl) (fun _ _ _ h => h) (Or.inr ⟨by rfl, rfl⟩) hHeld ?_
    try simp only [Act.put, List.getElem_toArray, List.getElem_cons_zero, List.getElem_cons_succ, List.setIfInBounds_toArray, List.set_cons_zero, List.set_cons_succ]
    refine wpAnyH_take (i := 14) (v := ?_) rfl (by kernel_rfl) (by kernel_rfl) (by kernel_rfl) (fun _ _ _ h => h) (Or.inl ⟨by rfl, ?_⟩) hHeld ?_
    rotate_left
    · (intro wq hSw; (try dsimp only at hSw); (try obtain ⟨s0, s1, s2, s3⟩ := hSw); (go_simp <;> with_reducible rfl))
    try simp only [Act.put, List.getElem_toArray, List.getElem_cons_zero, List.getElem_cons_succ, List.setIfInBounds_toArray, List.set_cons_zero, List.set_cons_succ]
    refine wpAnyH_take (i := 15) (v := ?_) rfl (by kernel_rfl) (by kernel_rfl) (by kernel_rfl) (fun _ _ _ h => h) (Or.inl ⟨by rfl, ?_⟩) hHeld ?_
    rotate_left
    · (intro wq hSw; (try dsimp only at hSw); (try obtain ⟨s0, s1, s2, s3⟩ := hSw); (go_simp <;> with_reducible rfl))
    try simp only [Act.put, List.getElem_toArray, List.getElem_cons_zero, List.getElem_cons_succ, List.setIfInBounds_toArray, List.set_cons_zero, List.set_cons_succ]
    refine wpAnyH_done (by kernel_rfl) ?_ _
    go_wp2_with fail
    go_ret
    refine ⟨false, rfl, ⟨fun h => (by cases h), fun h => absurd h.1 (by have := HN.out; omega)⟩, by rw [HG.out]; exact HBW.out.1⟩
  rw [show decide (0 < N) = true from by simp; omega] at HS
  have HN := hide h0
  clear h0
  refine wp_region_held_drew (S := fun w' => w'.cell? ⟨G, 0, none⟩ = some (.int .i64 (L : Int)) ∧ w'.cell? ⟨G, 1, none⟩ = some (.int .i64 (N : Int)) ∧ w'.cell? ⟨G + 1, 0, none⟩ = some (.int .i64 (l : Int)) ∧ w'.cell? ⟨G + 1, 1, none⟩ = some (.int .i64 (n : Int))) (by kernel_rfl) (by first | exact ⟨d0, d1, d2, d3⟩ | exact ⟨c0, c1, c2, c3⟩) (fun hHeld => ?_)
  refine wpAnyH_take (i := 0) (v := ?_) rfl (by kernel_rfl) (by kernel_rfl) (by kernel_rfl) (fun _ _ _ h => h) (Or.inl ⟨by rfl, ?_⟩) hHeld ?_
  rotate_left
  · (intro wq hSw; (try dsimp only at hSw); (try obtain ⟨s0, s1, s2, s3⟩ := hSw); (go_simp <;> with_reducible rfl))
  try simp only [Act.put, List.getElem_toArray, List.getElem_cons_zero, List.getElem_cons_succ, List.setIfInBounds_toArray, List.set_cons_zero, List.set_cons_succ]
  refine wpAnyH_ready (rs := [1]) (by kernel_rfl) (by simp) ?_
  refine AllReadyH.cons rfl (fun K hK => ?_) AllReadyH.nil
  go_simp
  refine (HS.out _).mono ?_
  rintro e wz ⟨rfl, hbz⟩
  have d0 : wz.cell? ⟨G, 0, none⟩ = some (.int .i64 (L : Int)) := by rw [hbz.cell (p := ⟨G, 0, none⟩) (block_lt_of_cell (by first | exact d0 | exact c0))]; first | exact d0 | exact c0
  have d1 : wz.cell? ⟨G, 1, none⟩ = some (.int .i64 (N : Int)) := by rw [hbz.cell (p := ⟨G, 1, none⟩) (block_lt_of_cell (by first | exact d1 | exact c1))]; first | exact d1 | exact c1
  have d2 : wz.cell? ⟨G + 1, 0, none⟩ = some (.int .i64 (l : Int)) := by rw [hbz.cell (p := ⟨G + 1, 0, none⟩) (block_lt_of_cell (by first | exact d2 | exact c2))]; first | exact d2 | exact c2
  have d3 : wz.cell? ⟨G + 1, 1, none⟩ = some (.int .i64 (n : Int)) := by rw [hbz.cell (p := ⟨G + 1, 1, none⟩) (block_lt_of_cell (by first | exact d3 | exact c3))]; first | exact d3 | exact c3
  have HBW : Hid (Below G w wz ∧ G ≤ wz.heap.size) := next_below HBW.out hbz ⟨rfl, rfl, rfl, Nat.le_refl _, fun _ _ => rfl⟩
  clear hbz
  go_wp2_with fail
  refine hK.out _ _ ?_ (fun hHeld => ?_)
  · exact ⟨d0, d1, d2, d3⟩
  clear hK K
  try simp only [Act.put, List.getElem_toArray, List.getElem_cons_zero, List.getElem_cons_succ, List.setIfInBounds_toArray, List.set_cons_zero, List.set_cons_succ]
  refine wpAnyH_take (i := 2) (v := ?_) rfl (by kernel_rfl) (by kernel_rfl) (by kernel_rfl) (fun _ _ _ h => h) (Or.inl ⟨by rfl, ?_⟩) hHeld ?_
  rotate_left
  · (intro wq hSw; (try dsimp only at hSw); (try obtain ⟨s0, s1, s2, s3⟩ := hSw); (go_simp <;> with_reducible rfl))
  try simp only [Act.put, List.getElem_toArray, List.getElem_cons_zero, List.getElem_cons_succ, List.setIfInBounds_toArray, List.set_cons_zero, List.set_cons_succ]
  refine wpAnyH_take (i := 3) (v := ?_) rfl (by kernel_rfl) (by kernel_rfl) (by kernel_rfl) (fun _ _ _ h => h) (Or.inl ⟨by rfl, ?_⟩) hHeld ?_
  rotate_left
  · (intro wq hSw; (try dsimp only at hSw); (try obtain ⟨s0, s1, s2, s3⟩ := hSw); (go_simp <;> with_reducible rfl))
  try simp only [Act.put, List.getElem_toArray, List.getElem_cons_zero, List.getElem_cons_succ, List.setIfInBounds_toArray, List.set_cons_zero, List.set_cons_succ]
  refine wpAnyH_take (i := 4) (v := ?_) rfl (by kernel_rfl) (by kernel_rfl) (by kernel_rfl) (fun _ _ _ h => h) (Or.inl ⟨by rfl, ?_⟩) hHeld ?_
  rotate_left
  · (intro wq hSw; (try dsimp only at hSw); (try obtain ⟨s0, s1, s2, s3⟩ := hSw); (go_simp <;> with_reducible rfl))
  try simp only [Act.put, List.getElem_toArray, List.getElem_cons_zero, List.getElem_cons_succ, List.setIfInBounds_toArray, List.set_cons_zero, List.set_cons_succ]
  refine wpAnyH_take (i := 5) (v := ?_) rfl (by kernel_rfl) (by kernel_rfl) (by kernel_rfl) (fun _ _ _ h => h) (Or.inl ⟨by rfl, ?_⟩) hHeld ?_
  rotate_left
  · (intro wq hSw; (try dsimp only at hSw); (try obtain ⟨s0, s1, s2, s3⟩ := hSw); (go_simp <;> with_reducible rfl))
  try simp only [Act.put, List.getElem_toArray, List.getElem_cons_zero, List.getElem_cons_succ, List.setIfInBounds_toArray, List.set_cons_zero, List.set_cons_succ]
  refine wpAnyH_take (i := 6) (v := undef) rfl (by kernel_rfl) (by kernel_rfl) (by kernel_rfl) (fun _ _ _ h => h) (Or.inr ⟨by rfl, rfl⟩) hHeld ?_
  try simp only [Act.put, List.getElem_toArray, List.getElem_cons_zero, List.getElem_cons_succ, List.setIfInBounds_toArray, List.set_cons_zero, List.set_cons_succ]
  refine wpAnyH_take (i := 7) (v := undef) rfl (by kernel_rfl) (by kernel_rfl) (by kernel_rfl) (fun _ _ _ h => h) (Or.inr ⟨by rfl, rfl⟩) hHeld ?_
  try simp only [Act.put, List.getElem_toArray, List.getElem_cons_zero, List.getElem_cons_succ, List.setIfInBounds_toArray, List.set_cons_zero, List.set_cons_succ]
  refine wpAnyH_take (i := 8) (v := undef) rfl (by kernel_rfl) (by kernel_rfl) (by kernel_rfl) (fun _ _ _ h => h) (Or.inr ⟨by rfl, rfl⟩) hHeld ?_
  try simp only [Act.put, List.getElem_toArray, List.getElem_cons_zero, List.getElem_cons_succ, List.setIfInBounds_toArray, List.set_cons_zero, List.set_cons_succ]
  refine wpAnyH_take (i := 9) (v := undef) rfl (by kernel_rfl) (by kernel_rfl) (by kernel_rfl) (fun _ _ _ h => h) (Or.inr ⟨by rfl, rfl⟩) hHeld ?_
  try simp only [Act.put, List.getElem_toArray, List.getElem_cons_zero, List.getElem_cons_succ, List.setIfInBounds_toArray, List.set_cons_zero, List.set_cons_succ]
  refine wpAnyH_ready (rs := [10]) (by kernel_rfl) (by simp) ?_
  refine AllReadyH.cons rfl (fun K hK => ?_) AllReadyH.nil
  go_simp
  refine hK.out _ _ ?_ (fun hHeld => ?_)
  · exact ⟨d0, d1, d2, d3⟩
  clear hK K
  try simp only [Act.put, List.getElem_toArray, List.getElem_cons_zero, List.getElem_cons_succ, List.setIfInBounds_toArray, List.set_cons_zero, List.set_cons_succ]
  refine wpAnyH_take (i := 11) (v := undef) rfl (by kernel_rfl) (by kernel_rfl) (by kernel_rfl) (fun _ _ _ h => h) (Or.inr ⟨by rfl, rfl⟩) hHeld ?_
  try simp only [Act.put, List.getElem_toArray, List.getElem_cons_zero, List.getElem_cons_succ, List.setIfInBounds_toArray, List.set_cons_zero, List.set_cons_succ]
  refine wpAnyH_take (i := 12) (v := undef) rfl (by kernel_rfl) (by kernel_rfl) (by kernel_rfl) (fun _ _ _ h => h) (Or.inr ⟨by rfl, rfl⟩) hHeld ?_
  try simp only [Act.put, List.getElem_toArray, List.getElem_cons_zero, List.getElem_cons_succ, List.setIfInBounds_toArray, List.set_cons_zero, List.set_cons_succ]
  refine wpAnyH_take (i := 13) (v := undef) rfl (by kernel_rfl) (by kernel_rfl) (by kernel_rfl) (fun _ _ _ h => h) (Or.inr ⟨by rfl, rfl⟩) hHeld ?_
  try simp only [Act.put, List.getElem_toArray, List.getElem_cons_zero, List.getElem_cons_succ, List.setIfInBounds_toArray, List.set_cons_zero, List.set_cons_succ]
  refine wpAnyH_take (i := 14) (v := ?_) rfl (by kernel_rfl) (by kernel_rfl) (by kernel_rfl) (fun _ _ _ h => h) (Or.inl ⟨by rfl, ?_⟩) hHeld ?_
  rotate_left
  · (intro wq hSw; (try dsimp only at hSw); (try obtain ⟨s0, s1, s2, s3⟩ := hSw); (go_simp <;> with_reducible rfl))
  try simp only [Act.put, List.getElem_toArray, List.getElem_cons_zero, List.getElem_cons_succ, List.setIfInBounds_toArray, List.set_cons_zero, List.set_cons_succ]
  refine wpAnyH_take (i := 15) (v := ?_) rfl (by kernel_rfl) (by kernel_rfl) (by kernel_rfl) (fun _ _ _ h => h) (Or.inl ⟨by rfl, ?_⟩) hHeld ?_
  rotate_left
  · (intro wq hSw; (try dsimp only at hSw); (try obtain ⟨s0, s1, s2, s3⟩ := hSw); (go_simp <;> with_reducible rfl))
  try simp only [Act.put, List.getElem_toArray, List.getElem_cons_zero, List.getElem_cons_succ, List.setIfInBounds_toArray, List.set_cons_zero, List.set_cons_succ]
  refine wpAnyH_done (by kernel_rfl) ?_ _
  go_wp2_with fail
  go_ret
  refine ⟨false, rfl, ⟨fun h => (by cases h), fun h => absurd h HNO.out⟩, by rw [HG.out]; exact HBW.out.1⟩

set_option maxRecDepth 100000 in
set_option maxHeartbeats 4000000 in
theorem suits64_b (L N l n : Nat) (w : World) (h1 : L + N ≤ 64) (h2 : l + n ≤ 64) (c : L ≤ l) (c' : ¬ (bh64 L N ≤ bh64 l n)) :
    Calls Tryz.prog 170 #[wn64 L N, wn64 l n] w (SuitEnd64 L N l n w) := by
  have HNO : Hid (¬ (0 < N ∧ L ≤ l ∧ 64 - L - N ≤ 64 - l - n ∧ N ≤ n + 2 * 6)) := fun h => c' (by unfold bh64; exact h.2.2.1)
  have cd : decide (L ≤ l) = true := decide_eq_true c
  have cd2 : decide (bh64 L N ≤ bh64 l n) = false := decide_eq_false c'
  have H1 := hide h1
  have H2 := hide h2
  have HS : Hid (∀ w, Calls Tryz.prog 141 #[.agg #[.int .i64 (L : Int), .int .i64 (N : Int)]] w fun e w' => e = .returned (.bool (decide (0 < N))) ∧ Below w.heap.size w w') := fun w => stands64_any L N w h1
  have HB1 : Hid (∀ w, Calls Tryz.prog 142 #[.agg #[.int .i64 (L : Int), .int .i64 (N : Int)]] w fun e w' => e = .returned (.int .i64 ((64 - L - N : Nat) : Int)) ∧ Below w.heap.size w w') := fun w => behind64_any L N (64 - L - N) w (by omega)
  have HB2 : Hid (∀ w, Calls Tryz.prog 142 #[.agg #[.int .i64 (l : Int), .int .i64 (n : Int)]] w fun e w' => e = .returned (.int .i64 ((64 - l - n : Nat) : Int)) ∧ Below w.heap.size w w') := fun w => behind64_any l n (64 - l - n) w (by omega)
  have HM := hide (boxed64 w L N l n)
  clear h1 h2 c c'
  unfold wn64
  go_enter Tryz.func170, Tryz.ntmps170
  go_wp2_with fail
  generalize (w.alloc (.cells #[.int .i64 (L : Int), .int .i64 (N : Int)] 150)).alloc (.cells #[.int .i64 (l : Int), .int .i64 (n : Int)] 150) = W1 at *
  obtain ⟨c0, c1, c2, c3, B1⟩ := HM.out
  have HBW : Hid (Below w.heap.size w W1 ∧ w.heap.size ≤ W1.heap.size) := ⟨B1, B1.size⟩
  clear B1 HM HB1 HB2
  obtain ⟨G, hG⟩ : ∃ G, w.heap.size = G := ⟨_, rfl⟩
  rw [hG] at c0 c1 c2 c3 HBW ⊢
  have HG := hide hG
  clear hG
  go_region_held3 (fun w' => w'.cell? ⟨G, 0, none⟩ = some (.int .i64 (L : Int)) ∧ w'.cell? ⟨G, 1, none⟩ = some (.int .i64 (N : Int)) ∧ w'.cell? ⟨G + 1, 0, none⟩ = some (.int .i64 (l : Int)) ∧ w'.cell? ⟨G + 1, 1, none⟩ = some (.int .i64 (n : Int))) (first | exact ⟨d0, d1, d2, d3⟩ | exact ⟨c0, c1, c2, c3⟩)
    ((go_at_call 142; go_must (refine (behindN64_any _ _ _ (by first | exact H1.out | exact H2.out)).mono ?_); rintro _ wz ⟨rfl, hbz⟩; (have d0 : wz.cell? ⟨G, 0, none⟩ = some (.int .i64 (L : Int)) := by rw [hbz.cell (p := ⟨G, 0, none⟩) (block_lt_of_cell (by first | exact d0 | exact c0))]; first | exact d0 | exact c0); (have d1 : wz.cell? ⟨G, 1, none⟩ = some (.int .i64 (N : Int)) := by rw [hbz.cell (p := ⟨G, 1, none⟩) (block_lt_of_cell (by first | exact d1 | exact c1))]; first | exact d1 | exact c1); (have d2 : wz.cell? ⟨G + 1, 0, none⟩ = some (.int .i64 (l : Int)) := by rw [hbz.cell (p := ⟨G + 1, 0, none⟩) (block_lt_of_cell (by first | exact d2 | exact c2))]; first | exact d2 | exact c2); (have d3 : wz.cell? ⟨G + 1, 1, none⟩ = some (.int .i64 (n : Int)) := by rw [hbz.cell (p := ⟨G + 1, 1, none⟩) (block_lt_of_cell (by first | exact d3 | exact c3))]; first | exact d3 | exact c3); (have HBW : Hid (Below G w wz ∧ G ≤ wz.heap.size) := next_below HBW.out hbz ⟨rfl, rfl, rfl, Nat.le_refl _, fun _ _ => rfl⟩); clear hbz))
  go_wp2_with fail
  by_cases h0 : N = 0
  · rw [show decide (0 < N) = false from by simp; omega] at HS
    have HN := hide h0
    clear h0
    refine wp_region_held_drew (S := fun w' => w'.cell? ⟨G, 0, none⟩ = some (.int .i64 (L : Int)) ∧ w'.cell? ⟨G, 1, none⟩ = some (.int .i64 (N : Int)) ∧ w'.cell? ⟨G + 1, 0, none⟩ = some (.int .i64 (l : Int)) ∧ w'.cell? ⟨G + 1, 1, none⟩ = some (.int .i64 (n : Int))) (by kernel_rfl) (by first | exact ⟨d0, d1, d2, d3⟩ | exact ⟨c0, c1, c2, c3⟩) (fun hHeld => ?_)
    refine wpAnyH_take (i := 0) (v := ?_) rfl (by kernel_rfl) (by kernel_rfl) (by kernel_rfl) (fun _ _ _ h => h) (Or.inl ⟨by rfl, ?_⟩) hHeld ?_
    rotate_left
    · (intro wq hSw; (try dsimp only at hSw); (try obtain ⟨s0, s1, s2, s3⟩ := hSw); (go_simp <;> with_reducible rfl))
    try simp only [Act.put, List.getElem_toArray, List.getElem_cons_zero, List.getElem_cons_succ, List.setIfInBounds_toArray, List.set_cons_zero, List.set_cons_succ]
    refine wpAnyH_ready (rs := [1]) (by kernel_rfl) (by simp) ?_
    refine AllReadyH.cons rfl (fun K hK => ?_) AllReadyH.nil
    go_simp
    refine (HS.out _).mono ?_
    rintro e wz ⟨rfl, hbz⟩
    have d0 : wz.cell? ⟨G, 0, none⟩ = some (.int .i64 (L : Int)) := by rw [hbz.cell (p := ⟨G, 0, none⟩) (block_lt_of_cell (by first | exact d0 | exact c0))]; first | exact d0 | exact c0
    have d1 : wz.cell? ⟨G, 1, none⟩ = some (.int .i64 (N : Int)) := by rw [hbz.cell (p := ⟨G, 1, none⟩) (block_lt_of_cell (by first | exact d1 | exact c1))]; first | exact d1 | exact c1
    have d2 : wz.cell? ⟨G + 1, 0, none⟩ = some (.int .i64 (l : Int)) := by rw [hbz.cell (p := ⟨G + 1, 0, none⟩) (block_lt_of_cell (by first | exact d2 | exact c2))]; first | exact d2 | exact c2
    have d3 : wz.cell? ⟨G + 1, 1, none⟩ = some (.int .i64 (n : Int)) := by rw [hbz.cell (p := ⟨G + 1, 1, none⟩) (block_lt_of_cell (by first | exact d3 | exact c3))]; first | exact d3 | exact c3
    have HBW : Hid (Below G w wz ∧ G ≤ wz.heap.size) := next_below HBW.out hbz ⟨rfl, rfl, rfl, Nat.le_refl _, fun _ _ => rfl⟩
    clear hbz
    go_wp2_with fail
    refine hK.out _ _ ?_ (fun hHeld => ?_)
    · exact ⟨d0, d1, d2, d3⟩
    clear hK K
    try simp only [Act.put, List.getElem_toArray, List.getElem_cons_zero, List.getElem_cons_succ, List.setIfInBounds_toArray, List.set_cons_zero, List.set_cons_succ]
    refine wpAnyH_take (i := 2) (v := ?_) rfl (by kernel_rfl) (by kernel_rfl) (by kernel_rfl) (fun _ _ _ h => h) (Or.inl ⟨by rfl, ?_⟩) hHeld ?_
    rotate_left
    · (intro wq hSw; (try dsimp only at hSw); (try obtain ⟨s0, s1, s2, s3⟩ := hSw); (go_simp <;> with_reducible rfl))
    try simp only [Act.put, List.getElem_toArray, List.getElem_cons_zero, List.getElem_cons_succ, List.setIfInBounds_toArray, List.set_cons_zero, List.set_cons_succ]
    refine wpAnyH_take (i := 3) (v := undef) rfl (by kernel_rfl) (by kernel_rfl) (by kernel_rfl) (fun _ _ _ h => h) (Or.inr ⟨by rfl, rfl⟩) hHeld ?_
    try simp only [Act.put, List.getElem_toArray, List.getElem_cons_zero, List.getElem_cons_succ, List.setIfInBounds_toArray, List.set_cons_zero, List.set_cons_succ]
    refine wpAnyH_take (i := 4) (v := ?_) rfl (by kernel_rfl) (by kernel_rfl) (by kernel_rfl) (fun _ _ _ h => h) (Or.inl ⟨by rfl, ?_⟩) hHeld ?_
    rotate_left
    · (intro wq hSw; (try dsimp only at hSw); (try obtain ⟨s0, s1, s2, s3⟩ := hSw); (go_simp <;> with_reducible rfl))
    try simp only [Act.put, List.getElem_toArray, List.getElem_cons_zero, List.getElem_cons_succ, List.setIfInBounds_toArray, List.set_cons_zero, List.set_cons_succ]
    refine wpAnyH_take (i := 5) (v := ?_) rfl (by kernel_rfl) (by kernel_rfl) (by kernel_rfl) (fun _ _ _ h => h) (Or.inl ⟨by rfl, ?_⟩) hHeld ?_
    rotate_left
    · (intro wq hSw; (try dsimp only at hSw); (try obtain ⟨s0, s1, s2, s3⟩ := hSw); (go_simp <;> with_reducible rfl))
    try simp only [Act.put, List.getElem_toArray, List.getElem_cons_zero, List.getElem_cons_succ, List.setIfInBounds_toArray, List.set_cons_zero, List.set_cons_succ]
    refine wpAnyH_take (i := 6) (v := undef) rfl (by kernel_rfl) (by kernel_rfl) (by kernel_rfl) (fun _ _ _ h => h) (Or.inr ⟨by rfl, rfl⟩) hHeld ?_
    try simp only [Act.put, List.getElem_toArray, List.getElem_cons_zero, List.getElem_cons_succ, List.setIfInBounds_toArray, List.set_cons_zero, List.set_cons_succ]
    refine wpAnyH_take (i := 7) (v := undef) rfl (by kernel_rfl) (by kernel_rfl) (by kernel_rfl) (fun _ _ _ h => h) (Or.inr ⟨by rfl, rfl⟩) hHeld ?_
    try simp only [Act.put, List.getElem_toArray, List.getElem_cons_zero, List.getElem_cons_succ, List.setIfInBounds_toArray, List.set_cons_zero, List.set_cons_succ]
    refine wpAnyH_take (i := 8) (v := undef) rfl (by kernel_rfl) (by kernel_rfl) (by kernel_rfl) (fun _ _ _ h => h) (Or.inr ⟨by rfl, rfl⟩) hHeld ?_
    try simp only [Act.put, List.getElem_toArray, List.getElem_cons_zero, List.getElem_cons_succ, List.setIfInBounds_toArray, List.set_cons_zero, List.set_cons_succ]
    refine wpAnyH_take (i := 9) (v := undef) rfl (by kernel_rfl) (by kernel_rfl) (by kernel_rfl) (fun _ _ _ h => h) (Or.inr ⟨by rfl, rfl⟩) hHeld ?_
    try simp only [Act.put, List.getElem_toArray, List.getElem_cons_zero, List.getElem_cons_succ, List.setIfInBounds_toArray, List.set_cons_zero, List.set_cons_succ]
    refine wpAnyH_ready (rs := [10]) (by kernel_rfl) (by simp) ?_
    refine AllReadyH.cons rfl (fun K hK => ?_) AllReadyH.nil
    go_simp
    refine hK.out _ _ ?_ (fun hHeld => ?_)
    · exact ⟨d0, d1, d2, d3⟩
    clear hK K
    try simp only [Act.put, List.getElem_toArray, List.getElem_cons_zero, List.getElem_cons_succ, List.setIfInBounds_toArray, List.set_cons_zero, List.set_cons_succ]
    refine wpAnyH_take (i := 11) (v := undef) rfl (by kernel_rfl) (by kernel_rfl) (by kernel_rfl) (fun _ _ _ h => h) (Or.inr ⟨by rfl, rfl⟩) hHeld ?_
    try simp only [Act.put, List.getElem_toArray, List.getElem_cons_zero, List.getElem_cons_succ, List.setIfInBounds_toArray, List.set_cons_zero, List.set_cons_succ]
    refine wpAnyH_take (i := 12) (v := undef) rfl (by kernel_rfl) (by kernel_rfl) (by kernel_rfl) (fun _ _ _ h => h) (Or.inr ⟨by rfl, rfl⟩) hHeld ?_
    try simp only [Act.put, List.getElem_toArray, List.getElem_cons_zero, List.getElem_cons_succ, List.setIfInBounds_toArray, List.set_cons_zero, List.set_cons_succ]
    refine wpAnyH_take (i := 13) (v := undef) rfl (by kernel_rfl) (by kernel_rfl) (by kernel_rfl) (fun _ _ _ h => h) (Or.inr ⟨by rfl, rfl⟩) hHeld ?_
    try simp only [Act.put, List.getElem_toArray, List.getElem_cons_zero, List.getElem_cons_succ, List.setIfInBounds_toArray, List.set_cons_zero, List.set_cons_succ]
    refine wpAnyH_take (i := 14) (v := ?_) rfl (by kernel_rfl) (by kernel_rfl) (by kernel_rfl) (fun _ _ _ h => h) (Or.inl ⟨by rfl, ?_⟩) hHeld ?_
    rotate_left
    · (intro wq hSw; (try dsimp only at hSw); (try obtain ⟨s0, s1, s2, s3⟩ := hSw); (go_simp <;> with_reducible rfl))
    try simp only [Act.put, List.getElem_toArray, List.getElem_cons_zero, List.getElem_cons_succ, List.setIfInBounds_toArray, List.set_cons_zero, List.set_cons_succ]
    refine wpAnyH_take (i := 15) (v := ?_) rfl (by kernel_rfl) (by kernel_rfl) (by kernel_rfl) (fun _ _ _ h => h) (Or.inl ⟨by rfl, ?_⟩) hHeld ?_
    rotate_left
    · (intro wq hSw; (try dsimp only at hSw); (try obtain ⟨s0, s1, s2, s3⟩ := hSw); (go_simp <;> with_reducible rfl))
    try simp only [Act.put, List.getElem_toArray, List.getElem_cons_zero, List.getElem_cons_succ, List.setIfInBounds_toArray, List.set_cons_zero, List.set_cons_succ]
    refine wpAnyH_done (by kernel_rfl) ?_ _
    go_wp2_with fail
    go_ret
    refine ⟨false, rfl, ⟨fun h => (by cases h), fun h => absurd h.1 (by have := HN.out; omega)⟩, by rw [HG.out]; exact HBW.out.1⟩
  rw [show decide (0 < N) = true from by simp; omega] at HS
  have HN := hide h0
  clear h0
  refine wp_region_held_drew (S := fun w' => w'.cell? ⟨G, 0, none⟩ = some (.int .i64 (L : Int)) ∧ w'.cell? ⟨G, 1, none⟩ = some (.int .i64 (N : Int)) ∧ w'.cell? ⟨G + 1, 0, none⟩ = some (.int .i64 (l : Int)) ∧ w'.cell? ⟨G + 1, 1, none⟩ = some (.int .i64 (n : Int))) (by kernel_rfl) (by first | exact ⟨d0, d1, d2, d3⟩ | exact ⟨c0, c1, c2, c3⟩) (fun hHeld => ?_)
  refine wpAnyH_take (i := 0) (v := ?_) rfl (by kernel_rfl) (by kernel_rfl) (by kernel_rfl) (fun _ _ _ h => h) (Or.inl ⟨by rfl, ?_⟩) hHeld ?_
  rotate_left
  · (intro wq hSw; (try dsimp only at hSw); (try obtain ⟨s0, s1, s2, s3⟩ := hSw); (go_simp <;> with_reducible rfl))
  try simp only [Act.put, List.getElem_toArray, List.getElem_cons_zero, List.getElem_cons_succ, List.setIfInBounds_toArray, List.set_cons_zero, List.set_cons_succ]
  refine wpAnyH_ready (rs := [1]) (by kernel_rfl) (by simp) ?_
  refine AllReadyH.cons rfl (fun K hK => ?_) AllReadyH.nil
  go_simp
  refine (HS.out _).mono ?_
  rintro e wz ⟨rfl, hbz⟩
  have d0 : wz.cell? ⟨G, 0, none⟩ = some (.int .i64 (L : Int)) := by rw [hbz.cell (p := ⟨G, 0, none⟩) (block_lt_of_cell (by first | exact d0 | exact c0))]; first | exact d0 | exact c0
  have d1 : wz.cell? ⟨G, 1, none⟩ = some (.int .i64 (N : Int)) := by rw [hbz.cell (p := ⟨G, 1, none⟩) (block_lt_of_cell (by first | exact d1 | exact c1))]; first | exact d1 | exact c1
  have d2 : wz.cell? ⟨G + 1, 0, none⟩ = some (.int .i64 (l : Int)) := by rw [hbz.cell (p := ⟨G + 1, 0, none⟩) (block_lt_of_cell (by first | exact d2 | exact c2))]; first | exact d2 | exact c2
  have d3 : wz.cell? ⟨G + 1, 1, none⟩ = some (.int .i64 (n : Int)) := by rw [hbz.cell (p := ⟨G + 1, 1, none⟩) (block_lt_of_cell (by first | exact d3 | exact c3))]; first | exact d3 | exact c3
  have HBW : Hid (Below G w wz ∧ G ≤ wz.heap.size) := next_below HBW.out hbz ⟨rfl, rfl, rfl, Nat.le_refl _, fun _ _ => rfl⟩
  clear hbz
  go_wp2_with fail
  refine hK.out _ _ ?_ (fun hHeld => ?_)
  · exact ⟨d0, d1, d2, d3⟩
  clear hK K
  try simp only [Act.put, List.getElem_toArray, List.getElem_cons_zero, List.getElem_cons_succ, List.setIfInBounds_toArray, List.set_cons_zero, List.set_cons_succ]
  refine wpAnyH_take (i := 2) (v := ?_) rfl (by kernel_rfl) (by kernel_rfl) (by kernel_rfl) (fun _ _ _ h => h) (Or.inl ⟨by rfl, ?_⟩) hHeld ?_
  rotate_left
  · (intro wq hSw; (try dsimp only at hSw); (try obtain ⟨s0, s1, s2, s3⟩ := hSw); (go_simp <;> with_reducible rfl))
  try simp only [Act.put, List.getElem_toArray, List.getElem_cons_zero, List.getElem_cons_succ, List.setIfInBounds_toArray, List.set_cons_zero, List.set_cons_succ]
  refine wpAnyH_take (i := 3) (v := ?_) rfl (by kernel_rfl) (by kernel_rfl) (by kernel_rfl) (fun _ _ _ h => h) (Or.inl ⟨by rfl, ?_⟩) hHeld ?_
  rotate_left
  · (intro wq hSw; (try dsimp only at hSw); (try obtain ⟨s0, s1, s2, s3⟩ := hSw); (go_simp <;> with_reducible rfl))
  try simp only [Act.put, List.getElem_toArray, List.getElem_cons_zero, List.getElem_cons_succ, List.setIfInBounds_toArray, List.set_cons_zero, List.set_cons_succ]
  refine wpAnyH_take (i := 4) (v := ?_) rfl (by kernel_rfl) (by kernel_rfl) (by kernel_rfl) (fun _ _ _ h => h) (Or.inl ⟨by rfl, ?_⟩) hHeld ?_
  rotate_left
  · (intro wq hSw; (try dsimp only at hSw); (try obtain ⟨s0, s1, s2, s3⟩ := hSw); (go_simp <;> with_reducible rfl))
  try simp only [Act.put, List.getElem_toArray, List.getElem_cons_zero, List.getElem_cons_succ, List.setIfInBounds_toArray, List.set_cons_zero, List.set_cons_succ]
  refine wpAnyH_take (i := 5) (v := ?_) rfl (by kernel_rfl) (by kernel_rfl) (by kernel_rfl) (fun _ _ _ h => h) (Or.inl ⟨by rfl, ?_⟩) hHeld ?_
  rotate_left
  · (intro wq hSw; (try dsimp only at hSw); (try obtain ⟨s0, s1, s2, s3⟩ := hSw); (go_simp <;> with_reducible rfl))
  try simp only [Act.put, List.getElem_toArray, List.getElem_cons_zero, List.getElem_cons_succ, List.setIfInBounds_toArray, List.set_cons_zero, List.set_cons_succ]
  refine wpAnyH_take (i := 6) (v := undef) rfl (by kernel_rfl) (by kernel_rfl) (by kernel_rfl) (fun _ _ _ h => h) (Or.inr ⟨by rfl, rfl⟩) hHeld ?_
  try simp only [Act.put, List.getElem_toArray, List.getElem_cons_zero, List.getElem_cons_succ, List.setIfInBounds_toArray, List.set_cons_zero, List.set_cons_succ]
  refine wpAnyH_take (i := 7) (v := undef) rfl (by kernel_rfl) (by kernel_rfl) (by kernel_rfl) (fun _ _ _ h => h) (Or.inr ⟨by rfl, rfl⟩) hHeld ?_
  try simp only [Act.put, List.getElem_toArray, List.getElem_cons_zero, List.getElem_cons_succ, List.setIfInBounds_toArray, List.set_cons_zero, List.set_cons_succ]
  refine wpAnyH_take (i := 8) (v := undef) rfl (by kernel_rfl) (by kernel_rfl) (by kernel_rfl) (fun _ _ _ h => h) (Or.inr ⟨by rfl, rfl⟩) hHeld ?_
  try simp only [Act.put, List.getElem_toArray, List.getElem_cons_zero, List.getElem_cons_succ, List.setIfInBounds_toArray, List.set_cons_zero, List.set_cons_succ]
  refine wpAnyH_take (i := 9) (v := undef) rfl (by kernel_rfl) (by kernel_rfl) (by kernel_rfl) (fun _ _ _ h => h) (Or.inr ⟨by rfl, rfl⟩) hHeld ?_
  try simp only [Act.put, List.getElem_toArray, List.getElem_cons_zero, List.getElem_cons_succ, List.setIfInBounds_toArray, List.set_cons_zero, List.set_cons_succ]
  refine wpAnyH_ready (rs := [10]) (by kernel_rfl) (by simp) ?_
  refine AllReadyH.cons rfl (fun K hK => ?_) AllReadyH.nil
  go_simp
  refine hK.out _ _ ?_ (fun hHeld => ?_)
  · exact ⟨d0, d1, d2, d3⟩
  clear hK K
  try simp only [Act.put, List.getElem_toArray, List.getElem_cons_zero, List.getElem_cons_succ, List.setIfInBounds_toArray, List.set_cons_zero, List.set_cons_succ]
  refine wpAnyH_take (i := 11) (v := undef) rfl (by kernel_rfl) (by kernel_rfl) (by kernel_rfl) (fun _ _ _ h => h) (Or.inr ⟨by rfl, rfl⟩) hHeld ?_
  try simp only [Act.put, List.getElem_toArray, List.getElem_cons_zero, List.getElem_cons_succ, List.setIfInBounds_toArray, List.set_cons_zero, List.set_cons_succ]
  refine wpAnyH_take (i := 12) (v := undef) rfl (by kernel_rfl) (by kernel_rfl) (by kernel_rfl) (fun _ _ _ h => h) (Or.inr ⟨by rfl, rfl⟩) hHeld ?_
  try simp only [Act.put, List.getElem_toArray, List.getElem_cons_zero, List.getElem_cons_succ, List.setIfInBounds_toArray, List.set_cons_zero, List.set_cons_succ]
  refine wpAnyH_take (i := 13) (v := undef) rfl (by kernel_rfl) (by kernel_rfl) (by kernel_rfl) (fun _ _ _ h => h) (Or.inr ⟨by rfl, rfl⟩) hHeld ?_
  try simp only [Act.put, List.getElem_toArray, List.getElem_cons_zero, List.getElem_cons_succ, List.setIfInBounds_toArray, List.set_cons_zero, List.set_cons_succ]
  refine wpAnyH_take (i := 14) (v := ?_) rfl (by kernel_rfl) (by kernel_rfl) (by kernel_rfl) (fun _ _ _ h => h) (Or.inl ⟨by rfl, ?_⟩) hHeld ?_
  rotate_left
  · (intro wq hSw; (try dsimp only at hSw); (try obtain ⟨s0, s1, s2, s3⟩ := hSw); (go_simp <;> with_reducible rfl))
  try simp only [Act.put, List.getElem_toArray, List.getElem_cons_zero, List.getElem_cons_succ, List.setIfInBounds_toArray, List.set_cons_zero, List.set_cons_succ]
  refine wpAnyH_take (i := 15) (v := ?_) rfl (by kernel_rfl) (by kernel_rfl) (by kernel_rfl) (fun _ _ _ h => h) (Or.inl ⟨by rfl, ?_⟩) hHeld ?_
  rotate_left
  · (intro wq hSw; (try dsimp only at hSw); (try obtain ⟨s0, s1, s2, s3⟩ := hSw); (go_simp <;> with_reducible rfl))
  try simp only [Act.put, List.getElem_toArray, List.getElem_cons_zero, List.getElem_cons_succ, List.setIfInBounds_toArray, List.set_cons_zero, List.set_cons_succ]
  refine wpAnyH_done (by kernel_rfl) ?_ _
  go_wp2_with fail
  go_ret
  refine ⟨false, rfl, ⟨fun h => (by cases h), fun h => absurd h HNO.out⟩, by rw [HG.out]; exact HBW.out.1⟩

set_option maxRecDepth 100000 in
set_option maxHeartbeats 4000000 in
theorem suits64_c (L N l n : Nat) (w : World) (h1 : L + N ≤ 64) (h2 : l + n ≤ 64) (c : L ≤ l) (c' : bh64 L N ≤ bh64 l n) :
    Calls Tryz.prog 170 #[wn64 L N, wn64 l n] w (SuitEnd64 L N l n w) := by
  have HC1 := hide c
  have HC2 := hide c'
  have cd : decide (L ≤ l) = true := decide_eq_true c
  have cd2 : decide (bh64 L N ≤ bh64 l n) = true := decide_eq_true c'
  have H1 := hide h1
  have H2 := hide h2
  have HS : Hid (∀ w, Calls Tryz.prog 141 #[.agg #[.int .i64 (L : Int), .int .i64 (N : Int)]] w fun e w' => e = .returned (.bool (decide (0 < N))) ∧ Below w.heap.size w w') := fun w => stands64_any L N w h1
  have HB1 : Hid (∀ w, Calls Tryz.prog 142 #[.agg #[.int .i64 (L : Int), .int .i64 (N : Int)]] w fun e w' => e = .returned (.int .i64 ((64 - L - N : Nat) : Int)) ∧ Below w.heap.size w w') := fun w => behind64_any L N (64 - L - N) w (by omega)
  have HB2 : Hid (∀ w, Calls Tryz.prog 142 #[.agg #[.int .i64 (l : Int), .int .i64 (n : Int)]] w fun e w' => e = .returned (.int .i64 ((64 - l - n : Nat) : Int)) ∧ Below w.heap.size w w') := fun w => behind64_any l n (64 - l - n) w (by omega)
  have HM := hide (boxed64 w L N l n)
  clear h1 h2 c c'
  unfold wn64
  go_enter Tryz.func170, Tryz.ntmps170
  go_wp2_with fail
  generalize (w.alloc (.cells #[.int .i64 (L : Int), .int .i64 (N : Int)] 150)).alloc (.cells #[.int .i64 (l : Int), .int .i64 (n : Int)] 150) = W1 at *
  obtain ⟨c0, c1, c2, c3, B1⟩ := HM.out
  have HBW : Hid (Below w.heap.size w W1 ∧ w.heap.size ≤ W1.heap.size) := ⟨B1, B1.size⟩
  clear B1 HM HB1 HB2
  obtain ⟨G, hG⟩ : ∃ G, w.heap.size = G := ⟨_, rfl⟩
  rw [hG] at c0 c1 c2 c3 HBW ⊢
  have HG := hide hG
  clear hG
  go_region_held3 (fun w' => w'.cell? ⟨G, 0, none⟩ = some (.int .i64 (L : Int)) ∧ w'.cell? ⟨G, 1, none⟩ = some (.int .i64 (N : Int)) ∧ w'.cell? ⟨G + 1, 0, none⟩ = some (.int .i64 (l : Int)) ∧ w'.cell? ⟨G + 1, 1, none⟩ = some (.int .i64 (n : Int))) (first | exact ⟨d0, d1, d2, d3⟩ | exact ⟨c0, c1, c2, c3⟩)
    ((go_at_call 142; go_must (refine (behindN64_any _ _ _ (by first | exact H1.out | exact H2.out)).mono ?_); rintro _ wz ⟨rfl, hbz⟩; (have d0 : wz.cell? ⟨G, 0, none⟩ = some (.int .i64 (L : Int)) := by rw [hbz.cell (p := ⟨G, 0, none⟩) (block_lt_of_cell (by first | exact d0 | exact c0))]; first | exact d0 | exact c0); (have d1 : wz.cell? ⟨G, 1, none⟩ = some (.int .i64 (N : Int)) := by rw [hbz.cell (p := ⟨G, 1, none⟩) (block_lt_of_cell (by first | exact d1 | exact c1))]; first | exact d1 | exact c1); (have d2 : wz.cell? ⟨G + 1, 0, none⟩ = some (.int .i64 (l : Int)) := by rw [hbz.cell (p := ⟨G + 1, 0, none⟩) (block_lt_of_cell (by first | exact d2 | exact c2))]; first | exact d2 | exact c2); (have d3 : wz.cell? ⟨G + 1, 1, none⟩ = some (.int .i64 (n : Int)) := by rw [hbz.cell (p := ⟨G + 1, 1, none⟩) (block_lt_of_cell (by first | exact d3 | exact c3))]; first | exact d3 | exact c3); (have HBW : Hid (Below G w wz ∧ G ≤ wz.heap.size) := next_below HBW.out hbz ⟨rfl, rfl, rfl, Nat.le_refl _, fun _ _ => rfl⟩); clear hbz))
  go_wp2_with fail
  by_cases h0 : N = 0
  · rw [show decide (0 < N) = false from by simp; omega] at HS
    have HN := hide h0
    clear h0
    refine wp_region_held_drew (S := fun w' => w'.cell? ⟨G, 0, none⟩ = some (.int .i64 (L : Int)) ∧ w'.cell? ⟨G, 1, none⟩ = some (.int .i64 (N : Int)) ∧ w'.cell? ⟨G + 1, 0, none⟩ = some (.int .i64 (l : Int)) ∧ w'.cell? ⟨G + 1, 1, none⟩ = some (.int .i64 (n : Int))) (by kernel_rfl) (by first | exact ⟨d0, d1, d2, d3⟩ | exact ⟨c0, c1, c2, c3⟩) (fun hHeld => ?_)
    refine wpAnyH_take (i := 0) (v := ?_) rfl (by kernel_rfl) (by kernel_rfl) (by kernel_rfl) (fun _ _ _ h => h) (Or.inl ⟨by rfl, ?_⟩) hHeld ?_
    rotate_left
    · (intro wq hSw; (try dsimp only at hSw); (try obtain ⟨s0, s1, s2, s3⟩ := hSw); (go_simp <;> with_reducible rfl))
    try simp only [Act.put, List.getElem_toArray, List.getElem_cons_zero, List.getElem_cons_succ, List.setIfInBounds_toArray, List.set_cons_zero, List.set_cons_succ]
    refine wpAnyH_ready (rs := [1]) (by kernel_rfl) (by simp) ?_
    refine AllReadyH.cons rfl (fun K hK => ?_) AllReadyH.nil
    go_simp
    refine (HS.out _).mono ?_
    rintro e wz ⟨rfl, hbz⟩
    have d0 : wz.cell? ⟨G, 0, none⟩ = some (.int .i64 (L : Int)) := by rw [hbz.cell (p := ⟨G, 0, none⟩) (block_lt_of_cell (by first | exact d0 | exact c0))]; first | exact d0 | exact c0
    have d1 : wz.cell? ⟨G, 1, none⟩ = some (.int .i64 (N : Int)) := by rw [hbz.cell (p := ⟨G, 1, none⟩) (block_lt_of_cell (by first | exact d1 | exact c1))]; first | exact d1 | exact c1
    have d2 : wz.cell? ⟨G + 1, 0, none⟩ = some (.int .i64 (l : Int)) := by rw [hbz.cell (p := ⟨G + 1, 0, none⟩) (block_lt_of_cell (by first | exact d2 | exact c2))]; first | exact d2 | exact c2
    have d3 : wz.cell? ⟨G + 1, 1, none⟩ = some (.int .i64 (n : Int)) := by rw [hbz.cell (p := ⟨G + 1, 1, none⟩) (block_lt_of_cell (by first | exact d3 | exact c3))]; first | exact d3 | exact c3
    have HBW : Hid (Below G w wz ∧ G ≤ wz.heap.size) := next_below HBW.out hbz ⟨rfl, rfl, rfl, Nat.le_refl _, fun _ _ => rfl⟩
    clear hbz
    go_wp2_with fail
    refine hK.out _ _ ?_ (fun hHeld => ?_)
    · exact ⟨d0, d1, d2, d3⟩
    clear hK K
    try simp only [Act.put, List.getElem_toArray, List.getElem_cons_zero, List.getElem_cons_succ, List.setIfInBounds_toArray, List.set_cons_zero, List.set_cons_succ]
    refine wpAnyH_take (i := 2) (v := ?_) rfl (by kernel_rfl) (by kernel_rfl) (by kernel_rfl) (fun _ _ _ h => h) (Or.inl ⟨by rfl, ?_⟩) hHeld ?_
    rotate_left
    · (intro wq hSw; (try dsimp only at hSw); (try obtain ⟨s0, s1, s2, s3⟩ := hSw); (go_simp <;> with_reducible rfl))
    try simp only [Act.put, List.getElem_toArray, List.getElem_cons_zero, List.getElem_cons_succ, List.setIfInBounds_toArray, List.set_cons_zero, List.set_cons_succ]
    refine wpAnyH_take (i := 3) (v := undef) rfl (by kernel_rfl) (by kernel_rfl) (by kernel_rfl) (fun _ _ _ h => h) (Or.inr ⟨by rfl, rfl⟩) hHeld ?_
    try simp only [Act.put, List.getElem_toArray, List.getElem_cons_zero, List.getElem_cons_succ, List.setIfInBounds_toArray, List.set_cons_zero, List.set_cons_succ]
    refine wpAnyH_take (i := 4) (v := ?_) rfl (by kernel_rfl) (by kernel_rfl) (by kernel_rfl) (fun _ _ _ h => h) (Or.inl ⟨by rfl, ?_⟩) hHeld ?_
    rotate_left
    · (intro wq hSw; (try dsimp only at hSw); (try obtain ⟨s0, s1, s2, s3⟩ := hSw); (go_simp <;> with_reducible rfl))
    try simp only [Act.put, List.getElem_toArray, List.getElem_cons_zero, List.getElem_cons_succ, List.setIfInBounds_toArray, List.set_cons_zero, List.set_cons_succ]
    refine wpAnyH_take (i := 5) (v := ?_) rfl (by kernel_rfl) (by kernel_rfl) (by kernel_rfl) (fun _ _ _ h => h) (Or.inl ⟨by rfl, ?_⟩) hHeld ?_
    rotate_left
    · (intro wq hSw; (try dsimp only at hSw); (try obtain ⟨s0, s1, s2, s3⟩ := hSw); (go_simp <;> with_reducible rfl))
    try simp only [Act.put, List.getElem_toArray, List.getElem_cons_zero, List.getElem_cons_succ, List.setIfInBounds_toArray, List.set_cons_zero, List.set_cons_succ]
    refine wpAnyH_take (i := 6) (v := undef) rfl (by kernel_rfl) (by kernel_rfl) (by kernel_rfl) (fun _ _ _ h => h) (Or.inr ⟨by rfl, rfl⟩) hHeld ?_
    try simp only [Act.put, List.getElem_toArray, List.getElem_cons_zero, List.getElem_cons_succ, List.setIfInBounds_toArray, List.set_cons_zero, List.set_cons_succ]
    refine wpAnyH_take (i := 7) (v := undef) rfl (by kernel_rfl) (by kernel_rfl) (by kernel_rfl) (fun _ _ _ h => h) (Or.inr ⟨by rfl, rfl⟩) hHeld ?_
    try simp only [Act.put, List.getElem_toArray, List.getElem_cons_zero, List.getElem_cons_succ, List.setIfInBounds_toArray, List.set_cons_zero, List.set_cons_succ]
    refine wpAnyH_take (i := 8) (v := undef) rfl (by kernel_rfl) (by kernel_rfl) (by kernel_rfl) (fun _ _ _ h => h) (Or.inr ⟨by rfl, rfl⟩) hHeld ?_
    try simp only [Act.put, List.getElem_toArray, List.getElem_cons_zero, List.getElem_cons_succ, List.setIfInBounds_toArray, List.set_cons_zero, List.set_cons_succ]
    refine wpAnyH_take (i := 9) (v := undef) rfl (by kernel_rfl) (by kernel_rfl) (by kernel_rfl) (fun _ _ _ h => h) (Or.inr ⟨by rfl, rfl⟩) hHeld ?_
    try simp only [Act.put, List.getElem_toArray, List.getElem_cons_zero, List.getElem_cons_succ, List.setIfInBounds_toArray, List.set_cons_zero, List.set_cons_succ]
    refine wpAnyH_ready (rs := [10]) (by kernel_rfl) (by simp) ?_
    refine AllReadyH.cons rfl (fun K hK => ?_) AllReadyH.nil
    go_simp
    refine hK.out _ _ ?_ (fun hHeld => ?_)
    · exact ⟨d0, d1, d2, d3⟩
    clear hK K
    try simp only [Act.put, List.getElem_toArray, List.getElem_cons_zero, List.getElem_cons_succ, List.setIfInBounds_toArray, List.set_cons_zero, List.set_cons_succ]
    refine wpAnyH_take (i := 11) (v := undef) rfl (by kernel_rfl) (by kernel_rfl) (by kernel_rfl) (fun _ _ _ h => h) (Or.inr ⟨by rfl, rfl⟩) hHeld ?_
    try simp only [Act.put, List.getElem_toArray, List.getElem_cons_zero, List.getElem_cons_succ, List.setIfInBounds_toArray, List.set_cons_zero, List.set_cons_succ]
    refine wpAnyH_take (i := 12) (v := undef) rfl (by kernel_rfl) (by kernel_rfl) (by kernel_rfl) (fun _ _ _ h => h) (Or.inr ⟨by rfl, rfl⟩) hHeld ?_
    try simp only [Act.put, List.getElem_toArray, List.getElem_cons_zero, List.getElem_cons_succ, List.setIfInBounds_toArray, List.set_cons_zero, List.set_cons_succ]
    refine wpAnyH_take (i := 13) (v := undef) rfl (by kernel_rfl) (by kernel_rfl) (by kernel_rfl) (fun _ _ _ h => h) (Or.inr ⟨by rfl, rfl⟩) hHeld ?_
    try simp only [Act.put, List.getElem_toArray, List.getElem_cons_zero, List.getElem_cons_succ, List.setIfInBounds_toArray, List.set_cons_zero, List.set_cons_succ]
    refine wpAnyH_take (i := 14) (v := ?_) rfl (by kernel_rfl) (by kernel_rfl) (by kernel_rfl) (fun _ _ _ h => h) (Or.inl ⟨by rfl, ?_⟩) hHeld ?_
    rotate_left
    · (intro wq hSw; (try dsimp only at hSw); (try obtain ⟨s0, s1, s2, s3⟩ := hSw); (go_simp <;> with_reducible rfl))
    try simp only [Act.put, List.getElem_toArray, List.getElem_cons_zero, List.getElem_cons_succ, List.setIfInBounds_toArray, List.set_cons_zero, List.set_cons_succ]
    refine wpAnyH_take (i := 15) (v := ?_) rfl (by kernel_rfl) (by kernel_rfl) (by kernel_rfl) (fun _ _ _ h => h) (Or.inl ⟨by rfl, ?_⟩) hHeld ?_
    rotate_left
    · (intro wq hSw; (try dsimp only at hSw); (try obtain ⟨s0, s1, s2, s3⟩ := hSw); (go_simp <;> with_reducible rfl))
    try simp only [Act.put, List.getElem_toArray, List.getElem_cons_zero, List.getElem_cons_succ, List.setIfInBounds_toArray, List.set_cons_zero, List.set_cons_succ]
    refine wpAnyH_done (by kernel_rfl) ?_ _
    go_wp2_with fail
    go_ret
    refine ⟨false, rfl, ⟨fun h => (by cases h), fun h => absurd h.1 (by have := HN.out; omega)⟩, by rw [HG.out]; exact HBW.out.1⟩
  rw [show decide (0 < N) = true from by simp; omega] at HS
  have HN := hide h0
  clear h0
  go_region_held3 (fun w' => w'.cell? ⟨G, 0, none⟩ = some (.int .i64 (L : Int)) ∧ w'.cell? ⟨G, 1, none⟩ = some (.int .i64 (N : Int)) ∧ w'.cell? ⟨G + 1, 0, none⟩ = some (.int .i64 (l : Int)) ∧ w'.cell? ⟨G + 1, 1, none⟩ = some (.int .i64 (n : Int))) (first | exact ⟨d0, d1, d2, d3⟩ | exact ⟨c0, c1, c2, c3⟩)
    (first | (go_at_call 141; go_must (refine (HS.out _).mono ?_); rintro _ wz ⟨rfl, hbz⟩; (have d0 : wz.cell? ⟨G, 0, none⟩ = some (.int .i64 (L : Int)) := by rw [hbz.cell (p := ⟨G, 0, none⟩) (block_lt_of_cell (by first | exact d0 | exact c0))]; first | exact d0 | exact c0); (have d1 : wz.cell? ⟨G, 1, none⟩ = some (.int .i64 (N : Int)) := by rw [hbz.cell (p := ⟨G, 1, none⟩) (block_lt_of_cell (by first | exact d1 | exact c1))]; first | exact d1 | exact c1); (have d2 : wz.cell? ⟨G + 1, 0, none⟩ = some (.int .i64 (l : Int)) := by rw [hbz.cell (p := ⟨G + 1, 0, none⟩) (block_lt_of_cell (by first | exact d2 | exact c2))]; first | exact d2 | exact c2); (have d3 : wz.cell? ⟨G + 1, 1, none⟩ = some (.int .i64 (n : Int)) := by rw [hbz.cell (p := ⟨G + 1, 1, none⟩) (block_lt_of_cell (by first | exact d3 | exact c3))]; first | exact d3 | exact c3); (have HBW : Hid (Below G w wz ∧ G ≤ wz.heap.size) := next_below HBW.out hbz ⟨rfl, rfl, rfl, Nat.le_refl _, fun _ _ => rfl⟩); clear hbz) | (go_at_call 168; go_must (refine (fieldWidth64_any _).mono ?_); rintro _ wy ⟨rfl, rfl⟩))
  go_wp2_with fail
  go_ret
  refine ⟨_, rfl, ?_, by rw [HG.out]; exact HBW.out.1⟩
  have q0 := H2.out
  rw [decide_eq_true_iff, IntKind.wrap_i64, IntKind.wrap_i64]
  have q1 := HN.out
  have q2 := HC1.out
  have q3 := HC2.out
  unfold bh64 at q3
  omega

theorem suits64_any (L N l n : Nat) (w : World) (h1 : L + N ≤ 64) (h2 : l + n ≤ 64) : Calls Tryz.prog 170 #[wn64 L N, wn64 l n] w (SuitEnd64 L N l n w) := by
  by_cases c : L ≤ l
  · by_cases c2 : bh64 L N ≤ bh64 l n
    · exact suits64_c L N l n w h1 h2 c c2
    · exact suits64_b L N l n w h1 h2 c c2
  · exact suits64_a L N l n w h1 h2 c

end Go.Proofs.YtleffbpjjbiobaaGreatDoor

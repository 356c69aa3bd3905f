/- The law's own helpers: fits (a number that may be laid) and got (is it taken?). -/
import Derived.Test.YtpiiagjfimdflaaB
import Derived.Test.YtpiiagjfimdflaaJ
import Derived.Deep.RegionHeld3
namespace Go.Proofs.Ytpiiagjfimdflaa
open Go.RowKit
open M
set_option linter.unusedVariables false

/-- A number that may be laid. -/
def Fit (d m : Int) (x : Nat) : Prop := (d = 2 ∧ 0 ≤ m ∧ m ≤ 64 ∧ x < 2 ^ m.toNat) ∨ (d = 3 ∧ 0 ≤ m ∧ m ≤ 64) ∨ (d = 1 ∨ d = 4 ∨ d = 5)

/-- A uint64 as an int64. -/
def i64of (x : Nat) : Int := if x < 9223372036854775808 then (x : Int) else (x : Int) - 18446744073709551616

/-- What a number is laid as. -/
def opB (d m : Int) (x : Nat) : List Bool :=
  if d = 1 then [x % 2 == 1] else if d = 2 then bitsOf x m.toNat else if d = 3 then List.replicate m.toNat true ++ [false] else if d = 4 then varB x else varB (zig (i64of x))

theorem i64of_range (x : Nat) (h : x < 18446744073709551616) : -9223372036854775808 ≤ i64of x ∧ i64of x ≤ 9223372036854775807 := by
  unfold i64of; split <;> omega

theorem opB_len (d m : Int) (x : Nat) (h : Fit d m x) : (opB d m x).length ≤ 80 := by
  unfold opB
  rcases h with ⟨rfl, h0, h1, _⟩ | ⟨rfl, h0, h1⟩ | rfl | rfl | rfl
  · simp; omega
  · simp; omega
  · simp
  · simp; exact varB_le _
  · simp; exact varB_le _

theorem opB_pos (d m : Int) (x : Nat) (h : Fit d m x) (h2 : d ≠ 2) : 0 < (opB d m x).length := by
  unfold opB
  rcases h with ⟨rfl, h0, h1, _⟩ | ⟨rfl, h0, h1⟩ | rfl | rfl | rfl
  · omega
  · simp
  · simp
  · simp; exact Nat.lt_of_lt_of_le (by omega) (varB_ge _)
  · simp; exact Nat.lt_of_lt_of_le (by omega) (varB_ge _)

open Classical in
set_option maxRecDepth 100000 in
set_option maxHeartbeats 1000000 in
theorem fits_any (d n m : Int) (x : Nat) (w : World) (hx : x < 18446744073709551616) :
    Calls Try.prog 26 #[.agg #[.int .i64 d, .int .i64 n, .int .u64 x, .int .i64 m]] w fun e w' => e = .returned (.bool (decide (Fit d m x))) ∧ Below w.heap.size w w' := by
  have HB : Hid (Below w.heap.size w (w.alloc (.cells #[.int .i64 d, .int .i64 n, .int .u64 x, .int .i64 m] 65))) := (Below.refl _ _).alloc (Nat.le_refl _) _
  by_cases h2 : d = 2
  · subst h2
    by_cases hm0 : 0 ≤ m
    · by_cases hm64 : m ≤ 64
      · obtain ⟨M, rfl⟩ : ∃ M : Nat, m = (M : Int) := ⟨m.toNat, by omega⟩
        by_cases hM : M = 64
        · subst hM
          have hf : Hid (decide (Fit 2 ((64 : Nat) : Int) x) = true) := decide_eq_true (.inl ⟨rfl, by omega, by omega, hx⟩)
          go_enter Try.func26, Try.ntmps26
          go_wp2_with fail
          go_ret
          exact ⟨by rw [hf.out]; rfl, HB.out⟩
        · have hM' : ((M : Int) == 64) = false := by rw [beq_eq_false_iff_ne]; omega
          by_cases hq : x < 2 ^ M
          · have hf : Hid (decide (Fit 2 (M : Int) x) = true) := decide_eq_true (.inl ⟨rfl, by omega, by omega, by simpa using hq⟩)
            have h0 : ((x : Int) / 2 ^ M == 0) = true := by
              have : x / 2 ^ M = 0 := Nat.div_eq_of_lt hq
              rw [show (x : Int) / 2 ^ M = ((x / 2 ^ M : Nat) : Int) from by simp, this]; rfl
            go_enter Try.func26, Try.ntmps26
            go_wp2_with fail
            go_ret
            exact ⟨by rw [hf.out]; rfl, HB.out⟩
          · have hf : Hid (decide (Fit 2 (M : Int) x) = false) := decide_eq_false (by
              rintro (⟨_, _, _, h⟩ | ⟨h, _⟩ | h | h | h)
              · simp at h; omega
              all_goals omega)
            have h0 : ((x : Int) / 2 ^ M == 0) = false := by
              rw [beq_eq_false_iff_ne, show (x : Int) / 2 ^ M = ((x / 2 ^ M : Nat) : Int) from by simp]
              have : 0 < x / 2 ^ M := Nat.div_pos (by omega) (Nat.pos_of_ne_zero (by simp))
              omega
            go_enter Try.func26, Try.ntmps26
            go_wp2_with fail
            go_ret
            exact ⟨by rw [hf.out]; rfl, HB.out⟩
      · have hf : Hid (decide (Fit 2 m x) = false) := decide_eq_false (by
          rintro (⟨_, _, h, _⟩ | ⟨h, _⟩ | h | h | h) <;> omega)
        go_enter Try.func26, Try.ntmps26
        go_wp2_with fail
        go_ret
        exact ⟨by rw [hf.out]; rfl, HB.out⟩
    · have hf : Hid (decide (Fit 2 m x) = false) := decide_eq_false (by
        rintro (⟨_, h, _, _⟩ | ⟨h, _⟩ | h | h | h) <;> omega)
      go_enter Try.func26, Try.ntmps26
      go_wp2_with fail
      go_ret
      exact ⟨by rw [hf.out]; rfl, HB.out⟩
  have t2 : (d == 2) = false := by rw [beq_eq_false_iff_ne]; exact h2
  by_cases h3 : d = 3
  · subst h3
    by_cases hm0 : 0 ≤ m
    · by_cases hm64 : m ≤ 64
      · have hf : Hid (decide (Fit 3 m x) = true) := decide_eq_true (.inr (.inl ⟨rfl, by omega, by omega⟩))
        go_enter Try.func26, Try.ntmps26
        go_wp2_with fail
        go_ret
        exact ⟨by rw [hf.out]; rfl, HB.out⟩
      · have hf : Hid (decide (Fit 3 m x) = false) := decide_eq_false (by
          rintro (⟨h, _⟩ | ⟨_, _, h⟩ | h | h | h) <;> omega)
        go_enter Try.func26, Try.ntmps26
        go_wp2_with fail
        go_ret
        exact ⟨by rw [hf.out]; rfl, HB.out⟩
    · have hf : Hid (decide (Fit 3 m x) = false) := decide_eq_false (by
        rintro (⟨h, _⟩ | ⟨_, h, _⟩ | h | h | h) <;> omega)
      go_enter Try.func26, Try.ntmps26
      go_wp2_with fail
      go_ret
      exact ⟨by rw [hf.out]; rfl, HB.out⟩
  have t3 : (d == 3) = false := by rw [beq_eq_false_iff_ne]; exact h3
  by_cases h1 : 1 ≤ d
  · by_cases h5 : d ≤ 5
    · have hf : Hid (decide (Fit d m x) = true) := decide_eq_true (.inr (.inr (by omega)))
      go_enter Try.func26, Try.ntmps26
      go_wp2_with fail
      go_ret
      exact ⟨by rw [hf.out]; rfl, HB.out⟩
    · have hf : Hid (decide (Fit d m x) = false) := decide_eq_false (by
        rintro (⟨h, _⟩ | ⟨h, _⟩ | h | h | h) <;> omega)
      go_enter Try.func26, Try.ntmps26
      go_wp2_with fail
      go_ret
      exact ⟨by rw [hf.out]; rfl, HB.out⟩
  · have hf : Hid (decide (Fit d m x) = false) := decide_eq_false (by
      rintro (⟨h, _⟩ | ⟨h, _⟩ | h | h | h) <;> omega)
    go_enter Try.func26, Try.ntmps26
    go_wp2_with fail
    go_ret
    exact ⟨by rw [hf.out]; rfl, HB.out⟩

theorem Only.keepc {b lo hi : Nat} {w w' : World} (h : Only b lo hi w w') {p : Addr} {v : Value} (hne : p.block ≠ b) (hp : w.cell? p = some v) : w'.cell? p = some v :=
  (World.cell?_of_block (w := w) (h.block p.block (block_lt_of_cell hp) hne)).trans hp

theorem and1 (x : Nat) (h : x < 18446744073709551616) : bits BinOp.and IntKind.u64 (x : Int) 1 = ((x % 2 : Nat) : Int) := by
  have := bits_mask .u64 64 (by decide) wraps_u64 1 (by omega) (x : Int) (by omega) (by omega)
  simpa using this

theorem conv64 (x : Nat) (h : x < 18446744073709551616) : IntKind.i64.wrap (x : Int) = i64of x := by
  unfold i64of
  by_cases hs : x < 9223372036854775808
  · rw [if_pos hs]; simp only [IntKind.wrap, IntKind.bits, IntKind.signed]; simp; omega
  · rw [if_neg hs]; simp only [IntKind.wrap, IntKind.bits, IntKind.signed]; simp; omega

/-- Behind a reading. -/
def ToR (b off : Nat) (s : ByteArray) (a' : Nat) (e' : Int) (w w' : World) : Prop := Rd w' b off s a' e' ∧ Only b off (off + 3) w w'

set_option maxRecDepth 100000 in
theorem got1 {b off : Nat} {s : ByteArray} {a a' : Nat} {e0 e' : Int} {R : Bool → Prop} (n m : Int) (x : Nat)
    (hc : ∀ w, Rd w b off s a e0 → Calls Try.prog 31 #[.pointer (some ⟨b, off, none⟩)] w fun e w' => ∃ v : Bool, e = .returned (.bool v) ∧ R v ∧ ToR b off s a' e' w w')
    (w : World) (h : Rd w b off s a e0) (hx : x < 18446744073709551616) :
    Calls Try.prog 29 #[.pointer (some ⟨b, off, none⟩), .agg #[.int .i64 1, .int .i64 n, .int .u64 x, .int .i64 m]] w fun e w' => ∃ v : Bool, e = .returned (.bool (v == ((x : Int) % 2 == 1))) ∧ R v ∧ ToR b off s a' e' w w' := by
  have hb : b < w.heap.size := block_lt_of_cell h.text
  have Ho : Only b off (off + 3) w (w.alloc (.cells #[.int .i64 1, .int .i64 n, .int .u64 x, .int .i64 m] 65)) := (Only.refl _ _ _ _).alloc hb _
  have Hr : Rd (w.alloc (.cells #[.int .i64 1, .int .i64 n, .int .u64 x, .int .i64 m] 65)) b off s a e0 := h.below ((Below.refl _ _).alloc (Nat.le_refl _) _) hb
  have n2 : (w.alloc (.cells #[.int .i64 1, .int .i64 n, .int .u64 x, .int .i64 m] 65)).cell? ⟨w.heap.size, 2, none⟩ = some (.int .u64 x) := by rw [cell_of_row _ _ _ _ _ _ (heap_alloc_new _ _)]; rfl
  have n3 : (w.alloc (.cells #[.int .i64 1, .int .i64 n, .int .u64 x, .int .i64 m] 65)).cell? ⟨w.heap.size, 3, none⟩ = some (.int .i64 m) := by rw [cell_of_row _ _ _ _ _ _ (heap_alloc_new _ _)]; rfl
  have hne : w.heap.size ≠ b := by omega
  have ha := and1 x hx
  go_enter Try.func29, Try.ntmps29
  go_wp2_with fail
  generalize w.alloc (.cells #[.int .i64 1, .int .i64 n, .int .u64 x, .int .i64 m] 65) = wo at *
  have Hrd : Rd wo.drew b off s a e0 := Hr.drewN 1
  have Hod : Only b off (off + 3) w wo.drew := Ho.drew
  go_region_held3 (fun w' => w'.cell? ⟨w.heap.size, 2, none⟩ = some (.int .u64 x)) (first | exact n2 | exact O5.keepc hne n2)
    (first | (go_at_call 31; refine (hc _ Hrd).mono ?_; rintro _ w5 ⟨v5, rfl, Rv5, R5, O5⟩))
  go_wp2_with fail
  go_ret
  exact ⟨v5, rfl, Rv5, R5, Hod.trans O5⟩

set_option maxRecDepth 100000 in
theorem got2 {b off : Nat} {s : ByteArray} {a a' : Nat} {e0 e' : Int} {R : Nat → Prop} (n m : Int) (x : Nat)
    (hc : ∀ w, Rd w b off s a e0 → Calls Try.prog 33 #[.pointer (some ⟨b, off, none⟩), .int .i64 m] w fun e w' => ∃ v : Nat, e = .returned (.int .u64 (v : Int)) ∧ R v ∧ ToR b off s a' e' w w')
    (w : World) (h : Rd w b off s a e0) (hx : x < 18446744073709551616) :
    Calls Try.prog 29 #[.pointer (some ⟨b, off, none⟩), .agg #[.int .i64 2, .int .i64 n, .int .u64 x, .int .i64 m]] w fun e w' => ∃ v : Nat, e = .returned (.bool ((v : Int) == (x : Int))) ∧ R v ∧ ToR b off s a' e' w w' := by
  have hb : b < w.heap.size := block_lt_of_cell h.text
  have Ho : Only b off (off + 3) w (w.alloc (.cells #[.int .i64 2, .int .i64 n, .int .u64 x, .int .i64 m] 65)) := (Only.refl _ _ _ _).alloc hb _
  have Hr : Rd (w.alloc (.cells #[.int .i64 2, .int .i64 n, .int .u64 x, .int .i64 m] 65)) b off s a e0 := h.below ((Below.refl _ _).alloc (Nat.le_refl _) _) hb
  have n2 : (w.alloc (.cells #[.int .i64 2, .int .i64 n, .int .u64 x, .int .i64 m] 65)).cell? ⟨w.heap.size, 2, none⟩ = some (.int .u64 x) := by rw [cell_of_row _ _ _ _ _ _ (heap_alloc_new _ _)]; rfl
  have n3 : (w.alloc (.cells #[.int .i64 2, .int .i64 n, .int .u64 x, .int .i64 m] 65)).cell? ⟨w.heap.size, 3, none⟩ = some (.int .i64 m) := by rw [cell_of_row _ _ _ _ _ _ (heap_alloc_new _ _)]; rfl
  have hne : w.heap.size ≠ b := by omega
  go_enter Try.func29, Try.ntmps29
  go_wp2_with fail
  generalize w.alloc (.cells #[.int .i64 2, .int .i64 n, .int .u64 x, .int .i64 m] 65) = wo at *
  have Hrd : Rd wo.drew b off s a e0 := Hr.drewN 1
  have Hod : Only b off (off + 3) w wo.drew := Ho.drew
  go_region_held3 (fun w' => w'.cell? ⟨w.heap.size, 2, none⟩ = some (.int .u64 x) ∧ w'.cell? ⟨w.heap.size, 3, none⟩ = some (.int .i64 m)) (first | exact ⟨n2, n3⟩ | exact ⟨O5.keepc hne n2, O5.keepc hne n3⟩)
    (first | (go_at_call 33; refine (hc _ Hrd).mono ?_; rintro _ w5 ⟨v5, rfl, Rv5, R5, O5⟩))
  go_wp2_with fail
  go_ret
  exact ⟨v5, rfl, Rv5, R5, Hod.trans O5⟩

set_option maxRecDepth 100000 in
theorem got3 {b off : Nat} {s : ByteArray} {a a' : Nat} {e0 e' : Int} {R : Nat → Prop} (n m : Int) (x : Nat)
    (hc : ∀ w, Rd w b off s a e0 → Calls Try.prog 35 #[.pointer (some ⟨b, off, none⟩)] w fun e w' => ∃ v : Nat, e = .returned (.int .i64 (v : Int)) ∧ R v ∧ ToR b off s a' e' w w')
    (w : World) (h : Rd w b off s a e0) (hx : x < 18446744073709551616) :
    Calls Try.prog 29 #[.pointer (some ⟨b, off, none⟩), .agg #[.int .i64 3, .int .i64 n, .int .u64 x, .int .i64 m]] w fun e w' => ∃ v : Nat, e = .returned (.bool ((v : Int) == m)) ∧ R v ∧ ToR b off s a' e' w w' := by
  have hb : b < w.heap.size := block_lt_of_cell h.text
  have Ho : Only b off (off + 3) w (w.alloc (.cells #[.int .i64 3, .int .i64 n, .int .u64 x, .int .i64 m] 65)) := (Only.refl _ _ _ _).alloc hb _
  have Hr : Rd (w.alloc (.cells #[.int .i64 3, .int .i64 n, .int .u64 x, .int .i64 m] 65)) b off s a e0 := h.below ((Below.refl _ _).alloc (Nat.le_refl _) _) hb
  have n2 : (w.alloc (.cells #[.int .i64 3, .int .i64 n, .int .u64 x, .int .i64 m] 65)).cell? ⟨w.heap.size, 2, none⟩ = some (.int .u64 x) := by rw [cell_of_row _ _ _ _ _ _ (heap_alloc_new _ _)]; rfl
  have n3 : (w.alloc (.cells #[.int .i64 3, .int .i64 n, .int .u64 x, .int .i64 m] 65)).cell? ⟨w.heap.size, 3, none⟩ = some (.int .i64 m) := by rw [cell_of_row _ _ _ _ _ _ (heap_alloc_new _ _)]; rfl
  have hne : w.heap.size ≠ b := by omega
  go_enter Try.func29, Try.ntmps29
  go_wp2_with fail
  generalize w.alloc (.cells #[.int .i64 3, .int .i64 n, .int .u64 x, .int .i64 m] 65) = wo at *
  have Hrd : Rd wo.drew b off s a e0 := Hr.drewN 1
  have Hod : Only b off (off + 3) w wo.drew := Ho.drew
  go_region_held3 (fun w' => w'.cell? ⟨w.heap.size, 3, none⟩ = some (.int .i64 m)) (first | exact n3 | exact O5.keepc hne n3)
    (first | (go_at_call 35; refine (hc _ Hrd).mono ?_; rintro _ w5 ⟨v5, rfl, Rv5, R5, O5⟩))
  go_wp2_with fail
  go_ret
  exact ⟨v5, rfl, Rv5, R5, Hod.trans O5⟩

set_option maxRecDepth 100000 in
theorem got4 {b off : Nat} {s : ByteArray} {a a' : Nat} {e0 e' : Int} {R : Nat → Prop} (n m : Int) (x : Nat)
    (hc : ∀ w, Rd w b off s a e0 → Calls Try.prog 37 #[.pointer (some ⟨b, off, none⟩)] w fun e w' => ∃ v : Nat, e = .returned (.int .u64 (v : Int)) ∧ R v ∧ ToR b off s a' e' w w')
    (w : World) (h : Rd w b off s a e0) (hx : x < 18446744073709551616) :
    Calls Try.prog 29 #[.pointer (some ⟨b, off, none⟩), .agg #[.int .i64 4, .int .i64 n, .int .u64 x, .int .i64 m]] w fun e w' => ∃ v : Nat, e = .returned (.bool ((v : Int) == (x : Int))) ∧ R v ∧ ToR b off s a' e' w w' := by
  have hb : b < w.heap.size := block_lt_of_cell h.text
  have Ho : Only b off (off + 3) w (w.alloc (.cells #[.int .i64 4, .int .i64 n, .int .u64 x, .int .i64 m] 65)) := (Only.refl _ _ _ _).alloc hb _
  have Hr : Rd (w.alloc (.cells #[.int .i64 4, .int .i64 n, .int .u64 x, .int .i64 m] 65)) b off s a e0 := h.below ((Below.refl _ _).alloc (Nat.le_refl _) _) hb
  have n2 : (w.alloc (.cells #[.int .i64 4, .int .i64 n, .int .u64 x, .int .i64 m] 65)).cell? ⟨w.heap.size, 2, none⟩ = some (.int .u64 x) := by rw [cell_of_row _ _ _ _ _ _ (heap_alloc_new _ _)]; rfl
  have n3 : (w.alloc (.cells #[.int .i64 4, .int .i64 n, .int .u64 x, .int .i64 m] 65)).cell? ⟨w.heap.size, 3, none⟩ = some (.int .i64 m) := by rw [cell_of_row _ _ _ _ _ _ (heap_alloc_new _ _)]; rfl
  have hne : w.heap.size ≠ b := by omega
  go_enter Try.func29, Try.ntmps29
  go_wp2_with fail
  generalize w.alloc (.cells #[.int .i64 4, .int .i64 n, .int .u64 x, .int .i64 m] 65) = wo at *
  have Hrd : Rd wo.drew b off s a e0 := Hr.drewN 1
  have Hod : Only b off (off + 3) w wo.drew := Ho.drew
  go_region_held3 (fun w' => w'.cell? ⟨w.heap.size, 2, none⟩ = some (.int .u64 x)) (first | exact n2 | exact O5.keepc hne n2)
    (first | (go_at_call 37; refine (hc _ Hrd).mono ?_; rintro _ w5 ⟨v5, rfl, Rv5, R5, O5⟩))
  go_wp2_with fail
  go_ret
  exact ⟨v5, rfl, Rv5, R5, Hod.trans O5⟩

set_option maxRecDepth 100000 in
theorem got5 {b off : Nat} {s : ByteArray} {a a' : Nat} {e0 e' : Int} {R : Int → Prop} (n m : Int) (x : Nat)
    (hc : ∀ w, Rd w b off s a e0 → Calls Try.prog 39 #[.pointer (some ⟨b, off, none⟩)] w fun e w' => ∃ v : Int, e = .returned (.int .i64 v) ∧ R v ∧ ToR b off s a' e' w w')
    (w : World) (h : Rd w b off s a e0) (hx : x < 18446744073709551616) :
    Calls Try.prog 29 #[.pointer (some ⟨b, off, none⟩), .agg #[.int .i64 5, .int .i64 n, .int .u64 x, .int .i64 m]] w fun e w' => ∃ v : Int, e = .returned (.bool (v == i64of x)) ∧ R v ∧ ToR b off s a' e' w w' := by
  have hb : b < w.heap.size := block_lt_of_cell h.text
  have Ho : Only b off (off + 3) w (w.alloc (.cells #[.int .i64 5, .int .i64 n, .int .u64 x, .int .i64 m] 65)) := (Only.refl _ _ _ _).alloc hb _
  have Hr : Rd (w.alloc (.cells #[.int .i64 5, .int .i64 n, .int .u64 x, .int .i64 m] 65)) b off s a e0 := h.below ((Below.refl _ _).alloc (Nat.le_refl _) _) hb
  have n2 : (w.alloc (.cells #[.int .i64 5, .int .i64 n, .int .u64 x, .int .i64 m] 65)).cell? ⟨w.heap.size, 2, none⟩ = some (.int .u64 x) := by rw [cell_of_row _ _ _ _ _ _ (heap_alloc_new _ _)]; rfl
  have n3 : (w.alloc (.cells #[.int .i64 5, .int .i64 n, .int .u64 x, .int .i64 m] 65)).cell? ⟨w.heap.size, 3, none⟩ = some (.int .i64 m) := by rw [cell_of_row _ _ _ _ _ _ (heap_alloc_new _ _)]; rfl
  have hne : w.heap.size ≠ b := by omega
  go_enter Try.func29, Try.ntmps29
  go_wp2_with fail
  generalize w.alloc (.cells #[.int .i64 5, .int .i64 n, .int .u64 x, .int .i64 m] 65) = wo at *
  have Hrd : Rd wo.drew b off s a e0 := Hr.drewN 1
  have Hod : Only b off (off + 3) w wo.drew := Ho.drew
  go_region_held3 (fun w' => w'.cell? ⟨w.heap.size, 2, none⟩ = some (.int .u64 x)) (first | exact n2 | exact O5.keepc hne n2)
    (first | (go_at_call 39; refine (hc _ Hrd).mono ?_; rintro _ w5 ⟨v5, rfl, Rv5, R5, O5⟩))
  go_wp2_with fail
  go_ret
  exact ⟨v5, by rw [← conv64 x hx]; rfl, Rv5, R5, Hod.trans O5⟩

end Go.Proofs.Ytpiiagjfimdflaa

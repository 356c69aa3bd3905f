/- Down, Class. -/
import Derived.Test.YtleeahigceppiaaDoorFE
/- Key, OfKey, Class, Up, Down. -/
namespace Go.Proofs.YtleeahigceppiaaDoor
open Go.RowKit
set_option linter.unusedVariables false
set_option linter.unusedSimpArgs false

/-- A pattern's place; the pattern of a place; the other sign; the next number above, below. -/
def key64 (b : Nat) : Nat := if b < 9223372036854775808 then 9223372036854775808 + b else 18446744073709551615 - b
def ofKey64 (k : Nat) : Nat := if k < 9223372036854775808 then 18446744073709551615 - k else k - 9223372036854775808
def flip64 (b : Nat) : Nat := if b < 9223372036854775808 then 9223372036854775808 + b else b - 9223372036854775808
def up64 (b : Nat) : Nat := if 9218868437227405312 < b % 9223372036854775808 then 9221120237041090560 else if b = 9218868437227405312 then b else if b % 9223372036854775808 = 0 then 1 else if b < 9223372036854775808 then b + 1 else b - 1
def down64 (b : Nat) : Nat := if 9218868437227405312 < b % 9223372036854775808 then 9221120237041090560 else flip64 (up64 (flip64 b))
def class64 (b : Nat) : Nat := if b % 9223372036854775808 = 0 then 0 else if b % 9223372036854775808 < 4503599627370496 then 1 else if b % 9223372036854775808 < 9218868437227405312 then 2 else if b % 9223372036854775808 = 9218868437227405312 then 3 else if b % 9223372036854775808 < 9221120237041090560 then 5 else 4

theorem key64_lt (b : Nat) (hb : b < 18446744073709551616) : key64 b < 18446744073709551616 := by unfold key64; split <;> omega
theorem ofKey64_lt (b : Nat) (hb : b < 18446744073709551616) : ofKey64 b < 18446744073709551616 := by unfold ofKey64; split <;> omega
theorem flip64_lt (b : Nat) (hb : b < 18446744073709551616) : flip64 b < 18446744073709551616 := by unfold flip64; split <;> omega
theorem flip64_mod (b : Nat) (hb : b < 18446744073709551616) : flip64 b % 9223372036854775808 = b % 9223372036854775808 := by unfold flip64; split <;> omega
theorem up64_lt (b : Nat) (hb : b < 18446744073709551616) : up64 b < 18446744073709551616 := by unfold up64; repeat (first | omega | split)
theorem ofKey64_key (b : Nat) (hb : b < 18446744073709551616) : ofKey64 (key64 b) = b := by unfold ofKey64 key64; split <;> split <;> omega
theorem key64_ofKey (b : Nat) (hb : b < 18446744073709551616) : key64 (ofKey64 b) = b := by unfold ofKey64 key64; split <;> split <;> omega
theorem ofKey64_next (b : Nat) (hb : b < 18446744073709551616) (h1 : b % 9223372036854775808 ≤ 9218868437227405312) (h2 : b ≠ 9218868437227405312) (h3 : b % 9223372036854775808 ≠ 0) : ofKey64 (key64 b + 1) = if b < 9223372036854775808 then b + 1 else b - 1 := by
  unfold ofKey64 key64
  by_cases h : b < 9223372036854775808
  · rw [if_pos h, if_pos h, if_neg (by omega)]; omega
  · rw [if_neg h, if_neg h, if_pos (by omega)]; omega

theorem layField64 (w : World) : (Instr.field 60 (.agg #[.int .u64 9223372036854775808, .int .u64 9218868437227405312, .int .u64 2251799813685248]) 0).run Tryd.prog w = .ok (.int .u64 9223372036854775808) w := by kernel_rfl



/-- A layout lies in a block. -/
structure Lay64 (w : World) (g : Nat) : Prop where
  c0 : w.cell? ⟨g, 0, none⟩ = some (.int .u64 9223372036854775808)
  c1 : w.cell? ⟨g, 1, none⟩ = some (.int .u64 9218868437227405312)
  c2 : w.cell? ⟨g, 2, none⟩ = some (.int .u64 2251799813685248)
theorem Lay64.new (w : World) : Lay64 (w.alloc (Obj.cells #[Value.int .u64 9223372036854775808, Value.int .u64 9218868437227405312, Value.int .u64 2251799813685248] 60)) w.heap.size := ⟨by simp, by simp, by simp⟩
theorem Lay64.below {w w' : World} {g : Nat} (h : Lay64 w g) (hb : Below w.heap.size w w') : Lay64 w' g := by
  have hg : g < w.heap.size := block_lt_of_cell h.c0
  exact ⟨by rw [hb.cell (p := ⟨g, 0, none⟩) hg]; exact h.c0, by rw [hb.cell (p := ⟨g, 1, none⟩) hg]; exact h.c1, by rw [hb.cell (p := ⟨g, 2, none⟩) hg]; exact h.c2⟩


/-- A pattern's place; the pattern of a place; the other sign; the next number above, below. -/
def key32 (b : Nat) : Nat := if b < 2147483648 then 2147483648 + b else 4294967295 - b
def ofKey32 (k : Nat) : Nat := if k < 2147483648 then 4294967295 - k else k - 2147483648
def flip32 (b : Nat) : Nat := if b < 2147483648 then 2147483648 + b else b - 2147483648
def up32 (b : Nat) : Nat := if 2139095040 < b % 2147483648 then 2143289344 else if b = 2139095040 then b else if b % 2147483648 = 0 then 1 else if b < 2147483648 then b + 1 else b - 1
def down32 (b : Nat) : Nat := if 2139095040 < b % 2147483648 then 2143289344 else flip32 (up32 (flip32 b))
def class32 (b : Nat) : Nat := if b % 2147483648 = 0 then 0 else if b % 2147483648 < 8388608 then 1 else if b % 2147483648 < 2139095040 then 2 else if b % 2147483648 = 2139095040 then 3 else if b % 2147483648 < 2143289344 then 5 else 4

theorem key32_lt (b : Nat) (hb : b < 4294967296) : key32 b < 4294967296 := by unfold key32; split <;> omega
theorem ofKey32_lt (b : Nat) (hb : b < 4294967296) : ofKey32 b < 4294967296 := by unfold ofKey32; split <;> omega
theorem flip32_lt (b : Nat) (hb : b < 4294967296) : flip32 b < 4294967296 := by unfold flip32; split <;> omega
theorem flip32_mod (b : Nat) (hb : b < 4294967296) : flip32 b % 2147483648 = b % 2147483648 := by unfold flip32; split <;> omega
theorem up32_lt (b : Nat) (hb : b < 4294967296) : up32 b < 4294967296 := by unfold up32; repeat (first | omega | split)
theorem ofKey32_key (b : Nat) (hb : b < 4294967296) : ofKey32 (key32 b) = b := by unfold ofKey32 key32; split <;> split <;> omega
theorem key32_ofKey (b : Nat) (hb : b < 4294967296) : key32 (ofKey32 b) = b := by unfold ofKey32 key32; split <;> split <;> omega
theorem ofKey32_next (b : Nat) (hb : b < 4294967296) (h1 : b % 2147483648 ≤ 2139095040) (h2 : b ≠ 2139095040) (h3 : b % 2147483648 ≠ 0) : ofKey32 (key32 b + 1) = if b < 2147483648 then b + 1 else b - 1 := by
  unfold ofKey32 key32
  by_cases h : b < 2147483648
  · rw [if_pos h, if_pos h, if_neg (by omega)]; omega
  · rw [if_neg h, if_neg h, if_pos (by omega)]; omega






end Go.Proofs.YtleeahigceppiaaDoor

namespace Go.Proofs.YtleeahigceppiaaDoor
open Go.RowKit
set_option linter.unusedVariables false
set_option linter.unusedSimpArgs false

theorem b64_flip (b : Nat) (hb : b < 18446744073709551616) : bits BinOp.xor IntKind.u64 (b : Int) 9223372036854775808 = ((flip64 b : Nat) : Int) := by
  unfold flip64
  by_cases h : b < 9223372036854775808
  · rw [if_pos h]; exact b64_xor_lo b h
  · rw [if_neg h]; exact b64_xor_hi b (by omega) hb


set_option maxRecDepth 100000 in
set_option maxHeartbeats 1000000 in
theorem class64_core (b fl y c : Nat) (w : World) (hb : b < 18446744073709551616) (h1 : bits BinOp.and IntKind.u64 (b : Int) 9218868437227405312 = (fl : Int)) (h2 : bits BinOp.andNot IntKind.u64 (b : Int) 18442240474082181120 = (y : Int)) (hy : y < 4503599627370496)
    (hc : (fl = 9218868437227405312 ∧ y = 0 ∧ c = 3) ∨ (fl = 9218868437227405312 ∧ 2251799813685248 ≤ y ∧ c = 4) ∨ (fl = 9218868437227405312 ∧ y ≠ 0 ∧ y < 2251799813685248 ∧ c = 5) ∨ (fl ≠ 9218868437227405312 ∧ fl ≠ 0 ∧ c = 2) ∨ (fl = 0 ∧ y ≠ 0 ∧ c = 1) ∨ (fl = 0 ∧ y = 0 ∧ c = 0)) :
    Calls Tryd.prog 12 #[.int .u64 b] w fun e w' => e = .returned (.int .i64 c) ∧ Below w.heap.size w w' := by
  have hsf := b64_sf
  rcases hc with ⟨rfl, rfl, rfl⟩ | ⟨rfl, q1, rfl⟩ | ⟨rfl, q1, q2, rfl⟩ | ⟨q1, q2, rfl⟩ | ⟨rfl, q1, rfl⟩ | ⟨rfl, rfl, rfl⟩
  · have h1 : bits BinOp.and IntKind.u64 (b : Int) 9218868437227405312 = 9218868437227405312 := h1
    have h2 : bits BinOp.andNot IntKind.u64 (b : Int) 18442240474082181120 = 0 := h2
    go_enter Tryd.func12, Tryd.ntmps12
    go_wp2_with fail
    refine (layoutOf64_any w).mono ?_
    rintro e w1 ⟨rfl, hb1⟩
    unfold lay64
    have H1 := fhide hb1
    clear hb1
    go_wp2_with fail
    go_quiet (simp only [hsf, h1, h2])
    go_wp2_with (simp only [hsf, h1, h2])
    go_ret
    exact ⟨rfl, below_drewN (H1.out.alloc H1.out.size _) _⟩
  · have h1 : bits BinOp.and IntKind.u64 (b : Int) 9218868437227405312 = 9218868437227405312 := h1
    have hq := b64_q_hi y q1 hy
    have h0 : ((y : Int) == 0) = false := by simp; omega
    go_enter Tryd.func12, Tryd.ntmps12
    go_wp2_with fail
    refine (layoutOf64_any w).mono ?_
    rintro e w1 ⟨rfl, hb1⟩
    unfold lay64
    have H1 := fhide hb1
    clear hb1
    go_wp2_with fail
    go_quiet (simp only [hsf, h1, h2])
    go_wp2_with (simp only [hsf, h1, h2, hq])
    go_ret
    exact ⟨rfl, below_drewN (H1.out.alloc H1.out.size _) _⟩
  · have h1 : bits BinOp.and IntKind.u64 (b : Int) 9218868437227405312 = 9218868437227405312 := h1
    have hq := b64_q_lo y q2
    have h0 : ((y : Int) == 0) = false := by simp; omega
    go_enter Tryd.func12, Tryd.ntmps12
    go_wp2_with fail
    refine (layoutOf64_any w).mono ?_
    rintro e w1 ⟨rfl, hb1⟩
    unfold lay64
    have H1 := fhide hb1
    clear hb1
    go_wp2_with fail
    go_quiet (simp only [hsf, h1, h2])
    go_wp2_with (simp only [hsf, h1, h2, hq])
    go_ret
    exact ⟨rfl, below_drewN (H1.out.alloc H1.out.size _) _⟩
  · have h0 : ((fl : Int) == 9218868437227405312) = false := by simp; omega
    have h3 : ((fl : Int) == 0) = false := by simp; omega
    have h4 : ((fl : Int) != 0) = true := by simp; omega
    go_enter Tryd.func12, Tryd.ntmps12
    go_wp2_with fail
    refine (layoutOf64_any w).mono ?_
    rintro e w1 ⟨rfl, hb1⟩
    unfold lay64
    have H1 := fhide hb1
    clear hb1
    go_wp2_with fail
    go_quiet (simp only [hsf, h1, h2])
    go_wp2_with (simp only [hsf, h1, h2])
    go_ret
    exact ⟨rfl, below_drewN (H1.out.alloc H1.out.size _) _⟩
  · have h1 : bits BinOp.and IntKind.u64 (b : Int) 9218868437227405312 = 0 := h1
    have h0 : ((y : Int) == 0) = false := by simp; omega
    have h4 : ((y : Int) != 0) = true := by simp; omega
    go_enter Tryd.func12, Tryd.ntmps12
    go_wp2_with fail
    refine (layoutOf64_any w).mono ?_
    rintro e w1 ⟨rfl, hb1⟩
    unfold lay64
    have H1 := fhide hb1
    clear hb1
    go_wp2_with fail
    go_quiet (simp only [hsf, h1, h2])
    go_wp2_with (simp only [hsf, h1, h2])
    go_ret
    exact ⟨rfl, below_drewN (H1.out.alloc H1.out.size _) _⟩
  · have h1 : bits BinOp.and IntKind.u64 (b : Int) 9218868437227405312 = 0 := h1
    have h2 : bits BinOp.andNot IntKind.u64 (b : Int) 18442240474082181120 = 0 := h2
    go_enter Tryd.func12, Tryd.ntmps12
    go_wp2_with fail
    refine (layoutOf64_any w).mono ?_
    rintro e w1 ⟨rfl, hb1⟩
    unfold lay64
    have H1 := fhide hb1
    clear hb1
    go_wp2_with fail
    go_quiet (simp only [hsf, h1, h2])
    go_wp2_with (simp only [hsf, h1, h2])
    go_ret
    exact ⟨rfl, below_drewN (H1.out.alloc H1.out.size _) _⟩

theorem Class64_any (b : Nat) (w : World) (hb : b < 18446744073709551616) : Calls Tryd.prog 12 #[.int .u64 b] w fun e w' => e = .returned (.int .i64 (class64 b : Nat)) ∧ Below w.heap.size w w' := by
  refine class64_core b _ _ _ w hb (b64_field b hb) (b64_frac b hb) (Nat.mod_lt _ (by omega)) ?_
  have e : b % 9223372036854775808 = b / 4503599627370496 % (2047 + 1) * 4503599627370496 + b % 4503599627370496 := by omega
  have l1 : b / 4503599627370496 % (2047 + 1) ≤ 2047 := by omega
  have l2 : b % 4503599627370496 < 4503599627370496 := Nat.mod_lt _ (by omega)
  unfold class64
  rw [e]
  generalize b / 4503599627370496 % (2047 + 1) = x at *
  generalize b % 4503599627370496 = y at *
  clear e
  by_cases h1 : x = 2047
  · subst h1
    rw [if_neg (by omega), if_neg (by omega), if_neg (by omega)]
    by_cases h2 : y = 0
    · subst h2; left; simp
    · rw [if_neg (by omega)]
      by_cases h3 : y < 2251799813685248
      · right; right; left; rw [if_pos (by omega)]; exact ⟨rfl, h2, h3, rfl⟩
      · right; left; rw [if_neg (by omega)]; exact ⟨rfl, by omega, rfl⟩
  · by_cases h2 : x = 0
    · subst h2
      by_cases h3 : y = 0
      · subst h3; right; right; right; right; right; simp
      · rw [if_neg (by omega), if_pos (by omega)]
        right; right; right; right; left; exact ⟨by omega, h3, rfl⟩
    · rw [if_neg (by omega), if_neg (by omega), if_pos (by omega)]
      right; right; right; left; exact ⟨by omega, by omega, rfl⟩

theorem b32_flip (b : Nat) (hb : b < 4294967296) : bits BinOp.xor IntKind.u32 (b : Int) 2147483648 = ((flip32 b : Nat) : Int) := by
  unfold flip32
  by_cases h : b < 2147483648
  · rw [if_pos h]; exact b32_xor_lo b h
  · rw [if_neg h]; exact b32_xor_hi b (by omega) hb



end Go.Proofs.YtleeahigceppiaaDoor

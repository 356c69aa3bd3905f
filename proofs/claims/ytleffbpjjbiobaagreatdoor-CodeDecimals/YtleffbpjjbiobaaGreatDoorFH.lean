/- value, Cmp: of 64 bits. -/
import Derived.Test.YtleffbpjjbiobaaGreatDoorFE
/- Key, OfKey, Class, Up, Down. -/
namespace Go.Proofs.YtleffbpjjbiobaaGreatDoor
open Go.RowKit
set_option linter.unusedVariables false
set_option linter.unusedSimpArgs false

/-- A pattern's place; the pattern of a place; the other sign; the next number above, below. -/
def key64 (b : Nat) : Nat := if b < 9223372036854775808 then 9223372036854775808 + b else 18446744073709551615 - b
def ofKey64 (k : Nat) : Nat := if k < 9223372036854775808 then 18446744073709551615 - k else k - 9223372036854775808
def flip64 (b : Nat) : Nat := if b < 9223372036854775808 then 9223372036854775808 + b else b - 9223372036854775808
def up64 (b : Nat) : Nat := if 9218868437227405312 < b % 9223372036854775808 then 9221120237041090560 else if b = 9218868437227405312 then b else if b % 9223372036854775808 = 0 then 1 else if b < 9223372036854775808 then b + 1 else b - 1
def down64 (b : Nat) : Nat := if 9218868437227405312 < b % 9223372036854775808 then 9221120237041090560 else flip64 (up64 (flip64 b))
def class64 (b : Nat) : Nat := if b % 9223372036854775808 = 0 then 0 else if b % 9223372036854775808 < 4503599627370496 then 1 else if b % 9223372036854775808 < 9218868437227405312 then 2 else if b % 9223372036854775808 = 9218868437227405312 then 3 else if b % 9223372036854775808 < 9221120237041090560 then 5 else 4

theorem key64_lt (b : Nat) (hb : b < 18446744073709551616) : key64 b < 18446744073709551616 := by unfold key64; split <;> omega
theorem ofKey64_lt (b : Nat) (hb : b < 18446744073709551616) : ofKey64 b < 18446744073709551616 := by unfold ofKey64; split <;> omega
theorem flip64_lt (b : Nat) (hb : b < 18446744073709551616) : flip64 b < 18446744073709551616 := by unfold flip64; split <;> omega
theorem flip64_mod (b : Nat) (hb : b < 18446744073709551616) : flip64 b % 9223372036854775808 = b % 9223372036854775808 := by unfold flip64; split <;> omega
theorem up64_lt (b : Nat) (hb : b < 18446744073709551616) : up64 b < 18446744073709551616 := by unfold up64; repeat (first | omega | split)
theorem ofKey64_key (b : Nat) (hb : b < 18446744073709551616) : ofKey64 (key64 b) = b := by unfold ofKey64 key64; split <;> split <;> omega
theorem key64_ofKey (b : Nat) (hb : b < 18446744073709551616) : key64 (ofKey64 b) = b := by unfold ofKey64 key64; split <;> split <;> omega
theorem ofKey64_next (b : Nat) (hb : b < 18446744073709551616) (h1 : b % 9223372036854775808 ≤ 9218868437227405312) (h2 : b ≠ 9218868437227405312) (h3 : b % 9223372036854775808 ≠ 0) : ofKey64 (key64 b + 1) = if b < 9223372036854775808 then b + 1 else b - 1 := by
  unfold ofKey64 key64
  by_cases h : b < 9223372036854775808
  · rw [if_pos h, if_pos h, if_neg (by omega)]; omega
  · rw [if_neg h, if_neg h, if_pos (by omega)]; omega

theorem layField64 (w : World) : (Instr.field 199 (.agg #[.int .u64 9223372036854775808, .int .u64 9218868437227405312, .int .u64 2251799813685248]) 0).run Tryz.prog w = .ok (.int .u64 9223372036854775808) w := by kernel_rfl



/-- A layout lies in a block. -/
structure Lay64 (w : World) (g : Nat) : Prop where
  c0 : w.cell? ⟨g, 0, none⟩ = some (.int .u64 9223372036854775808)
  c1 : w.cell? ⟨g, 1, none⟩ = some (.int .u64 9218868437227405312)
  c2 : w.cell? ⟨g, 2, none⟩ = some (.int .u64 2251799813685248)
theorem Lay64.new (w : World) : Lay64 (w.alloc (Obj.cells #[Value.int .u64 9223372036854775808, Value.int .u64 9218868437227405312, Value.int .u64 2251799813685248] 199)) w.heap.size := ⟨by simp, by simp, by simp⟩
theorem Lay64.below {w w' : World} {g : Nat} (h : Lay64 w g) (hb : Below w.heap.size w w') : Lay64 w' g := by
  have hg : g < w.heap.size := block_lt_of_cell h.c0
  exact ⟨by rw [hb.cell (p := ⟨g, 0, none⟩) hg]; exact h.c0, by rw [hb.cell (p := ⟨g, 1, none⟩) hg]; exact h.c1, by rw [hb.cell (p := ⟨g, 2, none⟩) hg]; exact h.c2⟩


/-- A pattern's place; the pattern of a place; the other sign; the next number above, below. -/
def key32 (b : Nat) : Nat := if b < 2147483648 then 2147483648 + b else 4294967295 - b
def ofKey32 (k : Nat) : Nat := if k < 2147483648 then 4294967295 - k else k - 2147483648
def flip32 (b : Nat) : Nat := if b < 2147483648 then 2147483648 + b else b - 2147483648
def up32 (b : Nat) : Nat := if 2139095040 < b % 2147483648 then 2143289344 else if b = 2139095040 then b else if b % 2147483648 = 0 then 1 else if b < 2147483648 then b + 1 else b - 1
def down32 (b : Nat) : Nat := if 2139095040 < b % 2147483648 then 2143289344 else flip32 (up32 (flip32 b))
def class32 (b : Nat) : Nat := if b % 2147483648 = 0 then 0 else if b % 2147483648 < 8388608 then 1 else if b % 2147483648 < 2139095040 then 2 else if b % 2147483648 = 2139095040 then 3 else if b % 2147483648 < 2143289344 then 5 else 4

theorem key32_lt (b : Nat) (hb : b < 4294967296) : key32 b < 4294967296 := by unfold key32; split <;> omega
theorem ofKey32_lt (b : Nat) (hb : b < 4294967296) : ofKey32 b < 4294967296 := by unfold ofKey32; split <;> omega
theorem flip32_lt (b : Nat) (hb : b < 4294967296) : flip32 b < 4294967296 := by unfold flip32; split <;> omega
theorem flip32_mod (b : Nat) (hb : b < 4294967296) : flip32 b % 2147483648 = b % 2147483648 := by unfold flip32; split <;> omega
theorem up32_lt (b : Nat) (hb : b < 4294967296) : up32 b < 4294967296 := by unfold up32; repeat (first | omega | split)
theorem ofKey32_key (b : Nat) (hb : b < 4294967296) : ofKey32 (key32 b) = b := by unfold ofKey32 key32; split <;> split <;> omega
theorem key32_ofKey (b : Nat) (hb : b < 4294967296) : key32 (ofKey32 b) = b := by unfold ofKey32 key32; split <;> split <;> omega
theorem ofKey32_next (b : Nat) (hb : b < 4294967296) (h1 : b % 2147483648 ≤ 2139095040) (h2 : b ≠ 2139095040) (h3 : b % 2147483648 ≠ 0) : ofKey32 (key32 b + 1) = if b < 2147483648 then b + 1 else b - 1 := by
  unfold ofKey32 key32
  by_cases h : b < 2147483648
  · rw [if_pos h, if_pos h, if_neg (by omega)]; omega
  · rw [if_neg h, if_neg h, if_pos (by omega)]; omega

theorem layField32 (w : World) : (Instr.field 207 (.agg #[.int .u32 2147483648, .int .u32 2139095040, .int .u32 4194304]) 0).run Tryz.prog w = .ok (.int .u32 2147483648) w := by kernel_rfl



/-- A layout lies in a block. -/
structure Lay32 (w : World) (g : Nat) : Prop where
  c0 : w.cell? ⟨g, 0, none⟩ = some (.int .u32 2147483648)
  c1 : w.cell? ⟨g, 1, none⟩ = some (.int .u32 2139095040)
  c2 : w.cell? ⟨g, 2, none⟩ = some (.int .u32 4194304)
theorem Lay32.new (w : World) : Lay32 (w.alloc (Obj.cells #[Value.int .u32 2147483648, Value.int .u32 2139095040, Value.int .u32 4194304] 207)) w.heap.size := ⟨by simp, by simp, by simp⟩
theorem Lay32.below {w w' : World} {g : Nat} (h : Lay32 w g) (hb : Below w.heap.size w w') : Lay32 w' g := by
  have hg : g < w.heap.size := block_lt_of_cell h.c0
  exact ⟨by rw [hb.cell (p := ⟨g, 0, none⟩) hg]; exact h.c0, by rw [hb.cell (p := ⟨g, 1, none⟩) hg]; exact h.c1, by rw [hb.cell (p := ⟨g, 2, none⟩) hg]; exact h.c2⟩


end Go.Proofs.YtleffbpjjbiobaaGreatDoor

/- Down, Class. -/
namespace Go.Proofs.YtleffbpjjbiobaaGreatDoor
open Go.RowKit
set_option linter.unusedVariables false
set_option linter.unusedSimpArgs false

theorem b64_flip (b : Nat) (hb : b < 18446744073709551616) : bits BinOp.xor IntKind.u64 (b : Int) 9223372036854775808 = ((flip64 b : Nat) : Int) := by
  unfold flip64
  by_cases h : b < 9223372036854775808
  · rw [if_pos h]; exact b64_xor_lo b h
  · rw [if_neg h]; exact b64_xor_hi b (by omega) hb



theorem b32_flip (b : Nat) (hb : b < 4294967296) : bits BinOp.xor IntKind.u32 (b : Int) 2147483648 = ((flip32 b : Nat) : Int) := by
  unfold flip32
  by_cases h : b < 2147483648
  · rw [if_pos h]; exact b32_xor_lo b h
  · rw [if_neg h]; exact b32_xor_hi b (by omega) hb



end Go.Proofs.YtleffbpjjbiobaaGreatDoor

namespace Go.Proofs.YtleffbpjjbiobaaGreatDoor
open Go.RowKit
set_option linter.unusedVariables false
set_option linter.unusedSimpArgs false

theorem frombits64 (b : Nat) (w : World) : (callFunc 176 #[.int .u64 b]).run Tryz.prog w = .ok (.value (.float .f64 b)) w := by
  rw [run_callFunc_extern Tryz.func176 (by kernel_rfl) (by kernel_rfl) (by kernel_rfl) (e := Extern.MathFloatBits.float64frombits) (by kernel_rfl)]
  rfl

set_option maxRecDepth 100000 in
theorem value64_any (b : Nat) (w : World) : Calls Tryz.prog 151 #[.int .u64 b] w fun e w' => e = .returned (.float .f64 b) ∧ w' = w := by
  have hf := frombits64 b
  go_enter Tryz.func151, Tryz.ntmps151
  go_wp2_with fail
  refine (wide64_any _).mono ?_
  rintro e w1 ⟨rfl, rfl⟩
  go_wp2_with (simp only [hf])
  go_ret
  exact ⟨rfl, rfl⟩

end Go.Proofs.YtleffbpjjbiobaaGreatDoor

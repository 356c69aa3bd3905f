/- The contracts of a Writer's Bit, Bits, Unary, Var and Zig, where nothing has been refused. -/
import Derived.Test.YtenhippcjnemcaaDoorB1P
namespace Go.Proofs.YtenhippcjnemcaaDoor
open Go.RowKit
open M
set_option linter.unusedVariables false

theorem wraps_u64 (n : Int) (h₀ : 0 ≤ n) (h₁ : n < 2 ^ 64) : IntKind.u64.wrap n = n := by
  simp only [IntKind.wrap, IntKind.bits, IntKind.signed]; simp; omega

theorem and127 (x : Nat) (h : x < 18446744073709551616) : bits BinOp.and IntKind.u64 (x : Int) 127 = ((x % 128 : Nat) : Int) := by
  have := bits_mask .u64 64 (by decide) wraps_u64 7 (by omega) (x : Int) (by omega) (by omega)
  simpa using this

theorem or128 (y : Nat) (h : y < 128) : bits BinOp.or IntKind.u64 128 (y : Int) = ((128 + y : Nat) : Int) := by
  have := bits_join .u64 64 (by decide) wraps_u64 7 128 (y : Int) (by omega) (by omega) (by omega) (by omega) (by omega) (by omega)
  rw [this]; simp

/-- Bits that fit. -/
theorem wbits_any (b off lo : Nat) (n x : Nat) (w : World) (l : List Bool) (hW : Wr w lo b off l 0) (hb : b < lo) (hlo : lo ≤ w.heap.size)
    (hlen : l.length + n < 1000000000000) (hn64 : n ≤ 64) (hx : x < 18446744073709551616) (hfit : x < 2 ^ n) :
    Calls Tryd.prog 33 #[.pointer (some ⟨b, off, none⟩), .int .u64 x, .int .i64 n] w fun e w' => e = .returned (.tuple #[]) ∧ Wr w' lo b off (l ++ bitsOf x n) 0 ∧ Only b off (off + 123) w w' := by
  have h0 : ((x : Int) / 2 ^ n != 0) = false := by
    have : x / 2 ^ n = 0 := Nat.div_eq_of_lt hfit
    have e : (x : Int) / 2 ^ n = ((x / 2 ^ n : Nat) : Int) := by simp
    rw [e, this]; rfl
  go_enter Tryd.func33, Tryd.ntmps33
  go_wp2_with (go_at_call 50; refine (put_any b off lo n x _ l hW hb hlo hlen hn64 hx).mono ?_; rintro e w' ⟨rfl, h1, h2⟩)
  go_end0
  exact ⟨rfl, h1, h2⟩


theorem xor_ones (a : Nat) (h : a < 18446744073709551616) : a ^^^ 18446744073709551615 = 18446744073709551615 - a := by
  have h1 : (BitVec.ofNat 64 a ^^^ BitVec.allOnes 64).toNat = (~~~ BitVec.ofNat 64 a).toNat := by rw [BitVec.xor_allOnes]
  rw [BitVec.toNat_xor, BitVec.toNat_not, BitVec.toNat_ofNat, BitVec.toNat_allOnes] at h1
  rw [Nat.mod_eq_of_lt (by omega)] at h1
  simpa using h1

/-- Zig's xor. -/
theorem zig_xor (x : Int) (h1 : -9223372036854775808 ≤ x) (h2 : x ≤ 9223372036854775807) :
    bits BinOp.xor IntKind.u64 (IntKind.u64.wrap (IntKind.u64.wrap x * 2)) (IntKind.u64.wrap (x / 9223372036854775808)) = (zig x : Int) := by
  have hw : ∀ n : Int, IntKind.u64.wrap n = n % 18446744073709551616 := fun n => by simp [IntKind.wrap, IntKind.bits, IntKind.signed]
  rw [hw, hw, hw]
  have e1 : ∀ n : Int, 0 ≤ n % 18446744073709551616 ∧ n % 18446744073709551616 < 18446744073709551616 := fun n => by omega
  rw [u64_xor _ _ (e1 _).1 (e1 _).2 (e1 _).1 (e1 _).2]
  unfold zig
  by_cases hx : x < 0
  · rw [if_pos hx]
    have e2 : (x / 9223372036854775808 % 18446744073709551616).toNat = 18446744073709551615 := by omega
    rw [e2, xor_ones _ (by omega)]
    omega
  · rw [if_neg hx]
    have e2 : (x / 9223372036854775808 % 18446744073709551616).toNat = 0 := by omega
    rw [e2, Nat.xor_zero]
    omega

theorem zig_lt (x : Int) (h1 : -9223372036854775808 ≤ x) (h2 : x ≤ 9223372036854775807) : zig x < 18446744073709551616 := by
  unfold zig; split <;> omega


theorem wbit_any (b off lo : Nat) (v : Bool) (w : World) (l : List Bool) (hW : Wr w lo b off l 0) (hb : b < lo) (hlo : lo ≤ w.heap.size)
    (hlen : l.length + 1 < 1000000000000) :
    Calls Tryd.prog 51 #[.pointer (some ⟨b, off, none⟩), .bool v] w fun e w' => e = .returned (.tuple #[]) ∧ Wr w' lo b off (l ++ [v]) 0 ∧ Only b off (off + 123) w w' := by
  cases v with
  | true =>
    go_enter Tryd.func51, Tryd.ntmps51
    go_wp2_with fail
    refine (put_any b off lo 1 1 _ l hW hb hlo hlen (by omega) (by omega)).mono ?_
    rintro e w1 ⟨rfl, h1, h2⟩
    go_wp2
    go_end0
    exact ⟨rfl, h1, h2⟩
  | false =>
    go_enter Tryd.func51, Tryd.ntmps51
    go_wp2_with fail
    refine (put_any b off lo 1 0 _ l hW hb hlo hlen (by omega) (by omega)).mono ?_
    rintro e w1 ⟨rfl, h1, h2⟩
    go_wp2
    go_end0
    exact ⟨rfl, h1, h2⟩

theorem bitsOf_ones (n : Nat) : bitsOf (2 ^ n - 1) n = List.replicate n true := by
  apply num_inj (by simp)
  rw [num_bitsOf]
  have h : num (List.replicate n true) + 1 = 2 ^ n := by
    induction n with
    | zero => rfl
    | succ n ih => simp [List.replicate_succ, num, Nat.pow_succ]; omega
  have : 0 < 2 ^ n := Nat.pos_of_ne_zero (by simp)
  rw [Nat.mod_eq_of_lt (by omega)]; omega

theorem ones_wrap (n : Nat) (hn : n ≤ 64) : IntKind.u64.wrap (IntKind.u64.wrap (2 ^ n) - 1) = ((2 ^ n - 1 : Nat) : Int) := by
  have hw : ∀ n : Int, IntKind.u64.wrap n = n % 18446744073709551616 := fun n => by simp [IntKind.wrap, IntKind.bits, IntKind.signed]
  rw [hw, hw]
  have hpos : 0 < 2 ^ n := Nat.pos_of_ne_zero (by simp)
  have hle : (2 : Nat) ^ n ≤ 2 ^ 64 := Nat.pow_le_pow_right (by omega) hn
  have e : ((2 : Int) ^ n) = ((2 ^ n : Nat) : Int) := by simp
  rw [e]
  generalize (2 : Nat) ^ n = y at *
  omega


end Go.Proofs.YtenhippcjnemcaaDoor

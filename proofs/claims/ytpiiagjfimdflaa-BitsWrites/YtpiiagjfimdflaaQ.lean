/- The contracts of a Writer's Bit, Bits, Unary, Var and Zig, where nothing has been refused. -/
import Derived.Test.YtpiiagjfimdflaaP
namespace Go.Proofs.Ytpiiagjfimdflaa
open Go.RowKit
open M
set_option linter.unusedVariables false

theorem wraps_u64 (n : Int) (h₀ : 0 ≤ n) (h₁ : n < 2 ^ 64) : IntKind.u64.wrap n = n := by
  simp only [IntKind.wrap, IntKind.bits, IntKind.signed]; simp; omega

theorem and127 (x : Nat) (h : x < 18446744073709551616) : bits BinOp.and IntKind.u64 (x : Int) 127 = ((x % 128 : Nat) : Int) := by
  have := bits_mask .u64 64 (by decide) wraps_u64 7 (by omega) (x : Int) (by omega) (by omega)
  simpa using this

theorem or128 (y : Nat) (h : y < 128) : bits BinOp.or IntKind.u64 128 (y : Int) = ((128 + y : Nat) : Int) := by
  have := bits_join .u64 64 (by decide) wraps_u64 7 128 (y : Int) (by omega) (by omega) (by omega) (by omega) (by omega) (by omega)
  rw [this]; simp

/-- Bits that fit. -/
theorem wbits_any (b off lo : Nat) (n x : Nat) (w : World) (l : List Bool) (hW : Wr w lo b off l 0) (hb : b < lo) (hlo : lo ≤ w.heap.size)
    (hlen : l.length + n < 1000000000000) (hn64 : n ≤ 64) (hx : x < 18446744073709551616) (hfit : x < 2 ^ n) :
    Calls Try.prog 32 #[.pointer (some ⟨b, off, none⟩), .int .u64 x, .int .i64 n] w fun e w' => e = .returned (.tuple #[]) ∧ Wr w' lo b off (l ++ bitsOf x n) 0 ∧ Only b off (off + 123) w w' := by
  have h0 : ((x : Int) / 2 ^ n != 0) = false := by
    have : x / 2 ^ n = 0 := Nat.div_eq_of_lt hfit
    have e : (x : Int) / 2 ^ n = ((x / 2 ^ n : Nat) : Int) := by simp
    rw [e, this]; rfl
  go_enter Try.func32, Try.ntmps32
  go_wp2_with (go_at_call 61; refine (put_any b off lo n x _ l hW hb hlo hlen hn64 hx).mono ?_; rintro e w' ⟨rfl, h1, h2⟩)
  go_end0
  exact ⟨rfl, h1, h2⟩

set_option maxHeartbeats 400000 in
theorem wvar_any (b off lo : Nat) (x : Nat) (w : World) (l : List Bool) (hW : Wr w lo b off l 0) (hb : b < lo) (hlo : lo ≤ w.heap.size)
    (hlen : l.length + 80 < 1000000000000) (hx : x < 18446744073709551616) :
    Calls Try.prog 36 #[.pointer (some ⟨b, off, none⟩), .int .u64 x] w fun e w' => e = .returned (.tuple #[]) ∧ Wr w' lo b off (l ++ varB x) 0 ∧ Only b off (off + 123) w w' := by
  go_enter Try.func36, Try.ntmps36
  go_wp2
  go_loopw [1] (fun i wr => ∃ (k y : Nat) (pre : List Bool), k ≤ 9 ∧ pre.length = 8 * (9 - k) ∧ y < 128 ^ (k + 1) ∧ y ≤ x ∧ i = .int .u64 y ∧ Hid (pre ++ groups k y = varB x) ∧ Wr wr lo b off (l ++ pre) 0 ∧ Only b off (off + 123) w wr) (fun i _ => (intOf i).toNat)
  case atStart => exact ⟨9, x, [], by omega, by simp, by omega, by omega, rfl, rfl, by simpa using hW, Only.refl _ _ _ _⟩
  case round =>
    obtain ⟨k, y, pre, hk, hpre, hy, hyx, rfl, hE, hWr, hO⟩ := hrel
    have Hpre : Hid (pre.length = 8 * (9 - k)) := hpre
    clear hpre
    by_cases hlt : 127 < y
    · obtain ⟨k, rfl⟩ : ∃ k', k = k' + 1 := by
        cases k with
        | zero => simp at hy; omega
        | succ k => exact ⟨k, rfl⟩
      have ha := and127 y (by omega)
      have ho : Hid (bits BinOp.or IntKind.u64 128 ((y : Int) % 128) = ((128 + y % 128 : Nat) : Int)) := by have := or128 (y % 128) (by omega); unfold Hid; simpa using this
      have Hle : (l ++ pre).length + 8 < 1000000000000 := by simp [Hpre.out]; omega
      go_wp2_with fail
      rw [ho.out]
      refine (put_any b off lo 8 _ _ (l ++ pre) hWr hb (Nat.le_trans hlo hO.size) Hle (by omega) (by omega)).mono ?_
      rintro e w1 ⟨rfl, h1, h2⟩
      go_wp2_with fail
      go_roundw
      case rel =>
        refine ⟨k, y / 128, pre ++ bitsOf (128 + y % 128) 8, by omega, by simp [Hpre.out]; omega, ?_, by omega, by go_num, ?_, by simpa using h1, hO.trans h2⟩
        · rw [Nat.pow_succ] at hy; omega
        · show _ = _; rw [← hE.out, groups_big k y (by omega)]; simp
      case measure => simp [intOf]; omega
    · go_wp2_with fail
      refine (put_any b off lo 8 y _ (l ++ pre) hWr hb (Nat.le_trans hlo hO.size) (by simp [Hpre.out]; omega) (by omega) (by omega)).mono ?_
      rintro e w1 ⟨rfl, h1, h2⟩
      go_wp2
      go_end0
      exact ⟨rfl, by rw [← hE.out, groups_small k y (by omega)]; simpa using h1, hO.trans h2⟩

theorem xor_ones (a : Nat) (h : a < 18446744073709551616) : a ^^^ 18446744073709551615 = 18446744073709551615 - a := by
  have h1 : (BitVec.ofNat 64 a ^^^ BitVec.allOnes 64).toNat = (~~~ BitVec.ofNat 64 a).toNat := by rw [BitVec.xor_allOnes]
  rw [BitVec.toNat_xor, BitVec.toNat_not, BitVec.toNat_ofNat, BitVec.toNat_allOnes] at h1
  rw [Nat.mod_eq_of_lt (by omega)] at h1
  simpa using h1

/-- Zig's xor. -/
theorem zig_xor (x : Int) (h1 : -9223372036854775808 ≤ x) (h2 : x ≤ 9223372036854775807) :
    bits BinOp.xor IntKind.u64 (IntKind.u64.wrap (IntKind.u64.wrap x * 2)) (IntKind.u64.wrap (x / 9223372036854775808)) = (zig x : Int) := by
  have hw : ∀ n : Int, IntKind.u64.wrap n = n % 18446744073709551616 := fun n => by simp [IntKind.wrap, IntKind.bits, IntKind.signed]
  rw [hw, hw, hw]
  have e1 : ∀ n : Int, 0 ≤ n % 18446744073709551616 ∧ n % 18446744073709551616 < 18446744073709551616 := fun n => by omega
  rw [u64_xor _ _ (e1 _).1 (e1 _).2 (e1 _).1 (e1 _).2]
  unfold zig
  by_cases hx : x < 0
  · rw [if_pos hx]
    have e2 : (x / 9223372036854775808 % 18446744073709551616).toNat = 18446744073709551615 := by omega
    rw [e2, xor_ones _ (by omega)]
    omega
  · rw [if_neg hx]
    have e2 : (x / 9223372036854775808 % 18446744073709551616).toNat = 0 := by omega
    rw [e2, Nat.xor_zero]
    omega

theorem zig_lt (x : Int) (h1 : -9223372036854775808 ≤ x) (h2 : x ≤ 9223372036854775807) : zig x < 18446744073709551616 := by
  unfold zig; split <;> omega

theorem wzig_any (b off lo : Nat) (x : Int) (w : World) (l : List Bool) (hW : Wr w lo b off l 0) (hb : b < lo) (hlo : lo ≤ w.heap.size)
    (hlen : l.length + 80 < 1000000000000) (hx1 : -9223372036854775808 ≤ x) (hx2 : x ≤ 9223372036854775807) :
    Calls Try.prog 38 #[.pointer (some ⟨b, off, none⟩), .int .i64 x] w fun e w' => e = .returned (.tuple #[]) ∧ Wr w' lo b off (l ++ varB (zig x)) 0 ∧ Only b off (off + 123) w w' := by
  go_enter Try.func38, Try.ntmps38
  go_wp2_with fail
  rw [zig_xor x hx1 hx2]
  refine (wvar_any b off lo (zig x) _ l hW hb hlo hlen (zig_lt x hx1 hx2)).mono ?_
  rintro e w1 ⟨rfl, h1, h2⟩
  go_wp2
  go_end0
  exact ⟨rfl, h1, h2⟩

theorem wbit_any (b off lo : Nat) (v : Bool) (w : World) (l : List Bool) (hW : Wr w lo b off l 0) (hb : b < lo) (hlo : lo ≤ w.heap.size)
    (hlen : l.length + 1 < 1000000000000) :
    Calls Try.prog 30 #[.pointer (some ⟨b, off, none⟩), .bool v] w fun e w' => e = .returned (.tuple #[]) ∧ Wr w' lo b off (l ++ [v]) 0 ∧ Only b off (off + 123) w w' := by
  cases v with
  | true =>
    go_enter Try.func30, Try.ntmps30
    go_wp2_with fail
    refine (put_any b off lo 1 1 _ l hW hb hlo hlen (by omega) (by omega)).mono ?_
    rintro e w1 ⟨rfl, h1, h2⟩
    go_wp2
    go_end0
    exact ⟨rfl, h1, h2⟩
  | false =>
    go_enter Try.func30, Try.ntmps30
    go_wp2_with fail
    refine (put_any b off lo 1 0 _ l hW hb hlo hlen (by omega) (by omega)).mono ?_
    rintro e w1 ⟨rfl, h1, h2⟩
    go_wp2
    go_end0
    exact ⟨rfl, h1, h2⟩

theorem bitsOf_ones (n : Nat) : bitsOf (2 ^ n - 1) n = List.replicate n true := by
  apply num_inj (by simp)
  rw [num_bitsOf]
  have h : num (List.replicate n true) + 1 = 2 ^ n := by
    induction n with
    | zero => rfl
    | succ n ih => simp [List.replicate_succ, num, Nat.pow_succ]; omega
  have : 0 < 2 ^ n := Nat.pos_of_ne_zero (by simp)
  rw [Nat.mod_eq_of_lt (by omega)]; omega

theorem ones_wrap (n : Nat) (hn : n ≤ 64) : IntKind.u64.wrap (IntKind.u64.wrap (2 ^ n) - 1) = ((2 ^ n - 1 : Nat) : Int) := by
  have hw : ∀ n : Int, IntKind.u64.wrap n = n % 18446744073709551616 := fun n => by simp [IntKind.wrap, IntKind.bits, IntKind.signed]
  rw [hw, hw]
  have hpos : 0 < 2 ^ n := Nat.pos_of_ne_zero (by simp)
  have hle : (2 : Nat) ^ n ≤ 2 ^ 64 := Nat.pow_le_pow_right (by omega) hn
  have e : ((2 : Int) ^ n) = ((2 ^ n : Nat) : Int) := by simp
  rw [e]
  generalize (2 : Nat) ^ n = y at *
  omega

theorem wunary_any (b off lo : Nat) (n : Nat) (w : World) (l : List Bool) (hW : Wr w lo b off l 0) (hb : b < lo) (hlo : lo ≤ w.heap.size)
    (hlen : l.length + 65 < 1000000000000) (hn : n ≤ 64) :
    Calls Try.prog 34 #[.pointer (some ⟨b, off, none⟩), .int .i64 n] w fun e w' => e = .returned (.tuple #[]) ∧ Wr w' lo b off (l ++ (List.replicate n true ++ [false])) 0 ∧ Only b off (off + 123) w w' := by
  have hle : (2 : Nat) ^ n ≤ 2 ^ 64 := Nat.pow_le_pow_right (by omega) hn
  have Hle : Hid ((2 : Nat) ^ n ≤ 2 ^ 64) := hle
  clear hle
  go_enter Try.func34, Try.ntmps34
  go_wp2_with fail
  rw [ones_wrap n hn]
  refine (put_any b off lo n (2 ^ n - 1) _ l hW hb hlo (by omega) hn (by have := Hle.out; have : 0 < 2 ^ n := Nat.pos_of_ne_zero (by simp); omega)).mono ?_
  rintro e w1 ⟨rfl, h1, h2⟩
  rw [bitsOf_ones] at h1
  go_wp2_with fail
  refine (put_any b off lo 1 0 _ _ h1 hb (Nat.le_trans hlo h2.size) (by simp; omega) (by omega) (by omega)).mono ?_
  rintro e w2 ⟨rfl, h3, h4⟩
  go_wp2
  go_end0
  exact ⟨rfl, by rw [List.append_assoc] at h3; exact h3, h2.trans h4⟩

end Go.Proofs.Ytpiiagjfimdflaa

/- What a Reader's look tells: the number of the n bits from a on. -/
import Derived.Test.YtangjkhflgkkdaaGreatB1P
/- The contracts of a Writer's Bit, Bits, Unary, Var and Zig, where nothing has been refused. -/
namespace Go.Proofs.YtangjkhflgkkdaaGreat
open Go.RowKit
open M
set_option linter.unusedVariables false

theorem wraps_u64 (n : Int) (h₀ : 0 ≤ n) (h₁ : n < 2 ^ 64) : IntKind.u64.wrap n = n := by
  simp only [IntKind.wrap, IntKind.bits, IntKind.signed]; simp; omega

theorem and127 (x : Nat) (h : x < 18446744073709551616) : bits BinOp.and IntKind.u64 (x : Int) 127 = ((x % 128 : Nat) : Int) := by
  have := bits_mask .u64 64 (by decide) wraps_u64 7 (by omega) (x : Int) (by omega) (by omega)
  simpa using this

theorem or128 (y : Nat) (h : y < 128) : bits BinOp.or IntKind.u64 128 (y : Int) = ((128 + y : Nat) : Int) := by
  have := bits_join .u64 64 (by decide) wraps_u64 7 128 (y : Int) (by omega) (by omega) (by omega) (by omega) (by omega) (by omega)
  rw [this]; simp

/-- Bits that fit. -/
theorem wbits_any (b off lo : Nat) (n x : Nat) (w : World) (l : List Bool) (hW : Wr w lo b off l 0) (hb : b < lo) (hlo : lo ≤ w.heap.size)
    (hlen : l.length + n < 1000000000000) (hn64 : n ≤ 64) (hx : x < 18446744073709551616) (hfit : x < 2 ^ n) :
    Calls Tryz.prog 78 #[.pointer (some ⟨b, off, none⟩), .int .u64 x, .int .i64 n] w fun e w' => e = .returned (.tuple #[]) ∧ Wr w' lo b off (l ++ bitsOf x n) 0 ∧ Only b off (off + 123) w w' := by
  have h0 : ((x : Int) / 2 ^ n != 0) = false := by
    have : x / 2 ^ n = 0 := Nat.div_eq_of_lt hfit
    have e : (x : Int) / 2 ^ n = ((x / 2 ^ n : Nat) : Int) := by simp
    rw [e, this]; rfl
  go_enter Tryz.func78, Tryz.ntmps78
  go_wp2_with (go_at_call 113; refine (put_any b off lo n x _ l hW hb hlo hlen hn64 hx).mono ?_; rintro e w' ⟨rfl, h1, h2⟩)
  go_end0
  exact ⟨rfl, h1, h2⟩


theorem xor_ones (a : Nat) (h : a < 18446744073709551616) : a ^^^ 18446744073709551615 = 18446744073709551615 - a := by
  have h1 : (BitVec.ofNat 64 a ^^^ BitVec.allOnes 64).toNat = (~~~ BitVec.ofNat 64 a).toNat := by rw [BitVec.xor_allOnes]
  rw [BitVec.toNat_xor, BitVec.toNat_not, BitVec.toNat_ofNat, BitVec.toNat_allOnes] at h1
  rw [Nat.mod_eq_of_lt (by omega)] at h1
  simpa using h1

/-- Zig's xor. -/
theorem zig_xor (x : Int) (h1 : -9223372036854775808 ≤ x) (h2 : x ≤ 9223372036854775807) :
    bits BinOp.xor IntKind.u64 (IntKind.u64.wrap (IntKind.u64.wrap x * 2)) (IntKind.u64.wrap (x / 9223372036854775808)) = (zig x : Int) := by
  have hw : ∀ n : Int, IntKind.u64.wrap n = n % 18446744073709551616 := fun n => by simp [IntKind.wrap, IntKind.bits, IntKind.signed]
  rw [hw, hw, hw]
  have e1 : ∀ n : Int, 0 ≤ n % 18446744073709551616 ∧ n % 18446744073709551616 < 18446744073709551616 := fun n => by omega
  rw [u64_xor _ _ (e1 _).1 (e1 _).2 (e1 _).1 (e1 _).2]
  unfold zig
  by_cases hx : x < 0
  · rw [if_pos hx]
    have e2 : (x / 9223372036854775808 % 18446744073709551616).toNat = 18446744073709551615 := by omega
    rw [e2, xor_ones _ (by omega)]
    omega
  · rw [if_neg hx]
    have e2 : (x / 9223372036854775808 % 18446744073709551616).toNat = 0 := by omega
    rw [e2, Nat.xor_zero]
    omega

theorem zig_lt (x : Int) (h1 : -9223372036854775808 ≤ x) (h2 : x ≤ 9223372036854775807) : zig x < 18446744073709551616 := by
  unfold zig; split <;> omega



theorem bitsOf_ones (n : Nat) : bitsOf (2 ^ n - 1) n = List.replicate n true := by
  apply num_inj (by simp)
  rw [num_bitsOf]
  have h : num (List.replicate n true) + 1 = 2 ^ n := by
    induction n with
    | zero => rfl
    | succ n ih => simp [List.replicate_succ, num, Nat.pow_succ]; omega
  have : 0 < 2 ^ n := Nat.pos_of_ne_zero (by simp)
  rw [Nat.mod_eq_of_lt (by omega)]; omega

theorem ones_wrap (n : Nat) (hn : n ≤ 64) : IntKind.u64.wrap (IntKind.u64.wrap (2 ^ n) - 1) = ((2 ^ n - 1 : Nat) : Int) := by
  have hw : ∀ n : Int, IntKind.u64.wrap n = n % 18446744073709551616 := fun n => by simp [IntKind.wrap, IntKind.bits, IntKind.signed]
  rw [hw, hw]
  have hpos : 0 < 2 ^ n := Nat.pos_of_ne_zero (by simp)
  have hle : (2 : Nat) ^ n ≤ 2 ^ 64 := Nat.pow_le_pow_right (by omega) hn
  have e : ((2 : Int) ^ n) = ((2 ^ n : Nat) : Int) := by simp
  rw [e]
  generalize (2 : Nat) ^ n = y at *
  omega


end Go.Proofs.YtangjkhflgkkdaaGreat

namespace Go.Proofs.YtangjkhflgkkdaaGreat
open Go.RowKit
open M
set_option linter.unusedVariables false
theorem look_step (s : ByteArray) (a d a1 room kk q sh x : Nat) (ha : a1 = a + d) (hroom : (8 : Int) - (a1 : Int) % 8 = (room : Int)) (hq : (a1 : Int) / 8 = (q : Int)) (hqs : q < s.size) (hk0 : 0 < kk) (hkr : kk ≤ room) (hsh : sh = room - kk)
    (hd : d + kk ≤ 64) (hle : a1 + kk ≤ 8 * s.size) (hx : x = num (((rbits (bytesN s)).drop a).take d)) :
    bits BinOp.or IntKind.u64 (IntKind.u64.wrap ((x : Int) * 2 ^ kk)) (IntKind.u64.wrap (bits BinOp.and IntKind.u8 ((s[q].toNat : Int) / 2 ^ sh) (255 / 2 ^ (8 - kk)))) = ((num (((rbits (bytesN s)).drop a).take (d + kk)) : Nat) : Int) := by
  have hlen : (rbits (bytesN s)).length = 8 * s.size := by simp
  have hv : (bytesN s).getD q 0 = s[q].toNat := by
    have : q < (bytesN s).length := by simpa using hqs
    rw [List.getD_eq_getElem?_getD, List.getElem?_eq_getElem this]
    simp [bytesN]
    rfl
  have hlt : s[q].toNat < 256 := s[q].toNat_lt
  generalize s[q].toNat = v at *
  have e1 : ((v : Int) / 2 ^ sh) = ((v : Int) / 2 ^ sh % 256) := by
    have h1 : (v : Int) / 2 ^ sh = ((v / 2 ^ sh : Nat) : Int) := by simp
    have h2 : v / 2 ^ sh ≤ v := Nat.div_le_self _ _
    rw [h1]
    generalize v / 2 ^ sh = y at *
    omega
  rw [e1, part_and v sh kk (by omega) hk0]
  have hb := look_byte (bytesN s) a1 kk (by simp; omega) (by omega)
  rw [show a1 / 8 = q from by omega, hv, show 8 - a1 % 8 - kk = sh from by omega] at hb
  rw [← hb]
  have hsum := num_take_add ((rbits (bytesN s)).drop a) d kk (by simp; omega)
  rw [List.drop_drop, show a + d = a1 from ha.symm, ← hx] at hsum
  have hxl : x < 2 ^ d := by
    have := num_lt (((rbits (bytesN s)).drop a).take d)
    rw [← hx] at this
    refine Nat.lt_of_lt_of_le this (Nat.pow_le_pow_right (by omega) (List.length_take_le _ _))
  have hpl : num (((rbits (bytesN s)).drop a1).take kk) < 2 ^ kk := by
    refine Nat.lt_of_lt_of_le (num_lt _) (Nat.pow_le_pow_right (by omega) (List.length_take_le _ _))
  generalize num (((rbits (bytesN s)).drop a1).take kk) = y at *
  have hle64 : (2 : Nat) ^ (d + kk) ≤ 2 ^ 64 := Nat.pow_le_pow_right (by omega) hd
  have hxk : x * 2 ^ kk + 2 ^ kk ≤ 2 ^ (d + kk) := by
    rw [Nat.pow_add, ← Nat.succ_mul]; exact Nat.mul_le_mul_right _ hxl
  have e2 : ((x : Int) * 2 ^ kk) = ((x * 2 ^ kk : Nat) : Int) := by simp
  have hm : x * 2 ^ kk % 2 ^ kk = 0 := Nat.mul_mod_left _ _
  rw [e2, hsum]
  have hkle : (2 : Nat) ^ kk ≤ 2 ^ 64 := Nat.pow_le_pow_right (by omega) (by omega)
  generalize x * 2 ^ kk = z at *
  generalize hP : (2 : Nat) ^ kk = p at *
  rw [wraps_u64 z (by omega) (by omega), wraps_u64 y (by omega) (by omega)]
  rw [bits_join .u64 64 (by decide) wraps_u64 kk (z : Int) (y : Int) (by omega) (by rw [show ((2 : Int) ^ kk) = ((p : Nat) : Int) from by rw [← hP]; simp]; omega) (by omega) (by omega) (by rw [show ((2 : Int) ^ kk) = ((p : Nat) : Int) from by rw [← hP]; simp]; omega) (by omega)]
  simp

set_option maxHeartbeats 1000000 in
theorem look_any (b off : Nat) (s : ByteArray) (a n : Nat) (w : World) (h1 : w.cell? ⟨b, off, none⟩ = some (.string s)) (hs : s.size ≤ 1000000000000) (hn : n ≤ 64) (han : a + n ≤ 8 * s.size) :
    Calls Tryz.prog 88 #[.pointer (some ⟨b, off, none⟩), .int .i64 a, .int .i64 n] w fun e w' => e = .returned (.int .u64 (num (((rbits (bytesN s)).drop a).take n) : Int)) ∧ ∃ m, w' = w.drewN m := by
  go_enter Tryz.func88, Tryz.ntmps88
  go_wp2
  go_loopw [1, 2, 7] (fun t1 t2 t7 wr => ∃ (d a1 n1 : Nat) (x : Nat), Hid (a1 = a + d ∧ n = n1 + d) ∧ t1 = .int .i64 a1 ∧ t2 = .int .i64 n1 ∧ t7 = .int .u64 x ∧ Hid (x = num (((rbits (bytesN s)).drop a).take d)) ∧ Hid (∃ m, wr = w.drewN m)) (fun _ t2 _ _ => (intOf t2).toNat)
  case atStart => exact ⟨0, a, n, 0, ⟨rfl, rfl⟩, rfl, rfl, rfl, rfl, ⟨0, rfl⟩⟩
  case round =>
    obtain ⟨d, a1, n1, x, hd, rfl, rfl, rfl, hx, hm⟩ := hrel
    have h1r : wr.cell? ⟨b, off, none⟩ = some (.string s) := by obtain ⟨m, rfl⟩ := hm.out; exact h1
    have ha1 : a1 + n1 ≤ 8 * s.size := by have := hd.out; omega
    have hn1 : n1 ≤ 64 := by have := hd.out; omega
    by_cases hlt : 0 < n1
    · obtain ⟨room, hroom, hr1, hr8⟩ : ∃ room : Nat, (8 : Int) - (a1 : Int) % 8 = (room : Int) ∧ 1 ≤ room ∧ room ≤ 8 := ⟨8 - a1 % 8, by omega, by omega, by omega⟩
      obtain ⟨q, hq, hqs⟩ : ∃ q : Nat, (a1 : Int) / 8 = (q : Int) ∧ q < s.size := ⟨a1 / 8, by omega, by omega⟩
      have hqi : (q : Int) < (s.size : Int) := by omega
      have hqb : q ≤ 1000000000000 := by omega
      have hwq : IntKind.i64.wrap (q : Int) = (q : Int) := by rw [IntKind.wrap_i64]; omega
      obtain ⟨n', kk, rfl, hk0, hkr, hor⟩ : ∃ n' kk, n1 = n' + kk ∧ 0 < kk ∧ kk ≤ room ∧ ((n' = 0 ∧ kk < room) ∨ kk = room) := by
        by_cases h : n1 < room
        · exact ⟨0, n1, by omega, hlt, by omega, .inl ⟨rfl, h⟩⟩
        · exact ⟨n1 - room, room, by omega, by omega, by omega, .inr rfl⟩
      have hk8 : kk ≤ 8 := by omega
      rcases hor with ⟨rfl, hkl⟩ | rfl
      · simp only [Nat.zero_add] at *
        obtain ⟨sh, hsh, hsh8⟩ : ∃ sh : Nat, IntKind.i64.wrap ((room : Int) - (kk : Int)) = (sh : Int) ∧ Hid (sh = room - kk) := ⟨room - kk, by rw [IntKind.wrap_i64]; omega, rfl⟩
        have hsb : sh ≤ 8 := by have := hsh8.out; omega
        go_wp2_with fail
        go_quiet ((go_at_call 117; go_must (exact Calls.quiet_of_same (lowOnes_any kk _ hk8))))
        go_wp2_with fail
        have hst := look_step s a d a1 room kk q sh x hd.out.1 hroom hq hqs hk0 hkr hsh8.out (by have := hd.out; omega) (by omega) hx.out
        refine ⟨⟨d + kk, a1 + kk, 0, _, ⟨by have := hd.out; omega, by have := hd.out; omega⟩, by go_num, rfl, by rw [hst], rfl, ?_⟩, by simp [intOf]; omega⟩
        obtain ⟨m, rfl⟩ := hm.out
        exact ⟨m + nq, World.drewN_drewN _ _ _⟩
      · have hw0 : IntKind.i64.wrap 0 = 0 := by rw [IntKind.wrap_i64]; rfl
        go_wp2_with fail
        go_quiet ((go_at_call 117; go_must (exact Calls.quiet_of_same (lowOnes_any kk _ hk8))))
        go_wp2_with fail
        have hst := look_step s a d a1 kk kk q 0 x hd.out.1 hroom hq hqs hk0 hkr (by omega) (by have := hd.out; omega) (by omega) hx.out
        rw [Int.pow_zero, Int.ediv_one] at hst
        refine ⟨⟨d + kk, a1 + kk, n', _, ⟨by have := hd.out; omega, by have := hd.out; omega⟩, by go_num, rfl, by rw [hst], rfl, ?_⟩, by simp [intOf]; omega⟩
        obtain ⟨m, rfl⟩ := hm.out
        exact ⟨m + nq, World.drewN_drewN _ _ _⟩
    · go_wp2
      go_ret
      refine ⟨?_, hm.out⟩
      have hd' := hd.out
      have e : n = d := by omega
      show Ending.returned (.int .u64 (x : Int)) = _
      rw [hx.out, e]
end Go.Proofs.YtangjkhflgkkdaaGreat

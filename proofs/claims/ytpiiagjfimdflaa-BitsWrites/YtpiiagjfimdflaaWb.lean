/- The document's Writer that has refused, or refuses. -/
import Derived.Test.YtpiiagjfimdflaaWa
namespace Go.Proofs.Ytpiiagjfimdflaa
open Go.RowKit
open M
set_option linter.unusedVariables false

theorem Rw.setErr {w : World} {b off : Nat} {r : Option Nat} {l : List Bool} {e : Int} (h : Rw w b off r l e) (m : Int) : Rw (w.setCell ⟨b, off + 1, none⟩ (.int .i64 m)) b off r l m := by
  obtain ⟨v, h1, h2, h3, h4⟩ := h.row
  refine ⟨⟨v, ?_, ownsRow_keep h2 (fun g hg => Below.heap_setCell _ _ _ _ (by show g ≠ b; exact (h.apart g (h3 ▸ hg)).1)), h3, h4⟩, ?_, fun j hj => ?_, fun g hg => ⟨(h.apart g hg).1, by simpa [World.setCell] using (h.apart g hg).2⟩⟩
  · rw [cell_setCell_ne _ _ _ _ _ (by omega)]; exact h1
  · exact cell_setCell_eq _ _ _ _ _ h.err
  · rw [frozen_setCell]; exact h.fz j hj

theorem OnlyR.setCell (w : World) (b off : Nat) (r : Option Nat) (i : Nat) (v : Value) (h1 : off ≤ i) (h2 : i < off + 2) : OnlyR b off (off + 2) r w (w.setCell ⟨b, i, none⟩ v) := by
  have h := (Only.refl b off (off + 2) w).setCell i h1 h2 v
  exact ⟨h.os, h.tape, h.output, h.size, fun k hk hb _ => h.block k hk hb, h.cell, h.frozen⟩

theorem refrefuse_zero (b off : Nat) (m : Int) (w : World) (hn : w.cell? ⟨b, off + 1, none⟩ = some (.int .i64 0)) (hf : w.frozen? ⟨b, off + 1, none⟩ = false) :
    Calls Try.prog 67 #[.pointer (some ⟨b, off, none⟩), .int .i64 m] w fun e w' => e = .returned (.tuple #[]) ∧ w' = w.setCell ⟨b, off + 1, none⟩ (.int .i64 m) := by
  go_enter Try.func67, Try.ntmps67
  go_wp2
  go_end0
  exact ⟨rfl, rfl⟩

theorem refrefuse_not (b off : Nat) (m e0 : Int) (w : World) (hn : w.cell? ⟨b, off + 1, none⟩ = some (.int .i64 e0)) (hf : (e0 == 0) = false) :
    Calls Try.prog 67 #[.pointer (some ⟨b, off, none⟩), .int .i64 m] w fun e w' => e = .returned (.tuple #[]) ∧ w' = w := by
  go_enter Try.func67, Try.ntmps67
  go_wp2
  go_end0
  exact ⟨rfl, rfl⟩

theorem refput_bad (b off : Nat) (e0 x : Int) (w : World) (hn : w.cell? ⟨b, off + 1, none⟩ = some (.int .i64 e0)) (hf : (e0 == 0) = false) :
    Calls Try.prog 66 #[.pointer (some ⟨b, off, none⟩), .int .u8 x] w fun e w' => e = .returned (.tuple #[]) ∧ w' = w := by
  go_enter Try.func66, Try.ntmps66
  go_wp2
  go_end0
  exact ⟨rfl, rfl⟩

theorem refbit_bad (b off : Nat) (e0 : Int) (v : Bool) (w : World) (hn : w.cell? ⟨b, off + 1, none⟩ = some (.int .i64 e0)) (hf : (e0 == 0) = false) :
    Calls Try.prog 41 #[.pointer (some ⟨b, off, none⟩), .bool v] w fun e w' => e = .returned (.tuple #[]) ∧ w' = w := by
  have H : Hid (∀ x : Int, Calls Try.prog 66 #[.pointer (some ⟨b, off, none⟩), .int .u8 x] w fun e w' => e = .returned (.tuple #[]) ∧ w' = w) := fun x => refput_bad b off e0 x w hn hf
  clear hn hf
  cases v with
  | true =>
    go_enter Try.func41, Try.ntmps41
    go_wp2_with fail
    refine (H.out _).mono ?_
    rintro e w1 ⟨rfl, rfl⟩
    go_wp2
    exact bodyPost_ret (v := .tuple #[]) (results_none rfl _ _ _) rfl ⟨rfl, rfl⟩
  | false =>
    go_enter Try.func41, Try.ntmps41
    go_wp2_with fail
    refine (H.out _).mono ?_
    rintro e w1 ⟨rfl, rfl⟩
    go_wp2
    go_end0
    exact ⟨rfl, rfl⟩

/-- The loop of Bits, where put does nothing. -/
theorem refbits_loop (b off : Nat) (x n : Nat) (w : World) (hn : n ≤ 64) (hx : x < 18446744073709551616) (hfit : x < 2 ^ n)
    (H : Hid (∀ y : Int, Calls Try.prog 66 #[.pointer (some ⟨b, off, none⟩), .int .u8 y] w fun e w' => e = .returned (.tuple #[]) ∧ w' = w)) :
    Calls Try.prog 42 #[.pointer (some ⟨b, off, none⟩), .int .u64 x, .int .i64 n] w fun e w' => e = .returned (.tuple #[]) ∧ w' = w := by
  rcases (show n = 0 ∨ (0 < n ∧ n < 64) ∨ n = 64 from by omega) with h0 | ⟨h0, h1⟩ | h0
  · subst h0
    have hx0 : x = 0 := by simp at hfit; exact hfit
    subst hx0
    go_enter Try.func42, Try.ntmps42
    go_wp2_with fail
    go_loopw [6] (fun t6 wr => t6 = .int .i64 (-1) ∧ wr = w) (fun _ _ => 0)
    case atStart => exact ⟨rfl, rfl⟩
    case round =>
      obtain ⟨rfl, rfl⟩ := hrel
      go_wp2_with fail
      go_end0
      exact ⟨rfl, rfl⟩
  · have ht : ((x : Int) / 2 / 2 ^ (n - 1) != 0) = false := by
      have e1 : (x : Int) / 2 / 2 ^ (n - 1) = ((x / 2 / 2 ^ (n - 1) : Nat) : Int) := by simp
      have e2 : x / 2 / 2 ^ (n - 1) = 0 := by
        rw [Nat.div_div_eq_div_mul, show 2 * 2 ^ (n - 1) = 2 ^ n from by rw [← Nat.pow_succ', show (n - 1).succ = n from by omega]]
        exact Nat.div_eq_of_lt hfit
      rw [e1, e2]; rfl
    have hn0 : ((n : Int) == 0) = false := by rw [beq_eq_false_iff_ne]; omega
    clear hfit
    go_enter Try.func42, Try.ntmps42
    go_wp2_with fail
    go_loopw [6] (fun t6 wr => ∃ t : Int, t6 = .int .i64 t ∧ -1 ≤ t ∧ t ≤ 63 ∧ wr = w) (fun t6 _ => (intOf t6 + 1).toNat)
    case atStart => exact ⟨(n : Int) - 1, rfl, by omega, by omega, rfl⟩
    case round =>
      obtain ⟨t, rfl, ht1, ht2, rfl⟩ := hrel
      by_cases htn : t < 0
      · go_wp2_with fail
        go_end0
        exact ⟨rfl, rfl⟩
      · obtain ⟨j', rfl⟩ : ∃ j' : Nat, t = (j' : Int) := ⟨t.toNat, by omega⟩
        go_wp2_with fail
        refine (H.out _).mono ?_
        rintro e w1 ⟨rfl, rfl⟩
        go_wp2_with fail
        refine ⟨⟨(j' : Int) - 1, by go_num, by omega, by omega, trivial⟩, by simp [intOf]⟩
  · subst h0
    clear hfit
    go_enter Try.func42, Try.ntmps42
    go_wp2_with fail
    go_loopw [6] (fun t6 wr => ∃ t : Int, t6 = .int .i64 t ∧ -1 ≤ t ∧ t ≤ 63 ∧ wr = w) (fun t6 _ => (intOf t6 + 1).toNat)
    case atStart => exact ⟨63, rfl, by omega, by omega, rfl⟩
    case round =>
      obtain ⟨t, rfl, ht1, ht2, rfl⟩ := hrel
      by_cases htn : t < 0
      · go_wp2_with fail
        go_end0
        exact ⟨rfl, rfl⟩
      · obtain ⟨j', rfl⟩ : ∃ j' : Nat, t = (j' : Int) := ⟨t.toNat, by omega⟩
        go_wp2_with fail
        refine (H.out _).mono ?_
        rintro e w1 ⟨rfl, rfl⟩
        go_wp2_with fail
        go_roundw
        case rel => exact ⟨_, _, _, _, _, _, _, _, _, _, _, _, _, ⟨(j' : Int) - 1, rfl, by omega, by omega, trivial⟩, rfl⟩
        case measure => simp [intOf]

/-- Bits of a number that may not be laid. -/
theorem refbits_no (b off : Nat) (x : Nat) (n : Int) (w : World) (Q : World → Prop) (hx : x < 18446744073709551616) (hn : ¬ (0 ≤ n ∧ n ≤ 64 ∧ x < 2 ^ n.toNat))
    (H : Hid (Calls Try.prog 67 #[.pointer (some ⟨b, off, none⟩), .int .i64 10] w fun e w' => e = .returned (.tuple #[]) ∧ Q w')) :
    Calls Try.prog 42 #[.pointer (some ⟨b, off, none⟩), .int .u64 x, .int .i64 n] w fun e w' => e = .returned (.tuple #[]) ∧ Q w' := by
  by_cases h0 : n < 0
  · clear hn
    go_enter Try.func42, Try.ntmps42
    go_wp2_with fail
    refine H.out.mono ?_
    rintro e w1 ⟨rfl, hq⟩
    go_wp2
    exact bodyPost_ret (v := .tuple #[]) (results_none rfl _ _ _) rfl ⟨rfl, hq⟩
  · by_cases h1 : 64 < n
    · clear hn
      go_enter Try.func42, Try.ntmps42
      go_wp2_with fail
      refine H.out.mono ?_
      rintro e w1 ⟨rfl, hq⟩
      go_wp2
      exact bodyPost_ret (v := .tuple #[]) (results_none rfl _ _ _) rfl ⟨rfl, hq⟩
    · obtain ⟨N, rfl⟩ : ∃ N : Nat, n = (N : Int) := ⟨n.toNat, by omega⟩
      have hN : N ≤ 64 := by omega
      have hbig : 2 ^ N ≤ x := by simp at hn; omega
      clear hn
      have h64 : N < 64 := by
        rcases Nat.lt_or_ge N 64 with h | h
        · exact h
        · have : N = 64 := by omega
          subst this; omega
      by_cases hN0 : N = 0
      · subst hN0
        have hx0 : ((x : Int) != 0) = true := by simp at hbig; simp; omega
        have hs : (x : Int) / 2 / 2 ^ min (IntKind.u64.wrap (-1)).toNat 64 = 0 := by
          have e1 : min (IntKind.u64.wrap (-1)).toNat 64 = 64 := by decide
          rw [e1]; omega
        clear hbig
        go_enter Try.func42, Try.ntmps42
        go_wp2_with fail
        refine H.out.mono ?_
        rintro e w1 ⟨rfl, hq⟩
        go_wp2
        exact bodyPost_ret (v := .tuple #[]) (results_none rfl _ _ _) rfl ⟨rfl, hq⟩
      · have ht : ((x : Int) / 2 / 2 ^ (N - 1) != 0) = true := by
          have e1 : (x : Int) / 2 / 2 ^ (N - 1) = ((x / 2 / 2 ^ (N - 1) : Nat) : Int) := by simp
          have e2 : 0 < x / 2 / 2 ^ (N - 1) := by
            rw [Nat.div_div_eq_div_mul, show 2 * 2 ^ (N - 1) = 2 ^ N from by rw [← Nat.pow_succ', show (N - 1).succ = N from by omega]]
            exact Nat.div_pos hbig (Nat.pos_of_ne_zero (by simp))
          rw [e1]; simp; omega
        have hn0 : (0 : Int) < (N : Int) := by omega
        clear hbig
        go_enter Try.func42, Try.ntmps42
        go_wp2_with fail
        refine H.out.mono ?_
        rintro e w1 ⟨rfl, hq⟩
        go_wp2
        exact bodyPost_ret (v := .tuple #[]) (results_none rfl _ _ _) rfl ⟨rfl, hq⟩

theorem refbits_bad (b off : Nat) (e0 : Int) (x : Nat) (n : Int) (w : World) (hn : w.cell? ⟨b, off + 1, none⟩ = some (.int .i64 e0)) (hf : (e0 == 0) = false) (hx : x < 18446744073709551616) :
    Calls Try.prog 42 #[.pointer (some ⟨b, off, none⟩), .int .u64 x, .int .i64 n] w fun e w' => e = .returned (.tuple #[]) ∧ w' = w := by
  by_cases h : 0 ≤ n ∧ n ≤ 64 ∧ x < 2 ^ n.toNat
  · obtain ⟨N, rfl⟩ : ∃ N : Nat, n = (N : Int) := ⟨n.toNat, by omega⟩
    exact refbits_loop b off x N w (by omega) hx (by simpa using h.2.2) (fun y => refput_bad b off e0 y w hn hf)
  · exact refbits_no b off x n w (fun w' => w' = w) hx h (refrefuse_not b off 10 e0 w hn hf)

theorem refbits_ref (b off : Nat) (r : Option Nat) (l : List Bool) (x : Nat) (n : Int) (w : World) (h : Rw w b off r l 0) (hx : x < 18446744073709551616) (hn : ¬ (0 ≤ n ∧ n ≤ 64 ∧ x < 2 ^ n.toNat)) :
    Calls Try.prog 42 #[.pointer (some ⟨b, off, none⟩), .int .u64 x, .int .i64 n] w fun e w' => e = .returned (.tuple #[]) ∧ ∃ r', Rw w' b off r' l 10 ∧ RowStep w r r' ∧ OnlyR b off (off + 2) r w w' :=
  refbits_no b off x n w _ hx hn ((refrefuse_zero b off 10 w h.err (h.fz 1 (by omega))).mono fun e w' ⟨h1, h2⟩ => ⟨h1, r, by rw [h2]; exact h.setErr 10, .inl rfl, by rw [h2]; exact OnlyR.setCell _ _ _ _ _ _ (by omega) (by omega)⟩)

theorem refunary_bad (b off : Nat) (e0 n : Int) (w : World) (hn : w.cell? ⟨b, off + 1, none⟩ = some (.int .i64 e0)) (hf : (e0 == 0) = false) :
    Calls Try.prog 43 #[.pointer (some ⟨b, off, none⟩), .int .i64 n] w fun e w' => e = .returned (.tuple #[]) ∧ w' = w := by
  have H : Hid (∀ y : Int, Calls Try.prog 66 #[.pointer (some ⟨b, off, none⟩), .int .u8 y] w fun e w' => e = .returned (.tuple #[]) ∧ w' = w) := fun x => refput_bad b off e0 x w hn hf
  have H2 : Hid (Calls Try.prog 67 #[.pointer (some ⟨b, off, none⟩), .int .i64 11] w fun e w' => e = .returned (.tuple #[]) ∧ w' = w) := refrefuse_not b off 11 e0 w hn hf
  clear hn hf
  by_cases h0 : n < 0
  · go_enter Try.func43, Try.ntmps43
    go_wp2_with fail
    refine H2.out.mono ?_
    rintro e w1 ⟨rfl, rfl⟩
    go_wp2
    exact bodyPost_ret (v := .tuple #[]) (results_none rfl _ _ _) rfl ⟨rfl, rfl⟩
  · by_cases h1 : 64 < n
    · go_enter Try.func43, Try.ntmps43
      go_wp2_with fail
      refine H2.out.mono ?_
      rintro e w1 ⟨rfl, rfl⟩
      go_wp2
      exact bodyPost_ret (v := .tuple #[]) (results_none rfl _ _ _) rfl ⟨rfl, rfl⟩
    · obtain ⟨N, rfl⟩ : ∃ N : Nat, n = (N : Int) := ⟨n.toNat, by omega⟩
      have hN : N ≤ 64 := by omega
      go_enter Try.func43, Try.ntmps43
      go_wp2_with fail
      go_loopw [4] (fun t4 wr => ∃ j : Nat, t4 = .int .i64 j ∧ j ≤ N ∧ wr = w) (fun t4 _ => N - (intOf t4).toNat)
      case atStart => exact ⟨0, rfl, by omega, rfl⟩
      case round =>
        obtain ⟨j, rfl, hj, rfl⟩ := hrel
        by_cases hlt : j < N
        · go_wp2_with fail
          refine (H.out _).mono ?_
          rintro e w1 ⟨rfl, rfl⟩
          go_wp2_with fail
          refine ⟨⟨j + 1, by go_num, by omega, trivial⟩, by simp [intOf]; omega⟩
        · go_wp2_with fail
          refine (H.out _).mono ?_
          rintro e w1 ⟨rfl, rfl⟩
          go_wp2_with fail
          go_end0
          exact ⟨rfl, rfl⟩

theorem refunary_ref (b off : Nat) (r : Option Nat) (l : List Bool) (n : Int) (w : World) (h : Rw w b off r l 0) (hn : n < 0 ∨ 64 < n) :
    Calls Try.prog 43 #[.pointer (some ⟨b, off, none⟩), .int .i64 n] w fun e w' => e = .returned (.tuple #[]) ∧ ∃ r', Rw w' b off r' l 11 ∧ RowStep w r r' ∧ OnlyR b off (off + 2) r w w' := by
  have H2 : Hid (Calls Try.prog 67 #[.pointer (some ⟨b, off, none⟩), .int .i64 11] w fun e w' => e = .returned (.tuple #[]) ∧ ∃ r', Rw w' b off r' l 11 ∧ RowStep w r r' ∧ OnlyR b off (off + 2) r w w') :=
    (refrefuse_zero b off 11 w h.err (h.fz 1 (by omega))).mono fun e w' ⟨h1, h2⟩ => ⟨h1, r, by rw [h2]; exact h.setErr 11, .inl rfl, by rw [h2]; exact OnlyR.setCell _ _ _ _ _ _ (by omega) (by omega)⟩
  clear h
  rcases hn with hn | hn
  · go_enter Try.func43, Try.ntmps43
    go_wp2_with fail
    refine H2.out.mono ?_
    rintro e w1 ⟨rfl, hq⟩
    have HQ : Hid _ := hq
    clear hq
    go_wp2
    exact bodyPost_ret (v := .tuple #[]) (results_none rfl _ _ _) rfl ⟨rfl, HQ.out⟩
  · have h0 : ¬ n < 0 := by omega
    go_enter Try.func43, Try.ntmps43
    go_wp2_with fail
    refine H2.out.mono ?_
    rintro e w1 ⟨rfl, hq⟩
    have HQ : Hid _ := hq
    clear hq
    go_wp2
    exact bodyPost_ret (v := .tuple #[]) (results_none rfl _ _ _) rfl ⟨rfl, HQ.out⟩

theorem refvar_bad (b off : Nat) (e0 : Int) (x : Nat) (w : World) (hn : w.cell? ⟨b, off + 1, none⟩ = some (.int .i64 e0)) (hf : (e0 == 0) = false) (hx : x < 18446744073709551616) :
    Calls Try.prog 44 #[.pointer (some ⟨b, off, none⟩), .int .u64 x] w fun e w' => e = .returned (.tuple #[]) ∧ w' = w := by
  have H : Hid (∀ (y : Nat) (n : Int), y < 18446744073709551616 → Calls Try.prog 42 #[.pointer (some ⟨b, off, none⟩), .int .u64 y, .int .i64 n] w fun e w' => e = .returned (.tuple #[]) ∧ w' = w) := fun y n hy => refbits_bad b off e0 y n w hn hf hy
  clear hn hf
  go_enter Try.func44, Try.ntmps44
  go_wp2
  go_loopw [1] (fun i wr => ∃ y : Nat, y ≤ x ∧ i = .int .u64 y ∧ wr = w) (fun i _ => (intOf i).toNat)
  case atStart => exact ⟨x, by omega, rfl, rfl⟩
  case round =>
    obtain ⟨y, hyx, rfl, rfl⟩ := hrel
    by_cases hlt : 128 ≤ y
    · have hlt' : (128 : Int) ≤ (y : Int) := by omega
      obtain ⟨z, hz⟩ : ∃ z : Nat, (128 : Int) + (y : Int) % 128 = (z : Int) := ⟨128 + y % 128, by omega⟩
      have hz2 : z < 18446744073709551616 := by omega
      go_wp2_with fail
      refine (H.out z 8 hz2).mono ?_
      rintro e w1 ⟨rfl, rfl⟩
      go_wp2_with fail
      go_roundw
      case rel => exact ⟨y / 128, by omega, by go_num, trivial⟩
      case measure => simp [intOf]; omega
    · have hlt' : ¬ (128 : Int) ≤ (y : Int) := by omega
      go_wp2_with fail
      refine (H.out y 8 (by omega)).mono ?_
      rintro e w1 ⟨rfl, rfl⟩
      go_wp2
      go_end0
      exact ⟨rfl, rfl⟩

theorem refzig_bad (b off : Nat) (e0 x : Int) (w : World) (hn : w.cell? ⟨b, off + 1, none⟩ = some (.int .i64 e0)) (hf : (e0 == 0) = false) (h1 : -9223372036854775808 ≤ x) (h2 : x ≤ 9223372036854775807) :
    Calls Try.prog 45 #[.pointer (some ⟨b, off, none⟩), .int .i64 x] w fun e w' => e = .returned (.tuple #[]) ∧ w' = w := by
  have H : Hid (Calls Try.prog 44 #[.pointer (some ⟨b, off, none⟩), .int .u64 (zig x : Nat)] w fun e w' => e = .returned (.tuple #[]) ∧ w' = w) := refvar_bad b off e0 (zig x) w hn hf (zig_lt x h1 h2)
  clear hn hf
  go_enter Try.func45, Try.ntmps45
  go_wp2_with fail
  refine (zigzag_any x w h1 h2).mono ?_
  rintro e w1 ⟨rfl, rfl⟩
  go_wp2_with fail
  refine H.out.mono ?_
  rintro e w2 ⟨rfl, rfl⟩
  go_wp2
  go_end0
  exact ⟨rfl, rfl⟩

end Go.Proofs.Ytpiiagjfimdflaa

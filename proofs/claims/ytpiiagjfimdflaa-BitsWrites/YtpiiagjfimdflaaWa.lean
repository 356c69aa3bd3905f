/- Writers that have refused, or refuse: the program's and the document's. -/
import Derived.Test.YtpiiagjfimdflaaY
namespace Go.Proofs.Ytpiiagjfimdflaa
open Go.RowKit
open M
set_option linter.unusedVariables false

theorem Wr.errCell {w : World} {lo b off : Nat} {l : List Bool} {e : Int} (h : Wr w lo b off l e) : w.cell? ⟨b, off + 122, none⟩ = some (.int .i64 e) := by
  obtain ⟨p, h1, _⟩ := h; exact h1.err

theorem Wr.errFree {w : World} {lo b off : Nat} {l : List Bool} {e : Int} (h : Wr w lo b off l e) : w.frozen? ⟨b, off + 122, none⟩ = false := by
  obtain ⟨p, h1, _⟩ := h; exact h1.fz 122 (by omega)

theorem Wr.setErr {w : World} {lo b off : Nat} {l : List Bool} {e : Int} (h : Wr w lo b off l e) (hb : b < lo) (m : Int) : Wr (w.setCell ⟨b, off + 122, none⟩ (.int .i64 m)) lo b off l m := by
  obtain ⟨p, h1, h2⟩ := h
  exact ⟨p, h1.setErr m, h2.only ((Only.refl b off (off + 123) w).setCell _ (by omega) (by omega) _) hb⟩

theorem wput_bad (b off : Nat) (e0 x n : Int) (w : World) (he : w.cell? ⟨b, off + 122, none⟩ = some (.int .i64 e0)) (hne : (e0 != 0) = true) :
    Calls Try.prog 61 #[.pointer (some ⟨b, off, none⟩), .int .u64 x, .int .i64 n] w fun e w' => e = .returned (.tuple #[]) ∧ w' = w := by
  go_enter Try.func61, Try.ntmps61
  go_wp2
  exact bodyPost_ret (v := .tuple #[]) (results_none rfl _ _ _) rfl ⟨rfl, rfl⟩

theorem wbit_bad (b off : Nat) (e0 : Int) (v : Bool) (w : World) (he : w.cell? ⟨b, off + 122, none⟩ = some (.int .i64 e0)) (hne : (e0 != 0) = true) :
    Calls Try.prog 30 #[.pointer (some ⟨b, off, none⟩), .bool v] w fun e w' => e = .returned (.tuple #[]) ∧ w' = w := by
  have H : Hid (∀ x n : Int, Calls Try.prog 61 #[.pointer (some ⟨b, off, none⟩), .int .u64 x, .int .i64 n] w fun e w' => e = .returned (.tuple #[]) ∧ w' = w) := fun x n => wput_bad b off e0 x n w he hne
  clear he hne
  cases v with
  | true =>
    go_enter Try.func30, Try.ntmps30
    go_wp2_with fail
    refine (H.out _ _).mono ?_
    rintro e w1 ⟨rfl, rfl⟩
    go_wp2
    go_end0
    exact ⟨rfl, rfl⟩
  | false =>
    go_enter Try.func30, Try.ntmps30
    go_wp2_with fail
    refine (H.out _ _).mono ?_
    rintro e w1 ⟨rfl, rfl⟩
    go_wp2
    go_end0
    exact ⟨rfl, rfl⟩

/-- Bits, whatever the writer does with put and refuse. -/
theorem wbits_of (b off : Nat) (x : Nat) (n : Int) (w : World) (Q : Ending → World → Prop) (hx : x < 18446744073709551616)
    (hput : 0 ≤ n → n ≤ 64 → x < 2 ^ n.toNat → Calls Try.prog 61 #[.pointer (some ⟨b, off, none⟩), .int .u64 x, .int .i64 n] w fun e w' => e = .returned (.tuple #[]) ∧ Q e w')
    (href : ¬ (0 ≤ n ∧ n ≤ 64 ∧ x < 2 ^ n.toNat) → Calls Try.prog 62 #[.pointer (some ⟨b, off, none⟩), .int .i64 10] w fun e w' => e = .returned (.tuple #[]) ∧ Q e w') :
    Calls Try.prog 32 #[.pointer (some ⟨b, off, none⟩), .int .u64 x, .int .i64 n] w Q := by
  have H1 : Hid (0 ≤ n → n ≤ 64 → x < 2 ^ n.toNat → Calls Try.prog 61 #[.pointer (some ⟨b, off, none⟩), .int .u64 x, .int .i64 n] w fun e w' => e = .returned (.tuple #[]) ∧ Q e w') := hput
  have H2 : Hid (¬ (0 ≤ n ∧ n ≤ 64 ∧ x < 2 ^ n.toNat) → Calls Try.prog 62 #[.pointer (some ⟨b, off, none⟩), .int .i64 10] w fun e w' => e = .returned (.tuple #[]) ∧ Q e w') := href
  clear hput href
  by_cases h0 : n < 0
  · go_enter Try.func32, Try.ntmps32
    go_wp2_with fail
    refine (H2.out (by omega)).mono ?_
    rintro e w1 ⟨rfl, hq⟩
    go_wp2
    go_end0
    exact hq
  · by_cases h1 : 64 < n
    · go_enter Try.func32, Try.ntmps32
      go_wp2_with fail
      refine (H2.out (by omega)).mono ?_
      rintro e w1 ⟨rfl, hq⟩
      go_wp2
      go_end0
      exact hq
    · obtain ⟨N, rfl⟩ : ∃ N : Nat, n = (N : Int) := ⟨n.toNat, by omega⟩
      have hN : N ≤ 64 := by omega
      have e : (x : Int) / 2 ^ N = ((x / 2 ^ N : Nat) : Int) := by simp
      have hpos : 0 < 2 ^ N := Nat.pos_of_ne_zero (by simp)
      by_cases hf : x < 2 ^ N
      · have hz : ((x : Int) / 2 ^ N != 0) = false := by rw [e, Nat.div_eq_of_lt hf]; rfl
        have H3' : Hid (Calls Try.prog 61 #[.pointer (some ⟨b, off, none⟩), .int .u64 x, .int .i64 N] w fun e w' => e = .returned (.tuple #[]) ∧ Q e w') := H1.out (by omega) (by omega) (by simpa using hf)
        clear e hpos hf
        go_enter Try.func32, Try.ntmps32
        go_wp2_with fail
        refine H3'.out.mono ?_
        rintro e w1 ⟨rfl, hq⟩
        go_wp2
        go_end0
        exact hq
      · have hz : ((x : Int) / 2 ^ N != 0) = true := by
          have : 0 < x / 2 ^ N := Nat.div_pos (by omega) hpos
          rw [e]; simp; omega
        have H3' : Hid (Calls Try.prog 62 #[.pointer (some ⟨b, off, none⟩), .int .i64 10] w fun e w' => e = .returned (.tuple #[]) ∧ Q e w') := H2.out (by simp; omega)
        clear e hpos hf
        go_enter Try.func32, Try.ntmps32
        go_wp2_with fail
        refine H3'.out.mono ?_
        rintro e w1 ⟨rfl, hq⟩
        go_wp2
        go_end0
        exact hq

theorem wbits_bad (b off : Nat) (e0 : Int) (x : Nat) (n : Int) (w : World) (he : w.cell? ⟨b, off + 122, none⟩ = some (.int .i64 e0)) (hne : e0 ≠ 0) (hx : x < 18446744073709551616) :
    Calls Try.prog 32 #[.pointer (some ⟨b, off, none⟩), .int .u64 x, .int .i64 n] w fun e w' => e = .returned (.tuple #[]) ∧ w' = w :=
  wbits_of b off x n w _ hx (fun _ _ _ => (wput_bad b off e0 x n w he (by simp [hne])).mono fun e w' h => ⟨h.1, h⟩) (fun _ => (wrefuse_not b off 10 e0 w he (by simp [hne])).mono fun e w' h => ⟨h.1, h⟩)

theorem wbits_ref (b off lo : Nat) (l : List Bool) (x : Nat) (n : Int) (w : World) (h : Wr w lo b off l 0) (hb : b < lo) (hx : x < 18446744073709551616) (hn : ¬ (0 ≤ n ∧ n ≤ 64 ∧ x < 2 ^ n.toNat)) :
    Calls Try.prog 32 #[.pointer (some ⟨b, off, none⟩), .int .u64 x, .int .i64 n] w fun e w' => e = .returned (.tuple #[]) ∧ Wr w' lo b off l 10 ∧ Only b off (off + 123) w w' :=
  wbits_of b off x n w _ hx (fun h0 h1 h2 => absurd ⟨h0, h1, h2⟩ hn) (fun _ => (wrefuse_zero b off 10 w h.errCell h.errFree).mono fun e w' ⟨h1, h2⟩ => ⟨h1, h1, by rw [h2]; exact h.setErr hb 10, by rw [h2]; exact (Only.refl _ _ _ w).setCell _ (by omega) (by omega) _⟩)

theorem wunary_bad (b off : Nat) (e0 n : Int) (w : World) (he : w.cell? ⟨b, off + 122, none⟩ = some (.int .i64 e0)) (hne : e0 ≠ 0) :
    Calls Try.prog 34 #[.pointer (some ⟨b, off, none⟩), .int .i64 n] w fun e w' => e = .returned (.tuple #[]) ∧ w' = w := by
  have H : Hid (∀ x n : Int, Calls Try.prog 61 #[.pointer (some ⟨b, off, none⟩), .int .u64 x, .int .i64 n] w fun e w' => e = .returned (.tuple #[]) ∧ w' = w) := fun x n => wput_bad b off e0 x n w he (by simp [hne])
  have H2 : Hid (Calls Try.prog 62 #[.pointer (some ⟨b, off, none⟩), .int .i64 11] w fun e w' => e = .returned (.tuple #[]) ∧ w' = w) := wrefuse_not b off 11 e0 w he (by simp [hne])
  clear he hne
  by_cases h0 : n < 0
  · go_enter Try.func34, Try.ntmps34
    go_wp2_with fail
    refine H2.out.mono ?_
    rintro e w1 ⟨rfl, rfl⟩
    go_wp2
    exact bodyPost_ret (v := .tuple #[]) (results_none rfl _ _ _) rfl ⟨rfl, rfl⟩
  · by_cases h1 : 64 < n
    · go_enter Try.func34, Try.ntmps34
      go_wp2_with fail
      refine H2.out.mono ?_
      rintro e w1 ⟨rfl, rfl⟩
      go_wp2
      exact bodyPost_ret (v := .tuple #[]) (results_none rfl _ _ _) rfl ⟨rfl, rfl⟩
    · obtain ⟨N, rfl⟩ : ∃ N : Nat, n = (N : Int) := ⟨n.toNat, by omega⟩
      have hN : N ≤ 64 := by omega
      go_enter Try.func34, Try.ntmps34
      go_wp2_with fail
      refine (H.out _ _).mono ?_
      rintro e w1 ⟨rfl, rfl⟩
      go_wp2_with fail
      refine (H.out _ _).mono ?_
      rintro e w2 ⟨rfl, rfl⟩
      go_wp2
      go_end0
      exact ⟨rfl, rfl⟩

theorem wunary_ref (b off lo : Nat) (l : List Bool) (n : Int) (w : World) (h : Wr w lo b off l 0) (hb : b < lo) (hn : n < 0 ∨ 64 < n) :
    Calls Try.prog 34 #[.pointer (some ⟨b, off, none⟩), .int .i64 n] w fun e w' => e = .returned (.tuple #[]) ∧ Wr w' lo b off l 11 ∧ Only b off (off + 123) w w' := by
  have H2 : Hid (Calls Try.prog 62 #[.pointer (some ⟨b, off, none⟩), .int .i64 11] w fun e w' => e = .returned (.tuple #[]) ∧ (Wr w' lo b off l 11 ∧ Only b off (off + 123) w w')) :=
    (wrefuse_zero b off 11 w h.errCell h.errFree).mono fun e w' ⟨h1, h2⟩ => ⟨h1, by rw [h2]; exact h.setErr hb 11, by rw [h2]; exact (Only.refl _ _ _ w).setCell _ (by omega) (by omega) _⟩
  clear h
  rcases hn with hn | hn
  · go_enter Try.func34, Try.ntmps34
    go_wp2_with fail
    refine H2.out.mono ?_
    rintro e w1 ⟨rfl, h1⟩
    go_wp2
    exact bodyPost_ret (v := .tuple #[]) (results_none rfl _ _ _) rfl ⟨rfl, h1⟩
  · have h0 : ¬ n < 0 := by omega
    go_enter Try.func34, Try.ntmps34
    go_wp2_with fail
    refine H2.out.mono ?_
    rintro e w1 ⟨rfl, h1⟩
    go_wp2
    exact bodyPost_ret (v := .tuple #[]) (results_none rfl _ _ _) rfl ⟨rfl, h1⟩

theorem wvar_bad (b off : Nat) (e0 : Int) (x : Nat) (w : World) (he : w.cell? ⟨b, off + 122, none⟩ = some (.int .i64 e0)) (hne : e0 ≠ 0) (hx : x < 18446744073709551616) :
    Calls Try.prog 36 #[.pointer (some ⟨b, off, none⟩), .int .u64 x] w fun e w' => e = .returned (.tuple #[]) ∧ w' = w := by
  have H : Hid (∀ x n : Int, Calls Try.prog 61 #[.pointer (some ⟨b, off, none⟩), .int .u64 x, .int .i64 n] w fun e w' => e = .returned (.tuple #[]) ∧ w' = w) := fun x n => wput_bad b off e0 x n w he (by simp [hne])
  clear he hne
  go_enter Try.func36, Try.ntmps36
  go_wp2
  go_loopw [1] (fun i wr => ∃ y : Nat, y ≤ x ∧ i = .int .u64 y ∧ wr = w) (fun i _ => (intOf i).toNat)
  case atStart => exact ⟨x, by omega, rfl, rfl⟩
  case round =>
    obtain ⟨y, hyx, rfl, rfl⟩ := hrel
    by_cases hlt : 127 < y
    · go_wp2_with fail
      refine (H.out _ _).mono ?_
      rintro e w1 ⟨rfl, rfl⟩
      go_wp2_with fail
      go_roundw
      case rel => exact ⟨y / 128, by omega, by go_num, trivial⟩
      case measure => simp [intOf]; omega
    · go_wp2_with fail
      refine (H.out _ _).mono ?_
      rintro e w1 ⟨rfl, rfl⟩
      go_wp2
      go_end0
      exact ⟨rfl, rfl⟩

theorem wzig_bad (b off : Nat) (e0 x : Int) (w : World) (he : w.cell? ⟨b, off + 122, none⟩ = some (.int .i64 e0)) (hne : e0 ≠ 0) (hx1 : -9223372036854775808 ≤ x) (hx2 : x ≤ 9223372036854775807) :
    Calls Try.prog 38 #[.pointer (some ⟨b, off, none⟩), .int .i64 x] w fun e w' => e = .returned (.tuple #[]) ∧ w' = w := by
  have H : Hid (Calls Try.prog 36 #[.pointer (some ⟨b, off, none⟩), .int .u64 (zig x : Nat)] w fun e w' => e = .returned (.tuple #[]) ∧ w' = w) := wvar_bad b off e0 (zig x) w he hne (zig_lt x hx1 hx2)
  clear he hne
  go_enter Try.func38, Try.ntmps38
  go_wp2_with fail
  rw [zig_xor x hx1 hx2]
  refine H.out.mono ?_
  rintro e w1 ⟨rfl, rfl⟩
  go_wp2
  go_end0
  exact ⟨rfl, rfl⟩

/-- Done behind a refusal. -/
theorem wdone_bad (b off : Nat) (e0 : Int) (w : World) (he : w.cell? ⟨b, off + 122, none⟩ = some (.int .i64 e0)) (hne : e0 ≠ 0) :
    Calls Try.prog 28 #[.pointer (some ⟨b, off, none⟩)] w fun e w' => e = .returned (.tuple #[.slice none 0 0, .int .i64 e0]) ∧ ∃ n, w' = w.drewN n := by
  have hne' : (e0 != 0) = true := by simp [hne]
  go_enter Try.func28, Try.ntmps28
  go_wp2_with fail
  go_quiet (fail)
  go_wp2
  go_ret2
  exact ⟨rfl, _, rfl⟩

end Go.Proofs.Ytpiiagjfimdflaa

/- The document's own Reader: the contracts of Bits and Bit. -/
import Derived.Test.YtpiiagjfimdflaaRa
namespace Go.Proofs.Ytpiiagjfimdflaa
open Go.RowKit
open M
set_option linter.unusedVariables false

set_option maxHeartbeats 1000000 in
theorem vbits_ok (b hi : Nat) (l : List Bool) (n : Nat) (w : World) (hR : Rr w b hi l 0) (hn : n ≤ 64) (hle : n ≤ l.length) :
    Calls Try.prog 54 #[.pointer (some ⟨b, 0, none⟩), .int .i64 n] w fun e w' => e = .returned (.int .u64 (num (l.take n) : Int)) ∧ Rr w' b hi (l.drop n) 0 ∧ Only b 0 2 w w' := by
  obtain ⟨_, h1, p, cap, rfl, hcap, hcells⟩ := hR.row
  have h2 := hR.err
  have hf0 := hR.fz 0 (by omega)
  have HI : Hid (IsBits w (.slice p l.length cap) b hi l) := ⟨p, cap, rfl, hcap, hcells⟩
  have hlen := hR.len
  clear hcells
  have hnl : ¬ (l.length : Int) < (n : Int) := by omega
  have hnc : n ≤ cap := by omega
  go_enter Try.func54, Try.ntmps54
  go_wp2_with fail
  refine (number_any _ b hi (l.take n) w (HI.out.front n hle) (by simp; omega)).mono ?_
  rintro e w1 ⟨rfl, rfl⟩
  go_wp2_with fail
  · go_ret
    exact ⟨rfl, hR.setRow (HI.out.none n hle (by assumption)) (by simp), (Only.refl _ _ _ w1).setCell _ (by omega) (by omega) _⟩
  · go_ret
    exact ⟨rfl, hR.setRow (HI.out.rest n hle (by assumption)) (by simp), (Only.refl _ _ _ w1).setCell _ (by omega) (by omega) _⟩

set_option maxHeartbeats 1000000 in
theorem vbits_short (b hi : Nat) (l : List Bool) (n : Nat) (w : World) (hR : Rr w b hi l 0) (hn : n ≤ 64) (hle : l.length < n) :
    Calls Try.prog 54 #[.pointer (some ⟨b, 0, none⟩), .int .i64 n] w fun e w' => e = .returned (.int .u64 0) ∧ Rr w' b hi l 12 ∧ Only b 0 2 w w' := by
  obtain ⟨_, h1, p, cap, rfl, hcap, hcells⟩ := hR.row
  have h2 := hR.err
  have hf0 := hR.fz 1 (by omega)
  have hlen := hR.len
  clear hcells
  have hnl : (l.length : Int) < (n : Int) := by omega
  go_enter Try.func54, Try.ntmps54
  go_wp2_with fail
  refine (vrefuse_zero b 12 w h2 hf0).mono ?_
  rintro e w1 ⟨rfl, hw1⟩
  have R1 : Rr w1 b hi l 12 := by rw [hw1]; exact hR.setErr 12
  have O1 : Only b 0 2 w w1 := by rw [hw1]; exact (Only.refl _ _ _ w).setCell _ (by omega) (by omega) _
  have h3 := R1.err
  clear hw1
  go_wp2_with fail
  go_ret
  exact ⟨rfl, R1, O1⟩

set_option maxHeartbeats 1000000 in
theorem vbits_wide (b hi : Nat) (l : List Bool) (n : Int) (w : World) (hR : Rr w b hi l 0) (hn : n < 0 ∨ 64 < n) :
    Calls Try.prog 54 #[.pointer (some ⟨b, 0, none⟩), .int .i64 n] w fun e w' => e = .returned (.int .u64 0) ∧ Rr w' b hi l 10 ∧ Only b 0 2 w w' := by
  have h2 := hR.err
  have hf0 := hR.fz 1 (by omega)
  rcases hn with hn | hn
  · go_enter Try.func54, Try.ntmps54
    go_wp2_with fail
    refine (vrefuse_zero b 10 w h2 hf0).mono ?_
    rintro e w1 ⟨rfl, hw1⟩
    have R1 : Rr w1 b hi l 10 := by rw [hw1]; exact hR.setErr 10
    have O1 : Only b 0 2 w w1 := by rw [hw1]; exact (Only.refl _ _ _ w).setCell _ (by omega) (by omega) _
    have h3 := R1.err
    clear hw1
    go_wp2_with fail
    go_ret
    exact ⟨rfl, R1, O1⟩
  · have hn0 : ¬ n < 0 := by omega
    go_enter Try.func54, Try.ntmps54
    go_wp2_with fail
    refine (vrefuse_zero b 10 w h2 hf0).mono ?_
    rintro e w1 ⟨rfl, hw1⟩
    have R1 : Rr w1 b hi l 10 := by rw [hw1]; exact hR.setErr 10
    have O1 : Only b 0 2 w w1 := by rw [hw1]; exact (Only.refl _ _ _ w).setCell _ (by omega) (by omega) _
    have h3 := R1.err
    clear hw1
    go_wp2_with fail
    go_ret
    exact ⟨rfl, R1, O1⟩

set_option maxHeartbeats 1000000 in
theorem vbits_bad (b hi : Nat) (l : List Bool) (n e0 : Int) (w : World) (hR : Rr w b hi l e0) (he : (e0 == 0) = false) :
    Calls Try.prog 54 #[.pointer (some ⟨b, 0, none⟩), .int .i64 n] w fun e w' => e = .returned (.int .u64 0) ∧ Rr w' b hi l e0 ∧ Only b 0 2 w w' := by
  have h2 := hR.err
  have hne : (e0 != 0) = true := by simp [bne, he]
  by_cases hn : n < 0
  · go_enter Try.func54, Try.ntmps54
    go_wp2_with fail
    refine (vrefuse_not b 10 e0 w h2 he).mono ?_
    rintro e w1 ⟨rfl, rfl⟩
    go_wp2_with fail
    go_ret
    exact ⟨rfl, hR, Only.refl _ _ _ _⟩
  · by_cases hn2 : 64 < n
    · go_enter Try.func54, Try.ntmps54
      go_wp2_with fail
      refine (vrefuse_not b 10 e0 w h2 he).mono ?_
      rintro e w1 ⟨rfl, rfl⟩
      go_wp2_with fail
      go_ret
      exact ⟨rfl, hR, Only.refl _ _ _ _⟩
    · go_enter Try.func54, Try.ntmps54
      go_wp2_with fail
      go_ret
      exact ⟨rfl, hR, Only.refl _ _ _ _⟩

theorem vbit_of (b : Nat) (w : World) (x : Nat) (R : World → Prop) (h : Calls Try.prog 54 #[.pointer (some ⟨b, 0, none⟩), .int .i64 1] w fun e w' => e = .returned (.int .u64 (x : Int)) ∧ R w') :
    Calls Try.prog 53 #[.pointer (some ⟨b, 0, none⟩)] w fun e w' => e = .returned (.bool (x == 1)) ∧ R w' := by
  have H : Hid (Calls Try.prog 54 #[.pointer (some ⟨b, 0, none⟩), .int .i64 1] w fun e w' => e = .returned (.int .u64 (x : Int)) ∧ R w') := h
  clear h
  go_enter Try.func53, Try.ntmps53
  go_wp2_with fail
  refine H.out.mono ?_
  rintro e w1 ⟨rfl, hr⟩
  go_wp2_with fail
  go_ret
  refine ⟨?_, hr⟩
  show Ending.returned (.bool ((x : Int) == 1)) = _
  congr 2
  by_cases hx : x = 1
  · subst hx; rfl
  · have : ¬ (x : Int) = 1 := by omega
    rw [beq_eq_false_iff_ne.2 hx, beq_eq_false_iff_ne.2 this]

/-- The program's Bits of a width that is none: refused. -/
theorem rbits_wide (b off : Nat) (s : ByteArray) (a : Nat) (n : Int) (w : World) (h : Rd w b off s a 0) (hn : n < 0 ∨ 64 < n) :
    Calls Try.prog 33 #[.pointer (some ⟨b, off, none⟩), .int .i64 n] w fun e w' => e = .returned (.int .u64 0) ∧ Rd w' b off s a 10 ∧ Only b off (off + 3) w w' := by
  have h1 := h.at_
  have h2 := h.err
  have h3 := h.fz 2 (by omega)
  rcases hn with hn | hn
  · go_enter Try.func33, Try.ntmps33
    go_wp2_with fail
    refine (rrefuse_zero b off 10 w h2 h3).mono ?_
    rintro e w1 ⟨rfl, hw1⟩
    have R1 : Rd w1 b off s a 10 := by rw [hw1]; exact h.setErr 10
    have O1 : Only b off (off + 3) w w1 := by rw [hw1]; exact (Only.refl _ _ _ w).setCell _ (by omega) (by omega) _
    have h4 := R1.err
    clear hw1
    go_wp2_with fail
    go_ret
    exact ⟨rfl, R1, O1⟩
  · have hn0 : ¬ n < 0 := by omega
    go_enter Try.func33, Try.ntmps33
    go_wp2_with fail
    refine (rrefuse_zero b off 10 w h2 h3).mono ?_
    rintro e w1 ⟨rfl, hw1⟩
    have R1 : Rd w1 b off s a 10 := by rw [hw1]; exact h.setErr 10
    have O1 : Only b off (off + 3) w w1 := by rw [hw1]; exact (Only.refl _ _ _ w).setCell _ (by omega) (by omega) _
    have h4 := R1.err
    clear hw1
    go_wp2_with fail
    go_ret
    exact ⟨rfl, R1, O1⟩

theorem rbits_bad_wide (b off : Nat) (s : ByteArray) (a : Nat) (n e0 : Int) (w : World) (h : Rd w b off s a e0) (he : (e0 == 0) = false) (hn : n < 0 ∨ 64 < n) :
    Calls Try.prog 33 #[.pointer (some ⟨b, off, none⟩), .int .i64 n] w fun e w' => e = .returned (.int .u64 0) ∧ Rd w' b off s a e0 ∧ Only b off (off + 3) w w' := by
  have h1 := h.at_
  have h2 := h.err
  have hne : (e0 != 0) = true := by simp [bne, he]
  rcases hn with hn | hn
  · go_enter Try.func33, Try.ntmps33
    go_wp2_with fail
    refine (rrefuse_not b off 10 e0 w h2 he).mono ?_
    rintro e w1 ⟨rfl, rfl⟩
    go_wp2_with fail
    go_ret
    exact ⟨rfl, h, Only.refl _ _ _ _⟩
  · have hn0 : ¬ n < 0 := by omega
    go_enter Try.func33, Try.ntmps33
    go_wp2_with fail
    refine (rrefuse_not b off 10 e0 w h2 he).mono ?_
    rintro e w1 ⟨rfl, rfl⟩
    go_wp2_with fail
    go_ret
    exact ⟨rfl, h, Only.refl _ _ _ _⟩

end Go.Proofs.Ytpiiagjfimdflaa

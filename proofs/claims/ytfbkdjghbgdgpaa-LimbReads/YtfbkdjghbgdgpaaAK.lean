/- Decimals read: which texts are decimals, and a few digits' number. -/
import Derived.Test.YtfbkdjghbgdgpaaT
namespace Go.Proofs.Ytfbkdjghbgdgpaa
open Go.RowKit
open M
set_option linter.unusedVariables false
set_option linter.unusedSimpArgs false

/-- The digit at a place of a text; past its end none (0). -/
def sd (s : ByteArray) (i : Nat) : Nat := if h : i < s.size then (s[i]'h).toNat - 48 else 0

/-- The number of the first i digits. -/
def dv (f : Nat → Nat) : Nat → Nat
  | 0 => 0
  | i + 1 => dv f i * 10 + f i

def AllDec (s : ByteArray) : Prop := ∀ (k : Nat) (h : k < s.size), 48 ≤ (s[k]'h).toNat ∧ (s[k]'h).toNat ≤ 57
/-- A text is a decimal: digits alone, at least one, and no needless nought before. -/
def IsDec (s : ByteArray) : Prop := AllDec s ∧ (s.size = 1 ∨ ∃ h : 1 < s.size, (s[0]'(by omega)).toNat ≠ 48)

def DecEnd (s : ByteArray) (e : Ending) : Prop := ∃ b, e = .returned (.bool b) ∧ (b = true ↔ IsDec s)
theorem DecEnd.yes {s : ByteArray} {e : Ending} (he : e = .returned (.bool true)) (h : IsDec s) : DecEnd s e := ⟨true, he, fun _ => h, fun _ => rfl⟩
theorem DecEnd.no {s : ByteArray} {e : Ending} (he : e = .returned (.bool false)) (h : ¬ IsDec s) : DecEnd s e := ⟨false, he, fun h => (by cases h), fun h' => absurd h' h⟩

theorem sd_le {s : ByteArray} (h : AllDec s) (i : Nat) : sd s i ≤ 9 := by
  unfold sd
  split
  · have := h i (by assumption); omega
  · omega

theorem dv_lt {f : Nat → Nat} (h : ∀ i, f i ≤ 9) : ∀ i, dv f i < 10 ^ i
  | 0 => by simp [dv]
  | i + 1 => by have := dv_lt h i; have := h i; rw [Nat.pow_succ]; show dv f i * 10 + f i < _; omega

theorem dv_add (f : Nat → Nat) (i : Nat) : ∀ n, dv f (i + n) = dv f i * 10 ^ n + dv (fun j => f (i + j)) n
  | 0 => by simp [dv]
  | n + 1 => by
    show dv f (i + n) * 10 + f (i + n) = dv f i * 10 ^ (n + 1) + (dv (fun j => f (i + j)) n * 10 + f (i + n))
    rw [dv_add f i n, Nat.pow_succ, Nat.add_mul, Nat.mul_assoc, Nat.add_assoc]

set_option maxRecDepth 100000 in
set_option maxHeartbeats 1000000 in
theorem isDecimal_any (s : ByteArray) (w : World) (hs : s.size ≤ 9223372036854775807) :
    Calls Try.prog 29 #[.string s] w fun e w' => DecEnd s e ∧ w' = w := by
  obtain ⟨L, hL⟩ : ∃ L, s.size = L := ⟨_, rfl⟩
  go_enter Try.func29, Try.ntmps29
  go_wp2_with fail
  go_loop [6] (fun t6 => ∃ i : Nat, i ≤ L ∧ t6 = .int .i64 i ∧ Hid (∀ (k : Nat) (h : k < s.size), k < i → 48 ≤ (s[k]'h).toNat ∧ (s[k]'h).toNat ≤ 57)) (fun t6 => L - (intOf t6).toNat)
  case atStart => exact ⟨0, by omega, rfl, fun k _ h => by omega⟩
  case round =>
    obtain ⟨i, hi, rfl, HI⟩ := hrel
    by_cases hlt : i < L
    · have hlt' : (i : Int) < (L : Int) := by omega
      have hin : i < s.size := by omega
      obtain ⟨x, hx⟩ : ∃ x, (s[i]'hin).toNat = x := ⟨_, rfl⟩
      have HX := hide hx
      have hxb : x < 256 := by rw [← hx]; exact UInt8.toNat_lt _
      by_cases h1 : x < 48
      · have h1' : (x : Int) < 48 := by omega
        go_wp2_with fail
        go_ret
        exact ⟨.no rfl fun h => (by have := (h.1 i hin).1; rw [HX.out] at this; omega), rfl⟩
      · have h1' : ¬ (x : Int) < 48 := by omega
        by_cases h2 : 57 < x
        · have h2' : (57 : Int) < (x : Int) := by omega
          go_wp2_with fail
          go_ret
          exact ⟨.no rfl fun h => (by have := (h.1 i hin).2; rw [HX.out] at this; omega), rfl⟩
        · have h2' : ¬ (57 : Int) < (x : Int) := by omega
          go_wp2_with fail
          go_round
          case rel => 
            refine ⟨i + 1, by omega, by go_num, fun k h hk => ?_⟩
            by_cases e : k = i
            · subst e; rw [HX.out]; omega
            · exact HI.out k h (by omega)
          case measure => simp [intOf]; omega
    · obtain rfl : i = L := by omega
      have HA : Hid (AllDec s) := fun k h => HI.out k h (by omega)
      by_cases h1 : i = 1
      · have h1' : (i : Int) = 1 := by omega
        go_wp2_with fail
        go_ret
        exact ⟨.yes rfl ⟨HA.out, .inl (by omega)⟩, rfl⟩
      · have h1' : ((i : Int) == 1) = false := by simp; omega
        by_cases h2 : 1 < i
        · have h2' : (1 : Int) < (i : Int) := by omega
          have hin : 0 < s.size := by omega
          obtain ⟨x, hx⟩ : ∃ x, (s[0]'hin).toNat = x := ⟨_, rfl⟩
          have HX := hide hx
          by_cases h3 : x = 48
          · have h3' : (x : Int) = 48 := by omega
            go_wp2_with fail
            go_ret
            exact ⟨.no rfl fun h => (h.2.elim (fun h => by omega) fun ⟨_, h⟩ => h (by rw [HX.out]; exact h3)), rfl⟩
          · have h3' : ((x : Int) != 48) = true := by simp; omega
            go_wp2_with fail
            go_ret
            exact ⟨.yes rfl ⟨HA.out, .inr ⟨by omega, by rw [HX.out]; exact h3⟩⟩, rfl⟩
        · have h2' : ¬ (1 : Int) < (i : Int) := by omega
          go_wp2_with fail
          go_ret
          exact ⟨.no rfl fun h => (h.2.elim (fun h => by omega) fun ⟨h, _⟩ => by omega), rfl⟩

set_option maxRecDepth 100000 in
set_option maxHeartbeats 1000000 in
theorem readDigits_any (s : ByteArray) (w : World) (hs : s.size ≤ 9) (hA : AllDec s) :
    Calls Try.prog 30 #[.string s] w fun e w' => e = .returned (.tuple #[.int .u32 (10 ^ s.size : Nat), .int .u32 (dv (sd s) s.size : Nat)]) ∧ w' = w := by
  obtain ⟨L, hL⟩ : ∃ L, s.size = L := ⟨_, rfl⟩
  have HA := hide hA
  clear hA
  go_enter Try.func30, Try.ntmps30
  go_wp2_with fail
  go_loop [2, 3, 7] (fun t2 t3 t7 => ∃ i : Nat, i ≤ L ∧ t7 = .int .i64 i ∧ t2 = .int .u32 (10 ^ i : Nat) ∧ t3 = .int .u32 (dv (sd s) i : Nat)) (fun _ _ t7 => L - (intOf t7).toNat)
  case atStart => exact ⟨0, by omega, rfl, rfl, rfl⟩
  case round =>
    obtain ⟨i, hi, rfl, rfl, rfl⟩ := hrel
    by_cases hlt : i < L
    · have hlt' : (i : Int) < (L : Int) := by omega
      have hin : i < s.size := by omega
      have hd : sd s i = (s[i]'hin).toNat - 48 := by unfold sd; rw [dif_pos hin]
      have hb := HA.out i hin
      have hv := dv_lt (sd_le HA.out) i
      have hp : 10 ^ i ≤ 10 ^ 8 := Nat.pow_le_pow_right (by omega) (by omega)
      have Hnext : Hid (dv (sd s) (i + 1) = dv (sd s) i * 10 + ((s[i]'hin).toNat - 48)) := by rw [← hd]; rfl
      have Hpow : Hid (10 ^ (i + 1) = 10 ^ i * 10) := Nat.pow_succ _ _
      clear hd
      obtain ⟨x, hx⟩ : ∃ x, (s[i]'hin).toNat = x := ⟨_, rfl⟩
      rw [hx] at hb Hnext
      obtain ⟨p, hp'⟩ : ∃ p, 10 ^ i = p := ⟨_, rfl⟩
      obtain ⟨d, hd'⟩ : ∃ d, dv (sd s) i = d := ⟨_, rfl⟩
      rw [hp'] at hv hp Hpow
      rw [hd'] at hv Hnext
      rw [hp', hd']
      go_wp2_with fail
      go_round
      case rel => exact ⟨i + 1, by omega, by go_num, by rw [Hpow.out]; go_num, by rw [Hnext.out]; go_num⟩
      case measure => simp [intOf]; omega
    · obtain rfl : i = L := by omega
      go_wp2_with fail
      go_ret2
      exact ⟨rfl, rfl⟩

end Go.Proofs.Ytfbkdjghbgdgpaa

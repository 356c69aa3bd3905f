/- TimesSteady: plain; Within; the walk. -/
import Derived.Test.YthdolmhbmbgdpaaT1T
import Derived.Deep.CutBlock
import Derived.Deep.DeepCutAuto
namespace Go.Proofs.Ythdolmhbmbgdpaa
open Go.RowKit
open M
set_option linter.unusedVariables false

/-- Times at equal distances. -/
def std (t by_ : Int) (i : Nat) : Int := t + (i : Int) * by_

theorem std_succ (t by_ : Int) (i : Nat) : std t by_ (i + 1) = std t by_ i + by_ := by
  unfold std
  rw [show ((i + 1 : Nat) : Int) = (i : Int) + 1 from by omega, Int.add_mul, Int.one_mul, Int.add_assoc]

theorem std_dif (t by_ : Int) (i : Nat) (h1 : 1 ≤ by_) (h2 : by_ ≤ 9223372036854775807) : dif (std t by_ (i + 1)) (std t by_ i) = by_.toNat := by
  rw [std_succ]; unfold dif
  have e : std t by_ i + by_ - std t by_ i = by_ := by omega
  rw [e]; omega

theorem std_rises (t by_ : Int) (n : Nat) (h1 : 1 ≤ by_) : Rises (std t by_) n := fun i _ => by rw [std_succ]; omega

theorem std_zg0 (t by_ : Int) (h1 : 1 ≤ by_) (h2 : by_ ≤ 9223372036854775807) : zg (std t by_) 0 = 2 * by_.toNat := by
  unfold zg
  rw [std_dif t by_ 0 h1 h2]
  simp only [ahd]
  have e : bend by_.toNat 0 = by_ := by unfold bend; omega
  rw [e]; unfold zig; rw [if_neg (by omega)]; omega

theorem std_zg (t by_ : Int) (i : Nat) (h1 : 1 ≤ by_) (h2 : by_ ≤ 9223372036854775807) : zg (std t by_) (i + 1) = 0 := by
  unfold zg
  rw [std_dif t by_ (i + 1) h1 h2]
  simp only [ahd]
  rw [std_dif t by_ i h1 h2]
  have e : bend by_.toNat by_.toNat = 0 := by unfold bend; omega
  rw [e]; rfl

/-- How many bits they take. -/
theorem std_len (t by_ : Int) (h1 : 1 ≤ by_) (h2 : by_ ≤ 9223372036854775807) : ∀ m, (tbn (std t by_) (m + 2)).length = 64 + zbl (2 * by_.toNat) + m
  | 0 => by rw [tbn_step, tbn_one, List.length_append, zb_length, std_zg0 t by_ h1 h2, bitsOf_length]; omega
  | m + 1 => by
    rw [tbn_step, List.length_append, std_len t by_ h1 h2 m, zb_length, std_zg t by_ m h1 h2]
    have : zbl 0 = 1 := rfl
    omega

/-- What the law reckons. -/
def want (by_ : Int) (m : Nat) : Nat := if m = 0 then 0 else if m = 1 then 64 else 64 + zbl (2 * by_.toNat) + (m - 2)

theorem want_len (t by_ : Int) (m : Nat) (h1 : 1 ≤ by_) (h2 : by_ ≤ 9223372036854775807) : (tbn (std t by_) m).length = want by_ m := by
  unfold want
  match m with
  | 0 => rfl
  | 1 => rw [tbn_one, bitsOf_length]; rfl
  | m + 2 => rw [std_len t by_ h1 h2 m, if_neg (by omega), if_neg (by omega)]; omega

theorem std_less (t by_ : Int) (i : Nat) : std t by_ i - 1000 = std (t - 1000) by_ i := by unfold std; omega

theorem want_le (by_ : Int) (m : Nat) (hm : m ≤ 4096) : want by_ m ≤ 8192 := by
  unfold want
  have := zbl_le (2 * by_.toNat)
  split
  · omega
  · split <;> omega

theorem want_many (bn m : Nat) (h : 2 ≤ m) : want (bn : Int) m = 64 + zbl (2 * bn) + (m - 2) := by
  unfold want; rw [if_neg (by omega), if_neg (by omega)]; simp

theorem zbl_1 (u : Nat) (h0 : 0 < u) (h : u ≤ 128) : zbl u = 9 := by unfold zbl; rw [if_neg (by omega), if_pos h]
theorem zbl_2 (u : Nat) (h0 : 128 < u) (h : u ≤ 4224) : zbl u = 15 := by unfold zbl; rw [if_neg (by omega), if_neg (by omega), if_pos h]
theorem zbl_3 (u : Nat) (h0 : 4224 < u) (h : u ≤ 1052800) : zbl u = 24 := by unfold zbl; rw [if_neg (by omega), if_neg (by omega), if_neg (by omega), if_pos h]
theorem zbl_4 (u : Nat) (h0 : 1052800 < u) : zbl u = 68 := by unfold zbl; rw [if_neg (by omega), if_neg (by omega), if_neg (by omega), if_neg (by omega)]

theorem within_any (x : Int) (w : World) (hx : I64 x) : Calls Try.prog 14 #[.int .i64 x, .int .i64 4097] w fun e w' => ∃ n : Nat, n ≤ 4096 ∧ e = .returned (.int .i64 (n : Int)) ∧ w' = w := by
  obtain ⟨h1, h2⟩ := hx
  obtain ⟨r, hr⟩ : ∃ r : Int, r = Int.tmod x 4097 := ⟨_, rfl⟩
  have r1 : -4096 ≤ r := by rw [hr]; have := Int.lt_tmod_of_pos x (show (0 : Int) < 4097 by omega); omega
  have r2 : r ≤ 4096 := by rw [hr]; have := Int.tmod_lt_of_pos x (show (0 : Int) < 4097 by omega); omega
  have e1 : Int.tmod x 4097 = r := hr.symm
  clear hr
  by_cases h0 : r < 0
  · have e2 : Hid (r + 4097 = ((r + 4097).toNat : Int)) := by show _ = _; omega
    go_enter Try.func14, Try.ntmps14
    go_wp2_with fail
    go_ret
    exact ⟨(r + 4097).toNat, by omega, by rw [← e2.out]; rfl, rfl⟩
  · have e2 : Hid (r = (r.toNat : Int)) := by show _ = _; omega
    go_enter Try.func14, Try.ntmps14
    go_wp2_with fail
    go_ret
    exact ⟨r.toNat, by omega, by rw [← e2.out]; rfl, rfl⟩

end Go.Proofs.Ythdolmhbmbgdpaa

/- The law's Within. -/
import Derived.Test.YtlandfghodfjdaaGreatJ13A
namespace Go.Proofs.YtlandfghodfjdaaGreat
open Go.RowKit
set_option linter.unusedVariables false
set_option linter.unusedSimpArgs false

set_option maxRecDepth 100000 in
theorem within10_any (x : Int) (m : Nat) (w : World) (h1 : -9223372036854775808 ≤ x) (h2 : x ≤ 9223372036854775807) (hm : 0 < m) (hm2 : m ≤ 1000000000) : Calls Tryz.prog 5 #[.int .i64 x, .int .i64 (m : Int)] w fun e w' => ∃ n : Nat, e = .returned (.int .i64 (n : Int)) ∧ n < m ∧ w' = w := by
  obtain ⟨r, hr⟩ : ∃ r : Int, r = Int.tmod x (m : Int) := ⟨_, rfl⟩
  have r1 : -(m : Int) < r := by rw [hr]; have := Int.lt_tmod_of_pos x (show (0 : Int) < (m : Int) by omega); omega
  have r2 : r < (m : Int) := by rw [hr]; have := Int.tmod_lt_of_pos x (show (0 : Int) < (m : Int) by omega); omega
  have e1 : Int.tmod x (m : Int) = r := hr.symm
  have hm0 : ¬ (m : Int) = 0 := by omega
  have hm1 : ¬ (m : Int) = -1 := by omega
  clear hr
  by_cases h0 : r < 0
  · have e2 : Hid (r + (m : Int) = ((r + (m : Int)).toNat : Int)) := by show _ = _; omega
    go_enter Tryz.func5, Tryz.ntmps5
    go_wp2_with fail
    go_ret
    exact ⟨(r + (m : Int)).toNat, by rw [← e2.out]; rfl, by omega, rfl⟩
  · have e2 : Hid (r = (r.toNat : Int)) := by show _ = _; omega
    go_enter Tryz.func5, Tryz.ntmps5
    go_wp2_with fail
    go_ret
    exact ⟨r.toNat, by rw [← e2.out]; rfl, by omega, rfl⟩

end Go.Proofs.YtlandfghodfjdaaGreat

/- The document's whole numbers: Len, Low64. -/
import Derived.Test.YtmkploknoohliaaND
import Derived.Test.YtmkploknoohliaaFP
namespace Go.Proofs.Ytmkploknoohliaa
open Go.RowKit
open M
set_option linter.unusedVariables false
set_option linter.unusedSimpArgs false

/-- How many bits a number has. -/
def blen (N : Nat) : Nat := if N = 0 then 0 else N.log2 + 1

theorem blen_top {k N : Nat} (h : N < 4294967296 ^ (k + 1)) (h0 : dg N k ≠ 0) : blen N = 32 * k + (dg N k).log2 + 1 := by
  have e : 4294967296 ^ k = 2 ^ (32 * k) := by rw [Nat.pow_mul]
  have ed : dg N k = N / 2 ^ (32 * k) := by
    unfold dg
    rw [← e, Nat.mod_eq_of_lt]
    rw [Nat.div_lt_iff_lt_mul (pw_pos k), Nat.mul_comm, ← pw_succ]; exact h
  have hN : N ≠ 0 := by rintro rfl; rw [ed, Nat.zero_div] at h0; exact h0 rfl
  unfold blen
  rw [if_neg hN, ed, Flt.log2_div_pow]
  have : 32 * k ≤ N.log2 := by
    rw [Nat.le_log2 hN]
    rcases Nat.lt_or_ge N (2 ^ (32 * k)) with h1 | h1
    · exfalso; apply h0; rw [ed]; exact Nat.div_eq_of_lt h1
    · exact h1
  omega


end Go.Proofs.Ytmkploknoohliaa

/- Square roots: plain mathematics. -/
import Derived.Test.YtanijhgmgldiiaaA
namespace Go.Proofs.Ytanijhgmgldiiaa
namespace M
set_option linter.unusedVariables false
set_option linter.unusedSimpArgs false

/-- s is n's square root, rounded down. -/
def Sq (s n : Nat) : Prop := s * s ≤ n ∧ n < (s + 1) * (s + 1)

theorem Sq.uniq {s s' n : Nat} (h : Sq s n) (h' : Sq s' n) : s = s' := by
  rcases Nat.lt_trichotomy s s' with hl | hl | hl
  · have := Nat.mul_le_mul hl hl; have h1 := h.2; have h2 := h'.1; simp only [Nat.succ_eq_add_one] at this; omega
  · exact hl
  · have := Nat.mul_le_mul hl hl; have h1 := h'.2; have h2 := h.1; simp only [Nat.succ_eq_add_one] at this; omega

theorem sq_exists (n : Nat) : ∃ s, Sq s n := by
  induction n with
  | zero => exact ⟨0, by decide, by decide⟩
  | succ n ih =>
    obtain ⟨s, h1, h2⟩ := ih
    by_cases h : n + 1 < (s + 1) * (s + 1)
    · exact ⟨s, by omega, h⟩
    · refine ⟨s + 1, by omega, ?_⟩
      have : (s + 1 + 1) * (s + 1 + 1) = (s + 1) * (s + 1) + 2 * s + 3 := by
        rw [Nat.mul_add, Nat.add_mul (s + 1) 1 (s + 1)]; omega
      omega

theorem four_pow (t : Nat) : 4 ^ t = 2 ^ t * 2 ^ t := by rw [← Nat.mul_pow]

/-- The root of what is left without 2 t bits. -/
theorem Sq.shift {s n : Nat} (h : Sq s n) (t : Nat) : Sq (s / 2 ^ t) (n / 4 ^ t) := by
  have hp := Nat.two_pow_pos t
  rw [four_pow]
  have h1 : s / 2 ^ t * 2 ^ t ≤ s := Nat.div_mul_le_self _ _
  have h2 : s < (s / 2 ^ t + 1) * 2 ^ t := by
    have := Nat.lt_mul_div_succ s hp; rw [Nat.mul_comm] at this; exact this
  generalize s / 2 ^ t = c at *
  generalize 2 ^ t = p at *
  constructor
  · rw [Nat.le_div_iff_mul_le (Nat.mul_pos hp hp)]
    have := Nat.mul_le_mul h1 h1
    have e : c * p * (c * p) = c * c * (p * p) := by rw [Nat.mul_assoc, Nat.mul_left_comm p c p, ← Nat.mul_assoc, ← Nat.mul_assoc]
    rw [e] at this
    exact Nat.le_trans this h.1
  · rw [Nat.div_lt_iff_lt_mul (Nat.mul_pos hp hp)]
    have h3 : s + 1 ≤ (c + 1) * p := h2
    have := Nat.mul_le_mul h3 h3
    have e : (c + 1) * p * ((c + 1) * p) = (c + 1) * (c + 1) * (p * p) := by rw [Nat.mul_assoc, Nat.mul_left_comm p (c + 1) p, ← Nat.mul_assoc, ← Nat.mul_assoc]
    rw [e] at this
    exact Nat.lt_of_lt_of_le h.2 this

/-- A step of Newton's, from a root of the upper bits or one more: in whole numbers. -/
theorem newton {s n t x : Nat} (h : Sq s n) (ht : 0 < t) (hx : x = s / 2 ^ t ∨ x = s / 2 ^ t + 1) (hx2 : 2 ^ t ≤ 2 * x) :
    (x * 2 ^ (t - 1) + n / 2 ^ (t + 1) / x = s) ∨ (x * 2 ^ (t - 1) + n / 2 ^ (t + 1) / x = s + 1) := by
  have hp := Nat.two_pow_pos t
  have hx0 : 0 < x := by omega
  obtain ⟨u, rfl⟩ : ∃ u, t = u + 1 := ⟨t - 1, by omega⟩
  rw [Nat.add_sub_cancel]
  have hpp : 2 ^ (u + 1) = 2 * 2 ^ u := by rw [Nat.pow_succ, Nat.mul_comm]
  have hq : 2 ^ (u + 1 + 1) = 4 * 2 ^ u := by rw [Nat.pow_succ, Nat.pow_succ]; omega
  have hu := Nat.two_pow_pos u
  have hm : s / 2 ^ (u + 1) * 2 ^ (u + 1) ≤ s := Nat.div_mul_le_self _ _
  have hm2 : s < (s / 2 ^ (u + 1) + 1) * 2 ^ (u + 1) := by
    have := Nat.lt_mul_div_succ s hp; rw [Nat.mul_comm] at this; exact this
  -- Y = 2^u x, X = 2 Y; the new one is Y + n / (4 Y)
  have e1 : n / 2 ^ (u + 1 + 1) / x = n / (4 * (x * 2 ^ u)) := by
    rw [Nat.div_div_eq_div_mul, hq, Nat.mul_assoc, Nat.mul_comm (2 ^ u) x]
  rw [e1]
  generalize s / 2 ^ (u + 1) = c at *
  rw [hpp] at hx2 hm hm2
  clear hp hq e1 hpp ht
  generalize 2 ^ u = p at *
  obtain ⟨Y, hY⟩ : ∃ Y, Y = x * p := ⟨_, rfl⟩
  rw [← hY]
  have hY0 : 0 < Y := by rw [hY]; exact Nat.mul_pos hx0 hu
  -- X lies near s
  have near : (2 * Y ≤ s ∧ s < 2 * Y + 2 * p) ∨ (s < 2 * Y ∧ 2 * Y ≤ s + 2 * p) := by
    rw [Nat.add_mul] at hm2
    rcases hx with hx | hx
    · left
      have : c * (2 * p) = 2 * Y := by rw [hY, hx, Nat.mul_left_comm]
      omega
    · right
      have : (c + 1) * (2 * p) = 2 * Y := by rw [hY, hx, Nat.mul_left_comm]
      rw [Nat.add_mul] at this
      omega
  have hYp : p * p ≤ Y := by
    rw [hY]
    exact Nat.mul_le_mul_right p (by omega)
  have hdm := Nat.div_add_mod n (4 * Y)
  have hml := Nat.mod_lt n (show 0 < 4 * Y from by omega)
  generalize n / (4 * Y) = m at *
  generalize n % (4 * Y) = r at *
  have hn1 := h.1
  have hn2 := h.2
  -- lower and upper bounds
  have lower : s ≤ Y + m := by
    rcases Nat.lt_or_ge (Y + m) s with hlt | hge
    · exfalso
      -- 4 Y (Y + m + 1) <= 4 Y s
      have h1 : 4 * Y * (Y + m + 1) ≤ 4 * Y * s := Nat.mul_le_mul_left _ hlt
      rw [Nat.mul_add, Nat.mul_add, Nat.mul_one] at h1
      -- (2Y - s)^2 >= 0
      rcases Nat.le_total (2 * Y) s with h2 | h2
      · obtain ⟨d, rfl⟩ : ∃ d, s = 2 * Y + d := ⟨s - 2 * Y, by omega⟩
        have e2 : (2 * Y + d) * (2 * Y + d) = 4 * Y * Y + 4 * Y * d + d * d := by
          rw [Nat.mul_add, Nat.add_mul, Nat.add_mul]
          have a1 : 2 * Y * (2 * Y) = 4 * Y * Y := by rw [Nat.mul_assoc, Nat.mul_left_comm Y 2 Y, ← Nat.mul_assoc, ← Nat.mul_assoc]
          have a2 : d * (2 * Y) = 2 * Y * d := Nat.mul_comm _ _
          have a3 : 4 * Y * d = 2 * Y * d + 2 * Y * d := by rw [← Nat.add_mul]; congr 1; omega
          omega
        rw [e2] at hn1
        have e3 : 4 * Y * (2 * Y + d) = 4 * Y * Y + 4 * Y * Y + 4 * Y * d := by
          rw [Nat.mul_add]
          have a1 : 4 * Y * (2 * Y) = 4 * Y * Y + 4 * Y * Y := by rw [← Nat.mul_add]; congr 1; omega
          omega
        rw [e3] at h1
        omega
      · obtain ⟨d, hd⟩ : ∃ d, 2 * Y = s + d := ⟨2 * Y - s, by omega⟩
        have e2 : (s + d) * (s + d) = s * s + 2 * (s * d) + d * d := by
          rw [Nat.mul_add, Nat.add_mul, Nat.add_mul, Nat.mul_comm d s]; omega
        have e3 : 4 * Y * Y = (s + d) * (s + d) := by
          rw [← hd, Nat.mul_assoc 2, Nat.mul_left_comm Y 2 Y, ← Nat.mul_assoc, ← Nat.mul_assoc]
        have e4 : 4 * Y * s = 2 * (s * s) + 2 * (s * d) := by
          rw [show 4 * Y = 2 * (s + d) from by omega, Nat.mul_assoc, Nat.add_mul, Nat.mul_comm d s]; omega
        rw [e3, e2, e4] at h1
        omega
    · exact hge
  have upper : Y + m ≤ s + 1 := by
    rcases Nat.lt_or_ge (s + 1) (Y + m) with hlt | hge
    · exfalso
      have h1 : 4 * Y * (s + 2) ≤ 4 * Y * (Y + m) := Nat.mul_le_mul_left _ hlt
      rw [Nat.mul_add, Nat.mul_add] at h1
      have hs2 : (s + 1) * (s + 1) = s * s + 2 * s + 1 := by rw [Nat.mul_add, Nat.add_mul]; omega
      rw [hs2] at hn2
      have hyy : 4 * Y * 2 = 8 * Y := by omega
      rcases near with ⟨h2, h3⟩ | ⟨h2, h3⟩
      · obtain ⟨d, rfl⟩ : ∃ d, s = 2 * Y + d := ⟨s - 2 * Y, by omega⟩
        have hd : (d + 1) * (d + 1) ≤ 2 * p * (2 * p) := Nat.mul_le_mul (by omega) (by omega)
        have hd2 : (d + 1) * (d + 1) = d * d + 2 * d + 1 := by rw [Nat.mul_add, Nat.add_mul]; omega
        have hp4 : 2 * p * (2 * p) = 4 * (p * p) := by rw [Nat.mul_assoc, Nat.mul_left_comm p 2 p, ← Nat.mul_assoc]
        have e2 : (2 * Y + d) * (2 * Y + d) = 4 * Y * Y + 4 * Y * d + d * d := by
          rw [Nat.mul_add, Nat.add_mul, Nat.add_mul]
          have a1 : 2 * Y * (2 * Y) = 4 * Y * Y := by rw [Nat.mul_assoc, Nat.mul_left_comm Y 2 Y, ← Nat.mul_assoc, ← Nat.mul_assoc]
          have a2 : d * (2 * Y) = 2 * Y * d := Nat.mul_comm _ _
          have a3 : 4 * Y * d = 2 * Y * d + 2 * Y * d := by rw [← Nat.add_mul]; congr 1; omega
          omega
        have e3 : 4 * Y * (2 * Y + d) = 4 * Y * Y + 4 * Y * Y + 4 * Y * d := by
          rw [Nat.mul_add]
          have a1 : 4 * Y * (2 * Y) = 4 * Y * Y + 4 * Y * Y := by rw [← Nat.mul_add]; congr 1; omega
          omega
        rw [e2] at hn2
        rw [e3] at h1
        omega
      · obtain ⟨d, hd⟩ : ∃ d, 2 * Y = s + d := ⟨2 * Y - s, by omega⟩
        have hdp : d * d ≤ 2 * p * (2 * p) := Nat.mul_le_mul (by omega) (by omega)
        have hp4 : 2 * p * (2 * p) = 4 * (p * p) := by rw [Nat.mul_assoc, Nat.mul_left_comm p 2 p, ← Nat.mul_assoc]
        have e2 : (s + d) * (s + d) = s * s + 2 * (s * d) + d * d := by
          rw [Nat.mul_add, Nat.add_mul, Nat.add_mul, Nat.mul_comm d s]; omega
        have e3 : 4 * Y * Y = (s + d) * (s + d) := by
          rw [← hd, Nat.mul_assoc 2, Nat.mul_left_comm Y 2 Y, ← Nat.mul_assoc, ← Nat.mul_assoc]
        have e4 : 4 * Y * s = 2 * (s * s) + 2 * (s * d) := by
          rw [show 4 * Y = 2 * (s + d) from by omega, Nat.mul_assoc, Nat.add_mul, Nat.mul_comm d s]; omega
        rw [e3, e2, e4] at h1
        omega
    · exact hge
  omega

end M
end Go.Proofs.Ytanijhgmgldiiaa

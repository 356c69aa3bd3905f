/- Bits, and the parts of a pattern: wide, layoutOf, isNaN, theNaN. -/
import Derived.Test.YtlemodcppokjhaaGreatDoorFB
import Derived.Test.YtlemodcppokjhaaGreatDoorProg
import Derived.WalkKit
import Derived.WalkSpells
import Derived.WalkLawsBesides
import Derived.Deep.QuietTactic
import Derived.BigQuiet
import Derived.BigRegion
import Derived.OwnWalk
import Derived.Laws.CopyOwn
import Derived.Laws.AppendOwnNone
import Derived.Deep.OwnRows
import Derived.Deep.RegionHeld3
import Derived.Laws.BitsAllLaws
import Derived.Laws.FloatArith
/- Rounding to the nearest: by rungs. -/
namespace Go.Proofs.YtlemodcppokjhaaGreatDoor
namespace Flt
set_option linter.unusedVariables false
set_option linter.unusedSimpArgs false
open Ieee

/-- n / u, to the nearest, ties to even. -/
def cutE (n u : Nat) : Nat := n / u + (if u < 2 * (n % u) ∨ (u = 2 * (n % u) ∧ n / u % 2 = 1) then 1 else 0)

/-- The rung nearest to n / d units of the least place. -/
def rnd (f : Format) (n d : Nat) : Nat := ((n / d).log2 - f.fractionBits) * f.binade + cutE n (d * 2 ^ ((n / d).log2 - f.fractionBits))

theorem cutE_scale (n u c : Nat) (h : 0 < c) : cutE (n * c) (u * c) = cutE n u := by
  unfold cutE
  rw [Nat.mul_div_mul_right _ _ h, Nat.mul_mod_mul_right]
  have e1 : (u * c < 2 * (n % u * c)) = (u < 2 * (n % u)) := by
    rw [← Nat.mul_assoc]; exact propext ⟨Nat.lt_of_mul_lt_mul_right, fun h2 => Nat.mul_lt_mul_of_pos_right h2 h⟩
  have e2 : (u * c = 2 * (n % u * c)) = (u = 2 * (n % u)) := by
    rw [← Nat.mul_assoc]; exact propext ⟨Nat.eq_of_mul_eq_mul_right h, fun h2 => by rw [← h2]⟩
  simp only [e1, e2]

theorem rnd_scale (f : Format) (n d c : Nat) (h : 0 < c) : rnd f (n * c) (d * c) = rnd f n d := by
  unfold rnd
  rw [Nat.mul_div_mul_right _ _ h, Nat.mul_right_comm, cutE_scale _ _ _ h]

theorem rnd_eq (f : Format) {n d n' d' : Nat} (hd : 0 < d) (hd' : 0 < d') (h : n * d' = n' * d) : rnd f n d = rnd f n' d' := by
  rw [← rnd_scale f n d d' hd', ← rnd_scale f n' d' d hd, h, Nat.mul_comm d d']

theorem cut_even (neg : Bool) (n drop : Nat) : Toward.even.cut neg n drop = cutE n (2 ^ drop) := by
  unfold Toward.cut cutE
  simp only [Nat.shiftLeft_eq, Nat.one_mul]
  have key : ∀ d, (if 2 ^ d < 2 * (n % 2 ^ d) ∨ (2 ^ d = 2 * (n % 2 ^ d) ∧ n / 2 ^ d % 2 = 1) then 1 else 0) = (decide (2 ^ d < 2 * (n % 2 ^ d)) || (2 ^ d == 2 * (n % 2 ^ d) && n / 2 ^ d % 2 == 1)).toNat := by
    intro d
    by_cases h1 : 2 ^ d < 2 * (n % 2 ^ d)
    · simp [h1]
    · by_cases h2 : 2 ^ d = 2 * (n % 2 ^ d)
      · by_cases h3 : n / 2 ^ d % 2 = 1
        · rw [if_pos (Or.inr ⟨h2, h3⟩)]
          have : (2 ^ d == 2 * (n % 2 ^ d)) = true := by simpa using h2
          simp [this, h3]
        · rw [if_neg (by intro h; rcases h with h | h; exact h1 h; exact h3 h.2)]
          have : n / 2 ^ d % 2 = 0 := by omega
          simp [h1, this]
      · rw [if_neg (by intro h; rcases h with h | h; exact h1 h; exact h2 h.1)]
        have : (2 ^ d == 2 * (n % 2 ^ d)) = false := by simpa using h2
        simp [h1, this]
  rw [← key]
  rcases Nat.le_total drop (n.log2 + 2) with h | h
  · rw [Nat.min_eq_left h]
  · rw [Nat.min_eq_right h]
    have hn : n < 2 ^ (n.log2 + 1) := Nat.lt_log2_self
    have small : ∀ d, n.log2 + 2 ≤ d → 2 * n < 2 ^ d := by
      intro d hd
      have : 2 ^ (n.log2 + 2) ≤ 2 ^ d := Nat.pow_le_pow_right (by omega) hd
      have : 2 ^ (n.log2 + 2) = 2 * 2 ^ (n.log2 + 1) := by rw [Nat.pow_succ, Nat.mul_comm]
      omega
    have zero : ∀ d, n.log2 + 2 ≤ d → n / 2 ^ d + (if 2 ^ d < 2 * (n % 2 ^ d) ∨ (2 ^ d = 2 * (n % 2 ^ d) ∧ n / 2 ^ d % 2 = 1) then 1 else 0) = 0 := by
      intro d hd
      have h1 := small d hd
      have h2 : n < 2 ^ d := by omega
      rw [Nat.div_eq_of_lt h2, Nat.mod_eq_of_lt h2, if_neg (by omega)]
    rw [zero _ (Nat.le_refl _), zero _ h]

theorem log2_mul_pow (m p : Nat) (h : m ≠ 0) : (m * 2 ^ p).log2 = m.log2 + p := by
  have h1 : m * 2 ^ p ≠ 0 := Nat.mul_ne_zero h (Nat.ne_of_gt (Nat.two_pow_pos p))
  rw [Nat.log2_eq_iff h1]
  constructor
  · rw [Nat.pow_add]; exact Nat.mul_le_mul_right _ (Nat.log2_self_le h)
  · have := Nat.mul_lt_mul_of_pos_right (Nat.lt_log2_self (n := m)) (Nat.two_pow_pos p)
    rw [← Nat.pow_add] at this
    rwa [show m.log2 + p + 1 = m.log2 + 1 + p by omega]

theorem log2_div_pow (m d : Nat) : (m / 2 ^ d).log2 = m.log2 - d := by
  by_cases h : m / 2 ^ d = 0
  · rw [h]
    have : m < 2 ^ d := by
      rcases Nat.lt_or_ge m (2 ^ d) with h1 | h1
      · exact h1
      · have := Nat.div_pos h1 (Nat.two_pow_pos d); omega
    by_cases hm : m = 0
    · subst hm; simp
    · have : m.log2 < d := (Nat.log2_lt hm).2 this
      rw [show m.log2 - d = 0 by omega]; simp
  · rw [Nat.log2_eq_iff h]
    have hm : m ≠ 0 := by intro h1; subst h1; simp at h
    have h1 : 2 ^ d ≤ m := by
      rcases Nat.lt_or_ge m (2 ^ d) with h1 | h1
      · exact absurd (Nat.div_eq_of_lt h1) h
      · exact h1
    have h2 : d ≤ m.log2 := (Nat.le_log2 hm).2 h1
    constructor
    · rw [Nat.le_div_iff_mul_le (Nat.two_pow_pos d), ← Nat.pow_add, Nat.sub_add_cancel h2]
      exact Nat.log2_self_le hm
    · rw [Nat.div_lt_iff_lt_mul (Nat.two_pow_pos d), ← Nat.pow_add, show m.log2 - d + 1 + d = m.log2 + 1 by omega]
      exact Nat.lt_log2_self

/-- The model's rounding, of a number mag * 2 ^ place. -/
theorem nearest_rnd (f : Format) (neg : Bool) (mag : Nat) (place : Int) :
    f.nearest neg mag place = f.word neg (min (rnd f (mag * 2 ^ (place - f.leastPlace).toNat) (2 ^ (f.leastPlace - place).toNat)) f.infRung) := by
  unfold Format.nearest
  by_cases hm : mag = 0
  · rw [if_pos hm, hm]
    have : rnd f (0 * 2 ^ (place - f.leastPlace).toNat) (2 ^ (f.leastPlace - place).toNat) = 0 := by
      unfold rnd cutE
      simp
    rw [this, Nat.zero_min]
  · rw [if_neg hm]
    dsimp only
    rw [cut_even, Nat.shiftLeft_eq]
    refine congrArg _ (congrArg (min · _) ?_)
    unfold rnd
    rcases Int.le_total f.leastPlace place with h | h
    · obtain ⟨p, hp⟩ : ∃ p : Nat, place = f.leastPlace + p := ⟨(place - f.leastPlace).toNat, by omega⟩
      subst hp
      rw [show (f.leastPlace - (f.leastPlace + (p : Int))).toNat = 0 by omega, show (f.leastPlace + (p : Int) - f.leastPlace).toNat = p by omega]
      simp only [Nat.pow_zero, Nat.div_one, Nat.one_mul]
      rw [log2_mul_pow _ _ hm]
      have e : (max (f.leastPlace + (p : Int) + (mag.log2 : Int) - (f.fractionBits : Int)) f.leastPlace - f.leastPlace).toNat = mag.log2 + p - f.fractionBits := by omega
      rw [e]
      refine congrArg _ ?_
      generalize hk : mag.log2 + p - f.fractionBits = k at *
      have e1 : (f.leastPlace + (p : Int) - max (f.leastPlace + (p : Int) + (mag.log2 : Int) - (f.fractionBits : Int)) f.leastPlace).toNat = p - k := by omega
      have e2 : (max (f.leastPlace + (p : Int) + (mag.log2 : Int) - (f.fractionBits : Int)) f.leastPlace - (f.leastPlace + (p : Int))).toNat = k - p := by omega
      rw [e1, e2, ← cutE_scale _ (2 ^ (k - p)) (2 ^ (min k p)) (Nat.two_pow_pos _), Nat.mul_assoc, ← Nat.pow_add, ← Nat.pow_add, show p - k + min k p = p by omega, show k - p + min k p = k by omega]
    · obtain ⟨p, hp⟩ : ∃ p : Nat, f.leastPlace = place + p := ⟨(f.leastPlace - place).toNat, by omega⟩
      rw [hp, show (place - (place + (p : Int))).toNat = 0 by omega, show (place + (p : Int) - place).toNat = p by omega]
      simp only [Nat.pow_zero, Nat.mul_one]
      rw [log2_div_pow]
      have e : (max (place + (mag.log2 : Int) - (f.fractionBits : Int)) (place + p) - (place + (p : Int))).toNat = mag.log2 - p - f.fractionBits := by omega
      rw [e]
      refine congrArg _ ?_
      generalize hk : mag.log2 - p - f.fractionBits = k at *
      have e1 : (place - max (place + (mag.log2 : Int) - (f.fractionBits : Int)) (place + (p : Int))).toNat = 0 := by omega
      have e2 : (max (place + (mag.log2 : Int) - (f.fractionBits : Int)) (place + (p : Int)) - place).toNat = p + k := by omega
      rw [e1, e2, Nat.pow_zero, Nat.mul_one, Nat.pow_add]

theorem rnd_V (f : Format) (r : Nat) : rnd f (V f r) 1 = r := by
  have hb := binade_pos f
  have one : ∀ n, cutE n 1 = n := by intro n; unfold cutE; simp [Nat.mod_one]
  unfold rnd
  rw [Nat.div_one, Nat.one_mul]
  unfold V
  by_cases h : r < f.binade
  · rw [if_pos h]
    have : r.log2 - f.fractionBits = 0 := by
      by_cases h0 : r = 0
      · subst h0; simp
      · have : r.log2 < f.fractionBits := (Nat.log2_lt h0).2 h
        omega
    rw [this]; simp [one]
  · rw [if_neg h]
    have hm := Nat.mod_lt r hb
    have hd := Nat.div_add_mod r f.binade
    have hq : 0 < r / f.binade := Nat.div_pos (by omega) hb
    have hl : (f.binade + r % f.binade).log2 = f.fractionBits := by
      rw [Nat.log2_eq_iff (by omega)]
      refine ⟨?_, ?_⟩
      · show f.binade ≤ _; omega
      · rw [Nat.pow_succ]; show _ < f.binade * 2; omega
    rw [log2_mul_pow _ _ (by omega), hl, Nat.add_sub_cancel_left]
    have := cutE_scale (f.binade + r % f.binade) 1 (2 ^ (r / f.binade - 1)) (Nat.two_pow_pos _)
    rw [Nat.one_mul] at this
    rw [this, one]
    obtain ⟨q, hq'⟩ : ∃ q, r / f.binade = q + 1 := ⟨r / f.binade - 1, by omega⟩
    rw [hq', Nat.add_sub_cancel]
    rw [hq', Nat.mul_add, Nat.mul_comm] at hd
    omega
end Flt
end Go.Proofs.YtlemodcppokjhaaGreatDoor

/- Rounding to the nearest: between which rungs, and to which. -/
namespace Go.Proofs.YtlemodcppokjhaaGreatDoor
namespace Flt
set_option linter.unusedVariables false
set_option linter.unusedSimpArgs false
open Ieee

theorem V_at (f : Format) (k c : Nat) (h1 : c < 2 * f.binade) (h2 : k = 0 ∨ f.binade ≤ c) : V f (k * f.binade + c) = c * 2 ^ k ∧ V f (k * f.binade + c + 1) = (c + 1) * 2 ^ k := by
  have hb := binade_pos f
  have main : V f (k * f.binade + c) = c * 2 ^ k ∧ (k * f.binade + c) / f.binade - 1 = k := by
    rcases Nat.lt_or_ge c f.binade with h | h
    · have hk : k = 0 := by omega
      subst hk
      rw [Nat.zero_mul, Nat.zero_add, Nat.div_eq_of_lt h]
      unfold V; rw [if_pos h]; simp
    · obtain ⟨e, he⟩ : ∃ e, c = f.binade + e := ⟨c - f.binade, by omega⟩
      have hlt : e < f.binade := by omega
      have e0 : k * f.binade + c = e + f.binade * (k + 1) := by rw [he, Nat.mul_add, Nat.mul_comm]; omega
      have e1 : (k * f.binade + c) / f.binade = k + 1 := by rw [e0, Nat.add_mul_div_left _ _ hb, Nat.div_eq_of_lt hlt, Nat.zero_add]
      have e2 : (k * f.binade + c) % f.binade = e := by rw [e0, Nat.add_mul_mod_self_left, Nat.mod_eq_of_lt hlt]
      have e3 : ¬ (k * f.binade + c < f.binade) := by omega
      unfold V
      rw [if_neg e3, e1, e2, he]
      simp
  refine ⟨main.1, ?_⟩
  rw [V_step, main.1, main.2, Nat.add_mul, Nat.one_mul]

theorem rnd_spec (f : Format) (hf : 1 ≤ f.fractionBits) (n d : Nat) (hd : 0 < d) :
    ∃ r, V f r * d ≤ n ∧ n < V f (r + 1) * d ∧ rnd f n d = r + (if (V f r + V f (r + 1)) * d < 2 * n ∨ ((V f r + V f (r + 1)) * d = 2 * n ∧ r % 2 = 1) then 1 else 0) := by
  have hb := binade_pos f
  unfold rnd
  generalize hk : (n / d).log2 - f.fractionBits = k
  have hc : n / (d * 2 ^ k) < 2 * f.binade ∧ (k = 0 ∨ f.binade ≤ n / (d * 2 ^ k)) := by
    rw [← Nat.div_div_eq_div_mul]
    by_cases h0 : n / d = 0
    · rw [h0] at hk ⊢
      simp at hk ⊢
      omega
    · have l1 := Nat.log2_self_le h0
      have l2 := Nat.lt_log2_self (n := n / d)
      by_cases hk0 : k = 0
      · subst hk0
        rw [Nat.pow_zero, Nat.div_one]
        refine ⟨?_, Or.inl rfl⟩
        have : 2 ^ ((n / d).log2 + 1) ≤ 2 ^ (f.fractionBits + 1) := Nat.pow_le_pow_right (by omega) (by omega)
        have : 2 ^ (f.fractionBits + 1) = 2 * f.binade := by rw [Nat.pow_succ, Nat.mul_comm]; rfl
        omega
      · have el : (n / d).log2 = f.fractionBits + k := by omega
        rw [el] at l1 l2
        constructor
        · rw [Nat.div_lt_iff_lt_mul (Nat.two_pow_pos k)]
          rw [show f.fractionBits + k + 1 = 1 + f.fractionBits + k by omega, Nat.pow_add, Nat.pow_add] at l2
          exact l2
        · right
          rw [Nat.le_div_iff_mul_le (Nat.two_pow_pos k)]
          rw [Nat.pow_add] at l1
          exact l1
  obtain ⟨v1, v2⟩ := V_at f k _ hc.1 hc.2
  refine ⟨k * f.binade + n / (d * 2 ^ k), ?_, ?_, ?_⟩
  · rw [v1, Nat.mul_assoc, Nat.mul_comm (2 ^ k) d]; exact Nat.div_mul_le_self ..
  · rw [v2, Nat.mul_assoc, Nat.mul_comm (2 ^ k) d, Nat.mul_comm]
    exact Nat.lt_mul_div_succ n (Nat.mul_pos hd (Nat.two_pow_pos k))
  · rw [v1, v2]
    unfold cutE
    rw [← Nat.add_assoc]
    refine congrArg _ ?_
    have hU : 0 < d * 2 ^ k := Nat.mul_pos hd (Nat.two_pow_pos k)
    have e1 : (n / (d * 2 ^ k) * 2 ^ k + (n / (d * 2 ^ k) + 1) * 2 ^ k) * d = 2 * (d * 2 ^ k * (n / (d * 2 ^ k))) + d * 2 ^ k := by
      generalize n / (d * 2 ^ k) = c
      rw [Nat.add_mul c, Nat.one_mul, Nat.add_mul, Nat.add_mul, Nat.mul_assoc c, Nat.mul_comm (2 ^ k) d, Nat.mul_comm c]
      omega
    have hdm := Nat.div_add_mod n (d * 2 ^ k)
    rw [e1]
    have ep : (k * f.binade + n / (d * 2 ^ k)) % 2 = n / (d * 2 ^ k) % 2 := by
      obtain ⟨x, hx⟩ : ∃ x, f.fractionBits = x + 1 := ⟨f.fractionBits - 1, by omega⟩
      have : f.binade = 2 * 2 ^ x := by unfold Format.binade; rw [hx, Nat.pow_succ, Nat.mul_comm]
      rw [this, Nat.mul_left_comm, Nat.mul_add_mod]
    rw [ep]
    generalize d * 2 ^ k * (n / (d * 2 ^ k)) = t at *
    generalize n / (d * 2 ^ k) = c at *
    generalize n % (d * 2 ^ k) = s at *
    generalize d * 2 ^ k = U at *
    by_cases h : U < 2 * s ∨ U = 2 * s ∧ c % 2 = 1
    · rw [if_pos h, if_pos (by omega)]
    · rw [if_neg h, if_neg (by omega)]
end Flt
end Go.Proofs.YtlemodcppokjhaaGreatDoor

namespace Go.Proofs.YtlemodcppokjhaaGreatDoor
open Go.RowKit
set_option linter.unusedVariables false
set_option linter.unusedSimpArgs false

theorem fhide {p : Prop} (h : p) : Hid p := h

/-- Four results. -/
theorem four_results {fn : Func} {a b c d : Tmp} (h : fn.results = #[.tmp a, .tmp b, .tmp c, .tmp d]) (tmps : Array Value) (P : Program) (w : World) :
    (results fn tmps).run P w = .ok (.tuple #[tmps.getD a undef, tmps.getD b undef, tmps.getD c undef, tmps.getD d undef]) w := by
  simp [results, h]

theorem is_struct {o p : Option TypeDesc} (e : p = o) (h : (match o with | some (.struct _) => true | _ => false) = true) : ∃ fs, p = some (.struct fs) := by
  subst e
  cases p with
  | none => simp at h
  | some d => cases d <;> first | exact ⟨_, rfl⟩ | simp at h

theorem n_and_lo (n r : Nat) (h : r < 2 ^ n) : r &&& 2 ^ n = 0 := by
  refine Nat.eq_of_testBit_eq fun i => ?_
  rw [Nat.testBit_and, Nat.testBit_two_pow, Nat.zero_testBit]
  by_cases hi : n = i
  · subst hi; rw [Nat.testBit_lt_two_pow h]; simp
  · simp [hi]
theorem n_and_hi (n r : Nat) (h : r < 2 ^ n) : (2 ^ n + r) &&& 2 ^ n = 2 ^ n := by
  refine Nat.eq_of_testBit_eq fun i => ?_
  rw [Nat.testBit_and, Nat.testBit_two_pow]
  by_cases hi : n = i
  · subst hi; rw [Nat.testBit_two_pow_add_eq, Nat.testBit_lt_two_pow h]; simp
  · simp [hi]
theorem n_or_lo (n r : Nat) (h : r < 2 ^ n) : r ||| 2 ^ n = 2 ^ n + r := by
  have := Nat.two_pow_add_eq_or_of_lt h 1
  rw [Nat.mul_one] at this
  rw [this, Nat.or_comm]
theorem n_xor_lo (n r : Nat) (h : r < 2 ^ n) : r ^^^ 2 ^ n = 2 ^ n + r := by
  rw [← n_or_lo n r h]
  refine Nat.eq_of_testBit_eq fun i => ?_
  rw [Nat.testBit_xor, Nat.testBit_or, Nat.testBit_two_pow]
  by_cases hi : n = i
  · subst hi; rw [Nat.testBit_lt_two_pow h]; simp
  · simp [hi]
theorem n_xor_hi (n r : Nat) (h : r < 2 ^ n) : (2 ^ n + r) ^^^ 2 ^ n = r := by
  rw [← n_xor_lo n r h, Nat.xor_assoc, Nat.xor_self, Nat.xor_zero]
theorem n_not (n a : Nat) (h : a < 2 ^ n) : (2 ^ n - 1) ^^^ a = 2 ^ n - 1 - a := by
  refine Nat.eq_of_testBit_eq fun i => ?_
  rw [show 2 ^ n - 1 - a = 2 ^ n - (a + 1) by omega, Nat.testBit_two_pow_sub_succ h, Nat.testBit_xor, Nat.testBit_two_pow_sub_one]
  by_cases hi : i < n
  · simp [hi]
  · have : a.testBit i = false := Nat.testBit_lt_two_pow (Nat.lt_of_lt_of_le h (Nat.pow_le_pow_right (by omega) (by omega)))
    simp [hi, this]
theorem n_mask (a f e : Nat) : a &&& ((2 ^ e - 1) * 2 ^ f) = a / 2 ^ f % 2 ^ e * 2 ^ f := by
  rw [← Nat.and_two_pow_sub_one_eq_mod, ← Nat.shiftLeft_eq, ← Nat.shiftLeft_eq, ← Nat.shiftRight_eq_div_pow]
  refine Nat.eq_of_testBit_eq fun i => ?_
  rw [Nat.testBit_and, Nat.testBit_shiftLeft, Nat.testBit_shiftLeft, Nat.testBit_and, Nat.testBit_shiftRight]
  by_cases hi : f ≤ i
  · rw [Nat.add_sub_cancel' hi]; simp [hi]
  · simp [hi]

theorem b64_and_lo (r : Nat) (h : r < 9223372036854775808) : bits BinOp.and IntKind.u64 (r : Int) 9223372036854775808 = 0 := by
  have := u64_and_nat r 9223372036854775808 (by omega) (by omega)
  rw [show r &&& 9223372036854775808 = 0 from n_and_lo 63 r h] at this; exact this
theorem b64_and_hi (b : Nat) (h : 9223372036854775808 ≤ b) (hb : b < 18446744073709551616) : bits BinOp.and IntKind.u64 (b : Int) 9223372036854775808 = 9223372036854775808 := by
  obtain ⟨r, rfl⟩ : ∃ r, b = 9223372036854775808 + r := ⟨b - 9223372036854775808, by omega⟩
  have := u64_and_nat (9223372036854775808 + r) 9223372036854775808 hb (by omega)
  rw [show (9223372036854775808 + r) &&& 9223372036854775808 = 9223372036854775808 from n_and_hi 63 r (show r < 9223372036854775808 by omega)] at this; exact this
theorem b64_or_lo (r : Nat) (h : r < 9223372036854775808) : bits BinOp.or IntKind.u64 (r : Int) 9223372036854775808 = ((9223372036854775808 + r : Nat) : Int) := by
  have := u64_or_nat r 9223372036854775808 (by omega) (by omega)
  rw [show r ||| 9223372036854775808 = 9223372036854775808 + r from n_or_lo 63 r h] at this; exact this
theorem b64_xor_lo (r : Nat) (h : r < 9223372036854775808) : bits BinOp.xor IntKind.u64 (r : Int) 9223372036854775808 = ((9223372036854775808 + r : Nat) : Int) := by
  have := u64_xor_nat r 9223372036854775808 (by omega) (by omega)
  rw [show r ^^^ 9223372036854775808 = 9223372036854775808 + r from n_xor_lo 63 r h] at this; exact this
theorem b64_xor_hi (b : Nat) (h : 9223372036854775808 ≤ b) (hb : b < 18446744073709551616) : bits BinOp.xor IntKind.u64 (b : Int) 9223372036854775808 = ((b - 9223372036854775808 : Nat) : Int) := by
  obtain ⟨r, rfl⟩ : ∃ r, b = 9223372036854775808 + r := ⟨b - 9223372036854775808, by omega⟩
  have := u64_xor_nat (9223372036854775808 + r) 9223372036854775808 hb (by omega)
  rw [show (9223372036854775808 + r) ^^^ 9223372036854775808 = r from n_xor_hi 63 r (show r < 9223372036854775808 by omega)] at this
  rw [Nat.add_sub_cancel_left]; exact this
theorem b64_not (b : Nat) (hb : b < 18446744073709551616) : bits BinOp.xor IntKind.u64 IntKind.u64.max (b : Int) = ((18446744073709551615 - b : Nat) : Int) := by
  have := u64_xor_nat 18446744073709551615 b (by omega) hb
  rw [show 18446744073709551615 ^^^ b = 18446744073709551615 - b from n_not 64 b hb] at this; exact this
theorem b64_abs (b : Nat) (hb : b < 18446744073709551616) : bits BinOp.andNot IntKind.u64 (b : Int) 9223372036854775808 = ((b % 9223372036854775808 : Nat) : Int) := by
  have := u64_andNot_nat b 9223372036854775808 hb (by omega)
  rw [show b &&& (18446744073709551615 - 9223372036854775808) = b % 9223372036854775808 from Nat.and_two_pow_sub_one_eq_mod b 63] at this; exact this
theorem b64_frac (b : Nat) (hb : b < 18446744073709551616) : bits BinOp.andNot IntKind.u64 (b : Int) 18442240474082181120 = ((b % 4503599627370496 : Nat) : Int) := by
  have := u64_andNot_nat b 18442240474082181120 hb (by omega)
  rw [show b &&& (18446744073709551615 - 18442240474082181120) = b % 4503599627370496 from Nat.and_two_pow_sub_one_eq_mod b 52] at this; exact this
theorem b64_field (b : Nat) (hb : b < 18446744073709551616) : bits BinOp.and IntKind.u64 (b : Int) 9218868437227405312 = ((b / 4503599627370496 % (2047 + 1) * 4503599627370496 : Nat) : Int) := by
  have := u64_and_nat b 9218868437227405312 hb (by omega)
  rw [show b &&& 9218868437227405312 = b / 4503599627370496 % (2047 + 1) * 4503599627370496 from n_mask b 52 11] at this; exact this
theorem b64_q_lo (r : Nat) (h : r < 2251799813685248) : bits BinOp.and IntKind.u64 (r : Int) 2251799813685248 = 0 := by
  have := u64_and_nat r 2251799813685248 (by omega) (by omega)
  rw [show r &&& 2251799813685248 = 0 from n_and_lo 51 r h] at this; exact this
theorem b64_q_hi (b : Nat) (h : 2251799813685248 ≤ b) (hb : b < 4503599627370496) : bits BinOp.and IntKind.u64 (b : Int) 2251799813685248 = 2251799813685248 := by
  obtain ⟨r, rfl⟩ : ∃ r, b = 2251799813685248 + r := ⟨b - 2251799813685248, by omega⟩
  have := u64_and_nat (2251799813685248 + r) 2251799813685248 (by omega) (by omega)
  rw [show (2251799813685248 + r) &&& 2251799813685248 = 2251799813685248 from n_and_hi 51 r (show r < 2251799813685248 by omega)] at this; exact this
theorem b64_sf : bits BinOp.or IntKind.u64 9223372036854775808 9218868437227405312 = 18442240474082181120 := by decide +kernel
theorem b64_fq : bits BinOp.or IntKind.u64 9218868437227405312 2251799813685248 = 9221120237041090560 := by decide +kernel
theorem b64_ones : bits BinOp.xor IntKind.u64 IntKind.u64.max 0 = 18446744073709551615 := by decide +kernel
theorem b64_top : bits BinOp.xor IntKind.u64 IntKind.u64.max 9223372036854775807 = 9223372036854775808 := by decide +kernel

theorem wide64_any (w : World) : Calls Tryz.prog 174 #[] w fun e w' => e = .returned (.bool true) ∧ w' = w := by
  have hx := b64_ones
  go_enter Tryz.func174, Tryz.ntmps174
  go_wp2_with (simp only [hx])
  go_ret
  exact ⟨rfl, rfl⟩

/-- The layout of 64 bits. -/
def lay64 : Value := .agg #[.int .u64 9223372036854775808, .int .u64 9218868437227405312, .int .u64 2251799813685248]

set_option maxRecDepth 100000 in
theorem layoutOf64_any (w : World) : Calls Tryz.prog 172 #[] w fun e w' => e = .returned lay64 ∧ Below w.heap.size w w' := by
  have hx := b64_ones
  have hy := b64_top
  go_enter Tryz.func172, Tryz.ntmps172
  go_wp2_with fail
  refine (wide64_any _).mono ?_
  rintro e w1 ⟨rfl, rfl⟩
  go_wp2_with (simp only [hx])
  go_region
  go_wp2_with fail
  obtain ⟨fs, hu⟩ := is_struct (show Tryz.prog.underlying 199 = Tryz.prog.underlying 199 from rfl) (by kernel_rfl)
  refine bodyPost_ret (results_cell_row rfl _ _ w.heap.size _ _ (0, 0) (.struct fs) rfl (heap_alloc_new w _) hu rfl (by kernel_rfl)) rfl ?_
  exact ⟨rfl, ((Below.refl _ w).alloc (Nat.le_refl _) _).drew⟩


theorem theNaN64_any (w : World) : Calls Tryz.prog 173 #[lay64] w fun e w' => e = .returned (.int .u64 9221120237041090560) ∧ Below w.heap.size w w' := by
  have hx := b64_fq
  unfold lay64
  go_enter Tryz.func173, Tryz.ntmps173
  go_wp2_with (simp only [hx])
  go_ret
  exact ⟨rfl, (Below.refl _ w).alloc (Nat.le_refl _) _⟩

theorem b32_and_lo (r : Nat) (h : r < 2147483648) : bits BinOp.and IntKind.u32 (r : Int) 2147483648 = 0 := by
  have := u32_and_nat r 2147483648 (by omega) (by omega)
  rw [show r &&& 2147483648 = 0 from n_and_lo 31 r h] at this; exact this
theorem b32_and_hi (b : Nat) (h : 2147483648 ≤ b) (hb : b < 4294967296) : bits BinOp.and IntKind.u32 (b : Int) 2147483648 = 2147483648 := by
  obtain ⟨r, rfl⟩ : ∃ r, b = 2147483648 + r := ⟨b - 2147483648, by omega⟩
  have := u32_and_nat (2147483648 + r) 2147483648 hb (by omega)
  rw [show (2147483648 + r) &&& 2147483648 = 2147483648 from n_and_hi 31 r (show r < 2147483648 by omega)] at this; exact this
theorem b32_or_lo (r : Nat) (h : r < 2147483648) : bits BinOp.or IntKind.u32 (r : Int) 2147483648 = ((2147483648 + r : Nat) : Int) := by
  have := u32_or_nat r 2147483648 (by omega) (by omega)
  rw [show r ||| 2147483648 = 2147483648 + r from n_or_lo 31 r h] at this; exact this
theorem b32_xor_lo (r : Nat) (h : r < 2147483648) : bits BinOp.xor IntKind.u32 (r : Int) 2147483648 = ((2147483648 + r : Nat) : Int) := by
  have := u32_xor_nat r 2147483648 (by omega) (by omega)
  rw [show r ^^^ 2147483648 = 2147483648 + r from n_xor_lo 31 r h] at this; exact this
theorem b32_xor_hi (b : Nat) (h : 2147483648 ≤ b) (hb : b < 4294967296) : bits BinOp.xor IntKind.u32 (b : Int) 2147483648 = ((b - 2147483648 : Nat) : Int) := by
  obtain ⟨r, rfl⟩ : ∃ r, b = 2147483648 + r := ⟨b - 2147483648, by omega⟩
  have := u32_xor_nat (2147483648 + r) 2147483648 hb (by omega)
  rw [show (2147483648 + r) ^^^ 2147483648 = r from n_xor_hi 31 r (show r < 2147483648 by omega)] at this
  rw [Nat.add_sub_cancel_left]; exact this
theorem b32_not (b : Nat) (hb : b < 4294967296) : bits BinOp.xor IntKind.u32 IntKind.u32.max (b : Int) = ((4294967295 - b : Nat) : Int) := by
  have := u32_xor_nat 4294967295 b (by omega) hb
  rw [show 4294967295 ^^^ b = 4294967295 - b from n_not 32 b hb] at this; exact this
theorem b32_abs (b : Nat) (hb : b < 4294967296) : bits BinOp.andNot IntKind.u32 (b : Int) 2147483648 = ((b % 2147483648 : Nat) : Int) := by
  have := u32_andNot_nat b 2147483648 hb (by omega)
  rw [show b &&& (4294967295 - 2147483648) = b % 2147483648 from Nat.and_two_pow_sub_one_eq_mod b 31] at this; exact this
theorem b32_frac (b : Nat) (hb : b < 4294967296) : bits BinOp.andNot IntKind.u32 (b : Int) 4286578688 = ((b % 8388608 : Nat) : Int) := by
  have := u32_andNot_nat b 4286578688 hb (by omega)
  rw [show b &&& (4294967295 - 4286578688) = b % 8388608 from Nat.and_two_pow_sub_one_eq_mod b 23] at this; exact this
theorem b32_field (b : Nat) (hb : b < 4294967296) : bits BinOp.and IntKind.u32 (b : Int) 2139095040 = ((b / 8388608 % (255 + 1) * 8388608 : Nat) : Int) := by
  have := u32_and_nat b 2139095040 hb (by omega)
  rw [show b &&& 2139095040 = b / 8388608 % (255 + 1) * 8388608 from n_mask b 23 8] at this; exact this
theorem b32_q_lo (r : Nat) (h : r < 4194304) : bits BinOp.and IntKind.u32 (r : Int) 4194304 = 0 := by
  have := u32_and_nat r 4194304 (by omega) (by omega)
  rw [show r &&& 4194304 = 0 from n_and_lo 22 r h] at this; exact this
theorem b32_q_hi (b : Nat) (h : 4194304 ≤ b) (hb : b < 8388608) : bits BinOp.and IntKind.u32 (b : Int) 4194304 = 4194304 := by
  obtain ⟨r, rfl⟩ : ∃ r, b = 4194304 + r := ⟨b - 4194304, by omega⟩
  have := u32_and_nat (4194304 + r) 4194304 (by omega) (by omega)
  rw [show (4194304 + r) &&& 4194304 = 4194304 from n_and_hi 22 r (show r < 4194304 by omega)] at this; exact this
theorem b32_sf : bits BinOp.or IntKind.u32 2147483648 2139095040 = 4286578688 := by decide +kernel
theorem b32_fq : bits BinOp.or IntKind.u32 2139095040 4194304 = 2143289344 := by decide +kernel
theorem b32_ones : bits BinOp.xor IntKind.u32 IntKind.u32.max 0 = 4294967295 := by decide +kernel
theorem b32_top : bits BinOp.xor IntKind.u32 IntKind.u32.max 2147483647 = 2147483648 := by decide +kernel

theorem wide32_any (w : World) : Calls Tryz.prog 185 #[] w fun e w' => e = .returned (.bool false) ∧ w' = w := by
  have hx := b32_ones
  go_enter Tryz.func185, Tryz.ntmps185
  go_wp2_with (simp only [hx])
  go_ret
  exact ⟨rfl, rfl⟩

/-- The layout of 32 bits. -/
def lay32 : Value := .agg #[.int .u32 2147483648, .int .u32 2139095040, .int .u32 4194304]

set_option maxRecDepth 100000 in
theorem layoutOf32_any (w : World) : Calls Tryz.prog 183 #[] w fun e w' => e = .returned lay32 ∧ Below w.heap.size w w' := by
  have hx := b32_ones
  have hy := b32_top
  go_enter Tryz.func183, Tryz.ntmps183
  go_wp2_with fail
  refine (wide32_any _).mono ?_
  rintro e w1 ⟨rfl, rfl⟩
  go_wp2_with (simp only [hx])
  go_region
  go_wp2_with fail
  obtain ⟨fs, hu⟩ := is_struct (show Tryz.prog.underlying 207 = Tryz.prog.underlying 207 from rfl) (by kernel_rfl)
  refine bodyPost_ret (results_cell_row rfl _ _ w.heap.size _ _ (0, 0) (.struct fs) rfl (heap_alloc_new w _) hu rfl (by kernel_rfl)) rfl ?_
  exact ⟨rfl, ((Below.refl _ w).alloc (Nat.le_refl _) _).drew⟩

theorem isNaN32_any (b : Nat) (w : World) (hb : b < 4294967296) : Calls Tryz.prog 191 #[lay32, .int .u32 b] w fun e w' => e = .returned (.bool (decide (2139095040 < b % 2147483648))) ∧ Below w.heap.size w w' := by
  have hx := b32_abs b hb
  obtain ⟨r, hr, hrl⟩ : ∃ r, b % 2147483648 = r ∧ r < 2147483648 := ⟨_, rfl, Nat.mod_lt _ (by omega)⟩
  rw [hr] at hx ⊢
  clear hr
  unfold lay32
  go_enter Tryz.func191, Tryz.ntmps191
  go_wp2_with (simp only [hx])
  go_ret
  refine ⟨?_, (Below.refl _ w).alloc (Nat.le_refl _) _⟩
  show Ending.returned (.bool (decide ((2139095040 : Int) < (r : Int)))) = _
  rw [show decide ((2139095040 : Int) < (r : Int)) = decide (2139095040 < r) by rw [decide_eq_decide]; omega]

theorem theNaN32_any (w : World) : Calls Tryz.prog 184 #[lay32] w fun e w' => e = .returned (.int .u32 2143289344) ∧ Below w.heap.size w w' := by
  have hx := b32_fq
  unfold lay32
  go_enter Tryz.func184, Tryz.ntmps184
  go_wp2_with (simp only [hx])
  go_ret
  exact ⟨rfl, (Below.refl _ w).alloc (Nat.le_refl _) _⟩

end Go.Proofs.YtlemodcppokjhaaGreatDoor

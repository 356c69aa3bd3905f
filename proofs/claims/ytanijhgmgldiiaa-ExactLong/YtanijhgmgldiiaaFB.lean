/- What a word stands for, and how two words stand to each other. -/
import Derived.Test.YtanijhgmgldiiaaFA
namespace Go.Proofs.Ytanijhgmgldiiaa
namespace Flt
set_option linter.unusedVariables false
set_option linter.unusedSimpArgs false
open Ieee

/-- A word's rung and its sign. -/
def rg (f : Format) (w : Nat) : Nat := w % f.signWeight
def sg (f : Format) (w : Nat) : Bool := w / f.signWeight % 2 == 1
/-- A number's worth, in units of the least place (of an infinity: that of the rung above the greatest). -/
def sv (f : Format) (w : Nat) : Int := if sg f w then -(V f (rg f w) : Nat) else (V f (rg f w) : Nat)

theorem signWeight_pos (f : Format) : 0 < f.signWeight := Nat.two_pow_pos _

theorem rg_lt (f : Format) (w : Nat) : rg f w < f.signWeight := Nat.mod_lt _ (signWeight_pos f)

theorem read_fin (f : Format) (w : Nat) (h : rg f w < f.infRung) :
    ∃ m k : Nat, f.read w = .number (sg f w) m (f.leastPlace + k) ∧ m * 2 ^ k = V f (rg f w) ∧ m < 2 * f.binade ∧ (k = 0 ∨ f.binade ≤ m) := by
  have hb := binade_pos f
  unfold Format.read
  dsimp only
  rw [show w % f.signWeight = rg f w from rfl, show (w / f.signWeight % 2 == 1) = sg f w from rfl]
  by_cases h1 : rg f w < f.binade
  · refine ⟨rg f w, 0, ?_, ?_, by omega, Or.inl rfl⟩
    · rw [if_pos h1]; simp
    · unfold V; rw [if_pos h1]; simp
  · have hm := Nat.mod_lt (rg f w) hb
    refine ⟨f.binade + rg f w % f.binade, rg f w / f.binade - 1, ?_, ?_, by omega, Or.inr (by omega)⟩
    · rw [if_neg h1, if_pos h]
    · unfold V; rw [if_neg h1]

theorem read_inf (f : Format) (w : Nat) (hi : f.binade ≤ f.infRung) (h : rg f w = f.infRung) : f.read w = .infinity (sg f w) := by
  unfold Format.read
  dsimp only
  rw [show w % f.signWeight = rg f w from rfl, show (w / f.signWeight % 2 == 1) = sg f w from rfl, if_neg (by omega), if_neg (by omega), if_pos h]

theorem read_nan (f : Format) (w : Nat) (hi : f.binade ≤ f.infRung) (h : f.infRung < rg f w) : f.read w = .nan (sg f w) (rg f w - f.infRung) := by
  unfold Format.read
  dsimp only
  rw [show w % f.signWeight = rg f w from rfl, show (w / f.signWeight % 2 == 1) = sg f w from rfl, if_neg (by omega), if_neg (by omega), if_neg (by omega)]

theorem cmp_lt {a b : Int} (h : a < b) : compare a b = .lt := by
  show compareOfLessAndEq a b = _
  unfold compareOfLessAndEq; rw [if_pos h]
theorem cmp_gt {a b : Int} (h : b < a) : compare a b = .gt := by
  show compareOfLessAndEq a b = _
  unfold compareOfLessAndEq; rw [if_neg (by omega), if_neg (by omega)]
theorem cmp_eq (a : Int) : compare a a = .eq := by
  show compareOfLessAndEq a a = _
  unfold compareOfLessAndEq; rw [if_neg (by omega), if_pos rfl]

theorem cmp_scale (a b c : Int) (h : 0 < c) : compare (a * c) (b * c) = compare a b := by
  rcases Int.lt_trichotomy a b with h1 | h1 | h1
  · rw [cmp_lt h1, cmp_lt (Int.mul_lt_mul_of_pos_right h1 h)]
  · subst h1; rw [cmp_eq, cmp_eq]
  · rw [cmp_gt h1, cmp_gt (Int.mul_lt_mul_of_pos_right h1 h)]

theorem signed_scale (s : Bool) (m i j : Nat) : signed s m i * (2 ^ j : Nat) = signed s (m * 2 ^ (i + j)) 0 := by
  unfold signed
  simp only [Nat.shiftLeft_eq, Nat.pow_zero, Nat.mul_one]
  have e : m * 2 ^ (i + j) = m * 2 ^ i * 2 ^ j := by rw [Nat.pow_add, Nat.mul_assoc]
  rw [e]
  cases s <;> simp [Int.neg_mul]

theorem infRung_ge (f : Format) (h : 1 ≤ f.exponentBits) : f.binade ≤ f.infRung := by
  unfold Format.infRung
  have : 2 ^ 1 ≤ 2 ^ f.exponentBits := Nat.pow_le_pow_right (by omega) h
  exact Nat.le_mul_of_pos_left _ (by omega)

theorem sv_signed (f : Format) (w : Nat) : sv f w = signed (sg f w) (V f (rg f w)) 0 := by
  unfold sv signed; simp

/-- How two words that are no NaNs stand to each other. -/
theorem order_all (f : Format) (he : 1 ≤ f.exponentBits) (a b : Nat) (ha : rg f a ≤ f.infRung) (hb : rg f b ≤ f.infRung) :
    f.order a b = some (compare (sv f a) (sv f b)) := by
  have hi := infRung_ge f he
  have hp := binade_pos f
  have hinf : 0 < f.infRung := by omega
  have hV : ∀ r, r < f.infRung → V f r < V f f.infRung := fun r h => V_lt h
  have h0 : 0 < V f f.infRung := by have := V_lt (f := f) hinf; omega
  unfold Format.order
  rcases Nat.lt_or_ge (rg f a) f.infRung with h1 | h1
  · obtain ⟨m, k, e1, e2, _⟩ := read_fin f a h1
    rcases Nat.lt_or_ge (rg f b) f.infRung with h2 | h2
    · obtain ⟨n, l, e3, e4, _⟩ := read_fin f b h2
      rw [e1, e3]
      simp only [Datum.order]
      have hk : (f.leastPlace + (k : Int) - min (f.leastPlace + (k : Int)) (f.leastPlace + (l : Int))).toNat = k - min k l := by omega
      have hl : (f.leastPlace + (l : Int) - min (f.leastPlace + (k : Int)) (f.leastPlace + (l : Int))).toNat = l - min k l := by omega
      rw [hk, hl, sv_signed, sv_signed, ← e2, ← e4]
      have hc : (0 : Int) < ((2 ^ (min k l) : Nat) : Int) := by exact_mod_cast Nat.two_pow_pos _
      rw [← cmp_scale _ _ _ hc, signed_scale, signed_scale, Nat.sub_add_cancel (Nat.min_le_left ..), Nat.sub_add_cancel (Nat.min_le_right ..)]
    · have h3 : rg f b = f.infRung := by omega
      rw [e1, read_inf f b hi h3]
      simp only [Datum.order]
      have := hV _ h1
      unfold sv; rw [h3]
      cases sg f b <;> cases sg f a <;> simp only [Bool.false_eq_true, if_false, if_true, reduceIte]
      · rw [cmp_lt (by omega)]
      · rw [cmp_lt (by omega)]
      · rw [cmp_gt (by omega)]
      · rw [cmp_gt (by omega)]
  · have h3 : rg f a = f.infRung := by omega
    rcases Nat.lt_or_ge (rg f b) f.infRung with h2 | h2
    · obtain ⟨n, l, e3, e4, _⟩ := read_fin f b h2
      rw [e3, read_inf f a hi h3]
      simp only [Datum.order]
      have := hV _ h2
      unfold sv; rw [h3]
      cases sg f b <;> cases sg f a <;> simp only [Bool.false_eq_true, if_false, if_true, reduceIte]
      · rw [cmp_gt (by omega)]
      · rw [cmp_lt (by omega)]
      · rw [cmp_gt (by omega)]
      · rw [cmp_lt (by omega)]
    · have h4 : rg f b = f.infRung := by omega
      rw [read_inf f a hi h3, read_inf f b hi h4]
      simp only [Datum.order]
      unfold sv; rw [h3, h4]
      cases sg f b <;> cases sg f a <;> simp only [Bool.false_eq_true, if_false, if_true, reduceIte]
      · rw [cmp_eq]; rfl
      · rw [cmp_lt (by omega)]; rfl
      · rw [cmp_gt (by omega)]; rfl
      · rw [cmp_eq]; rfl

theorem order_nan (f : Format) (he : 1 ≤ f.exponentBits) (a b : Nat) (h : f.infRung < rg f a ∨ f.infRung < rg f b) : f.order a b = none := by
  have hi := infRung_ge f he
  unfold Format.order
  rcases h with h | h
  · rw [read_nan f a hi h]; rfl
  · rw [read_nan f b hi h]
    cases f.read a <;> rfl

end Flt
end Go.Proofs.Ytanijhgmgldiiaa

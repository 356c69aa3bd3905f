/- What a sum and a product have lost: of words. -/
import Derived.Test.YtmkploknoohliaaRL
namespace Go.Proofs.Ytmkploknoohliaa
namespace Flt
set_option linter.unusedVariables false
set_option linter.unusedSimpArgs false
open Ieee

theorem sv_in (f : Format) (a : Nat) : InF f (sv f a) := by
  refine InF_V f _ (rg f a) ?_
  unfold sv; split <;> omega

theorem sv_abs (f : Format) (a : Nat) : (sv f a).natAbs = V f (rg f a) := by
  unfold sv; split <;> omega

theorem sv_word (f : Format) (s : Bool) (r : Nat) (h : r < f.signWeight) : sv f (f.word s r) = if s then -((V f r : Nat) : Int) else ((V f r : Nat) : Int) := by
  unfold sv; rw [rg_word f s r h, sg_word f s r h]

theorem inf_lt (f : Format) (r : Nat) : r < f.infRung ↔ V f r < V f f.infRung := V_lt_iff.symm

/-- A word of the nearest number. -/
theorem near_word (f : Format) (z : Int) (s : Bool) (hs : z ≠ 0 → s = decide (z < 0)) : ∃ y, f.word s (min (rnd f z.natAbs 1) f.infRung) = y ∧ y < 2 * f.signWeight ∧ rg f y ≤ f.infRung ∧ (rg f y < f.infRung → sv f y = R f z) ∧ (InF f z → z.natAbs < V f f.infRung → rg f y < f.infRung) ∧ sg f y = s := by
  have hi : min (rnd f z.natAbs 1) f.infRung < f.signWeight := Nat.lt_of_le_of_lt (Nat.min_le_right ..) f.infRung_lt
  refine ⟨_, rfl, ?_, ?_, ?_, ?_, sg_word f s _ hi⟩
  · unfold Format.word; cases s <;> simp only [Bool.false_eq_true, if_false, if_true] <;> omega
  · rw [rg_word f s _ hi]; exact Nat.min_le_right ..
  · rw [rg_word f s _ hi]
    intro h
    have h2 : rnd f z.natAbs 1 < f.infRung := by
      rcases Nat.lt_or_ge (rnd f z.natAbs 1) f.infRung with h3 | h3
      · exact h3
      · rw [Nat.min_eq_right h3] at h; omega
    rw [Nat.min_eq_left (Nat.le_of_lt h2)] at hi ⊢
    rw [sv_word f s _ hi]
    unfold R
    by_cases h0 : z = 0
    · subst h0
      have e0 : V f (rnd f (0 : Int).natAbs 1) = 0 := by
        show V f (rnd f 0 1) = 0
        rw [rnd_zero, V_zero]
      rw [e0]; cases s <;> simp
    · rw [hs h0]
      by_cases h3 : z < 0
      · rw [decide_eq_true h3, if_pos h3]; rfl
      · rw [decide_eq_false h3, if_neg h3]; rfl
  · intro h1 h2
    rw [rg_word f s _ hi]
    obtain ⟨r, hr⟩ := InF_rung f z h1
    rw [← hr, rnd_V]
    rw [← hr, ← inf_lt] at h2
    rw [Nat.min_eq_left (Nat.le_of_lt h2)]; exact h2

theorem sgn2_of (s t : Bool) (z : Int) (h : z ≠ 0) : sgn2 s t z = decide (z < 0) := by unfold sgn2; rw [if_neg h]

theorem add_fin (f : Format) (a b : Nat) (ha : rg f a < f.infRung) (hb : rg f b < f.infRung) : ∃ y, f.add a b = some y ∧ y < 2 * f.signWeight ∧ rg f y ≤ f.infRung ∧ (rg f y < f.infRung → sv f y = R f (sv f a + sv f b)) ∧ (InF f (sv f a + sv f b) → (sv f a + sv f b).natAbs < V f f.infRung → rg f y < f.infRung) := by
  obtain ⟨y, h1, h2, h3, h4, h5, _⟩ := near_word f (sv f a + sv f b) (sgn2 (sg f a) (sg f b) (sv f a + sv f b)) (fun h => sgn2_of _ _ _ h)
  exact ⟨y, by rw [add_rnd f a b ha hb, h1], h2, h3, h4, h5⟩

theorem sub_fin (f : Format) (a b : Nat) (ha : rg f a < f.infRung) (hb : rg f b < f.infRung) : ∃ y, f.sub a b = some y ∧ y < 2 * f.signWeight ∧ rg f y ≤ f.infRung ∧ (rg f y < f.infRung → sv f y = R f (sv f a - sv f b)) ∧ (InF f (sv f a - sv f b) → (sv f a - sv f b).natAbs < V f f.infRung → rg f y < f.infRung) := by
  have hbs : rg f b < f.signWeight := rg_lt f b
  have e1 : rg f (f.word (!sg f b) (rg f b)) = rg f b := rg_word f _ _ hbs
  have e2 : sg f (f.word (!sg f b) (rg f b)) = !sg f b := sg_word f _ _ hbs
  have e3 : sv f (f.word (!sg f b) (rg f b)) = -sv f b := by
    unfold sv; rw [e1, e2]; cases sg f b <;> simp
  obtain ⟨y, h1, h2, h3, h4, h5⟩ := add_fin f a (f.word (!sg f b) (rg f b)) ha (by rw [e1]; exact hb)
  rw [e3, ← Int.sub_eq_add_neg] at h4 h5
  exact ⟨y, by rw [sub_add f a b _ e1 e2]; exact h1, h2, h3, h4, h5⟩

theorem V_top : ∃ K : Nat, V double double.infRung = 2 * double.binade * 2 ^ K := by
  refine ⟨2045, ?_⟩
  obtain ⟨K, hK⟩ : ∃ K : Nat, K = 2045 := ⟨_, rfl⟩
  rw [← hK, V_inf double (by decide), show double.fractionBits + (2 ^ double.exponentBits - 2) = 53 + K by rw [hK]; decide, Nat.pow_add]
  congr 1

/-- What a sum has lost. -/
theorem errors_sum (a b s c d : Nat) (ha : rg double a < double.infRung) (hb : rg double b < double.infRung) (hs : double.add a b = some s) (hsf : rg double s < double.infRung) (hc : double.sub s a = some c) (hcf : rg double c < double.infRung) (hd : double.sub s c = some d) (hdf : rg double d < double.infRung) :
    ∃ x y l, double.sub a d = some x ∧ double.sub b c = some y ∧ double.add x y = some l ∧ x < 2 * double.signWeight ∧ y < 2 * double.signWeight ∧ l < 2 * double.signWeight ∧ rg double l < double.infRung ∧ sv double s + sv double l = sv double a + sv double b := by
  have hf : 1 ≤ double.fractionBits := by decide
  obtain ⟨s', g1, _, _, g2, _⟩ := add_fin double a b ha hb
  rw [hs] at g1; cases g1
  obtain ⟨c', g3, _, _, g4, _⟩ := sub_fin double s a hsf ha
  rw [hc] at g3; cases g3
  obtain ⟨d', g5, _, _, g6, _⟩ := sub_fin double s c hsf hcf
  rw [hd] at g5; cases g5
  obtain ⟨t1, t2, t3, t4, t5, t6, t7⟩ := two_sum double hf _ _ _ _ _ (sv_in double a) (sv_in double b) (g2 hsf) (g4 hcf) (g6 hdf)
  have va : (sv double a).natAbs < V double double.infRung := by rw [sv_abs, ← inf_lt]; exact ha
  have vb : (sv double b).natAbs < V double double.infRung := by rw [sv_abs, ← inf_lt]; exact hb
  obtain ⟨x, x1, x2, _, x3, x4⟩ := sub_fin double a d ha hdf
  obtain ⟨y, y1, y2, _, y3, y4⟩ := sub_fin double b c hb hcf
  have xf := x4 t1 (by omega)
  have yf := y4 t2 (by
    rcases t7 with h | ⟨k, h, h'⟩
    · omega
    · obtain ⟨K, hK⟩ := V_top
      rw [hK] at vb ⊢
      have hk : k < K := by
        rcases Nat.lt_or_ge k K with h9 | h9
        · exact h9
        · have := Nat.mul_le_mul_left (2 * double.binade) (Nat.pow_le_pow_right (n := 2) (by omega) h9)
          omega
      have h8 := Nat.mul_le_mul_left (2 * double.binade) (Nat.pow_le_pow_right (n := 2) (by omega) (show k + 1 ≤ K from hk))
      rw [Nat.pow_succ, ← Nat.mul_assoc, Nat.mul_comm _ 2] at h8
      omega)
  have ex : sv double x = sv double a - sv double d := by rw [x3 xf, R_exact _ _ t1]
  have ey : sv double y = sv double b - sv double c := by rw [y3 yf, R_exact _ _ t2]
  obtain ⟨l, l1, l2, _, l3, l4⟩ := add_fin double x y xf yf
  rw [ex, ey, t3] at l3 l4
  have lf := l4 t4 (by omega)
  refine ⟨x, y, l, x1, y1, l1, x2, y2, l2, lf, ?_⟩
  rw [l3 lf, R_exact _ _ t4]
  omega

set_option maxHeartbeats 1000000 in
/-- What a product has lost. -/
theorem errors_prod (T a b p c : Nat) (hT : T = 1074) (ha : rg double a < double.infRung) (hb : rg double b < double.infRung) (hp : double.mul a b = some p) (hpf : rg double p < double.infRung) (hpl : 288230376151711744 ≤ rg double p) (hc1 : rg double c = rg double p) (hc2 : sg double c = !sg double p) :
    sg double p = (sg double a ^^ sg double b) ∧ ∃ q Z, double.fma a b c = some q ∧ q < 2 * double.signWeight ∧ rg double q < double.infRung ∧ V double (rg double a) * V double (rg double b) = Z * 2 ^ T ∧ sv double p + sv double q = (if sg double p then -(Z : Int) else (Z : Int)) ∧ (sg double p = sg double q ∨ V double (rg double q) ≤ V double (rg double p)) := by
  have hf : 1 ≤ double.fractionBits := by decide
  have hl : double.leastPlace = -(T : Int) := by rw [hT]; decide
  clear hT
  have hB : double.binade = 4503599627370496 := by decide +kernel
  have hm := mul_rnd double T a b hl ha hb
  rw [hp] at hm
  have hi : ∀ n d, min (rnd double n d) double.infRung < double.signWeight := fun n d => Nat.lt_of_le_of_lt (Nat.min_le_right ..) double.infRung_lt
  injection hm with hm
  have hsp : sg double p = (sg double a ^^ sg double b) := by rw [hm]; exact sg_word _ _ _ (hi _ _)
  have hrp : rg double p = min (rnd double (V double (rg double a) * V double (rg double b)) (2 ^ T)) double.infRung := by rw [hm]; exact rg_word _ _ _ (hi _ _)
  have hrp2 : rg double p = rnd double (V double (rg double a) * V double (rg double b)) (2 ^ T) := by
    rcases Nat.lt_or_ge (rnd double (V double (rg double a) * V double (rg double b)) (2 ^ T)) double.infRung with h | h
    · rw [hrp, Nat.min_eq_left (Nat.le_of_lt h)]
    · rw [hrp, Nat.min_eq_right h] at hpf; omega
  refine ⟨hsp, ?_⟩
  obtain ⟨m, k, hVa, hml, _⟩ := V_parts double (rg double a)
  obtain ⟨n, l, hVb, hnl, _⟩ := V_parts double (rg double b)
  -- the power is great
  have hkl : T ≤ k + l := by
    rcases Nat.lt_or_ge (k + l) T with h | h
    · exfalso
      have hR : V double 247697979505377280 = 2 * double.binade * (2 * double.binade) := by
        rw [hB]; decide +kernel
      have hmn : m * n ≤ 2 * double.binade * (2 * double.binade) := Nat.mul_le_mul (Nat.le_of_lt hml) (Nat.le_of_lt hnl)
      have := rnd_le double hf (V double (rg double a) * V double (rg double b)) (2 ^ T) 247697979505377280 (Nat.two_pow_pos _) (by
        rw [hR, hVa, hVb, show m * 2 ^ k * (n * 2 ^ l) = m * n * 2 ^ (k + l) by rw [Nat.pow_add]; simp only [Nat.mul_assoc, Nat.mul_left_comm, Nat.mul_comm]]
        exact Nat.mul_le_mul hmn (Nat.pow_le_pow_right (by omega) (by omega)))
      rw [← hrp2] at this
      exact absurd (Nat.le_trans hpl this) (by decide)
    · exact h
  obtain ⟨j, hj⟩ : ∃ j, k + l = j + T := ⟨k + l - T, by omega⟩
  have hprod : V double (rg double a) * V double (rg double b) = m * n * 2 ^ j * 2 ^ T := by
    rw [hVa, hVb, show m * 2 ^ k * (n * 2 ^ l) = m * n * 2 ^ (k + l) by rw [Nat.pow_add]; simp only [Nat.mul_assoc, Nat.mul_left_comm, Nat.mul_comm], hj, Nat.pow_add, Nat.mul_assoc (m * n)]
  have tp := two_prod double hf m n j hml hnl
  generalize m * n * 2 ^ j = Z at *
  have hrZ : rg double p = rnd double Z 1 := by
    rw [hrp2, hprod]; exact rnd_eq double (Nat.two_pow_pos _) (by omega) (by rw [Nat.mul_one])
  have hRZ : R double (Z : Int) = (V double (rg double p) : Nat) := by
    unfold R; rw [if_neg (by omega), Int.natAbs_natCast, hrZ]
  rw [hRZ] at tp
  have hZl : Z < V double double.infRung := by
    rcases Nat.lt_or_ge Z (V double double.infRung) with h | h
    · exact h
    · have := le_rnd double hf Z 1 double.infRung (by omega) (by rw [Nat.mul_one]; exact h)
      exact absurd this (by rw [← hrZ]; exact Nat.not_le.2 hpf)
  have hfm := fma_rnd double T a b c hl ha hb (by rw [hc1]; exact hpf)
  rw [hc1, hc2, hprod, ← hsp] at hfm
  generalize hs : sg double p = s at *
  generalize hW : V double (rg double p) = W at *
  have hz : signed s (Z * 2 ^ T) 0 + signed (!s) (W * 2 ^ T) 0 = (if s then -((Z : Int) - W) else (Z : Int) - W) * ((2 ^ T : Nat) : Int) := by
    unfold signed
    cases s
    · simp only [Bool.not_false, Bool.false_eq_true, if_false, if_true, Nat.shiftLeft_zero, Int.natCast_mul]
      rw [Int.sub_mul]; omega
    · simp only [Bool.not_true, Bool.false_eq_true, if_false, if_true, Nat.shiftLeft_zero, Int.natCast_mul]
      rw [Int.neg_mul, Int.sub_mul]; omega
  have hpos : (0 : Int) < ((2 ^ T : Nat) : Int) := by exact_mod_cast Nat.two_pow_pos T
  rw [hz, natAbs_scale, sgn2_scale _ _ _ _ hpos] at hfm
  obtain ⟨z, hze⟩ : ∃ z : Int, (if s then -((Z : Int) - W) else (Z : Int) - W) = z := ⟨_, rfl⟩
  rw [hze, rnd_eq double (n' := z.natAbs) (d' := 1) (Nat.two_pow_pos T) (by omega) (by rw [Nat.mul_one])] at hfm
  have hzi : InF double z ∧ z.natAbs < V double double.infRung := by
    rw [← hze]
    cases s
    · exact ⟨tp.1, by have := tp.2; simp only [Bool.false_eq_true, if_false]; omega⟩
    · exact ⟨InF_neg _ _ tp.1, by have := tp.2; simp only [if_true]; omega⟩
  obtain ⟨q, q1, q2, q3, q4, q5, q6⟩ := near_word double z (sgn2 s (!s) z) (fun h => sgn2_of _ _ _ h)
  have qf := q5 hzi.1 hzi.2
  have eq : sv double q = z := by rw [q4 qf, R_exact _ _ hzi.1]
  have ep : sv double p = if s then -(W : Int) else (W : Int) := by unfold sv; rw [hs, hW]
  have eqa : V double (rg double q) = z.natAbs := by rw [← sv_abs, eq]
  refine ⟨q, Z, by rw [hfm, q1], q2, qf, hprod, ?_, ?_⟩
  · rw [eq, ep, ← hze]; cases s <;> simp only [Bool.false_eq_true, if_false, if_true] <;> omega
  · rw [eqa, q6]
    by_cases h0 : z = 0
    · right; rw [h0]; exact Nat.zero_le _
    · rw [sgn2_of _ _ _ h0]
      cases s
      · simp only [Bool.false_eq_true, if_false] at hze
        by_cases h1 : z < 0
        · right; omega
        · left; rw [decide_eq_false h1]
      · simp only [if_true] at hze
        by_cases h1 : z < 0
        · left; rw [decide_eq_true h1]
        · right; omega

end Flt
end Go.Proofs.Ytmkploknoohliaa

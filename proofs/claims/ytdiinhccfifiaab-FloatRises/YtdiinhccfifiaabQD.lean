/- What is rounded keeps its order. -/
import Derived.Test.YtdiinhccfifiaabRC
import Derived.Test.YtdiinhccfifiaabPB
import Derived.Test.YtdiinhccfifiaabFQ
namespace Go.Proofs.Ytdiinhccfifiaab
namespace Flt
set_option linter.unusedVariables false
set_option linter.unusedSimpArgs false
open Ieee

/-- A rung's worth, cut at the infinity, with a sign. -/
def mI (f : Format) (s : Bool) (R : Nat) : Int := if s then -((V f (min R f.infRung) : Nat) : Int) else ((V f (min R f.infRung) : Nat) : Int)

theorem sv_word (f : Format) (s : Bool) (R : Nat) : sv f (f.word s (min R f.infRung)) = mI f s R := by
  have h : min R f.infRung < f.signWeight := Nat.lt_of_le_of_lt (Nat.min_le_right ..) f.infRung_lt
  unfold sv mI
  rw [sg_word f _ _ h, rg_word f _ _ h]
theorem sv_word_inf (f : Format) (s : Bool) : sv f (f.word s f.infRung) = if s then -((V f f.infRung : Nat) : Int) else ((V f f.infRung : Nat) : Int) := by
  unfold sv
  rw [sg_word f _ _ f.infRung_lt, rg_word f _ _ f.infRung_lt]
theorem sv_word_zero (f : Format) (s : Bool) : sv f (f.word s 0) = 0 := by
  unfold sv
  rw [sg_word f _ _ (signWeight_pos f), rg_word f _ _ (signWeight_pos f), V_zero]
  cases s <;> rfl
theorem mI_le (f : Format) (s : Bool) (R : Nat) : -((V f f.infRung : Nat) : Int) ≤ mI f s R ∧ mI f s R ≤ ((V f f.infRung : Nat) : Int) := by
  have := V_le (f := f) (Nat.min_le_right R f.infRung)
  unfold mI
  cases s <;> simp <;> omega
theorem sv_bound (f : Format) (a : Nat) (h : rg f a ≤ f.infRung) : -((V f f.infRung : Nat) : Int) ≤ sv f a ∧ sv f a ≤ ((V f f.infRung : Nat) : Int) := by
  have := V_le (f := f) h
  unfold sv
  cases sg f a <;> simp <;> omega

/-- By signs and magnitudes. -/
theorem mI_mono (f : Format) (s t : Bool) (X Y R S : Nat) (h : (if s then -(X : Int) else (X : Int)) ≤ (if t then -(Y : Int) else (Y : Int))) (m1 : X ≤ Y → R ≤ S) (m2 : Y ≤ X → S ≤ R) (z1 : X = 0 → R = 0) (z2 : Y = 0 → S = 0) : mI f s R ≤ mI f t S := by
  have v : ∀ p q : Nat, p ≤ q → V f (min p f.infRung) ≤ V f (min q f.infRung) := fun p q hpq => V_le (by omega)
  have v0 : V f (min 0 f.infRung) = 0 := by rw [Nat.zero_min, V_zero]
  unfold mI
  cases s <;> cases t <;> simp only [Bool.false_eq_true, if_false, if_true] at h ⊢
  · have := v _ _ (m1 (by omega)); omega
  · have hx : X = 0 := by omega
    have hy : Y = 0 := by omega
    rw [z1 hx, z2 hy, v0]; omega
  · omega
  · have := v _ _ (m2 (by omega)); omega

section
variable {f : Format} (hf : 1 ≤ f.fractionBits) (he : 1 ≤ f.exponentBits)
include hf he

omit hf in
theorem sv_cases {a b : Nat} (ha : rg f a ≤ f.infRung) (hb : rg f b ≤ f.infRung) (h : sv f a ≤ sv f b) : (rg f a = f.infRung ∧ sg f a = true) ∨ (rg f b = f.infRung ∧ sg f b = false) ∨ (rg f a < f.infRung ∧ rg f b < f.infRung) := by
  rcases Nat.lt_or_ge (rg f a) f.infRung with h1 | h1
  · rcases Nat.lt_or_ge (rg f b) f.infRung with h2 | h2
    · exact .inr (.inr ⟨h1, h2⟩)
    · have h3 : rg f b = f.infRung := by omega
      cases hs : sg f b
      · exact .inr (.inl ⟨h3, rfl⟩)
      · exfalso
        have hv := V_lt (f := f) h1
        unfold sv at h
        rw [hs, h3] at h
        simp only [if_true] at h
        generalize sg f a = s at h
        cases s <;> simp at h <;> omega
  · have h3 : rg f a = f.infRung := by omega
    cases hs : sg f a
    · right; left
      have hv := sv_bound f b hb
      unfold sv at h hv
      rw [hs, h3] at h
      simp only [Bool.false_eq_true, if_false] at h
      have hpos : 0 < V f f.infRung := by
        have := V_lt (f := f) (show 0 < f.infRung by have := infRung_ge f he; have := binade_pos f; omega)
        omega
      cases ht : sg f b
      · rw [ht] at h hv
        simp only [Bool.false_eq_true, if_false] at h hv
        exact ⟨V_inj (f := f) (by omega), rfl⟩
      · rw [ht] at h hv
        simp only [if_true] at h hv
        omega
    · exact .inl ⟨h3, rfl⟩

theorem add_mono (a b c ra rb : Nat) (ha : rg f a ≤ f.infRung) (hb : rg f b ≤ f.infRung) (h : sv f a ≤ sv f b) (e1 : f.add a c = some ra) (e2 : f.add b c = some rb) : sv f ra ≤ sv f rb := by
  have hn : ∀ {x y r : Nat}, f.add x y = some r → rg f r ≤ f.infRung := by
    intro x y r hr
    unfold Format.add at hr
    cases hd : (f.read x).sum (f.read y) with
    | none => rw [hd] at hr; cases hr
    | some d => rw [hd] at hr; cases hr; exact rg_write f d (sum_num hd)
  have ba := sv_bound f ra (hn e1)
  have bb := sv_bound f rb (hn e2)
  rcases Nat.lt_or_ge f.infRung (rg f c) with hc | hc
  · rw [add_nan2 f he a c (.inr hc)] at e1; cases e1
  · by_cases ic : rg f c = f.infRung
    · have one : ∀ {x r : Nat}, rg f x ≤ f.infRung → f.add x c = some r → r = f.word (sg f c) f.infRung := by
        intro x r hx hr
        rcases Nat.lt_or_ge (rg f x) f.infRung with h1 | h1
        · rw [add_fin_inf f he x c h1 ic] at hr; cases hr; rfl
        · rw [add_inf_inf f he x c (by omega) ic] at hr
          split at hr
          · rename_i hs; cases hr; rw [hs]
          · cases hr
      rw [one ha e1, one hb e2]; omega
    · rcases sv_cases he ha hb h with ⟨h1, h2⟩ | ⟨h1, h2⟩ | ⟨h1, h2⟩
      · rw [add_inf_fin f he a c h1 (by omega)] at e1; cases e1
        rw [h2, sv_word_inf]; exact bb.1
      · rw [add_inf_fin f he b c h1 (by omega)] at e2; cases e2
        rw [h2, sv_word_inf]; exact ba.2
      · rw [add_rnd f a c h1 (by omega)] at e1; cases e1
        rw [add_rnd f b c h2 (by omega)] at e2; cases e2
        rw [sv_word, sv_word]
        generalize hz1 : sv f a + sv f c = z1
        generalize hz2 : sv f b + sv f c = z2
        have hz : z1 ≤ z2 := by omega
        have key : ∀ (s t : Bool) (z : Int), mI f (sgn2 s t z) (rnd f z.natAbs 1) = mI f (decide (z < 0)) (rnd f z.natAbs 1) := by
          intro s t z
          unfold sgn2
          by_cases h0 : z = 0
          · subst h0
            rw [Int.natAbs_zero, rnd_zero]
            unfold mI
            rw [Nat.zero_min, V_zero]
            cases (if (0 : Int) = 0 then s && t else decide ((0 : Int) < 0)) <;> simp
          · rw [if_neg h0]
        rw [key, key]
        refine mI_mono f _ _ z1.natAbs z2.natAbs _ _ ?_ (fun h => rnd_mono f hf _ _ _ _ (by omega) (by omega) (by omega)) (fun h => rnd_mono f hf _ _ _ _ (by omega) (by omega) (by omega)) (fun h => by rw [h, rnd_zero]) (fun h => by rw [h, rnd_zero])
        by_cases n1 : z1 < 0
        · by_cases n2 : z2 < 0
          · rw [decide_eq_true n1, decide_eq_true n2]; simp <;> omega
          · rw [decide_eq_true n1, decide_eq_false n2]; simp <;> omega
        · rw [decide_eq_false n1, decide_eq_false (by omega)]; simp <;> omega

omit hf he in
/-- Signs of what is not nought. -/
theorem sg_mono {a b : Nat} (h : sv f a ≤ sv f b) (h0 : ¬ (rg f a = 0)) (h1 : ¬ (rg f b = 0)) : sg f b = true → sg f a = true := by
  intro hs
  cases hsa : sg f a
  · exfalso
    have va : 0 < V f (rg f a) := by have := V_lt (f := f) (show 0 < rg f a by omega); omega
    have vb : 0 < V f (rg f b) := by have := V_lt (f := f) (show 0 < rg f b by omega); omega
    unfold sv at h
    rw [hs, hsa] at h
    simp at h
    omega
  · rfl
omit hf he in
theorem inf_mono {a b : Nat} (h : sv f a ≤ sv f b) (h0 : ¬ (rg f a = 0)) (h1 : ¬ (rg f b = 0)) : sv f (f.word (sg f a) f.infRung) ≤ sv f (f.word (sg f b) f.infRung) := by
  have := sg_mono h h0 h1
  rw [sv_word_inf, sv_word_inf]
  cases hsa : sg f a <;> cases hsb : sg f b <;> simp <;> first | omega | (exact absurd (this hsb) (by rw [hsa]; simp))

theorem mul_mono (T : Nat) (hT : f.leastPlace = -(T : Int)) (a b c ra rb : Nat) (ha : rg f a ≤ f.infRung) (hb : rg f b ≤ f.infRung) (hc0 : sg f c = false) (h : sv f a ≤ sv f b) (e1 : f.mul a c = some ra) (e2 : f.mul b c = some rb) : sv f ra ≤ sv f rb := by
  rcases Nat.lt_or_ge f.infRung (rg f c) with hc | hc
  · rw [mul_nan2 f he a c (.inr hc)] at e1; cases e1
  · by_cases ic : rg f c = f.infRung
    · have one : ∀ {x r : Nat}, rg f x ≤ f.infRung → f.mul x c = some r → rg f x ≠ 0 ∧ r = f.word (sg f x) f.infRung := by
        intro x r hx hr
        have hi := infRung_ge f he
        have hb := binade_pos f
        rcases Nat.lt_or_ge (rg f x) f.infRung with h1 | h1
        · rw [mul_fin_inf f he x c h1 ic, hc0, Bool.xor_false] at hr
          split at hr
          · cases hr
          · rename_i h0; cases hr; exact ⟨h0, rfl⟩
        · rw [mul_inf_inf f he x c (by omega) ic, hc0, Bool.xor_false] at hr
          cases hr; exact ⟨by omega, rfl⟩
      obtain ⟨n1, r1⟩ := one ha e1
      obtain ⟨n2, r2⟩ := one hb e2
      rw [r1, r2]; exact inf_mono h n1 n2
    · have hcf : rg f c < f.infRung := by omega
      have inf : ∀ {x r : Nat}, rg f x = f.infRung → f.mul x c = some r → r = f.word (sg f x) f.infRung := by
        intro x r h1 hr
        rw [mul_inf_fin f he x c h1 hcf, hc0, Bool.xor_false] at hr
        split at hr
        · cases hr
        · cases hr; rfl
      have hn : ∀ {x y r : Nat}, f.mul x y = some r → rg f r ≤ f.infRung := by
        intro x y r hr
        unfold Format.mul at hr
        cases hd : (f.read x).product (f.read y) with
        | none => rw [hd] at hr; cases hr
        | some d => rw [hd] at hr; cases hr; exact rg_write f d (product_num hd)
      have ba := sv_bound f ra (hn e1)
      have bb := sv_bound f rb (hn e2)
      rcases sv_cases he ha hb h with ⟨h1, h2⟩ | ⟨h1, h2⟩ | ⟨h1, h2⟩
      · rw [inf h1 e1, h2, sv_word_inf]; exact bb.1
      · rw [inf h1 e2, h2, sv_word_inf]; exact ba.2
      · rw [mul_rnd f T a c hT h1 hcf, hc0, Bool.xor_false] at e1; cases e1
        rw [mul_rnd f T b c hT h2 hcf, hc0, Bool.xor_false] at e2; cases e2
        rw [sv_word, sv_word]
        refine mI_mono f _ _ (V f (rg f a)) (V f (rg f b)) _ _ h (fun h => rnd_mono f hf _ _ _ _ (Nat.two_pow_pos _) (Nat.two_pow_pos _) (Nat.mul_le_mul_right _ (Nat.mul_le_mul_right _ h))) (fun h => rnd_mono f hf _ _ _ _ (Nat.two_pow_pos _) (Nat.two_pow_pos _) (Nat.mul_le_mul_right _ (Nat.mul_le_mul_right _ h))) (fun h => by rw [h, Nat.zero_mul, rnd_zero]) (fun h => by rw [h, Nat.zero_mul, rnd_zero])

theorem div_mono (T : Nat) (hT : f.leastPlace = -(T : Int)) (a b c ra rb : Nat) (ha : rg f a ≤ f.infRung) (hb : rg f b ≤ f.infRung) (hc0 : sg f c = false) (h : sv f a ≤ sv f b) (e1 : f.div a c = some ra) (e2 : f.div b c = some rb) : sv f ra ≤ sv f rb := by
  have hi := infRung_ge f he
  have hbp := binade_pos f
  rcases Nat.lt_or_ge f.infRung (rg f c) with hc | hc
  · rw [div_nan2 f he a c (.inr hc)] at e1; cases e1
  · by_cases ic : rg f c = f.infRung
    · have one : ∀ {x r : Nat}, rg f x ≤ f.infRung → f.div x c = some r → sv f r = 0 := by
        intro x r hx hr
        rcases Nat.lt_or_ge (rg f x) f.infRung with h1 | h1
        · rw [div_fin_inf f he x c h1 ic] at hr; cases hr; exact sv_word_zero f _
        · rw [div_inf_inf f he x c (by omega) ic] at hr; cases hr
      rw [one ha e1, one hb e2]; omega
    · have hcf : rg f c < f.infRung := by omega
      by_cases zc : rg f c = 0
      · have one : ∀ {x r : Nat}, rg f x ≤ f.infRung → f.div x c = some r → rg f x ≠ 0 ∧ r = f.word (sg f x) f.infRung := by
          intro x r hx hr
          rcases Nat.lt_or_ge (rg f x) f.infRung with h1 | h1
          · rw [div_fin_zero f x c h1 hcf zc, hc0, Bool.xor_false] at hr
            split at hr
            · cases hr
            · rename_i h0; cases hr; exact ⟨h0, rfl⟩
          · rw [div_inf_fin f he x c (by omega) hcf, hc0, Bool.xor_false] at hr
            cases hr; exact ⟨by omega, rfl⟩
        obtain ⟨n1, r1⟩ := one ha e1
        obtain ⟨n2, r2⟩ := one hb e2
        rw [r1, r2]; exact inf_mono h n1 n2
      · have hvc : 0 < V f (rg f c) := by have := V_lt (f := f) (show 0 < rg f c by omega); omega
        have inf : ∀ {x r : Nat}, rg f x = f.infRung → f.div x c = some r → r = f.word (sg f x) f.infRung := by
          intro x r h1 hr
          rw [div_inf_fin f he x c h1 hcf, hc0, Bool.xor_false] at hr
          cases hr; rfl
        have hn : ∀ {x y r : Nat}, f.div x y = some r → rg f r ≤ f.infRung := by
          intro x y r hr
          unfold Format.div at hr
          cases hd : (f.read x).quotient (f.fractionBits + 2) (f.read y) with
          | none => rw [hd] at hr; cases hr
          | some d => rw [hd] at hr; cases hr; exact rg_write f d (quotient_num hd)
        have ba := sv_bound f ra (hn e1)
        have bb := sv_bound f rb (hn e2)
        rcases sv_cases he ha hb h with ⟨h1, h2⟩ | ⟨h1, h2⟩ | ⟨h1, h2⟩
        · rw [inf h1 e1, h2, sv_word_inf]; exact bb.1
        · rw [inf h1 e2, h2, sv_word_inf]; exact ba.2
        · rw [div_rnd f T a c hT h1 hcf zc, hc0, Bool.xor_false] at e1; cases e1
          rw [div_rnd f T b c hT h2 hcf zc, hc0, Bool.xor_false] at e2; cases e2
          rw [sv_word, sv_word]
          refine mI_mono f _ _ (V f (rg f a)) (V f (rg f b)) _ _ h (fun h => rnd_mono f hf _ _ _ _ hvc hvc (Nat.mul_le_mul_right _ (Nat.mul_le_mul_right _ h))) (fun h => rnd_mono f hf _ _ _ _ hvc hvc (Nat.mul_le_mul_right _ (Nat.mul_le_mul_right _ h))) (fun h => by rw [h, Nat.zero_mul, rnd_zero]) (fun h => by rw [h, Nat.zero_mul, rnd_zero])

theorem sqrt_mono (T : Nat) (hT : f.leastPlace = -(T : Int)) (a b ra rb : Nat) (ha : rg f a ≤ f.infRung) (hb : rg f b ≤ f.infRung) (h : sv f a ≤ sv f b) (e1 : f.sqrt a = some ra) (e2 : f.sqrt b = some rb) : sv f ra ≤ sv f rb := by
  have hi := infRung_ge f he
  have hbp := binade_pos f
  have hw : ∀ R, f.word false R = R := fun _ => rfl
  -- what is told is not below nought
  have one : ∀ {x r : Nat}, rg f x ≤ f.infRung → f.sqrt x = some r → (rg f x = 0 ∧ sv f r = 0) ∨ (rg f x = f.infRung ∧ sg f x = false ∧ sv f r = (V f f.infRung : Nat)) ∨ (rg f x ≠ 0 ∧ rg f x < f.infRung ∧ sg f x = false ∧ ∃ R, RtR f (V f (rg f x) * 2 ^ T) 1 R ∧ sv f r = mI f false R) := by
    intro x r hx hr
    by_cases h0 : rg f x = 0
    · left
      rw [sqrt_zero f x h0 (by omega)] at hr; cases hr
      exact ⟨h0, sv_word_zero f _⟩
    · rcases Nat.lt_or_ge (rg f x) f.infRung with h1 | h1
      · cases hs : sg f x
        · obtain ⟨R, hR, e⟩ := sqrt_rung f hf T x hT h1 h0 hs
          rw [e] at hr; cases hr
          refine .inr (.inr ⟨h0, h1, rfl, R, hR, ?_⟩)
          rw [← hw (min R f.infRung), sv_word]
        · rw [sqrt_neg f x h1 h0 hs] at hr; cases hr
      · have h2 : rg f x = f.infRung := by omega
        rw [sqrt_inf f he x h2] at hr
        cases hs : sg f x
        · rw [hs] at hr
          simp only [Bool.false_eq_true, if_false] at hr
          cases hr
          refine .inr (.inl ⟨h2, rfl, ?_⟩)
          rw [sv_word_inf]; rfl
        · rw [hs] at hr; simp at hr
  have m0 : ∀ R, 0 ≤ mI f false R := fun R => by unfold mI; simp
  have mi := fun R => (mI_le f false R).2
  rcases one ha e1 with ⟨a1, a2⟩ | ⟨a1, a2, a3⟩ | ⟨a0, a1, a2, R, hR, a3⟩
  · rw [a2]
    rcases one hb e2 with ⟨b1, b2⟩ | ⟨b1, b2, b3⟩ | ⟨b0, b1, b2, S, hS, b3⟩
    · omega
    · omega
    · rw [b3]; exact m0 S
  · have hb' : rg f b = f.infRung := by
      rcases sv_cases he ha hb h with ⟨_, h2⟩ | ⟨h1, _⟩ | ⟨h1, _⟩
      · rw [a2] at h2; cases h2
      · exact h1
      · omega
    rcases one hb e2 with ⟨b1, b2⟩ | ⟨b1, b2, b3⟩ | ⟨b0, b1, b2, S, hS, b3⟩
    · omega
    · rw [a3, b3]; omega
    · omega
  · rw [a3]
    have hva : 0 < V f (rg f a) := by have := V_lt (f := f) (show 0 < rg f a by omega); omega
    rcases one hb e2 with ⟨b1, b2⟩ | ⟨b1, b2, b3⟩ | ⟨b0, b1, b2, S, hS, b3⟩
    · exfalso
      unfold sv at h
      rw [a2, b1, V_zero] at h
      cases sg f b <;> simp at h <;> omega
    · rw [b3]; exact mi R
    · rw [b3]
      have hle : V f (rg f a) ≤ V f (rg f b) := by
        unfold sv at h
        rw [a2, b2] at h
        simp only [Bool.false_eq_true, if_false] at h
        omega
      have := RtR.mono (by omega) (by omega) hR hS (by rw [Nat.mul_one, Nat.mul_one]; exact Nat.mul_le_mul_right _ hle)
      unfold mI
      simp only [Bool.false_eq_true, if_false]
      have := V_le (f := f) (show min R f.infRung ≤ min S f.infRung by omega)
      omega
end

theorem cutE_mono (n n' u : Nat) (hu : 0 < u) (h : n ≤ n') : cutE n u ≤ cutE n' u := by
  unfold cutE
  have hd := Nat.div_add_mod n u
  have hd' := Nat.div_add_mod n' u
  rcases Nat.lt_or_ge (n / u) (n' / u) with h1 | h1
  · split <;> split <;> omega
  · have h2 : n / u = n' / u := Nat.le_antisymm (Nat.div_le_div_right h) h1
    rw [h2] at hd ⊢
    generalize u * (n' / u) = x at *
    generalize n' / u = q at *
    by_cases hc : u < 2 * (n % u) ∨ u = 2 * (n % u) ∧ q % 2 = 1
    · rw [if_pos hc, if_pos (by omega)]; omega
    · rw [if_neg hc]; split <;> omega
end Flt
end Go.Proofs.Ytdiinhccfifiaab

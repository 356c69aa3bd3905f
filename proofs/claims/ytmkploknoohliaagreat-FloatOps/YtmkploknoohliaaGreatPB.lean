/- Operations of infinities and NaNs; what is told of finite ones, by units. -/
import Derived.Test.YtmkploknoohliaaGreatRD
namespace Go.Proofs.YtmkploknoohliaaGreat
namespace Flt
set_option linter.unusedVariables false
set_option linter.unusedSimpArgs false
open Ieee

section
variable (f : Format) (he : 1 ≤ f.exponentBits) (a b c : Nat)
include he

theorem add_nan2 (h : f.infRung < rg f a ∨ f.infRung < rg f b) : f.add a b = none := by
  have hi := infRung_ge f he
  unfold Format.add
  rcases h with h | h
  · rw [read_nan f a hi h]; rfl
  · rw [read_nan f b hi h]; cases f.read a <;> rfl
theorem add_inf_inf (ha : rg f a = f.infRung) (hb : rg f b = f.infRung) : f.add a b = if sg f a = sg f b then some (f.word (sg f a) f.infRung) else none := by
  have hi := infRung_ge f he
  unfold Format.add
  rw [read_inf f a hi ha, read_inf f b hi hb]
  simp only [Datum.sum]
  split <;> rfl
theorem add_inf_fin (ha : rg f a = f.infRung) (hb : rg f b < f.infRung) : f.add a b = some (f.word (sg f a) f.infRung) := by
  have hi := infRung_ge f he
  obtain ⟨n, l, e3, _⟩ := read_fin f b hb
  unfold Format.add
  rw [read_inf f a hi ha, e3]; rfl
theorem add_fin_inf (ha : rg f a < f.infRung) (hb : rg f b = f.infRung) : f.add a b = some (f.word (sg f b) f.infRung) := by
  rw [add_comm]; exact add_inf_fin f he b a hb ha

theorem mul_nan2 (h : f.infRung < rg f a ∨ f.infRung < rg f b) : f.mul a b = none := by
  have hi := infRung_ge f he
  unfold Format.mul
  rcases h with h | h
  · rw [read_nan f a hi h]; rfl
  · rw [read_nan f b hi h]; cases f.read a <;> rfl
omit he in
theorem fin_zero (ha : rg f a < f.infRung) : ∃ m k : Nat, f.read a = .number (sg f a) m (f.leastPlace + k) ∧ (m = 0 ↔ rg f a = 0) := by
  obtain ⟨m, k, e1, e2, _⟩ := read_fin f a ha
  refine ⟨m, k, e1, fun h => ?_, fun h => ?_⟩
  · rw [h, Nat.zero_mul] at e2
    exact V_inj (f := f) (by rw [← e2, V_zero])
  · rw [h, V_zero] at e2
    rcases Nat.mul_eq_zero.1 e2 with h | h
    · exact h
    · have := Nat.two_pow_pos k; omega
theorem mul_inf_fin (ha : rg f a = f.infRung) (hb : rg f b < f.infRung) : f.mul a b = if rg f b = 0 then none else some (f.word (sg f a ^^ sg f b) f.infRung) := by
  have hi := infRung_ge f he
  obtain ⟨n, l, e3, e4⟩ := fin_zero f b hb
  unfold Format.mul
  rw [read_inf f a hi ha, e3]
  simp only [Datum.product, e4]
  split <;> rfl
theorem mul_fin_inf (ha : rg f a < f.infRung) (hb : rg f b = f.infRung) : f.mul a b = if rg f a = 0 then none else some (f.word (sg f a ^^ sg f b) f.infRung) := by
  rw [mul_comm, Bool.xor_comm]; exact mul_inf_fin f he b a hb ha
theorem mul_inf_inf (ha : rg f a = f.infRung) (hb : rg f b = f.infRung) : f.mul a b = some (f.word (sg f a ^^ sg f b) f.infRung) := by
  have hi := infRung_ge f he
  unfold Format.mul
  rw [read_inf f a hi ha, read_inf f b hi hb]; rfl

theorem div_nan2 (h : f.infRung < rg f a ∨ f.infRung < rg f b) : f.div a b = none := by
  have hi := infRung_ge f he
  unfold Format.div
  rcases h with h | h
  · rw [read_nan f a hi h]; rfl
  · rw [read_nan f b hi h]; cases f.read a <;> rfl
theorem div_inf_inf (ha : rg f a = f.infRung) (hb : rg f b = f.infRung) : f.div a b = none := by
  have hi := infRung_ge f he
  unfold Format.div
  rw [read_inf f a hi ha, read_inf f b hi hb]; rfl
theorem div_inf_fin (ha : rg f a = f.infRung) (hb : rg f b < f.infRung) : f.div a b = some (f.word (sg f a ^^ sg f b) f.infRung) := by
  have hi := infRung_ge f he
  obtain ⟨n, l, e3, e4⟩ := fin_zero f b hb
  unfold Format.div
  rw [read_inf f a hi ha, e3]; rfl
theorem div_fin_inf (ha : rg f a < f.infRung) (hb : rg f b = f.infRung) : f.div a b = some (f.word (sg f a ^^ sg f b) 0) := by
  have hi := infRung_ge f he
  obtain ⟨n, l, e3, e4⟩ := fin_zero f a ha
  unfold Format.div
  rw [read_inf f b hi hb, e3]
  simp only [Datum.quotient, Option.map_some, Format.write]
  unfold Format.nearest
  rw [if_pos rfl]
omit he in
theorem div_fin_zero (ha : rg f a < f.infRung) (hb : rg f b < f.infRung) (hb0 : rg f b = 0) : f.div a b = if rg f a = 0 then none else some (f.word (sg f a ^^ sg f b) f.infRung) := by
  obtain ⟨m, k, e1, e2⟩ := fin_zero f a ha
  obtain ⟨n, l, e3, e4⟩ := fin_zero f b hb
  unfold Format.div
  rw [e1, e3]
  simp only [Datum.quotient, if_pos (e4.2 hb0), e2]
  split <;> rfl

theorem fma_nan2 (h : f.infRung < rg f a ∨ f.infRung < rg f b ∨ f.infRung < rg f c) : f.fma a b c = none := by
  have hi := infRung_ge f he
  unfold Format.fma
  rcases h with h | h | h
  · rw [read_nan f a hi h]; rfl
  · rw [read_nan f b hi h]; cases f.read a <;> rfl
  · rw [read_nan f c hi h]
    cases (f.read a).product (f.read b) with
    | none => rfl
    | some d => cases d <;> rfl
omit he in
theorem fma_none (h : f.mul a b = none) : f.fma a b c = none := by
  unfold Format.fma
  unfold Format.mul at h
  cases hp : (f.read a).product (f.read b) with
  | none => rfl
  | some d => rw [hp] at h; cases h
/-- Where the product is an infinity. -/
theorem fma_inf (hm : ∃ s, (f.read a).product (f.read b) = some (.infinity s) ∧ s = (sg f a ^^ sg f b)) : f.fma a b c = f.add (f.word (sg f a ^^ sg f b) f.infRung) c := by
  have hi := infRung_ge f he
  obtain ⟨s, h1, h2⟩ := hm
  have hr : f.read (f.word s f.infRung) = .infinity s := by
    rw [read_inf f _ hi (rg_word f _ _ f.infRung_lt), sg_word f _ _ f.infRung_lt]
  unfold Format.fma Format.add
  rw [h1, ← h2, hr]; rfl
theorem prod_inf (h : (rg f a = f.infRung ∧ rg f b < f.infRung ∧ rg f b ≠ 0) ∨ (rg f b = f.infRung ∧ rg f a < f.infRung ∧ rg f a ≠ 0) ∨ (rg f a = f.infRung ∧ rg f b = f.infRung)) : ∃ s, (f.read a).product (f.read b) = some (.infinity s) ∧ s = (sg f a ^^ sg f b) := by
  have hi := infRung_ge f he
  rcases h with ⟨h1, h2, h3⟩ | ⟨h1, h2, h3⟩ | ⟨h1, h2⟩
  · obtain ⟨n, l, e3, e4⟩ := fin_zero f b h2
    rw [read_inf f a hi h1, e3]
    simp only [Datum.product, if_neg (fun e => h3 (e4.1 e))]
    exact ⟨_, rfl, rfl⟩
  · obtain ⟨n, l, e3, e4⟩ := fin_zero f a h2
    rw [read_inf f b hi h1, e3]
    simp only [Datum.product, if_neg (fun e => h3 (e4.1 e))]
    exact ⟨_, rfl, Bool.xor_comm ..⟩
  · rw [read_inf f a hi h1, read_inf f b hi h2]
    exact ⟨_, rfl, rfl⟩
theorem fma_fin_inf (ha : rg f a < f.infRung) (hb : rg f b < f.infRung) (hc : rg f c = f.infRung) : f.fma a b c = some (f.word (sg f c) f.infRung) := by
  have hi := infRung_ge f he
  obtain ⟨m, k, e1, e2⟩ := fin_zero f a ha
  obtain ⟨n, l, e3, e4⟩ := fin_zero f b hb
  unfold Format.fma
  rw [e1, e3, read_inf f c hi hc]; rfl

theorem sqrt_nan2 (h : f.infRung < rg f a) : f.sqrt a = none := by
  have hi := infRung_ge f he
  unfold Format.sqrt
  rw [read_nan f a hi h]; rfl
theorem sqrt_inf (h : rg f a = f.infRung) : f.sqrt a = if sg f a then none else some (f.word false f.infRung) := by
  have hi := infRung_ge f he
  unfold Format.sqrt
  rw [read_inf f a hi h]
  simp only [Datum.root]
  cases sg f a <;> rfl
omit he in
theorem sqrt_zero (h : rg f a = 0) (hf : 0 < f.infRung) : f.sqrt a = some (f.word (sg f a) 0) := by
  obtain ⟨m, k, e1, e2⟩ := fin_zero f a (by omega)
  unfold Format.sqrt
  rw [e1]
  simp only [Datum.root, if_pos (e2.2 h), Option.map_some, Format.write]
  unfold Format.nearest
  rw [if_pos (e2.2 h)]
omit he in
theorem sqrt_neg (h : rg f a < f.infRung) (h0 : rg f a ≠ 0) (hs : sg f a = true) : f.sqrt a = none := by
  obtain ⟨m, k, e1, e2⟩ := fin_zero f a h
  unfold Format.sqrt
  rw [e1]
  simp only [Datum.root, if_neg (fun e => h0 (e2.1 e)), hs, if_true]
  rfl
end
end Flt
end Go.Proofs.YtmkploknoohliaaGreat

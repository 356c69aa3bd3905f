/- Sums and products either way; exact numbers; the wider format. -/
import Derived.Test.YtleeahigceppiaaDoorFI
/- Add, Sub, Mul, Div, Fma, Root: of 64 bits. -/
namespace Go.Proofs.YtleeahigceppiaaDoor
open Go.RowKit
open Flt
set_option linter.unusedVariables false
set_option linter.unusedSimpArgs false

namespace Flt
open Ieee
theorem rg_word (f : Format) (neg : Bool) (r : Nat) (h : r < f.signWeight) : rg f (f.word neg r) = r := by
  unfold rg Format.word
  cases neg
  · exact Nat.mod_eq_of_lt h
  · show (f.signWeight + r) % f.signWeight = r
    rw [Nat.add_mod_left]; exact Nat.mod_eq_of_lt h
theorem sg_word (f : Format) (neg : Bool) (r : Nat) (h : r < f.signWeight) : sg f (f.word neg r) = neg := by
  unfold sg Format.word
  cases neg
  · show (r / f.signWeight % 2 == 1) = false
    rw [Nat.div_eq_of_lt h]; rfl
  · show ((f.signWeight + r) / f.signWeight % 2 == 1) = true
    rw [Nat.add_div_left _ (signWeight_pos f), Nat.div_eq_of_lt h]; rfl

theorem rg_write (f : Format) (d : Datum) (h : d.isNaN = false) : rg f (f.write d) ≤ f.infRung := by
  cases d with
  | number neg mag place =>
    show rg f (f.nearest neg mag place) ≤ _
    rw [nearest_rnd, rg_word f _ _ (Nat.lt_of_le_of_lt (Nat.min_le_right ..) f.infRung_lt)]
    exact Nat.min_le_right ..
  | infinity neg =>
    show rg f (f.word neg f.infRung) ≤ _
    rw [rg_word f _ _ f.infRung_lt]; exact Nat.le_refl _
  | nan neg t => simp [Datum.isNaN] at h

theorem sum_num {x y d : Datum} (h : x.sum y = some d) : d.isNaN = false := by
  cases x <;> cases y <;> simp only [Datum.sum] at h <;> try (cases h; done)
  · cases h; rfl
  · cases h; rfl
  · cases h; rfl
  · split at h
    · cases h; rfl
    · cases h
theorem product_num {x y d : Datum} (h : x.product y = some d) : d.isNaN = false := by
  cases x <;> cases y <;> simp only [Datum.product] at h <;> try (cases h; done)
  · cases h; rfl
  · split at h
    · cases h
    · cases h; rfl
  · split at h
    · cases h
    · cases h; rfl
  · cases h; rfl
theorem quotient_num {n : Nat} {x y d : Datum} (h : x.quotient n y = some d) : d.isNaN = false := by
  cases x <;> cases y <;> simp only [Datum.quotient] at h <;> try (cases h; done)
  · split at h
    · split at h
      · cases h
      · cases h; rfl
    · cases h; rfl
  · cases h; rfl
  · cases h; rfl
theorem root_num {n : Nat} {x d : Datum} (h : x.root n = some d) : d.isNaN = false := by
  cases x <;> simp only [Datum.root] at h <;> try (cases h; done)
  · split at h
    · cases h; rfl
    · split at h
      · cases h
      · cases h; rfl
  · split at h
    · cases h
    · cases h; rfl
end Flt

theorem map_num {o : Option Ieee.Datum} {r : Nat} (h : o.map Ieee.double.write = some r) (hn : ∀ d, o = some d → d.isNaN = false) : r % 9223372036854775808 ≤ 9218868437227405312 ∧ r < 18446744073709551616 := by
  cases o with
  | none => cases h
  | some d =>
    cases h
    have := rg_write Ieee.double d (hn d rfl)
    rw [rg64, inf64] at this
    exact ⟨this, Ieee.double.write_lt d⟩

/-- What is told of an operation's bits. -/
def told64 : Option Nat → Nat
  | some r => r
  | none => 9221120237041090560

theorem fb_num {op : BinOp} {a b r : Nat} (h : floatBits op .f64 a b = some r) : r % 9223372036854775808 ≤ 9218868437227405312 ∧ r < 18446744073709551616 := by
  unfold floatBits at h
  split at h
  · exact map_num h fun d => sum_num
  · exact map_num h fun d => sum_num
  · exact map_num h fun d => product_num
  · exact map_num h fun d => quotient_num
  · cases h




set_option maxRecDepth 100000 in
theorem Signbit_any (x : Nat) (w : World) (hx : x < 18446744073709551616) : Calls Tryd.prog 28 #[.float .f64 x] w fun e w' => e = .returned (.bool (decide (9223372036854775808 ≤ x))) ∧ w' = w := by
  have ht := tobits64 x
  by_cases h : 9223372036854775808 ≤ x
  · obtain ⟨y, hy⟩ : ∃ y : Int, (x : Int) - 18446744073709551616 = y := ⟨_, rfl⟩
    have hw : wrap64 (x : Int) = y := by unfold wrap64; omega
    have hw2 : IntKind.i64.wrap (x : Int) = y := by rw [IntKind.wrap_i64]; omega
    have hy0 : y < 0 := by omega
    rw [decide_eq_true h]
    clear h hx hy
    go_enter Tryd.func28, Tryd.ntmps28
    go_wp2_with (simp only [ht, hw, hw2])
    go_ret
    exact ⟨by simp [hy0], rfl⟩
  · have hw : wrap64 (x : Int) = x := by unfold wrap64; omega
    have hw2 : IntKind.i64.wrap (x : Int) = x := by rw [IntKind.wrap_i64]; omega
    rw [decide_eq_false h]
    clear h hx
    go_enter Tryd.func28, Tryd.ntmps28
    go_wp2_with (simp only [ht, hw, hw2])
    go_ret
    exact ⟨by simp, rfl⟩



end Go.Proofs.YtleeahigceppiaaDoor

namespace Go.Proofs.YtleeahigceppiaaDoor
namespace Flt
set_option linter.unusedVariables false
set_option linter.unusedSimpArgs false
open Ieee

theorem sum_comm (x y : Datum) : x.sum y = y.sum x := by
  cases x <;> cases y <;> try rfl
  · rename_i s m i t n j
    simp only [Datum.sum]
    rw [Int.min_comm i j, Int.add_comm (signed s m _), Bool.and_comm s t]
  · rename_i s t
    simp only [Datum.sum]
    by_cases h : s = t
    · subst h; rfl
    · rw [if_neg h, if_neg (fun e => h e.symm)]
theorem product_comm (x y : Datum) : x.product y = y.product x := by
  cases x <;> cases y <;> try rfl
  · simp only [Datum.product]
    rw [Bool.xor_comm, Nat.mul_comm, Int.add_comm]
  · simp only [Datum.product]
    rw [Bool.xor_comm]

theorem add_comm (f : Format) (a b : Nat) : f.add a b = f.add b a := by unfold Format.add; rw [sum_comm]
theorem mul_comm (f : Format) (a b : Nat) : f.mul a b = f.mul b a := by unfold Format.mul; rw [product_comm]
theorem fma_comm (f : Format) (a b c : Nat) : f.fma a b c = f.fma b a c := by unfold Format.fma; rw [product_comm]

theorem read_by (f : Format) (a b : Nat) (h1 : rg f a = rg f b) (h2 : sg f a = !sg f b) : f.read a = (f.read b).opposite := by
  unfold Format.read
  dsimp only
  rw [show a % f.signWeight = rg f a from rfl, show (a / f.signWeight % 2 == 1) = sg f a from rfl, show b % f.signWeight = rg f b from rfl, show (b / f.signWeight % 2 == 1) = sg f b from rfl, h1, h2]
  split
  · rfl
  · split
    · rfl
    · split <;> rfl

theorem sub_add (f : Format) (a b c : Nat) (h1 : rg f c = rg f b) (h2 : sg f c = !sg f b) : f.sub a b = f.add a c := by
  unfold Format.sub Format.add
  rw [read_by f c b h1 h2]

theorem signed_opp (s : Bool) (m i : Nat) : signed s m i + signed (!s) m i = 0 := by
  unfold signed; cases s <;> simp <;> omega

theorem sub_self (f : Format) (a : Nat) (h : rg f a < f.infRung) : f.sub a a = some 0 := by
  obtain ⟨m, k, e1, _⟩ := read_fin f a h
  unfold Format.sub
  rw [e1]
  simp only [Datum.opposite, Datum.sum, signed_opp]
  simp only [if_true, Int.natAbs_zero, Option.map_some, Format.write]
  unfold Format.nearest Format.word
  cases sg f a <;> rfl

theorem nearest_shift (f : Format) (neg : Bool) (m j : Nat) (p : Int) : f.nearest neg (m * 2 ^ j) (p - j) = f.nearest neg m p := by
  rw [nearest_rnd, nearest_rnd]
  refine congrArg _ (congrArg (min · _) ?_)
  refine rnd_eq f (Nat.two_pow_pos _) (Nat.two_pow_pos _) ?_
  rw [Nat.mul_assoc, Nat.mul_assoc, Nat.mul_assoc, ← Nat.pow_add, ← Nat.pow_add, ← Nat.pow_add]
  congr 2
  omega

/-- An exact number is told as it is. -/
theorem nearest_exact (f : Format) (neg : Bool) (m R : Nat) (p : Int) (hR : R ≤ f.infRung) (h : m * 2 ^ (p - f.leastPlace).toNat = V f R * 2 ^ (f.leastPlace - p).toNat) : f.nearest neg m p = f.word neg R := by
  rw [nearest_rnd]
  refine congrArg _ ?_
  rw [rnd_eq f (d' := 1) (n' := V f R) (Nat.two_pow_pos _) (by omega) (by rw [Nat.mul_one]; exact h), rnd_V]
  exact Nat.min_eq_left hR

theorem repr (f : Format) (c k : Nat) (h : c < 2 * f.binade) : ∃ R, V f R = c * 2 ^ k := by
  by_cases h0 : c = 0
  · exact ⟨0, by rw [h0, V_zero, Nat.zero_mul]⟩
  · have hl : c.log2 ≤ f.fractionBits := by
      have : c.log2 < f.fractionBits + 1 := (Nat.log2_lt h0).2 (by rw [Nat.pow_succ, Nat.mul_comm]; exact h)
      omega
    refine ⟨(k - min k (f.fractionBits - c.log2)) * f.binade + c * 2 ^ (min k (f.fractionBits - c.log2)), ?_⟩
    have h1 : c * 2 ^ (min k (f.fractionBits - c.log2)) < 2 * f.binade := by
      have a1 := Nat.mul_lt_mul_of_pos_right (Nat.lt_log2_self (n := c)) (Nat.two_pow_pos (min k (f.fractionBits - c.log2)))
      rw [← Nat.pow_add] at a1
      have a2 : 2 ^ (c.log2 + 1 + min k (f.fractionBits - c.log2)) ≤ 2 ^ (f.fractionBits + 1) := Nat.pow_le_pow_right (by omega) (by omega)
      have a3 : 2 ^ (f.fractionBits + 1) = 2 * f.binade := by rw [Nat.pow_succ, Nat.mul_comm]; rfl
      omega
    have h2 : k - min k (f.fractionBits - c.log2) = 0 ∨ f.binade ≤ c * 2 ^ (min k (f.fractionBits - c.log2)) := by
      rcases Nat.le_total k (f.fractionBits - c.log2) with h3 | h3
      · left; omega
      · right
        rw [Nat.min_eq_right h3]
        have := Nat.mul_le_mul_right (2 ^ (f.fractionBits - c.log2)) (Nat.log2_self_le h0)
        rw [← Nat.pow_add, Nat.add_sub_cancel' hl] at this
        exact this
    rw [(V_at f _ _ h1 h2).1, Nat.mul_assoc, ← Nat.pow_add]
    congr 2
    omega

theorem word_self (f : Format) (w : Nat) (h : w < 2 * f.signWeight) : f.word (sg f w) (rg f w) = w := by
  have hs := signWeight_pos f
  have hd := Nat.div_add_mod w f.signWeight
  have hq : w / f.signWeight < 2 := by rw [Nat.div_lt_iff_lt_mul hs]; exact h
  unfold Format.word sg rg
  by_cases h1 : w / f.signWeight = 1
  · rw [h1, Nat.mul_one] at hd
    rw [h1]
    simp only [show (1 % 2 == 1) = true from rfl, if_true]
    exact hd
  · have h2 : w / f.signWeight = 0 := by generalize w / f.signWeight = q at *; omega
    rw [h2, Nat.mul_zero, Nat.zero_add] at hd
    rw [h2]
    simp only [show (0 % 2 == 1) = false from rfl, Bool.false_eq_true, if_false]
    exact hd

theorem V_inf (f : Format) (h : 1 ≤ f.exponentBits) : V f f.infRung = 2 ^ (f.fractionBits + (2 ^ f.exponentBits - 2)) := by
  have hp : 2 ^ 1 ≤ 2 ^ f.exponentBits := Nat.pow_le_pow_right (by omega) h
  have e : f.infRung = (2 ^ f.exponentBits - 2) * f.binade + f.binade := by
    unfold Format.infRung
    rw [← Nat.succ_mul]
    exact congrArg (· * f.binade) (by omega)
  rw [e, (V_at f _ f.binade (by have := binade_pos f; omega) (.inr (Nat.le_refl _))).1, Nat.pow_add]
  rfl

/-- How much finer the wider format's least place is. -/
def gapE : Nat := 925

/-- A binary32's number, as a binary64, and back. -/
theorem widened (f : Nat) (h : rg single f < single.infRung) : ∃ R m' k' : Nat, (R < double.infRung ∧ V double R = V single (rg single f) * 2 ^ gapE) ∧ (∃ m k : Nat, single.read f = .number (sg single f) m (single.leastPlace + k) ∧ double.nearest (sg single f) m (single.leastPlace + k) = double.word (sg single f) R) ∧
    double.read (double.word (sg single f) R) = .number (sg single f) m' (double.leastPlace + k') ∧ single.nearest (sg single f) m' (double.leastPlace + k') = single.word (sg single f) (rg single f) := by
  obtain ⟨m, k, e1, e2, e3, e4⟩ := read_fin single f h
  have hm : m < 2 * double.binade := Nat.lt_trans e3 (by decide)
  have hE : gapE = 925 := rfl
  obtain ⟨R, hR⟩ := repr double m (k + gapE) hm
  have hRi : R < double.infRung := by
    rw [← V_lt_iff (f := double), hR, V_inf double (by decide), Nat.pow_add, ← Nat.mul_assoc, e2]
    have := V_lt (f := single) h
    rw [V_inf single (by decide)] at this
    refine Nat.lt_trans (Nat.mul_lt_mul_of_pos_right this (Nat.two_pow_pos _)) ?_
    rw [← Nat.pow_add]
    refine Nat.pow_lt_pow_right (by omega) ?_
    rw [hE]; decide
  have hl1 : double.leastPlace = -1074 := by decide
  have hl2 : single.leastPlace = -149 := by decide
  have hRs : R < double.signWeight := Nat.lt_trans hRi double.infRung_lt
  obtain ⟨m', k', g1, g2, _⟩ := read_fin double (double.word (sg single f) R) (by rw [rg_word _ _ _ hRs]; exact hRi)
  rw [sg_word _ _ _ hRs] at g1
  rw [rg_word _ _ _ hRs] at g2
  refine ⟨R, m', k', ⟨hRi, by rw [hR, Nat.pow_add, ← Nat.mul_assoc, e2]⟩, ⟨m, k, e1, ?_⟩, g1, ?_⟩
  · refine nearest_exact double _ m R _ (Nat.le_of_lt hRi) ?_
    rw [hl1, hl2, hR, show (-149 + (k : Int) - -1074).toNat = k + gapE by omega, show (-1074 - (-149 + (k : Int))).toNat = 0 by omega, Nat.pow_zero, Nat.mul_one]
  · refine nearest_exact single _ m' _ _ (Nat.le_of_lt h) ?_
    rw [hl1, hl2, ← e2]
    rw [hR] at g2
    rcases Nat.le_total gapE k' with h1 | h1
    · rw [show (-1074 + (k' : Int) - -149).toNat = k' - gapE by omega, show (-149 - (-1074 + (k' : Int))).toNat = 0 by omega, Nat.pow_zero, Nat.mul_one]
      refine Nat.eq_of_mul_eq_mul_right (Nat.two_pow_pos gapE) ?_
      rw [Nat.mul_assoc, Nat.mul_assoc, ← Nat.pow_add, ← Nat.pow_add, Nat.sub_add_cancel h1]
      exact g2
    · rw [show (-1074 + (k' : Int) - -149).toNat = 0 by omega, show (-149 - (-1074 + (k' : Int))).toNat = gapE - k' by omega, Nat.pow_zero, Nat.mul_one]
      refine Nat.eq_of_mul_eq_mul_right (Nat.two_pow_pos k') ?_
      rw [Nat.mul_assoc, Nat.mul_assoc, ← Nat.pow_add, ← Nat.pow_add, show k + (gapE - k' + k') = k + gapE by omega]
      exact g2
end Flt
end Go.Proofs.YtleeahigceppiaaDoor

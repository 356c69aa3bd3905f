/- law4.small. -/
import Derived.Test.YtleeahigceppiaaDoorYO
import Derived.Test.YtleeahigceppiaaDoorQP
import Derived.Deep.CutRange
/- The floats of whole numbers: plain. -/
namespace Go.Proofs.YtleeahigceppiaaDoor
open Go.RowKit
open M
open Flt
set_option linter.unusedVariables false
set_option linter.unusedSimpArgs false

/-- p is the pattern of n, T the power of the least place. -/
structure SmallV (T : Nat) (n : Int) (p : Nat) : Prop where
  lt : p < 18446744073709551616
  fin : p % 9223372036854775808 < 9218868437227405312
  neg : 9223372036854775808 ≤ p ↔ n < 0
  val : V Ieee.double (p % 9223372036854775808) = n.natAbs * 2 ^ T

theorem SmallV.zero (T : Nat) : SmallV T 0 0 := ⟨by omega, by omega, by omega, by rw [show 0 % 9223372036854775808 = 0 from rfl, V_zero]; simp⟩

/-- The way that small goes. -/
theorem SmallV.of (T : Nat) (hT : T = 1074) (n : Int) (k t a p : Nat) (hk : k ≤ 52) (ha : a = n.natAbs) (ht : t < 4503599627370496) (hm : a * 2 ^ k = 4503599627370496 + t) (hp : p = (if n < 0 then 9223372036854775808 else 0) + ((1075 - k) * 4503599627370496 + t)) : SmallV T n p := by
  obtain ⟨j, hj⟩ : ∃ j, T = k + j := ⟨T - k, by omega⟩
  have hj2 : 1075 - k = j + 1 := by omega
  have hj3 : j ≤ 1074 := by omega
  rw [hj2] at hp
  have hr : (j + 1) * 4503599627370496 + t < 9218868437227405312 := by omega
  have hmod : p % 9223372036854775808 = (j + 1) * 4503599627370496 + t := by rw [hp]; split <;> omega
  refine ⟨by rw [hp]; split <;> omega, by rw [hmod]; exact hr, by rw [hp]; split <;> omega, ?_⟩
  rw [hmod, V_field j t ht, ← hm, ha, hj, Nat.pow_add, Nat.mul_assoc]

theorem SmallV.ofV {T : Nat} {n : Int} {p : Nat} (h : SmallV T n p) : ofV p = n * ((2 ^ T : Nat) : Int) := by
  unfold Go.Proofs.YtleeahigceppiaaDoor.ofV W6.sgn
  rw [h.val]
  generalize 2 ^ T = U
  by_cases hn : n < 0
  · have : decide (9223372036854775808 ≤ p) = true := by rw [decide_eq_true_iff]; exact h.neg.2 hn
    rw [this, if_pos rfl, Int.natCast_mul, show ((n.natAbs : Nat) : Int) = -n from by omega, Int.neg_mul, Int.neg_neg]
  · have : decide (9223372036854775808 ≤ p) = false := by rw [decide_eq_false_iff_not]; exact fun h1 => hn (h.neg.1 h1)
    rw [this, if_neg (by simp), Int.natCast_mul, show ((n.natAbs : Nat) : Int) = n from by omega]

theorem SmallV.notDark {T : Nat} {n : Int} {p : Nat} (h : SmallV T n p) : p ≠ 9223372036854775808 := by
  intro e
  have h1 := h.neg.1 (by omega)
  have h2 := h.val
  rw [e, show 9223372036854775808 % 9223372036854775808 = 0 from rfl, V_zero] at h2
  have h3 : 0 < n.natAbs * 2 ^ T := Nat.mul_pos (by omega) (Nat.pos_of_ne_zero (by simp))
  omega

/-- What Sum tells of a whole number is its pattern. -/
theorem SmallV.sum {T : Nat} {n : Int} {p val : Nat} (h : SmallV T n p) (hv : ShareV (n * ((2 ^ T : Nat) : Int)) 1 val) : val = p := by
  obtain ⟨head, more, e', hval, hl⟩ := hv
  have hU : 0 < 2 ^ T := Nat.pos_of_ne_zero (by simp)
  have habs : (n * ((2 ^ T : Nat) : Int)).natAbs = n.natAbs * 2 ^ T := by rw [Int.natAbs_mul, Int.natAbs_natCast]
  have hsg : decide (n * ((2 ^ T : Nat) : Int) < 0) = decide (n < 0) := by
    by_cases hn : n < 0
    · have : n * ((2 ^ T : Nat) : Int) < 0 := Int.mul_neg_of_neg_of_pos hn (by omega)
      simp only [hn, this]
    · have : ¬ n * ((2 ^ T : Nat) : Int) < 0 := by have := Int.mul_nonneg (Int.not_lt.1 hn) (Int.natCast_nonneg (2 ^ T)); omega
      simp only [hn, this]
  rw [habs] at hl
  rw [hsg] at hval
  have hu : unsF 53 1074 9218868437227405312 head more e' = p % 9223372036854775808 := by
    by_cases h0 : n = 0
    · rw [h0] at hl
      simp only [Int.natAbs_zero, Nat.zero_mul] at hl
      rw [uns_zero _ _ _ _ _ _ _ _ hl]
      have := h.val
      rw [h0] at this
      simp only [Int.natAbs_zero, Nat.zero_mul] at this
      rw [← V_zero Ieee.double] at this
      exact (V_inj this).symm
    · have hpos : 0 < n.natAbs * 2 ^ T := Nat.mul_pos (by omega) hU
      rw [uns64_rnd _ 1 (-1074) head more e' (by omega) hpos (by omega) (by omega) hl]
      unfold exN exD
      rw [show ((-1074 : Int) + ((1074 : Nat) : Int)).toNat = 0 from rfl, show (-((-1074 : Int) + ((1074 : Nat) : Int))).toNat = 0 from rfl, Nat.pow_zero, Nat.mul_one, Nat.mul_one, ← h.val, rnd_V]
      exact Nat.min_eq_left (Nat.le_of_lt h.fin)
  rw [hval, hu]
  unfold wdX
  have := h.lt
  have hs := h.neg
  by_cases hn : n < 0
  · rw [decide_eq_true hn, if_pos rfl]; have := hs.2 hn; omega
  · rw [decide_eq_false hn, if_neg (by simp)]; have : ¬ 9223372036854775808 ≤ p := fun h1 => hn (hs.1 h1)
    omega

theorem sum_small (T : Nat) (hT : T = 1074) (n : Int) (h : n.natAbs < 9007199254740992) : 2 * (n * ((2 ^ T : Nat) : Int)).natAbs < 18446744073709551616 ^ 34 := by
  rw [Int.natAbs_mul, Int.natAbs_natCast]
  obtain ⟨K, hK⟩ : ∃ K, K = 1048 := ⟨_, rfl⟩
  have e : (18446744073709551616 : Nat) ^ 34 = 2 ^ (54 + T + K) := by
    rw [show (18446744073709551616 : Nat) = 2 ^ 64 from rfl, ← Nat.pow_mul]
    congr 1; omega
  rw [e, Nat.pow_add, Nat.pow_add]
  have hU : 0 < 2 ^ T := Nat.pos_of_ne_zero (by simp)
  have h1 : 2 * (n.natAbs * 2 ^ T) < 2 ^ 54 * 2 ^ T := by
    rw [← Nat.mul_assoc]
    exact Nat.mul_lt_mul_of_pos_right (by omega) hU
  exact Nat.lt_of_lt_of_le h1 (Nat.le_mul_of_pos_right _ (Nat.two_pow_pos _))

end Go.Proofs.YtleeahigceppiaaDoor

namespace Go.Proofs.YtleeahigceppiaaDoor
open Go.RowKit
open M
open Flt
set_option linter.unusedVariables false
set_option linter.unusedSimpArgs false

theorem lay_bits (s e m t : Nat) (hs : s = 9223372036854775808 ∨ s = 0) (he : e ≤ 1075) (hm : m = 4503599627370496 + t) (ht : t < 4503599627370496) :
    bits BinOp.or IntKind.u64 (bits BinOp.or IntKind.u64 (s : Int) ((e * 4503599627370496 : Nat) : Int)) (bits BinOp.and IntKind.u64 (m : Int) 4503599627370495) = ((s + (e * 4503599627370496 + t) : Nat) : Int) := by
  have h1 : bits BinOp.and IntKind.u64 (m : Int) 4503599627370495 = (t : Int) := by
    have := bits_mask .u64 64 (by decide) (fun n h0 h1 => by simp only [IntKind.wrap, IntKind.bits, IntKind.signed]; simp; omega) 52 (by omega) (m : Int) (by omega) (by omega)
    rw [show ((2 : Int) ^ 52 - 1) = 4503599627370495 from rfl] at this
    rw [this]; omega
  have h2 : bits BinOp.or IntKind.u64 (s : Int) ((e * 4503599627370496 : Nat) : Int) = ((s + e * 4503599627370496 : Nat) : Int) := by
    have := bits_join .u64 64 (by decide) (fun n h0 h1 => by simp only [IntKind.wrap, IntKind.bits, IntKind.signed]; simp; omega) 63 (s : Int) ((e * 4503599627370496 : Nat) : Int) (by omega) (by rcases hs with rfl | rfl <;> rfl) (by omega) (by omega) (by omega) (by omega)
    rw [this]; omega
  rw [h1, h2]
  have := bits_join .u64 64 (by decide) (fun n h0 h1 => by simp only [IntKind.wrap, IntKind.bits, IntKind.signed]; simp; omega) 52 ((s + e * 4503599627370496 : Nat) : Int) (t : Int) (by omega) (by omega) (by omega) (by omega) (by omega) (by omega)
  rw [this]; omega

theorem dbl_lt (a k : Nat) (ha : 0 < a) (h : a * 2 ^ k < 4503599627370496) : k < 52 := by
  rcases Nat.lt_or_ge k 52 with h1 | h1
  · exact h1
  · have h2 : 2 ^ 52 ≤ 2 ^ k := Nat.pow_le_pow_right (by omega) h1
    have h3 : 1 * 2 ^ k ≤ a * 2 ^ k := Nat.mul_le_mul_right _ ha
    have : (2 : Nat) ^ 52 = 4503599627370496 := rfl
    omega

set_option maxRecDepth 100000 in
set_option maxHeartbeats 2000000 in
theorem small_any (T : Nat) (hT : T = 1074) (n : Int) (w : World) (hn : n.natAbs < 9007199254740992) :
    Calls Tryd.prog 6 #[.int .i64 n] w fun e w' => ∃ p : Nat, e = .returned (.int .u64 (p : Nat)) ∧ SmallV T n p ∧ w' = w := by
  by_cases h0 : n = 0
  · subst h0
    have HZ := hide (SmallV.zero T)
    clear hT hn
    go_enter Tryd.func6, Tryd.ntmps6
    go_wp2_with fail
    go_ret
    exact ⟨0, rfl, HZ.out, rfl⟩
  obtain ⟨a, ha⟩ : ∃ a, a = n.natAbs := ⟨_, rfl⟩
  obtain ⟨S, hS⟩ : ∃ S : Nat, S = if n < 0 then 9223372036854775808 else 0 := ⟨_, rfl⟩
  have HF := hide (fun (k t p : Nat) (hk : k ≤ 52) (ht : t < 4503599627370496) (hm : a * 2 ^ k = 4503599627370496 + t) (hp : p = S + ((1075 - k) * 4503599627370496 + t)) => SmallV.of T hT n k t a p hk ha ht hm (by rw [← hS]; exact hp))
  have HS : Hid (S = 9223372036854775808 ∨ S = 0) := by show _ ∨ _; rw [hS]; split <;> simp
  have ha0 : 0 < a := by omega
  have ha53 : a < 9007199254740992 := by omega
  have hne : (n == 0) = false := by rw [beq_eq_false_iff_ne]; exact h0
  have HAS := hide (And.intro ha hS)
  clear hT ha hS hn
  go_enter Tryd.func6, Tryd.ntmps6
  go_upto_if 11 with fail
  go_cut [3, 4] from 6 (fun t3 t4 wc => t3 = .int .u64 (S : Int) ∧ t4 = .int .u64 (a : Int) ∧ w = wc)
  case first =>
    by_cases hneg : n < 0
    · obtain ⟨e1, e2⟩ := HAS.out
      rw [if_pos hneg] at e2
      have q1 : wrap64 (-n) = (a : Int) := by unfold wrap64; omega
      have q2 : -n = (a : Int) := by omega
      have q3 : IntKind.u64.wrap (a : Int) = (a : Int) := by simp only [IntKind.wrap, IntKind.bits, IntKind.signed]; simp; omega
      subst e2
      clear e1
      go_wp2_with fail
      go_meet
      case rel => exact ⟨rfl, rfl, rfl⟩
    · obtain ⟨e1, e2⟩ := HAS.out
      rw [if_neg hneg] at e2
      have q1 : n = (a : Int) := by omega
      have q3 : IntKind.u64.wrap (a : Int) = (a : Int) := by simp only [IntKind.wrap, IntKind.bits, IntKind.signed]; simp; omega
      subst e2
      subst q1
      clear e1
      go_wp2_with fail
      go_meet
      case rel => exact ⟨rfl, rfl, rfl⟩
  case rest =>
    obtain ⟨rfl, rfl, rfl⟩ := hcut
    go_wp2_with fail
    go_loopw [4, 5] (fun t4 t5 wr => ∃ k m e : Nat, t4 = .int .u64 (m : Int) ∧ t5 = .int .u64 (e : Int) ∧ Hid (k ≤ 52 ∧ m = a * 2 ^ k ∧ e = 1075 - k) ∧ m < 9007199254740992 ∧ w = wr) (fun _ t5 _ => (intOf t5).toNat)
    case atStart => exact ⟨0, a, 1075, rfl, rfl, ⟨by omega, by simp, by omega⟩, ha53, rfl⟩
    case round =>
      obtain ⟨k, m, e, rfl, rfl, hI, hm53, rfl⟩ := hrel
      obtain ⟨i1, i2, i3⟩ := hI.out
      by_cases hlow : m < 4503599627370496
      · have hd : decide ((m : Int) < 4503599627370496) = true := by rw [decide_eq_true_iff]; omega
        have hk52 := dbl_lt a k ha0 (by rw [← i2]; exact hlow)
        have i4 : 2 * m = a * 2 ^ (k + 1) := by rw [i2, Nat.pow_succ, ← Nat.mul_assoc a]; exact Nat.mul_comm _ _
        have he1 : 1 ≤ e := by omega
        have HK := hide (And.intro hk52 (And.intro i4 i3))
        obtain ⟨e', rfl⟩ : ∃ e', e = e' + 1 := ⟨e - 1, by omega⟩
        have qe : IntKind.u64.wrap (e' : Int) = (e' : Int) := by simp only [IntKind.wrap, IntKind.bits, IntKind.signed]; simp; omega
        clear i1 i2 i3 i4 hk52
        go_wp2_with fail
        refine ⟨⟨k + 1, 2 * m, e', by rw [Int.mul_comm]; rfl, rfl, ⟨by have := HK.out; omega, HK.out.2.1, by have := HK.out; omega⟩, by omega, by trivial⟩, ?_⟩
        simp [intOf]
      · have hd : decide ((m : Int) < 4503599627370496) = false := by rw [decide_eq_false_iff_not]; omega
        obtain ⟨t, ht⟩ : ∃ t, m = 4503599627370496 + t := ⟨m - 4503599627370496, by omega⟩
        have hbits := lay_bits S e m t HS.out (by omega) ht (by omega)
        have HE := hide (HF.out k t (S + (e * 4503599627370496 + t)) i1 (by omega) (by rw [← i2]; exact ht) (by rw [i3]))
        have qs : IntKind.u64.wrap ((e : Int) * 4503599627370496) = ((e * 4503599627370496 : Nat) : Int) := by simp only [IntKind.wrap, IntKind.bits, IntKind.signed]; simp; omega
        have HQ := hide hbits
        clear i1 i2 i3 ht hlow hbits
        go_wp2_with fail
        go_ret
        refine ⟨S + (e * 4503599627370496 + t), ?_, HE.out, rfl⟩
        rw [← HQ.out]; rfl

end Go.Proofs.YtleeahigceppiaaDoor

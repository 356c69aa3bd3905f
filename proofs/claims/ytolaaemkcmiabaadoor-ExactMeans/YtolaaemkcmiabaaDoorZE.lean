/- Moments of finite values: spread, isFinite, Mean. -/
import Derived.Test.YtolaaemkcmiabaaDoorYI
import Derived.Test.YtolaaemkcmiabaaDoorYK
import Derived.Test.YtolaaemkcmiabaaDoorRK
import Derived.Test.YtolaaemkcmiabaaDoorYE
/- Moments of finite values: share, Sum, Count. -/
namespace Go.Proofs.YtolaaemkcmiabaaDoor
open Go.RowKit
open M
open Flt
set_option linter.unusedVariables false
set_option linter.unusedSimpArgs false

/-- What a share of the sum is: some leading bits' float. -/
def ShareV (S : Int) (n val : Nat) : Prop := ∃ head more e', val = wdX (decide (S < 0)) 9223372036854775808 (unsF 53 1074 9218868437227405312 head more e') ∧ LeadQ S.natAbs n (-1074) head more e'

set_option maxRecDepth 100000 in
set_option maxHeartbeats 2000000 in
theorem share_num {w : World} {g c : Nat} {S S2 : Int} (n : Nat) (h : Mo w g c false S S2) (hc : 0 < c) (hn : 0 < n) (hn2 : n < 18446744073709551616) (hS : 2 * S.natAbs < 18446744073709551616 ^ 34) :
    Calls Tryd.prog 17 #[.pointer (some ⟨g, 0, none⟩), .int .u64 n] w fun e w' => ∃ val : Nat, e = .returned (.int .u64 val) ∧ ShareV S n val ∧ Below w.heap.size w w' := by
  have k0 := h.k0
  have k1 := h.k1
  have k2 := h.k2
  have k3 := h.k3
  have k4 := h.k4
  have hc' : ¬ (c : Int) = 0 := by omega
  have HNu := hide (numberOf_any g 5 34 34 S w h.su (by omega) (by omega) (by omega) (by omega) h.lt hS)
  have HC := hide (fun w : World => count_any n w hn2)
  have HO := hide (fun (w' : World) (v u : Value) (a : Num w' v S.natAbs) (b : Num w' u n) => over_any (decide (S < 0)) false (-1074) a b hn)
  unfold NumEnd at HNu
  unfold OverEnd at HO
  unfold ShareV
  generalize decide (S < 0) = neg at *
  generalize S.natAbs = M at *
  clear h hn2 hS hn
  go_enter Tryd.func17, Tryd.ntmps17
  go_wp2_with fail
  refine HNu.out.mono ?_
  rintro e w1 ⟨v, rfl, hv, b1⟩
  have H1 := hide (And.intro hv b1)
  clear hv b1 k0 k1 k2 k3 k4
  go_wp2_with fail
  refine (HC.out _).mono ?_
  rintro e w2 ⟨u, rfl, hu, b2⟩
  have H2 := hide (And.intro hu b2)
  clear hu b2
  go_wp2_with fail
  refine (HO.out _ _ _ (H1.out.1.below H2.out.2) H2.out.1).mono ?_
  rintro e w3 ⟨head, more, e', rfl, hl, b3⟩
  have H3 := hide (And.intro hl b3)
  clear hl b3
  generalize hval : wdX neg 9223372036854775808 (unsF 53 1074 9218868437227405312 head more e') = val at *
  have HV := hide hval
  clear hval
  go_wp2_with fail
  go_ret
  refine ⟨val, rfl, ⟨head, more, e', HV.out.symm, H3.out.1⟩, ?_⟩
  exact (H1.out.2.trans (H2.out.2.mono H1.out.2.size)).trans (H3.out.2.mono (Nat.le_trans H1.out.2.size H2.out.2.size))

set_option maxRecDepth 100000 in
set_option maxHeartbeats 2000000 in
theorem share_dark {w : World} {g c : Nat} {S S2 : Int} (n : Nat) (h : Mo w g c true S S2) :
    Calls Tryd.prog 17 #[.pointer (some ⟨g, 0, none⟩), .int .u64 n] w fun e w' => e = .returned (.int .u64 9223372036854775808) ∧ w' = w := by
  have k0 := h.k0
  have k1 := h.k1
  have k2 := h.k2
  have k3 := h.k3
  have k4 := h.k4
  clear h
  go_enter Tryd.func17, Tryd.ntmps17
  go_wp2_with fail
  go_ret
  exact ⟨rfl, rfl⟩

set_option maxRecDepth 100000 in
set_option maxHeartbeats 2000000 in
theorem share_none {w : World} {g : Nat} {S S2 : Int} (n : Nat) (h : Mo w g 0 false S S2) :
    Calls Tryd.prog 17 #[.pointer (some ⟨g, 0, none⟩), .int .u64 n] w fun e w' => e = .returned (.int .u64 0) ∧ w' = w := by
  have k0 : w.cell? ⟨g, 0, none⟩ = some (.int .u64 0) := h.k0
  have k1 := h.k1
  have k2 := h.k2
  have k3 := h.k3
  have k4 := h.k4
  clear h
  go_enter Tryd.func17, Tryd.ntmps17
  go_wp2_with fail
  go_ret
  exact ⟨rfl, rfl⟩

set_option maxRecDepth 100000 in
set_option maxHeartbeats 2000000 in
theorem Sum_of {w : World} {g c : Nat} {dark : Bool} {S S2 : Int} (Pr : Nat → Prop) (h : Mo w g c dark S S2)
    (hsh : ∀ w1 : World, Mo w1 g c dark S S2 → Calls Tryd.prog 17 #[.pointer (some ⟨g, 0, none⟩), .int .u64 1] w1 fun e w' => ∃ val : Nat, e = .returned (.int .u64 val) ∧ Pr val ∧ Below w1.heap.size w1 w') :
    Calls Tryd.prog 12 #[.pointer (some ⟨g, 0, none⟩)] w fun e w' => ∃ val : Nat, e = .returned (.tuple #[.int .u64 val, .bool (decide (0 < c))]) ∧ Pr val ∧ Below w.heap.size w w' := by
  have HS := hide (fun (w1 : World) (hb : Below w.heap.size w w1) => hsh w1 (h.below hb h.lt))
  have k0 : w.drew.cell? ⟨g, 0, none⟩ = some (.int .u64 (c : Nat)) := h.k0
  have HI : Hid (Below w.heap.size w w.drew) := (Below.refl _ w).drew
  clear h hsh
  go_enter Tryd.func12, Tryd.ntmps12
  go_wp2_with fail
  go_region_held3 (fun w' => w'.cell? ⟨g, 0, none⟩ = some (.int .u64 (c : Nat))) (exact k0)
    (first | (go_at_call 17; go_must (refine (HS.out _ HI.out).mono ?_); rintro _ w5 ⟨val, rfl, hp, B5⟩; have HP := hide hp; have HI := hide (HI.out.trans (B5.mono HI.out.size)); have k0 : w5.cell? ⟨g, 0, none⟩ = some (.int .u64 (c : Nat)) := (by rw [B5.cell (p := ⟨g, 0, none⟩) (block_lt_of_cell k0)]; exact k0); clear B5 hp))
  go_wp2_with fail
  go_ret2
  exact ⟨val, rfl, HP.out, HI.out⟩

set_option maxRecDepth 100000 in
theorem Count_any {w : World} {g c : Nat} {dark : Bool} {S S2 : Int} (h : Mo w g c dark S S2) : Calls Tryd.prog 27 #[.pointer (some ⟨g, 0, none⟩)] w fun e w' => e = .returned (.int .u64 (c : Nat)) ∧ w' = w := by
  have k0 := h.k0
  clear h
  go_enter Tryd.func27, Tryd.ntmps27
  go_wp2_with fail
  go_ret
  exact ⟨rfl, rfl⟩

end Go.Proofs.YtolaaemkcmiabaaDoor

/- ExactMeans: the mathematics. -/
namespace Go.Proofs.YtolaaemkcmiabaaDoor
open Go.RowKit
open M
open Flt
set_option linter.unusedVariables false
set_option linter.unusedSimpArgs false

/-- What is known of c numbers between l and g: their sum S, that of their squares S2. -/
structure MSt (c S S2 l g : Int) : Prop where
  pos : 0 < c
  lo : c * l ≤ S
  hi : S ≤ c * g
  sq : S2 ≤ (l + g) * S - c * l * g
  hom : ∀ y z : Int, 0 ≤ z * z * S2 - 2 * y * z * S + c * (y * y)
  le : l ≤ g

theorem sq_nonneg (a : Int) : 0 ≤ a * a := by
  rcases Int.le_total 0 a with h | h
  · exact Int.mul_nonneg h h
  · exact Int.mul_nonneg_of_nonpos_of_nonpos h h

theorem MSt.first (x : Int) : MSt 1 x (x * x) x x :=
  ⟨by omega, by omega, by omega, by grind, fun y z => by have := sq_nonneg (z * x - y); grind, Int.le_refl _⟩

theorem MSt.wideL {c S S2 l g : Int} (h : MSt c S S2 l g) (l' : Int) (hl : l' ≤ l) : MSt c S S2 l' g := by
  have h1 : 0 ≤ c * (l - l') := Int.mul_nonneg (by have := h.pos; omega) (by omega)
  have h2 : 0 ≤ (l - l') * (c * g - S) := Int.mul_nonneg (by omega) (by have := h.hi; omega)
  have h3 := h.sq
  have h4 := h.lo
  exact ⟨h.pos, by grind, h.hi, by grind, h.hom, Int.le_trans hl h.le⟩

theorem MSt.wideG {c S S2 l g : Int} (h : MSt c S S2 l g) (g' : Int) (hg : g ≤ g') : MSt c S S2 l g' := by
  have h1 : 0 ≤ c * (g' - g) := Int.mul_nonneg (by have := h.pos; omega) (by omega)
  have h2 : 0 ≤ (g' - g) * (S - c * l) := Int.mul_nonneg (by omega) (by have := h.lo; omega)
  have h3 := h.sq
  have h4 := h.hi
  exact ⟨h.pos, h.lo, by grind, by grind, h.hom, Int.le_trans h.le hg⟩

theorem MSt.add {c S S2 l g : Int} (h : MSt c S S2 l g) (x : Int) (hl : l ≤ x) (hg : x ≤ g) : MSt (c + 1) (S + x) (S2 + x * x) l g := by
  have h1 : 0 ≤ (x - l) * (g - x) := Int.mul_nonneg (by omega) (by omega)
  have h3 := h.sq
  have h4 := h.hi
  have h5 := h.lo
  refine ⟨by have := h.pos; omega, by grind, by grind, by grind, fun y z => ?_, h.le⟩
  have h6 := h.hom y z
  have h7 := sq_nonneg (z * x - y)
  grind

theorem MSt.spread {c S S2 l g : Int} (h : MSt c S S2 l g) : 0 ≤ c * S2 - S * S := by
  have h1 := h.hom S c
  have h2 : 0 ≤ c * (c * S2 - S * S) := by grind
  by_cases h3 : c * S2 - S * S < 0
  · have := Int.mul_neg_of_pos_of_neg h.pos h3; omega
  · omega

theorem MSt.same {c S S2 l : Int} (h : MSt c S S2 l l) : S = c * l ∧ c * S2 - S * S = 0 := by
  have e : S = c * l := by have := h.lo; have := h.hi; omega
  refine ⟨e, ?_⟩
  have h1 := h.spread
  have h2 := h.sq
  have h3 : S2 ≤ c * l * l := by rw [e] at h2; grind
  have h4 : 0 ≤ c * (c * l * l - S2) := Int.mul_nonneg (by have := h.pos; omega) (by omega)
  have h5 : c * S2 - S * S ≤ 0 := by rw [e]; grind
  omega

/-- The float of a share of a sum. -/
def meanV (S : Int) (n : Nat) : Nat := wdX (decide (S < 0)) 9223372036854775808 (if S = 0 then 0 else min (rnd Ieee.double S.natAbs n) 9218868437227405312)

theorem ShareV.eq {S : Int} {n val : Nat} (h : ShareV S n val) (hn : 0 < n) : val = meanV S n := by
  obtain ⟨head, more, e', hv, hL⟩ := h
  rw [hv]
  unfold meanV
  by_cases h0 : S = 0
  · subst h0
    rw [if_pos rfl, uns_zero _ _ _ _ _ _ _ _ hL]
  · rw [if_neg h0, uns64_rnd _ _ _ _ _ _ hn (by omega) (by omega) (by omega) hL]
    have e1 : exN S.natAbs 1074 (-1074) = S.natAbs := by unfold exN; simp
    have e2 : exD n 1074 (-1074) = n := by unfold exD; simp
    rw [e1, e2]

theorem wdX_lt {neg : Bool} {r : Nat} (hr : r ≤ 9218868437227405312) : wdX neg 9223372036854775808 r < 18446744073709551616 := by unfold wdX; split <;> omega
theorem wdX_mod {neg : Bool} {r : Nat} (hr : r ≤ 9218868437227405312) : wdX neg 9223372036854775808 r % 9223372036854775808 = r := by unfold wdX; split <;> omega

theorem meanV_lt (S : Int) (n : Nat) : meanV S n < 18446744073709551616 := by
  unfold meanV
  exact wdX_lt (by split <;> omega)

/-- A finite pattern. -/
def Fin64 (b : Nat) : Prop := b < 18446744073709551616 ∧ b % 9223372036854775808 < 9218868437227405312

/-- A number's place. -/
def kyv (b : Nat) : Nat := if 9223372036854775808 ≤ b then 18446744073709551615 - b else b + 9223372036854775808

theorem ofV_pos {b : Nat} (h : b < 9223372036854775808) : ofV b = (V Ieee.double b : Int) := by
  unfold ofV W6.sgn
  rw [if_neg (by simp; omega), Nat.mod_eq_of_lt h]
theorem ofV_neg {b : Nat} (h : 9223372036854775808 ≤ b) (h2 : b < 18446744073709551616) : ofV b = -(V Ieee.double (b - 9223372036854775808) : Int) := by
  unfold ofV W6.sgn
  rw [if_pos (by simp; omega), show b % 9223372036854775808 = b - 9223372036854775808 by omega]

theorem ofV_le {a b : Nat} (ha : a < 18446744073709551616) (hb : b < 18446744073709551616) (h : kyv a ≤ kyv b) : ofV a ≤ ofV b := by
  unfold kyv at h
  by_cases h1 : 9223372036854775808 ≤ a
  · rw [if_pos h1] at h
    rw [ofV_neg h1 ha]
    by_cases h2 : 9223372036854775808 ≤ b
    · rw [if_pos h2] at h
      rw [ofV_neg h2 hb]
      have := V_le (f := Ieee.double) (show b - 9223372036854775808 ≤ a - 9223372036854775808 by omega)
      omega
    · rw [ofV_pos (by omega)]; omega
  · rw [if_neg h1] at h
    by_cases h2 : 9223372036854775808 ≤ b
    · rw [if_pos h2] at h; omega
    · rw [if_neg h2] at h
      rw [ofV_pos (by omega), ofV_pos (by omega)]
      have := V_le (f := Ieee.double) (show a ≤ b by omega)
      omega

theorem hfd : 1 ≤ Ieee.double.fractionBits := by decide

/-- The mean lies from the least to the greatest. -/
theorem mean_between {S S2 : Int} {c pl pg : Nat} (hl : Fin64 pl) (hg : Fin64 pg) (h : MSt c S S2 (ofV pl) (ofV pg)) (h0 : meanV S c % 9223372036854775808 ≠ 0) : kyv pl ≤ kyv (meanV S c) ∧ kyv (meanV S c) ≤ kyv pg := by
  have hc : 0 < c := by have := h.pos; omega
  have hS0 : S ≠ 0 := fun e => by
    apply h0; unfold meanV; rw [if_pos e, wdX_mod (by omega)]
  unfold meanV at h0 ⊢
  rw [if_neg hS0] at h0 ⊢
  obtain ⟨r, hr⟩ : ∃ r, r = rnd Ieee.double S.natAbs c := ⟨_, rfl⟩
  rw [← hr] at h0 ⊢
  have hm : min r 9218868437227405312 ≤ 9218868437227405312 := by omega
  rw [wdX_mod hm] at h0
  have hlo := h.lo
  have hhi := h.hi
  have dl := hl.1
  have dg := hg.1
  have fl := hl.2
  have fg := hg.2
  by_cases hn : S < 0
  · have e : wdX (decide (S < 0)) 9223372036854775808 (min r 9218868437227405312) = 9223372036854775808 + min r 9218868437227405312 := by unfold wdX; simp [hn]
    rw [e]
    have hlneg : 9223372036854775808 ≤ pl := by
      rcases Nat.lt_or_ge pl 9223372036854775808 with h1 | h1
      · rw [ofV_pos h1] at hlo
        have : (0 : Int) ≤ c * (V Ieee.double pl : Int) := Int.mul_nonneg (by omega) (by omega)
        omega
      · exact h1
    rw [ofV_neg hlneg hl.1] at hlo
    have r1 : r ≤ pl - 9223372036854775808 := by
      rw [hr]
      refine rnd_le _ hfd _ _ _ hc ?_
      have : ((S.natAbs : Nat) : Int) ≤ ((V Ieee.double (pl - 9223372036854775808) * c : Nat) : Int) := by
        rw [Int.natCast_mul]
        have : (c : Int) * -(V Ieee.double (pl - 9223372036854775808) : Int) = -((V Ieee.double (pl - 9223372036854775808) : Int) * c) := by grind
        omega
      exact_mod_cast this
    refine ⟨?_, ?_⟩
    · unfold kyv; rw [if_pos hlneg, if_pos (by omega)]; omega
    · by_cases h1 : 9223372036854775808 ≤ pg
      · rw [ofV_neg h1 hg.1] at hhi
        have r2 : pg - 9223372036854775808 ≤ r := by
          rw [hr]
          refine le_rnd _ hfd _ _ _ hc ?_
          have : ((V Ieee.double (pg - 9223372036854775808) * c : Nat) : Int) ≤ ((S.natAbs : Nat) : Int) := by
            rw [Int.natCast_mul]
            have : (c : Int) * -(V Ieee.double (pg - 9223372036854775808) : Int) = -((V Ieee.double (pg - 9223372036854775808) : Int) * c) := by grind
            omega
          exact_mod_cast this
        unfold kyv; rw [if_pos h1, if_pos (by omega)]; omega
      · unfold kyv; rw [if_neg h1, if_pos (by omega)]; omega
  · have e : wdX (decide (S < 0)) 9223372036854775808 (min r 9218868437227405312) = min r 9218868437227405312 := by unfold wdX; simp [hn]
    rw [e]
    have hgpos : pg < 9223372036854775808 := by
      rcases Nat.lt_or_ge pg 9223372036854775808 with h1 | h1
      · exact h1
      · rw [ofV_neg h1 hg.1] at hhi
        have : (0 : Int) ≤ c * (V Ieee.double (pg - 9223372036854775808) : Int) := Int.mul_nonneg (by omega) (by omega)
        have : (c : Int) * -(V Ieee.double (pg - 9223372036854775808) : Int) = -(c * (V Ieee.double (pg - 9223372036854775808) : Int)) := by grind
        omega
    rw [ofV_pos hgpos] at hhi
    have r1 : r ≤ pg := by
      rw [hr]
      refine rnd_le _ hfd _ _ _ hc ?_
      have : ((S.natAbs : Nat) : Int) ≤ ((V Ieee.double pg * c : Nat) : Int) := by
        rw [Int.natCast_mul]
        have : (c : Int) * (V Ieee.double pg : Int) = (V Ieee.double pg : Int) * c := by grind
        omega
      exact_mod_cast this
    refine ⟨?_, ?_⟩
    · by_cases h1 : 9223372036854775808 ≤ pl
      · unfold kyv; rw [if_pos h1, if_neg (by omega)]; omega
      · rw [ofV_pos (by omega)] at hlo
        have r2 : pl ≤ r := by
          rw [hr]
          refine le_rnd _ hfd _ _ _ hc ?_
          have : ((V Ieee.double pl * c : Nat) : Int) ≤ ((S.natAbs : Nat) : Int) := by
            rw [Int.natCast_mul]
            have : (c : Int) * (V Ieee.double pl : Int) = (V Ieee.double pl : Int) * c := by grind
            omega
          exact_mod_cast this
        unfold kyv; rw [if_neg h1, if_neg (by omega)]; omega
    · unfold kyv; rw [if_neg (by omega), if_neg (by omega)]; omega

/-- Of one number the mean is that. -/
theorem mean_same {S : Int} {c p : Nat} (hp : Fin64 p) (hc : 0 < c) (hS : S = c * ofV p) : meanV S c % 9223372036854775808 = p % 9223372036854775808 := by
  have fp := hp.2
  have hm : S.natAbs = V Ieee.double (p % 9223372036854775808) * c := by
    rw [hS, Int.natAbs_mul]
    unfold ofV W6.sgn
    split <;> simp [Nat.mul_comm]
  unfold meanV
  by_cases h0 : S = 0
  · rw [if_pos h0, wdX_mod (by omega)]
    rw [h0] at hm
    have hV : V Ieee.double (p % 9223372036854775808) = 0 := by
      rcases Nat.eq_zero_or_pos (V Ieee.double (p % 9223372036854775808)) with h1 | h1
      · exact h1
      · have := Nat.mul_pos h1 hc
        simp at hm
        omega
    have := V_inj (f := Ieee.double) (r := p % 9223372036854775808) (s := 0) (by rw [hV, V_zero])
    omega
  · rw [if_neg h0, hm]
    have e : rnd Ieee.double (V Ieee.double (p % 9223372036854775808) * c) c = p % 9223372036854775808 := by
      have := rnd_scale Ieee.double (V Ieee.double (p % 9223372036854775808)) 1 c hc
      rw [Nat.one_mul] at this
      rw [this, rnd_V]
    rw [e, wdX_mod (by omega)]
    omega

end Go.Proofs.YtolaaemkcmiabaaDoor

namespace Go.Proofs.YtolaaemkcmiabaaDoor
open Go.RowKit
open M
open Flt
set_option linter.unusedVariables false
set_option linter.unusedSimpArgs false

theorem fits_pw {N k : Nat} (hk : k ≤ 4096) (h : N < 18446744073709551616 ^ k) : Fits N := ⟨2 * k, by omega, by rw [← pw_two32]; exact h⟩

theorem fits_mul {A C a b : Nat} (hA : A < 18446744073709551616 ^ a) (hC : C < 18446744073709551616 ^ b) (h : a + b ≤ 4096) : Fits (A * C) :=
  fits_pw h (by rw [Nat.pow_add]; exact Nat.mul_lt_mul_of_lt_of_le hA (Nat.le_of_lt hC) (Nat.pow_pos (by omega)))

set_option maxRecDepth 100000 in
theorem isFinite_any {w : World} {g c : Nat} {dark : Bool} {S S2 : Int} (h : Mo w g c dark S S2) : Calls Tryd.prog 19 #[.pointer (some ⟨g, 0, none⟩)] w fun e w' => e = .returned (.bool true) ∧ w' = w := by
  have k1 := h.k1
  have k2 := h.k2
  have k3 := h.k3
  clear h
  go_enter Tryd.func19, Tryd.ntmps19
  go_wp2_with fail
  go_ret
  exact ⟨rfl, rfl⟩

set_option maxRecDepth 100000 in
set_option maxHeartbeats 2000000 in
theorem Mean_of {w : World} {g c : Nat} {dark : Bool} {S S2 : Int} (Pr : Nat → Prop) (h : Mo w g c dark S S2)
    (hsh : ∀ w1 : World, Mo w1 g c dark S S2 → Calls Tryd.prog 17 #[.pointer (some ⟨g, 0, none⟩), .int .u64 (c : Nat)] w1 fun e w' => ∃ val : Nat, e = .returned (.int .u64 val) ∧ Pr val ∧ Below w1.heap.size w1 w') :
    Calls Tryd.prog 8 #[.pointer (some ⟨g, 0, none⟩)] w fun e w' => ∃ val : Nat, e = .returned (.tuple #[.int .u64 val, .bool (decide (0 < c))]) ∧ Pr val ∧ Below w.heap.size w w' := by
  have HS := hide (fun (w1 : World) (hb : Below w.heap.size w w1) => hsh w1 (h.below hb h.lt))
  have k0 : w.drew.cell? ⟨g, 0, none⟩ = some (.int .u64 (c : Nat)) := h.k0
  have HI : Hid (Below w.heap.size w w.drew) := (Below.refl _ w).drew
  clear h hsh
  go_enter Tryd.func8, Tryd.ntmps8
  go_wp2_with fail
  go_region_held3 (fun w' => w'.cell? ⟨g, 0, none⟩ = some (.int .u64 (c : Nat))) (exact k0)
    (first | (go_at_call 17; go_must (refine (HS.out _ HI.out).mono ?_); rintro _ w5 ⟨val, rfl, hp, B5⟩; have HP := hide hp; have HI := hide (HI.out.trans (B5.mono HI.out.size)); have k0 : w5.cell? ⟨g, 0, none⟩ = some (.int .u64 (c : Nat)) := (by rw [B5.cell (p := ⟨g, 0, none⟩) (block_lt_of_cell k0)]; exact k0); clear B5 hp))
  go_wp2_with fail
  go_ret2
  exact ⟨val, rfl, HP.out, HI.out⟩

set_option maxRecDepth 100000 in
set_option maxHeartbeats 16000000 in
theorem mspread_num {w : World} {g c : Nat} {dark : Bool} {S S2 : Int} (h : Mo w g c dark S S2) (hc : c < 18446744073709551616) (hS : 2 * S.natAbs < 18446744073709551616 ^ 34) (hS2 : 2 * S2.natAbs < 18446744073709551616 ^ 67) (h0 : 0 ≤ S2) (hle : 0 ≤ (c : Int) * S2 - S * S) :
    Calls Tryd.prog 24 #[.pointer (some ⟨g, 0, none⟩)] w fun e w' => ∃ r, e = .returned (.agg #[.bool false, r]) ∧ NumO w' w.heap.size r ((c : Int) * S2 - S * S).natAbs ∧ Below w.heap.size w w' := by
  have HNs := hide (fun (w1 : World) (hb : Below w.heap.size w w1) => numberOf_any g 5 34 34 S w1 (h.below hb h.lt).su (by omega) (by omega) (by omega) (by omega) (h.below hb h.lt).lt hS)
  have HNq := hide (fun (w1 : World) (hb : Below w.heap.size w w1) => numberOf_any g 39 67 67 S2 w1 (h.below hb h.lt).sq (by omega) (by omega) (by omega) (by omega) (h.below hb h.lt).lt hS2)
  have HCn := hide (fun w1 : World => count_any c w1 hc)
  have e0 : decide (S2 < 0) = false := by rw [decide_eq_false_iff_not]; omega
  have HSp : Hid (∀ (w1 : World) (vn vq vs : Value), Num w1 vn c → Num w1 vq S2.natAbs → Num w1 vs S.natAbs → Calls Tryd.prog 42 #[.agg #[.bool false, vn], .agg #[.bool false, vq], .agg #[.bool (decide (S < 0)), vs], .agg #[.bool (decide (S < 0)), vs]] w1 fun e w' => ∃ r, e = .returned (.agg #[.bool false, r]) ∧ NumO w' w1.heap.size r ((c : Int) * S2 - S * S).natAbs ∧ Below w1.heap.size w1 w') := fun w1 vn vq vs q1 q2 q3 =>
    spread_num (N := (c : Int)) ⟨vn, by rw [decide_eq_false (show ¬ (c : Int) < 0 by omega)], by simpa using q1⟩ ⟨vq, by rw [e0], q2⟩ ⟨vs, rfl, q3⟩ (by omega) h0 hle
      (by rw [Int.natAbs_natCast]; exact fits_mul (a := 1) (b := 67) (by simpa using hc) (by omega) (by omega)) (fits_mul (a := 34) (b := 34) (by omega) (by omega) (by omega))
  unfold NumEnd at HNs HNq
  rw [e0] at HNq
  have k0' := h.k0
  have hlt := h.lt
  generalize decide (S < 0) = ss at *
  generalize S2.natAbs = M2 at *
  generalize S.natAbs = M1 at *
  generalize ((c : Int) * S2 - S * S).natAbs = MR at *
  obtain ⟨H0, hH0⟩ : ∃ H0, H0 = w.heap.size := ⟨_, rfl⟩
  obtain ⟨W0, hW0⟩ : ∃ W0, W0 = w.alloc (.cells #[.bool false, .slice none 0 0] 48) := ⟨_, rfl⟩
  have n0 : W0.heap[H0]? = some (.cells #[.bool false, .slice none 0 0] 48 (0, 0)) := by rw [hW0, hH0]; exact heap_alloc_new w _
  have b0 : Below w.heap.size w W0 := by rw [hW0]; exact (Below.refl _ _).alloc (Nat.le_refl _) _
  have c20 : W0.cell? ⟨H0, 0, none⟩ = some (.bool false) := cell_of_row _ _ 0 _ _ _ n0
  have c21 : W0.cell? ⟨H0, 1, none⟩ = some (.slice none 0 0) := cell_of_row _ _ 1 _ _ _ n0
  have fz : ∀ j, W0.frozen? ⟨H0, j, none⟩ = false := fun j => frozen_of_row _ _ _ _ _ n0
  clear h hS hS2 h0 hle e0 hc
  go_enter Tryd.func24, Tryd.ntmps24
  go_wp2_with fail
  rw [← hW0, ← hH0]
  clear hW0
  refine (HNs.out W0 b0).mono ?_
  rintro e w1 ⟨vs, rfl, hvs, b1⟩
  obtain ⟨as_, ks, ps, rfl, es⟩ := num_slice hvs
  have z0 := block_lt_of_cell c20
  have c20 : w1.cell? ⟨H0, 0, none⟩ = some (.bool false) := by rw [b1.cell (p := ⟨H0, 0, none⟩) z0]; exact c20
  have c21 : w1.cell? ⟨H0, 1, none⟩ = some (.slice none 0 0) := by rw [b1.cell (p := ⟨H0, 1, none⟩) z0]; exact c21
  have fz : ∀ j, w1.frozen? ⟨H0, j, none⟩ = false := fun j => by rw [b1.frozen (p := ⟨H0, j, none⟩) z0]; exact fz j
  have bw1 : Below w.heap.size w w1 := b0.trans (b1.mono b0.size)
  have z1 : H0 < w1.heap.size := Nat.lt_of_lt_of_le z0 b1.size
  have HV := hide hvs
  clear b0 b1 n0 z0 hvs es HNs
  obtain ⟨H3, hH3⟩ : ∃ H3, H3 = w1.heap.size := ⟨_, rfl⟩
  obtain ⟨W2, hW2⟩ : ∃ W2, W2 = w1.alloc (.cells #[.bool ss, .slice as_ ks ps] 48) := ⟨_, rfl⟩
  have n1 := heap_alloc_new w1 (.cells #[.bool ss, .slice as_ ks ps] 48)
  rw [← hW2, ← hH3] at n1
  have b2 : Below w1.heap.size w1 W2 := by rw [hW2]; exact (Below.refl _ w1).alloc (Nat.le_refl _) _
  have c30 : W2.cell? ⟨H3, 0, none⟩ = some (.bool ss) := cell_of_row _ _ 0 _ _ _ n1
  have c31 : W2.cell? ⟨H3, 1, none⟩ = some (.slice as_ ks ps) := cell_of_row _ _ 1 _ _ _ n1
  have c20 : W2.cell? ⟨H0, 0, none⟩ = some (.bool false) := by rw [b2.cell (p := ⟨H0, 0, none⟩) z1]; exact c20
  have c21 : W2.cell? ⟨H0, 1, none⟩ = some (.slice none 0 0) := by rw [b2.cell (p := ⟨H0, 1, none⟩) z1]; exact c21
  have bw2 : Below w.heap.size w W2 := bw1.trans (b2.mono bw1.size)
  have k0 : W2.drew.cell? ⟨g, 0, none⟩ = some (.int .u64 (c : Nat)) := by
    show W2.cell? ⟨g, 0, none⟩ = _
    rw [bw2.cell (p := ⟨g, 0, none⟩) hlt]; exact k0'
  have HRs : Hid (Num W2.drew (.slice as_ ks ps) M1) := (HV.out.below b2).below (below_drewN (Below.refl _ _) 1)
  have HI : Hid (Below w.heap.size w W2.drew) := bw2.drew
  have HWs : Hid (H0 < W2.drew.heap.size) := Nat.lt_of_lt_of_le z1 b2.size
  have f20 : W2.drew.frozen? ⟨H0, 0, none⟩ = false := by show W2.frozen? ⟨H0, 0, none⟩ = false; rw [b2.frozen (p := ⟨H0, 0, none⟩) z1]; exact fz 0
  have f21 : W2.drew.frozen? ⟨H0, 1, none⟩ = false := by show W2.frozen? ⟨H0, 1, none⟩ = false; rw [b2.frozen (p := ⟨H0, 1, none⟩) z1]; exact fz 1
  have c30 : W2.drew.cell? ⟨H3, 0, none⟩ = some (.bool ss) := c30
  have c31 : W2.drew.cell? ⟨H3, 1, none⟩ = some (.slice as_ ks ps) := c31
  have c20 : W2.drew.cell? ⟨H0, 0, none⟩ = some (.bool false) := c20
  have c21 : W2.drew.cell? ⟨H0, 1, none⟩ = some (.slice none 0 0) := c21
  have HH0 := hide hH0
  have hne : g ≠ H0 ∧ g ≠ H3 ∧ H3 ≠ H0 := by omega
  clear hH0 bw1 z1 HV n1 b2 bw2 k0' hlt fz
  go_wp2_with fail
  rw [← hW2, ← hH3]
  clear hW2 hH3
  go_region_held3 (fun w' => w'.cell? ⟨g, 0, none⟩ = some (.int .u64 (c : Nat)) ∧ w'.cell? ⟨H3, 0, none⟩ = some (.bool ss) ∧ w'.cell? ⟨H3, 1, none⟩ = some (.slice as_ ks ps)) (first | exact ⟨k0, c30, c31⟩ | (refine ⟨?_, ?_, ?_⟩ <;> (rw [cell_other _ _ _ _ _ _ (by omega), cell_other _ _ _ _ _ _ (by omega)]; assumption)))
    (first | (go_at_call 20; go_must (refine (HCn.out _).mono ?_); rintro _ w5 ⟨vn, rfl, hvn, B5⟩; obtain ⟨xn, yn, zn, rfl, en⟩ := num_slice hvn; have HRn := hide hvn; (try have HRq := hide (HRq.out.below B5)); have HI := hide (HI.out.trans (B5.mono HI.out.size)); have HWs := hide (Nat.lt_of_lt_of_le HWs.out B5.size); have HRs := hide (HRs.out.below B5); have f21 : w5.frozen? ⟨H0, 1, none⟩ = false := (by rw [B5.frozen (p := ⟨H0, 1, none⟩) (block_lt_of_cell c21)]; exact f21); have f20 : w5.frozen? ⟨H0, 0, none⟩ = false := (by rw [B5.frozen (p := ⟨H0, 0, none⟩) (block_lt_of_cell c20)]; exact f20); have k0 : w5.cell? ⟨g, 0, none⟩ = some (.int .u64 (c : Nat)) := (by rw [B5.cell (p := ⟨g, 0, none⟩) (block_lt_of_cell k0)]; exact k0); have c30 : w5.cell? ⟨H3, 0, none⟩ = some (.bool ss) := (by rw [B5.cell (p := ⟨H3, 0, none⟩) (block_lt_of_cell c30)]; exact c30); have c31 : w5.cell? ⟨H3, 1, none⟩ = some (.slice as_ ks ps) := (by rw [B5.cell (p := ⟨H3, 1, none⟩) (block_lt_of_cell c31)]; exact c31); have c20 : w5.cell? ⟨H0, 0, none⟩ = some (.bool false) := (by rw [B5.cell (p := ⟨H0, 0, none⟩) (block_lt_of_cell c20)]; exact c20); have c21 : w5.cell? ⟨H0, 1, none⟩ = some (.slice none 0 0) := (by rw [B5.cell (p := ⟨H0, 1, none⟩) (block_lt_of_cell c21)]; exact c21); clear B5 hvn en) | (go_at_call 34; go_must (refine (HNq.out _ HI.out).mono ?_); rintro _ w5 ⟨vq, rfl, hvq, B5⟩; obtain ⟨xq, yq, zq, rfl, eq_⟩ := num_slice hvq; have HRq := hide hvq; (try have HRn := hide (HRn.out.below B5)); have HI := hide (HI.out.trans (B5.mono HI.out.size)); have HWs := hide (Nat.lt_of_lt_of_le HWs.out B5.size); have HRs := hide (HRs.out.below B5); have f21 : w5.frozen? ⟨H0, 1, none⟩ = false := (by rw [B5.frozen (p := ⟨H0, 1, none⟩) (block_lt_of_cell c21)]; exact f21); have f20 : w5.frozen? ⟨H0, 0, none⟩ = false := (by rw [B5.frozen (p := ⟨H0, 0, none⟩) (block_lt_of_cell c20)]; exact f20); have k0 : w5.cell? ⟨g, 0, none⟩ = some (.int .u64 (c : Nat)) := (by rw [B5.cell (p := ⟨g, 0, none⟩) (block_lt_of_cell k0)]; exact k0); have c30 : w5.cell? ⟨H3, 0, none⟩ = some (.bool ss) := (by rw [B5.cell (p := ⟨H3, 0, none⟩) (block_lt_of_cell c30)]; exact c30); have c31 : w5.cell? ⟨H3, 1, none⟩ = some (.slice as_ ks ps) := (by rw [B5.cell (p := ⟨H3, 1, none⟩) (block_lt_of_cell c31)]; exact c31); have c20 : w5.cell? ⟨H0, 0, none⟩ = some (.bool false) := (by rw [B5.cell (p := ⟨H0, 0, none⟩) (block_lt_of_cell c20)]; exact c20); have c21 : w5.cell? ⟨H0, 1, none⟩ = some (.slice none 0 0) := (by rw [B5.cell (p := ⟨H0, 1, none⟩) (block_lt_of_cell c21)]; exact c21); clear B5 hvq eq_) | (go_at_call 42; go_must (refine (HSp.out _ _ _ _ HRn.out HRq.out HRs.out).mono ?_); rintro _ w5 ⟨r, rfl, hr, B5⟩; obtain ⟨a3, k3, p3, rfl, e3⟩ := num_slice hr.num; have HR := hide hr; have HOw := hide HWs.out; have HI := hide (HI.out.trans (B5.mono HI.out.size)); have HWs := hide (Nat.lt_of_lt_of_le HWs.out B5.size); have HRs := hide (HRs.out.below B5); have f21 : w5.frozen? ⟨H0, 1, none⟩ = false := (by rw [B5.frozen (p := ⟨H0, 1, none⟩) (block_lt_of_cell c21)]; exact f21); have f20 : w5.frozen? ⟨H0, 0, none⟩ = false := (by rw [B5.frozen (p := ⟨H0, 0, none⟩) (block_lt_of_cell c20)]; exact f20); have k0 : w5.cell? ⟨g, 0, none⟩ = some (.int .u64 (c : Nat)) := (by rw [B5.cell (p := ⟨g, 0, none⟩) (block_lt_of_cell k0)]; exact k0); have c30 : w5.cell? ⟨H3, 0, none⟩ = some (.bool ss) := (by rw [B5.cell (p := ⟨H3, 0, none⟩) (block_lt_of_cell c30)]; exact c30); have c31 : w5.cell? ⟨H3, 1, none⟩ = some (.slice as_ ks ps) := (by rw [B5.cell (p := ⟨H3, 1, none⟩) (block_lt_of_cell c31)]; exact c31); have c20 : w5.cell? ⟨H0, 0, none⟩ = some (.bool false) := (by rw [B5.cell (p := ⟨H0, 0, none⟩) (block_lt_of_cell c20)]; exact c20); have c21 : w5.cell? ⟨H0, 1, none⟩ = some (.slice none 0 0) := (by rw [B5.cell (p := ⟨H0, 1, none⟩) (block_lt_of_cell c21)]; exact c21); clear B5 hr e3))
  all_goals
    go_wp2_with fail
    obtain ⟨r0, r1, r2⟩ := num_put (s := false) c20 c21 HOw.out HR.out
    have hh0 := HH0.out
    exact bodyPost_ret (v := .agg #[.bool false, .slice a3 k3 p3]) (by simp [results, Tryd.results24, go_sem, r0, r1]) rfl ⟨_, rfl, r2.mono (by have := HOw.out; omega), (HI.out.setCell (show w.heap.size ≤ H0 by omega) _).setCell (show w.heap.size ≤ H0 by omega) _⟩

end Go.Proofs.YtolaaemkcmiabaaDoor

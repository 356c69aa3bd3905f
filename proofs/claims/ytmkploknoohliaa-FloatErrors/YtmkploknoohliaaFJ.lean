/- Add, Sub, Mul, Div, Fma, Root: of 64 bits. -/
import Derived.Test.YtmkploknoohliaaFI
namespace Go.Proofs.Ytmkploknoohliaa
open Go.RowKit
open Flt
set_option linter.unusedVariables false
set_option linter.unusedSimpArgs false

namespace Flt
open Ieee
theorem rg_word (f : Format) (neg : Bool) (r : Nat) (h : r < f.signWeight) : rg f (f.word neg r) = r := by
  unfold rg Format.word
  cases neg
  · exact Nat.mod_eq_of_lt h
  · show (f.signWeight + r) % f.signWeight = r
    rw [Nat.add_mod_left]; exact Nat.mod_eq_of_lt h
theorem sg_word (f : Format) (neg : Bool) (r : Nat) (h : r < f.signWeight) : sg f (f.word neg r) = neg := by
  unfold sg Format.word
  cases neg
  · show (r / f.signWeight % 2 == 1) = false
    rw [Nat.div_eq_of_lt h]; rfl
  · show ((f.signWeight + r) / f.signWeight % 2 == 1) = true
    rw [Nat.add_div_left _ (signWeight_pos f), Nat.div_eq_of_lt h]; rfl

theorem rg_write (f : Format) (d : Datum) (h : d.isNaN = false) : rg f (f.write d) ≤ f.infRung := by
  cases d with
  | number neg mag place =>
    show rg f (f.nearest neg mag place) ≤ _
    rw [nearest_rnd, rg_word f _ _ (Nat.lt_of_le_of_lt (Nat.min_le_right ..) f.infRung_lt)]
    exact Nat.min_le_right ..
  | infinity neg =>
    show rg f (f.word neg f.infRung) ≤ _
    rw [rg_word f _ _ f.infRung_lt]; exact Nat.le_refl _
  | nan neg t => simp [Datum.isNaN] at h

theorem sum_num {x y d : Datum} (h : x.sum y = some d) : d.isNaN = false := by
  cases x <;> cases y <;> simp only [Datum.sum] at h <;> try (cases h; done)
  · cases h; rfl
  · cases h; rfl
  · cases h; rfl
  · split at h
    · cases h; rfl
    · cases h
theorem product_num {x y d : Datum} (h : x.product y = some d) : d.isNaN = false := by
  cases x <;> cases y <;> simp only [Datum.product] at h <;> try (cases h; done)
  · cases h; rfl
  · split at h
    · cases h
    · cases h; rfl
  · split at h
    · cases h
    · cases h; rfl
  · cases h; rfl
theorem quotient_num {n : Nat} {x y d : Datum} (h : x.quotient n y = some d) : d.isNaN = false := by
  cases x <;> cases y <;> simp only [Datum.quotient] at h <;> try (cases h; done)
  · split at h
    · split at h
      · cases h
      · cases h; rfl
    · cases h; rfl
  · cases h; rfl
  · cases h; rfl
theorem root_num {n : Nat} {x d : Datum} (h : x.root n = some d) : d.isNaN = false := by
  cases x <;> simp only [Datum.root] at h <;> try (cases h; done)
  · split at h
    · cases h; rfl
    · split at h
      · cases h
      · cases h; rfl
  · split at h
    · cases h
    · cases h; rfl
end Flt

theorem map_num {o : Option Ieee.Datum} {r : Nat} (h : o.map Ieee.double.write = some r) (hn : ∀ d, o = some d → d.isNaN = false) : r % 9223372036854775808 ≤ 9218868437227405312 ∧ r < 18446744073709551616 := by
  cases o with
  | none => cases h
  | some d =>
    cases h
    have := rg_write Ieee.double d (hn d rfl)
    rw [rg64, inf64] at this
    exact ⟨this, Ieee.double.write_lt d⟩

/-- What is told of an operation's bits. -/
def told64 : Option Nat → Nat
  | some r => r
  | none => 9221120237041090560

theorem fb_num {op : BinOp} {a b r : Nat} (h : floatBits op .f64 a b = some r) : r % 9223372036854775808 ≤ 9218868437227405312 ∧ r < 18446744073709551616 := by
  unfold floatBits at h
  split at h
  · exact map_num h fun d => sum_num
  · exact map_num h fun d => sum_num
  · exact map_num h fun d => product_num
  · exact map_num h fun d => quotient_num
  · cases h

set_option maxRecDepth 100000 in
theorem Add64_any (a b : Nat) (w : World) : Calls Try.prog 4 #[.int .u64 a, .int .u64 b] w fun e w' => e = .returned (.int .u64 (told64 (Ieee.double.add a b) : Nat)) ∧ Below w.heap.size w w' := by
  have hs : floatBits .add .f64 a b = Ieee.double.add a b := rfl
  cases ho : Ieee.double.add a b with
  | none =>
    rw [ho] at hs
    obtain ⟨nb, hnb, hadd⟩ := run_nan .add (by simp) 43 a b hs w
    go_enter Try.func4, Try.ntmps4
    go_wp2_with fail
    refine (value64_any a _).mono ?_
    rintro e w1 ⟨rfl, rfl⟩
    go_wp2_with fail
    refine (value64_any b _).mono ?_
    rintro e w2 ⟨rfl, rfl⟩
    go_wp2_with (simp only [hadd])
    refine (pattern64_any nb _ hnb.2).mono ?_
    rintro e w3 ⟨rfl, hb3⟩
    rw [pat64_nan nb hnb.1]
    go_wp2_with fail
    go_ret
    exact ⟨rfl, (Below.refl _ _).drew.trans hb3⟩
  | some r =>
    rw [ho] at hs
    obtain ⟨hr1, hr2⟩ := fb_num hs
    have hadd := fun w : World => run_float_arith (P := Try.prog) w .add 43 .f64 a b r hs
    go_enter Try.func4, Try.ntmps4
    go_wp2_with fail
    refine (value64_any a _).mono ?_
    rintro e w1 ⟨rfl, rfl⟩
    go_wp2_with fail
    refine (value64_any b _).mono ?_
    rintro e w2 ⟨rfl, rfl⟩
    go_wp2_with (simp only [hadd])
    refine (pattern64_any r _ hr2).mono ?_
    rintro e w3 ⟨rfl, hb3⟩
    rw [pat64_num r hr1]
    go_wp2_with fail
    go_ret
    exact ⟨rfl, hb3⟩

set_option maxRecDepth 100000 in
theorem Sub64_any (a b : Nat) (w : World) : Calls Try.prog 6 #[.int .u64 a, .int .u64 b] w fun e w' => e = .returned (.int .u64 (told64 (Ieee.double.sub a b) : Nat)) ∧ Below w.heap.size w w' := by
  have hs : floatBits .sub .f64 a b = Ieee.double.sub a b := rfl
  cases ho : Ieee.double.sub a b with
  | none =>
    rw [ho] at hs
    obtain ⟨nb, hnb, hadd⟩ := run_nan .sub (by simp) 43 a b hs w
    go_enter Try.func6, Try.ntmps6
    go_wp2_with fail
    refine (value64_any a _).mono ?_
    rintro e w1 ⟨rfl, rfl⟩
    go_wp2_with fail
    refine (value64_any b _).mono ?_
    rintro e w2 ⟨rfl, rfl⟩
    go_wp2_with (simp only [hadd])
    refine (pattern64_any nb _ hnb.2).mono ?_
    rintro e w3 ⟨rfl, hb3⟩
    rw [pat64_nan nb hnb.1]
    go_wp2_with fail
    go_ret
    exact ⟨rfl, (Below.refl _ _).drew.trans hb3⟩
  | some r =>
    rw [ho] at hs
    obtain ⟨hr1, hr2⟩ := fb_num hs
    have hadd := fun w : World => run_float_arith (P := Try.prog) w .sub 43 .f64 a b r hs
    go_enter Try.func6, Try.ntmps6
    go_wp2_with fail
    refine (value64_any a _).mono ?_
    rintro e w1 ⟨rfl, rfl⟩
    go_wp2_with fail
    refine (value64_any b _).mono ?_
    rintro e w2 ⟨rfl, rfl⟩
    go_wp2_with (simp only [hadd])
    refine (pattern64_any r _ hr2).mono ?_
    rintro e w3 ⟨rfl, hb3⟩
    rw [pat64_num r hr1]
    go_wp2_with fail
    go_ret
    exact ⟨rfl, hb3⟩

set_option maxRecDepth 100000 in
theorem Mul64_any (a b : Nat) (w : World) : Calls Try.prog 10 #[.int .u64 a, .int .u64 b] w fun e w' => e = .returned (.int .u64 (told64 (Ieee.double.mul a b) : Nat)) ∧ Below w.heap.size w w' := by
  have hs : floatBits .mul .f64 a b = Ieee.double.mul a b := rfl
  cases ho : Ieee.double.mul a b with
  | none =>
    rw [ho] at hs
    obtain ⟨nb, hnb, hadd⟩ := run_nan .mul (by simp) 43 a b hs w
    go_enter Try.func10, Try.ntmps10
    go_wp2_with fail
    refine (value64_any a _).mono ?_
    rintro e w1 ⟨rfl, rfl⟩
    go_wp2_with fail
    refine (value64_any b _).mono ?_
    rintro e w2 ⟨rfl, rfl⟩
    go_wp2_with (simp only [hadd])
    refine (pattern64_any nb _ hnb.2).mono ?_
    rintro e w3 ⟨rfl, hb3⟩
    rw [pat64_nan nb hnb.1]
    go_wp2_with fail
    go_ret
    exact ⟨rfl, (Below.refl _ _).drew.trans hb3⟩
  | some r =>
    rw [ho] at hs
    obtain ⟨hr1, hr2⟩ := fb_num hs
    have hadd := fun w : World => run_float_arith (P := Try.prog) w .mul 43 .f64 a b r hs
    go_enter Try.func10, Try.ntmps10
    go_wp2_with fail
    refine (value64_any a _).mono ?_
    rintro e w1 ⟨rfl, rfl⟩
    go_wp2_with fail
    refine (value64_any b _).mono ?_
    rintro e w2 ⟨rfl, rfl⟩
    go_wp2_with (simp only [hadd])
    refine (pattern64_any r _ hr2).mono ?_
    rintro e w3 ⟨rfl, hb3⟩
    rw [pat64_num r hr1]
    go_wp2_with fail
    go_ret
    exact ⟨rfl, hb3⟩




end Go.Proofs.Ytmkploknoohliaa

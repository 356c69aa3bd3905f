/- FloatWhole: its walk. -/
import Derived.Test.YtdiinhccfifiaaaQL
import Derived.Test.YtdiinhccfifiaaaFK
namespace Go.Proofs.Ytdiinhccfifiaaa
open Go.RowKit
open Flt
set_option linter.unusedVariables false
set_option linter.unusedSimpArgs false

set_option maxRecDepth 100000 in
set_option maxHeartbeats 8000000 in
theorem whole_law (a0 : Option Addr) (len0 cap0 : Nat) (w : World) (h : IsTurns w a0 len0) :
    Calls Try.prog 6 #[.slice a0 len0 cap0] w fun e w' => e = .returned (.bool true) ∧ Below w.heap.size w w' := by
  obtain ⟨hlen, hcell⟩ := h
  have HC := fhide hcell
  clear hcell
  go_enter Try.func6, Try.ntmps6
  go_wp2_with fail
  go_loopw [3] (fun t3 wr => ∃ i : Nat, i ≤ len0 ∧ i ≤ 2000 ∧ t3 = .int .i64 i ∧ Hid (Below w.heap.size w wr)) (fun t3 _ => 2000 - (intOf t3).toNat)
  case atStart => exact ⟨0, by omega, by omega, rfl, Below.refl _ _⟩
  case round =>
    obtain ⟨i, hi, hi20, rfl, HI⟩ := hrel
    by_cases hgo : i < len0 ∧ i < 2000
    · have g1 : (i : Int) < (len0 : Int) := by omega
      have g2 : (i : Int) < 2000 := by omega
      obtain ⟨g, o, rfl, hg, hj⟩ := HC.out (by omega)
      obtain ⟨A, B, hA, hB, cA, cB⟩ := hj i hgo.1
      have cA0 : wr.cell? ⟨g, o + i * 2, none⟩ = some (.int .u64 A) := by rw [HI.out.cell (p := ⟨g, o + i * 2, none⟩) hg]; exact cA
      have cB0 : wr.cell? ⟨g, o + i * 2 + 1, none⟩ = some (.int .i64 B) := by rw [HI.out.cell (p := ⟨g, o + i * 2 + 1, none⟩) hg]; exact cB
      have HA := fhide (And.intro hA hB)
      have HcB := fhide cB
      clear hj hgo cA cB hA hB
      obtain ⟨T, hT⟩ : ∃ T : Nat, T = 1074 := ⟨_, rfl⟩
      have HB := fhide HA.out.2
      have HA := fhide HA.out.1
      obtain ⟨n, hn, hnb⟩ : ∃ n : Int, wrap64 (A : Int) = n ∧ (-9223372036854775808 ≤ n ∧ n < 9223372036854775808) := ⟨_, rfl, by unfold wrap64; omega⟩
      have hn2 : IntKind.i64.wrap (A : Int) = n := by rw [← hn, IntKind.wrap_i64]; unfold wrap64; omega
      have HF1 := fhide (fun w : World => FromInt_any n w)
      have HF2 := fhide (fun w : World => rFromInt n w hnb)
      have HU1 := fhide (fun w : World => FromUint_any A w)
      have HU2 := fhide (fun w : World => rFromUint A w HA.out)
      have HV1 := fhide (fun w : World => FromInt32_any n w)
      have HV2 := fhide (fun w : World => rFromInt32 n w hnb)
      generalize fint n = q1 at *
      generalize fint (A : Int) = q2 at *
      generalize fint32 n = q3 at *
      have HT1 := fhide (fun w : World => ToInt_all T hT A B w HA.out)
      have HT2 := fhide (fun w : World => rToInt_all T hT A B w HA.out)
      have HR1 := fhide (fun w : World => RoundM_all T hT A B w HA.out)
      have HR2 := fhide (fun w : World => rRoundM_all T hT A B w HA.out)
      generalize (toI T B A).1 = z1 at *
      generalize (toI T B A).2 = z2 at *
      generalize (rdI T B A).1 = z3 at *
      generalize (rdI T B A).2 = z4 at *
      clear hnb hT
      go_wp2_with (simp only [hn, hn2])
      refine (HF1.out _).mono ?_
      rintro e x1 ⟨rfl, hw1⟩
      have hw1 := hw1.symm
      subst hw1
      go_wp2_with (simp only [hn, hn2])
      refine (HF2.out _).mono ?_
      rintro e x2 ⟨rfl, hb2⟩
      have J2 := fhide (HI.out.trans (hb2.mono HI.out.size))
      clear hb2 HI
      go_wp2_with fail
      refine (HU1.out _).mono ?_
      rintro e x3 ⟨rfl, hw1⟩
      have hw1 := hw1.symm
      subst hw1
      go_wp2_with fail
      refine (HU2.out _).mono ?_
      rintro e x4 ⟨rfl, hb4⟩
      have J4 := fhide (J2.out.trans (hb4.mono J2.out.size))
      clear hb4 J2
      go_wp2_with (simp only [hn, hn2])
      refine (HV1.out _).mono ?_
      rintro e x5 ⟨rfl, hw1⟩
      have hw1 := hw1.symm
      subst hw1
      go_wp2_with (simp only [hn, hn2])
      refine (HV2.out _).mono ?_
      rintro e x6 ⟨rfl, hb6⟩
      have J6 := fhide (J4.out.trans (hb6.mono J4.out.size))
      clear hb6 J4
      have cB6 : x6.cell? ⟨g, o + i * 2 + 1, none⟩ = some (.int .i64 B) := by rw [J6.out.cell (p := ⟨g, o + i * 2 + 1, none⟩) hg]; exact HcB.out
      go_wp2_with fail
      refine (HT1.out _).mono ?_
      rintro e x7 ⟨rfl, hb7⟩
      have J7 := fhide (J6.out.trans (hb7.mono J6.out.size))
      clear hb7 J6
      have cB7 : x7.cell? ⟨g, o + i * 2 + 1, none⟩ = some (.int .i64 B) := by rw [J7.out.cell (p := ⟨g, o + i * 2 + 1, none⟩) hg]; exact HcB.out
      go_wp2_with fail
      refine (HT2.out _).mono ?_
      rintro e x8 ⟨rfl, hb8⟩
      have J8 := fhide (J7.out.trans (hb8.mono J7.out.size))
      clear hb8 J7
      have cB8 : x8.cell? ⟨g, o + i * 2 + 1, none⟩ = some (.int .i64 B) := by rw [J8.out.cell (p := ⟨g, o + i * 2 + 1, none⟩) hg]; exact HcB.out
      go_wp2_with fail
      refine (num_any _ _).mono ?_
      rintro e y9 ⟨rfl, hw1⟩
      have hw1 := hw1.symm
      subst hw1
      go_wp2_with fail
      refine (HR1.out _).mono ?_
      rintro e x10 ⟨rfl, hb10⟩
      have J10 := fhide (J8.out.trans (hb10.mono J8.out.size))
      clear hb10 J8
      have cB10 : x10.cell? ⟨g, o + i * 2 + 1, none⟩ = some (.int .i64 B) := by rw [J10.out.cell (p := ⟨g, o + i * 2 + 1, none⟩) hg]; exact HcB.out
      go_wp2_with fail
      refine (HR2.out _).mono ?_
      rintro e x11 ⟨rfl, hb11⟩
      have J11 := fhide (J10.out.trans (hb11.mono J10.out.size))
      clear hb11 J10
      go_wp2_with fail
      refine (num_any _ _).mono ?_
      rintro e y12 ⟨rfl, hw1⟩
      have hw1 := hw1.symm
      subst hw1
      go_wp2_with fail
      go_roundw
      case rel => exact ⟨i + 1, by omega, by omega, by go_num, J11⟩
      case measure => simp [intOf]; omega
    · by_cases hl : i < len0
      · have g1 : (i : Int) < (len0 : Int) := by omega
        have g2 : ¬ (i : Int) < 2000 := by omega
        go_wp2_with fail
        refine (wakes_any _).mono ?_
        rintro e v14 ⟨rfl, hb14⟩
        go_wp2_with fail
        go_ret
        exact ⟨rfl, HI.out.trans (hb14.mono HI.out.size)⟩
      · have g1 : ¬ (i : Int) < (len0 : Int) := by omega
        go_wp2_with fail
        refine (wakes_any _).mono ?_
        rintro e v14 ⟨rfl, hb14⟩
        go_wp2_with fail
        go_ret
        exact ⟨rfl, HI.out.trans (hb14.mono HI.out.size)⟩
end Go.Proofs.Ytdiinhccfifiaaa

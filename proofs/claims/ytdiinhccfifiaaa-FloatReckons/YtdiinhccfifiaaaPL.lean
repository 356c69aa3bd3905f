/- FloatReckons: its walk. -/
import Derived.Test.YtdiinhccfifiaaaPG
import Derived.Test.YtdiinhccfifiaaaPI
import Derived.Test.YtdiinhccfifiaaaPK
namespace Go.Proofs.Ytdiinhccfifiaaa
open Go.RowKit
open Flt
set_option linter.unusedVariables false
set_option linter.unusedSimpArgs false

set_option maxRecDepth 100000 in
set_option maxHeartbeats 8000000 in
theorem reckons_any (a0 : Option Addr) (len0 cap0 : Nat) (w : World) (h : IsThrees w a0 len0) :
    Calls Try.prog 7 #[.slice a0 len0 cap0] w fun e w' => e = .returned (.bool true) ∧ Below w.heap.size w w' := by
  obtain ⟨hlen, hcell⟩ := h
  have HC := fhide hcell
  clear hcell
  go_enter Try.func7, Try.ntmps7
  go_wp2_with fail
  go_loopw [3] (fun t3 wr => ∃ i : Nat, i ≤ len0 ∧ i ≤ 2000 ∧ t3 = .int .i64 i ∧ Hid (Below w.heap.size w wr)) (fun t3 _ => 2000 - (intOf t3).toNat)
  case atStart => exact ⟨0, by omega, by omega, rfl, Below.refl _ _⟩
  case round =>
    obtain ⟨i, hi, hi20, rfl, HI⟩ := hrel
    by_cases hgo : i < len0 ∧ i < 2000
    · have g1 : (i : Int) < (len0 : Int) := by omega
      have g2 : (i : Int) < 2000 := by omega
      obtain ⟨g, o, rfl, hg, hj⟩ := HC.out (by omega)
      obtain ⟨A, B, C, hA, hB, hC, cA, cB, cC⟩ := hj i hgo.1
      have cA0 : wr.cell? ⟨g, o + i * 3, none⟩ = some (.int .u64 A) := by rw [HI.out.cell (p := ⟨g, o + i * 3, none⟩) hg]; exact cA
      have cB0 : wr.cell? ⟨g, o + i * 3 + 1, none⟩ = some (.int .u64 B) := by rw [HI.out.cell (p := ⟨g, o + i * 3 + 1, none⟩) hg]; exact cB
      have cC0 : wr.cell? ⟨g, o + i * 3 + 2, none⟩ = some (.int .u64 C) := by rw [HI.out.cell (p := ⟨g, o + i * 3 + 2, none⟩) hg]; exact cC
      have HA := fhide (And.intro hA (And.intro hB hC))
      clear hj hgo cA cB cC hA hB hC
      have tl : ∀ o, told64 o = tldW64 o := fun o => by cases o <;> rfl
      obtain ⟨o0, ho0⟩ : ∃ o0, tldW64 (Ieee.double.add A B) = o0 := ⟨_, rfl⟩
      have HP0 : Hid (∀ w : World, Calls Try.prog 45 #[.int .u64 A, .int .u64 B] w fun e w' => e = .returned (.int .u64 o0) ∧ Below w.heap.size w w') := fun w => by
        have := Add64_any A B w
        rwa [tl, ho0] at this
      have HR0 : Hid (∀ w : World, Calls Try.prog 46 #[.int .u64 A, .int .u64 B, .int .i64 64] w fun e w' => e = .returned (.int .u64 o0) ∧ Below w.heap.size w w') := fun w => by
        have := rAdd64 A B w HA.out.1 HA.out.2.1
        rwa [ho0] at this
      obtain ⟨o1, ho1⟩ : ∃ o1, tldW64 (Ieee.double.sub A B) = o1 := ⟨_, rfl⟩
      have HP1 : Hid (∀ w : World, Calls Try.prog 47 #[.int .u64 A, .int .u64 B] w fun e w' => e = .returned (.int .u64 o1) ∧ Below w.heap.size w w') := fun w => by
        have := Sub64_any A B w
        rwa [tl, ho1] at this
      have HR1 : Hid (∀ w : World, Calls Try.prog 48 #[.int .u64 A, .int .u64 B, .int .i64 64] w fun e w' => e = .returned (.int .u64 o1) ∧ Below w.heap.size w w') := fun w => by
        have := rSub64 A B w HA.out.1 HA.out.2.1
        rwa [ho1] at this
      obtain ⟨o2, ho2⟩ : ∃ o2, tldW64 (Ieee.double.mul A B) = o2 := ⟨_, rfl⟩
      have HP2 : Hid (∀ w : World, Calls Try.prog 49 #[.int .u64 A, .int .u64 B] w fun e w' => e = .returned (.int .u64 o2) ∧ Below w.heap.size w w') := fun w => by
        have := Mul64_any A B w
        rwa [tl, ho2] at this
      have HR2 : Hid (∀ w : World, Calls Try.prog 50 #[.int .u64 A, .int .u64 B, .int .i64 64] w fun e w' => e = .returned (.int .u64 o2) ∧ Below w.heap.size w w') := fun w => by
        have := rMul64 A B w HA.out.1 HA.out.2.1
        rwa [ho2] at this
      obtain ⟨o3, ho3⟩ : ∃ o3, tldW64 (Ieee.double.div A B) = o3 := ⟨_, rfl⟩
      have HP3 : Hid (∀ w : World, Calls Try.prog 51 #[.int .u64 A, .int .u64 B] w fun e w' => e = .returned (.int .u64 o3) ∧ Below w.heap.size w w') := fun w => by
        have := Div64_any A B w HA.out.1 HA.out.2.1
        rwa [tl, ho3] at this
      have HR3 : Hid (∀ w : World, Calls Try.prog 52 #[.int .u64 A, .int .u64 B, .int .i64 64] w fun e w' => e = .returned (.int .u64 o3) ∧ Below w.heap.size w w') := fun w => by
        have := rDiv64 A B w HA.out.1 HA.out.2.1
        rwa [ho3] at this
      obtain ⟨o4, ho4⟩ : ∃ o4, tldW64 (Ieee.double.sqrt A) = o4 := ⟨_, rfl⟩
      have HP4 : Hid (∀ w : World, Calls Try.prog 53 #[.int .u64 A] w fun e w' => e = .returned (.int .u64 o4) ∧ Below w.heap.size w w') := fun w => by
        have := Root64_any A w
        rwa [tl, ho4] at this
      have HR4 : Hid (∀ w : World, Calls Try.prog 54 #[.int .u64 A, .int .i64 64] w fun e w' => e = .returned (.int .u64 o4) ∧ Below w.heap.size w w') := fun w => by
        have := rRoot64 A w HA.out.1
        rwa [ho4] at this
      obtain ⟨o5, ho5⟩ : ∃ o5, tldW64 (Ieee.double.fma A B C) = o5 := ⟨_, rfl⟩
      have HP5 : Hid (∀ w : World, Calls Try.prog 55 #[.int .u64 A, .int .u64 B, .int .u64 C] w fun e w' => e = .returned (.int .u64 o5) ∧ Below w.heap.size w w') := fun w => by
        have := Fma_any A B C w
        rwa [tl, ho5] at this
      have HR5 : Hid (∀ w : World, Calls Try.prog 56 #[.int .u64 A, .int .u64 B, .int .u64 C] w fun e w' => e = .returned (.int .u64 o5) ∧ Below w.heap.size w w') := fun w => by
        have := rFma A B C w HA.out.1 HA.out.2.1 HA.out.2.2
        rwa [ho5] at this
      clear tl ho0 ho1 ho2 ho3 ho4 ho5 HA
      go_wp2_with fail
      refine (HP0.out _).mono ?_
      rintro e x1 ⟨rfl, hb1⟩
      have J1 := fhide (HI.out.trans (hb1.mono HI.out.size))
      clear hb1 HI
      go_wp2_with fail
      refine (HR0.out _).mono ?_
      rintro e x2 ⟨rfl, hb2⟩
      have J2 := fhide (J1.out.trans (hb2.mono J1.out.size))
      clear hb2 J1
      go_wp2_with fail
      refine (HP1.out _).mono ?_
      rintro e x3 ⟨rfl, hb3⟩
      have J3 := fhide (J2.out.trans (hb3.mono J2.out.size))
      clear hb3 J2
      go_wp2_with fail
      refine (HR1.out _).mono ?_
      rintro e x4 ⟨rfl, hb4⟩
      have J4 := fhide (J3.out.trans (hb4.mono J3.out.size))
      clear hb4 J3
      go_wp2_with fail
      refine (HP2.out _).mono ?_
      rintro e x5 ⟨rfl, hb5⟩
      have J5 := fhide (J4.out.trans (hb5.mono J4.out.size))
      clear hb5 J4
      go_wp2_with fail
      refine (HR2.out _).mono ?_
      rintro e x6 ⟨rfl, hb6⟩
      have J6 := fhide (J5.out.trans (hb6.mono J5.out.size))
      clear hb6 J5
      go_wp2_with fail
      refine (HP3.out _).mono ?_
      rintro e x7 ⟨rfl, hb7⟩
      have J7 := fhide (J6.out.trans (hb7.mono J6.out.size))
      clear hb7 J6
      go_wp2_with fail
      refine (HR3.out _).mono ?_
      rintro e x8 ⟨rfl, hb8⟩
      have J8 := fhide (J7.out.trans (hb8.mono J7.out.size))
      clear hb8 J7
      go_wp2_with fail
      refine (HP4.out _).mono ?_
      rintro e x9 ⟨rfl, hb9⟩
      have J9 := fhide (J8.out.trans (hb9.mono J8.out.size))
      clear hb9 J8
      go_wp2_with fail
      refine (HR4.out _).mono ?_
      rintro e x10 ⟨rfl, hb10⟩
      have J10 := fhide (J9.out.trans (hb10.mono J9.out.size))
      clear hb10 J9
      go_wp2_with fail
      refine (HP5.out _).mono ?_
      rintro e x11 ⟨rfl, hb11⟩
      have J11 := fhide (J10.out.trans (hb11.mono J10.out.size))
      clear hb11 J10
      go_wp2_with fail
      refine (HR5.out _).mono ?_
      rintro e x12 ⟨rfl, hb12⟩
      have J12 := fhide (J11.out.trans (hb12.mono J11.out.size))
      clear hb12 J11
      go_wp2_with fail
      go_roundw
      case rel => exact ⟨i + 1, by omega, by omega, by go_num, J12⟩
      case measure => simp [intOf]; omega
    · by_cases hl : i < len0
      · have g1 : (i : Int) < (len0 : Int) := by omega
        have g2 : ¬ (i : Int) < 2000 := by omega
        go_wp2_with fail
        refine (wakes_any _).mono ?_
        rintro e v14 ⟨rfl, hb14⟩
        go_wp2_with fail
        go_ret
        exact ⟨rfl, HI.out.trans (hb14.mono HI.out.size)⟩
      · have g1 : ¬ (i : Int) < (len0 : Int) := by omega
        go_wp2_with fail
        refine (wakes_any _).mono ?_
        rintro e v14 ⟨rfl, hb14⟩
        go_wp2_with fail
        go_ret
        exact ⟨rfl, HI.out.trans (hb14.mono HI.out.size)⟩
end Go.Proofs.Ytdiinhccfifiaaa

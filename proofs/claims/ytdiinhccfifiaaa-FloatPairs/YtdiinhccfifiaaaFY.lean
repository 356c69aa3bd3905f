/- FloatPairs: its walk. -/
import Derived.Test.YtdiinhccfifiaaaFW
namespace Go.Proofs.Ytdiinhccfifiaaa
open Go.RowKit
open Flt
set_option linter.unusedVariables false
set_option linter.unusedSimpArgs false

set_option maxRecDepth 100000 in
set_option maxHeartbeats 8000000 in
theorem pairs_any (a0 : Option Addr) (len0 cap0 : Nat) (w : World) (h : IsTwos w a0 len0) :
    Calls Try.prog 4 #[.slice a0 len0 cap0] w fun e w' => e = .returned (.bool true) ∧ Below w.heap.size w w' := by
  obtain ⟨hlen, hcell⟩ := h
  have HC := fhide hcell
  clear hcell
  go_enter Try.func4, Try.ntmps4
  go_wp2_with fail
  go_loopw [3] (fun t3 wr => ∃ i : Nat, i ≤ len0 ∧ i ≤ 2000 ∧ t3 = .int .i64 i ∧ Hid (Below w.heap.size w wr)) (fun t3 _ => 2000 - (intOf t3).toNat)
  case atStart => exact ⟨0, by omega, by omega, rfl, Below.refl _ _⟩
  case round =>
    obtain ⟨i, hi, hi20, rfl, HI⟩ := hrel
    by_cases hgo : i < len0 ∧ i < 2000
    · have g1 : (i : Int) < (len0 : Int) := by omega
      have g2 : (i : Int) < 2000 := by omega
      obtain ⟨g, o, rfl, hg, hj⟩ := HC.out (by omega)
      obtain ⟨a, b, ha, hb, ca, cb⟩ := hj i hgo.1
      have ca0 : wr.cell? ⟨g, o + i * 2, none⟩ = some (.int .u64 a) := by rw [HI.out.cell (p := ⟨g, o + i * 2, none⟩) hg]; exact ca
      have cb0 : wr.cell? ⟨g, o + i * 2 + 1, none⟩ = some (.int .u64 b) := by rw [HI.out.cell (p := ⟨g, o + i * 2 + 1, none⟩) hg]; exact cb
      have HA := fhide (And.intro ha hb)
      clear hj hgo ca cb ha hb
      obtain ⟨f, hf4', hfl⟩ : ∃ f : Nat, a / 4294967296 = f ∧ Hid (f < 4294967296) := ⟨_, rfl, by have := HA.out.1; show a / 4294967296 < _; omega⟩
      obtain ⟨h, hh4', hhl⟩ : ∃ h : Nat, b / 4294967296 = h ∧ Hid (h < 4294967296) := ⟨_, rfl, by have := HA.out.2; show b / 4294967296 < _; omega⟩
      have hf4 : (a : Int) / 4294967296 = (f : Int) := by omega
      have hh4 : (b : Int) / 4294967296 = (h : Int) := by omega
      have hfm : (f : Int) % 4294967296 = (f : Int) := by have := hfl.out; omega
      have hhm : (h : Int) % 4294967296 = (h : Int) := by have := hhl.out; omega
      have HO := fhide (order64 a b HA.out.1 HA.out.2)
      clear hf4' hh4' 
      go_wp2_with fail
      refine (Cmp64_any a b _).mono ?_
      rw [HO.out]
      rintro e x1 ⟨rfl, rfl⟩
      go_wp2_with fail
      refine (rCompare64 a b _ HA.out.1 HA.out.2).mono ?_
      rintro e x2 ⟨rfl, rfl⟩
      clear HO
      go_wp2_with fail
      refine (Distance64_any a b _ HA.out.1 HA.out.2).mono ?_
      rintro e x3 ⟨rfl, hb3⟩
      have J3 := fhide (HI.out.trans (hb3.mono HI.out.size))
      clear hb3 HI
      clear ca0 cb0
      go_wp2_with fail
      refine (rDistance64 a b _ HA.out.1 HA.out.2).mono ?_
      rintro e x4 ⟨rfl, rfl⟩
      go_wp2_with (simp only [hfm, hhm])
      refine (Cmp32_any f h _ hfl.out hhl.out).mono ?_
      rintro e x5 ⟨rfl, hb5⟩
      have J5 := fhide (J3.out.trans (hb5.mono J3.out.size))
      clear hb5 J3
      go_wp2_with (simp only [hfm, hhm])
      refine (rCompare32 f h _ hfl.out hhl.out).mono ?_
      rintro e x6 ⟨rfl, rfl⟩
      go_wp2_with (simp only [hfm, hhm])
      refine (Distance32_any f h _ hfl.out hhl.out).mono ?_
      rintro e x7 ⟨rfl, hb7⟩
      have J7 := fhide (J5.out.trans (hb7.mono J5.out.size))
      clear hb7 J5
      have hdl : dist32 f h < 4294967296 := by unfold dist32; have := key32_lt f hfl.out; have := key32_lt h hhl.out; split <;> omega
      have eD : IntKind.u64.wrap ((dist32 f h : Nat) : Int) = (dist32 f h : Nat) := by rw [IntKind.wrap_u64]; omega
      have gD : ((dist32 f h : Nat) : Int) % 18446744073709551616 = (dist32 f h : Nat) := by omega
      go_wp2_with (simp only [hfm, hhm, eD, gD])
      refine (rDistance32 f h _ hfl.out hhl.out).mono ?_
      rintro e x8 ⟨rfl, rfl⟩
      go_wp2_with (simp only [eD, gD])
      go_roundw
      case rel => exact ⟨i + 1, by omega, by omega, by go_num, J7⟩
      case measure => simp [intOf]; omega
    · by_cases hl : i < len0
      · have g1 : (i : Int) < (len0 : Int) := by omega
        have g2 : ¬ (i : Int) < 2000 := by omega
        go_wp2_with fail
        refine (wakes_any _).mono ?_
        rintro e v14 ⟨rfl, hb14⟩
        go_wp2_with fail
        go_ret
        exact ⟨rfl, HI.out.trans (hb14.mono HI.out.size)⟩
      · have g1 : ¬ (i : Int) < (len0 : Int) := by omega
        go_wp2_with fail
        refine (wakes_any _).mono ?_
        rintro e v14 ⟨rfl, hb14⟩
        go_wp2_with fail
        go_ret
        exact ⟨rfl, HI.out.trans (hb14.mono HI.out.size)⟩
end Go.Proofs.Ytdiinhccfifiaaa

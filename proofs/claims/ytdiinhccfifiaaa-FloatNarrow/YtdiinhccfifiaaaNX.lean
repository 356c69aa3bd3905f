/- FloatNarrow: its walk. -/
import Derived.Test.YtdiinhccfifiaaaNW
import Derived.Test.YtdiinhccfifiaaaFV
namespace Go.Proofs.Ytdiinhccfifiaaa
open Go.RowKit
open Flt
set_option linter.unusedVariables false
set_option linter.unusedSimpArgs false

set_option maxRecDepth 100000 in
set_option maxHeartbeats 8000000 in
theorem narrow_any (a0 : Option Addr) (len0 cap0 : Nat) (w : World) (h : IsWords w a0 len0) :
    Calls Try.prog 5 #[.slice a0 len0 cap0] w fun e w' => e = .returned (.bool true) ∧ Below w.heap.size w w' := by
  obtain ⟨hlen, hcell⟩ := h
  have HC := fhide hcell
  clear hcell
  go_enter Try.func5, Try.ntmps5
  go_wp2_with fail
  go_loopw [3] (fun t3 wr => ∃ i : Nat, i ≤ len0 ∧ i ≤ 2000 ∧ t3 = .int .i64 i ∧ Hid (Below w.heap.size w wr)) (fun t3 _ => 2000 - (intOf t3).toNat)
  case atStart => exact ⟨0, by omega, by omega, rfl, Below.refl _ _⟩
  case round =>
    obtain ⟨i, hi, hi20, rfl, HI⟩ := hrel
    by_cases hgo : i < len0 ∧ i < 2000
    · have g1 : (i : Int) < (len0 : Int) := by omega
      have g2 : (i : Int) < 2000 := by omega
      obtain ⟨g, o, rfl, hg, hj⟩ := HC.out (by omega)
      obtain ⟨A, hA, cA⟩ := hj i hgo.1
      have cA0 : wr.cell? ⟨g, o + i, none⟩ = some (.int .u64 A) := by rw [HI.out.cell (p := ⟨g, o + i, none⟩) hg]; exact cA
      have HA := fhide (hA)
      clear hj hgo cA hA
      obtain ⟨N1, hN1⟩ : ∃ N1, narr A = N1 := ⟨_, rfl⟩
      obtain ⟨a1, ha1, hi1⟩ : ∃ a1 : Nat, A / 4294967296 = a1 ∧ (A : Int) / 4294967296 = (a1 : Int) := ⟨_, rfl, by omega⟩
      obtain ⟨a2, ha2, hi2⟩ : ∃ a2 : Nat, A % 4294967296 = a2 ∧ (A : Int) % 4294967296 = (a2 : Int) := ⟨_, rfl, by omega⟩
      have l1 : a1 < 4294967296 := by have := HA.out; omega
      have l2 : a2 < 4294967296 := by omega
      have hw1 : IntKind.u32.wrap (a1 : Int) = (a1 : Int) := by rw [IntKind.wrap_u32]; omega
      have hm1 : (a1 : Int) % 4294967296 = (a1 : Int) := by omega
      have hw2 : IntKind.u32.wrap (A : Int) = (a2 : Int) := by rw [IntKind.wrap_u32]; exact hi2
      have HN1 := fhide (fun w : World => Narrow_any A w HA.out)
      have HN2 := fhide (fun w : World => rNarrow A w HA.out)
      rw [hN1] at HN1 HN2
      obtain ⟨Wd, hWd⟩ : ∃ Wd : Nat → Nat, wid = Wd := ⟨_, rfl⟩
      have HW1 := fhide (fun (x : Nat) (w : World) (h : x < 4294967296) => Widen_any x w h)
      have HW2 := fhide (fun (x : Nat) (w : World) (h : x < 4294967296) => rWiden x w h)
      rw [hWd] at HW1 HW2
      clear hWd
      have HI := fhide HI.out.drew
      have cA0 : wr.drew.cell? ⟨g, o + i, none⟩ = some (.int .u64 A) := cA0
      clear hN1 ha1 ha2 HA
      go_wp2_with fail
      go_region_held3 (fun w' => w'.cell? ⟨g, o + i, none⟩ = some (.int .u64 A)) (exact cA0)
        (first | (simp only [hi1, hi2, hw1, hw2, hm1]; done) | (go_at_call 30; go_must (refine (HN1.out _).mono ?_); rintro _ w5 ⟨rfl, B5⟩; have HI := fhide (HI.out.trans (B5.mono HI.out.size)); have cA0 : w5.cell? ⟨g, o + i, none⟩ = some (.int .u64 A) := (by rw [B5.cell (p := ⟨g, o + i, none⟩) (block_lt_of_cell cA0)]; exact cA0); clear B5) | (go_at_call 31; go_must (refine (HN2.out _).mono ?_); rintro _ w5 ⟨rfl, B5⟩; have HI := fhide (HI.out.trans (B5.mono HI.out.size)); have cA0 : w5.cell? ⟨g, o + i, none⟩ = some (.int .u64 A) := (by rw [B5.cell (p := ⟨g, o + i, none⟩) (block_lt_of_cell cA0)]; exact cA0); clear B5) | (go_at_call 32; go_must (refine (HW1.out _ _ (by first | exact l1 | exact l2)).mono ?_); rintro _ w5 ⟨rfl, B5⟩; have HI := fhide (HI.out.trans (B5.mono HI.out.size)); have cA0 : w5.cell? ⟨g, o + i, none⟩ = some (.int .u64 A) := (by rw [B5.cell (p := ⟨g, o + i, none⟩) (block_lt_of_cell cA0)]; exact cA0); clear B5) | (go_at_call 33; go_must (refine (HW2.out _ _ (by first | exact l1 | exact l2)).mono ?_); rintro _ w5 ⟨rfl, B5⟩; have HI := fhide (HI.out.trans (B5.mono HI.out.size)); have cA0 : w5.cell? ⟨g, o + i, none⟩ = some (.int .u64 A) := (by rw [B5.cell (p := ⟨g, o + i, none⟩) (block_lt_of_cell cA0)]; exact cA0); clear B5))
      go_wp2_with fail
      go_roundw
      case rel => exact ⟨i + 1, by omega, by omega, by go_num, HI⟩
      case measure => simp [intOf]; omega
    · by_cases hl : i < len0
      · have g1 : (i : Int) < (len0 : Int) := by omega
        have g2 : ¬ (i : Int) < 2000 := by omega
        go_wp2_with fail
        refine (wakes_any _).mono ?_
        rintro e v14 ⟨rfl, hb14⟩
        go_wp2_with fail
        go_ret
        exact ⟨rfl, HI.out.trans (hb14.mono HI.out.size)⟩
      · have g1 : ¬ (i : Int) < (len0 : Int) := by omega
        go_wp2_with fail
        refine (wakes_any _).mono ?_
        rintro e v14 ⟨rfl, hb14⟩
        go_wp2_with fail
        go_ret
        exact ⟨rfl, HI.out.trans (hb14.mono HI.out.size)⟩
end Go.Proofs.Ytdiinhccfifiaaa

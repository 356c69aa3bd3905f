/- FloatOrder: its walk. -/
import Derived.Test.YtdiinhccfifiaaaFW
namespace Go.Proofs.Ytdiinhccfifiaaa
open Go.RowKit
open Flt
set_option linter.unusedVariables false
set_option linter.unusedSimpArgs false

theorem down32_lt (b : Nat) (hb : b < 4294967296) : down32 b < 4294967296 := by
  unfold down32
  split
  · omega
  · exact flip32_lt _ (up32_lt _ (flip32_lt b hb))

set_option maxRecDepth 100000 in
set_option maxHeartbeats 8000000 in
theorem order_any (a0 : Option Addr) (len0 cap0 : Nat) (w : World) (h : IsWords w a0 len0) :
    Calls Try.prog 3 #[.slice a0 len0 cap0] w fun e w' => e = .returned (.bool true) ∧ Below w.heap.size w w' := by
  obtain ⟨hlen, hcell⟩ := h
  have HC := fhide hcell
  clear hcell
  go_enter Try.func3, Try.ntmps3
  go_wp2_with fail
  go_loopw [3] (fun t3 wr => ∃ i : Nat, i ≤ len0 ∧ i ≤ 2000 ∧ t3 = .int .i64 i ∧ Hid (Below w.heap.size w wr)) (fun t3 _ => 2000 - (intOf t3).toNat)
  case atStart => exact ⟨0, by omega, by omega, rfl, Below.refl _ _⟩
  case round =>
    obtain ⟨i, hi, hi20, rfl, HI⟩ := hrel
    by_cases hgo : i < len0 ∧ i < 2000
    · have g1 : (i : Int) < (len0 : Int) := by omega
      have g2 : (i : Int) < 2000 := by omega
      obtain ⟨g, o, rfl, hg, hj⟩ := HC.out (by omega)
      obtain ⟨b, hb, cb⟩ := hj i hgo.1
      have cb0 : wr.cell? ⟨g, o + i, none⟩ = some (.int .u64 b) := by rw [HI.out.cell (p := ⟨g, o + i, none⟩) hg]; exact cb
      have HA := fhide (hb)
      clear hj hgo cb hb
      obtain ⟨f, hf4', hfl2⟩ : ∃ f : Nat, b / 4294967296 = f ∧ Hid (f < 4294967296) := ⟨_, rfl, by have := HA.out; show b / 4294967296 < _; omega⟩
      have hf4 : (b : Int) / 4294967296 = (f : Int) := by omega
      have hfm : (f : Int) % 4294967296 = (f : Int) := by have := hfl2.out; omega
      have hfw : IntKind.u64.wrap (f : Int) = (f : Int) := by rw [IntKind.wrap_u64]; have := hfl2.out; omega
      have hfx : (f : Int) % 18446744073709551616 = (f : Int) := by have := hfl2.out; omega
      clear hf4' 
      go_wp2_with fail
      refine (Class64_any b _ HA.out).mono ?_
      rintro e x1 ⟨rfl, hb1⟩
      have J1 := fhide (HI.out.trans (hb1.mono HI.out.size))
      clear hb1 HI
      clear cb0
      go_wp2_with fail
      refine (rClass64 b _ HA.out).mono ?_
      rintro e x2 ⟨rfl, rfl⟩
      go_wp2_with fail
      refine (Key64_any b _ HA.out).mono ?_
      rintro e x3 ⟨rfl, hb3⟩
      have J3 := fhide (J1.out.trans (hb3.mono J1.out.size))
      clear hb3 J1
      go_wp2_with fail
      refine (rKey64 b _ HA.out).mono ?_
      rintro e x4 ⟨rfl, rfl⟩
      go_wp2_with fail
      refine (OfKey64_any b _ HA.out).mono ?_
      rintro e x5 ⟨rfl, hb5⟩
      have J5 := fhide (J3.out.trans (hb5.mono J3.out.size))
      clear hb5 J3
      go_wp2_with fail
      refine (rOfKey64 b _ HA.out).mono ?_
      rintro e x6 ⟨rfl, rfl⟩
      go_wp2_with fail
      refine (Up64_any b _ HA.out).mono ?_
      rintro e x7 ⟨rfl, hb7⟩
      have J7 := fhide (J5.out.trans (hb7.mono J5.out.size))
      clear hb7 J5
      go_wp2_with fail
      refine (rUp64 b _ HA.out).mono ?_
      rintro e x8 ⟨rfl, rfl⟩
      go_wp2_with fail
      refine (Down64_any b _ HA.out).mono ?_
      rintro e x9 ⟨rfl, hb9⟩
      have J9 := fhide (J7.out.trans (hb9.mono J7.out.size))
      clear hb9 J7
      go_wp2_with fail
      refine (rDown64 b _ HA.out).mono ?_
      rintro e x10 ⟨rfl, rfl⟩
      go_wp2_with (simp only [hfm, hfw, hfx])
      refine (Class32_any f _ hfl2.out).mono ?_
      rintro e x11 ⟨rfl, hb11⟩
      have J11 := fhide (J9.out.trans (hb11.mono J9.out.size))
      clear hb11 J9
      go_wp2_with (simp only [hfm, hfw, hfx])
      refine (rClass32 f _ hfl2.out).mono ?_
      rintro e x12 ⟨rfl, rfl⟩
      go_wp2_with (simp only [hfm, hfw, hfx])
      refine (Key32_any f _ hfl2.out).mono ?_
      rintro e x13 ⟨rfl, hb13⟩
      have J13 := fhide (J11.out.trans (hb13.mono J11.out.size))
      clear hb13 J11
      have eKey : IntKind.u64.wrap ((key32 f : Nat) : Int) = (key32 f : Nat) := by rw [IntKind.wrap_u64]; have := key32_lt f hfl2.out; omega
      have gKey : ((key32 f : Nat) : Int) % 18446744073709551616 = (key32 f : Nat) := by have := key32_lt f hfl2.out; omega
      go_wp2_with (simp only [hfm, hfw, hfx, eKey, gKey])
      refine (rKey32 f _ hfl2.out).mono ?_
      rintro e x14 ⟨rfl, rfl⟩
      go_wp2_with (simp only [hfm, hfw, hfx])
      refine (OfKey32_any f _ hfl2.out).mono ?_
      rintro e x15 ⟨rfl, hb15⟩
      have J15 := fhide (J13.out.trans (hb15.mono J13.out.size))
      clear hb15 J13
      have eOfKey : IntKind.u64.wrap ((ofKey32 f : Nat) : Int) = (ofKey32 f : Nat) := by rw [IntKind.wrap_u64]; have := ofKey32_lt f hfl2.out; omega
      have gOfKey : ((ofKey32 f : Nat) : Int) % 18446744073709551616 = (ofKey32 f : Nat) := by have := ofKey32_lt f hfl2.out; omega
      go_wp2_with (simp only [hfm, hfw, hfx, eOfKey, gOfKey])
      refine (rOfKey32 f _ hfl2.out).mono ?_
      rintro e x16 ⟨rfl, rfl⟩
      go_wp2_with (simp only [hfm, hfw, hfx])
      refine (Up32_any f _ hfl2.out).mono ?_
      rintro e x17 ⟨rfl, hb17⟩
      have J17 := fhide (J15.out.trans (hb17.mono J15.out.size))
      clear hb17 J15
      have eUp : IntKind.u64.wrap ((up32 f : Nat) : Int) = (up32 f : Nat) := by rw [IntKind.wrap_u64]; have := up32_lt f hfl2.out; omega
      have gUp : ((up32 f : Nat) : Int) % 18446744073709551616 = (up32 f : Nat) := by have := up32_lt f hfl2.out; omega
      go_wp2_with (simp only [hfm, hfw, hfx, eUp, gUp])
      refine (rUp32 f _ hfl2.out).mono ?_
      rintro e x18 ⟨rfl, rfl⟩
      go_wp2_with (simp only [hfm, hfw, hfx])
      refine (Down32_any f _ hfl2.out).mono ?_
      rintro e x19 ⟨rfl, hb19⟩
      have J19 := fhide (J17.out.trans (hb19.mono J17.out.size))
      clear hb19 J17
      have eDown : IntKind.u64.wrap ((down32 f : Nat) : Int) = (down32 f : Nat) := by rw [IntKind.wrap_u64]; have := down32_lt f hfl2.out; omega
      have gDown : ((down32 f : Nat) : Int) % 18446744073709551616 = (down32 f : Nat) := by have := down32_lt f hfl2.out; omega
      go_wp2_with (simp only [hfm, hfw, hfx, eDown, gDown])
      refine (rDown32 f _ hfl2.out).mono ?_
      rintro e x20 ⟨rfl, rfl⟩
      go_wp2_with fail
      go_roundw
      case rel => exact ⟨i + 1, by omega, by omega, by go_num, J19⟩
      case measure => simp [intOf]; omega
    · by_cases hl : i < len0
      · have g1 : (i : Int) < (len0 : Int) := by omega
        have g2 : ¬ (i : Int) < 2000 := by omega
        go_wp2_with fail
        refine (wakes_any _).mono ?_
        rintro e v14 ⟨rfl, hb14⟩
        go_wp2_with fail
        go_ret
        exact ⟨rfl, HI.out.trans (hb14.mono HI.out.size)⟩
      · have g1 : ¬ (i : Int) < (len0 : Int) := by omega
        go_wp2_with fail
        refine (wakes_any _).mono ?_
        rintro e v14 ⟨rfl, hb14⟩
        go_wp2_with fail
        go_ret
        exact ⟨rfl, HI.out.trans (hb14.mono HI.out.size)⟩
end Go.Proofs.Ytdiinhccfifiaaa

/- FloatTurns: its walk. -/
import Derived.Test.YtdiinhccfifiaabFR
namespace Go.Proofs.Ytdiinhccfifiaab
open Go.RowKit
open Flt
set_option linter.unusedVariables false
set_option linter.unusedSimpArgs false

set_option maxRecDepth 100000 in
set_option maxHeartbeats 8000000 in
theorem turns_any (a0 : Option Addr) (len0 cap0 : Nat) (w : World) (h : IsTwos w a0 len0) :
    Calls Try.prog 6 #[.slice a0 len0 cap0] w fun e w' => e = .returned (.bool true) ∧ Below w.heap.size w w' := by
  obtain ⟨hlen, hcell⟩ := h
  have HC := fhide hcell
  clear hcell
  go_enter Try.func6, Try.ntmps6
  go_wp2_with fail
  go_loopw [3] (fun t3 wr => ∃ i : Nat, i ≤ len0 ∧ i ≤ 2000 ∧ t3 = .int .i64 i ∧ Hid (Below w.heap.size w wr)) (fun t3 _ => 2000 - (intOf t3).toNat)
  case atStart => exact ⟨0, by omega, by omega, rfl, Below.refl _ _⟩
  case round =>
    obtain ⟨i, hi, hi20, rfl, HI⟩ := hrel
    by_cases hgo : i < len0 ∧ i < 2000
    · have g1 : (i : Int) < (len0 : Int) := by omega
      have g2 : (i : Int) < 2000 := by omega
      obtain ⟨g, o, rfl, hg, hj⟩ := HC.out (by omega)
      obtain ⟨a, b, ha, hb, ca, cb⟩ := hj i hgo.1
      have ca0 : wr.cell? ⟨g, o + i * 2, none⟩ = some (.int .u64 a) := by rw [HI.out.cell (p := ⟨g, o + i * 2, none⟩) hg]; exact ca
      have cb0 : wr.cell? ⟨g, o + i * 2 + 1, none⟩ = some (.int .u64 b) := by rw [HI.out.cell (p := ⟨g, o + i * 2 + 1, none⟩) hg]; exact cb
      have HA := fhide (And.intro ha hb)
      clear hj hgo ca cb ha hb
      have hfl := b64_flip b HA.out.2
      go_wp2_with fail
      refine (Add64_any a b _).mono ?_
      rintro e x1 ⟨rfl, hb1⟩
      have J1 := fhide (HI.out.trans (hb1.mono HI.out.size))
      clear hb1 HI
      clear ca0 cb0
      go_wp2_with fail
      refine (Add64_any b a _).mono ?_
      rw [add_comm Ieee.double b a]
      rintro e x2 ⟨rfl, hb2⟩
      have J2 := fhide (J1.out.trans (hb2.mono J1.out.size))
      clear hb2 J1
      go_wp2_with fail
      refine (Mul64_any a b _).mono ?_
      rintro e x3 ⟨rfl, hb3⟩
      have J3 := fhide (J2.out.trans (hb3.mono J2.out.size))
      clear hb3 J2
      go_wp2_with fail
      refine (Mul64_any b a _).mono ?_
      rw [mul_comm Ieee.double b a]
      rintro e x4 ⟨rfl, hb4⟩
      have J4 := fhide (J3.out.trans (hb4.mono J3.out.size))
      clear hb4 J3
      go_wp2_with fail
      refine (Fma_any a b a _).mono ?_
      rintro e x5 ⟨rfl, hb5⟩
      have J5 := fhide (J4.out.trans (hb5.mono J4.out.size))
      clear hb5 J4
      go_wp2_with fail
      refine (Fma_any b a a _).mono ?_
      rw [fma_comm Ieee.double b a a]
      rintro e x6 ⟨rfl, hb6⟩
      have J6 := fhide (J5.out.trans (hb6.mono J5.out.size))
      clear hb6 J5
      go_wp2_with fail
      refine (Sub64_any a b _).mono ?_
      rw [sub_flip a b HA.out.2]
      rintro e x7 ⟨rfl, hb7⟩
      have J7 := fhide (J6.out.trans (hb7.mono J6.out.size))
      clear hb7 J6
      go_wp2_with (simp only [hfl])
      refine (Add64_any a (flip64 b) _).mono ?_
      rintro e x8 ⟨rfl, hb8⟩
      have J8 := fhide (J7.out.trans (hb8.mono J7.out.size))
      clear hb8 J7
      obtain ⟨f, hf4', hfl2⟩ : ∃ f : Nat, a / 4294967296 = f ∧ Hid (f < 4294967296) := ⟨_, rfl, by have := HA.out.1; show a / 4294967296 < _; omega⟩
      have hf4 : (a : Int) / 4294967296 = (f : Int) := by omega
      have hfm : (f : Int) % 4294967296 = (f : Int) := by have := hfl2.out; omega
      clear hf4' 
      go_wp2_with fail
      refine (finite_any a _ HA.out.1).mono ?_
      rintro e x9 ⟨rfl, rfl⟩
      by_cases hfi : a % 9223372036854775808 < 9218868437227405312
      · rw [decide_eq_true hfi]
        have han : ¬ 9218868437227405312 < a % 9223372036854775808 := by omega
        go_wp2_with fail
        refine (Sub64_any a a _).mono ?_
        rw [sub_self64 a hfi]
        rintro e x10 ⟨rfl, hb10⟩
        have J10 := fhide (J8.out.trans (hb10.mono J8.out.size))
        clear hb10 J8
        go_wp2_with fail
        refine (nan_any a _ HA.out.1).mono ?_
        rw [decide_eq_false han]
        rintro e x11 ⟨rfl, rfl⟩
        go_wp2_with fail
        refine (nan_any b _ HA.out.2).mono ?_
        rintro e x12 ⟨rfl, rfl⟩
        by_cases hbn : 9218868437227405312 < b % 9223372036854775808
        · rw [decide_eq_true hbn]
          go_wp2_with fail
          refine (Add64_any a b _).mono ?_
          rw [add_nan a b (.inr hbn)]
          rintro e x13 ⟨rfl, hb13⟩
          have J13 := fhide (J10.out.trans (hb13.mono J10.out.size))
          clear hb13 J10
          go_wp2_with fail
          refine (Div64_any a b _ HA.out.1 HA.out.2).mono ?_
          rw [div_nan a b (.inr hbn)]
          rintro e x14 ⟨rfl, hb14⟩
          have J14 := fhide (J13.out.trans (hb14.mono J13.out.size))
          clear hb14 J13
          go_wp2_with (simp only [hfm])
          refine (Class32_any f _ hfl2.out).mono ?_
          rintro e x15 ⟨rfl, hb15⟩
          have J15 := fhide (J14.out.trans (hb15.mono J14.out.size))
          clear hb15 J14
          by_cases h5 : class32 f = 5
          · rw [h5]
            go_wp2_with fail
            refine (finite_any a _ HA.out.1).mono ?_
            rw [decide_eq_true hfi]
            rintro e x16 ⟨rfl, rfl⟩
            have Ht2 := fhide (mul_lt64 a 4611686018427387904)
            go_wp2_with fail
            refine (Mul64_any a 4611686018427387904 _).mono ?_
            rintro e x17 ⟨rfl, hb17⟩
            have J17 := fhide (J15.out.trans (hb17.mono J15.out.size))
            clear hb17 J15
            go_wp2_with fail
            refine (finite_any (told64 (Ieee.double.mul a 4611686018427387904)) _ Ht2.out).mono ?_
            rintro e x18 ⟨rfl, rfl⟩
            by_cases hm : told64 (Ieee.double.mul a 4611686018427387904) % 9223372036854775808 < 9218868437227405312
            · rw [decide_eq_true hm]
              go_wp2_with fail
              refine (Mul64_any a 4611686018427387904 _).mono ?_
              rintro e x19 ⟨rfl, hb19⟩
              have J19 := fhide (J17.out.trans (hb19.mono J17.out.size))
              clear hb19 J17
              go_wp2_with fail
              refine (Add64_any a a _).mono ?_
              rintro e x20 ⟨rfl, hb20⟩
              have J20 := fhide (J19.out.trans (hb20.mono J19.out.size))
              clear hb20 J19
              rw [mul_two a hfi]
              go_wp2_with fail
              go_roundw
              case rel => exact ⟨i + 1, by omega, by omega, by go_num, J20⟩
              case measure => simp [intOf]; omega
            · rw [decide_eq_false hm]
              go_wp2_with fail
              go_roundw
              case rel => exact ⟨i + 1, by omega, by omega, by go_num, J17⟩
              case measure => simp [intOf]; omega
          · have h5i : ((class32 f : Int) == 5) = false := by simp; omega
            have h5j : ((class32 f : Int) != 5) = true := by simp; omega
            obtain ⟨x, hx⟩ := wide_back f hfl2.out h5
            have HX := fhide hx
            clear hx h5
            go_wp2_with fail
            refine (HX.out.1 _).mono ?_
            rintro e x21 ⟨rfl, hb21⟩
            have J21 := fhide (J15.out.trans (hb21.mono J15.out.size))
            clear hb21 J15
            go_wp2_with fail
            refine (HX.out.2 _).mono ?_
            rintro e x22 ⟨rfl, hb22⟩
            have J22 := fhide (J21.out.trans (hb22.mono J21.out.size))
            clear hb22 J21
            go_wp2_with fail
            refine (finite_any a _ HA.out.1).mono ?_
            rw [decide_eq_true hfi]
            rintro e x23 ⟨rfl, rfl⟩
            have Ht2 := fhide (mul_lt64 a 4611686018427387904)
            go_wp2_with fail
            refine (Mul64_any a 4611686018427387904 _).mono ?_
            rintro e x24 ⟨rfl, hb24⟩
            have J24 := fhide (J22.out.trans (hb24.mono J22.out.size))
            clear hb24 J22
            go_wp2_with fail
            refine (finite_any (told64 (Ieee.double.mul a 4611686018427387904)) _ Ht2.out).mono ?_
            rintro e x25 ⟨rfl, rfl⟩
            by_cases hm : told64 (Ieee.double.mul a 4611686018427387904) % 9223372036854775808 < 9218868437227405312
            · rw [decide_eq_true hm]
              go_wp2_with fail
              refine (Mul64_any a 4611686018427387904 _).mono ?_
              rintro e x26 ⟨rfl, hb26⟩
              have J26 := fhide (J24.out.trans (hb26.mono J24.out.size))
              clear hb26 J24
              go_wp2_with fail
              refine (Add64_any a a _).mono ?_
              rintro e x27 ⟨rfl, hb27⟩
              have J27 := fhide (J26.out.trans (hb27.mono J26.out.size))
              clear hb27 J26
              rw [mul_two a hfi]
              go_wp2_with fail
              go_roundw
              case rel => exact ⟨i + 1, by omega, by omega, by go_num, J27⟩
              case measure => simp [intOf]; omega
            · rw [decide_eq_false hm]
              go_wp2_with fail
              go_roundw
              case rel => exact ⟨i + 1, by omega, by omega, by go_num, J24⟩
              case measure => simp [intOf]; omega
        · rw [decide_eq_false hbn]
          go_wp2_with (simp only [hfm])
          refine (Class32_any f _ hfl2.out).mono ?_
          rintro e x28 ⟨rfl, hb28⟩
          have J28 := fhide (J10.out.trans (hb28.mono J10.out.size))
          clear hb28 J10
          by_cases h5 : class32 f = 5
          · rw [h5]
            go_wp2_with fail
            refine (finite_any a _ HA.out.1).mono ?_
            rw [decide_eq_true hfi]
            rintro e x29 ⟨rfl, rfl⟩
            have Ht2 := fhide (mul_lt64 a 4611686018427387904)
            go_wp2_with fail
            refine (Mul64_any a 4611686018427387904 _).mono ?_
            rintro e x30 ⟨rfl, hb30⟩
            have J30 := fhide (J28.out.trans (hb30.mono J28.out.size))
            clear hb30 J28
            go_wp2_with fail
            refine (finite_any (told64 (Ieee.double.mul a 4611686018427387904)) _ Ht2.out).mono ?_
            rintro e x31 ⟨rfl, rfl⟩
            by_cases hm : told64 (Ieee.double.mul a 4611686018427387904) % 9223372036854775808 < 9218868437227405312
            · rw [decide_eq_true hm]
              go_wp2_with fail
              refine (Mul64_any a 4611686018427387904 _).mono ?_
              rintro e x32 ⟨rfl, hb32⟩
              have J32 := fhide (J30.out.trans (hb32.mono J30.out.size))
              clear hb32 J30
              go_wp2_with fail
              refine (Add64_any a a _).mono ?_
              rintro e x33 ⟨rfl, hb33⟩
              have J33 := fhide (J32.out.trans (hb33.mono J32.out.size))
              clear hb33 J32
              rw [mul_two a hfi]
              go_wp2_with fail
              go_roundw
              case rel => exact ⟨i + 1, by omega, by omega, by go_num, J33⟩
              case measure => simp [intOf]; omega
            · rw [decide_eq_false hm]
              go_wp2_with fail
              go_roundw
              case rel => exact ⟨i + 1, by omega, by omega, by go_num, J30⟩
              case measure => simp [intOf]; omega
          · have h5i : ((class32 f : Int) == 5) = false := by simp; omega
            have h5j : ((class32 f : Int) != 5) = true := by simp; omega
            obtain ⟨x, hx⟩ := wide_back f hfl2.out h5
            have HX := fhide hx
            clear hx h5
            go_wp2_with fail
            refine (HX.out.1 _).mono ?_
            rintro e x34 ⟨rfl, hb34⟩
            have J34 := fhide (J28.out.trans (hb34.mono J28.out.size))
            clear hb34 J28
            go_wp2_with fail
            refine (HX.out.2 _).mono ?_
            rintro e x35 ⟨rfl, hb35⟩
            have J35 := fhide (J34.out.trans (hb35.mono J34.out.size))
            clear hb35 J34
            go_wp2_with fail
            refine (finite_any a _ HA.out.1).mono ?_
            rw [decide_eq_true hfi]
            rintro e x36 ⟨rfl, rfl⟩
            have Ht2 := fhide (mul_lt64 a 4611686018427387904)
            go_wp2_with fail
            refine (Mul64_any a 4611686018427387904 _).mono ?_
            rintro e x37 ⟨rfl, hb37⟩
            have J37 := fhide (J35.out.trans (hb37.mono J35.out.size))
            clear hb37 J35
            go_wp2_with fail
            refine (finite_any (told64 (Ieee.double.mul a 4611686018427387904)) _ Ht2.out).mono ?_
            rintro e x38 ⟨rfl, rfl⟩
            by_cases hm : told64 (Ieee.double.mul a 4611686018427387904) % 9223372036854775808 < 9218868437227405312
            · rw [decide_eq_true hm]
              go_wp2_with fail
              refine (Mul64_any a 4611686018427387904 _).mono ?_
              rintro e x39 ⟨rfl, hb39⟩
              have J39 := fhide (J37.out.trans (hb39.mono J37.out.size))
              clear hb39 J37
              go_wp2_with fail
              refine (Add64_any a a _).mono ?_
              rintro e x40 ⟨rfl, hb40⟩
              have J40 := fhide (J39.out.trans (hb40.mono J39.out.size))
              clear hb40 J39
              rw [mul_two a hfi]
              go_wp2_with fail
              go_roundw
              case rel => exact ⟨i + 1, by omega, by omega, by go_num, J40⟩
              case measure => simp [intOf]; omega
            · rw [decide_eq_false hm]
              go_wp2_with fail
              go_roundw
              case rel => exact ⟨i + 1, by omega, by omega, by go_num, J37⟩
              case measure => simp [intOf]; omega
      · rw [decide_eq_false hfi]
        by_cases han : 9218868437227405312 < a % 9223372036854775808
        · skip
          go_wp2_with fail
          refine (nan_any a _ HA.out.1).mono ?_
          rw [decide_eq_true han]
          rintro e x41 ⟨rfl, rfl⟩
          go_wp2_with fail
          refine (Add64_any a b _).mono ?_
          rw [add_nan a b (.inl han)]
          rintro e x42 ⟨rfl, hb42⟩
          have J42 := fhide (J8.out.trans (hb42.mono J8.out.size))
          clear hb42 J8
          go_wp2_with fail
          refine (Div64_any a b _ HA.out.1 HA.out.2).mono ?_
          rw [div_nan a b (.inl han)]
          rintro e x43 ⟨rfl, hb43⟩
          have J43 := fhide (J42.out.trans (hb43.mono J42.out.size))
          clear hb43 J42
          go_wp2_with (simp only [hfm])
          refine (Class32_any f _ hfl2.out).mono ?_
          rintro e x44 ⟨rfl, hb44⟩
          have J44 := fhide (J43.out.trans (hb44.mono J43.out.size))
          clear hb44 J43
          by_cases h5 : class32 f = 5
          · rw [h5]
            go_wp2_with fail
            refine (finite_any a _ HA.out.1).mono ?_
            rw [decide_eq_false hfi]
            rintro e x45 ⟨rfl, rfl⟩
            go_wp2_with fail
            go_roundw
            case rel => exact ⟨i + 1, by omega, by omega, by go_num, J44⟩
            case measure => simp [intOf]; omega
          · have h5i : ((class32 f : Int) == 5) = false := by simp; omega
            have h5j : ((class32 f : Int) != 5) = true := by simp; omega
            obtain ⟨x, hx⟩ := wide_back f hfl2.out h5
            have HX := fhide hx
            clear hx h5
            go_wp2_with fail
            refine (HX.out.1 _).mono ?_
            rintro e x46 ⟨rfl, hb46⟩
            have J46 := fhide (J44.out.trans (hb46.mono J44.out.size))
            clear hb46 J44
            go_wp2_with fail
            refine (HX.out.2 _).mono ?_
            rintro e x47 ⟨rfl, hb47⟩
            have J47 := fhide (J46.out.trans (hb47.mono J46.out.size))
            clear hb47 J46
            go_wp2_with fail
            refine (finite_any a _ HA.out.1).mono ?_
            rw [decide_eq_false hfi]
            rintro e x48 ⟨rfl, rfl⟩
            go_wp2_with fail
            go_roundw
            case rel => exact ⟨i + 1, by omega, by omega, by go_num, J47⟩
            case measure => simp [intOf]; omega
        · skip
          go_wp2_with fail
          refine (nan_any a _ HA.out.1).mono ?_
          rw [decide_eq_false han]
          rintro e x49 ⟨rfl, rfl⟩
          go_wp2_with fail
          refine (nan_any b _ HA.out.2).mono ?_
          rintro e x50 ⟨rfl, rfl⟩
          by_cases hbn : 9218868437227405312 < b % 9223372036854775808
          · rw [decide_eq_true hbn]
            go_wp2_with fail
            refine (Add64_any a b _).mono ?_
            rw [add_nan a b (.inr hbn)]
            rintro e x51 ⟨rfl, hb51⟩
            have J51 := fhide (J8.out.trans (hb51.mono J8.out.size))
            clear hb51 J8
            go_wp2_with fail
            refine (Div64_any a b _ HA.out.1 HA.out.2).mono ?_
            rw [div_nan a b (.inr hbn)]
            rintro e x52 ⟨rfl, hb52⟩
            have J52 := fhide (J51.out.trans (hb52.mono J51.out.size))
            clear hb52 J51
            go_wp2_with (simp only [hfm])
            refine (Class32_any f _ hfl2.out).mono ?_
            rintro e x53 ⟨rfl, hb53⟩
            have J53 := fhide (J52.out.trans (hb53.mono J52.out.size))
            clear hb53 J52
            by_cases h5 : class32 f = 5
            · rw [h5]
              go_wp2_with fail
              refine (finite_any a _ HA.out.1).mono ?_
              rw [decide_eq_false hfi]
              rintro e x54 ⟨rfl, rfl⟩
              go_wp2_with fail
              go_roundw
              case rel => exact ⟨i + 1, by omega, by omega, by go_num, J53⟩
              case measure => simp [intOf]; omega
            · have h5i : ((class32 f : Int) == 5) = false := by simp; omega
              have h5j : ((class32 f : Int) != 5) = true := by simp; omega
              obtain ⟨x, hx⟩ := wide_back f hfl2.out h5
              have HX := fhide hx
              clear hx h5
              go_wp2_with fail
              refine (HX.out.1 _).mono ?_
              rintro e x55 ⟨rfl, hb55⟩
              have J55 := fhide (J53.out.trans (hb55.mono J53.out.size))
              clear hb55 J53
              go_wp2_with fail
              refine (HX.out.2 _).mono ?_
              rintro e x56 ⟨rfl, hb56⟩
              have J56 := fhide (J55.out.trans (hb56.mono J55.out.size))
              clear hb56 J55
              go_wp2_with fail
              refine (finite_any a _ HA.out.1).mono ?_
              rw [decide_eq_false hfi]
              rintro e x57 ⟨rfl, rfl⟩
              go_wp2_with fail
              go_roundw
              case rel => exact ⟨i + 1, by omega, by omega, by go_num, J56⟩
              case measure => simp [intOf]; omega
          · rw [decide_eq_false hbn]
            go_wp2_with (simp only [hfm])
            refine (Class32_any f _ hfl2.out).mono ?_
            rintro e x58 ⟨rfl, hb58⟩
            have J58 := fhide (J8.out.trans (hb58.mono J8.out.size))
            clear hb58 J8
            by_cases h5 : class32 f = 5
            · rw [h5]
              go_wp2_with fail
              refine (finite_any a _ HA.out.1).mono ?_
              rw [decide_eq_false hfi]
              rintro e x59 ⟨rfl, rfl⟩
              go_wp2_with fail
              go_roundw
              case rel => exact ⟨i + 1, by omega, by omega, by go_num, J58⟩
              case measure => simp [intOf]; omega
            · have h5i : ((class32 f : Int) == 5) = false := by simp; omega
              have h5j : ((class32 f : Int) != 5) = true := by simp; omega
              obtain ⟨x, hx⟩ := wide_back f hfl2.out h5
              have HX := fhide hx
              clear hx h5
              go_wp2_with fail
              refine (HX.out.1 _).mono ?_
              rintro e x60 ⟨rfl, hb60⟩
              have J60 := fhide (J58.out.trans (hb60.mono J58.out.size))
              clear hb60 J58
              go_wp2_with fail
              refine (HX.out.2 _).mono ?_
              rintro e x61 ⟨rfl, hb61⟩
              have J61 := fhide (J60.out.trans (hb61.mono J60.out.size))
              clear hb61 J60
              go_wp2_with fail
              refine (finite_any a _ HA.out.1).mono ?_
              rw [decide_eq_false hfi]
              rintro e x62 ⟨rfl, rfl⟩
              go_wp2_with fail
              go_roundw
              case rel => exact ⟨i + 1, by omega, by omega, by go_num, J61⟩
              case measure => simp [intOf]; omega
    · by_cases hl : i < len0
      · have g1 : (i : Int) < (len0 : Int) := by omega
        have g2 : ¬ (i : Int) < 2000 := by omega
        go_wp2_with fail
        refine (wakes_any _).mono ?_
        rintro e v14 ⟨rfl, hb14⟩
        go_wp2_with fail
        go_ret
        exact ⟨rfl, HI.out.trans (hb14.mono HI.out.size)⟩
      · have g1 : ¬ (i : Int) < (len0 : Int) := by omega
        go_wp2_with fail
        refine (wakes_any _).mono ?_
        rintro e v14 ⟨rfl, hb14⟩
        go_wp2_with fail
        go_ret
        exact ⟨rfl, HI.out.trans (hb14.mono HI.out.size)⟩
end Go.Proofs.Ytdiinhccfifiaab

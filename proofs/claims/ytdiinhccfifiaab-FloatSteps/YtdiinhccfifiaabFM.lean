/- FloatSteps: its walk. -/
import Derived.Test.YtdiinhccfifiaabFL
namespace Go.Proofs.Ytdiinhccfifiaab
open Go.RowKit
open Flt
set_option linter.unusedVariables false
set_option linter.unusedSimpArgs false

set_option maxRecDepth 100000 in
set_option maxHeartbeats 8000000 in
theorem steps_any (a0 : Option Addr) (len0 cap0 : Nat) (w : World) (h : IsTwos w a0 len0) :
    Calls Try.prog 4 #[.slice a0 len0 cap0] w fun e w' => e = .returned (.bool true) ∧ Below w.heap.size w w' := by
  obtain ⟨hlen, hcell⟩ := h
  have HC := fhide hcell
  clear hcell
  go_enter Try.func4, Try.ntmps4
  go_wp2_with fail
  go_loopw [3] (fun t3 wr => ∃ i : Nat, i ≤ len0 ∧ i ≤ 2000 ∧ t3 = .int .i64 i ∧ Hid (Below w.heap.size w wr)) (fun t3 _ => 2000 - (intOf t3).toNat)
  case atStart => exact ⟨0, by omega, by omega, rfl, Below.refl _ _⟩
  case round =>
    obtain ⟨i, hi, hi20, rfl, HI⟩ := hrel
    by_cases hgo : i < len0 ∧ i < 2000
    · have g1 : (i : Int) < (len0 : Int) := by omega
      have g2 : (i : Int) < 2000 := by omega
      obtain ⟨g, o, rfl, hg, hj⟩ := HC.out (by omega)
      obtain ⟨a, b, ha, hb, ca, cb⟩ := hj i hgo.1
      have ca0 : wr.cell? ⟨g, o + i * 2, none⟩ = some (.int .u64 a) := by rw [HI.out.cell (p := ⟨g, o + i * 2, none⟩) hg]; exact ca
      have cb0 : wr.cell? ⟨g, o + i * 2 + 1, none⟩ = some (.int .u64 b) := by rw [HI.out.cell (p := ⟨g, o + i * 2 + 1, none⟩) hg]; exact cb
      have HA := fhide (And.intro ha hb)
      have hkey := fhide (And.intro (ofKey64_key a ha) (key64_ofKey a ha))
      clear hj hgo ca cb ha hb
      have hab := b64_abs a HA.out.1
      obtain ⟨ra, hra, hra'⟩ : ∃ r, a % 9223372036854775808 = r ∧ Hid (a % 9223372036854775808 = r) := ⟨_, rfl, rfl⟩
      rw [hra] at hab
      obtain ⟨ka, hka⟩ : ∃ k, Hid (key64 a = k) := ⟨_, rfl⟩
      obtain ⟨oa, hoa⟩ : ∃ k, Hid (ofKey64 a = k ∧ k < 18446744073709551616) := ⟨_, rfl, ofKey64_lt a HA.out.1⟩
      clear hra
      go_wp2_with fail
      refine (Key64_any a _ HA.out.1).mono ?_
      rintro e v1 ⟨rfl, hb1⟩
      have J1 := fhide (HI.out.trans (hb1.mono HI.out.size))
      clear hb1 HI ca0 cb0
      go_wp2_with fail
      refine (OfKey64_any (key64 a) _ (key64_lt a HA.out.1)).mono ?_
      rw [hkey.out.1]
      rintro e v2 ⟨rfl, hb2⟩
      have J2 := fhide (J1.out.trans (hb2.mono J1.out.size))
      clear hb2 J1
      go_wp2_with fail
      refine (OfKey64_any a _ HA.out.1).mono ?_
      rintro e v3 ⟨rfl, hb3⟩
      have J3 := fhide (J2.out.trans (hb3.mono J2.out.size))
      clear hb3 J2
      go_wp2_with fail
      refine (Key64_any (ofKey64 a) _ (ofKey64_lt a HA.out.1)).mono ?_
      rw [hkey.out.2]
      rintro e v4 ⟨rfl, hb4⟩
      have J4 := fhide (J3.out.trans (hb4.mono J3.out.size))
      clear hb4 J3 hkey
      go_wp2_with fail
      refine (nan_any a _ HA.out.1).mono ?_
      rintro e v5 ⟨rfl, rfl⟩
      rw [hra'.out]
      by_cases hn : 9218868437227405312 < ra
      · rw [decide_eq_true hn]
        have hu : up64 a = 9221120237041090560 := if_pos (by rw [hra'.out]; exact hn)
        have hd : down64 a = 9221120237041090560 := if_pos (by rw [hra'.out]; exact hn)
        have HU := fhide (And.intro hu hd)
        clear hu hd hn
        go_wp2_with fail
        refine (Up64_any a _ HA.out.1).mono ?_
        rw [HU.out.1]
        rintro e v6 ⟨rfl, hb6⟩
        have J6 := fhide (J4.out.trans (hb6.mono J4.out.size))
        clear hb6 J4
        go_wp2_with fail
        refine (Down64_any a _ HA.out.1).mono ?_
        rw [HU.out.2]
        rintro e v7 ⟨rfl, hb7⟩
        have J7 := fhide (J6.out.trans (hb7.mono J6.out.size))
        clear hb7 J6
        go_wp2_with (simp only [hab])
        go_roundw
        case rel => exact ⟨i + 1, by omega, by omega, by go_num, J7⟩
        case measure => simp [intOf]; omega
      · rw [decide_eq_false hn]
        have Hn := fhide (show a % 9223372036854775808 ≤ 9218868437227405312 by rw [hra'.out]; omega)
        clear hn
        go_wp2_with fail
        refine (Up64_any a _ HA.out.1).mono ?_
        rintro e v6 ⟨rfl, hb6⟩
        have J6 := fhide (J4.out.trans (hb6.mono J4.out.size))
        clear hb6 J4
        have hup := fhide (fun h2 h3 => up64_key a HA.out.1 Hn.out h2 h3)
        have hdn := fhide (fun h2 h3 h4 => down64_up a HA.out.1 Hn.out h2 h3 h4)
        have Hul := fhide (up64_lt a HA.out.1)
        generalize up64 a = u at *
        have hub := b64_abs u Hul.out
        obtain ⟨ru, hru⟩ : ∃ r, Hid (u % 9223372036854775808 = r) := ⟨_, rfl⟩
        rw [hru.out] at hub
        obtain ⟨v, hv, hv0⟩ := or_abs a b HA.out.1 HA.out.2
        have Hv := fhide hv0
        clear hv0
        -- what is left behind the steps: Cmp
        have HO : Hid ((Ieee.double.order a b = none ∧ 9218868437227405312 < b % 9223372036854775808) ∨ (b % 9223372036854775808 ≤ 9218868437227405312 ∧ v = 0 ∧ Ieee.double.order a b = some .eq) ∨ (b % 9223372036854775808 ≤ 9218868437227405312 ∧ v ≠ 0 ∧
            ((Ieee.double.order a b = some .lt ∧ key64 a < key64 b ∧ a ≠ b) ∨ (Ieee.double.order a b = some .eq ∧ a = b) ∨ (Ieee.double.order a b = some .gt ∧ key64 b < key64 a ∧ a ≠ b)))) := by
          by_cases h : 9218868437227405312 < b % 9223372036854775808
          · exact .inl ⟨order_nan64 a b (.inr h), h⟩
          · by_cases h0 : v = 0
            · obtain ⟨z1, z2⟩ := Hv.out.1 h0
              exact .inr (.inl ⟨by omega, h0, order_zero a b HA.out.1 HA.out.2 z1 z2⟩)
            · exact .inr (.inr ⟨by omega, h0, order_key a b HA.out.1 HA.out.2 Hn.out (by omega) (fun h => h0 (Hv.out.2 h))⟩)
        clear Hv
        have HS : Hid (ra = 0 ∨ (ra ≠ 0 ∧ a = 9218868437227405312) ∨ (ra ≠ 0 ∧ a ≠ 9218868437227405312 ∧ key64 u = key64 a + 1 ∧ (ru = 0 ∨ (ru ≠ 0 ∧ down64 u = a)))) := by
          by_cases h0 : ra = 0
          · exact .inl h0
          · by_cases h1 : a = 9218868437227405312
            · exact .inr (.inl ⟨h0, h1⟩)
            · have h0' : a % 9223372036854775808 ≠ 0 := by rw [hra'.out]; exact h0
              refine .inr (.inr ⟨h0, h1, hup.out h1 h0', ?_⟩)
              by_cases h2 : ru = 0
              · exact .inl h2
              · exact .inr ⟨h2, hdn.out h1 h0' (by rw [hru.out]; exact h2)⟩
        clear hup hdn hra' hru
        rcases HS.out with h0 | ⟨h0, h1⟩ | ⟨h0, h1, h2, h3⟩
        · subst h0
          have hab : bits BinOp.andNot IntKind.u64 (a : Int) 9223372036854775808 = 0 := hab
          go_wp2_with (simp only [hab])
          refine (Cmp64_any a b _).mono ?_
          rintro e v10 ⟨rfl, rfl⟩
          rcases HO.out with ⟨p1, p2⟩ | ⟨p1, p2, p3⟩ | ⟨p1, p2, p3⟩
          · rw [p1, show cmpI none = 0 from rfl]
            clear p1 HS HO
            go_wp2_with fail
            refine (nan_any b _ HA.out.2).mono ?_
            rintro e v11 ⟨rfl, rfl⟩
            rw [decide_eq_true p2]
            clear p2
            go_wp2_with (simp only [hab])
            go_roundw
            case rel => exact ⟨i + 1, by omega, by omega, by go_num, J6⟩
            case measure => simp [intOf]; omega
          · rw [p3, show cmpI (some Ordering.eq) = 0 from rfl]
            subst p2
            have p4 : ¬ 9218868437227405312 < b % 9223372036854775808 := by omega
            have hv : bits BinOp.andNot IntKind.u64 (bits BinOp.or IntKind.u64 (a : Int) (b : Int)) 9223372036854775808 = 0 := hv
            clear p1 p3 HS HO
            go_wp2_with fail
            refine (nan_any b _ HA.out.2).mono ?_
            rintro e v11 ⟨rfl, rfl⟩
            rw [decide_eq_false p4]
            clear p4
            go_wp2_with (simp only [hab, hv])
            go_wp2_with (simp only [hab])
            go_roundw
            case rel => exact ⟨i + 1, by omega, by omega, by go_num, J6⟩
            case measure => simp [intOf]; omega
          · have p4 : ¬ 9218868437227405312 < b % 9223372036854775808 := by omega
            have pv : ((v : Int) == 0) = false := by simp; omega
            have pv' : ((v : Int) != 0) = true := by simp; omega
            clear p1 p2
            rcases p3 with ⟨q1, q2, q3⟩ | ⟨q1, q2⟩ | ⟨q1, q2, q3⟩
            · rw [q1, show cmpI (some Ordering.lt) = -1 from rfl]
              have q2' : (key64 a : Int) < (key64 b : Int) := by omega
              have q3' : ((a : Int) == (b : Int)) = false := by simp; omega
              clear q1 HS HO
              go_wp2_with fail
              refine (nan_any b _ HA.out.2).mono ?_
              rintro e v11 ⟨rfl, rfl⟩
              rw [decide_eq_false p4]
              clear p4
              go_wp2_with (simp only [hab, hv])
              refine (Key64_any a _ HA.out.1).mono ?_
              rintro e v12 ⟨rfl, hb12⟩
              have J12 := fhide (J6.out.trans (hb12.mono J6.out.size))
              clear hb12 J6
              go_wp2_with (simp only [hab, hv])
              refine (Key64_any b _ HA.out.2).mono ?_
              rintro e v13 ⟨rfl, hb13⟩
              have J13 := fhide (J12.out.trans (hb13.mono J12.out.size))
              clear hb13 J12
              go_wp2_with (simp only [hab])
              go_roundw
              case rel => exact ⟨i + 1, by omega, by omega, by go_num, J13⟩
              case measure => simp [intOf]; omega
            · rw [q1, show cmpI (some Ordering.eq) = 0 from rfl]
              subst q2
              have q2' : ¬ (key64 a : Int) < (key64 a : Int) := by omega
              clear q1 HS HO
              go_wp2_with fail
              refine (nan_any a _ HA.out.2).mono ?_
              rintro e v11 ⟨rfl, rfl⟩
              rw [decide_eq_false p4]
              clear p4
              go_wp2_with (simp only [hab, hv])
              refine (Key64_any a _ HA.out.1).mono ?_
              rintro e v12 ⟨rfl, hb12⟩
              have J12 := fhide (J6.out.trans (hb12.mono J6.out.size))
              clear hb12 J6
              go_wp2_with (simp only [hab, hv])
              refine (Key64_any a _ HA.out.2).mono ?_
              rintro e v13 ⟨rfl, hb13⟩
              have J13 := fhide (J12.out.trans (hb13.mono J12.out.size))
              clear hb13 J12
              go_wp2_with (simp only [hab])
              go_roundw
              case rel => exact ⟨i + 1, by omega, by omega, by go_num, J13⟩
              case measure => simp [intOf]; omega
            · rw [q1, show cmpI (some Ordering.gt) = 1 from rfl]
              have q2' : ¬ (key64 a : Int) < (key64 b : Int) := by omega
              have q3' : ((a : Int) == (b : Int)) = false := by simp; omega
              clear q1 HS HO
              go_wp2_with fail
              refine (nan_any b _ HA.out.2).mono ?_
              rintro e v11 ⟨rfl, rfl⟩
              rw [decide_eq_false p4]
              clear p4
              go_wp2_with (simp only [hab, hv])
              refine (Key64_any a _ HA.out.1).mono ?_
              rintro e v12 ⟨rfl, hb12⟩
              have J12 := fhide (J6.out.trans (hb12.mono J6.out.size))
              clear hb12 J6
              go_wp2_with (simp only [hab, hv])
              refine (Key64_any b _ HA.out.2).mono ?_
              rintro e v13 ⟨rfl, hb13⟩
              have J13 := fhide (J12.out.trans (hb13.mono J12.out.size))
              clear hb13 J12
              go_wp2_with (simp only [hab])
              go_roundw
              case rel => exact ⟨i + 1, by omega, by omega, by go_num, J13⟩
              case measure => simp [intOf]; omega
        · have z0 : ((ra : Int) == 0) = false := by simp; omega
          have z0' : ((ra : Int) != 0) = true := by simp; omega
          have z1 : ((a : Int) == 9218868437227405312) = true := by simp; omega
          have z1' : ((a : Int) != 9218868437227405312) = false := by simp; omega
          clear h0 h1
          go_wp2_with (simp only [hab])
          refine (Cmp64_any a b _).mono ?_
          rintro e v10 ⟨rfl, rfl⟩
          rcases HO.out with ⟨p1, p2⟩ | ⟨p1, p2, p3⟩ | ⟨p1, p2, p3⟩
          · rw [p1, show cmpI none = 0 from rfl]
            clear p1 HS HO
            go_wp2_with fail
            refine (nan_any b _ HA.out.2).mono ?_
            rintro e v11 ⟨rfl, rfl⟩
            rw [decide_eq_true p2]
            clear p2
            go_wp2_with (simp only [hab])
            go_roundw
            case rel => exact ⟨i + 1, by omega, by omega, by go_num, J6⟩
            case measure => simp [intOf]; omega
          · rw [p3, show cmpI (some Ordering.eq) = 0 from rfl]
            subst p2
            have p4 : ¬ 9218868437227405312 < b % 9223372036854775808 := by omega
            have hv : bits BinOp.andNot IntKind.u64 (bits BinOp.or IntKind.u64 (a : Int) (b : Int)) 9223372036854775808 = 0 := hv
            clear p1 p3 HS HO
            go_wp2_with fail
            refine (nan_any b _ HA.out.2).mono ?_
            rintro e v11 ⟨rfl, rfl⟩
            rw [decide_eq_false p4]
            clear p4
            go_wp2_with (simp only [hab, hv])
            go_wp2_with (simp only [hab])
            go_roundw
            case rel => exact ⟨i + 1, by omega, by omega, by go_num, J6⟩
            case measure => simp [intOf]; omega
          · have p4 : ¬ 9218868437227405312 < b % 9223372036854775808 := by omega
            have pv : ((v : Int) == 0) = false := by simp; omega
            have pv' : ((v : Int) != 0) = true := by simp; omega
            clear p1 p2
            rcases p3 with ⟨q1, q2, q3⟩ | ⟨q1, q2⟩ | ⟨q1, q2, q3⟩
            · rw [q1, show cmpI (some Ordering.lt) = -1 from rfl]
              have q2' : (key64 a : Int) < (key64 b : Int) := by omega
              have q3' : ((a : Int) == (b : Int)) = false := by simp; omega
              clear q1 HS HO
              go_wp2_with fail
              refine (nan_any b _ HA.out.2).mono ?_
              rintro e v11 ⟨rfl, rfl⟩
              rw [decide_eq_false p4]
              clear p4
              go_wp2_with (simp only [hab, hv])
              refine (Key64_any a _ HA.out.1).mono ?_
              rintro e v12 ⟨rfl, hb12⟩
              have J12 := fhide (J6.out.trans (hb12.mono J6.out.size))
              clear hb12 J6
              go_wp2_with (simp only [hab, hv])
              refine (Key64_any b _ HA.out.2).mono ?_
              rintro e v13 ⟨rfl, hb13⟩
              have J13 := fhide (J12.out.trans (hb13.mono J12.out.size))
              clear hb13 J12
              go_wp2_with (simp only [hab])
              go_roundw
              case rel => exact ⟨i + 1, by omega, by omega, by go_num, J13⟩
              case measure => simp [intOf]; omega
            · rw [q1, show cmpI (some Ordering.eq) = 0 from rfl]
              subst q2
              have q2' : ¬ (key64 a : Int) < (key64 a : Int) := by omega
              clear q1 HS HO
              go_wp2_with fail
              refine (nan_any a _ HA.out.2).mono ?_
              rintro e v11 ⟨rfl, rfl⟩
              rw [decide_eq_false p4]
              clear p4
              go_wp2_with (simp only [hab, hv])
              refine (Key64_any a _ HA.out.1).mono ?_
              rintro e v12 ⟨rfl, hb12⟩
              have J12 := fhide (J6.out.trans (hb12.mono J6.out.size))
              clear hb12 J6
              go_wp2_with (simp only [hab, hv])
              refine (Key64_any a _ HA.out.2).mono ?_
              rintro e v13 ⟨rfl, hb13⟩
              have J13 := fhide (J12.out.trans (hb13.mono J12.out.size))
              clear hb13 J12
              go_wp2_with (simp only [hab])
              go_roundw
              case rel => exact ⟨i + 1, by omega, by omega, by go_num, J13⟩
              case measure => simp [intOf]; omega
            · rw [q1, show cmpI (some Ordering.gt) = 1 from rfl]
              have q2' : ¬ (key64 a : Int) < (key64 b : Int) := by omega
              have q3' : ((a : Int) == (b : Int)) = false := by simp; omega
              clear q1 HS HO
              go_wp2_with fail
              refine (nan_any b _ HA.out.2).mono ?_
              rintro e v11 ⟨rfl, rfl⟩
              rw [decide_eq_false p4]
              clear p4
              go_wp2_with (simp only [hab, hv])
              refine (Key64_any a _ HA.out.1).mono ?_
              rintro e v12 ⟨rfl, hb12⟩
              have J12 := fhide (J6.out.trans (hb12.mono J6.out.size))
              clear hb12 J6
              go_wp2_with (simp only [hab, hv])
              refine (Key64_any b _ HA.out.2).mono ?_
              rintro e v13 ⟨rfl, hb13⟩
              have J13 := fhide (J12.out.trans (hb13.mono J12.out.size))
              clear hb13 J12
              go_wp2_with (simp only [hab])
              go_roundw
              case rel => exact ⟨i + 1, by omega, by omega, by go_num, J13⟩
              case measure => simp [intOf]; omega
        · have z0 : ((ra : Int) == 0) = false := by simp; omega
          have z0' : ((ra : Int) != 0) = true := by simp; omega
          have z1 : ((a : Int) == 9218868437227405312) = false := by simp; omega
          have z1' : ((a : Int) != 9218868437227405312) = true := by simp; omega
          have Hka := fhide (show key64 a + 1 < 18446744073709551616 by rw [← h2]; exact key64_lt u Hul.out)
          clear h0 h1
          go_wp2_with (simp only [hab])
          refine (Key64_any u _ Hul.out).mono ?_
          rintro e v7 ⟨rfl, hb7⟩
          have J7 := fhide (J6.out.trans (hb7.mono J6.out.size))
          clear hb7 J6
          go_wp2_with (simp only [hab])
          refine (Key64_any a _ HA.out.1).mono ?_
          rintro e v8 ⟨rfl, hb8⟩
          have J8 := fhide (J7.out.trans (hb8.mono J7.out.size))
          clear hb8 J7
          have hk2 : ((key64 a : Int) + 1) % 18446744073709551616 = ((key64 u : Nat) : Int) := by rw [h2]; have := Hka.out; omega
          have hk3 : IntKind.u64.wrap ((key64 a : Int) + 1) = ((key64 u : Nat) : Int) := by rw [IntKind.wrap_u64]; exact hk2
          clear h2 Hka
          rcases h3 with h3 | ⟨h3, h4⟩
          · subst h3
            have hub : bits BinOp.andNot IntKind.u64 (u : Int) 9223372036854775808 = 0 := hub
            go_wp2_with (simp only [hab, hub, hk2, hk3])
            refine (Cmp64_any a b _).mono ?_
            rintro e v10 ⟨rfl, rfl⟩
            rcases HO.out with ⟨p1, p2⟩ | ⟨p1, p2, p3⟩ | ⟨p1, p2, p3⟩
            · rw [p1, show cmpI none = 0 from rfl]
              clear p1 HS HO
              go_wp2_with fail
              refine (nan_any b _ HA.out.2).mono ?_
              rintro e v11 ⟨rfl, rfl⟩
              rw [decide_eq_true p2]
              clear p2
              go_wp2_with (simp only [hab])
              go_roundw
              case rel => exact ⟨i + 1, by omega, by omega, by go_num, J8⟩
              case measure => simp [intOf]; omega
            · rw [p3, show cmpI (some Ordering.eq) = 0 from rfl]
              subst p2
              have p4 : ¬ 9218868437227405312 < b % 9223372036854775808 := by omega
              have hv : bits BinOp.andNot IntKind.u64 (bits BinOp.or IntKind.u64 (a : Int) (b : Int)) 9223372036854775808 = 0 := hv
              clear p1 p3 HS HO
              go_wp2_with fail
              refine (nan_any b _ HA.out.2).mono ?_
              rintro e v11 ⟨rfl, rfl⟩
              rw [decide_eq_false p4]
              clear p4
              go_wp2_with (simp only [hab, hv])
              go_wp2_with (simp only [hab])
              go_roundw
              case rel => exact ⟨i + 1, by omega, by omega, by go_num, J8⟩
              case measure => simp [intOf]; omega
            · have p4 : ¬ 9218868437227405312 < b % 9223372036854775808 := by omega
              have pv : ((v : Int) == 0) = false := by simp; omega
              have pv' : ((v : Int) != 0) = true := by simp; omega
              clear p1 p2
              rcases p3 with ⟨q1, q2, q3⟩ | ⟨q1, q2⟩ | ⟨q1, q2, q3⟩
              · rw [q1, show cmpI (some Ordering.lt) = -1 from rfl]
                have q2' : (key64 a : Int) < (key64 b : Int) := by omega
                have q3' : ((a : Int) == (b : Int)) = false := by simp; omega
                clear q1 HS HO
                go_wp2_with fail
                refine (nan_any b _ HA.out.2).mono ?_
                rintro e v11 ⟨rfl, rfl⟩
                rw [decide_eq_false p4]
                clear p4
                go_wp2_with (simp only [hab, hv])
                refine (Key64_any a _ HA.out.1).mono ?_
                rintro e v12 ⟨rfl, hb12⟩
                have J12 := fhide (J8.out.trans (hb12.mono J8.out.size))
                clear hb12 J8
                go_wp2_with (simp only [hab, hv])
                refine (Key64_any b _ HA.out.2).mono ?_
                rintro e v13 ⟨rfl, hb13⟩
                have J13 := fhide (J12.out.trans (hb13.mono J12.out.size))
                clear hb13 J12
                go_wp2_with (simp only [hab])
                go_roundw
                case rel => exact ⟨i + 1, by omega, by omega, by go_num, J13⟩
                case measure => simp [intOf]; omega
              · rw [q1, show cmpI (some Ordering.eq) = 0 from rfl]
                subst q2
                have q2' : ¬ (key64 a : Int) < (key64 a : Int) := by omega
                clear q1 HS HO
                go_wp2_with fail
                refine (nan_any a _ HA.out.2).mono ?_
                rintro e v11 ⟨rfl, rfl⟩
                rw [decide_eq_false p4]
                clear p4
                go_wp2_with (simp only [hab, hv])
                refine (Key64_any a _ HA.out.1).mono ?_
                rintro e v12 ⟨rfl, hb12⟩
                have J12 := fhide (J8.out.trans (hb12.mono J8.out.size))
                clear hb12 J8
                go_wp2_with (simp only [hab, hv])
                refine (Key64_any a _ HA.out.2).mono ?_
                rintro e v13 ⟨rfl, hb13⟩
                have J13 := fhide (J12.out.trans (hb13.mono J12.out.size))
                clear hb13 J12
                go_wp2_with (simp only [hab])
                go_roundw
                case rel => exact ⟨i + 1, by omega, by omega, by go_num, J13⟩
                case measure => simp [intOf]; omega
              · rw [q1, show cmpI (some Ordering.gt) = 1 from rfl]
                have q2' : ¬ (key64 a : Int) < (key64 b : Int) := by omega
                have q3' : ((a : Int) == (b : Int)) = false := by simp; omega
                clear q1 HS HO
                go_wp2_with fail
                refine (nan_any b _ HA.out.2).mono ?_
                rintro e v11 ⟨rfl, rfl⟩
                rw [decide_eq_false p4]
                clear p4
                go_wp2_with (simp only [hab, hv])
                refine (Key64_any a _ HA.out.1).mono ?_
                rintro e v12 ⟨rfl, hb12⟩
                have J12 := fhide (J8.out.trans (hb12.mono J8.out.size))
                clear hb12 J8
                go_wp2_with (simp only [hab, hv])
                refine (Key64_any b _ HA.out.2).mono ?_
                rintro e v13 ⟨rfl, hb13⟩
                have J13 := fhide (J12.out.trans (hb13.mono J12.out.size))
                clear hb13 J12
                go_wp2_with (simp only [hab])
                go_roundw
                case rel => exact ⟨i + 1, by omega, by omega, by go_num, J13⟩
                case measure => simp [intOf]; omega
          · have z2 : ((ru : Int) == 0) = false := by simp; omega
            have z2' : ((ru : Int) != 0) = true := by simp; omega
            clear h3
            go_wp2_with (simp only [hab, hub, hk2, hk3])
            refine (Down64_any u _ Hul.out).mono ?_
            rw [h4]
            rintro e v9 ⟨rfl, hb9⟩
            have J9 := fhide (J8.out.trans (hb9.mono J8.out.size))
            clear hb9 J8
            go_wp2_with (simp only [hab, hub, hk2, hk3])
            refine (Cmp64_any a b _).mono ?_
            rintro e v10 ⟨rfl, rfl⟩
            rcases HO.out with ⟨p1, p2⟩ | ⟨p1, p2, p3⟩ | ⟨p1, p2, p3⟩
            · rw [p1, show cmpI none = 0 from rfl]
              clear p1 HS HO
              go_wp2_with fail
              refine (nan_any b _ HA.out.2).mono ?_
              rintro e v11 ⟨rfl, rfl⟩
              rw [decide_eq_true p2]
              clear p2
              go_wp2_with (simp only [hab])
              go_roundw
              case rel => exact ⟨i + 1, by omega, by omega, by go_num, J9⟩
              case measure => simp [intOf]; omega
            · rw [p3, show cmpI (some Ordering.eq) = 0 from rfl]
              subst p2
              have p4 : ¬ 9218868437227405312 < b % 9223372036854775808 := by omega
              have hv : bits BinOp.andNot IntKind.u64 (bits BinOp.or IntKind.u64 (a : Int) (b : Int)) 9223372036854775808 = 0 := hv
              clear p1 p3 HS HO
              go_wp2_with fail
              refine (nan_any b _ HA.out.2).mono ?_
              rintro e v11 ⟨rfl, rfl⟩
              rw [decide_eq_false p4]
              clear p4
              go_wp2_with (simp only [hab, hv])
              go_wp2_with (simp only [hab])
              go_roundw
              case rel => exact ⟨i + 1, by omega, by omega, by go_num, J9⟩
              case measure => simp [intOf]; omega
            · have p4 : ¬ 9218868437227405312 < b % 9223372036854775808 := by omega
              have pv : ((v : Int) == 0) = false := by simp; omega
              have pv' : ((v : Int) != 0) = true := by simp; omega
              clear p1 p2
              rcases p3 with ⟨q1, q2, q3⟩ | ⟨q1, q2⟩ | ⟨q1, q2, q3⟩
              · rw [q1, show cmpI (some Ordering.lt) = -1 from rfl]
                have q2' : (key64 a : Int) < (key64 b : Int) := by omega
                have q3' : ((a : Int) == (b : Int)) = false := by simp; omega
                clear q1 HS HO
                go_wp2_with fail
                refine (nan_any b _ HA.out.2).mono ?_
                rintro e v11 ⟨rfl, rfl⟩
                rw [decide_eq_false p4]
                clear p4
                go_wp2_with (simp only [hab, hv])
                refine (Key64_any a _ HA.out.1).mono ?_
                rintro e v12 ⟨rfl, hb12⟩
                have J12 := fhide (J9.out.trans (hb12.mono J9.out.size))
                clear hb12 J9
                go_wp2_with (simp only [hab, hv])
                refine (Key64_any b _ HA.out.2).mono ?_
                rintro e v13 ⟨rfl, hb13⟩
                have J13 := fhide (J12.out.trans (hb13.mono J12.out.size))
                clear hb13 J12
                go_wp2_with (simp only [hab])
                go_roundw
                case rel => exact ⟨i + 1, by omega, by omega, by go_num, J13⟩
                case measure => simp [intOf]; omega
              · rw [q1, show cmpI (some Ordering.eq) = 0 from rfl]
                subst q2
                have q2' : ¬ (key64 a : Int) < (key64 a : Int) := by omega
                clear q1 HS HO
                go_wp2_with fail
                refine (nan_any a _ HA.out.2).mono ?_
                rintro e v11 ⟨rfl, rfl⟩
                rw [decide_eq_false p4]
                clear p4
                go_wp2_with (simp only [hab, hv])
                refine (Key64_any a _ HA.out.1).mono ?_
                rintro e v12 ⟨rfl, hb12⟩
                have J12 := fhide (J9.out.trans (hb12.mono J9.out.size))
                clear hb12 J9
                go_wp2_with (simp only [hab, hv])
                refine (Key64_any a _ HA.out.2).mono ?_
                rintro e v13 ⟨rfl, hb13⟩
                have J13 := fhide (J12.out.trans (hb13.mono J12.out.size))
                clear hb13 J12
                go_wp2_with (simp only [hab])
                go_roundw
                case rel => exact ⟨i + 1, by omega, by omega, by go_num, J13⟩
                case measure => simp [intOf]; omega
              · rw [q1, show cmpI (some Ordering.gt) = 1 from rfl]
                have q2' : ¬ (key64 a : Int) < (key64 b : Int) := by omega
                have q3' : ((a : Int) == (b : Int)) = false := by simp; omega
                clear q1 HS HO
                go_wp2_with fail
                refine (nan_any b _ HA.out.2).mono ?_
                rintro e v11 ⟨rfl, rfl⟩
                rw [decide_eq_false p4]
                clear p4
                go_wp2_with (simp only [hab, hv])
                refine (Key64_any a _ HA.out.1).mono ?_
                rintro e v12 ⟨rfl, hb12⟩
                have J12 := fhide (J9.out.trans (hb12.mono J9.out.size))
                clear hb12 J9
                go_wp2_with (simp only [hab, hv])
                refine (Key64_any b _ HA.out.2).mono ?_
                rintro e v13 ⟨rfl, hb13⟩
                have J13 := fhide (J12.out.trans (hb13.mono J12.out.size))
                clear hb13 J12
                go_wp2_with (simp only [hab])
                go_roundw
                case rel => exact ⟨i + 1, by omega, by omega, by go_num, J13⟩
                case measure => simp [intOf]; omega
    · have g0 : ¬ ((i : Int) < (len0 : Int) ∧ (i : Int) < 2000) := by omega
      by_cases hl : i < len0
      · have g1 : (i : Int) < (len0 : Int) := by omega
        have g2 : ¬ (i : Int) < 2000 := by omega
        go_wp2_with fail
        refine (wakes_any _).mono ?_
        rintro e v14 ⟨rfl, hb14⟩
        go_wp2_with fail
        go_ret
        exact ⟨rfl, HI.out.trans (hb14.mono HI.out.size)⟩
      · have g1 : ¬ (i : Int) < (len0 : Int) := by omega
        go_wp2_with fail
        refine (wakes_any _).mono ?_
        rintro e v14 ⟨rfl, hb14⟩
        go_wp2_with fail
        go_ret
        exact ⟨rfl, HI.out.trans (hb14.mono HI.out.size)⟩
end Go.Proofs.Ytdiinhccfifiaab

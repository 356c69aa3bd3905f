/- TimesSteady: the walk. -/
import Derived.Test.YthdolmhbmbgdpaaT1U
namespace Go.Proofs.Ythdolmhbmbgdpaa
open Go.RowKit
open M
set_option linter.unusedVariables false

set_option maxRecDepth 100000 in
set_option maxHeartbeats 8000000 in
theorem steady_any (fr by0 ct : Int) (w : World) (hfr : I64 fr) (hby : I64 by0) (hct : I64 ct) :
    Calls Try.prog 5 #[.agg #[.int .i64 fr, .int .i64 by0, .int .i64 ct]] w fun e w' => e = .returned (.bool true) ∧ Below w.heap.size w w' := by
  obtain ⟨i5, hi5⟩ := info64
  have Hi := hide hi5
  have HFR := hide hfr
  have HBY := hide hby
  have HCT := hide hct
  clear hi5 hfr hby hct
  have HX : Hid ((w.alloc (.cells #[.int .i64 fr, .int .i64 by0, .int .i64 ct] 40)).heap[w.heap.size]? = some (.cells #[.int .i64 fr, .int .i64 by0, .int .i64 ct] 40 (0, 0))) := heap_alloc_new _ _
  have HB0 : Hid (Below w.heap.size w (w.alloc (.cells #[.int .i64 fr, .int .i64 by0, .int .i64 ct] 40))) := (Below.refl _ _).alloc (Nat.le_refl _) _
  go_enter Try.func5, Try.ntmps5
  go_upto_region 1 with fail
  generalize w.alloc (.cells #[.int .i64 fr, .int .i64 by0, .int .i64 ct] 40) = w0 at *
  have c0 : w0.cell? ⟨w.heap.size, 0, none⟩ = some (.int .i64 fr) := by rw [cell_of_row _ _ _ _ _ _ HX.out]; rfl
  have c1 : w0.cell? ⟨w.heap.size, 1, none⟩ = some (.int .i64 by0) := by rw [cell_of_row _ _ _ _ _ _ HX.out]; rfl
  have c2 : w0.cell? ⟨w.heap.size, 2, none⟩ = some (.int .i64 ct) := by rw [cell_of_row _ _ _ _ _ _ HX.out]; rfl
  go_upto_if 19 with fail
  go_cut [3] from 16 (fun t3 wc => ∃ b1 : Int, t3 = .int .i64 b1 ∧ Hid (1 ≤ b1 ∧ b1 ≤ 9223372036854775807) ∧ w0 = wc)
  case first =>
    by_cases hb : by0 < 1
    · go_wp2_with fail
      go_meet
      case rel => exact ⟨1, rfl, ⟨by omega, by omega⟩, rfl⟩
    · go_wp2_with fail
      go_meet
      case rel => exact ⟨by0, rfl, ⟨by omega, HBY.out.2⟩, rfl⟩
  case rest =>
    obtain ⟨b1, rfl, Hb, rfl⟩ := hcut
    go_wp2_with fail
    refine (within_any ct _ HCT.out).mono ?_
    rintro e w' ⟨n, hn, rfl, hw'⟩
    have hw2 := hw'.symm
    subst hw2
    go_upto_block 0 with fail
    go_cut [5] from 25 (fun t5 wc => ∃ m : Nat, Hid (m ≤ n ∧ (∀ j, j < m → I64 (std fr b1 j)) ∧ TSt w0.heap.size w0 (std fr b1) m t5 wc))
    case first =>
      go_wp2_with fail
      go_loopw [5, 6, 7] (fun t5 t6 t7 wr => ∃ i : Nat, t6 = .int .i64 (std fr b1 i) ∧ t7 = .int .i64 (i : Int) ∧ Hid (i ≤ n ∧ ∀ j, j ≤ i → I64 (std fr b1 j)) ∧ Hid (TSt w0.heap.size w0 (std fr b1) i t5 wr)) (fun _ _ t7 _ => n - (intOf t7).toNat)
      case atStart => exact ⟨0, by simp [std], rfl, ⟨by omega, fun j hj => by rw [show j = 0 from by omega]; simpa [std] using HFR.out⟩, TSt.nil _ _⟩
      case round =>
        obtain ⟨i, rfl, rfl, hI, HS⟩ := hrel
        by_cases hlt : i < n
        · have Hnext := hide (fun (w4 : World) (g4 cap4 : Nat) => TSt.next (w4 := w4) (g := g4) (cap := cap4) HS.out rfl)
          have hsc := hide (std_succ fr b1 i)
          have hx := hI.out.2 i (Nat.le_refl _)
          obtain ⟨x, hxe⟩ : ∃ x, x = std fr b1 i := ⟨_, rfl⟩
          rw [← hxe] at hx Hnext hsc
          have Hx := hide hx
          have hx1 := hx.1
          have hx2 := hx.2
          rw [← hxe]
          have HXE := hide hxe
          have hb1 := Hb.out.1
          have hb2 := Hb.out.2
          clear hxe hx
          go_wp2_with (at_builtin; refine wpList_append_lies _ rfl _ _ _ rfl w0.heap.size 2 i5 (.int .i64 0) 1 8 Try.underlying27 Hi.out.1 Hi.out.2.1 Hi.out.2.2.1 Hi.out.2.2.2 rfl (by decide) _ i (timesV i (std fr b1)) rfl (HS.out.1.alloc _) ⟨wr.heap.size, 0, none⟩ 1 1 [.int .i64 x] rfl rfl ?d2 ?d3 (by decide) ?d4 ?d5 ?d7 _ rfl ?d6)
          case d2 => intro j u hj; exact cell_new1 wr _ 2 j u hj
          case d3 => intro u hu; simp at hu; subst hu; rfl
          case d4 => unfold maxLen; omega
          case d5 => omega
          case d7 => have := HS.out.2.1.size; simp; omega
          case d6 =>
            intro g4 cap4 w4 ho4 hg4 hat4 hlt4
            have H4 : Hid (TSt w0.heap.size w0 (std fr b1) (i + 1) (.slice (some ⟨g4, 0, none⟩) (i + 1) cap4) w4) := Hnext.out w4 g4 cap4 ho4 hg4
            clear ho4 hg4 hat4 hlt4 HS Hnext
            by_cases hbr : 9223372036854775807 - b1 < x
            · go_wp2_with fail
              go_meet
              case rel => exact ⟨i + 1, by omega, fun j hj => hI.out.2 j (by omega), H4.out⟩
            · go_wp2_with fail
              go_roundw
              case rel =>
                refine ⟨i + 1, by rw [hsc.out], by simp, ⟨by omega, fun j hj => ?_⟩, H4.out⟩
                by_cases e : j = i + 1
                · subst e; rw [hsc.out]; exact ⟨by omega, by omega⟩
                · exact hI.out.2 j (by omega)
              case measure => simp [intOf]; omega
        · go_wp2_with fail
          go_meet
          case rel => exact ⟨i, hI.out.1, fun j hj => hI.out.2 j (by omega), HS.out⟩
    case rest =>
      obtain ⟨m, Hm⟩ := hcut
      obtain ⟨ad, cap, rfl, hcap, hrow⟩ := Hm.out.2.2.row
      have HR := hide hrow
      have hm4 : m ≤ 4096 := by have := Hm.out.1; omega
      have HBc : Hid (Below w.heap.size w wc) := HB0.out.trans (Hm.out.2.2.2.1.mono HB0.out.size)
      clear hrow c0 c1 c2
      go_wp2_with fail
      refine (pack_ok ad m cap (std fr b1) wc HR.out hm4 Hm.out.2.1 (std_rises _ _ _ Hb.out.1)).mono ?_
      rintro e w1 ⟨g, L, hL, hg, rfl, G1, B1⟩
      rw [packed_length, want_len _ _ _ Hb.out.1 Hb.out.2] at hL
      have HL := hide hL
      have HB1 : Hid (Below w.heap.size w w1) := HBc.out.trans (B1.mono HBc.out.size)
      have HR1 : Hid (TRow w1 ad m (std fr b1)) := HR.out.below B1
      clear hL G1 B1
      go_wp2_with fail
      refine (num_any _ _).mono ?_
      rintro e wn ⟨rfl, hwn⟩
      have hwn2 := hwn.symm
      subst hwn2
      go_wp2_with fail
      refine (works_any w1).mono ?_
      rintro e w2 ⟨rfl, B2⟩
      have HB2 : Hid (Below w.heap.size w w2) := HB1.out.trans (B2.mono HB1.out.size)
      have HR2 : Hid (TRow w2 ad m (std fr b1)) := HR1.out.below B2
      clear B2
      go_upto_if 55 with fail
      go_cut [10] from 53 (fun t10 wc => ∃ X : Int, t10 = .int .i64 X ∧ Hid (X = if m = 0 then 0 else 64) ∧ w2 = wc)
      case first =>
        by_cases h0 : m = 0
        · subst h0
          go_wp2_with fail
          go_meet
          case rel => exact ⟨0, rfl, rfl, rfl⟩
        · have h0' : (0 : Int) < (m : Int) := by omega
          go_wp2_with fail
          go_meet
          case rel => exact ⟨64, rfl, (by show _ = _; rw [if_neg h0]), rfl⟩
      case rest =>
        obtain ⟨X, rfl, HXv, rfl⟩ := hcut
        obtain ⟨W, hW⟩ : ∃ W, W = want b1 m := ⟨_, rfl⟩
        rw [← hW] at HL
        have HW := hide hW
        have hW8 : W ≤ 8192 := by rw [hW]; exact want_le _ _ hm4
        clear hW
        go_upto_if 58 with fail
        go_cut [10] from 56 (fun t10 wc => t10 = .int .i64 (W : Int) ∧ w2 = wc)
        case first =>
          by_cases h1 : m ≤ 1
          · have hWv : (W : Int) = X := by
              rw [HXv.out, HW.out]; unfold want
              rcases (show m = 0 ∨ m = 1 by omega) with rfl | rfl <;> rfl
            have HWv := hide hWv
            clear hWv
            go_wp2_with fail
            go_meet
            case rel => exact ⟨by rw [HWv.out], rfl⟩
          · obtain ⟨bn, rfl⟩ : ∃ bn : Nat, b1 = (bn : Int) := ⟨b1.toNat, by have := Hb.out.1; omega⟩
            have hb1 : 1 ≤ bn := by have := Hb.out.1; omega
            have hb2 : bn ≤ 9223372036854775807 := by have := Hb.out.2; omega
            obtain rfl : X = 64 := by rw [HXv.out, if_neg (by omega)]
            have HWm : Hid (W = 64 + zbl (2 * bn) + (m - 2)) := by show _ = _; rw [HW.out]; exact want_many bn m (by omega)
            have h1' : (1 : Int) < (m : Int) := by omega
            obtain ⟨un, hun⟩ : ∃ un : Nat, un = 2 * bn := ⟨_, rfl⟩
            have q1 : IntKind.u64.wrap (bn : Int) = (bn : Int) := by simp only [IntKind.wrap, IntKind.bits, IntKind.signed]; simp; omega
            have q2 : IntKind.u64.wrap (2 * (bn : Int)) = (un : Int) := by rw [hun]; simp only [IntKind.wrap, IntKind.bits, IntKind.signed]; simp; omega
            rw [← hun] at HWm
            have hun0 : 0 < un := by omega
            have HUN := hide hun
            clear hun hb2
            by_cases z1 : un ≤ 128
            · have z1' : decide ((un : Int) ≤ 128) = true := by rw [decide_eq_true_iff]; omega
              have HWn : Hid ((W : Int) = 64 + 9 + (m : Int) - 2) := by have := HWm.out; rw [zbl_1 un hun0 z1] at this; show _ = _; omega
              go_wp2_with fail
              go_meet
              case rel => exact ⟨by rw [HWn.out]; rfl, rfl⟩
            by_cases z2 : un ≤ 4224
            · have z1' : decide ((un : Int) ≤ 128) = false := by rw [decide_eq_false_iff_not]; omega
              have z2' : decide ((un : Int) ≤ 4224) = true := by rw [decide_eq_true_iff]; omega
              have HWn : Hid ((W : Int) = 64 + 15 + (m : Int) - 2) := by have := HWm.out; rw [zbl_2 un (by omega) z2] at this; show _ = _; omega
              clear z1
              go_wp2_with fail
              go_meet
              case rel => exact ⟨by rw [HWn.out]; rfl, rfl⟩
            by_cases z3 : un ≤ 1052800
            · have z1' : decide ((un : Int) ≤ 128) = false := by rw [decide_eq_false_iff_not]; omega
              have z2' : decide ((un : Int) ≤ 4224) = false := by rw [decide_eq_false_iff_not]; omega
              have z3' : decide ((un : Int) ≤ 1052800) = true := by rw [decide_eq_true_iff]; omega
              have HWn : Hid ((W : Int) = 64 + 24 + (m : Int) - 2) := by have := HWm.out; rw [zbl_3 un (by omega) z3] at this; show _ = _; omega
              clear z1 z2
              go_wp2_with fail
              go_meet
              case rel => exact ⟨by rw [HWn.out]; rfl, rfl⟩
            · have z1' : decide ((un : Int) ≤ 128) = false := by rw [decide_eq_false_iff_not]; omega
              have z2' : decide ((un : Int) ≤ 4224) = false := by rw [decide_eq_false_iff_not]; omega
              have z3' : decide ((un : Int) ≤ 1052800) = false := by rw [decide_eq_false_iff_not]; omega
              have HWn : Hid ((W : Int) = 64 + 68 + (m : Int) - 2) := by have := HWm.out; rw [zbl_4 un (by omega)] at this; show _ = _; omega
              clear z1 z2 z3
              go_wp2_with fail
              go_meet
              case rel => exact ⟨by rw [HWn.out]; rfl, rfl⟩
        case rest =>
          obtain ⟨rfl, rfl⟩ := hcut
          have hL8 : ((W : Int) + 7) / 8 = (L : Int) := by have := HL.out; omega
          go_wp2_with fail
          go_loopw [12, 13] (fun t12 t13 wr => ∃ i : Nat, t13 = .int .i64 (i : Int) ∧ Hid (i ≤ m ∧ ∀ j, j < i → I64 (std (fr - 1000) b1 j)) ∧ Hid (TSt w2.heap.size w2 (std (fr - 1000) b1) i t12 wr)) (fun _ t13 _ => m - (intOf t13).toNat)
          case atStart => exact ⟨0, rfl, ⟨by omega, fun j hj => by omega⟩, TSt.nil _ _⟩
          case round =>
            obtain ⟨i, rfl, hI, HS⟩ := hrel
            by_cases hlt : i < m
            · obtain ⟨pb, po, rfl, hc⟩ := HR2.out (by omega)
              have Hnext := hide (fun (w4 : World) (g4 cap4 : Nat) => TSt.next (w4 := w4) (g := g4) (cap := cap4) HS.out (std_less fr b1 i))
              have hx := Hm.out.2.1 i hlt
              have ci : wr.cell? ⟨pb, po + i, none⟩ = some (.int .i64 (std fr b1 i)) := by rw [HS.out.2.1.cell (p := ⟨pb, po + i, none⟩) (block_lt_of_cell (hc i hlt))]; exact hc i hlt
              have hle := std_less fr b1 i
              obtain ⟨x, hxe⟩ : ∃ x, x = std fr b1 i := ⟨_, rfl⟩
              rw [← hxe] at hx Hnext ci hle
              have hx1 := hx.1
              have hx2 := hx.2
              have HLE := hide hle
              clear hxe hx hc hle
              by_cases hlow : x < -9223372036854774808
              · have hlow' : decide (x < -9223372036854774808) = true := by rw [decide_eq_true_iff]; exact hlow
                go_wp2_with fail
                go_ret
                exact ⟨rfl, HB2.out.trans (HS.out.2.1.mono HB2.out.size)⟩
              · have hlow' : decide (x < -9223372036854774808) = false := by rw [decide_eq_false_iff_not]; exact hlow
                have HLOW := hide hlow
                have ew : wrap64 (x - 1000) = x - 1000 := by unfold wrap64; omega
                clear hlow
                go_wp2_with (at_builtin; refine wpList_append_lies _ rfl _ _ _ rfl w2.heap.size 2 i5 (.int .i64 0) 1 8 Try.underlying27 Hi.out.1 Hi.out.2.1 Hi.out.2.2.1 Hi.out.2.2.2 rfl (by decide) _ i (timesV i (std (fr - 1000) b1)) rfl (HS.out.1.alloc _) ⟨wr.heap.size, 0, none⟩ 1 1 [.int .i64 (x - 1000)] rfl rfl ?d2 ?d3 (by decide) ?d4 ?d5 ?d7 _ rfl ?d6)
                case d3 => rfl
                case d4 => unfold maxLen; omega
                case d5 => omega
                case d7 => have := HS.out.2.1.size; simp; omega
                case d6 =>
                  intro g4 cap4 w4 ho4 hg4 hat4 hlt4
                  have H4 : Hid (TSt w2.heap.size w2 (std (fr - 1000) b1) (i + 1) (.slice (some ⟨g4, 0, none⟩) (i + 1) cap4) w4) := Hnext.out w4 g4 cap4 ho4 hg4
                  clear ho4 hg4 hat4 hlt4 HS Hnext
                  go_wp2_with fail
                  go_roundw
                  case rel =>
                    refine ⟨i + 1, by simp, ⟨by omega, fun j hj => ?_⟩, H4.out⟩
                    by_cases e : j = i
                    · subst e; rw [← HLE.out]; have := HLOW.out; exact ⟨by omega, by omega⟩
                    · exact hI.out.2 j (by omega)
                  case measure => simp [intOf]; omega
            · obtain rfl : i = m := by have := hI.out.1; omega
              obtain ⟨ad2, cap2, hv2, hcap2, hrow2⟩ := HS.out.row
              subst hv2
              have HR3 := hide hrow2
              have HB3 : Hid (Below w.heap.size w wr) := HB2.out.trans (HS.out.2.1.mono HB2.out.size)
              clear hrow2
              go_wp2_with fail
              refine (pack_ok ad2 i cap2 (std (fr - 1000) b1) wr HR3.out hm4 hI.out.2 (std_rises _ _ _ Hb.out.1)).mono ?_
              rintro e w5 ⟨g5, L5, hL5, hg5, rfl, G5, B5⟩
              rw [packed_length, want_len _ _ _ Hb.out.1 Hb.out.2, ← HW.out, ← HL.out] at hL5
              subst hL5
              have HB5 : Hid (Below w.heap.size w w5) := HB3.out.trans (B5.mono HB3.out.size)
              clear G5 B5
              go_wp2_with fail
              refine (num_any _ _).mono ?_
              rintro e wn ⟨rfl, hwn⟩
              have hwn2 := hwn.symm
              subst hwn2
              go_wp2_with fail
              go_ret
              exact ⟨rfl, HB5.out⟩

end Go.Proofs.Ythdolmhbmbgdpaa

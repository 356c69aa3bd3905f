/- What comes in: a slice of patterns; the library's table. -/
import Derived.Test.YtolaaemkcmiabaaDoorZG
import Derived.Deep.CutBlock
import Derived.Test.YtolaaemkcmiabaaDoorRows
import Derived.ProofKit
import Derived.OpenShut
import Derived.Deep.Slices
import Derived.Lib.SmallJoins
import Derived.Deep.MidRow
import Derived.Deep.Strs
import Derived.LaidMore
import Derived.Lay
/- ExactMeans: finite, key, the walk. -/
namespace Go.Proofs.YtolaaemkcmiabaaDoor
open Go.RowKit
open M
open Flt
set_option linter.unusedVariables false
set_option linter.unusedSimpArgs false

theorem finite_any (b : Nat) (w : World) (hb : b < 18446744073709551616) : Calls Tryd.prog 4 #[.int .u64 b] w fun e w' => e = .returned (.bool (decide (b % 9223372036854775808 < 9218868437227405312))) ∧ w' = w := by
  have hx := b64_abs b hb
  generalize b % 9223372036854775808 = m at *
  by_cases h : m < 9218868437227405312
  · have h' : (m : Int) < 9218868437227405312 := by omega
    go_enter Tryd.func4, Tryd.ntmps4
    go_wp2_with (simp only [hx])
    go_ret
    refine ⟨?_, rfl⟩
    simp [h]
  · have h' : ¬ (m : Int) < 9218868437227405312 := by omega
    go_enter Tryd.func4, Tryd.ntmps4
    go_wp2_with (simp only [hx])
    go_ret
    refine ⟨?_, rfl⟩
    simp [h]

theorem key_any (b : Nat) (w : World) (hb : b < 18446744073709551616) : Calls Tryd.prog 5 #[.int .u64 b] w fun e w' => e = .returned (.int .u64 (kyv b : Nat)) ∧ w' = w := by
  unfold kyv
  by_cases h : 9223372036854775808 ≤ b
  · rw [if_pos h]
    have hx := b64_and_hi b h hb
    have hy := b64_not b hb
    go_enter Tryd.func5, Tryd.ntmps5
    go_wp2_with (simp only [hx, hy])
    go_ret
    exact ⟨rfl, rfl⟩
  · rw [if_neg h, Nat.add_comm b]
    have hx := b64_and_lo b (by omega)
    have hy := b64_or_lo b (by omega)
    go_enter Tryd.func5, Tryd.ntmps5
    go_wp2_with (simp only [hx, hy])
    go_ret
    exact ⟨rfl, rfl⟩

/-- A slice of patterns. -/
def IsWs (w : World) (a : Option Addr) (n : Nat) : Prop := n ≤ 9223372036854775807 ∧ (0 < n → ∃ b o, a = some ⟨b, o, none⟩ ∧ b < w.heap.size ∧ ∀ i, i < n → ∃ z : Nat, w.cell? ⟨b, o + i, none⟩ = some (.int .u64 (z : Nat)) ∧ z < 18446744073709551616)

/-- The state of the second loop. -/
def PairSt (w wr : World) (g k : Nat) (dark0 : Bool) (S : Int) : Prop :=
  ∃ n dark S2, Mo wr g n dark S S2 ∧ 0 < n ∧ n ≤ 300 + 2 * k ∧ (dark = dark0 ∨ dark = false) ∧ Tab64 wr ∧ Below w.heap.size w wr

theorem kyv_lt {b : Nat} (h : b < 18446744073709551616) : kyv b < 18446744073709551616 := by unfold kyv; split <;> omega

set_option maxRecDepth 100000 in
set_option maxHeartbeats 16000000 in
theorem means_any (a : Option Addr) (len cap : Nat) (w : World) (hL : IsWs w a len) (hT : Tab64 w) :
    Calls Tryd.prog 3 #[.slice a len cap] w fun e w' => e = .returned (.bool true) ∧ Below w.heap.size w w' := by
  have HL := hide hL.2
  have hlen := hL.1
  have h1 : 1 < w.heap.size := block_lt_of_cell (hT 0 (by omega))
  obtain ⟨g, hg⟩ : ∃ g, g = w.heap.size := ⟨_, rfl⟩
  obtain ⟨W1, hW1⟩ : ∃ W1, W1 = w.alloc (.cells z106 28) := ⟨_, rfl⟩
  have B1 : Below w.heap.size w W1 := by rw [hW1]; exact (Below.refl _ w).alloc (Nat.le_refl _) _
  have HM : Hid (MeanSt w W1 g 0 0 0 false 0 0) := by
    refine ⟨?_, fun _ => ⟨rfl, rfl, rfl⟩, fun h => by omega, fun _ => rfl, by simp, by omega, by simp, hT.below B1, B1⟩
    rw [hg, hW1]; exact Mo.new (heap_alloc_new w _)
  have hg1 : g ≠ 1 := by omega
  have hgw : w.heap.size ≤ g := by omega
  clear hT B1 h1 hL
  go_enter Tryd.func3, Tryd.ntmps3
  go_upto_region 1 with fail
  refine wp_region_list ?_
  refine wpList_build rfl 28 #[] rfl (by kernel_rfl) ?_
  simp only [Array.map_empty]
  rw [z106_built]
  refine Go.Great.wpList_boxTo rfl 28 (.tmp 19) rfl (some 20) rfl g hg.symm z106 rfl ?_
  rw [← hW1]
  clear hW1 hg
  go_upto_block 0 with fail
  go_cut [4, 5, 6, 7] from 21 (fun t4 t5 t6 t7 wc => ∃ (i n pl pg : Nat) (dark : Bool) (S S2 : Int), t4 = .int .i64 (n : Int) ∧ t5 = .int .u64 (pl : Nat) ∧ t6 = .int .u64 (pg : Nat) ∧ t7 = .int .i64 (i : Int) ∧ Hid (n ≤ 300 ∧ MeanSt w wc g n pl pg dark S S2))
  case first =>
    go_wp2_with fail
    go_loopw [4, 5, 6, 7] (fun t4 t5 t6 t7 wr => ∃ (i n pl pg : Nat) (dark : Bool) (S S2 : Int), t4 = .int .i64 (n : Int) ∧ t5 = .int .u64 (pl : Nat) ∧ t6 = .int .u64 (pg : Nat) ∧ t7 = .int .i64 (i : Int) ∧ Hid (i ≤ 300 ∧ i ≤ len ∧ n ≤ i ∧ MeanSt w wr g n pl pg dark S S2)) (fun _ _ _ t7 _ => 300 - (intOf t7).toNat)
    case atStart => exact ⟨0, 0, 0, 0, _, _, _, rfl, rfl, rfl, rfl, by omega, by omega, by omega, HM.out⟩
    case round =>
      obtain ⟨i, n, pl, pg, dark, SS, S2, rfl, rfl, rfl, rfl, HI⟩ := hrel
      have hi1 : i ≤ 300 := HI.out.1
      have hi2 : i ≤ len := HI.out.2.1
      have hni : n ≤ i := HI.out.2.2.1
      by_cases h1 : i < len
      · by_cases h2 : i < 300
        · have g1 : (i : Int) < (len : Int) := by omega
          have g2 : (i : Int) < 300 := by omega
          obtain ⟨b0, o, rfl, hb0, hc⟩ := HL.out (by omega)
          obtain ⟨b, cz, hb⟩ := hc i h1
          have cV : wr.cell? ⟨b0, o + i, none⟩ = some (.int .u64 (b : Nat)) := by rw [HI.out.2.2.2.2.2.2.2.2.2.2.2.cell (p := ⟨b0, o + i, none⟩) hb0]; exact cz
          have Hgo : Hid (i < len ∧ i < 300) := ⟨h1, h2⟩
          have HFi := hide (fun W : World => finite_any b W hb)
          clear hc cz
          by_cases hfin : b % 9223372036854775808 < 9218868437227405312
          · have hfd : decide (b % 9223372036854775808 < 9218868437227405312) = true := decide_eq_true hfin
            rw [hfd] at HFi
            have HFin : Hid (Fin64 b) := ⟨hb, hfin⟩
            have HAdd := hide (Add_fin b HI.out.2.2.2.1 (by omega) hb hfin HI.out.2.2.2.2.2.2.2.2.2.2.1 hg1)
            clear hfd hfin h1 h2
            by_cases hn0 : n = 0
            · subst hn0
              go_wp2_with fail
              refine (HFi.out _).mono ?_
              rintro e w2 ⟨rfl, hw2⟩
              have hw22 := hw2.symm
              subst hw22
              clear HFi
              go_wp2_with fail
              refine HAdd.out.mono ?_
              rintro e w3 ⟨rfl, m3, o3⟩
              have H3 := hide (HI.out.2.2.2.next b b b HFin.out hgw hg1 (.inl ⟨rfl, rfl, rfl⟩) m3 o3)
              clear m3 o3 HAdd
              go_wp2_with fail
              refine (lnum_any _ _).mono ?_
              rintro e w4 ⟨rfl, hw4⟩
              have hw42 := hw4.symm
              subst hw42
              go_wp2_with fail
              go_roundw
              case rel => exact ⟨i + 1, 0 + 1, b, b, _, _, _, by simp, rfl, rfl, by simp, by have := Hgo.out; omega, by omega, by omega, H3.out⟩
              case measure => simp [intOf]; have := Hgo.out; omega

            · have hn1 : ((n : Int) == 0) = false := by rw [beq_eq_false_iff_ne]; omega
              have HP := hide (HI.out.2.2.2.2.2.1 (by omega))
              have hpl : pl < 18446744073709551616 := HP.out.1.1
              have hpg : pg < 18446744073709551616 := HP.out.2.1.1
              have Hkk := hide HP.out.2.2.2
              by_cases hk1 : kyv b < kyv pl
              · have k1 : ((kyv b : Nat) : Int) < ((kyv pl : Nat) : Int) := by omega
                have k2 : ¬ ((kyv pg : Nat) : Int) < ((kyv b : Nat) : Int) := by have := Hkk.out; omega
                have Hk1 := hide hk1
                clear hk1
                go_wp2_with fail
                refine (HFi.out _).mono ?_
                rintro e w2 ⟨rfl, hw2⟩
                have hw22 := hw2.symm
                subst hw22
                clear HFi
                go_wp2_with fail
                refine (key_any b _ hb).mono ?_
                rintro e wk ⟨rfl, hwk⟩
                have hwk2 := hwk.symm
                subst hwk2
                go_wp2_with fail
                refine (key_any pl _ hpl).mono ?_
                rintro e wk ⟨rfl, hwk⟩
                have hwk2 := hwk.symm
                subst hwk2
                go_wp2_with fail
                refine (key_any b _ hb).mono ?_
                rintro e wk ⟨rfl, hwk⟩
                have hwk2 := hwk.symm
                subst hwk2
                go_wp2_with fail
                refine (key_any pg _ hpg).mono ?_
                rintro e wk ⟨rfl, hwk⟩
                have hwk2 := hwk.symm
                subst hwk2
                go_wp2_with fail
                refine HAdd.out.mono ?_
                rintro e w3 ⟨rfl, m3, o3⟩
                have H3 := hide (HI.out.2.2.2.next b b pg HFin.out hgw hg1 (.inr ⟨by omega, .inl ⟨Hk1.out, rfl, rfl⟩⟩) m3 o3)
                clear m3 o3 HAdd
                go_wp2_with fail
                refine (lnum_any _ _).mono ?_
                rintro e w4 ⟨rfl, hw4⟩
                have hw42 := hw4.symm
                subst hw42
                go_wp2_with fail
                go_roundw
                case rel => exact ⟨i + 1, n + 1, b, pg, _, _, _, by simp, rfl, rfl, by simp, by have := Hgo.out; omega, by omega, by omega, H3.out⟩
                case measure => simp [intOf]; have := Hgo.out; omega

              · have k1 : ¬ ((kyv b : Nat) : Int) < ((kyv pl : Nat) : Int) := by omega
                by_cases hk2 : kyv pg < kyv b
                · have k2 : ((kyv pg : Nat) : Int) < ((kyv b : Nat) : Int) := by omega
                  have Hk := hide (And.intro hk1 hk2)
                  clear hk1 hk2
                  go_wp2_with fail
                  refine (HFi.out _).mono ?_
                  rintro e w2 ⟨rfl, hw2⟩
                  have hw22 := hw2.symm
                  subst hw22
                  clear HFi
                  go_wp2_with fail
                  refine (key_any b _ hb).mono ?_
                  rintro e wk ⟨rfl, hwk⟩
                  have hwk2 := hwk.symm
                  subst hwk2
                  go_wp2_with fail
                  refine (key_any pl _ hpl).mono ?_
                  rintro e wk ⟨rfl, hwk⟩
                  have hwk2 := hwk.symm
                  subst hwk2
                  go_wp2_with fail
                  refine (key_any b _ hb).mono ?_
                  rintro e wk ⟨rfl, hwk⟩
                  have hwk2 := hwk.symm
                  subst hwk2
                  go_wp2_with fail
                  refine (key_any pg _ hpg).mono ?_
                  rintro e wk ⟨rfl, hwk⟩
                  have hwk2 := hwk.symm
                  subst hwk2
                  go_wp2_with fail
                  refine HAdd.out.mono ?_
                  rintro e w3 ⟨rfl, m3, o3⟩
                  have H3 := hide (HI.out.2.2.2.next b pl b HFin.out hgw hg1 (.inr ⟨by omega, .inr (.inl ⟨by have := Hk.out.1; omega, Hk.out.2, rfl, rfl⟩)⟩) m3 o3)
                  clear m3 o3 HAdd
                  go_wp2_with fail
                  refine (lnum_any _ _).mono ?_
                  rintro e w4 ⟨rfl, hw4⟩
                  have hw42 := hw4.symm
                  subst hw42
                  go_wp2_with fail
                  go_roundw
                  case rel => exact ⟨i + 1, n + 1, pl, b, _, _, _, by simp, rfl, rfl, by simp, by have := Hgo.out; omega, by omega, by omega, H3.out⟩
                  case measure => simp [intOf]; have := Hgo.out; omega

                · have k2 : ¬ ((kyv pg : Nat) : Int) < ((kyv b : Nat) : Int) := by omega
                  have Hk := hide (And.intro hk1 hk2)
                  clear hk1 hk2
                  go_wp2_with fail
                  refine (HFi.out _).mono ?_
                  rintro e w2 ⟨rfl, hw2⟩
                  have hw22 := hw2.symm
                  subst hw22
                  clear HFi
                  go_wp2_with fail
                  refine (key_any b _ hb).mono ?_
                  rintro e wk ⟨rfl, hwk⟩
                  have hwk2 := hwk.symm
                  subst hwk2
                  go_wp2_with fail
                  refine (key_any pl _ hpl).mono ?_
                  rintro e wk ⟨rfl, hwk⟩
                  have hwk2 := hwk.symm
                  subst hwk2
                  go_wp2_with fail
                  refine (key_any b _ hb).mono ?_
                  rintro e wk ⟨rfl, hwk⟩
                  have hwk2 := hwk.symm
                  subst hwk2
                  go_wp2_with fail
                  refine (key_any pg _ hpg).mono ?_
                  rintro e wk ⟨rfl, hwk⟩
                  have hwk2 := hwk.symm
                  subst hwk2
                  go_wp2_with fail
                  refine HAdd.out.mono ?_
                  rintro e w3 ⟨rfl, m3, o3⟩
                  have H3 := hide (HI.out.2.2.2.next b pl pg HFin.out hgw hg1 (.inr ⟨by omega, .inr (.inr ⟨by have := Hk.out.1; omega, by have := Hk.out.2; omega, rfl, rfl⟩)⟩) m3 o3)
                  clear m3 o3 HAdd
                  go_wp2_with fail
                  refine (lnum_any _ _).mono ?_
                  rintro e w4 ⟨rfl, hw4⟩
                  have hw42 := hw4.symm
                  subst hw42
                  go_wp2_with fail
                  go_roundw
                  case rel => exact ⟨i + 1, n + 1, pl, pg, _, _, _, by simp, rfl, rfl, by simp, by have := Hgo.out; omega, by omega, by omega, H3.out⟩
                  case measure => simp [intOf]; have := Hgo.out; omega

          · have hfd : decide (b % 9223372036854775808 < 9218868437227405312) = false := decide_eq_false hfin
            rw [hfd] at HFi
            clear hfd hfin
            go_wp2_with fail
            refine (HFi.out _).mono ?_
            rintro e w2 ⟨rfl, hw2⟩
            have hw22 := hw2.symm
            subst hw22
            go_wp2_with fail
            go_roundw
            case rel => exact ⟨i + 1, n, pl, pg, _, _, _, rfl, rfl, rfl, by simp, by omega, by omega, by omega, HI.out.2.2.2⟩
            case measure => simp [intOf]; omega
        · have g1 : (i : Int) < (len : Int) := by omega
          have g2 : ¬ (i : Int) < 300 := by omega
          go_wp2_with fail
          go_meet
          case rel => exact ⟨i, n, pl, pg, _, _, _, rfl, rfl, rfl, rfl, by omega, HI.out.2.2.2⟩
      · have g1 : ¬ (i : Int) < (len : Int) := by omega
        go_wp2_with fail
        go_meet
        case rel => exact ⟨i, n, pl, pg, _, _, _, rfl, rfl, rfl, rfl, by omega, HI.out.2.2.2⟩
  case rest =>
    obtain ⟨i0, n, pl, pg, dark, SS, S2, rfl, rfl, rfl, rfl, HC⟩ := hcut
    rename_i wc0
    have hn3 : n ≤ 300 := HC.out.1
    have HSt := hide HC.out.2
    clear HC HM
    by_cases hn0 : n = 0
    · subst hn0
      obtain ⟨e1, e2, e3⟩ := HSt.out.2.1 rfl
      subst e1 e2 e3
      have HMe := hide (Mean_of (fun val => val = 0) HSt.out.1 (fun w1 h1 => (share_none 0 h1).mono fun e w' hh => ⟨0, hh.1, rfl, by rw [hh.2]; exact Below.refl _ _⟩))
      go_wp2_with fail
      refine HMe.out.mono ?_
      rintro e w1 ⟨val, rfl, hv, B1⟩
      subst hv
      have HM1 := hide (HSt.out.1.below B1 HSt.out.1.lt)
      have HT1 := hide (HSt.out.2.2.2.2.2.2.2.1.below B1)
      have HB1 := hide (HSt.out.2.2.2.2.2.2.2.2.trans (B1.mono HSt.out.2.2.2.2.2.2.2.2.size))
      clear B1 HMe
      go_wp2_with fail
      refine (Var_none HM1.out).mono ?_
      rintro e w2 ⟨rfl, hw2⟩
      have hw22 := hw2.symm
      subst hw22
      go_wp2_with fail
      refine (Dev_none HM1.out).mono ?_
      rintro e w2 ⟨rfl, hw2⟩
      have hw22 := hw2.symm
      subst hw22
      go_wp2_with fail
      refine (wakes_any _ HT1.out).mono ?_
      rintro e w4 ⟨rfl, B4⟩
      have HB4 := hide B4
      clear B4
      go_wp2_with fail
      go_ret
      exact ⟨rfl, HB1.out.trans (HB4.out.mono HB1.out.size)⟩
    · have hnp : 0 < n := by omega
      have hn1 : ((n : Int) == 0) = false := by rw [beq_eq_false_iff_ne]; omega
      have hd1 : decide (0 < n) = true := decide_eq_true hnp
      obtain ⟨sm1, sm2⟩ := HSt.out.small (by omega)
      obtain ⟨f1, f2, f3, f4⟩ := HSt.out.2.2.1 hnp
      have hsp := f3.spread
      have h02 := HSt.out.2.2.2.2.2.1
      have HMe := hide (Mean_of (fun val => val = shV dark SS n) HSt.out.1 (fun w1 h1 => share_val n h1 hnp hnp (by omega) sm1))
      rw [hd1] at HMe
      have HVa := hide (fun (w1 : World) (h1 : Mo w1 g n dark SS S2) => Var_num h1 hnp (by omega) sm1 sm2 h02 hsp)
      have HDe := hide (fun (w1 : World) (h1 : Mo w1 g n dark SS S2) => Dev_num h1 hnp (by omega) sm1 sm2 h02 hsp)
      have HSu := hide (fun (w1 : World) (m : Nat) (dk' : Bool) (S2' : Int) (h1 : Mo w1 g m dk' SS S2') (hm : 0 < m) => Sum_of (fun val => val = shV dk' SS 1) h1 (fun w2 h2 => share_val 1 h2 hm (by omega) (by omega) sm1))
      have hplt : pl < 18446744073709551616 := f1.1
      have hpgt : pg < 18446744073709551616 := f2.1
      have hmvt := shV_lt dark SS n
      have HBt := hide (HSt.out.between hnp)
      have HOn := hide (HSt.out.one hnp)
      clear hd1 sm1 sm2 f1 f2 f3 f4 hsp h02
      generalize ((n : Int) * S2 - SS * SS).natAbs = MR at *
      go_wp2_with fail
      refine HMe.out.mono ?_
      rintro e w1 ⟨mv, rfl, hmv, B1⟩
      rw [← hmv] at HBt HOn hmvt
      have HM1 := hide (HSt.out.1.below B1 HSt.out.1.lt)
      have HT1 := hide (HSt.out.2.2.2.2.2.2.2.1.below B1)
      have HB1 := hide (HSt.out.2.2.2.2.2.2.2.2.trans (B1.mono HSt.out.2.2.2.2.2.2.2.2.size))
      clear B1 HMe hmv
      go_wp2_with fail
      refine (HVa.out _ HM1.out).mono ?_
      rintro e w2 ⟨vv, rfl, hvv, B2⟩
      have HM2 := hide (HM1.out.below B2 HM1.out.lt)
      have HT2 := hide (HT1.out.below B2)
      have HB2 := hide (HB1.out.trans (B2.mono HB1.out.size))
      have HVv := hide hvv
      have hv1 := b64_and_lo vv hvv.1
      clear B2 HVa hvv HM1 HT1
      go_wp2_with fail
      refine (HDe.out _ HM2.out).mono ?_
      rintro e w3 ⟨dd, rfl, hdd, B3⟩
      have HM3 := hide (HM2.out.below B3 HM2.out.lt)
      have HT3 := hide (HT2.out.below B3)
      have HB3 := hide (HB2.out.trans (B3.mono HB2.out.size))
      have HDd := hide hdd
      have hv2 := b64_and_lo dd hdd.1
      clear B3 HDe hdd HM2 HT2
      have hma := b64_abs mv hmvt
      have hpa := b64_abs pl hplt
      obtain ⟨mm, hmm⟩ : ∃ mm, mm = mv % 9223372036854775808 := ⟨_, rfl⟩
      obtain ⟨pm, hpm⟩ : ∃ pm, pm = pl % 9223372036854775808 := ⟨_, rfl⟩
      rw [← hmm] at hma HBt HOn
      rw [← hpm] at hpa HOn
      have hor := u64_or_nat pl pg hplt hpgt
      obtain ⟨oo, hoo⟩ : ∃ oo, oo = pl ||| pg := ⟨_, rfl⟩
      rw [← hoo] at hor
      have hoo2 : oo < 18446744073709551616 := by rw [hoo]; exact Nat.or_lt_two_pow (n := 64) (by simpa using hplt) (by simpa using hpgt)
      have hoa := b64_abs oo hoo2
      have Hoo : Hid (oo % 9223372036854775808 = 0 → pm = 0 ∧ pg % 9223372036854775808 = 0) := fun hz => by
        rw [hoo, show (9223372036854775808 : Nat) = 2 ^ 63 from rfl, Nat.or_mod_two_pow] at hz
        have := Nat.or_eq_zero_iff.1 hz
        exact ⟨by rw [hpm]; exact this.1, this.2⟩
      obtain ⟨om, hom⟩ : ∃ om, om = oo % 9223372036854775808 := ⟨_, rfl⟩
      rw [← hom] at hoa Hoo
      have HR : Hid (∀ P : Prop, (P = P)) := fun _ => rfl
      clear hmm hpm hoo hoo2 hom
      go_upto_region 21 with fail
      go_cut [155] from 156 (fun t155 wc => t155 = .bool false ∧ w3 = wc)
      case first =>
        by_cases hm0 : mm = 0
        · have hm1 : ((mm : Int) != 0) = false := by rw [hm0]; rfl
          go_wp2_with (simp only [hv1, hv2, hma, hm1])
          go_meet
          case rel => exact ⟨rfl, rfl⟩
        · have hm1 : ((mm : Int) != 0) = true := by rw [bne_iff_ne]; omega
          obtain ⟨kb1, kb2⟩ := HBt.out hm0
          have k1 : ¬ ((kyv mv : Nat) : Int) < ((kyv pl : Nat) : Int) := by omega
          have k2 : ¬ ((kyv pg : Nat) : Int) < ((kyv mv : Nat) : Int) := by omega
          clear kb1 kb2
          go_wp2_with (simp only [hv1, hv2, hma, hm1])
          refine (key_any mv _ hmvt).mono ?_
          rintro e wk ⟨rfl, hwk⟩
          have hwk2 := hwk.symm
          subst hwk2
          go_wp2_with (simp only [hv1, hv2, hma, hm1])
          refine (key_any pl _ hplt).mono ?_
          rintro e wk ⟨rfl, hwk⟩
          have hwk2 := hwk.symm
          subst hwk2
          go_wp2_with (simp only [hv1, hv2, hma, hm1])
          refine (key_any mv _ hmvt).mono ?_
          rintro e wk ⟨rfl, hwk⟩
          have hwk2 := hwk.symm
          subst hwk2
          go_wp2_with (simp only [hv1, hv2, hma, hm1])
          refine (key_any pg _ hpgt).mono ?_
          rintro e wk ⟨rfl, hwk⟩
          have hwk2 := hwk.symm
          subst hwk2

          go_wp2_with (simp only [hv1, hv2, hma, hm1])
          go_meet
          case rel => exact ⟨by rw [decide_eq_false (show ¬ kyv mv < kyv pl by omega), decide_eq_false (show ¬ kyv pg < kyv mv by omega)]; rfl, rfl⟩
      case rest =>
        obtain ⟨rfl, rfl⟩ := hcut
        go_upto_region 23 with fail
        go_cut [180] from 181 (fun t180 wc => t180 = .bool false ∧ w3 = wc)
        case first =>
          by_cases hpe : pl = pg
          · obtain ⟨z1, z2⟩ := HOn.out (.inl hpe)
            have hvz : vv = 0 := HVv.out.2 z1
            have hdz : dd = 0 := HDd.out.2 z1
            subst hvz hdz hpe z2
            go_wp2_with (simp only [hma, hpa])
            go_meet
            case rel => exact ⟨rfl, rfl⟩
          · have hpe' : ((pl : Int) == (pg : Int)) = false := by rw [beq_eq_false_iff_ne]; omega
            by_cases ho0 : om = 0
            · obtain ⟨z0, z9⟩ := Hoo.out ho0
              obtain ⟨z1, z2⟩ := HOn.out (.inr ⟨z0, z9⟩)
              have hvz : vv = 0 := HVv.out.2 z1
              have hdz : dd = 0 := HDd.out.2 z1
              subst hvz hdz z2 ho0
              go_wp2_with (simp only [hma, hpa, hor, hoa])
              go_meet
              case rel => exact ⟨rfl, rfl⟩
            · have ho1 : ((om : Int) == 0) = false := by rw [beq_eq_false_iff_ne]; omega
              go_wp2_with (simp only [hma, hpa, hor, hoa, ho1])
              go_meet
              case rel => exact ⟨rfl, rfl⟩
        case rest =>
          obtain ⟨rfl, rfl⟩ := hcut
          have HS1 := hide (HSu.out w3 n dark S2 HM3.out hnp)
          have hdn : decide (0 < n) = true := decide_eq_true hnp
          rw [hdn] at HS1
          have HD0 : Hid (dark = true → SS = 0) := HSt.out.2.2.2.1
          clear hdn hv1 hv2 hma hpa hor hoa HBt HOn Hoo HVv HDd
          go_wp2_with fail
          refine HS1.out.mono ?_
          rintro e w4 ⟨sv, rfl, hsv, B4⟩
          have HP0 : Hid (PairSt w w4 g 0 dark SS) := ⟨n, dark, S2, HM3.out.below B4 HM3.out.lt, hnp, by omega, .inl rfl, HT3.out.below B4, HB3.out.trans (B4.mono HB3.out.size)⟩
          have Hsv := hide hsv
          have hsvt : sv < 18446744073709551616 := by rw [hsv]; exact shV_lt _ _ _
          clear B4 HS1 hsv HM3 HT3 HB3
          go_upto_block 2 with fail
          go_cut [16] from 186 (fun t16 wc => Hid (PairSt w wc g 20 dark SS))
          case first =>
            go_wp2_with fail
            go_loopw [16] (fun t16 wr => ∃ k : Nat, t16 = .int .i64 (k : Int) ∧ Hid (k ≤ 20 ∧ k ≤ len ∧ PairSt w wr g k dark SS)) (fun t16 _ => 20 - (intOf t16).toNat)
            case atStart => exact ⟨0, rfl, by omega, by omega, HP0.out⟩
            case round =>
              obtain ⟨k, rfl, HI⟩ := hrel
              have hk1 : k ≤ 20 := HI.out.1
              have hk2 : k ≤ len := HI.out.2.1
              have HEx : Hid (PairSt w wr g 20 dark SS) := by
                obtain ⟨m, d, q, r1, r2, r3, r4⟩ := HI.out.2.2
                exact ⟨m, d, q, r1, r2, by omega, r4⟩
              have HSk : Hid (PairSt w wr g (k + 1) dark SS) := by
                obtain ⟨m, d, q, r1, r2, r3, r4⟩ := HI.out.2.2
                exact ⟨m, d, q, r1, r2, by omega, r4⟩
              obtain ⟨m, d, q2, r1, r2, r3, r4, r5, r6⟩ := HI.out.2.2
              by_cases h1 : k < len
              · by_cases h2 : k < 20
                · have g1 : (k : Int) < (len : Int) := by omega
                  have g2 : (k : Int) < 20 := by omega
                  obtain ⟨b0, o, rfl, hb0, hc⟩ := HL.out (by omega)
                  obtain ⟨b, cz, hb⟩ := hc k h1
                  have cV : wr.cell? ⟨b0, o + k, none⟩ = some (.int .u64 (b : Nat)) := by rw [r6.cell (p := ⟨b0, o + k, none⟩) hb0]; exact cz
                  have HFi := hide (fun W : World => finite_any b W hb)
                  have hba := b64_abs b hb
                  obtain ⟨bm, hbm⟩ : ∃ bm, bm = b % 9223372036854775808 := ⟨_, rfl⟩
                  rw [← hbm] at HFi hba
                  have HMo := hide (And.intro r1 (And.intro r2 (And.intro r3 (And.intro r5 r6))))
                  clear hc cz r1 r2 r3 r4 r5 r6
                  by_cases hfin : bm < 9218868437227405312
                  · have hfd : decide (bm < 9218868437227405312) = true := decide_eq_true hfin
                    rw [hfd] at HFi
                    clear hfd
                    by_cases hb0' : bm = 0
                    · have hq : ((bm : Int) != 0) = false := by rw [hb0']; rfl
                      go_wp2_with fail
                      refine (HFi.out _).mono ?_
                      rintro e w2 ⟨rfl, hw2⟩
                      have hw22 := hw2.symm
                      subst hw22
                      go_wp2_with (simp only [hba, hq])
                      go_roundw
                      case rel => exact ⟨k + 1, by simp, by omega, by omega, HSk.out⟩
                      case measure => simp [intOf]; omega
                    · have hq : ((bm : Int) != 0) = true := by rw [bne_iff_ne]; omega
                      obtain ⟨b', hb'1, hb'2, hb'3, hb'4, hb'5⟩ : ∃ b' : Nat, bits BinOp.xor IntKind.u64 (b : Int) 9223372036854775808 = (b' : Int) ∧ b' < 18446744073709551616 ∧ b' % 9223372036854775808 < 9218868437227405312 ∧ ofV b + ofV b' = 0 ∧ b' ≠ 9223372036854775808 := by
                        by_cases hs : b < 9223372036854775808
                        · have e : b % 9223372036854775808 = b := Nat.mod_eq_of_lt hs
                          refine ⟨9223372036854775808 + b, b64_xor_lo b hs, by omega, by omega, ?_, by omega⟩
                          rw [ofV_pos hs, ofV_neg (by omega) (by omega), Nat.add_sub_cancel_left]; omega
                        · refine ⟨b - 9223372036854775808, b64_xor_hi b (by omega) hb, by omega, by omega, ?_, by omega⟩
                          rw [ofV_neg (by omega) hb, ofV_pos (by omega)]; omega
                      have hbd : b ≠ 9223372036854775808 := fun h => by rw [h] at hbm; omega
                      have hd0 : ∀ (x c : Nat) (dk' : Bool), x ≠ 9223372036854775808 → dk x c dk' = false := fun x c dk' hx => by unfold dk; rw [decide_eq_false hx]; rfl
                      have HA1 := hide (Add_fin b HMo.out.1 (by have := HMo.out.2.2.1; omega) hb (by rw [← hbm]; exact hfin) HMo.out.2.2.2.1 hg1)
                      rw [hd0 b m d hbd] at HA1
                      have HA2 := hide (fun (w5 : World) (h5 : Mo w5 g (m + 1) false (SS + ofV b) (q2 + ofV b * ofV b)) (t5 : Tab64 w5) => Add_fin b' h5 (by have := HMo.out.2.2.1; omega) hb'2 hb'3 t5 hg1)
                      rw [hd0 b' (m + 1) false hb'5] at HA2
                      have HZ : Hid (SS + ofV b + ofV b' = SS) := by show _ = _; omega
                      clear hbm hb'2 hb'3 hb'4 hb'5 hbd hd0 hfin hb0'
                      go_wp2_with fail
                      refine (HFi.out _).mono ?_
                      rintro e w2 ⟨rfl, hw2⟩
                      have hw22 := hw2.symm
                      subst hw22
                      go_wp2_with (simp only [hba, hq])
                      refine HA1.out.mono ?_
                      rintro e w5 ⟨rfl, m5, o5⟩
                      have cV5 : w5.cell? ⟨b0, o + k, none⟩ = some (.int .u64 (b : Nat)) := by
                        rw [World.cell?_of_block (w := wr) (o5.block b0 (block_lt_of_cell cV) (by have := hgw; omega))]; exact cV
                      have H5 := hide (And.intro m5 (And.intro (HMo.out.2.2.2.1.only o5 hg1) (HMo.out.2.2.2.2.trans (o5.below hgw HMo.out.2.2.2.2.size))))
                      clear m5 o5 HA1
                      go_wp2_with (simp only [hb'1])
                      refine (HA2.out _ H5.out.1 H5.out.2.1).mono ?_
                      rintro e w6 ⟨rfl, m6, o6⟩
                      rw [HZ.out] at m6
                      have H6 : Hid (PairSt w w6 g (k + 1) dark SS) := ⟨m + 1 + 1, false, _, m6, by omega, by have := HMo.out.2.2.1; omega, .inr rfl, H5.out.2.1.only o6 hg1, H5.out.2.2.trans (o6.below hgw H5.out.2.2.size)⟩
                      clear m6 o6 HA2
                      go_wp2_with fail
                      go_roundw
                      case rel => exact ⟨k + 1, by simp, by omega, by omega, H6.out⟩
                      case measure => simp [intOf]; omega
                  · have hfd : decide (bm < 9218868437227405312) = false := decide_eq_false hfin
                    rw [hfd] at HFi
                    clear hfd
                    go_wp2_with fail
                    refine (HFi.out _).mono ?_
                    rintro e w2 ⟨rfl, hw2⟩
                    have hw22 := hw2.symm
                    subst hw22
                    go_wp2_with fail
                    go_roundw
                    case rel => exact ⟨k + 1, by simp, by omega, by omega, HSk.out⟩
                    case measure => simp [intOf]; omega
                · have g1 : (k : Int) < (len : Int) := by omega
                  have g2 : ¬ (k : Int) < 20 := by omega
                  clear r1 r2 r3 r4 r5 r6
                  go_wp2_with fail
                  go_meet
                  case rel => exact HEx.out
              · have g1 : ¬ (k : Int) < (len : Int) := by omega
                clear r1 r2 r3 r4 r5 r6
                go_wp2_with fail
                go_meet
                case rel => exact HEx.out
          case rest =>
            have HPs := hcut
            obtain ⟨m, d, q2, r1, r2, r3, r4, r5, r6⟩ := HPs.out
            have HS2 := hide (HSu.out _ m d q2 r1 r2)
            have hdm : decide (0 < m) = true := decide_eq_true r2
            rw [hdm] at HS2
            have HTr := hide r5
            have HBr := hide r6
            have Hd4 := hide r4
            clear hcut r1 r2 r3 r4 r5 r6 hdm HPs
            go_wp2_with fail
            refine HS2.out.mono ?_
            rintro e w8 ⟨tv, rfl, htv, B8⟩
            have HT8 := hide (HTr.out.below B8)
            have HB8 := hide (HBr.out.trans (B8.mono HBr.out.size))
            have htvt : tv < 18446744073709551616 := by rw [htv]; exact shV_lt _ _ _
            have hsa := b64_abs sv hsvt
            have hta := b64_abs tv htvt
            have hcase : sv = tv ∨ (sv ≠ tv ∧ sv % 9223372036854775808 = 0 ∧ tv % 9223372036854775808 = 0) := by
              by_cases hst : sv = tv
              · exact .inl hst
              · refine .inr ⟨hst, ?_⟩
                rcases Hd4.out with e1 | e1
                · exact absurd (by rw [Hsv.out, htv, e1]) hst
                · cases dark with
                  | false => exact absurd (by rw [Hsv.out, htv, e1]) hst
                  | true =>
                    have e2 := HD0.out rfl
                    rw [Hsv.out, htv, e1, e2]
                    exact ⟨rfl, by unfold shV meanV wdX; simp⟩
            clear htv B8 HS2
            rcases hcase with hst | ⟨hst, hs0, ht0⟩
            · subst hst
              go_wp2_with fail
              refine (wakes_any _ HT8.out).mono ?_
              rintro e w9 ⟨rfl, B9⟩
              have HB9 := hide B9
              clear B9
              go_wp2_with fail
              go_ret
              exact ⟨rfl, HB8.out.trans (HB9.out.mono HB8.out.size)⟩
            · have hst' : ((sv : Int) == (tv : Int)) = false := by rw [beq_eq_false_iff_ne]; omega
              rw [hs0] at hsa
              rw [ht0] at hta
              go_wp2_with (simp only [hsa, hta])
              refine (wakes_any _ HT8.out).mono ?_
              rintro e w9 ⟨rfl, B9⟩
              have HB9 := hide B9
              clear B9
              go_wp2_with fail
              go_ret
              exact ⟨rfl, HB8.out.trans (HB9.out.mono HB8.out.size)⟩

end Go.Proofs.YtolaaemkcmiabaaDoor

namespace Go.Proofs.YtolaaemkcmiabaaDoor
open Go.ChangeShapes Go.WideShapes Go.Deep Go.Joins
open M
open Flt
set_option linter.unusedVariables false
set_option linter.unusedSimpArgs false

theorem cells_1 {w : World} {base : Nat} {a : Addr} {cs : List Value} (h : w.cells? base a 1 = some cs) : ∃ v, cs = [v] ∧ w.cell? a = some v := by
  unfold World.cells? at h
  split at h
  · have e : List.range 1 = [0] := rfl
    rw [e] at h
    simp only [List.mapM_cons, List.mapM_nil, Option.bind_eq_bind, Option.bind_eq_some_iff, Option.pure_def, Option.some.injEq] at h
    obtain ⟨a0, h0, l0, rfl, rfl⟩ := h
    exact ⟨a0, rfl, by simpa [Addr.add] using h0⟩
  · cases h

theorem cellsU64 : Tryd.prog.cellsOf 24 = 1 := by kernel_rfl

section
variable {H : Type} {enc : TypeId × Value → H} {w : World} {base : Nat} {spare : Nat → Bool} {held : Bool}

theorem open_u64s {fuel : Nat} {v : Value} {y : DataW H × List MemPlace} (h : DataW.trod enc Tryd.prog w base spare held fuel 22 [v] = some y) : ∃ a len cap, v = .slice a len cap ∧ IsWs w a len := by
  rcases open_slice Tryd.underlying22 h with ⟨h0, _⟩ | ⟨ad, len, cap, mm, n', D, Pl, hcs, _, hlc, hcm, hmm, _, hx⟩
  · simp only [List.cons.injEq, and_true] at h0
    exact ⟨none, 0, 0, h0, by omega, fun h => by omega⟩
  · simp only [List.cons.injEq, and_true] at hcs
    unfold maxLen at hcm
    refine ⟨some ad, len, cap, hcs, by omega, fun h0 => ?_⟩
    have hlm : len ≤ mm := by rw [hmm]; split <;> omega
    have one : ∀ i, i < len → ∃ z : Nat, w.cell? (ad.add i) = some (.int .u64 (z : Nat)) ∧ z < 18446744073709551616 := by
      intro i hi
      obtain ⟨cs', hc, ht⟩ := hx i (by omega)
      rw [cellsU64, Nat.mul_one] at hc
      obtain ⟨u, rfl, hcell⟩ := cells_1 hc
      obtain ⟨z, e0, _, w0⟩ := DataW.trod_int Tryd.underlying24 ht
      simp only [List.cons.injEq, and_true] at e0
      have b := bounds_u64 w0
      exact ⟨z.toNat, by rw [hcell, e0, Int.toNat_of_nonneg b.1], by omega⟩
    obtain ⟨b, off, spot⟩ := ad
    obtain ⟨z0, h00, _⟩ := one 0 h0
    have hspot : spot = none := by simpa [Addr.add] using World.cell?_spot h00
    subst hspot
    refine ⟨b, off, rfl, ?_, fun j hj => ?_⟩
    · have := block_lt_of_cell h00
      simpa [Addr.add] using this
    · obtain ⟨z, hz, hb⟩ := one j hj
      rw [Addr.add_mid] at hz
      exact ⟨z, hz, hb⟩
end

def laidTab : List (String × DataW Unit) := [("math/bits.deBruijn64tab", Rows.laid_math_bits_deBruijn64tab)]

theorem gTab : Tryd.prog.globalNamed "math/bits.deBruijn64tab" = some 1 := by kernel_rfl
theorem tTab : (Tryd.prog.globals[1]?).map (·.type) = some 116 := by kernel_rfl
theorem cells8 : Tryd.prog.cellsOf 5 = 1 := by kernel_rfl

theorem tab_list {H : Type} : (Rows.laid_math_bits_deBruijn64tab : DataW H) = .agg (Lib.deBruijn64tab.map fun n : Nat => .lit (.int .u8 (n : Int))) := rfl

theorem tab_of_laid {W : World} (h : laidMetH Tryd.prog laidTab W) : Tab64 W := by
  rw [MakeChecks.laidMetH_plain _ _ _ (by kernel_rfl)] at h
  obtain ⟨ps, ⟨g, t, cs, fuel, p, q, hg, ht, hv, hd, _, _⟩, _, _⟩ := h
  obtain rfl := Option.some.inj (gTab.symm.trans hg)
  obtain rfl := Option.some.inj (tTab.symm.trans ht)
  obtain ⟨xs, m, _, ex, hlen, hl, hel⟩ := DataW.trod_array Tryd.underlying116 hd
  rw [tab_list] at ex
  have ex2 := DataW.agg.inj (Prod.mk.inj ex).1
  intro j hj
  rw [World.var?_cell gTab hv j]
  have hjx : j < xs.length := by omega
  have k := hel j hj
  rw [cells8, Nat.mul_one, List.getElem?_eq_getElem hjx] at k
  obtain ⟨z, a, b, _⟩ := DataW.trod_int Tryd.underlying5 k
  have hz : (Lib.deBruijn64tab.map fun n : Nat => (.lit (.int .u8 (n : Int)) : DataW Unit))[j]? = some (.lit (.int .u8 z)) := by
    rw [ex2, List.getElem?_map, List.getElem?_eq_getElem hjx, Option.map_some, b]
  have hjt : j < Lib.deBruijn64tab.length := hj
  rw [List.getElem?_map, List.getElem?_eq_getElem hjt, Option.map_some] at hz
  simp only [Option.some.injEq, DataW.lit.injEq, Lit.int.injEq, true_and] at hz
  have hc : cs.toList[j]? = some (.int .u8 z) := by
    have := congrArg (·[0]?) a
    simpa [List.getElem?_take, List.getElem?_drop] using this
  have hg2 : Lib.deBruijn64tab.getD j 0 = Lib.deBruijn64tab[j] := by simp [List.getD, List.getElem?_eq_getElem hjt]
  rw [hg2, hz, ← hc]
  simp

end Go.Proofs.YtolaaemkcmiabaaDoor

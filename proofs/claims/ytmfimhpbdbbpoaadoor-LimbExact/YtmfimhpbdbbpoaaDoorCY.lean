/- LimbExact: its loop. -/
import Derived.Test.YtmfimhpbdbbpoaaDoorCW
import Derived.Test.YtmfimhpbdbbpoaaDoorCX
import Derived.Test.YtmfimhpbdbbpoaaDoorCF
import Derived.Test.YtmfimhpbdbbpoaaDoorQ
import Derived.Test.YtmfimhpbdbbpoaaDoorAH
namespace Go.Proofs.YtmfimhpbdbbpoaaDoor
open Go.RowKit
open M
set_option linter.unusedVariables false
set_option linter.unusedSimpArgs false

/-- A slice of Calcs that came in. -/
def IsCalcs (w : World) (a : Option Addr) (n : Nat) : Prop :=
  n ≤ 9223372036854775807 ∧ (0 < n → ∃ g o, a = some ⟨g, o, none⟩ ∧ g < w.heap.size ∧ ∀ i, i < n → ∃ (x y : Value) (k A m C : Nat) (N : Int) (b d : Nat),
    (w.cell? ⟨g, o + i * 5, none⟩ = some x ∧ w.cell? ⟨g, o + i * 5 + 1, none⟩ = some y ∧ w.cell? ⟨g, o + i * 5 + 2, none⟩ = some (.int .i64 N) ∧ w.cell? ⟨g, o + i * 5 + 3, none⟩ = some (.int .u32 (b : Int)) ∧ w.cell? ⟨g, o + i * 5 + 4, none⟩ = some (.int .u64 (d : Int))) ∧
    (RowL w x k A ∧ Nil0 x) ∧ (RowL w y m C ∧ Nil0 y) ∧ (-9223372036854775808 ≤ N ∧ N ≤ 9223372036854775807) ∧ b < 4294967296 ∧ d < 18446744073709551616)

theorem power_spec (b : Nat) (N : Int) (hb : b < 4294967296) (hN : N ≤ 500) : ∃ c n R, n ≤ 8192 ∧ ∀ w : World, GivesN 9 c n R #[.int .u32 b, .int .i64 N] w ∧ GivesN 10 c n R #[.int .u32 b, .int .i64 N] w := by
  by_cases h0 : N < 0
  · exact ⟨24, 0, 0, by omega, fun w => ⟨gives_bad (Power_neg b N w h0), gives_bad (rPower_neg b N w h0)⟩⟩
  · obtain ⟨n, rfl⟩ : ∃ n : Nat, N = n := ⟨N.toNat, by omega⟩
    obtain ⟨c, q, R, hq, ht⟩ := told_to (b ^ n)
    exact ⟨c, q, R, hq, fun w => ⟨gives_told ht (Power_any b n w hb (by omega)), gives_told ht (Calls.mono (rPower_own b n w hb (by omega)) fun e w' ⟨r, g1, m, g2, g3, g4, g5⟩ => ⟨r, 0, g1, .inl ⟨g3.fits.1 (by omega), rfl, m, g2, g3⟩, g5⟩)⟩⟩

theorem power_long (b : Nat) (N : Int) (hb : b < 4294967296) (hN : 327680 ≤ N) (hN2 : N ≤ 9223372036854775807) (hb2 : 65536 ≤ b) (w : World) :
    Calls Tryd.prog 9 #[.int .u32 b, .int .i64 N] w fun e w' => e = .returned (.tuple #[.slice none 0 0, .int .i64 21]) ∧ Below w.heap.size w w' := by
  obtain ⟨n, rfl⟩ : ∃ n : Nat, N = n := ⟨N.toNat, by omega⟩
  refine Calls.mono (Power_any b n w hb (by omega)) fun e w' ⟨r, c, g1, g2, g3⟩ => ?_
  rcases g2 with ⟨h1, _⟩ | ⟨_, rfl, rfl⟩
  · exact absurd h1 (pow_long (by omega) (by omega))
  · exact ⟨g1, g3⟩

theorem from_spec (d : Nat) (hd : d < 18446744073709551616) : ∃ n, n ≤ 2 ∧ ∀ w : World, (Calls Tryd.prog 13 #[.int .u64 d] w fun e w' => ∃ r, e = .returned r ∧ Own w' w.heap.size r n d ∧ Below w.heap.size w w') ∧ (Calls Tryd.prog 14 #[.int .u64 d] w fun e w' => ∃ r, e = .returned r ∧ Row w' r n d ∧ Below w.heap.size w w') := by
  obtain ⟨n, hn⟩ := nrm_exists d
  refine ⟨n, hn.le (by omega), fun w => ⟨?_, ?_⟩⟩
  · refine Calls.mono (From_any d w hd) fun e w' ⟨r, g1, q, g2, g3, _, g4⟩ => ?_
    obtain rfl : q = n := Nat.le_antisymm (g3.le hn.1) (hn.le g3.1)
    exact ⟨r, g1, g2, g4⟩
  · refine Calls.mono (rFrom_own d w hd) fun e w' ⟨r, g1, q, g2, g3, _, g4⟩ => ?_
    obtain rfl : q = n := Nat.le_antisymm (g3.le hn.1) (hn.le g3.1)
    exact ⟨r, g1, g2.row, g4⟩

/-- A round: what it copied, and what it reads. -/
structure CSt (w : World) (B : Nat) (x y : Value) (k A m C : Nat) (N : Int) (b d : Nat) (wq : World) : Prop where
  c0 : wq.cell? ⟨B, 0, none⟩ = some x
  c1 : wq.cell? ⟨B, 1, none⟩ = some y
  c2 : wq.cell? ⟨B, 2, none⟩ = some (.int .i64 N)
  c3 : wq.cell? ⟨B, 3, none⟩ = some (.int .u32 (b : Int))
  c4 : wq.cell? ⟨B, 4, none⟩ = some (.int .u64 (d : Int))
  lt : B < wq.heap.size
  below : Below w.heap.size w wq
  rx : Row wq x k A
  ry : Row wq y m C
  tab : Tab wq

theorem CSt.later {w : World} {B : Nat} {x y : Value} {k A m C : Nat} {N : Int} {b d : Nat} {wq w' : World} (h : CSt w B x y k A m C N b d wq) (hb : Below wq.heap.size wq w') : CSt w B x y k A m C N b d w' :=
  ⟨(hb.cell (p := ⟨B, 0, none⟩) h.lt).trans h.c0, (hb.cell (p := ⟨B, 1, none⟩) h.lt).trans h.c1, (hb.cell (p := ⟨B, 2, none⟩) h.lt).trans h.c2, (hb.cell (p := ⟨B, 3, none⟩) h.lt).trans h.c3, (hb.cell (p := ⟨B, 4, none⟩) h.lt).trans h.c4, Nat.lt_of_lt_of_le h.lt hb.size, h.below.trans (hb.mono h.below.size), h.rx.below hb, h.ry.below hb, h.tab.below hb⟩

set_option maxRecDepth 100000 in
set_option maxHeartbeats 8000000 in
theorem exact_any (aL : Option Addr) (nL cL : Nat) (w : World) (h : IsCalcs w aL nL) (hT : Tab w) :
    Calls Tryd.prog 3 #[.slice aL nL cL] w fun e w' => e = .returned (.bool true) ∧ Below w.heap.size w w' := by
  have hn := h.1
  have HI := hide h.2
  have HTb := hide hT
  clear h hT
  obtain ⟨M, hM⟩ : ∃ M, M = min nL 20 := ⟨_, rfl⟩
  have HMm : Hid ((∀ i, i ≤ M → ¬ (i < nL ∧ i < 20) → i = M) ∧ ∀ i, i < nL → i < 20 → i < M) := ⟨fun i hi h => by omega, fun i h1 h2 => by omega⟩
  clear hM
  go_enter Tryd.func3, Tryd.ntmps3
  go_wp2_with fail
  go_loopw [3] (fun t3 wr => ∃ i : Nat, i ≤ M ∧ t3 = .int .i64 i ∧ Hid (Below w.heap.size w wr)) (fun t3 _ => M - (intOf t3).toNat)
  case atStart => exact ⟨0, by omega, rfl, Below.refl _ _⟩
  case round =>
    obtain ⟨i, hi, rfl, HB⟩ := hrel
    by_cases hlt : i < nL ∧ i < 20
    · obtain ⟨hl1, hl2⟩ := hlt
      have hl1' : (i : Int) < (nL : Int) := by omega
      have hl2' : (i : Int) < 20 := by omega
      have hiM : i < M := HMm.out.2 i hl1 hl2
      obtain ⟨g, o, rfl, hg, hj⟩ := HI.out (by omega)
      obtain ⟨x, y, k, A, m, C, N, b, d, ⟨c0, c1, c2, c3, c4⟩, hx, hy, hN, hb, hd⟩ := hj i hl1
      have k0 : wr.cell? ⟨g, o + i * 5, none⟩ = some x := by rw [HB.out.cell (p := ⟨g, o + i * 5, none⟩) hg]; exact c0
      have k1 : wr.cell? ⟨g, o + i * 5 + 1, none⟩ = some y := by rw [HB.out.cell (p := ⟨g, o + i * 5 + 1, none⟩) hg]; exact c1
      have k2 : wr.cell? ⟨g, o + i * 5 + 2, none⟩ = some (.int .i64 N) := by rw [HB.out.cell (p := ⟨g, o + i * 5 + 2, none⟩) hg]; exact c2
      have k3 : wr.cell? ⟨g, o + i * 5 + 3, none⟩ = some (.int .u32 (b : Int)) := by rw [HB.out.cell (p := ⟨g, o + i * 5 + 3, none⟩) hg]; exact c3
      have k4 : wr.cell? ⟨g, o + i * 5 + 4, none⟩ = some (.int .u64 (d : Int)) := by rw [HB.out.cell (p := ⟨g, o + i * 5 + 4, none⟩) hg]; exact c4
      have HX := hide hx
      have HY := hide hy
      obtain ⟨_, _, adx, capx, rfl, _, _⟩ := hx.1
      obtain ⟨_, _, ady, capy, rfl, _, _⟩ := hy.1
      clear hj c0 c1 c2 c3 c4 hx hy
      have HBox : Hid (Below w.heap.size w (wr.alloc (.cells #[.slice adx k capx, .slice ady m capy, .int .i64 N, .int .u32 (b : Int), .int .u64 (d : Int)] 27))) := HB.out.alloc HB.out.size _
      have HBox : Hid (Below w.heap.size w (wr.alloc (.cells #[.slice adx k capx, .slice ady m capy, .int .i64 N, .int .u32 (b : Int), .int .u64 (d : Int)] 27))) := HB.out.alloc HB.out.size _
      have HBox : Hid (Below w.heap.size w (wr.alloc (.cells #[.slice adx k capx, .slice ady m capy, .int .i64 N, .int .u32 (b : Int), .int .u64 (d : Int)] 27))) := HB.out.alloc HB.out.size _
      by_cases hA : 16384 < k
      · have hA' : (16384 : Int) < (k : Int) := by omega
        go_wp2_with fail
        go_roundw
        case rel => exact ⟨i + 1, by omega, by go_num, HBox.out⟩
        case measure => simp [intOf]; omega
      have hA' : ¬ (16384 : Int) < (k : Int) := by omega
      by_cases hC : 16384 < m
      · have hC' : (16384 : Int) < (m : Int) := by omega
        go_wp2_with fail
        go_roundw
        case rel => exact ⟨i + 1, by omega, by go_num, HBox.out⟩
        case measure => simp [intOf]; omega
      have hC' : ¬ (16384 : Int) < (m : Int) := by omega
      have hk : k ≤ 16384 := by omega
      have hm : m ≤ 16384 := by omega
      have HS : Hid (CSt w wr.heap.size (.slice adx k capx) (.slice ady m capy) k A m C N b d (wr.alloc (.cells #[.slice adx k capx, .slice ady m capy, .int .i64 N, .int .u32 (b : Int), .int .u64 (d : Int)] 27))) := by
        have hnew := heap_alloc_new wr (.cells #[.slice adx k capx, .slice ady m capy, .int .i64 N, .int .u32 (b : Int), .int .u64 (d : Int)] 27)
        have hbx := HBox.out
        refine ⟨?_, ?_, ?_, ?_, ?_, by simp, hbx, ((HX.out.1.belowB hbx).row (by omega)), ((HY.out.1.belowB hbx).row (by omega)), HTb.out.below hbx⟩
        all_goals (rw [cell_of_row _ _ _ _ _ _ hnew]; rfl)
      clear HBox hA hC
      obtain ⟨nF, hnF, sF⟩ := from_spec d hd
      have SF := hide sF
      clear sF
      obtain ⟨c, hc⟩ : ∃ c, (if chk k A = 0 then chk m C else chk k A) = c := ⟨_, rfl⟩
      have HCK := hide hc
      clear hc
      have hcase : (N ≤ 500) ∨ (¬ N ≤ 500 ∧ N ≤ 40000) ∨ (40000 < N ∧ N ≤ 262144) ∨ (262144 < N ∧ N < 327680) ∨ (327680 ≤ N ∧ 65536 ≤ b) ∨ (327680 ≤ N ∧ b < 65536) := by omega
      rcases hcase with hcs | hcs | hcs | hcs | hcs | hcs
      · have hN3 : N < 9223372036854775808 := by omega
        have hd0 : decide ((40000 : Int) < N) = false := decide_eq_false (by omega)
        have hd1 : decide (N ≤ 500) = true := decide_eq_true (by omega)
        obtain ⟨cP, nP, RP, hnP, sP⟩ := power_spec b N hb hcs
        have SP := hide sP
        clear sP
        clear hcs
        by_cases hkm : k + m ≤ 120
        · have hdp : decide ((k : Int) + (m : Int) ≤ 120) = true := decide_eq_true (by omega)
          clear hkm
          go_wp2_with fail
          refine (told_true _ k A _ HS.out.rx HX.out.2 (by omega)).mono ?_
          rintro e v1 ⟨rfl, hb⟩
          have HZ := hide hb
          clear hb
          have HS' := hide (HS.out.later HZ.out)
          clear HS k0 k1 k2 k3 k4
          have HS := HS'
          clear HS'
          have q0 := HS.out.c0
          have q1 := HS.out.c1
          have q2 := HS.out.c2
          have q3 := HS.out.c3
          have q4 := HS.out.c4
          clear HZ
          go_wp2_with fail
          refine (sums_true _ _ k A m C v1 HS.out.rx HS.out.ry HX.out.2 HY.out.2 (by omega) (by omega)).mono ?_
          rintro e v2 ⟨rfl, hb⟩
          have HZ := hide hb
          clear hb
          have HS' := hide (HS.out.later HZ.out)
          clear HS q0 q1 q2 q3 q4
          have HS := HS'
          clear HS'
          have q0 := HS.out.c0
          have q1 := HS.out.c1
          have q2 := HS.out.c2
          have q3 := HS.out.c3
          have q4 := HS.out.c4
          clear HZ
          go_wp2_with fail
          refine (shifts_true _ k A N v2 HS.out.rx HX.out.2 (by omega) HS.out.tab (by omega)).mono ?_
          rintro e v3 ⟨rfl, hb⟩
          have HZ := hide hb
          clear hb
          have HS' := hide (HS.out.later HZ.out)
          clear HS q0 q1 q2 q3 q4
          have HS := HS'
          clear HS'
          have q0 := HS.out.c0
          have q1 := HS.out.c1
          have q2 := HS.out.c2
          have q3 := HS.out.c3
          have q4 := HS.out.c4
          clear HZ
          go_wp2_with fail
          refine (parts_true _ _ k A m C v3 HS.out.rx HS.out.ry HX.out.2 HY.out.2 (by omega) (by omega)).mono ?_
          rintro e v4 ⟨rfl, hb⟩
          have HZ := hide hb
          clear hb
          have HS' := hide (HS.out.later HZ.out)
          clear HS q0 q1 q2 q3 q4
          have HS := HS'
          clear HS'
          have q0 := HS.out.c0
          have q1 := HS.out.c1
          have q2 := HS.out.c2
          have q3 := HS.out.c3
          have q4 := HS.out.c4
          clear HZ
          go_wp2_with fail
          refine Calls.mono (SP.out v4).1 ?_
          rintro e v5 ⟨r7, rfl, hr, hb⟩
          have HP := hide (And.intro hr hb)
          clear hr hb
          have HS1 := hide (HS.out.later HP.out.2)
          clear q0 q1 q2 q3 q4
          have q0 := HS1.out.c0
          have q1 := HS1.out.c1
          have q2 := HS1.out.c2
          have q3 := HS1.out.c3
          have q4 := HS1.out.c4
          go_wp2_with fail
          refine Calls.mono (SP.out v5).2 ?_
          rintro e v6 ⟨p7, rfl, hr, hb⟩
          have HQ := hide (And.intro (And.intro (HP.out.1.below hb) hr.row) (And.intro (HP.out.2.trans (hb.mono HP.out.2.size)) (Nat.le_trans HP.out.2.size hb.size)))
          have HS2 := hide (HS1.out.later hb)
          clear q0 q1 q2 q3 q4 HS1
          have q0 := HS2.out.c0
          have q1 := HS2.out.c1
          have q2 := HS2.out.c2
          have q3 := HS2.out.c3
          have q4 := HS2.out.c4
          clear hr hb HP
          go_wp2_with fail
          refine (same_true r7 p7 _ _ v4.heap.size _ v6 HQ.out.1.1 HQ.out.1.2 HQ.out.2.2 (by omega)).mono ?_
          rintro e v7 ⟨rfl, hb⟩
          have HZ := hide (HQ.out.2.1.trans hb)
          clear hb HQ HS2
          have HS' := hide (HS.out.later HZ.out)
          clear HS q0 q1 q2 q3 q4
          have HS := HS'
          clear HS'
          have q0 := HS.out.c0
          have q1 := HS.out.c1
          have q2 := HS.out.c2
          have q3 := HS.out.c3
          have q4 := HS.out.c4
          clear HZ
          go_wp2_with fail
          refine Calls.mono (SF.out v7).1 ?_
          rintro e v8 ⟨r10, rfl, hr, hb⟩
          have HP := hide (And.intro hr hb)
          clear hr hb
          have HS1 := hide (HS.out.later HP.out.2)
          clear q0 q1 q2 q3 q4
          have q0 := HS1.out.c0
          have q1 := HS1.out.c1
          have q2 := HS1.out.c2
          have q3 := HS1.out.c3
          have q4 := HS1.out.c4
          go_wp2_with fail
          refine Calls.mono (SF.out v8).2 ?_
          rintro e v9 ⟨p10, rfl, hr, hb⟩
          have HQ := hide (And.intro (And.intro (HP.out.1.below hb) hr) (And.intro (HP.out.2.trans (hb.mono HP.out.2.size)) (Nat.le_trans HP.out.2.size hb.size)))
          have HS2 := hide (HS1.out.later hb)
          clear q0 q1 q2 q3 q4 HS1
          have q0 := HS2.out.c0
          have q1 := HS2.out.c1
          have q2 := HS2.out.c2
          have q3 := HS2.out.c3
          have q4 := HS2.out.c4
          clear hr hb HP
          go_wp2_with fail
          refine (same_true r10 p10 _ _ v7.heap.size _ v9 HQ.out.1.1 HQ.out.1.2 HQ.out.2.2 (by omega)).mono ?_
          rintro e v10 ⟨rfl, hb⟩
          have HZ := hide (HQ.out.2.1.trans hb)
          clear hb HQ HS2
          have HS' := hide (HS.out.later HZ.out)
          clear HS q0 q1 q2 q3 q4
          have HS := HS'
          clear HS'
          have q0 := HS.out.c0
          have q1 := HS.out.c1
          have q2 := HS.out.c2
          have q3 := HS.out.c3
          have q4 := HS.out.c4
          clear HZ
          go_wp2_with fail
          go_roundw
          case rel => exact ⟨i + 1, by omega, by go_num, HS.out.below⟩
          case measure => simp [intOf]; omega
        · have hdp : decide ((k : Int) + (m : Int) ≤ 120) = false := decide_eq_false (by omega)
          clear hkm
          by_cases hc0 : c = 0
          · subst hc0
            go_wp2_with fail
            refine (told_true _ k A _ HS.out.rx HX.out.2 (by omega)).mono ?_
            rintro e v1 ⟨rfl, hb⟩
            have HZ := hide hb
            clear hb
            have HS' := hide (HS.out.later HZ.out)
            clear HS k0 k1 k2 k3 k4
            have HS := HS'
            clear HS'
            have q0 := HS.out.c0
            have q1 := HS.out.c1
            have q2 := HS.out.c2
            have q3 := HS.out.c3
            have q4 := HS.out.c4
            clear HZ
            go_wp2_with fail
            refine (sums_true _ _ k A m C v1 HS.out.rx HS.out.ry HX.out.2 HY.out.2 (by omega) (by omega)).mono ?_
            rintro e v2 ⟨rfl, hb⟩
            have HZ := hide hb
            clear hb
            have HS' := hide (HS.out.later HZ.out)
            clear HS q0 q1 q2 q3 q4
            have HS := HS'
            clear HS'
            have q0 := HS.out.c0
            have q1 := HS.out.c1
            have q2 := HS.out.c2
            have q3 := HS.out.c3
            have q4 := HS.out.c4
            clear HZ
            go_wp2_with fail
            refine (shifts_true _ k A N v2 HS.out.rx HX.out.2 (by omega) HS.out.tab (by omega)).mono ?_
            rintro e v3 ⟨rfl, hb⟩
            have HZ := hide hb
            clear hb
            have HS' := hide (HS.out.later HZ.out)
            clear HS q0 q1 q2 q3 q4
            have HS := HS'
            clear HS'
            have q0 := HS.out.c0
            have q1 := HS.out.c1
            have q2 := HS.out.c2
            have q3 := HS.out.c3
            have q4 := HS.out.c4
            clear HZ
            have HK := hide (rboth_any _ _ k A m C v3 HS.out.rx HS.out.ry)
            rw [HCK.out] at HK
            go_wp2_with fail
            refine HK.out.mono ?_
            rintro e v4 ⟨rfl, hw⟩
            have hw1 := hw.symm
            subst hw1
            clear HK
            go_wp2_with fail
            refine Calls.mono (SP.out v3).1 ?_
            rintro e v5 ⟨r7, rfl, hr, hb⟩
            have HP := hide (And.intro hr hb)
            clear hr hb
            have HS1 := hide (HS.out.later HP.out.2)
            clear q0 q1 q2 q3 q4
            have q0 := HS1.out.c0
            have q1 := HS1.out.c1
            have q2 := HS1.out.c2
            have q3 := HS1.out.c3
            have q4 := HS1.out.c4
            go_wp2_with fail
            refine Calls.mono (SP.out v5).2 ?_
            rintro e v6 ⟨p7, rfl, hr, hb⟩
            have HQ := hide (And.intro (And.intro (HP.out.1.below hb) hr.row) (And.intro (HP.out.2.trans (hb.mono HP.out.2.size)) (Nat.le_trans HP.out.2.size hb.size)))
            have HS2 := hide (HS1.out.later hb)
            clear q0 q1 q2 q3 q4 HS1
            have q0 := HS2.out.c0
            have q1 := HS2.out.c1
            have q2 := HS2.out.c2
            have q3 := HS2.out.c3
            have q4 := HS2.out.c4
            clear hr hb HP
            go_wp2_with fail
            refine (same_true r7 p7 _ _ v3.heap.size _ v6 HQ.out.1.1 HQ.out.1.2 HQ.out.2.2 (by omega)).mono ?_
            rintro e v7 ⟨rfl, hb⟩
            have HZ := hide (HQ.out.2.1.trans hb)
            clear hb HQ HS2
            have HS' := hide (HS.out.later HZ.out)
            clear HS q0 q1 q2 q3 q4
            have HS := HS'
            clear HS'
            have q0 := HS.out.c0
            have q1 := HS.out.c1
            have q2 := HS.out.c2
            have q3 := HS.out.c3
            have q4 := HS.out.c4
            clear HZ
            go_wp2_with fail
            refine Calls.mono (SF.out v7).1 ?_
            rintro e v8 ⟨r10, rfl, hr, hb⟩
            have HP := hide (And.intro hr hb)
            clear hr hb
            have HS1 := hide (HS.out.later HP.out.2)
            clear q0 q1 q2 q3 q4
            have q0 := HS1.out.c0
            have q1 := HS1.out.c1
            have q2 := HS1.out.c2
            have q3 := HS1.out.c3
            have q4 := HS1.out.c4
            go_wp2_with fail
            refine Calls.mono (SF.out v8).2 ?_
            rintro e v9 ⟨p10, rfl, hr, hb⟩
            have HQ := hide (And.intro (And.intro (HP.out.1.below hb) hr) (And.intro (HP.out.2.trans (hb.mono HP.out.2.size)) (Nat.le_trans HP.out.2.size hb.size)))
            have HS2 := hide (HS1.out.later hb)
            clear q0 q1 q2 q3 q4 HS1
            have q0 := HS2.out.c0
            have q1 := HS2.out.c1
            have q2 := HS2.out.c2
            have q3 := HS2.out.c3
            have q4 := HS2.out.c4
            clear hr hb HP
            go_wp2_with fail
            refine (same_true r10 p10 _ _ v7.heap.size _ v9 HQ.out.1.1 HQ.out.1.2 HQ.out.2.2 (by omega)).mono ?_
            rintro e v10 ⟨rfl, hb⟩
            have HZ := hide (HQ.out.2.1.trans hb)
            clear hb HQ HS2
            have HS' := hide (HS.out.later HZ.out)
            clear HS q0 q1 q2 q3 q4
            have HS := HS'
            clear HS'
            have q0 := HS.out.c0
            have q1 := HS.out.c1
            have q2 := HS.out.c2
            have q3 := HS.out.c3
            have q4 := HS.out.c4
            clear HZ
            go_wp2_with fail
            go_roundw
            case rel => exact ⟨i + 1, by omega, by go_num, HS.out.below⟩
            case measure => simp [intOf]; omega
          · have h0 : (c == 0) = false := by rw [beq_eq_false_iff_ne]; exact hc0
            have h1 : (c != 0) = true := by rw [bne_iff_ne]; exact hc0
            go_wp2_with fail
            refine (told_true _ k A _ HS.out.rx HX.out.2 (by omega)).mono ?_
            rintro e v1 ⟨rfl, hb⟩
            have HZ := hide hb
            clear hb
            have HS' := hide (HS.out.later HZ.out)
            clear HS k0 k1 k2 k3 k4
            have HS := HS'
            clear HS'
            have q0 := HS.out.c0
            have q1 := HS.out.c1
            have q2 := HS.out.c2
            have q3 := HS.out.c3
            have q4 := HS.out.c4
            clear HZ
            go_wp2_with fail
            refine (sums_true _ _ k A m C v1 HS.out.rx HS.out.ry HX.out.2 HY.out.2 (by omega) (by omega)).mono ?_
            rintro e v2 ⟨rfl, hb⟩
            have HZ := hide hb
            clear hb
            have HS' := hide (HS.out.later HZ.out)
            clear HS q0 q1 q2 q3 q4
            have HS := HS'
            clear HS'
            have q0 := HS.out.c0
            have q1 := HS.out.c1
            have q2 := HS.out.c2
            have q3 := HS.out.c3
            have q4 := HS.out.c4
            clear HZ
            go_wp2_with fail
            refine (shifts_true _ k A N v2 HS.out.rx HX.out.2 (by omega) HS.out.tab (by omega)).mono ?_
            rintro e v3 ⟨rfl, hb⟩
            have HZ := hide hb
            clear hb
            have HS' := hide (HS.out.later HZ.out)
            clear HS q0 q1 q2 q3 q4
            have HS := HS'
            clear HS'
            have q0 := HS.out.c0
            have q1 := HS.out.c1
            have q2 := HS.out.c2
            have q3 := HS.out.c3
            have q4 := HS.out.c4
            clear HZ
            have HK := hide (rboth_any _ _ k A m C v3 HS.out.rx HS.out.ry)
            rw [HCK.out] at HK
            go_wp2_with fail
            refine HK.out.mono ?_
            rintro e v4 ⟨rfl, hw⟩
            have hw1 := hw.symm
            subst hw1
            clear HK
            go_wp2_with fail
            refine (parts_true _ _ k A m C v3 HS.out.rx HS.out.ry HX.out.2 HY.out.2 (by omega) (by omega)).mono ?_
            rintro e v5 ⟨rfl, hb⟩
            have HZ := hide hb
            clear hb
            have HS' := hide (HS.out.later HZ.out)
            clear HS q0 q1 q2 q3 q4
            have HS := HS'
            clear HS'
            have q0 := HS.out.c0
            have q1 := HS.out.c1
            have q2 := HS.out.c2
            have q3 := HS.out.c3
            have q4 := HS.out.c4
            clear HZ
            go_wp2_with fail
            refine Calls.mono (SP.out v5).1 ?_
            rintro e v6 ⟨r8, rfl, hr, hb⟩
            have HP := hide (And.intro hr hb)
            clear hr hb
            have HS1 := hide (HS.out.later HP.out.2)
            clear q0 q1 q2 q3 q4
            have q0 := HS1.out.c0
            have q1 := HS1.out.c1
            have q2 := HS1.out.c2
            have q3 := HS1.out.c3
            have q4 := HS1.out.c4
            go_wp2_with fail
            refine Calls.mono (SP.out v6).2 ?_
            rintro e v7 ⟨p8, rfl, hr, hb⟩
            have HQ := hide (And.intro (And.intro (HP.out.1.below hb) hr.row) (And.intro (HP.out.2.trans (hb.mono HP.out.2.size)) (Nat.le_trans HP.out.2.size hb.size)))
            have HS2 := hide (HS1.out.later hb)
            clear q0 q1 q2 q3 q4 HS1
            have q0 := HS2.out.c0
            have q1 := HS2.out.c1
            have q2 := HS2.out.c2
            have q3 := HS2.out.c3
            have q4 := HS2.out.c4
            clear hr hb HP
            go_wp2_with fail
            refine (same_true r8 p8 _ _ v5.heap.size _ v7 HQ.out.1.1 HQ.out.1.2 HQ.out.2.2 (by omega)).mono ?_
            rintro e v8 ⟨rfl, hb⟩
            have HZ := hide (HQ.out.2.1.trans hb)
            clear hb HQ HS2
            have HS' := hide (HS.out.later HZ.out)
            clear HS q0 q1 q2 q3 q4
            have HS := HS'
            clear HS'
            have q0 := HS.out.c0
            have q1 := HS.out.c1
            have q2 := HS.out.c2
            have q3 := HS.out.c3
            have q4 := HS.out.c4
            clear HZ
            go_wp2_with fail
            refine Calls.mono (SF.out v8).1 ?_
            rintro e v9 ⟨r11, rfl, hr, hb⟩
            have HP := hide (And.intro hr hb)
            clear hr hb
            have HS1 := hide (HS.out.later HP.out.2)
            clear q0 q1 q2 q3 q4
            have q0 := HS1.out.c0
            have q1 := HS1.out.c1
            have q2 := HS1.out.c2
            have q3 := HS1.out.c3
            have q4 := HS1.out.c4
            go_wp2_with fail
            refine Calls.mono (SF.out v9).2 ?_
            rintro e v10 ⟨p11, rfl, hr, hb⟩
            have HQ := hide (And.intro (And.intro (HP.out.1.below hb) hr) (And.intro (HP.out.2.trans (hb.mono HP.out.2.size)) (Nat.le_trans HP.out.2.size hb.size)))
            have HS2 := hide (HS1.out.later hb)
            clear q0 q1 q2 q3 q4 HS1
            have q0 := HS2.out.c0
            have q1 := HS2.out.c1
            have q2 := HS2.out.c2
            have q3 := HS2.out.c3
            have q4 := HS2.out.c4
            clear hr hb HP
            go_wp2_with fail
            refine (same_true r11 p11 _ _ v8.heap.size _ v10 HQ.out.1.1 HQ.out.1.2 HQ.out.2.2 (by omega)).mono ?_
            rintro e v11 ⟨rfl, hb⟩
            have HZ := hide (HQ.out.2.1.trans hb)
            clear hb HQ HS2
            have HS' := hide (HS.out.later HZ.out)
            clear HS q0 q1 q2 q3 q4
            have HS := HS'
            clear HS'
            have q0 := HS.out.c0
            have q1 := HS.out.c1
            have q2 := HS.out.c2
            have q3 := HS.out.c3
            have q4 := HS.out.c4
            clear HZ
            go_wp2_with fail
            go_roundw
            case rel => exact ⟨i + 1, by omega, by go_num, HS.out.below⟩
            case measure => simp [intOf]; omega
      · have hN3 : N < 9223372036854775808 := by omega
        have hd0 : decide ((40000 : Int) < N) = false := decide_eq_false (by omega)
        have hd1 : decide (N ≤ 500) = false := decide_eq_false (by omega)
        have hd2 : decide ((327680 : Int) ≤ N) = false := decide_eq_false (by omega)
        clear hcs
        by_cases hkm : k + m ≤ 120
        · have hdp : decide ((k : Int) + (m : Int) ≤ 120) = true := decide_eq_true (by omega)
          clear hkm
          go_wp2_with fail
          refine (told_true _ k A _ HS.out.rx HX.out.2 (by omega)).mono ?_
          rintro e v1 ⟨rfl, hb⟩
          have HZ := hide hb
          clear hb
          have HS' := hide (HS.out.later HZ.out)
          clear HS k0 k1 k2 k3 k4
          have HS := HS'
          clear HS'
          have q0 := HS.out.c0
          have q1 := HS.out.c1
          have q2 := HS.out.c2
          have q3 := HS.out.c3
          have q4 := HS.out.c4
          clear HZ
          go_wp2_with fail
          refine (sums_true _ _ k A m C v1 HS.out.rx HS.out.ry HX.out.2 HY.out.2 (by omega) (by omega)).mono ?_
          rintro e v2 ⟨rfl, hb⟩
          have HZ := hide hb
          clear hb
          have HS' := hide (HS.out.later HZ.out)
          clear HS q0 q1 q2 q3 q4
          have HS := HS'
          clear HS'
          have q0 := HS.out.c0
          have q1 := HS.out.c1
          have q2 := HS.out.c2
          have q3 := HS.out.c3
          have q4 := HS.out.c4
          clear HZ
          go_wp2_with fail
          refine (shifts_true _ k A N v2 HS.out.rx HX.out.2 (by omega) HS.out.tab (by omega)).mono ?_
          rintro e v3 ⟨rfl, hb⟩
          have HZ := hide hb
          clear hb
          have HS' := hide (HS.out.later HZ.out)
          clear HS q0 q1 q2 q3 q4
          have HS := HS'
          clear HS'
          have q0 := HS.out.c0
          have q1 := HS.out.c1
          have q2 := HS.out.c2
          have q3 := HS.out.c3
          have q4 := HS.out.c4
          clear HZ
          go_wp2_with fail
          refine (parts_true _ _ k A m C v3 HS.out.rx HS.out.ry HX.out.2 HY.out.2 (by omega) (by omega)).mono ?_
          rintro e v4 ⟨rfl, hb⟩
          have HZ := hide hb
          clear hb
          have HS' := hide (HS.out.later HZ.out)
          clear HS q0 q1 q2 q3 q4
          have HS := HS'
          clear HS'
          have q0 := HS.out.c0
          have q1 := HS.out.c1
          have q2 := HS.out.c2
          have q3 := HS.out.c3
          have q4 := HS.out.c4
          clear HZ
          go_wp2_with fail
          refine Calls.mono (SF.out v4).1 ?_
          rintro e v5 ⟨r7, rfl, hr, hb⟩
          have HP := hide (And.intro hr hb)
          clear hr hb
          have HS1 := hide (HS.out.later HP.out.2)
          clear q0 q1 q2 q3 q4
          have q0 := HS1.out.c0
          have q1 := HS1.out.c1
          have q2 := HS1.out.c2
          have q3 := HS1.out.c3
          have q4 := HS1.out.c4
          go_wp2_with fail
          refine Calls.mono (SF.out v5).2 ?_
          rintro e v6 ⟨p7, rfl, hr, hb⟩
          have HQ := hide (And.intro (And.intro (HP.out.1.below hb) hr) (And.intro (HP.out.2.trans (hb.mono HP.out.2.size)) (Nat.le_trans HP.out.2.size hb.size)))
          have HS2 := hide (HS1.out.later hb)
          clear q0 q1 q2 q3 q4 HS1
          have q0 := HS2.out.c0
          have q1 := HS2.out.c1
          have q2 := HS2.out.c2
          have q3 := HS2.out.c3
          have q4 := HS2.out.c4
          clear hr hb HP
          go_wp2_with fail
          refine (same_true r7 p7 _ _ v4.heap.size _ v6 HQ.out.1.1 HQ.out.1.2 HQ.out.2.2 (by omega)).mono ?_
          rintro e v7 ⟨rfl, hb⟩
          have HZ := hide (HQ.out.2.1.trans hb)
          clear hb HQ HS2
          have HS' := hide (HS.out.later HZ.out)
          clear HS q0 q1 q2 q3 q4
          have HS := HS'
          clear HS'
          have q0 := HS.out.c0
          have q1 := HS.out.c1
          have q2 := HS.out.c2
          have q3 := HS.out.c3
          have q4 := HS.out.c4
          clear HZ
          go_wp2_with fail
          go_roundw
          case rel => exact ⟨i + 1, by omega, by go_num, HS.out.below⟩
          case measure => simp [intOf]; omega
        · have hdp : decide ((k : Int) + (m : Int) ≤ 120) = false := decide_eq_false (by omega)
          clear hkm
          by_cases hc0 : c = 0
          · subst hc0
            go_wp2_with fail
            refine (told_true _ k A _ HS.out.rx HX.out.2 (by omega)).mono ?_
            rintro e v1 ⟨rfl, hb⟩
            have HZ := hide hb
            clear hb
            have HS' := hide (HS.out.later HZ.out)
            clear HS k0 k1 k2 k3 k4
            have HS := HS'
            clear HS'
            have q0 := HS.out.c0
            have q1 := HS.out.c1
            have q2 := HS.out.c2
            have q3 := HS.out.c3
            have q4 := HS.out.c4
            clear HZ
            go_wp2_with fail
            refine (sums_true _ _ k A m C v1 HS.out.rx HS.out.ry HX.out.2 HY.out.2 (by omega) (by omega)).mono ?_
            rintro e v2 ⟨rfl, hb⟩
            have HZ := hide hb
            clear hb
            have HS' := hide (HS.out.later HZ.out)
            clear HS q0 q1 q2 q3 q4
            have HS := HS'
            clear HS'
            have q0 := HS.out.c0
            have q1 := HS.out.c1
            have q2 := HS.out.c2
            have q3 := HS.out.c3
            have q4 := HS.out.c4
            clear HZ
            go_wp2_with fail
            refine (shifts_true _ k A N v2 HS.out.rx HX.out.2 (by omega) HS.out.tab (by omega)).mono ?_
            rintro e v3 ⟨rfl, hb⟩
            have HZ := hide hb
            clear hb
            have HS' := hide (HS.out.later HZ.out)
            clear HS q0 q1 q2 q3 q4
            have HS := HS'
            clear HS'
            have q0 := HS.out.c0
            have q1 := HS.out.c1
            have q2 := HS.out.c2
            have q3 := HS.out.c3
            have q4 := HS.out.c4
            clear HZ
            have HK := hide (rboth_any _ _ k A m C v3 HS.out.rx HS.out.ry)
            rw [HCK.out] at HK
            go_wp2_with fail
            refine HK.out.mono ?_
            rintro e v4 ⟨rfl, hw⟩
            have hw1 := hw.symm
            subst hw1
            clear HK
            go_wp2_with fail
            refine Calls.mono (SF.out v3).1 ?_
            rintro e v5 ⟨r7, rfl, hr, hb⟩
            have HP := hide (And.intro hr hb)
            clear hr hb
            have HS1 := hide (HS.out.later HP.out.2)
            clear q0 q1 q2 q3 q4
            have q0 := HS1.out.c0
            have q1 := HS1.out.c1
            have q2 := HS1.out.c2
            have q3 := HS1.out.c3
            have q4 := HS1.out.c4
            go_wp2_with fail
            refine Calls.mono (SF.out v5).2 ?_
            rintro e v6 ⟨p7, rfl, hr, hb⟩
            have HQ := hide (And.intro (And.intro (HP.out.1.below hb) hr) (And.intro (HP.out.2.trans (hb.mono HP.out.2.size)) (Nat.le_trans HP.out.2.size hb.size)))
            have HS2 := hide (HS1.out.later hb)
            clear q0 q1 q2 q3 q4 HS1
            have q0 := HS2.out.c0
            have q1 := HS2.out.c1
            have q2 := HS2.out.c2
            have q3 := HS2.out.c3
            have q4 := HS2.out.c4
            clear hr hb HP
            go_wp2_with fail
            refine (same_true r7 p7 _ _ v3.heap.size _ v6 HQ.out.1.1 HQ.out.1.2 HQ.out.2.2 (by omega)).mono ?_
            rintro e v7 ⟨rfl, hb⟩
            have HZ := hide (HQ.out.2.1.trans hb)
            clear hb HQ HS2
            have HS' := hide (HS.out.later HZ.out)
            clear HS q0 q1 q2 q3 q4
            have HS := HS'
            clear HS'
            have q0 := HS.out.c0
            have q1 := HS.out.c1
            have q2 := HS.out.c2
            have q3 := HS.out.c3
            have q4 := HS.out.c4
            clear HZ
            go_wp2_with fail
            go_roundw
            case rel => exact ⟨i + 1, by omega, by go_num, HS.out.below⟩
            case measure => simp [intOf]; omega
          · have h0 : (c == 0) = false := by rw [beq_eq_false_iff_ne]; exact hc0
            have h1 : (c != 0) = true := by rw [bne_iff_ne]; exact hc0
            go_wp2_with fail
            refine (told_true _ k A _ HS.out.rx HX.out.2 (by omega)).mono ?_
            rintro e v1 ⟨rfl, hb⟩
            have HZ := hide hb
            clear hb
            have HS' := hide (HS.out.later HZ.out)
            clear HS k0 k1 k2 k3 k4
            have HS := HS'
            clear HS'
            have q0 := HS.out.c0
            have q1 := HS.out.c1
            have q2 := HS.out.c2
            have q3 := HS.out.c3
            have q4 := HS.out.c4
            clear HZ
            go_wp2_with fail
            refine (sums_true _ _ k A m C v1 HS.out.rx HS.out.ry HX.out.2 HY.out.2 (by omega) (by omega)).mono ?_
            rintro e v2 ⟨rfl, hb⟩
            have HZ := hide hb
            clear hb
            have HS' := hide (HS.out.later HZ.out)
            clear HS q0 q1 q2 q3 q4
            have HS := HS'
            clear HS'
            have q0 := HS.out.c0
            have q1 := HS.out.c1
            have q2 := HS.out.c2
            have q3 := HS.out.c3
            have q4 := HS.out.c4
            clear HZ
            go_wp2_with fail
            refine (shifts_true _ k A N v2 HS.out.rx HX.out.2 (by omega) HS.out.tab (by omega)).mono ?_
            rintro e v3 ⟨rfl, hb⟩
            have HZ := hide hb
            clear hb
            have HS' := hide (HS.out.later HZ.out)
            clear HS q0 q1 q2 q3 q4
            have HS := HS'
            clear HS'
            have q0 := HS.out.c0
            have q1 := HS.out.c1
            have q2 := HS.out.c2
            have q3 := HS.out.c3
            have q4 := HS.out.c4
            clear HZ
            have HK := hide (rboth_any _ _ k A m C v3 HS.out.rx HS.out.ry)
            rw [HCK.out] at HK
            go_wp2_with fail
            refine HK.out.mono ?_
            rintro e v4 ⟨rfl, hw⟩
            have hw1 := hw.symm
            subst hw1
            clear HK
            go_wp2_with fail
            refine (parts_true _ _ k A m C v3 HS.out.rx HS.out.ry HX.out.2 HY.out.2 (by omega) (by omega)).mono ?_
            rintro e v5 ⟨rfl, hb⟩
            have HZ := hide hb
            clear hb
            have HS' := hide (HS.out.later HZ.out)
            clear HS q0 q1 q2 q3 q4
            have HS := HS'
            clear HS'
            have q0 := HS.out.c0
            have q1 := HS.out.c1
            have q2 := HS.out.c2
            have q3 := HS.out.c3
            have q4 := HS.out.c4
            clear HZ
            go_wp2_with fail
            refine Calls.mono (SF.out v5).1 ?_
            rintro e v6 ⟨r8, rfl, hr, hb⟩
            have HP := hide (And.intro hr hb)
            clear hr hb
            have HS1 := hide (HS.out.later HP.out.2)
            clear q0 q1 q2 q3 q4
            have q0 := HS1.out.c0
            have q1 := HS1.out.c1
            have q2 := HS1.out.c2
            have q3 := HS1.out.c3
            have q4 := HS1.out.c4
            go_wp2_with fail
            refine Calls.mono (SF.out v6).2 ?_
            rintro e v7 ⟨p8, rfl, hr, hb⟩
            have HQ := hide (And.intro (And.intro (HP.out.1.below hb) hr) (And.intro (HP.out.2.trans (hb.mono HP.out.2.size)) (Nat.le_trans HP.out.2.size hb.size)))
            have HS2 := hide (HS1.out.later hb)
            clear q0 q1 q2 q3 q4 HS1
            have q0 := HS2.out.c0
            have q1 := HS2.out.c1
            have q2 := HS2.out.c2
            have q3 := HS2.out.c3
            have q4 := HS2.out.c4
            clear hr hb HP
            go_wp2_with fail
            refine (same_true r8 p8 _ _ v5.heap.size _ v7 HQ.out.1.1 HQ.out.1.2 HQ.out.2.2 (by omega)).mono ?_
            rintro e v8 ⟨rfl, hb⟩
            have HZ := hide (HQ.out.2.1.trans hb)
            clear hb HQ HS2
            have HS' := hide (HS.out.later HZ.out)
            clear HS q0 q1 q2 q3 q4
            have HS := HS'
            clear HS'
            have q0 := HS.out.c0
            have q1 := HS.out.c1
            have q2 := HS.out.c2
            have q3 := HS.out.c3
            have q4 := HS.out.c4
            clear HZ
            go_wp2_with fail
            go_roundw
            case rel => exact ⟨i + 1, by omega, by go_num, HS.out.below⟩
            case measure => simp [intOf]; omega
      · have hN3 : N < 9223372036854775808 := by omega
        have hd0 : decide ((40000 : Int) < N) = true := decide_eq_true (by omega)
        have hd1 : decide (N ≤ 262144) = true := decide_eq_true (by omega)
        have hd2 : decide (N ≤ 500) = false := decide_eq_false (by omega)
        have hd3 : decide ((327680 : Int) ≤ N) = false := decide_eq_false (by omega)
        clear hcs
        by_cases hkm : k + m ≤ 120
        · have hdp : decide ((k : Int) + (m : Int) ≤ 120) = true := decide_eq_true (by omega)
          clear hkm
          go_wp2_with fail
          refine (told_true _ k A _ HS.out.rx HX.out.2 (by omega)).mono ?_
          rintro e v1 ⟨rfl, hb⟩
          have HZ := hide hb
          clear hb
          have HS' := hide (HS.out.later HZ.out)
          clear HS k0 k1 k2 k3 k4
          have HS := HS'
          clear HS'
          have q0 := HS.out.c0
          have q1 := HS.out.c1
          have q2 := HS.out.c2
          have q3 := HS.out.c3
          have q4 := HS.out.c4
          clear HZ
          go_wp2_with fail
          refine (sums_true _ _ k A m C v1 HS.out.rx HS.out.ry HX.out.2 HY.out.2 (by omega) (by omega)).mono ?_
          rintro e v2 ⟨rfl, hb⟩
          have HZ := hide hb
          clear hb
          have HS' := hide (HS.out.later HZ.out)
          clear HS q0 q1 q2 q3 q4
          have HS := HS'
          clear HS'
          have q0 := HS.out.c0
          have q1 := HS.out.c1
          have q2 := HS.out.c2
          have q3 := HS.out.c3
          have q4 := HS.out.c4
          clear HZ
          go_wp2_with fail
          refine (shifts_true _ k A 40000 v2 HS.out.rx HX.out.2 (by omega) HS.out.tab (by omega)).mono ?_
          rintro e v3 ⟨rfl, hb⟩
          have HZ := hide hb
          clear hb
          have HS' := hide (HS.out.later HZ.out)
          clear HS q0 q1 q2 q3 q4
          have HS := HS'
          clear HS'
          have q0 := HS.out.c0
          have q1 := HS.out.c1
          have q2 := HS.out.c2
          have q3 := HS.out.c3
          have q4 := HS.out.c4
          clear HZ
          go_wp2_with fail
          refine (parts_true _ _ k A m C v3 HS.out.rx HS.out.ry HX.out.2 HY.out.2 (by omega) (by omega)).mono ?_
          rintro e v4 ⟨rfl, hb⟩
          have HZ := hide hb
          clear hb
          have HS' := hide (HS.out.later HZ.out)
          clear HS q0 q1 q2 q3 q4
          have HS := HS'
          clear HS'
          have q0 := HS.out.c0
          have q1 := HS.out.c1
          have q2 := HS.out.c2
          have q3 := HS.out.c3
          have q4 := HS.out.c4
          clear HZ
          go_wp2_with fail
          refine Calls.mono (SF.out v4).1 ?_
          rintro e v5 ⟨r7, rfl, hr, hb⟩
          have HP := hide (And.intro hr hb)
          clear hr hb
          have HS1 := hide (HS.out.later HP.out.2)
          clear q0 q1 q2 q3 q4
          have q0 := HS1.out.c0
          have q1 := HS1.out.c1
          have q2 := HS1.out.c2
          have q3 := HS1.out.c3
          have q4 := HS1.out.c4
          go_wp2_with fail
          refine Calls.mono (SF.out v5).2 ?_
          rintro e v6 ⟨p7, rfl, hr, hb⟩
          have HQ := hide (And.intro (And.intro (HP.out.1.below hb) hr) (And.intro (HP.out.2.trans (hb.mono HP.out.2.size)) (Nat.le_trans HP.out.2.size hb.size)))
          have HS2 := hide (HS1.out.later hb)
          clear q0 q1 q2 q3 q4 HS1
          have q0 := HS2.out.c0
          have q1 := HS2.out.c1
          have q2 := HS2.out.c2
          have q3 := HS2.out.c3
          have q4 := HS2.out.c4
          clear hr hb HP
          go_wp2_with fail
          refine (same_true r7 p7 _ _ v4.heap.size _ v6 HQ.out.1.1 HQ.out.1.2 HQ.out.2.2 (by omega)).mono ?_
          rintro e v7 ⟨rfl, hb⟩
          have HZ := hide (HQ.out.2.1.trans hb)
          clear hb HQ HS2
          have HS' := hide (HS.out.later HZ.out)
          clear HS q0 q1 q2 q3 q4
          have HS := HS'
          clear HS'
          have q0 := HS.out.c0
          have q1 := HS.out.c1
          have q2 := HS.out.c2
          have q3 := HS.out.c3
          have q4 := HS.out.c4
          clear HZ
          go_wp2_with fail
          go_roundw
          case rel => exact ⟨i + 1, by omega, by go_num, HS.out.below⟩
          case measure => simp [intOf]; omega
        · have hdp : decide ((k : Int) + (m : Int) ≤ 120) = false := decide_eq_false (by omega)
          clear hkm
          by_cases hc0 : c = 0
          · subst hc0
            go_wp2_with fail
            refine (told_true _ k A _ HS.out.rx HX.out.2 (by omega)).mono ?_
            rintro e v1 ⟨rfl, hb⟩
            have HZ := hide hb
            clear hb
            have HS' := hide (HS.out.later HZ.out)
            clear HS k0 k1 k2 k3 k4
            have HS := HS'
            clear HS'
            have q0 := HS.out.c0
            have q1 := HS.out.c1
            have q2 := HS.out.c2
            have q3 := HS.out.c3
            have q4 := HS.out.c4
            clear HZ
            go_wp2_with fail
            refine (sums_true _ _ k A m C v1 HS.out.rx HS.out.ry HX.out.2 HY.out.2 (by omega) (by omega)).mono ?_
            rintro e v2 ⟨rfl, hb⟩
            have HZ := hide hb
            clear hb
            have HS' := hide (HS.out.later HZ.out)
            clear HS q0 q1 q2 q3 q4
            have HS := HS'
            clear HS'
            have q0 := HS.out.c0
            have q1 := HS.out.c1
            have q2 := HS.out.c2
            have q3 := HS.out.c3
            have q4 := HS.out.c4
            clear HZ
            go_wp2_with fail
            refine (shifts_true _ k A 40000 v2 HS.out.rx HX.out.2 (by omega) HS.out.tab (by omega)).mono ?_
            rintro e v3 ⟨rfl, hb⟩
            have HZ := hide hb
            clear hb
            have HS' := hide (HS.out.later HZ.out)
            clear HS q0 q1 q2 q3 q4
            have HS := HS'
            clear HS'
            have q0 := HS.out.c0
            have q1 := HS.out.c1
            have q2 := HS.out.c2
            have q3 := HS.out.c3
            have q4 := HS.out.c4
            clear HZ
            have HK := hide (rboth_any _ _ k A m C v3 HS.out.rx HS.out.ry)
            rw [HCK.out] at HK
            go_wp2_with fail
            refine HK.out.mono ?_
            rintro e v4 ⟨rfl, hw⟩
            have hw1 := hw.symm
            subst hw1
            clear HK
            go_wp2_with fail
            refine Calls.mono (SF.out v3).1 ?_
            rintro e v5 ⟨r7, rfl, hr, hb⟩
            have HP := hide (And.intro hr hb)
            clear hr hb
            have HS1 := hide (HS.out.later HP.out.2)
            clear q0 q1 q2 q3 q4
            have q0 := HS1.out.c0
            have q1 := HS1.out.c1
            have q2 := HS1.out.c2
            have q3 := HS1.out.c3
            have q4 := HS1.out.c4
            go_wp2_with fail
            refine Calls.mono (SF.out v5).2 ?_
            rintro e v6 ⟨p7, rfl, hr, hb⟩
            have HQ := hide (And.intro (And.intro (HP.out.1.below hb) hr) (And.intro (HP.out.2.trans (hb.mono HP.out.2.size)) (Nat.le_trans HP.out.2.size hb.size)))
            have HS2 := hide (HS1.out.later hb)
            clear q0 q1 q2 q3 q4 HS1
            have q0 := HS2.out.c0
            have q1 := HS2.out.c1
            have q2 := HS2.out.c2
            have q3 := HS2.out.c3
            have q4 := HS2.out.c4
            clear hr hb HP
            go_wp2_with fail
            refine (same_true r7 p7 _ _ v3.heap.size _ v6 HQ.out.1.1 HQ.out.1.2 HQ.out.2.2 (by omega)).mono ?_
            rintro e v7 ⟨rfl, hb⟩
            have HZ := hide (HQ.out.2.1.trans hb)
            clear hb HQ HS2
            have HS' := hide (HS.out.later HZ.out)
            clear HS q0 q1 q2 q3 q4
            have HS := HS'
            clear HS'
            have q0 := HS.out.c0
            have q1 := HS.out.c1
            have q2 := HS.out.c2
            have q3 := HS.out.c3
            have q4 := HS.out.c4
            clear HZ
            go_wp2_with fail
            go_roundw
            case rel => exact ⟨i + 1, by omega, by go_num, HS.out.below⟩
            case measure => simp [intOf]; omega
          · have h0 : (c == 0) = false := by rw [beq_eq_false_iff_ne]; exact hc0
            have h1 : (c != 0) = true := by rw [bne_iff_ne]; exact hc0
            go_wp2_with fail
            refine (told_true _ k A _ HS.out.rx HX.out.2 (by omega)).mono ?_
            rintro e v1 ⟨rfl, hb⟩
            have HZ := hide hb
            clear hb
            have HS' := hide (HS.out.later HZ.out)
            clear HS k0 k1 k2 k3 k4
            have HS := HS'
            clear HS'
            have q0 := HS.out.c0
            have q1 := HS.out.c1
            have q2 := HS.out.c2
            have q3 := HS.out.c3
            have q4 := HS.out.c4
            clear HZ
            go_wp2_with fail
            refine (sums_true _ _ k A m C v1 HS.out.rx HS.out.ry HX.out.2 HY.out.2 (by omega) (by omega)).mono ?_
            rintro e v2 ⟨rfl, hb⟩
            have HZ := hide hb
            clear hb
            have HS' := hide (HS.out.later HZ.out)
            clear HS q0 q1 q2 q3 q4
            have HS := HS'
            clear HS'
            have q0 := HS.out.c0
            have q1 := HS.out.c1
            have q2 := HS.out.c2
            have q3 := HS.out.c3
            have q4 := HS.out.c4
            clear HZ
            go_wp2_with fail
            refine (shifts_true _ k A 40000 v2 HS.out.rx HX.out.2 (by omega) HS.out.tab (by omega)).mono ?_
            rintro e v3 ⟨rfl, hb⟩
            have HZ := hide hb
            clear hb
            have HS' := hide (HS.out.later HZ.out)
            clear HS q0 q1 q2 q3 q4
            have HS := HS'
            clear HS'
            have q0 := HS.out.c0
            have q1 := HS.out.c1
            have q2 := HS.out.c2
            have q3 := HS.out.c3
            have q4 := HS.out.c4
            clear HZ
            have HK := hide (rboth_any _ _ k A m C v3 HS.out.rx HS.out.ry)
            rw [HCK.out] at HK
            go_wp2_with fail
            refine HK.out.mono ?_
            rintro e v4 ⟨rfl, hw⟩
            have hw1 := hw.symm
            subst hw1
            clear HK
            go_wp2_with fail
            refine (parts_true _ _ k A m C v3 HS.out.rx HS.out.ry HX.out.2 HY.out.2 (by omega) (by omega)).mono ?_
            rintro e v5 ⟨rfl, hb⟩
            have HZ := hide hb
            clear hb
            have HS' := hide (HS.out.later HZ.out)
            clear HS q0 q1 q2 q3 q4
            have HS := HS'
            clear HS'
            have q0 := HS.out.c0
            have q1 := HS.out.c1
            have q2 := HS.out.c2
            have q3 := HS.out.c3
            have q4 := HS.out.c4
            clear HZ
            go_wp2_with fail
            refine Calls.mono (SF.out v5).1 ?_
            rintro e v6 ⟨r8, rfl, hr, hb⟩
            have HP := hide (And.intro hr hb)
            clear hr hb
            have HS1 := hide (HS.out.later HP.out.2)
            clear q0 q1 q2 q3 q4
            have q0 := HS1.out.c0
            have q1 := HS1.out.c1
            have q2 := HS1.out.c2
            have q3 := HS1.out.c3
            have q4 := HS1.out.c4
            go_wp2_with fail
            refine Calls.mono (SF.out v6).2 ?_
            rintro e v7 ⟨p8, rfl, hr, hb⟩
            have HQ := hide (And.intro (And.intro (HP.out.1.below hb) hr) (And.intro (HP.out.2.trans (hb.mono HP.out.2.size)) (Nat.le_trans HP.out.2.size hb.size)))
            have HS2 := hide (HS1.out.later hb)
            clear q0 q1 q2 q3 q4 HS1
            have q0 := HS2.out.c0
            have q1 := HS2.out.c1
            have q2 := HS2.out.c2
            have q3 := HS2.out.c3
            have q4 := HS2.out.c4
            clear hr hb HP
            go_wp2_with fail
            refine (same_true r8 p8 _ _ v5.heap.size _ v7 HQ.out.1.1 HQ.out.1.2 HQ.out.2.2 (by omega)).mono ?_
            rintro e v8 ⟨rfl, hb⟩
            have HZ := hide (HQ.out.2.1.trans hb)
            clear hb HQ HS2
            have HS' := hide (HS.out.later HZ.out)
            clear HS q0 q1 q2 q3 q4
            have HS := HS'
            clear HS'
            have q0 := HS.out.c0
            have q1 := HS.out.c1
            have q2 := HS.out.c2
            have q3 := HS.out.c3
            have q4 := HS.out.c4
            clear HZ
            go_wp2_with fail
            go_roundw
            case rel => exact ⟨i + 1, by omega, by go_num, HS.out.below⟩
            case measure => simp [intOf]; omega
      · have hN3 : N < 9223372036854775808 := by omega
        have hd0 : decide ((40000 : Int) < N) = true := decide_eq_true (by omega)
        have hd1 : decide (N ≤ 262144) = false := decide_eq_false (by omega)
        have hd2 : decide (N ≤ 500) = false := decide_eq_false (by omega)
        have hd3 : decide ((327680 : Int) ≤ N) = false := decide_eq_false (by omega)
        clear hcs
        by_cases hkm : k + m ≤ 120
        · have hdp : decide ((k : Int) + (m : Int) ≤ 120) = true := decide_eq_true (by omega)
          clear hkm
          go_wp2_with fail
          refine (told_true _ k A _ HS.out.rx HX.out.2 (by omega)).mono ?_
          rintro e v1 ⟨rfl, hb⟩
          have HZ := hide hb
          clear hb
          have HS' := hide (HS.out.later HZ.out)
          clear HS k0 k1 k2 k3 k4
          have HS := HS'
          clear HS'
          have q0 := HS.out.c0
          have q1 := HS.out.c1
          have q2 := HS.out.c2
          have q3 := HS.out.c3
          have q4 := HS.out.c4
          clear HZ
          go_wp2_with fail
          refine (sums_true _ _ k A m C v1 HS.out.rx HS.out.ry HX.out.2 HY.out.2 (by omega) (by omega)).mono ?_
          rintro e v2 ⟨rfl, hb⟩
          have HZ := hide hb
          clear hb
          have HS' := hide (HS.out.later HZ.out)
          clear HS q0 q1 q2 q3 q4
          have HS := HS'
          clear HS'
          have q0 := HS.out.c0
          have q1 := HS.out.c1
          have q2 := HS.out.c2
          have q3 := HS.out.c3
          have q4 := HS.out.c4
          clear HZ
          go_wp2_with fail
          refine (shifts_true _ k A N v2 HS.out.rx HX.out.2 (by omega) HS.out.tab (by omega)).mono ?_
          rintro e v3 ⟨rfl, hb⟩
          have HZ := hide hb
          clear hb
          have HS' := hide (HS.out.later HZ.out)
          clear HS q0 q1 q2 q3 q4
          have HS := HS'
          clear HS'
          have q0 := HS.out.c0
          have q1 := HS.out.c1
          have q2 := HS.out.c2
          have q3 := HS.out.c3
          have q4 := HS.out.c4
          clear HZ
          go_wp2_with fail
          refine (parts_true _ _ k A m C v3 HS.out.rx HS.out.ry HX.out.2 HY.out.2 (by omega) (by omega)).mono ?_
          rintro e v4 ⟨rfl, hb⟩
          have HZ := hide hb
          clear hb
          have HS' := hide (HS.out.later HZ.out)
          clear HS q0 q1 q2 q3 q4
          have HS := HS'
          clear HS'
          have q0 := HS.out.c0
          have q1 := HS.out.c1
          have q2 := HS.out.c2
          have q3 := HS.out.c3
          have q4 := HS.out.c4
          clear HZ
          go_wp2_with fail
          refine Calls.mono (SF.out v4).1 ?_
          rintro e v5 ⟨r7, rfl, hr, hb⟩
          have HP := hide (And.intro hr hb)
          clear hr hb
          have HS1 := hide (HS.out.later HP.out.2)
          clear q0 q1 q2 q3 q4
          have q0 := HS1.out.c0
          have q1 := HS1.out.c1
          have q2 := HS1.out.c2
          have q3 := HS1.out.c3
          have q4 := HS1.out.c4
          go_wp2_with fail
          refine Calls.mono (SF.out v5).2 ?_
          rintro e v6 ⟨p7, rfl, hr, hb⟩
          have HQ := hide (And.intro (And.intro (HP.out.1.below hb) hr) (And.intro (HP.out.2.trans (hb.mono HP.out.2.size)) (Nat.le_trans HP.out.2.size hb.size)))
          have HS2 := hide (HS1.out.later hb)
          clear q0 q1 q2 q3 q4 HS1
          have q0 := HS2.out.c0
          have q1 := HS2.out.c1
          have q2 := HS2.out.c2
          have q3 := HS2.out.c3
          have q4 := HS2.out.c4
          clear hr hb HP
          go_wp2_with fail
          refine (same_true r7 p7 _ _ v4.heap.size _ v6 HQ.out.1.1 HQ.out.1.2 HQ.out.2.2 (by omega)).mono ?_
          rintro e v7 ⟨rfl, hb⟩
          have HZ := hide (HQ.out.2.1.trans hb)
          clear hb HQ HS2
          have HS' := hide (HS.out.later HZ.out)
          clear HS q0 q1 q2 q3 q4
          have HS := HS'
          clear HS'
          have q0 := HS.out.c0
          have q1 := HS.out.c1
          have q2 := HS.out.c2
          have q3 := HS.out.c3
          have q4 := HS.out.c4
          clear HZ
          go_wp2_with fail
          go_roundw
          case rel => exact ⟨i + 1, by omega, by go_num, HS.out.below⟩
          case measure => simp [intOf]; omega
        · have hdp : decide ((k : Int) + (m : Int) ≤ 120) = false := decide_eq_false (by omega)
          clear hkm
          by_cases hc0 : c = 0
          · subst hc0
            go_wp2_with fail
            refine (told_true _ k A _ HS.out.rx HX.out.2 (by omega)).mono ?_
            rintro e v1 ⟨rfl, hb⟩
            have HZ := hide hb
            clear hb
            have HS' := hide (HS.out.later HZ.out)
            clear HS k0 k1 k2 k3 k4
            have HS := HS'
            clear HS'
            have q0 := HS.out.c0
            have q1 := HS.out.c1
            have q2 := HS.out.c2
            have q3 := HS.out.c3
            have q4 := HS.out.c4
            clear HZ
            go_wp2_with fail
            refine (sums_true _ _ k A m C v1 HS.out.rx HS.out.ry HX.out.2 HY.out.2 (by omega) (by omega)).mono ?_
            rintro e v2 ⟨rfl, hb⟩
            have HZ := hide hb
            clear hb
            have HS' := hide (HS.out.later HZ.out)
            clear HS q0 q1 q2 q3 q4
            have HS := HS'
            clear HS'
            have q0 := HS.out.c0
            have q1 := HS.out.c1
            have q2 := HS.out.c2
            have q3 := HS.out.c3
            have q4 := HS.out.c4
            clear HZ
            go_wp2_with fail
            refine (shifts_true _ k A N v2 HS.out.rx HX.out.2 (by omega) HS.out.tab (by omega)).mono ?_
            rintro e v3 ⟨rfl, hb⟩
            have HZ := hide hb
            clear hb
            have HS' := hide (HS.out.later HZ.out)
            clear HS q0 q1 q2 q3 q4
            have HS := HS'
            clear HS'
            have q0 := HS.out.c0
            have q1 := HS.out.c1
            have q2 := HS.out.c2
            have q3 := HS.out.c3
            have q4 := HS.out.c4
            clear HZ
            have HK := hide (rboth_any _ _ k A m C v3 HS.out.rx HS.out.ry)
            rw [HCK.out] at HK
            go_wp2_with fail
            refine HK.out.mono ?_
            rintro e v4 ⟨rfl, hw⟩
            have hw1 := hw.symm
            subst hw1
            clear HK
            go_wp2_with fail
            refine Calls.mono (SF.out v3).1 ?_
            rintro e v5 ⟨r7, rfl, hr, hb⟩
            have HP := hide (And.intro hr hb)
            clear hr hb
            have HS1 := hide (HS.out.later HP.out.2)
            clear q0 q1 q2 q3 q4
            have q0 := HS1.out.c0
            have q1 := HS1.out.c1
            have q2 := HS1.out.c2
            have q3 := HS1.out.c3
            have q4 := HS1.out.c4
            go_wp2_with fail
            refine Calls.mono (SF.out v5).2 ?_
            rintro e v6 ⟨p7, rfl, hr, hb⟩
            have HQ := hide (And.intro (And.intro (HP.out.1.below hb) hr) (And.intro (HP.out.2.trans (hb.mono HP.out.2.size)) (Nat.le_trans HP.out.2.size hb.size)))
            have HS2 := hide (HS1.out.later hb)
            clear q0 q1 q2 q3 q4 HS1
            have q0 := HS2.out.c0
            have q1 := HS2.out.c1
            have q2 := HS2.out.c2
            have q3 := HS2.out.c3
            have q4 := HS2.out.c4
            clear hr hb HP
            go_wp2_with fail
            refine (same_true r7 p7 _ _ v3.heap.size _ v6 HQ.out.1.1 HQ.out.1.2 HQ.out.2.2 (by omega)).mono ?_
            rintro e v7 ⟨rfl, hb⟩
            have HZ := hide (HQ.out.2.1.trans hb)
            clear hb HQ HS2
            have HS' := hide (HS.out.later HZ.out)
            clear HS q0 q1 q2 q3 q4
            have HS := HS'
            clear HS'
            have q0 := HS.out.c0
            have q1 := HS.out.c1
            have q2 := HS.out.c2
            have q3 := HS.out.c3
            have q4 := HS.out.c4
            clear HZ
            go_wp2_with fail
            go_roundw
            case rel => exact ⟨i + 1, by omega, by go_num, HS.out.below⟩
            case measure => simp [intOf]; omega
          · have h0 : (c == 0) = false := by rw [beq_eq_false_iff_ne]; exact hc0
            have h1 : (c != 0) = true := by rw [bne_iff_ne]; exact hc0
            go_wp2_with fail
            refine (told_true _ k A _ HS.out.rx HX.out.2 (by omega)).mono ?_
            rintro e v1 ⟨rfl, hb⟩
            have HZ := hide hb
            clear hb
            have HS' := hide (HS.out.later HZ.out)
            clear HS k0 k1 k2 k3 k4
            have HS := HS'
            clear HS'
            have q0 := HS.out.c0
            have q1 := HS.out.c1
            have q2 := HS.out.c2
            have q3 := HS.out.c3
            have q4 := HS.out.c4
            clear HZ
            go_wp2_with fail
            refine (sums_true _ _ k A m C v1 HS.out.rx HS.out.ry HX.out.2 HY.out.2 (by omega) (by omega)).mono ?_
            rintro e v2 ⟨rfl, hb⟩
            have HZ := hide hb
            clear hb
            have HS' := hide (HS.out.later HZ.out)
            clear HS q0 q1 q2 q3 q4
            have HS := HS'
            clear HS'
            have q0 := HS.out.c0
            have q1 := HS.out.c1
            have q2 := HS.out.c2
            have q3 := HS.out.c3
            have q4 := HS.out.c4
            clear HZ
            go_wp2_with fail
            refine (shifts_true _ k A N v2 HS.out.rx HX.out.2 (by omega) HS.out.tab (by omega)).mono ?_
            rintro e v3 ⟨rfl, hb⟩
            have HZ := hide hb
            clear hb
            have HS' := hide (HS.out.later HZ.out)
            clear HS q0 q1 q2 q3 q4
            have HS := HS'
            clear HS'
            have q0 := HS.out.c0
            have q1 := HS.out.c1
            have q2 := HS.out.c2
            have q3 := HS.out.c3
            have q4 := HS.out.c4
            clear HZ
            have HK := hide (rboth_any _ _ k A m C v3 HS.out.rx HS.out.ry)
            rw [HCK.out] at HK
            go_wp2_with fail
            refine HK.out.mono ?_
            rintro e v4 ⟨rfl, hw⟩
            have hw1 := hw.symm
            subst hw1
            clear HK
            go_wp2_with fail
            refine (parts_true _ _ k A m C v3 HS.out.rx HS.out.ry HX.out.2 HY.out.2 (by omega) (by omega)).mono ?_
            rintro e v5 ⟨rfl, hb⟩
            have HZ := hide hb
            clear hb
            have HS' := hide (HS.out.later HZ.out)
            clear HS q0 q1 q2 q3 q4
            have HS := HS'
            clear HS'
            have q0 := HS.out.c0
            have q1 := HS.out.c1
            have q2 := HS.out.c2
            have q3 := HS.out.c3
            have q4 := HS.out.c4
            clear HZ
            go_wp2_with fail
            refine Calls.mono (SF.out v5).1 ?_
            rintro e v6 ⟨r8, rfl, hr, hb⟩
            have HP := hide (And.intro hr hb)
            clear hr hb
            have HS1 := hide (HS.out.later HP.out.2)
            clear q0 q1 q2 q3 q4
            have q0 := HS1.out.c0
            have q1 := HS1.out.c1
            have q2 := HS1.out.c2
            have q3 := HS1.out.c3
            have q4 := HS1.out.c4
            go_wp2_with fail
            refine Calls.mono (SF.out v6).2 ?_
            rintro e v7 ⟨p8, rfl, hr, hb⟩
            have HQ := hide (And.intro (And.intro (HP.out.1.below hb) hr) (And.intro (HP.out.2.trans (hb.mono HP.out.2.size)) (Nat.le_trans HP.out.2.size hb.size)))
            have HS2 := hide (HS1.out.later hb)
            clear q0 q1 q2 q3 q4 HS1
            have q0 := HS2.out.c0
            have q1 := HS2.out.c1
            have q2 := HS2.out.c2
            have q3 := HS2.out.c3
            have q4 := HS2.out.c4
            clear hr hb HP
            go_wp2_with fail
            refine (same_true r8 p8 _ _ v5.heap.size _ v7 HQ.out.1.1 HQ.out.1.2 HQ.out.2.2 (by omega)).mono ?_
            rintro e v8 ⟨rfl, hb⟩
            have HZ := hide (HQ.out.2.1.trans hb)
            clear hb HQ HS2
            have HS' := hide (HS.out.later HZ.out)
            clear HS q0 q1 q2 q3 q4
            have HS := HS'
            clear HS'
            have q0 := HS.out.c0
            have q1 := HS.out.c1
            have q2 := HS.out.c2
            have q3 := HS.out.c3
            have q4 := HS.out.c4
            clear HZ
            go_wp2_with fail
            go_roundw
            case rel => exact ⟨i + 1, by omega, by go_num, HS.out.below⟩
            case measure => simp [intOf]; omega
      · have HLN : Hid (327680 ≤ N ∧ N ≤ 9223372036854775807 ∧ 65536 ≤ b) := ⟨hcs.1, hN.2, hcs.2⟩
        have hN3 : N < 9223372036854775808 := by omega
        have hd0 : decide ((40000 : Int) < N) = true := decide_eq_true (by omega)
        have hd1 : decide (N ≤ 262144) = false := decide_eq_false (by omega)
        have hd2 : decide (N ≤ 500) = false := decide_eq_false (by omega)
        have hd3 : decide ((327680 : Int) ≤ N) = true := decide_eq_true (by omega)
        have hd4 : decide ((65536 : Int) ≤ (b : Int)) = true := decide_eq_true (by omega)
        clear hcs
        by_cases hkm : k + m ≤ 120
        · have hdp : decide ((k : Int) + (m : Int) ≤ 120) = true := decide_eq_true (by omega)
          clear hkm
          go_wp2_with fail
          refine (told_true _ k A _ HS.out.rx HX.out.2 (by omega)).mono ?_
          rintro e v1 ⟨rfl, hb⟩
          have HZ := hide hb
          clear hb
          have HS' := hide (HS.out.later HZ.out)
          clear HS k0 k1 k2 k3 k4
          have HS := HS'
          clear HS'
          have q0 := HS.out.c0
          have q1 := HS.out.c1
          have q2 := HS.out.c2
          have q3 := HS.out.c3
          have q4 := HS.out.c4
          clear HZ
          go_wp2_with fail
          refine (sums_true _ _ k A m C v1 HS.out.rx HS.out.ry HX.out.2 HY.out.2 (by omega) (by omega)).mono ?_
          rintro e v2 ⟨rfl, hb⟩
          have HZ := hide hb
          clear hb
          have HS' := hide (HS.out.later HZ.out)
          clear HS q0 q1 q2 q3 q4
          have HS := HS'
          clear HS'
          have q0 := HS.out.c0
          have q1 := HS.out.c1
          have q2 := HS.out.c2
          have q3 := HS.out.c3
          have q4 := HS.out.c4
          clear HZ
          go_wp2_with fail
          refine (shifts_true _ k A N v2 HS.out.rx HX.out.2 (by omega) HS.out.tab (by omega)).mono ?_
          rintro e v3 ⟨rfl, hb⟩
          have HZ := hide hb
          clear hb
          have HS' := hide (HS.out.later HZ.out)
          clear HS q0 q1 q2 q3 q4
          have HS := HS'
          clear HS'
          have q0 := HS.out.c0
          have q1 := HS.out.c1
          have q2 := HS.out.c2
          have q3 := HS.out.c3
          have q4 := HS.out.c4
          clear HZ
          go_wp2_with fail
          refine (parts_true _ _ k A m C v3 HS.out.rx HS.out.ry HX.out.2 HY.out.2 (by omega) (by omega)).mono ?_
          rintro e v4 ⟨rfl, hb⟩
          have HZ := hide hb
          clear hb
          have HS' := hide (HS.out.later HZ.out)
          clear HS q0 q1 q2 q3 q4
          have HS := HS'
          clear HS'
          have q0 := HS.out.c0
          have q1 := HS.out.c1
          have q2 := HS.out.c2
          have q3 := HS.out.c3
          have q4 := HS.out.c4
          clear HZ
          go_wp2_with fail
          refine (power_long b N hb HLN.out.1 HLN.out.2.1 HLN.out.2.2 v4).mono ?_
          rintro e v5 ⟨rfl, hb⟩
          have HZ := hide hb
          clear hb
          have HS' := hide (HS.out.later HZ.out)
          clear HS q0 q1 q2 q3 q4
          have HS := HS'
          clear HS'
          have q0 := HS.out.c0
          have q1 := HS.out.c1
          have q2 := HS.out.c2
          have q3 := HS.out.c3
          have q4 := HS.out.c4
          clear HZ
          go_wp2_with fail
          refine (num_any 21 v5).mono ?_
          rintro e v6 ⟨rfl, hw⟩
          have hw1 := hw.symm
          subst hw1
          go_wp2_with fail
          refine Calls.mono (SF.out v5).1 ?_
          rintro e v7 ⟨r9, rfl, hr, hb⟩
          have HP := hide (And.intro hr hb)
          clear hr hb
          have HS1 := hide (HS.out.later HP.out.2)
          clear q0 q1 q2 q3 q4
          have q0 := HS1.out.c0
          have q1 := HS1.out.c1
          have q2 := HS1.out.c2
          have q3 := HS1.out.c3
          have q4 := HS1.out.c4
          go_wp2_with fail
          refine Calls.mono (SF.out v7).2 ?_
          rintro e v8 ⟨p9, rfl, hr, hb⟩
          have HQ := hide (And.intro (And.intro (HP.out.1.below hb) hr) (And.intro (HP.out.2.trans (hb.mono HP.out.2.size)) (Nat.le_trans HP.out.2.size hb.size)))
          have HS2 := hide (HS1.out.later hb)
          clear q0 q1 q2 q3 q4 HS1
          have q0 := HS2.out.c0
          have q1 := HS2.out.c1
          have q2 := HS2.out.c2
          have q3 := HS2.out.c3
          have q4 := HS2.out.c4
          clear hr hb HP
          go_wp2_with fail
          refine (same_true r9 p9 _ _ v5.heap.size _ v8 HQ.out.1.1 HQ.out.1.2 HQ.out.2.2 (by omega)).mono ?_
          rintro e v9 ⟨rfl, hb⟩
          have HZ := hide (HQ.out.2.1.trans hb)
          clear hb HQ HS2
          have HS' := hide (HS.out.later HZ.out)
          clear HS q0 q1 q2 q3 q4
          have HS := HS'
          clear HS'
          have q0 := HS.out.c0
          have q1 := HS.out.c1
          have q2 := HS.out.c2
          have q3 := HS.out.c3
          have q4 := HS.out.c4
          clear HZ
          go_wp2_with fail
          go_roundw
          case rel => exact ⟨i + 1, by omega, by go_num, HS.out.below⟩
          case measure => simp [intOf]; omega
        · have hdp : decide ((k : Int) + (m : Int) ≤ 120) = false := decide_eq_false (by omega)
          clear hkm
          by_cases hc0 : c = 0
          · subst hc0
            go_wp2_with fail
            refine (told_true _ k A _ HS.out.rx HX.out.2 (by omega)).mono ?_
            rintro e v1 ⟨rfl, hb⟩
            have HZ := hide hb
            clear hb
            have HS' := hide (HS.out.later HZ.out)
            clear HS k0 k1 k2 k3 k4
            have HS := HS'
            clear HS'
            have q0 := HS.out.c0
            have q1 := HS.out.c1
            have q2 := HS.out.c2
            have q3 := HS.out.c3
            have q4 := HS.out.c4
            clear HZ
            go_wp2_with fail
            refine (sums_true _ _ k A m C v1 HS.out.rx HS.out.ry HX.out.2 HY.out.2 (by omega) (by omega)).mono ?_
            rintro e v2 ⟨rfl, hb⟩
            have HZ := hide hb
            clear hb
            have HS' := hide (HS.out.later HZ.out)
            clear HS q0 q1 q2 q3 q4
            have HS := HS'
            clear HS'
            have q0 := HS.out.c0
            have q1 := HS.out.c1
            have q2 := HS.out.c2
            have q3 := HS.out.c3
            have q4 := HS.out.c4
            clear HZ
            go_wp2_with fail
            refine (shifts_true _ k A N v2 HS.out.rx HX.out.2 (by omega) HS.out.tab (by omega)).mono ?_
            rintro e v3 ⟨rfl, hb⟩
            have HZ := hide hb
            clear hb
            have HS' := hide (HS.out.later HZ.out)
            clear HS q0 q1 q2 q3 q4
            have HS := HS'
            clear HS'
            have q0 := HS.out.c0
            have q1 := HS.out.c1
            have q2 := HS.out.c2
            have q3 := HS.out.c3
            have q4 := HS.out.c4
            clear HZ
            have HK := hide (rboth_any _ _ k A m C v3 HS.out.rx HS.out.ry)
            rw [HCK.out] at HK
            go_wp2_with fail
            refine HK.out.mono ?_
            rintro e v4 ⟨rfl, hw⟩
            have hw1 := hw.symm
            subst hw1
            clear HK
            go_wp2_with fail
            refine (power_long b N hb HLN.out.1 HLN.out.2.1 HLN.out.2.2 v3).mono ?_
            rintro e v5 ⟨rfl, hb⟩
            have HZ := hide hb
            clear hb
            have HS' := hide (HS.out.later HZ.out)
            clear HS q0 q1 q2 q3 q4
            have HS := HS'
            clear HS'
            have q0 := HS.out.c0
            have q1 := HS.out.c1
            have q2 := HS.out.c2
            have q3 := HS.out.c3
            have q4 := HS.out.c4
            clear HZ
            go_wp2_with fail
            refine (num_any 21 v5).mono ?_
            rintro e v6 ⟨rfl, hw⟩
            have hw1 := hw.symm
            subst hw1
            go_wp2_with fail
            refine Calls.mono (SF.out v5).1 ?_
            rintro e v7 ⟨r9, rfl, hr, hb⟩
            have HP := hide (And.intro hr hb)
            clear hr hb
            have HS1 := hide (HS.out.later HP.out.2)
            clear q0 q1 q2 q3 q4
            have q0 := HS1.out.c0
            have q1 := HS1.out.c1
            have q2 := HS1.out.c2
            have q3 := HS1.out.c3
            have q4 := HS1.out.c4
            go_wp2_with fail
            refine Calls.mono (SF.out v7).2 ?_
            rintro e v8 ⟨p9, rfl, hr, hb⟩
            have HQ := hide (And.intro (And.intro (HP.out.1.below hb) hr) (And.intro (HP.out.2.trans (hb.mono HP.out.2.size)) (Nat.le_trans HP.out.2.size hb.size)))
            have HS2 := hide (HS1.out.later hb)
            clear q0 q1 q2 q3 q4 HS1
            have q0 := HS2.out.c0
            have q1 := HS2.out.c1
            have q2 := HS2.out.c2
            have q3 := HS2.out.c3
            have q4 := HS2.out.c4
            clear hr hb HP
            go_wp2_with fail
            refine (same_true r9 p9 _ _ v5.heap.size _ v8 HQ.out.1.1 HQ.out.1.2 HQ.out.2.2 (by omega)).mono ?_
            rintro e v9 ⟨rfl, hb⟩
            have HZ := hide (HQ.out.2.1.trans hb)
            clear hb HQ HS2
            have HS' := hide (HS.out.later HZ.out)
            clear HS q0 q1 q2 q3 q4
            have HS := HS'
            clear HS'
            have q0 := HS.out.c0
            have q1 := HS.out.c1
            have q2 := HS.out.c2
            have q3 := HS.out.c3
            have q4 := HS.out.c4
            clear HZ
            go_wp2_with fail
            go_roundw
            case rel => exact ⟨i + 1, by omega, by go_num, HS.out.below⟩
            case measure => simp [intOf]; omega
          · have h0 : (c == 0) = false := by rw [beq_eq_false_iff_ne]; exact hc0
            have h1 : (c != 0) = true := by rw [bne_iff_ne]; exact hc0
            go_wp2_with fail
            refine (told_true _ k A _ HS.out.rx HX.out.2 (by omega)).mono ?_
            rintro e v1 ⟨rfl, hb⟩
            have HZ := hide hb
            clear hb
            have HS' := hide (HS.out.later HZ.out)
            clear HS k0 k1 k2 k3 k4
            have HS := HS'
            clear HS'
            have q0 := HS.out.c0
            have q1 := HS.out.c1
            have q2 := HS.out.c2
            have q3 := HS.out.c3
            have q4 := HS.out.c4
            clear HZ
            go_wp2_with fail
            refine (sums_true _ _ k A m C v1 HS.out.rx HS.out.ry HX.out.2 HY.out.2 (by omega) (by omega)).mono ?_
            rintro e v2 ⟨rfl, hb⟩
            have HZ := hide hb
            clear hb
            have HS' := hide (HS.out.later HZ.out)
            clear HS q0 q1 q2 q3 q4
            have HS := HS'
            clear HS'
            have q0 := HS.out.c0
            have q1 := HS.out.c1
            have q2 := HS.out.c2
            have q3 := HS.out.c3
            have q4 := HS.out.c4
            clear HZ
            go_wp2_with fail
            refine (shifts_true _ k A N v2 HS.out.rx HX.out.2 (by omega) HS.out.tab (by omega)).mono ?_
            rintro e v3 ⟨rfl, hb⟩
            have HZ := hide hb
            clear hb
            have HS' := hide (HS.out.later HZ.out)
            clear HS q0 q1 q2 q3 q4
            have HS := HS'
            clear HS'
            have q0 := HS.out.c0
            have q1 := HS.out.c1
            have q2 := HS.out.c2
            have q3 := HS.out.c3
            have q4 := HS.out.c4
            clear HZ
            have HK := hide (rboth_any _ _ k A m C v3 HS.out.rx HS.out.ry)
            rw [HCK.out] at HK
            go_wp2_with fail
            refine HK.out.mono ?_
            rintro e v4 ⟨rfl, hw⟩
            have hw1 := hw.symm
            subst hw1
            clear HK
            go_wp2_with fail
            refine (parts_true _ _ k A m C v3 HS.out.rx HS.out.ry HX.out.2 HY.out.2 (by omega) (by omega)).mono ?_
            rintro e v5 ⟨rfl, hb⟩
            have HZ := hide hb
            clear hb
            have HS' := hide (HS.out.later HZ.out)
            clear HS q0 q1 q2 q3 q4
            have HS := HS'
            clear HS'
            have q0 := HS.out.c0
            have q1 := HS.out.c1
            have q2 := HS.out.c2
            have q3 := HS.out.c3
            have q4 := HS.out.c4
            clear HZ
            go_wp2_with fail
            refine (power_long b N hb HLN.out.1 HLN.out.2.1 HLN.out.2.2 v5).mono ?_
            rintro e v6 ⟨rfl, hb⟩
            have HZ := hide hb
            clear hb
            have HS' := hide (HS.out.later HZ.out)
            clear HS q0 q1 q2 q3 q4
            have HS := HS'
            clear HS'
            have q0 := HS.out.c0
            have q1 := HS.out.c1
            have q2 := HS.out.c2
            have q3 := HS.out.c3
            have q4 := HS.out.c4
            clear HZ
            go_wp2_with fail
            refine (num_any 21 v6).mono ?_
            rintro e v7 ⟨rfl, hw⟩
            have hw1 := hw.symm
            subst hw1
            go_wp2_with fail
            refine Calls.mono (SF.out v6).1 ?_
            rintro e v8 ⟨r10, rfl, hr, hb⟩
            have HP := hide (And.intro hr hb)
            clear hr hb
            have HS1 := hide (HS.out.later HP.out.2)
            clear q0 q1 q2 q3 q4
            have q0 := HS1.out.c0
            have q1 := HS1.out.c1
            have q2 := HS1.out.c2
            have q3 := HS1.out.c3
            have q4 := HS1.out.c4
            go_wp2_with fail
            refine Calls.mono (SF.out v8).2 ?_
            rintro e v9 ⟨p10, rfl, hr, hb⟩
            have HQ := hide (And.intro (And.intro (HP.out.1.below hb) hr) (And.intro (HP.out.2.trans (hb.mono HP.out.2.size)) (Nat.le_trans HP.out.2.size hb.size)))
            have HS2 := hide (HS1.out.later hb)
            clear q0 q1 q2 q3 q4 HS1
            have q0 := HS2.out.c0
            have q1 := HS2.out.c1
            have q2 := HS2.out.c2
            have q3 := HS2.out.c3
            have q4 := HS2.out.c4
            clear hr hb HP
            go_wp2_with fail
            refine (same_true r10 p10 _ _ v6.heap.size _ v9 HQ.out.1.1 HQ.out.1.2 HQ.out.2.2 (by omega)).mono ?_
            rintro e v10 ⟨rfl, hb⟩
            have HZ := hide (HQ.out.2.1.trans hb)
            clear hb HQ HS2
            have HS' := hide (HS.out.later HZ.out)
            clear HS q0 q1 q2 q3 q4
            have HS := HS'
            clear HS'
            have q0 := HS.out.c0
            have q1 := HS.out.c1
            have q2 := HS.out.c2
            have q3 := HS.out.c3
            have q4 := HS.out.c4
            clear HZ
            go_wp2_with fail
            go_roundw
            case rel => exact ⟨i + 1, by omega, by go_num, HS.out.below⟩
            case measure => simp [intOf]; omega
      · have hN3 : N < 9223372036854775808 := by omega
        have hd0 : decide ((40000 : Int) < N) = true := decide_eq_true (by omega)
        have hd1 : decide (N ≤ 262144) = false := decide_eq_false (by omega)
        have hd2 : decide (N ≤ 500) = false := decide_eq_false (by omega)
        have hd3 : decide ((327680 : Int) ≤ N) = true := decide_eq_true (by omega)
        have hd4 : decide ((65536 : Int) ≤ (b : Int)) = false := decide_eq_false (by omega)
        clear hcs
        by_cases hkm : k + m ≤ 120
        · have hdp : decide ((k : Int) + (m : Int) ≤ 120) = true := decide_eq_true (by omega)
          clear hkm
          go_wp2_with fail
          refine (told_true _ k A _ HS.out.rx HX.out.2 (by omega)).mono ?_
          rintro e v1 ⟨rfl, hb⟩
          have HZ := hide hb
          clear hb
          have HS' := hide (HS.out.later HZ.out)
          clear HS k0 k1 k2 k3 k4
          have HS := HS'
          clear HS'
          have q0 := HS.out.c0
          have q1 := HS.out.c1
          have q2 := HS.out.c2
          have q3 := HS.out.c3
          have q4 := HS.out.c4
          clear HZ
          go_wp2_with fail
          refine (sums_true _ _ k A m C v1 HS.out.rx HS.out.ry HX.out.2 HY.out.2 (by omega) (by omega)).mono ?_
          rintro e v2 ⟨rfl, hb⟩
          have HZ := hide hb
          clear hb
          have HS' := hide (HS.out.later HZ.out)
          clear HS q0 q1 q2 q3 q4
          have HS := HS'
          clear HS'
          have q0 := HS.out.c0
          have q1 := HS.out.c1
          have q2 := HS.out.c2
          have q3 := HS.out.c3
          have q4 := HS.out.c4
          clear HZ
          go_wp2_with fail
          refine (shifts_true _ k A N v2 HS.out.rx HX.out.2 (by omega) HS.out.tab (by omega)).mono ?_
          rintro e v3 ⟨rfl, hb⟩
          have HZ := hide hb
          clear hb
          have HS' := hide (HS.out.later HZ.out)
          clear HS q0 q1 q2 q3 q4
          have HS := HS'
          clear HS'
          have q0 := HS.out.c0
          have q1 := HS.out.c1
          have q2 := HS.out.c2
          have q3 := HS.out.c3
          have q4 := HS.out.c4
          clear HZ
          go_wp2_with fail
          refine (parts_true _ _ k A m C v3 HS.out.rx HS.out.ry HX.out.2 HY.out.2 (by omega) (by omega)).mono ?_
          rintro e v4 ⟨rfl, hb⟩
          have HZ := hide hb
          clear hb
          have HS' := hide (HS.out.later HZ.out)
          clear HS q0 q1 q2 q3 q4
          have HS := HS'
          clear HS'
          have q0 := HS.out.c0
          have q1 := HS.out.c1
          have q2 := HS.out.c2
          have q3 := HS.out.c3
          have q4 := HS.out.c4
          clear HZ
          go_wp2_with fail
          refine Calls.mono (SF.out v4).1 ?_
          rintro e v5 ⟨r7, rfl, hr, hb⟩
          have HP := hide (And.intro hr hb)
          clear hr hb
          have HS1 := hide (HS.out.later HP.out.2)
          clear q0 q1 q2 q3 q4
          have q0 := HS1.out.c0
          have q1 := HS1.out.c1
          have q2 := HS1.out.c2
          have q3 := HS1.out.c3
          have q4 := HS1.out.c4
          go_wp2_with fail
          refine Calls.mono (SF.out v5).2 ?_
          rintro e v6 ⟨p7, rfl, hr, hb⟩
          have HQ := hide (And.intro (And.intro (HP.out.1.below hb) hr) (And.intro (HP.out.2.trans (hb.mono HP.out.2.size)) (Nat.le_trans HP.out.2.size hb.size)))
          have HS2 := hide (HS1.out.later hb)
          clear q0 q1 q2 q3 q4 HS1
          have q0 := HS2.out.c0
          have q1 := HS2.out.c1
          have q2 := HS2.out.c2
          have q3 := HS2.out.c3
          have q4 := HS2.out.c4
          clear hr hb HP
          go_wp2_with fail
          refine (same_true r7 p7 _ _ v4.heap.size _ v6 HQ.out.1.1 HQ.out.1.2 HQ.out.2.2 (by omega)).mono ?_
          rintro e v7 ⟨rfl, hb⟩
          have HZ := hide (HQ.out.2.1.trans hb)
          clear hb HQ HS2
          have HS' := hide (HS.out.later HZ.out)
          clear HS q0 q1 q2 q3 q4
          have HS := HS'
          clear HS'
          have q0 := HS.out.c0
          have q1 := HS.out.c1
          have q2 := HS.out.c2
          have q3 := HS.out.c3
          have q4 := HS.out.c4
          clear HZ
          go_wp2_with fail
          go_roundw
          case rel => exact ⟨i + 1, by omega, by go_num, HS.out.below⟩
          case measure => simp [intOf]; omega
        · have hdp : decide ((k : Int) + (m : Int) ≤ 120) = false := decide_eq_false (by omega)
          clear hkm
          by_cases hc0 : c = 0
          · subst hc0
            go_wp2_with fail
            refine (told_true _ k A _ HS.out.rx HX.out.2 (by omega)).mono ?_
            rintro e v1 ⟨rfl, hb⟩
            have HZ := hide hb
            clear hb
            have HS' := hide (HS.out.later HZ.out)
            clear HS k0 k1 k2 k3 k4
            have HS := HS'
            clear HS'
            have q0 := HS.out.c0
            have q1 := HS.out.c1
            have q2 := HS.out.c2
            have q3 := HS.out.c3
            have q4 := HS.out.c4
            clear HZ
            go_wp2_with fail
            refine (sums_true _ _ k A m C v1 HS.out.rx HS.out.ry HX.out.2 HY.out.2 (by omega) (by omega)).mono ?_
            rintro e v2 ⟨rfl, hb⟩
            have HZ := hide hb
            clear hb
            have HS' := hide (HS.out.later HZ.out)
            clear HS q0 q1 q2 q3 q4
            have HS := HS'
            clear HS'
            have q0 := HS.out.c0
            have q1 := HS.out.c1
            have q2 := HS.out.c2
            have q3 := HS.out.c3
            have q4 := HS.out.c4
            clear HZ
            go_wp2_with fail
            refine (shifts_true _ k A N v2 HS.out.rx HX.out.2 (by omega) HS.out.tab (by omega)).mono ?_
            rintro e v3 ⟨rfl, hb⟩
            have HZ := hide hb
            clear hb
            have HS' := hide (HS.out.later HZ.out)
            clear HS q0 q1 q2 q3 q4
            have HS := HS'
            clear HS'
            have q0 := HS.out.c0
            have q1 := HS.out.c1
            have q2 := HS.out.c2
            have q3 := HS.out.c3
            have q4 := HS.out.c4
            clear HZ
            have HK := hide (rboth_any _ _ k A m C v3 HS.out.rx HS.out.ry)
            rw [HCK.out] at HK
            go_wp2_with fail
            refine HK.out.mono ?_
            rintro e v4 ⟨rfl, hw⟩
            have hw1 := hw.symm
            subst hw1
            clear HK
            go_wp2_with fail
            refine Calls.mono (SF.out v3).1 ?_
            rintro e v5 ⟨r7, rfl, hr, hb⟩
            have HP := hide (And.intro hr hb)
            clear hr hb
            have HS1 := hide (HS.out.later HP.out.2)
            clear q0 q1 q2 q3 q4
            have q0 := HS1.out.c0
            have q1 := HS1.out.c1
            have q2 := HS1.out.c2
            have q3 := HS1.out.c3
            have q4 := HS1.out.c4
            go_wp2_with fail
            refine Calls.mono (SF.out v5).2 ?_
            rintro e v6 ⟨p7, rfl, hr, hb⟩
            have HQ := hide (And.intro (And.intro (HP.out.1.below hb) hr) (And.intro (HP.out.2.trans (hb.mono HP.out.2.size)) (Nat.le_trans HP.out.2.size hb.size)))
            have HS2 := hide (HS1.out.later hb)
            clear q0 q1 q2 q3 q4 HS1
            have q0 := HS2.out.c0
            have q1 := HS2.out.c1
            have q2 := HS2.out.c2
            have q3 := HS2.out.c3
            have q4 := HS2.out.c4
            clear hr hb HP
            go_wp2_with fail
            refine (same_true r7 p7 _ _ v3.heap.size _ v6 HQ.out.1.1 HQ.out.1.2 HQ.out.2.2 (by omega)).mono ?_
            rintro e v7 ⟨rfl, hb⟩
            have HZ := hide (HQ.out.2.1.trans hb)
            clear hb HQ HS2
            have HS' := hide (HS.out.later HZ.out)
            clear HS q0 q1 q2 q3 q4
            have HS := HS'
            clear HS'
            have q0 := HS.out.c0
            have q1 := HS.out.c1
            have q2 := HS.out.c2
            have q3 := HS.out.c3
            have q4 := HS.out.c4
            clear HZ
            go_wp2_with fail
            go_roundw
            case rel => exact ⟨i + 1, by omega, by go_num, HS.out.below⟩
            case measure => simp [intOf]; omega
          · have h0 : (c == 0) = false := by rw [beq_eq_false_iff_ne]; exact hc0
            have h1 : (c != 0) = true := by rw [bne_iff_ne]; exact hc0
            go_wp2_with fail
            refine (told_true _ k A _ HS.out.rx HX.out.2 (by omega)).mono ?_
            rintro e v1 ⟨rfl, hb⟩
            have HZ := hide hb
            clear hb
            have HS' := hide (HS.out.later HZ.out)
            clear HS k0 k1 k2 k3 k4
            have HS := HS'
            clear HS'
            have q0 := HS.out.c0
            have q1 := HS.out.c1
            have q2 := HS.out.c2
            have q3 := HS.out.c3
            have q4 := HS.out.c4
            clear HZ
            go_wp2_with fail
            refine (sums_true _ _ k A m C v1 HS.out.rx HS.out.ry HX.out.2 HY.out.2 (by omega) (by omega)).mono ?_
            rintro e v2 ⟨rfl, hb⟩
            have HZ := hide hb
            clear hb
            have HS' := hide (HS.out.later HZ.out)
            clear HS q0 q1 q2 q3 q4
            have HS := HS'
            clear HS'
            have q0 := HS.out.c0
            have q1 := HS.out.c1
            have q2 := HS.out.c2
            have q3 := HS.out.c3
            have q4 := HS.out.c4
            clear HZ
            go_wp2_with fail
            refine (shifts_true _ k A N v2 HS.out.rx HX.out.2 (by omega) HS.out.tab (by omega)).mono ?_
            rintro e v3 ⟨rfl, hb⟩
            have HZ := hide hb
            clear hb
            have HS' := hide (HS.out.later HZ.out)
            clear HS q0 q1 q2 q3 q4
            have HS := HS'
            clear HS'
            have q0 := HS.out.c0
            have q1 := HS.out.c1
            have q2 := HS.out.c2
            have q3 := HS.out.c3
            have q4 := HS.out.c4
            clear HZ
            have HK := hide (rboth_any _ _ k A m C v3 HS.out.rx HS.out.ry)
            rw [HCK.out] at HK
            go_wp2_with fail
            refine HK.out.mono ?_
            rintro e v4 ⟨rfl, hw⟩
            have hw1 := hw.symm
            subst hw1
            clear HK
            go_wp2_with fail
            refine (parts_true _ _ k A m C v3 HS.out.rx HS.out.ry HX.out.2 HY.out.2 (by omega) (by omega)).mono ?_
            rintro e v5 ⟨rfl, hb⟩
            have HZ := hide hb
            clear hb
            have HS' := hide (HS.out.later HZ.out)
            clear HS q0 q1 q2 q3 q4
            have HS := HS'
            clear HS'
            have q0 := HS.out.c0
            have q1 := HS.out.c1
            have q2 := HS.out.c2
            have q3 := HS.out.c3
            have q4 := HS.out.c4
            clear HZ
            go_wp2_with fail
            refine Calls.mono (SF.out v5).1 ?_
            rintro e v6 ⟨r8, rfl, hr, hb⟩
            have HP := hide (And.intro hr hb)
            clear hr hb
            have HS1 := hide (HS.out.later HP.out.2)
            clear q0 q1 q2 q3 q4
            have q0 := HS1.out.c0
            have q1 := HS1.out.c1
            have q2 := HS1.out.c2
            have q3 := HS1.out.c3
            have q4 := HS1.out.c4
            go_wp2_with fail
            refine Calls.mono (SF.out v6).2 ?_
            rintro e v7 ⟨p8, rfl, hr, hb⟩
            have HQ := hide (And.intro (And.intro (HP.out.1.below hb) hr) (And.intro (HP.out.2.trans (hb.mono HP.out.2.size)) (Nat.le_trans HP.out.2.size hb.size)))
            have HS2 := hide (HS1.out.later hb)
            clear q0 q1 q2 q3 q4 HS1
            have q0 := HS2.out.c0
            have q1 := HS2.out.c1
            have q2 := HS2.out.c2
            have q3 := HS2.out.c3
            have q4 := HS2.out.c4
            clear hr hb HP
            go_wp2_with fail
            refine (same_true r8 p8 _ _ v5.heap.size _ v7 HQ.out.1.1 HQ.out.1.2 HQ.out.2.2 (by omega)).mono ?_
            rintro e v8 ⟨rfl, hb⟩
            have HZ := hide (HQ.out.2.1.trans hb)
            clear hb HQ HS2
            have HS' := hide (HS.out.later HZ.out)
            clear HS q0 q1 q2 q3 q4
            have HS := HS'
            clear HS'
            have q0 := HS.out.c0
            have q1 := HS.out.c1
            have q2 := HS.out.c2
            have q3 := HS.out.c3
            have q4 := HS.out.c4
            clear HZ
            go_wp2_with fail
            go_roundw
            case rel => exact ⟨i + 1, by omega, by go_num, HS.out.below⟩
            case measure => simp [intOf]; omega
    · have hend : i = M := HMm.out.1 i hi hlt
      by_cases hin : i < nL
      · have hin1 : (i : Int) < (nL : Int) := by omega
        have hin2 : ¬ (i : Int) < 20 := by omega
        go_wp2_with fail
        refine (wakes_any _).mono ?_
        rintro e wz ⟨rfl, hbz⟩
        have HZ := hide hbz
        clear hbz
        go_wp2_with fail
        go_ret
        exact ⟨rfl, HB.out.trans (HZ.out.mono HB.out.size)⟩
      · have hin1 : ¬ (i : Int) < (nL : Int) := by omega
        go_wp2_with fail
        refine (wakes_any _).mono ?_
        rintro e wz ⟨rfl, hbz⟩
        have HZ := hide hbz
        clear hbz
        go_wp2_with fail
        go_ret
        exact ⟨rfl, HB.out.trans (HZ.out.mono HB.out.size)⟩

end Go.Proofs.YtmfimhpbdbbpoaaDoor

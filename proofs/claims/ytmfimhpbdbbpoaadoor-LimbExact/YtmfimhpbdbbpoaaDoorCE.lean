/- The document's Right, Low, Small, From, Power. -/
import Derived.Test.YtmfimhpbdbbpoaaDoorCC
import Derived.Test.YtmfimhpbdbbpoaaDoorBD
/- The document's Add, Sub, Mul, Cmp, Left, Len, Bit of numbers. -/
namespace Go.Proofs.YtmfimhpbdbbpoaaDoor
open Go.RowKit
open M
set_option linter.unusedVariables false
set_option linter.unusedSimpArgs false

set_option maxRecDepth 100000 in
theorem rAdd_ok {S S' : Nat → Prop} (v u : Value) (k A m C : Nat) (w : World) (h : RowX S w v k A) (h' : RowX S' w u m C) (hn : Nrm k A) (hk : k ≤ 8192) (hn' : Nrm m C) (hm : m ≤ 8192) :
    Calls Tryd.prog 28 #[v, u] w fun e w' => ∃ r c, e = .returned (.tuple #[r, .int .i64 c]) ∧ Told w' w.heap.size r c (A + C) ∧ Below w.heap.size w w' := by
  have HC := hide (rboth_any v u k A m C w h h')
  rw [if_pos (chk_nrm hn hk), chk_nrm hn' hm] at HC
  have HP := hide (rplus_any v u k A m C w h h' (by omega) (by omega))
  clear h h'
  go_enter Tryd.func28, Tryd.ntmps28
  go_wp2_with fail
  refine HC.out.mono ?_
  rintro e w1 ⟨rfl, rfl⟩
  go_wp2_with fail
  refine HP.out.mono ?_
  rintro e w2 ⟨r, rfl, n, ho, hnr, hnk, hb⟩
  have H2 := hide (And.intro ho hb)
  clear ho hnr hb
  go_wp2_with fail
  refine (fit_any r n _ w2 H2.out.1.row (by omega)).mono ?_
  rintro e w3 ⟨u3, c, rfl, ht, hb3⟩
  have H3 : Hid (Told w3 w1.heap.size u3 c (A + C) ∧ Below w1.heap.size w1 w3) := ⟨ht.mono H2.out.2.size, H2.out.2.trans (hb3.mono H2.out.2.size)⟩
  clear ht hb3
  go_wp2_with fail
  go_ret2
  exact ⟨u3, c, rfl, H3.out.1, H3.out.2⟩

set_option maxRecDepth 100000 in
theorem rMul_ok {S S' : Nat → Prop} (v u : Value) (k A m C : Nat) (w : World) (h : RowX S w v k A) (h' : RowX S' w u m C) (hn : Nrm k A) (hk : k ≤ 8192) (hn' : Nrm m C) (hm : m ≤ 8192) :
    Calls Tryd.prog 34 #[v, u] w fun e w' => ∃ r c, e = .returned (.tuple #[r, .int .i64 c]) ∧ Told w' w.heap.size r c (A * C) ∧ Below w.heap.size w w' := by
  have HC := hide (rboth_any v u k A m C w h h')
  rw [if_pos (chk_nrm hn hk), chk_nrm hn' hm] at HC
  have HP := hide (rtimes_any v u k A m C w h h' (by omega) (by omega))
  clear h h'
  go_enter Tryd.func34, Tryd.ntmps34
  go_wp2_with fail
  refine HC.out.mono ?_
  rintro e w1 ⟨rfl, rfl⟩
  go_wp2_with fail
  refine HP.out.mono ?_
  rintro e w2 ⟨r, rfl, n, ho, hnr, hnk, hb⟩
  have H2 := hide (And.intro ho hb)
  clear ho hnr hb
  go_wp2_with fail
  refine (fit_any r n _ w2 H2.out.1.row (by omega)).mono ?_
  rintro e w3 ⟨u3, c, rfl, ht, hb3⟩
  have H3 : Hid (Told w3 w1.heap.size u3 c (A * C) ∧ Below w1.heap.size w1 w3) := ⟨ht.mono H2.out.2.size, H2.out.2.trans (hb3.mono H2.out.2.size)⟩
  clear ht hb3
  go_wp2_with fail
  go_ret2
  exact ⟨u3, c, rfl, H3.out.1, H3.out.2⟩

set_option maxRecDepth 100000 in
theorem rSub_ok {S S' : Nat → Prop} (v u : Value) (k A m C : Nat) (w : World) (h : RowX S w v k A) (h' : RowX S' w u m C) (hn : Nrm k A) (hk : k ≤ 8192) (hn' : Nrm m C) (hm : m ≤ 8192) (hle : C ≤ A) :
    Calls Tryd.prog 30 #[v, u] w fun e w' => ∃ r c, e = .returned (.tuple #[r, .int .i64 c]) ∧ Told w' w.heap.size r c (A - C) ∧ Below w.heap.size w w' := by
  have HC := hide (rboth_any v u k A m C w h h')
  rw [if_pos (chk_nrm hn hk), chk_nrm hn' hm] at HC
  have HO := hide (rorder_any v u k A m C w h h' hn hn')
  have hcmp : ¬ cmpI A C < 0 := fun e => by have := cmpI_neg.1 e; omega
  generalize cmpI A C = cc at *
  have HR := hide (And.intro h.row h'.row)
  clear h h'
  go_enter Tryd.func30, Tryd.ntmps30
  go_wp2_with fail
  refine HC.out.mono ?_
  rintro e w1 ⟨rfl, rfl⟩
  go_wp2_with fail
  refine HO.out.mono ?_
  rintro e w2 ⟨rfl, nd, rfl⟩
  have HB : Hid (Below w1.heap.size w1 (w1.drewN nd)) := below_drewN (Below.refl _ _) nd
  have HP := hide (rless_any v u k A m C (w1.drewN nd) (HR.out.1.below HB.out) (HR.out.2.below HB.out) (by omega) hle)
  generalize w1.drewN nd = wd at *
  go_wp2_with fail
  refine HP.out.mono ?_
  rintro e w2 ⟨r, rfl, n, ho, hnr, hnk, hb⟩
  have H2 : Hid (Own w2 w1.heap.size r n (A - C) ∧ Below w1.heap.size w1 w2) := ⟨ho.mono HB.out.size, HB.out.trans (hb.mono HB.out.size)⟩
  clear ho hnr hb
  go_wp2_with fail
  refine (fit_any r n _ w2 H2.out.1.row (by omega)).mono ?_
  rintro e w3 ⟨u3, c, rfl, ht, hb3⟩
  have H3 : Hid (Told w3 w1.heap.size u3 c (A - C) ∧ Below w1.heap.size w1 w3) := ⟨ht.mono H2.out.2.size, H2.out.2.trans (hb3.mono H2.out.2.size)⟩
  clear ht hb3
  go_wp2_with fail
  go_ret2
  exact ⟨u3, c, rfl, H3.out.1, H3.out.2⟩

set_option maxRecDepth 100000 in
theorem rSub_less {S S' : Nat → Prop} (v u : Value) (k A m C : Nat) (w : World) (h : RowX S w v k A) (h' : RowX S' w u m C) (hn : Nrm k A) (hk : k ≤ 8192) (hn' : Nrm m C) (hm : m ≤ 8192) (hlt : A < C) :
    Calls Tryd.prog 30 #[v, u] w fun e w' => e = .returned (.tuple #[.slice none 0 0, .int .i64 22]) ∧ Below w.heap.size w w' := by
  have HC := hide (rboth_any v u k A m C w h h')
  rw [if_pos (chk_nrm hn hk), chk_nrm hn' hm] at HC
  have HO := hide (rorder_any v u k A m C w h h' hn hn')
  rw [cmpI_lt hlt] at HO
  clear h h'
  go_enter Tryd.func30, Tryd.ntmps30
  go_wp2_with fail
  refine HC.out.mono ?_
  rintro e w1 ⟨rfl, rfl⟩
  go_wp2_with fail
  refine HO.out.mono ?_
  rintro e w2 ⟨rfl, nd, rfl⟩
  have HB : Hid (Below w1.heap.size w1 (w1.drewN nd)) := below_drewN (Below.refl _ _) nd
  generalize w1.drewN nd = wd at *
  go_wp2_with fail
  go_ret2
  exact ⟨rfl, HB.out⟩

set_option maxRecDepth 100000 in
theorem rCmp_ok {S S' : Nat → Prop} (v u : Value) (k A m C : Nat) (w : World) (h : RowX S w v k A) (h' : RowX S' w u m C) (hn : Nrm k A) (hk : k ≤ 8192) (hn' : Nrm m C) (hm : m ≤ 8192) :
    Calls Tryd.prog 32 #[v, u] w fun e w' => e = .returned (.int .i64 (cmpI A C)) ∧ Below w.heap.size w w' := by
  have HC := hide (rboth_any v u k A m C w h h')
  rw [if_pos (chk_nrm hn hk), chk_nrm hn' hm] at HC
  have HO := hide (rorder_any v u k A m C w h h' hn hn')
  generalize cmpI A C = cc at *
  clear h h'
  go_enter Tryd.func32, Tryd.ntmps32
  go_wp2_with fail
  refine HC.out.mono ?_
  rintro e w1 ⟨rfl, rfl⟩
  go_wp2_with fail
  refine HO.out.mono ?_
  rintro e w2 ⟨rfl, nd, rfl⟩
  have HB : Hid (Below w1.heap.size w1 (w1.drewN nd)) := below_drewN (Below.refl _ _) nd
  generalize w1.drewN nd = wd at *
  go_wp2_with fail
  go_ret
  exact ⟨rfl, HB.out⟩

set_option maxRecDepth 100000 in
theorem rLeft_told {S : Nat → Prop} (v : Value) (k A n : Nat) (w : World) (h : RowX S w v k A) (hn : Nrm k A) (hk : k ≤ 8192) (hnn : n < 9223372036854775808) :
    Calls Tryd.prog 36 #[v, .int .i64 n] w fun e w' => ∃ u c, e = .returned (.tuple #[u, .int .i64 c]) ∧ Told w' w.heap.size u c (A * 2 ^ n) ∧ Below w.heap.size w w' := by
  have HC := hide (rcheck_any v k A w h)
  rw [chk_nrm hn hk] at HC
  have HR := hide h
  have hz := hn.zero_iff
  obtain ⟨_, _, ad, cap, rfl, _, _⟩ := h
  have hneg : ¬ (n : Int) < 0 := by omega
  by_cases hk0 : k = 0
  · obtain rfl : A = 0 := hz.1 hk0
    subst hk0
    clear hz
    go_enter Tryd.func36, Tryd.ntmps36
    go_wp2_with fail
    refine HC.out.mono ?_
    rintro e w1 ⟨rfl, rfl⟩
    go_wp2_with fail
    go_ret2
    exact ⟨_, 0, rfl, .inl ⟨⟨0, by omega, by simp⟩, rfl, 0, by rw [Nat.zero_mul]; exact Own.nil _ _, by rw [Nat.zero_mul]; exact nrm_zero⟩, Below.refl _ _⟩
  · have hA : A ≠ 0 := fun e => hk0 (hz.2 e)
    have HF := hide (fits_shift (n := n) hA)
    have hk1 : ((k : Int) == 0) = false := by simp; omega
    clear hz hA
    by_cases hlong : 262144 < n
    · have hl' : (262144 : Int) < (n : Int) := by omega
      go_enter Tryd.func36, Tryd.ntmps36
      go_wp2_with fail
      refine HC.out.mono ?_
      rintro e w1 ⟨rfl, rfl⟩
      go_wp2_with fail
      go_ret2
      exact ⟨_, 21, rfl, .inr ⟨fun hf => by have := HF.out.1 hf; omega, rfl, rfl⟩, Below.refl _ _⟩
    · have hl' : ¬ (262144 : Int) < (n : Int) := by omega
      go_enter Tryd.func36, Tryd.ntmps36
      go_wp2_with fail
      refine HC.out.mono ?_
      rintro e w1 ⟨rfl, rfl⟩
      go_wp2_with fail
      refine (rup_any _ k A n w1 HR.out (by omega) (by omega)).mono ?_
      rintro e w2 ⟨r, rfl, m, ho, hm, hmk, hb2⟩
      have H2 := hide (And.intro ho hb2)
      clear ho hm hb2
      go_wp2_with fail
      refine (fit_any r m _ w2 H2.out.1.row (by omega)).mono ?_
      rintro e w3 ⟨u, c, rfl, ht, hb3⟩
      have H3 : Hid (Told w3 w1.heap.size u c (A * 2 ^ n) ∧ Below w1.heap.size w1 w3) := ⟨ht.mono H2.out.2.size, H2.out.2.trans (hb3.mono H2.out.2.size)⟩
      clear ht hb3
      go_wp2_with fail
      go_ret2
      exact ⟨u, c, rfl, H3.out.1, H3.out.2⟩

set_option maxRecDepth 100000 in
theorem rLeft_neg {S : Nat → Prop} (v : Value) (k A : Nat) (n : Int) (w : World) (h : RowX S w v k A) (hn : Nrm k A) (hk : k ≤ 8192) (hnn : n < 0) :
    Calls Tryd.prog 36 #[v, .int .i64 n] w fun e w' => e = .returned (.tuple #[.slice none 0 0, .int .i64 24]) ∧ w' = w := by
  have HC := hide (rcheck_any v k A w h)
  rw [chk_nrm hn hk] at HC
  clear h hn
  go_enter Tryd.func36, Tryd.ntmps36
  go_wp2_with fail
  refine HC.out.mono ?_
  rintro e w1 ⟨rfl, rfl⟩
  go_wp2_with fail
  go_ret2
  exact ⟨rfl, rfl⟩

set_option maxRecDepth 100000 in
theorem rLen_ok {S : Nat → Prop} (v : Value) (k A : Nat) (w : World) (h : RowX S w v k A) (hn : Nrm k A) (hk : k ≤ 8192) :
    Calls Tryd.prog 40 #[v] w fun e w' => e = .returned (.int .i64 (bitLen A : Nat)) ∧ w' = w := by
  have HC := hide (rcheck_any v k A w h)
  rw [chk_nrm hn hk] at HC
  have HB := hide (rbits_any v k A w h hn (by omega))
  clear h hn
  generalize bitLen A = b at *
  go_enter Tryd.func40, Tryd.ntmps40
  go_wp2_with fail
  refine HC.out.mono ?_
  rintro e w1 ⟨rfl, rfl⟩
  go_wp2_with fail
  refine HB.out.mono ?_
  rintro e w1 ⟨rfl, rfl⟩
  go_wp2_with fail
  go_ret
  exact ⟨rfl, rfl⟩

set_option maxRecDepth 100000 in
theorem rBit_ok {S : Nat → Prop} (v : Value) (k A n : Nat) (w : World) (h : RowX S w v k A) (hn : Nrm k A) (hk : k ≤ 8192) (hnn : n < 9223372036854775808) :
    Calls Tryd.prog 44 #[v, .int .i64 n] w fun e w' => e = .returned (.bool (decide (A / 2 ^ n % 2 = 1))) ∧ w' = w := by
  have HC := hide (rcheck_any v k A w h)
  rw [chk_nrm hn hk] at HC
  have HB := hide (ron_any v k A n w h hnn)
  clear h hn
  generalize decide (A / 2 ^ n % 2 = 1) = b at *
  go_enter Tryd.func44, Tryd.ntmps44
  go_wp2_with fail
  refine HC.out.mono ?_
  rintro e w1 ⟨rfl, rfl⟩
  go_wp2_with fail
  refine HB.out.mono ?_
  rintro e w1 ⟨rfl, rfl⟩
  go_wp2_with fail
  go_ret
  exact ⟨rfl, rfl⟩

set_option maxRecDepth 100000 in
theorem rBit_neg {S : Nat → Prop} (v : Value) (k A : Nat) (n : Int) (w : World) (h : RowX S w v k A) (hn : Nrm k A) (hk : k ≤ 8192) (hnn : n < 0) :
    Calls Tryd.prog 44 #[v, .int .i64 n] w fun e w' => e = .returned (.bool false) ∧ w' = w := by
  have HC := hide (rcheck_any v k A w h)
  rw [chk_nrm hn hk] at HC
  obtain ⟨_, _, ad, cap, rfl, _, _⟩ := h
  have HB := hide (ron_neg ad k cap n w hnn)
  clear hn
  go_enter Tryd.func44, Tryd.ntmps44
  go_wp2_with fail
  refine HC.out.mono ?_
  rintro e w1 ⟨rfl, rfl⟩
  go_wp2_with fail
  refine HB.out.mono ?_
  rintro e w1 ⟨rfl, rfl⟩
  go_wp2_with fail
  go_ret
  exact ⟨rfl, rfl⟩

end Go.Proofs.YtmfimhpbdbbpoaaDoor

namespace Go.Proofs.YtmfimhpbdbbpoaaDoor
open Go.RowKit
open M
set_option linter.unusedVariables false
set_option linter.unusedSimpArgs false

theorem gone_next (A i : Nat) : A % 2 ^ (i + 1) = A % 2 ^ i + 2 ^ i * (A / 2 ^ i % 2) := Nat.mod_pow_succ

set_option maxRecDepth 100000 in
set_option maxHeartbeats 1000000 in
theorem rRight_own {S : Nat → Prop} (v : Value) (k A n : Nat) (w : World) (h : RowX S w v k A) (hn : Nrm k A) (hk : k ≤ 8192) (hnn : n < 9223372036854775808) (gn : Bool) (hgn : decide (A % 2 ^ n ≠ 0) = gn) :
    Calls Tryd.prog 38 #[v, .int .i64 n] w fun e w' => ∃ r, e = .returned (.tuple #[r, .bool gn, .int .i64 0]) ∧ ∃ m, Own w' w.heap.size r m (A / 2 ^ n) ∧ Nrm m (A / 2 ^ n) ∧ Below w.heap.size w w' := by
  have HC := hide (rcheck_any v k A w h)
  rw [chk_nrm hn hk] at HC
  have HD := hide (rdown_any v k A n w h (by omega) hnn)
  have HR := hide h.row
  have hA := h.1
  obtain ⟨_, _, ad, cap, rfl, _, _⟩ := h
  have Hgn := hide hgn
  clear hgn
  have hneg : ¬ (n : Int) < 0 := by omega
  obtain ⟨K, hK, hK1⟩ : ∃ K : Nat, 32 * k = K ∧ 32 * (k : Int) = (K : Int) := ⟨_, rfl, by omega⟩
  obtain ⟨M, hM⟩ : ∃ M, M = min n K := ⟨_, rfl⟩
  have HM : Hid ((∀ i, i ≤ M → ¬ (i < n ∧ i < K) → i = M) ∧ (∀ i, i < n → i < K → i < M) ∧ decide (A % 2 ^ M ≠ 0) = decide (A % 2 ^ n ≠ 0) ∧ M ≤ K) := by
    refine ⟨fun i hi h => by omega, fun i h1 h2 => by omega, ?_, by omega⟩
    rcases Nat.le_total n K with h1 | h1
    · rw [hM, Nat.min_eq_left h1]
    · have e1 : A < 2 ^ K := by rw [← hK, ← pw_two]; exact hA
      have e2 : A < 2 ^ n := Nat.lt_of_lt_of_le e1 (Nat.pow_le_pow_right (by omega) h1)
      rw [hM, Nat.min_eq_right h1, Nat.mod_eq_of_lt e1, Nat.mod_eq_of_lt e2]
  have hKb : K ≤ 262144 := by omega
  clear hM hn hK hA
  go_enter Tryd.func38, Tryd.ntmps38
  go_wp2_with fail
  refine HC.out.mono ?_
  rintro e w1 ⟨rfl, rfl⟩
  go_wp2_with fail
  refine HD.out.mono ?_
  rintro e w2 ⟨r, rfl, m, ho, hm, _, hb⟩
  have H2 : Hid (Own w2 w1.heap.size r m (A / 2 ^ n) ∧ Nrm m (A / 2 ^ n) ∧ Below w1.heap.size w1 w2 ∧ Row w2 (.slice ad k cap) k A) := ⟨ho, hm, hb, HR.out.below hb⟩
  clear ho hm hb
  go_wp2_with fail
  go_loop [9, 10] (fun t9 t10 => ∃ (i : Nat) (b : Bool), i ≤ M ∧ t9 = .bool b ∧ t10 = .int .i64 i ∧ Hid (decide (A % 2 ^ i ≠ 0) = b)) (fun _ t10 => M - (intOf t10).toNat)
  case atStart => exact ⟨0, false, by omega, rfl, rfl, by show _ = _; rw [Nat.pow_zero, Nat.mod_one]; rfl⟩
  case round =>
    obtain ⟨i, b, hi, rfl, rfl, HI⟩ := hrel
    by_cases hgo : i < n ∧ i < K
    · obtain ⟨h1, h2⟩ := hgo
      have hiM := HM.out.2.1 i h1 h2
      have h1' : (i : Int) < (n : Int) := by omega
      have h2' : (i : Int) < (K : Int) := by omega
      cases b with
      | true =>
        have HN : Hid (decide (A % 2 ^ (i + 1) ≠ 0) = true) := by
          show _ = _
          have := of_decide_eq_true HI.out
          rw [decide_eq_true_iff, gone_next]
          omega
        clear HI
        go_wp2_with fail
        go_round
        case rel => exact ⟨i + 1, true, by omega, rfl, by go_num, HN⟩
        case measure => simp [intOf]; omega
      | false =>
        have HN : Hid (decide (A % 2 ^ (i + 1) ≠ 0) = decide (A / 2 ^ i % 2 = 1)) := by
          show _ = _
          have h0 : A % 2 ^ i = 0 := by have := of_decide_eq_false HI.out; omega
          have hp := Nat.two_pow_pos i
          rw [gone_next, h0, Nat.zero_add]
          have h2 : A / 2 ^ i % 2 = 0 ∨ A / 2 ^ i % 2 = 1 := by omega
          rcases h2 with h2 | h2
          · rw [h2, Nat.mul_zero]; rfl
          · rw [h2, Nat.mul_one, decide_eq_true (by omega : 2 ^ i ≠ 0)]; rfl
        have HO := hide (ron_any _ k A i w2 H2.out.2.2.2 (by omega))
        clear HI
        generalize decide (A / 2 ^ i % 2 = 1) = b' at *
        go_wp2_with fail
        refine HO.out.mono ?_
        rintro e w3 ⟨rfl, rfl⟩
        go_wp2_with fail
        go_round
        case rel => exact ⟨i + 1, b', by omega, rfl, by go_num, HN⟩
        case measure => simp [intOf]; omega
    · have hiM := HM.out.1 i hi hgo
      obtain rfl : gn = b := by rw [← Hgn.out, ← HI.out, ← HM.out.2.2.1, ← hiM]
      by_cases h1 : i < n
      · have h1' : (i : Int) < (n : Int) := by omega
        have h2' : ¬ (i : Int) < (K : Int) := by omega
        go_wp2_with fail
        go_ret3
        exact ⟨r, rfl, m, H2.out.1, H2.out.2.1, H2.out.2.2.1⟩
      · have h1' : ¬ (i : Int) < (n : Int) := by omega
        go_wp2_with fail
        go_ret3
        exact ⟨r, rfl, m, H2.out.1, H2.out.2.1, H2.out.2.2.1⟩

set_option maxRecDepth 100000 in
theorem rRight_neg {S : Nat → Prop} (v : Value) (k A : Nat) (n : Int) (w : World) (h : RowX S w v k A) (hn : Nrm k A) (hk : k ≤ 8192) (hnn : n < 0) :
    Calls Tryd.prog 38 #[v, .int .i64 n] w fun e w' => e = .returned (.tuple #[.slice none 0 0, .bool false, .int .i64 24]) ∧ w' = w := by
  have HC := hide (rcheck_any v k A w h)
  rw [chk_nrm hn hk] at HC
  clear h hn
  go_enter Tryd.func38, Tryd.ntmps38
  go_wp2_with fail
  refine HC.out.mono ?_
  rintro e w1 ⟨rfl, rfl⟩
  go_wp2_with fail
  go_ret3
  exact ⟨rfl, rfl⟩

theorem low_bits {A t n : Nat} (h : IsLow A t) (hn : n ≤ t) : A / 2 ^ n % 2 = if n = t then 1 else 0 := by
  obtain ⟨m, rfl⟩ := h
  obtain ⟨d, rfl⟩ : ∃ d, t = n + d := ⟨t - n, by omega⟩
  rw [Nat.pow_add, Nat.mul_assoc, Nat.mul_div_cancel_left _ (Nat.two_pow_pos n)]
  rcases d with _ | d
  · rw [if_pos (by omega : n = n + 0), Nat.pow_zero, Nat.one_mul]; omega
  · rw [if_neg (by omega), Nat.pow_succ, Nat.mul_comm (2 ^ d) 2, Nat.mul_assoc, Nat.mul_mod_right]

set_option maxRecDepth 100000 in
theorem rLow_row {S : Nat → Prop} (v : Value) (k A t : Nat) (w : World) (h : RowX S w v k A) (hn : Nrm k A) (hk : k ≤ 8192) (ht : IsLow A t) :
    Calls Tryd.prog 42 #[v] w fun e w' => e = .returned (.int .i64 t) ∧ w' = w := by
  have HC := hide (rcheck_any v k A w h)
  rw [chk_nrm hn hk] at HC
  have HR := hide h
  have HT := hide ht
  have hA : A ≠ 0 := by
    obtain ⟨m, rfl⟩ := ht
    have : 0 < 2 ^ t * (2 * m + 1) := Nat.mul_pos (Nat.two_pow_pos t) (by omega)
    omega
  have hk0 : ¬ k = 0 := fun e => hA (hn.zero_iff.1 e)
  have hk1 : ((k : Int) == 0) = false := by simp; omega
  have htb : t < 262144 := by
    have h1 := (ht.mod (n := 32 * k)).1
    have h2 : A < 2 ^ (32 * k) := by rw [← pw_two]; exact h.1
    have := h1 (by rw [Nat.mod_eq_of_lt h2]; exact hA)
    omega
  obtain ⟨_, _, ad, cap, rfl, _, _⟩ := h
  clear hn ht hA
  go_enter Tryd.func42, Tryd.ntmps42
  go_wp2_with fail
  refine HC.out.mono ?_
  rintro e w1 ⟨rfl, rfl⟩
  go_wp2_with fail
  go_loop [3] (fun t3 => ∃ i : Nat, i ≤ t ∧ t3 = .int .i64 i) (fun t3 => t - (intOf t3).toNat)
  case atStart => exact ⟨0, by omega, rfl⟩
  case round =>
    obtain ⟨i, hi, rfl⟩ := hrel
    have HO := hide (ron_any _ k A i w1 HR.out (by omega))
    rw [low_bits HT.out hi] at HO
    by_cases hit : i = t
    · rw [if_pos hit] at HO
      have Hit := hide hit
      clear hit
      go_wp2_with fail
      refine HO.out.mono ?_
      rintro e w2 ⟨rfl, rfl⟩
      go_wp2_with fail
      go_ret
      exact ⟨ret_int (by have := Hit.out; omega), rfl⟩
    · rw [if_neg hit] at HO
      go_wp2_with fail
      refine HO.out.mono ?_
      rintro e w2 ⟨rfl, rfl⟩
      go_wp2_with fail
      go_round
      case rel => exact ⟨i + 1, by omega, by go_num⟩
      case measure => simp [intOf]; omega

set_option maxRecDepth 100000 in
theorem rLow_zero {S : Nat → Prop} (v : Value) (k : Nat) (w : World) (h : RowX S w v k 0) (hn : Nrm k 0) :
    Calls Tryd.prog 42 #[v] w fun e w' => e = .returned (.int .i64 0) ∧ w' = w := by
  obtain rfl : k = 0 := hn.zero_iff.2 rfl
  have HC := hide (rcheck_any v 0 0 w h)
  rw [chk_nrm hn (by omega)] at HC
  obtain ⟨_, _, ad, cap, rfl, _, _⟩ := h
  go_enter Tryd.func42, Tryd.ntmps42
  go_wp2_with fail
  refine HC.out.mono ?_
  rintro e w1 ⟨rfl, rfl⟩
  go_wp2_with fail
  go_ret
  exact ⟨rfl, rfl⟩

set_option maxRecDepth 100000 in
theorem Small_big {S : Nat → Prop} (v : Value) (k A : Nat) (w : World) (h : RowX S w v k A) (hn : Nrm k A) (hk : k ≤ 8192) (h2 : 2 < k) :
    Calls Tryd.prog 17 #[v] w fun e w' => e = .returned (.tuple #[.int .u64 0, .bool false]) ∧ w' = w := by
  have HC := hide (check_any v k A w h)
  rw [chk_nrm hn hk] at HC
  obtain ⟨_, _, ad, cap, rfl, _, _⟩ := h
  have hl : (2 : Int) < (k : Int) := by omega
  clear hn
  go_enter Tryd.func17, Tryd.ntmps17
  go_wp2_with fail
  refine HC.out.mono ?_
  rintro e w1 ⟨rfl, rfl⟩
  go_wp2_with fail
  go_ret2
  exact ⟨rfl, rfl⟩

set_option maxRecDepth 100000 in
theorem rSmall_big {S : Nat → Prop} (v : Value) (k A : Nat) (w : World) (h : RowX S w v k A) (hn : Nrm k A) (hk : k ≤ 8192) (h2 : 2 < k) :
    Calls Tryd.prog 18 #[v] w fun e w' => e = .returned (.tuple #[.int .u64 0, .bool false]) ∧ w' = w := by
  have HC := hide (rcheck_any v k A w h)
  rw [chk_nrm hn hk] at HC
  obtain ⟨_, _, ad, cap, rfl, _, _⟩ := h
  have hl : (2 : Int) < (k : Int) := by omega
  clear hn
  go_enter Tryd.func18, Tryd.ntmps18
  go_wp2_with fail
  refine HC.out.mono ?_
  rintro e w1 ⟨rfl, rfl⟩
  go_wp2_with fail
  go_ret2
  exact ⟨rfl, rfl⟩

set_option maxRecDepth 100000 in
theorem rSmall_row {S : Nat → Prop} (v : Value) (k A : Nat) (w : World) (h : RowX S w v k A) (hn : Nrm k A) (hk : k ≤ 2) :
    Calls Tryd.prog 18 #[v] w fun e w' => e = .returned (.tuple #[.int .u64 A, .bool true]) ∧ w' = w := by
  have HC := hide (rcheck_any v k A w h)
  rw [chk_nrm hn (by omega)] at HC
  obtain ⟨hN, _, ad, cap, rfl, _, hcell⟩ := h
  have HX : Hid (0 < k → ∃ g o, ad = some ⟨g, o, none⟩ ∧ S g ∧ ∀ j, j < k → w.cell? ⟨g, o + j, none⟩ = some (.int .u32 (dg A j : Nat))) := hcell
  have hl : ¬ (2 : Int) < (k : Int) := by omega
  have HA : Hid (A < 4294967296 ^ k ∧ A < 18446744073709551616) := ⟨hN, by
    have : 4294967296 ^ k ≤ 4294967296 ^ 2 := Nat.pow_le_pow_right (by omega) hk
    omega⟩
  clear hcell hN hn
  go_enter Tryd.func18, Tryd.ntmps18
  go_wp2_with fail
  refine HC.out.mono ?_
  rintro e w1 ⟨rfl, rfl⟩
  go_wp2_with fail
  go_loop [4, 5] (fun t4 t5 => ∃ j : Nat, j ≤ k ∧ t4 = .int .u64 (A / 4294967296 ^ j : Nat) ∧ t5 = .int .i64 ((j : Int) - 1)) (fun _ t5 => (intOf t5 + 1).toNat)
  case atStart => exact ⟨k, Nat.le_refl _, by rw [Nat.div_eq_of_lt HA.out.1]; rfl, by go_num⟩
  case round =>
    obtain ⟨j, hj, rfl, rfl⟩ := hrel
    by_cases hj0 : j = 0
    · subst hj0
      rw [Nat.pow_zero, Nat.div_one]
      go_wp2_with fail
      go_ret2
      exact ⟨rfl, rfl⟩
    · obtain ⟨i, rfl⟩ : ∃ i, j = i + 1 := ⟨j - 1, by omega⟩
      rw [show ((i + 1 : Nat) : Int) - 1 = (i : Int) from by omega]
      have hik : (i : Int) < (k : Int) := by omega
      obtain ⟨g, o, rfl, _, hc⟩ := HX.out (by omega)
      have hx := hc i (by omega)
      have Hd := hide (div_succ A i)
      have hl2 : A / 4294967296 ^ i < 18446744073709551616 := Nat.lt_of_le_of_lt (Nat.div_le_self _ _) HA.out.2
      have hxl := dg_lt A i
      rw [Hd.out] at hl2
      clear hc
      generalize dg A i = x at *
      generalize A / 4294967296 ^ (i + 1) = y at *
      obtain ⟨z, hz, hz1⟩ : ∃ z : Nat, y * 4294967296 + x = z ∧ (y : Int) * 4294967296 + (x : Int) = (z : Int) := ⟨_, rfl, by omega⟩
      have hyz : (y : Int) * 4294967296 < 18446744073709551616 := by omega
      rw [hz] at Hd hl2
      clear hz
      go_wp2_with fail
      go_round
      case rel => exact ⟨i, by omega, by rw [Hd.out], by go_num⟩
      case measure => simp [intOf]

theorem two_limbs (n : Nat) (h : n < 18446744073709551616) : dg n 0 = n % 4294967296 ∧ dg n 1 = n / 4294967296 := by
  unfold dg
  omega

set_option maxRecDepth 100000 in
theorem rFrom_own (n : Nat) (w : World) (hn : n < 18446744073709551616) :
    Calls Tryd.prog 14 #[.int .u64 n] w fun e w' => ∃ r, e = .returned r ∧ ∃ k, Own w' w.heap.size r k n ∧ Nrm k n ∧ k ≤ 2 ∧ Below w.heap.size w w' := by
  obtain ⟨a, ha, ha1⟩ : ∃ a : Nat, n % 4294967296 = a ∧ (n : Int) % 4294967296 = (a : Int) := ⟨_, rfl, by omega⟩
  obtain ⟨b, hb, hb1⟩ : ∃ b : Nat, n / 4294967296 = b ∧ (n : Int) / 4294967296 = (b : Int) := ⟨_, rfl, by omega⟩
  have hal : a < 4294967296 := by omega
  have hbl : b < 4294967296 := by omega
  have HR : Hid (Row (w.alloc (.cells #[.int .u32 (a : Int), .int .u32 (b : Int)] 24)) (.slice (some ⟨w.heap.size, 0, none⟩) 2 2) 2 n ∧ Below w.heap.size w (w.alloc (.cells #[.int .u32 (a : Int), .int .u32 (b : Int)] 24))) := by
    refine ⟨⟨by show n < 4294967296 ^ 2; omega, by omega, _, 2, rfl, Nat.le_refl _, fun _ => ⟨w.heap.size, 0, rfl, trivial, fun j hj => ?_⟩⟩, (Below.refl _ _).alloc (Nat.le_refl _) _⟩
    have h2 := two_limbs n hn
    rw [Nat.zero_add, cell_of_row _ _ _ _ _ _ (heap_alloc_new _ _)]
    have : j = 0 ∨ j = 1 := by omega
    rcases this with rfl | rfl
    · rw [h2.1, ha]; rfl
    · rw [h2.2, hb]; rfl
  clear ha hb
  go_enter Tryd.func14, Tryd.ntmps14
  go_wp2_with fail
  generalize w.alloc (.cells #[.int .u32 (a : Int), .int .u32 (b : Int)] 24) = wa at *
  refine (rtrim_any _ 2 n wa HR.out.1 (by omega)).mono ?_
  rintro e w3 ⟨r, rfl, m, ho, hn, hnk, hb⟩
  have HF : Hid (Own w3 w.heap.size r m n ∧ Nrm m n ∧ m ≤ 2 ∧ Below w.heap.size w w3) := ⟨ho.mono HR.out.2.size, hn, hnk, HR.out.2.trans (hb.mono HR.out.2.size)⟩
  clear ho hn hb
  go_wp2_with fail
  go_ret
  exact ⟨r, rfl, m, HF.out⟩

end Go.Proofs.YtmfimhpbdbbpoaaDoor

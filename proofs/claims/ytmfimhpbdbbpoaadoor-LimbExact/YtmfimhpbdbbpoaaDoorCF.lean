/- The document's Power. -/
import Derived.Test.YtmfimhpbdbbpoaaDoorCE
import Derived.Test.YtmfimhpbdbbpoaaDoorAH
namespace Go.Proofs.YtmfimhpbdbbpoaaDoor
open Go.RowKit
open M
set_option linter.unusedVariables false
set_option linter.unusedSimpArgs false

set_option maxRecDepth 100000 in
theorem rPower_neg (b : Nat) (n : Int) (w : World) (hn : n < 0) :
    Calls Tryd.prog 10 #[.int .u32 b, .int .i64 n] w fun e w' => e = .returned (.tuple #[.slice none 0 0, .int .i64 24]) ∧ w' = w := by
  go_enter Tryd.func10, Tryd.ntmps10
  go_wp2_with fail
  go_ret2
  exact ⟨rfl, rfl⟩

set_option maxRecDepth 100000 in
set_option maxHeartbeats 2000000 in
theorem rPower_own (b n : Nat) (w : World) (hb : b < 4294967296) (hn : n ≤ 500) :
    Calls Tryd.prog 10 #[.int .u32 b, .int .i64 n] w fun e w' => ∃ r, e = .returned (.tuple #[r, .int .i64 0]) ∧ ∃ m, Own w' w.heap.size r m (b ^ n) ∧ Nrm m (b ^ n) ∧ m ≤ 1010 ∧ Below w.heap.size w w' := by
  have hneg : ¬ (n : Int) < 0 := by omega
  by_cases h0 : b = 0 ∧ 0 < n
  · obtain ⟨rfl, h1⟩ := h0
    have h1' : (0 : Int) < (n : Int) := by omega
    have HE : Hid (0 ^ n = 0) := Nat.zero_pow h1
    go_enter Tryd.func10, Tryd.ntmps10
    go_wp2_with fail
    go_ret2
    exact ⟨_, rfl, 0, Own.nil _ _, nrm_zero, by omega, Below.refl _ _⟩
  · have HF := hide (rFrom_own 1 w (by omega))
    obtain ⟨M, hM⟩ : ∃ M, M = if 1 < b then n else 0 := ⟨_, rfl⟩
    have HM : Hid ((∀ i, i ≤ M → ¬ (i < n ∧ 1 < b) → i = M) ∧ (∀ i, i < n → 1 < b → i < M) ∧ b ^ M = b ^ n ∧ M ≤ n) := by
      by_cases hb1 : 1 < b
      · rw [if_pos hb1] at hM
        subst hM
        exact ⟨fun i hi h => by omega, fun i h1 _ => h1, rfl, Nat.le_refl _⟩
      · rw [if_neg hb1] at hM
        subst hM
        refine ⟨fun i hi _ => by omega, fun i _ h2 => absurd h2 hb1, ?_, by omega⟩
        rcases Nat.eq_zero_or_pos n with e | e
        · rw [e]
        · have : b = 1 := by omega
          rw [this, Nat.one_pow, Nat.one_pow]
    have Hz : Hid (¬ (b = 0 ∧ 0 < n)) := h0
    have Hpw : Hid (∀ i, b ^ (i + 1) = b ^ i * b) := fun i => Nat.pow_succ _ _
    clear hM h0
    by_cases hb0 : b = 0
    · have hn0 : n = 0 := by have := Hz.out; omega
      subst hn0 hb0
      go_enter Tryd.func10, Tryd.ntmps10
      go_wp2_with fail
      refine HF.out.mono ?_
      rintro e w1 ⟨r1, rfl, k1, ho1, hn1, hk1, hb1⟩
      have H1 : Hid (Own w1 w.heap.size r1 k1 1 ∧ Nrm k1 1 ∧ k1 ≤ 2 ∧ Below w.heap.size w w1) := ⟨ho1, hn1, hk1, hb1⟩
      clear ho1 hn1 hb1 HF
      go_wp2_with fail
      go_loop [6, 7] (fun t6 t7 => t6 = r1 ∧ t7 = .int .i64 0) (fun _ _ => 0)
      case atStart => exact ⟨rfl, rfl⟩
      case round =>
        obtain ⟨rfl, rfl⟩ := hrel
        go_wp2_with fail
        go_ret2
        exact ⟨_, rfl, k1, H1.out.1, H1.out.2.1, by have := H1.out.2.2.1; omega, H1.out.2.2.2⟩
    · have hb1 : ((b : Int) == 0) = false := by simp; omega
      go_enter Tryd.func10, Tryd.ntmps10
      go_wp2_with fail
      refine HF.out.mono ?_
      rintro e w1 ⟨r1, rfl, k1, ho1, hn1, hk1, hbb⟩
      have H1 : Hid (Own w1 w.heap.size r1 k1 1 ∧ Nrm k1 1 ∧ k1 ≤ 2 ∧ Below w.heap.size w w1) := ⟨ho1, hn1, hk1, hbb⟩
      clear ho1 hn1 hbb HF
      go_wp2_with fail
      go_loopw [6, 7] (fun t6 t7 wr => ∃ i k : Nat, i ≤ M ∧ k ≤ 2 + 2 * i ∧ t7 = .int .i64 i ∧ Hid (Own wr w.heap.size t6 k (b ^ i) ∧ Nrm k (b ^ i) ∧ Below w.heap.size w wr)) (fun _ t7 _ => M - (intOf t7).toNat)
      case atStart => exact ⟨0, k1, by omega, by omega, rfl, by rw [Nat.pow_zero]; exact H1.out.1, by rw [Nat.pow_zero]; exact H1.out.2.1, H1.out.2.2.2⟩
      case round =>
        obtain ⟨i, k, hi, hk, rfl, HS⟩ := hrel
        have hMn := HM.out.2.2.2
        by_cases hgo : i < n ∧ 1 < b
        · obtain ⟨h1, h2⟩ := hgo
          have hiM := HM.out.2.1 i h1 h2
          have h1' : (i : Int) < (n : Int) := by omega
          have h2' : (1 : Int) < (b : Int) := by omega
          have HA : Hid (Row (wr.alloc (.cells #[.int .u32 (b : Int)] 24)) (.slice (some ⟨wr.heap.size, 0, none⟩) 1 1) 1 b ∧ Below wr.heap.size wr (wr.alloc (.cells #[.int .u32 (b : Int)] 24))) := by
            refine ⟨⟨by rw [Nat.pow_one]; exact hb, by omega, _, 1, rfl, Nat.le_refl _, fun _ => ⟨wr.heap.size, 0, rfl, trivial, fun j hj => ?_⟩⟩, (Below.refl _ _).alloc (Nat.le_refl _) _⟩
            obtain rfl : j = 0 := by omega
            rw [Nat.add_zero, cell_of_row _ _ _ _ _ _ (heap_alloc_new _ _)]
            have : dg b 0 = b := by unfold dg; rw [Nat.pow_zero, Nat.div_one, Nat.mod_eq_of_lt hb]
            rw [this]; rfl
          have HT := hide (rtimes_any _ _ k (b ^ i) 1 b _ (HS.out.1.row.below HA.out.2) HA.out.1 (by omega) (by omega))
          go_wp2_with fail
          refine HT.out.mono ?_
          rintro e w3 ⟨r3, rfl, n3, ho3, hn3, hk3, hb3⟩
          have H3 : Hid (Own w3 w.heap.size r3 n3 (b ^ (i + 1)) ∧ Nrm n3 (b ^ (i + 1)) ∧ Below w.heap.size w w3) := by
            rw [Hpw.out i]
            exact ⟨ho3.mono (by have := HS.out.2.2.size; have := HA.out.2.size; omega), hn3, HS.out.2.2.trans ((HA.out.2.trans (hb3.mono HA.out.2.size)).mono HS.out.2.2.size)⟩
          obtain ⟨_, _, ad3, cap3, rfl, _, _⟩ := ho3.row
          have hlen : ¬ (8192 : Int) < (n3 : Int) := by omega
          clear ho3 hn3 hb3 HT HA HS
          go_wp2_with fail
          go_roundw
          case rel => exact ⟨i + 1, n3, by omega, by omega, by go_num, H3⟩
          case measure => simp [intOf]; omega
        · have hiM := HM.out.1 i hi hgo
          have HE : Hid (b ^ i = b ^ n) := by show _ = _; rw [hiM]; exact HM.out.2.2.1
          by_cases h1 : i < n
          · have h1' : (i : Int) < (n : Int) := by omega
            have h2' : ¬ (1 : Int) < (b : Int) := by omega
            go_wp2_with fail
            go_ret2
            exact ⟨_, rfl, k, by rw [← HE.out]; exact HS.out.1, by rw [← HE.out]; exact HS.out.2.1, by omega, HS.out.2.2⟩
          · have h1' : ¬ (i : Int) < (n : Int) := by omega
            go_wp2_with fail
            go_ret2
            exact ⟨_, rfl, k, by rw [← HE.out]; exact HS.out.1, by rw [← HE.out]; exact HS.out.2.1, by omega, HS.out.2.2⟩

end Go.Proofs.YtmfimhpbdbbpoaaDoor

/- The document's whole numbers (chapter 3's): Trim, Of, Cmp. -/
import Derived.Test.YtmkploknoohliaaGreatB
namespace Go.Proofs.YtmkploknoohliaaGreat
open Go.RowKit
open M
set_option linter.unusedVariables false
set_option linter.unusedSimpArgs false

set_option maxRecDepth 100000 in
set_option maxHeartbeats 2000000 in
theorem nTrim {S : Nat → Prop} (v : Value) (k N : Nat) (w : World) (h : RowX S w v k N) :
    Calls Tryz.prog 94 #[v] w fun e w' => ∃ r, e = .returned r ∧ ∃ n, RowX S w r n N ∧ Nrm n N ∧ n ≤ k ∧ w' = w := by
  obtain ⟨hN, hk, ad, cap, rfl, hc, hcell⟩ := h
  have HC : Hid (0 < k → ∃ g o, ad = some ⟨g, o, none⟩ ∧ S g ∧ ∀ j, j < k → w.cell? ⟨g, o + j, none⟩ = some (.int .u32 (dg N j : Nat))) := hcell
  have HN : Hid (N < 4294967296 ^ k) := hN
  clear hcell hN
  go_enter Tryz.func94, Tryz.ntmps94
  go_wp2_with fail
  go_loop [3] (fun t3 => ∃ n : Nat, n ≤ k ∧ t3 = .int .i64 n ∧ Hid (N < 4294967296 ^ n)) (fun t3 => (intOf t3).toNat)
  case atStart => exact ⟨k, by omega, rfl, HN⟩
  case round =>
    obtain ⟨n, hn, rfl, Hn⟩ := hrel
    have hncap : n ≤ cap := by omega
    by_cases h0 : n = 0
    · subst h0
      have H0 : Hid (N = 0) := by show _ = _; have := Hn.out; omega
      have HR : Hid (∀ ad', RowX S w (.slice ad' 0 cap) 0 N) := fun ad' => ⟨Hn.out, by omega, ad', cap, rfl, by omega, fun h => by omega⟩
      go_wp2_with fail
      go_ret
      exact ⟨_, rfl, 0, HR.out _, by rw [H0.out]; exact nrm_zero, Nat.zero_le _, rfl⟩
    · obtain ⟨m, rfl⟩ : ∃ m, n = m + 1 := ⟨n - 1, by omega⟩
      have HC2 := hide HC.out
      obtain ⟨g, o, rfl, hS, hj⟩ := HC.out (by omega)
      have hci := hj m (by omega)
      have h2' : (0 : Int) < ((m + 1 : Nat) : Int) := by omega
      have Hd : Hid (dg N m = 0 → N < 4294967296 ^ m) := fun h => Nrm.drop Hn.out h
      have Ht : Hid (dg N m ≠ 0 → Nrm (m + 1) N) := fun h => Nrm.of_top Hn.out h
      have HR : Hid (RowX S w (.slice (some ⟨g, o, none⟩) (m + 1) cap) (m + 1) N) := ⟨Hn.out, by omega, _, cap, rfl, by omega, fun _ => ⟨g, o, rfl, hS, fun j hj' => hj j (by omega)⟩⟩
      clear hj h0 HC HN
      generalize dg N m = x at *
      by_cases hx : x = 0
      · subst hx
        go_wp2_with fail
        go_round
        case rel => exact ⟨m, by omega, by go_num, Hd.out rfl⟩
        case measure => simp [intOf]
      · have hx' : ((x : Int) == 0) = false := by rw [beq_eq_false_iff_ne]; omega
        have HNr := hide (Ht.out hx)
        clear hx
        go_wp2_with fail
        go_ret
        exact ⟨_, rfl, m + 1, HR.out, HNr.out, hn, rfl⟩

theorem two_limbs (n : Nat) (hn : n < 18446744073709551616) : dg n 0 = n % 4294967296 ∧ dg n 1 = n / 4294967296 ∧ n < 4294967296 ^ 2 := by
  unfold dg
  omega
set_option maxRecDepth 100000 in
theorem nOf (n : Nat) (w : World) (hn : n < 18446744073709551616) : Calls Tryz.prog 67 #[.int .u64 n] w fun e w' => ∃ r, e = .returned r ∧ ∃ k, Row w' r k n ∧ Nrm k n ∧ k ≤ 2 ∧ Below w.heap.size w w' := by
  obtain ⟨d0, d1, dl⟩ := two_limbs n hn
  obtain ⟨x, hx, hx'⟩ : ∃ x : Nat, n % 4294967296 = x ∧ (n : Int) % 4294967296 = (x : Int) := ⟨_, rfl, by omega⟩
  obtain ⟨y, hy, hy'⟩ : ∃ y : Nat, n / 4294967296 = y ∧ (n : Int) / 4294967296 = (y : Int) := ⟨_, rfl, by omega⟩
  have hyl : y < 4294967296 := by omega
  have hym : (y : Int) % 4294967296 = (y : Int) := by omega
  have HT : Hid (∀ w0 : World, RowX (fun _ => True) (w0.alloc (.cells #[.int .u32 (x : Int), .int .u32 (y : Int)] 38)) (.slice (some ⟨w0.heap.size, 0, none⟩) 2 2) 2 n) := by
    intro w0
    refine ⟨dl, by omega, _, 2, rfl, by omega, fun _ => ⟨w0.heap.size, 0, rfl, trivial, fun j hj => ?_⟩⟩
    have hj2 : j = 0 ∨ j = 1 := by omega
    rcases hj2 with rfl | rfl
    · rw [d0, hx]; simp
    · rw [d1, hy]; simp
  clear d0 d1 dl hx hy hn
  go_enter Tryz.func67, Tryz.ntmps67
  go_wp2_with (simp only [hx', hy', hym])
  refine (nTrim _ 2 n _ (HT.out w)).mono ?_
  rintro e w1 ⟨r, rfl, k, hr, hk, hk2, rfl⟩
  have H1 := hide (And.intro hr (And.intro hk hk2))
  clear hr hk hk2
  go_wp2_with fail
  go_ret
  exact ⟨r, rfl, k, H1.out.1, H1.out.2.1, H1.out.2.2, (Below.refl _ w).alloc (Nat.le_refl _) _⟩

set_option maxRecDepth 100000 in
set_option maxHeartbeats 1000000 in
theorem nCmp {S S' : Nat → Prop} (v u : Value) (k A m C : Nat) (w : World) (h : RowX S w v k A) (h' : RowX S' w u m C) (hn : Nrm k A) (hn' : Nrm m C) :
    Calls Tryz.prog 101 #[v, u] w fun e w' => e = .returned (.int .i64 (M.cmpI A C)) ∧ ∃ n, w' = w.drewN n := by
  obtain ⟨hN, hk, ad, cap, rfl, hc, hcell⟩ := h
  obtain ⟨hN', hk', ad', cap', rfl, hc', hcell'⟩ := h'
  by_cases hkm : k = m
  · subst hkm
    have HC : Hid (0 < k → ∃ g o, ad = some ⟨g, o, none⟩ ∧ S g ∧ ∀ j, j < k → w.cell? ⟨g, o + j, none⟩ = some (.int .u32 (dg A j : Nat))) := hcell
    have HC' : Hid (0 < k → ∃ g o, ad' = some ⟨g, o, none⟩ ∧ S' g ∧ ∀ j, j < k → w.cell? ⟨g, o + j, none⟩ = some (.int .u32 (dg C j : Nat))) := hcell'
    have HN : Hid (A < 4294967296 ^ k ∧ C < 4294967296 ^ k) := ⟨hN, hN'⟩
    clear hcell hcell' hN hN' hn hn'
    go_enter Tryz.func101, Tryz.ntmps101
    go_wp2_with fail
    go_loopw [5] (fun t5 wr => ∃ j : Nat, j ≤ k ∧ t5 = .int .i64 ((j : Int) - 1) ∧ Hid (A / 4294967296 ^ j = C / 4294967296 ^ j ∧ ∃ n, wr = w.drewN n)) (fun t5 _ => (intOf t5 + 1).toNat)
    case atStart => exact ⟨k, Nat.le_refl _, by go_num, by show _ = _; rw [Nat.div_eq_of_lt HN.out.1, Nat.div_eq_of_lt HN.out.2], 0, rfl⟩
    case round =>
      obtain ⟨j, hj, rfl, HI⟩ := hrel
      by_cases hj0 : j = 0
      · subst hj0
        have HE : Hid (M.cmpI A C = 0) := by
          have := HI.out.1
          rw [Nat.pow_zero, Nat.div_one, Nat.div_one] at this
          rw [this]; exact M.cmpI_eq C
        go_wp2_with fail
        go_ret
        exact ⟨by rw [HE.out]; rfl, HI.out.2⟩
      · obtain ⟨i, rfl⟩ : ∃ i, j = i + 1 := ⟨j - 1, by omega⟩
        have hij : ((i + 1 : Nat) : Int) - 1 = (i : Int) := by omega
        rw [hij]
        have hik : (i : Int) < (k : Int) := by omega
        obtain ⟨g, o, rfl, _, hc1⟩ := HC.out (by omega)
        obtain ⟨g', o', rfl, _, hc2⟩ := HC'.out (by omega)
        have HW := hide HI.out.2
        have hx : wr.cell? ⟨g, o + i, none⟩ = some (.int .u32 (dg A i : Nat)) := by obtain ⟨n, rfl⟩ := HW.out; exact hc1 i (by omega)
        have hy : wr.cell? ⟨g', o' + i, none⟩ = some (.int .u32 (dg C i : Nat)) := by obtain ⟨n, rfl⟩ := HW.out; exact hc2 i (by omega)
        have HD : Hid (A / 4294967296 ^ i = A / 4294967296 ^ (i + 1) * 4294967296 + dg A i ∧ C / 4294967296 ^ i = C / 4294967296 ^ (i + 1) * 4294967296 + dg C i ∧ A / 4294967296 ^ (i + 1) = C / 4294967296 ^ (i + 1)) := ⟨div_succ A i, div_succ C i, HI.out.1⟩
        clear hc1 hc2 HI HC HC'
        generalize dg A i = x at *
        generalize dg C i = y at *
        by_cases hxy : x < y
        · have hxy' : (x : Int) < (y : Int) := by omega
          have HQ : Hid (M.cmpI A C = -1) := M.cmpI_lt (lt_of_div (i := i) (by rw [HD.out.1, HD.out.2.1, HD.out.2.2]; omega))
          go_wp2_with fail
          go_quiet (fail)
          go_wp2_with fail
          go_ret
          refine ⟨by rw [HQ.out]; rfl, ?_⟩
          obtain ⟨n, rfl⟩ := HW.out
          exact ⟨_, World.drewN_drewN _ _ _⟩
        · have hxy' : ¬ (x : Int) < (y : Int) := by omega
          by_cases hyx : y < x
          · have hyx' : (y : Int) < (x : Int) := by omega
            have HQ : Hid (M.cmpI A C = 1) := M.cmpI_gt (lt_of_div (i := i) (by rw [HD.out.1, HD.out.2.1, HD.out.2.2]; omega))
            go_wp2_with fail
            go_quiet (fail)
            have hx2 : (wr.drewN nq).cell? ⟨g, o + i, none⟩ = some (.int .u32 (x : Nat)) := hx
            have hy2 : (wr.drewN nq).cell? ⟨g', o' + i, none⟩ = some (.int .u32 (y : Nat)) := hy
            have HW2 : Hid (∃ n, wr.drewN nq = w.drewN n) := by obtain ⟨n, rfl⟩ := HW.out; exact ⟨_, World.drewN_drewN _ _ _⟩
            generalize wr.drewN nq = wq at *
            go_wp2_with fail
            go_quiet (fail)
            go_wp2_with fail
            go_ret
            refine ⟨by rw [HQ.out]; rfl, ?_⟩
            obtain ⟨n, rfl⟩ := HW2.out
            exact ⟨_, World.drewN_drewN _ _ _⟩
          · obtain rfl : x = y := by omega
            have HQ : Hid (A / 4294967296 ^ i = C / 4294967296 ^ i) := by show _ = _; rw [HD.out.1, HD.out.2.1, HD.out.2.2]
            go_wp2_with fail
            go_quiet (fail)
            have hx2 : (wr.drewN nq).cell? ⟨g, o + i, none⟩ = some (.int .u32 (x : Nat)) := hx
            have hy2 : (wr.drewN nq).cell? ⟨g', o' + i, none⟩ = some (.int .u32 (x : Nat)) := hy
            have HW2 : Hid (∃ n, wr.drewN nq = w.drewN n) := by obtain ⟨n, rfl⟩ := HW.out; exact ⟨_, World.drewN_drewN _ _ _⟩
            generalize wr.drewN nq = wq at *
            go_wp2_with fail
            go_quiet (fail)
            go_wp2_with fail
            go_roundw
            case rel =>
              refine ⟨i, by omega, by go_num, HQ.out, ?_⟩
              obtain ⟨n, rfl⟩ := HW2.out
              exact ⟨_, World.drewN_drewN _ _ _⟩
            case measure => simp [intOf]
  · have hne : ((k : Int) == (m : Int)) = false := by simp; omega
    have hne2 : ((k : Int) != (m : Int)) = true := by simp; omega
    by_cases hlt : k < m
    · have hlt' : (k : Int) < (m : Int) := by omega
      have HQ : Hid (M.cmpI A C = -1) := M.cmpI_lt (hn.lt_of hn' hlt)
      clear hcell hcell'
      go_enter Tryz.func101, Tryz.ntmps101
      go_wp2_with fail
      go_ret
      exact ⟨by rw [HQ.out]; rfl, 0, rfl⟩
    · have hlt' : ¬ (k : Int) < (m : Int) := by omega
      have HQ : Hid (M.cmpI A C = 1) := M.cmpI_gt (hn'.lt_of hn (by omega))
      clear hcell hcell'
      go_enter Tryz.func101, Tryz.ntmps101
      go_wp2_with fail
      go_ret
      exact ⟨by rw [HQ.out]; rfl, 0, rfl⟩

end Go.Proofs.YtmkploknoohliaaGreat

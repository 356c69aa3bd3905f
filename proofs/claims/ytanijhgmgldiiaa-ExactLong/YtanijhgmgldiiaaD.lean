/- compare, Cmp. -/
import Derived.Test.YtanijhgmgldiiaaC
namespace Go.Proofs.Ytanijhgmgldiiaa
open Go.RowKit
open M
set_option linter.unusedVariables false
set_option linter.unusedSimpArgs false

theorem hide_ret {k : IntKind} {a b : Int} (h : Hid (a = b)) : Ending.returned (.int k a) = .returned (.int k b) := by rw [h.out]

set_option maxRecDepth 100000 in
set_option maxHeartbeats 1000000 in
theorem compare_any {S S' : Nat → Prop} (v u : Value) (k A m C : Nat) (w : World) (h : RowX S w v k A) (h' : RowX S' w u m C) (hn : Nrm k A) (hn' : Nrm m C) :
    Calls Try.prog 28 #[v, u] w fun e w' => e = .returned (.int .i64 (cmpI A C)) ∧ ∃ n, w' = w.drewN n := by
  obtain ⟨hN, hk, ad, cap, rfl, hc, hcell⟩ := h
  obtain ⟨hN', hk', ad', cap', rfl, hc', hcell'⟩ := h'
  have HC : Hid (0 < k → ∃ g o, ad = some ⟨g, o, none⟩ ∧ S g ∧ ∀ j, j < k → w.cell? ⟨g, o + j, none⟩ = some (.int .u32 (dg A j : Nat))) := hcell
  have HC' : Hid (0 < m → ∃ g o, ad' = some ⟨g, o, none⟩ ∧ S' g ∧ ∀ j, j < m → w.cell? ⟨g, o + j, none⟩ = some (.int .u32 (dg C j : Nat))) := hcell'
  have HN := hide hn
  have HN' := hide hn'
  clear hcell hcell' hN hN' hn hn'
  by_cases hkm : k = m
  · subst hkm
    go_enter Try.func28, Try.ntmps28
    go_wp2_with fail
    go_loopw [20] (fun t20 wr => ∃ i : Nat, i ≤ k ∧ t20 = .int .i64 i ∧ Hid (A / 4294967296 ^ (k - i) = C / 4294967296 ^ (k - i) ∧ ∃ n, wr = w.drewN n)) (fun t20 _ => k - (intOf t20).toNat)
    case atStart => exact ⟨0, by omega, rfl, by show _ = _; rw [Nat.sub_zero, Nat.div_eq_of_lt HN.out.1, Nat.div_eq_of_lt HN'.out.1], 0, rfl⟩
    case round =>
      obtain ⟨i, hi, rfl, HI⟩ := hrel
      by_cases hlt : i < k
      · have hlt' : (i : Int) < (k : Int) := by omega
        obtain ⟨j, hj, hj'⟩ : ∃ j : Nat, k - i = j + 1 ∧ (k : Int) - 1 - (i : Int) = (j : Int) := ⟨k - 1 - i, by omega, by omega⟩
        have HE : Hid (A / 4294967296 ^ (j + 1) = C / 4294967296 ^ (j + 1)) := by have := HI.out.1; rw [hj] at this; exact this
        have Hj := hide hj
        have HW := hide HI.out.2
        have hjk : j < k := by omega
        have hjk' : (j : Int) < (k : Int) := by omega
        obtain ⟨g, o, rfl, _, hc1⟩ := HC.out (by omega)
        obtain ⟨g', o', rfl, _, hc2⟩ := HC'.out (by omega)
        have hx : wr.cell? ⟨g, o + j, none⟩ = some (.int .u32 (dg A j : Nat)) := by obtain ⟨n, rfl⟩ := HW.out; exact hc1 j hjk
        have hy : wr.cell? ⟨g', o' + j, none⟩ = some (.int .u32 (dg C j : Nat)) := by obtain ⟨n, rfl⟩ := HW.out; exact hc2 j hjk
        have HD : Hid (A / 4294967296 ^ j = A / 4294967296 ^ (j + 1) * 4294967296 + dg A j ∧ C / 4294967296 ^ j = C / 4294967296 ^ (j + 1) * 4294967296 + dg C j) := ⟨div_succ A j, div_succ C j⟩
        clear hc1 hc2 HI hj
        generalize dg A j = x at *
        generalize dg C j = y at *
        by_cases hxy : x = y
        · subst hxy
          have HQ : Hid (A / 4294967296 ^ j = C / 4294967296 ^ j) := by show _ = _; rw [HD.out.1, HD.out.2, HE.out]
          clear HD HE
          go_wp2_with fail
          go_quiet (fail)
          go_wp2_with fail
          refine ⟨⟨i + 1, by omega, by go_num, ?_⟩, by simp [intOf]; omega⟩
          obtain ⟨n, rfl⟩ := HW.out
          have e : k - (i + 1) = j := by have := Hj.out; omega
          exact ⟨by rw [e]; exact HQ.out, n + nq, World.drewN_drewN _ _ _⟩
        · have hne : ((x : Int) == (y : Int)) = false := by rw [beq_eq_false_iff_ne]; omega
          have hne2 : ((x : Int) != (y : Int)) = true := by rw [bne_iff_ne]; omega
          by_cases hgt : y < x
          · have HQ : Hid (cmpI A C = 1) := cmpI_gt (lt_of_div (i := j) (by rw [HD.out.1, HD.out.2, HE.out]; omega))
            have hgt' : (y : Int) < (x : Int) := by omega
            clear HD HE
            go_wp2_with fail
            go_quiet (fail)
            have hx2 : (wr.drewN nq).cell? ⟨g, o + j, none⟩ = some (.int .u32 (x : Nat)) := hx
            have hy2 : (wr.drewN nq).cell? ⟨g', o' + j, none⟩ = some (.int .u32 (y : Nat)) := hy
            have HW2 : Hid (∃ n, wr.drewN nq = w.drewN n) := by obtain ⟨n, rfl⟩ := HW.out; exact ⟨_, World.drewN_drewN _ _ _⟩
            generalize wr.drewN nq = wq at *
            go_wp2_with fail
            go_quiet ((go_at_call 43; exact Calls.quiet_of_same (sign_true _)))
            go_wp2_with fail
            go_ret
            refine ⟨?_, ?_⟩
            · rw [HQ.out]; rfl
            · obtain ⟨n, rfl⟩ := HW2.out
              exact ⟨_, World.drewN_drewN _ _ _⟩
          · have HQ : Hid (cmpI A C = -1) := cmpI_lt (lt_of_div (i := j) (by rw [HD.out.1, HD.out.2, HE.out]; omega))
            have hgt' : ¬ (y : Int) < (x : Int) := by omega
            clear HD HE
            go_wp2_with fail
            go_quiet (fail)
            have hx2 : (wr.drewN nq).cell? ⟨g, o + j, none⟩ = some (.int .u32 (x : Nat)) := hx
            have hy2 : (wr.drewN nq).cell? ⟨g', o' + j, none⟩ = some (.int .u32 (y : Nat)) := hy
            have HW2 : Hid (∃ n, wr.drewN nq = w.drewN n) := by obtain ⟨n, rfl⟩ := HW.out; exact ⟨_, World.drewN_drewN _ _ _⟩
            generalize wr.drewN nq = wq at *
            go_wp2_with fail
            go_quiet ((go_at_call 43; exact Calls.quiet_of_same (sign_false _)))
            go_wp2_with fail
            go_ret
            refine ⟨?_, ?_⟩
            · rw [HQ.out]; rfl
            · obtain ⟨n, rfl⟩ := HW2.out
              exact ⟨_, World.drewN_drewN _ _ _⟩
      · have HQ : Hid (cmpI A C = 0) := by
          have := HI.out.1
          rw [show k - i = 0 from by omega] at this
          simp at this
          rw [this]; exact cmpI_eq C
        go_wp2_with fail
        go_ret
        exact ⟨by rw [HQ.out]; rfl, HI.out.2⟩
  · have hne : ((k : Int) == (m : Int)) = false := by rw [beq_eq_false_iff_ne]; omega
    have hne2 : ((k : Int) != (m : Int)) = true := by rw [bne_iff_ne]; omega
    by_cases hgt : m < k
    · have HQ : Hid (cmpI A C = 1) := cmpI_gt (HN'.out.lt_of HN.out hgt)
      have hgt' : (m : Int) < (k : Int) := by omega
      go_enter Try.func28, Try.ntmps28
      go_wp2_with fail
      refine (sign_any _ _).mono ?_
      rintro e w' ⟨rfl, rfl⟩
      go_wp2_with fail
      go_ret
      exact ⟨by rw [HQ.out]; rfl, 0, rfl⟩
    · have HQ : Hid (cmpI A C = -1) := cmpI_lt (HN.out.lt_of HN'.out (by omega))
      have hgt' : ¬ (m : Int) < (k : Int) := by omega
      go_enter Try.func28, Try.ntmps28
      go_wp2_with fail
      refine (sign_any _ _).mono ?_
      rintro e w' ⟨rfl, rfl⟩
      go_wp2_with fail
      go_ret
      exact ⟨by rw [HQ.out]; rfl, 0, rfl⟩

end Go.Proofs.Ytanijhgmgldiiaa

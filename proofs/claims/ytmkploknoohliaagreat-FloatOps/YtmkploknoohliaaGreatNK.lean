/- The document's whole numbers: Len, Low64. -/
import Derived.Test.YtmkploknoohliaaGreatND
import Derived.Test.YtmkploknoohliaaGreatFP
namespace Go.Proofs.YtmkploknoohliaaGreat
open Go.RowKit
open M
set_option linter.unusedVariables false
set_option linter.unusedSimpArgs false

/-- How many bits a number has. -/
def blen (N : Nat) : Nat := if N = 0 then 0 else N.log2 + 1

theorem blen_top {k N : Nat} (h : N < 4294967296 ^ (k + 1)) (h0 : dg N k ≠ 0) : blen N = 32 * k + (dg N k).log2 + 1 := by
  have e : 4294967296 ^ k = 2 ^ (32 * k) := by rw [Nat.pow_mul]
  have ed : dg N k = N / 2 ^ (32 * k) := by
    unfold dg
    rw [← e, Nat.mod_eq_of_lt]
    rw [Nat.div_lt_iff_lt_mul (pw_pos k), Nat.mul_comm, ← pw_succ]; exact h
  have hN : N ≠ 0 := by rintro rfl; rw [ed, Nat.zero_div] at h0; exact h0 rfl
  unfold blen
  rw [if_neg hN, ed, Flt.log2_div_pow]
  have : 32 * k ≤ N.log2 := by
    rw [Nat.le_log2 hN]
    rcases Nat.lt_or_ge N (2 ^ (32 * k)) with h1 | h1
    · exfalso; apply h0; rw [ed]; exact Nat.div_eq_of_lt h1
    · exact h1
  omega

set_option maxRecDepth 100000 in
set_option maxHeartbeats 1000000 in
theorem nLen {S : Nat → Prop} (v : Value) (k N : Nat) (w : World) (h : RowX S w v k N) (hn : Nrm k N) (hkb : k ≤ 100000) :
    Calls Tryz.prog 90 #[v] w fun e w' => e = .returned (.int .i64 (blen N : Nat)) ∧ w' = w := by
  obtain ⟨hN, hk, ad, cap, rfl, hc, hcell⟩ := h
  by_cases h0 : k = 0
  · subst h0
    have e : N = 0 := by rw [Nat.pow_zero] at hN; omega
    have eb : blen N = 0 := if_pos e
    rw [eb]
    clear hcell hN hn e eb
    go_enter Tryz.func90, Tryz.ntmps90
    go_wp2_with fail
    go_ret
    exact ⟨rfl, rfl⟩
  · obtain ⟨m, rfl⟩ : ∃ m, k = m + 1 := ⟨k - 1, by omega⟩
    have ht : dg N m ≠ 0 := fun h => hn.top h
    obtain ⟨g, o, rfl, _, hj⟩ := hcell (by omega)
    have hci := hj m (by omega)
    have Hb := hide (blen_top hN ht)
    have hxl := dg_lt N m
    have HX : Hid (dg N m ≠ 0) := ht
    have hk1 : (((m + 1 : Nat) : Int) == 0) = false := by simp; omega
    have hm1 : ((m + 1 : Nat) : Int) - 1 = (m : Int) := by omega
    generalize blen N = b at *
    generalize dg N m = x at *
    obtain ⟨bs, hbs⟩ : ∃ bs : Nat, (32 : Int) * (m : Int) = (bs : Int) := ⟨32 * m, by omega⟩
    have HB : Hid (bs = 32 * m) := by show _ = _; omega
    clear hj hcell hN hn ht h0
    go_enter Tryz.func90, Tryz.ntmps90
    go_wp2_with (simp only [hm1, hbs])
    go_loop [3, 4] (fun t3 t4 => ∃ j : Nat, j ≤ 32 ∧ t3 = .int .i64 ((bs + j : Nat) : Int) ∧ t4 = .int .u32 ((x / 2 ^ j : Nat) : Int) ∧ Hid (j = 0 ∨ x / 2 ^ (j - 1) ≠ 0)) (fun t3 _ => bs + 33 - (intOf t3).toNat)
    case atStart => exact ⟨0, by omega, by simp, by simp, .inl rfl⟩
    case round =>
      obtain ⟨j, hj, rfl, rfl, HJ⟩ := hrel
      by_cases hz : x / 2 ^ j = 0
      · have He : Hid (j = x.log2 + 1) := by
          show j = _
          have h1 : x < 2 ^ j := by
            rcases Nat.lt_or_ge x (2 ^ j) with h | h
            · exact h
            · have := Nat.div_pos h (Nat.two_pow_pos j); omega
          have h2 : x.log2 < j := (Nat.log2_lt HX.out).2 h1
          rcases HJ.out with h3 | h3
          · omega
          · have h4 : j - 1 ≤ x.log2 := by
              rw [Nat.le_log2 HX.out]
              rcases Nat.lt_or_ge x (2 ^ (j - 1)) with h | h
              · exact absurd (Nat.div_eq_of_lt h) h3
              · exact h
            omega
        rw [hz]
        clear hz HJ
        go_wp2_with fail
        go_ret
        refine ⟨?_, rfl⟩
        have e1 : (b : Int) = (bs : Int) + (j : Int) := by have := Hb.out; have := HB.out; have := He.out; omega
        rw [e1]
        rfl
      · have hy2 : x / 2 ^ j / 2 = x / 2 ^ (j + 1) := by rw [Nat.div_div_eq_div_mul, ← Nat.pow_succ]
        have Hz := hide hz
        have hjl : j + 1 ≤ 32 := by
          rcases Nat.lt_or_ge j 32 with h | h
          · exact h
          · exfalso
            apply Hz.out
            refine Nat.div_eq_of_lt (Nat.lt_of_lt_of_le hxl ?_)
            exact Nat.le_trans (by decide) (Nat.pow_le_pow_right (n := 2) (by omega) h)
        have hyl : x / 2 ^ j < 4294967296 := Nat.lt_of_le_of_lt (Nat.div_le_self _ _) hxl
        have HY := hide hy2
        clear hy2
        obtain ⟨y, hy⟩ : ∃ y : Nat, x / 2 ^ j = y := ⟨_, rfl⟩
        rw [hy] at hz hyl
        rw [hy]
        have HY2 : Hid (y / 2 = x / 2 ^ (j + 1)) := by rw [← hy]; exact HY.out
        have hz' : ((y : Int) == 0) = false := by simp; omega
        have hz2 : ((y : Int) != 0) = true := by simp; omega
        clear hy hz HY HJ
        go_wp2_with fail
        go_round
        case rel =>
          refine ⟨j + 1, by omega, ?_, ?_, .inr ?_⟩
          · go_num
          · rw [← HY2.out]; simp
          · show x / 2 ^ (j + 1 - 1) ≠ 0
            rw [Nat.add_sub_cancel]; exact Hz.out
        case measure => simp [intOf]; omega

theorem low64 (N : Nat) : N % 18446744073709551616 = dg N 0 + dg N 1 * 4294967296 := by unfold dg; omega
set_option maxRecDepth 100000 in
theorem nLow64 {S : Nat → Prop} (v : Value) (k N : Nat) (w : World) (h : RowX S w v k N) :
    Calls Tryz.prog 97 #[v] w fun e w' => e = .returned (.int .u64 (N % 18446744073709551616 : Nat)) ∧ w' = w := by
  obtain ⟨hN, hk, ad, cap, rfl, hc, hcell⟩ := h
  rw [low64]
  by_cases h0 : k = 0
  · subst h0
    have e : N = 0 := by rw [Nat.pow_zero] at hN; omega
    rw [e, dg_zero, dg_zero]
    clear hcell hN e
    go_enter Tryz.func97, Tryz.ntmps97
    go_wp2_with fail
    go_ret
    exact ⟨rfl, rfl⟩
  · obtain ⟨g, o, rfl, _, hj⟩ := hcell (by omega)
    have c0 : w.cell? ⟨g, o, none⟩ = some (.int .u32 (dg N 0 : Nat)) := hj 0 (by omega)
    have hx := dg_lt N 0
    have h1' : (0 : Int) < (k : Int) := by omega
    by_cases h1 : k = 1
    · subst h1
      rw [dg_high hN (by omega : 1 ≤ 1), Nat.zero_mul, Nat.add_zero]
      clear hj hcell hN h0
      generalize dg N 0 = x at *
      go_enter Tryz.func97, Tryz.ntmps97
      go_wp2_with fail
      go_ret
      exact ⟨rfl, rfl⟩
    · have c1 := hj 1 (by omega)
      have hy := dg_lt N 1
      have h2' : (1 : Int) < (k : Int) := by omega
      clear hj hcell hN h0 h1
      generalize dg N 0 = x at *
      generalize dg N 1 = y at *
      have hor : bits BinOp.or IntKind.u64 (x : Int) ((y : Int) * 4294967296) = ((x + y * 4294967296 : Nat) : Int) := by
        have e : (y : Int) * 4294967296 = ((y * 4294967296 : Nat) : Int) := by omega
        rw [e, u64_or_nat _ _ (by omega) (by omega), Nat.or_comm]
        have := Nat.two_pow_add_eq_or_of_lt (i := 32) hx y
        rw [show (2 : Nat) ^ 32 * y = y * 4294967296 by omega] at this
        rw [← this, Nat.add_comm]
      have hm : (y : Int) * 4294967296 % 18446744073709551616 = (y : Int) * 4294967296 := by omega
      have hw : IntKind.u64.wrap ((y : Int) * 4294967296) = (y : Int) * 4294967296 := by rw [IntKind.wrap_u64]; exact hm
      go_enter Tryz.func97, Tryz.ntmps97
      go_wp2_with (simp only [hm, hw, hor])
      go_ret
      exact ⟨rfl, rfl⟩
end Go.Proofs.YtmkploknoohliaaGreat

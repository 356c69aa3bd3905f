/- Down, Class. -/
import Derived.Test.YtmkploknoohliaaGreatFF
namespace Go.Proofs.YtmkploknoohliaaGreat
open Go.RowKit
set_option linter.unusedVariables false
set_option linter.unusedSimpArgs false

theorem b64_flip (b : Nat) (hb : b < 18446744073709551616) : bits BinOp.xor IntKind.u64 (b : Int) 9223372036854775808 = ((flip64 b : Nat) : Int) := by
  unfold flip64
  by_cases h : b < 9223372036854775808
  · rw [if_pos h]; exact b64_xor_lo b h
  · rw [if_neg h]; exact b64_xor_hi b (by omega) hb


set_option maxRecDepth 100000 in
set_option maxHeartbeats 1000000 in
theorem class64_core (b fl y c : Nat) (w : World) (hb : b < 18446744073709551616) (h1 : bits BinOp.and IntKind.u64 (b : Int) 9218868437227405312 = (fl : Int)) (h2 : bits BinOp.andNot IntKind.u64 (b : Int) 18442240474082181120 = (y : Int)) (hy : y < 4503599627370496)
    (hc : (fl = 9218868437227405312 ∧ y = 0 ∧ c = 3) ∨ (fl = 9218868437227405312 ∧ 2251799813685248 ≤ y ∧ c = 4) ∨ (fl = 9218868437227405312 ∧ y ≠ 0 ∧ y < 2251799813685248 ∧ c = 5) ∨ (fl ≠ 9218868437227405312 ∧ fl ≠ 0 ∧ c = 2) ∨ (fl = 0 ∧ y ≠ 0 ∧ c = 1) ∨ (fl = 0 ∧ y = 0 ∧ c = 0)) :
    Calls Tryz.prog 40 #[.int .u64 b] w fun e w' => e = .returned (.int .i64 c) ∧ Below w.heap.size w w' := by
  have hsf := b64_sf
  rcases hc with ⟨rfl, rfl, rfl⟩ | ⟨rfl, q1, rfl⟩ | ⟨rfl, q1, q2, rfl⟩ | ⟨q1, q2, rfl⟩ | ⟨rfl, q1, rfl⟩ | ⟨rfl, rfl, rfl⟩
  · have h1 : bits BinOp.and IntKind.u64 (b : Int) 9218868437227405312 = 9218868437227405312 := h1
    have h2 : bits BinOp.andNot IntKind.u64 (b : Int) 18442240474082181120 = 0 := h2
    go_enter Tryz.func40, Tryz.ntmps40
    go_wp2_with fail
    refine (layoutOf64_any w).mono ?_
    rintro e w1 ⟨rfl, hb1⟩
    unfold lay64
    have H1 := fhide hb1
    clear hb1
    go_wp2_with fail
    go_quiet (simp only [hsf, h1, h2])
    go_wp2_with (simp only [hsf, h1, h2])
    go_ret
    exact ⟨rfl, below_drewN (H1.out.alloc H1.out.size _) _⟩
  · have h1 : bits BinOp.and IntKind.u64 (b : Int) 9218868437227405312 = 9218868437227405312 := h1
    have hq := b64_q_hi y q1 hy
    have h0 : ((y : Int) == 0) = false := by simp; omega
    go_enter Tryz.func40, Tryz.ntmps40
    go_wp2_with fail
    refine (layoutOf64_any w).mono ?_
    rintro e w1 ⟨rfl, hb1⟩
    unfold lay64
    have H1 := fhide hb1
    clear hb1
    go_wp2_with fail
    go_quiet (simp only [hsf, h1, h2])
    go_wp2_with (simp only [hsf, h1, h2, hq])
    go_ret
    exact ⟨rfl, below_drewN (H1.out.alloc H1.out.size _) _⟩
  · have h1 : bits BinOp.and IntKind.u64 (b : Int) 9218868437227405312 = 9218868437227405312 := h1
    have hq := b64_q_lo y q2
    have h0 : ((y : Int) == 0) = false := by simp; omega
    go_enter Tryz.func40, Tryz.ntmps40
    go_wp2_with fail
    refine (layoutOf64_any w).mono ?_
    rintro e w1 ⟨rfl, hb1⟩
    unfold lay64
    have H1 := fhide hb1
    clear hb1
    go_wp2_with fail
    go_quiet (simp only [hsf, h1, h2])
    go_wp2_with (simp only [hsf, h1, h2, hq])
    go_ret
    exact ⟨rfl, below_drewN (H1.out.alloc H1.out.size _) _⟩
  · have h0 : ((fl : Int) == 9218868437227405312) = false := by simp; omega
    have h3 : ((fl : Int) == 0) = false := by simp; omega
    have h4 : ((fl : Int) != 0) = true := by simp; omega
    go_enter Tryz.func40, Tryz.ntmps40
    go_wp2_with fail
    refine (layoutOf64_any w).mono ?_
    rintro e w1 ⟨rfl, hb1⟩
    unfold lay64
    have H1 := fhide hb1
    clear hb1
    go_wp2_with fail
    go_quiet (simp only [hsf, h1, h2])
    go_wp2_with (simp only [hsf, h1, h2])
    go_ret
    exact ⟨rfl, below_drewN (H1.out.alloc H1.out.size _) _⟩
  · have h1 : bits BinOp.and IntKind.u64 (b : Int) 9218868437227405312 = 0 := h1
    have h0 : ((y : Int) == 0) = false := by simp; omega
    have h4 : ((y : Int) != 0) = true := by simp; omega
    go_enter Tryz.func40, Tryz.ntmps40
    go_wp2_with fail
    refine (layoutOf64_any w).mono ?_
    rintro e w1 ⟨rfl, hb1⟩
    unfold lay64
    have H1 := fhide hb1
    clear hb1
    go_wp2_with fail
    go_quiet (simp only [hsf, h1, h2])
    go_wp2_with (simp only [hsf, h1, h2])
    go_ret
    exact ⟨rfl, below_drewN (H1.out.alloc H1.out.size _) _⟩
  · have h1 : bits BinOp.and IntKind.u64 (b : Int) 9218868437227405312 = 0 := h1
    have h2 : bits BinOp.andNot IntKind.u64 (b : Int) 18442240474082181120 = 0 := h2
    go_enter Tryz.func40, Tryz.ntmps40
    go_wp2_with fail
    refine (layoutOf64_any w).mono ?_
    rintro e w1 ⟨rfl, hb1⟩
    unfold lay64
    have H1 := fhide hb1
    clear hb1
    go_wp2_with fail
    go_quiet (simp only [hsf, h1, h2])
    go_wp2_with (simp only [hsf, h1, h2])
    go_ret
    exact ⟨rfl, below_drewN (H1.out.alloc H1.out.size _) _⟩

theorem Class64_any (b : Nat) (w : World) (hb : b < 18446744073709551616) : Calls Tryz.prog 40 #[.int .u64 b] w fun e w' => e = .returned (.int .i64 (class64 b : Nat)) ∧ Below w.heap.size w w' := by
  refine class64_core b _ _ _ w hb (b64_field b hb) (b64_frac b hb) (Nat.mod_lt _ (by omega)) ?_
  have e : b % 9223372036854775808 = b / 4503599627370496 % (2047 + 1) * 4503599627370496 + b % 4503599627370496 := by omega
  have l1 : b / 4503599627370496 % (2047 + 1) ≤ 2047 := by omega
  have l2 : b % 4503599627370496 < 4503599627370496 := Nat.mod_lt _ (by omega)
  unfold class64
  rw [e]
  generalize b / 4503599627370496 % (2047 + 1) = x at *
  generalize b % 4503599627370496 = y at *
  clear e
  by_cases h1 : x = 2047
  · subst h1
    rw [if_neg (by omega), if_neg (by omega), if_neg (by omega)]
    by_cases h2 : y = 0
    · subst h2; left; simp
    · rw [if_neg (by omega)]
      by_cases h3 : y < 2251799813685248
      · right; right; left; rw [if_pos (by omega)]; exact ⟨rfl, h2, h3, rfl⟩
      · right; left; rw [if_neg (by omega)]; exact ⟨rfl, by omega, rfl⟩
  · by_cases h2 : x = 0
    · subst h2
      by_cases h3 : y = 0
      · subst h3; right; right; right; right; right; simp
      · rw [if_neg (by omega), if_pos (by omega)]
        right; right; right; right; left; exact ⟨by omega, h3, rfl⟩
    · rw [if_neg (by omega), if_neg (by omega), if_pos (by omega)]
      right; right; right; left; exact ⟨by omega, by omega, rfl⟩

theorem b32_flip (b : Nat) (hb : b < 4294967296) : bits BinOp.xor IntKind.u32 (b : Int) 2147483648 = ((flip32 b : Nat) : Int) := by
  unfold flip32
  by_cases h : b < 2147483648
  · rw [if_pos h]; exact b32_xor_lo b h
  · rw [if_neg h]; exact b32_xor_hi b (by omega) hb



end Go.Proofs.YtmkploknoohliaaGreat

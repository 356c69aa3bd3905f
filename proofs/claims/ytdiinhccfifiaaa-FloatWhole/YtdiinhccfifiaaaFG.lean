/- Down, Class. -/
import Derived.Test.YtdiinhccfifiaaaFF
namespace Go.Proofs.Ytdiinhccfifiaaa
open Go.RowKit
set_option linter.unusedVariables false
set_option linter.unusedSimpArgs false

theorem b64_flip (b : Nat) (hb : b < 18446744073709551616) : bits BinOp.xor IntKind.u64 (b : Int) 9223372036854775808 = ((flip64 b : Nat) : Int) := by
  unfold flip64
  by_cases h : b < 9223372036854775808
  · rw [if_pos h]; exact b64_xor_lo b h
  · rw [if_neg h]; exact b64_xor_hi b (by omega) hb

set_option maxRecDepth 100000 in
set_option maxHeartbeats 1000000 in
theorem Down64_any (b : Nat) (w : World) (hb : b < 18446744073709551616) : Calls Try.prog 16 #[.int .u64 b] w fun e w' => e = .returned (.int .u64 (down64 b : Nat)) ∧ Below w.heap.size w w' := by
  have hf1 := b64_flip b hb
  have hf2 := b64_flip (up64 (flip64 b)) (up64_lt _ (flip64_lt b hb))
  have hfl := flip64_lt b hb
  have hu : Hid (down64 b = if 9218868437227405312 < b % 9223372036854775808 then 9221120237041090560 else flip64 (up64 (flip64 b))) := rfl
  generalize flip64 b = fb at *
  have HU := fhide (fun w => Up64_any fb w hfl)
  generalize up64 fb = ub at *
  generalize flip64 ub = fu at *
  generalize down64 b = u at *
  go_enter Try.func16, Try.ntmps16
  go_wp2_with fail
  refine (layoutOf64_any w).mono ?_
  rintro e w1 ⟨rfl, hb1⟩
  unfold lay64
  have H1 := fhide hb1
  clear hb1
  go_wp2_with fail
  refine (isNaN64_any b _ hb).mono ?_
  rintro e w2 ⟨rfl, hb2⟩
  have H2 : Hid (Lay64 w2 w1.heap.size ∧ Below w.heap.size w w2) := ⟨(Lay64.new w1).below hb2, (H1.out.alloc H1.out.size _).trans (hb2.mono (by have := H1.out.size; simp; omega))⟩
  clear hb2 H1
  have c0 := H2.out.1.c0
  have c1 := H2.out.1.c1
  have c2 := H2.out.1.c2
  generalize w1.heap.size = g at *
  clear w1
  by_cases h1 : 9218868437227405312 < b % 9223372036854775808
  · rw [decide_eq_true h1]
    have hv := fhide (hu.out.trans (if_pos h1))
    clear h1
    go_wp2_with fail
    refine (theNaN64_any _).mono ?_
    rintro e w3 ⟨rfl, hb3⟩
    go_wp2_with fail
    go_ret
    rw [hv.out]
    exact ⟨rfl, H2.out.2.trans (hb3.mono H2.out.2.size)⟩
  · rw [decide_eq_false h1]
    have hv := fhide (hu.out.trans (if_neg h1))
    clear h1
    go_wp2_with fail
    have c0d : w2.drew.cell? ⟨g, 0, none⟩ = some (.int .u64 9223372036854775808) := c0
    clear c1 c2
    go_region_held3 (fun w' => w'.cell? ⟨g, 0, none⟩ = some (.int .u64 9223372036854775808)) (first | exact c0d | exact c05)
      (first | (simp only [hf1, hf2]; done) | (go_at_call 14; go_must (refine (HU.out _).mono ?_); rintro _ w5 ⟨rfl, B5⟩; have H5 := fhide B5; have c05 : w5.cell? ⟨g, 0, none⟩ = some (.int .u64 9223372036854775808) := (by rw [B5.cell (p := ⟨g, 0, none⟩) (block_lt_of_cell c0d)]; exact c0d); clear B5))
    go_wp2_with fail
    go_ret
    rw [hv.out]
    exact ⟨rfl, H2.out.2.drew.trans (H5.out.mono H2.out.2.size)⟩

set_option maxRecDepth 100000 in
set_option maxHeartbeats 1000000 in
theorem class64_core (b fl y c : Nat) (w : World) (hb : b < 18446744073709551616) (h1 : bits BinOp.and IntKind.u64 (b : Int) 9218868437227405312 = (fl : Int)) (h2 : bits BinOp.andNot IntKind.u64 (b : Int) 18442240474082181120 = (y : Int)) (hy : y < 4503599627370496)
    (hc : (fl = 9218868437227405312 ∧ y = 0 ∧ c = 3) ∨ (fl = 9218868437227405312 ∧ 2251799813685248 ≤ y ∧ c = 4) ∨ (fl = 9218868437227405312 ∧ y ≠ 0 ∧ y < 2251799813685248 ∧ c = 5) ∨ (fl ≠ 9218868437227405312 ∧ fl ≠ 0 ∧ c = 2) ∨ (fl = 0 ∧ y ≠ 0 ∧ c = 1) ∨ (fl = 0 ∧ y = 0 ∧ c = 0)) :
    Calls Try.prog 8 #[.int .u64 b] w fun e w' => e = .returned (.int .i64 c) ∧ Below w.heap.size w w' := by
  have hsf := b64_sf
  rcases hc with ⟨rfl, rfl, rfl⟩ | ⟨rfl, q1, rfl⟩ | ⟨rfl, q1, q2, rfl⟩ | ⟨q1, q2, rfl⟩ | ⟨rfl, q1, rfl⟩ | ⟨rfl, rfl, rfl⟩
  · have h1 : bits BinOp.and IntKind.u64 (b : Int) 9218868437227405312 = 9218868437227405312 := h1
    have h2 : bits BinOp.andNot IntKind.u64 (b : Int) 18442240474082181120 = 0 := h2
    go_enter Try.func8, Try.ntmps8
    go_wp2_with fail
    refine (layoutOf64_any w).mono ?_
    rintro e w1 ⟨rfl, hb1⟩
    unfold lay64
    have H1 := fhide hb1
    clear hb1
    go_wp2_with fail
    go_quiet (simp only [hsf, h1, h2])
    go_wp2_with (simp only [hsf, h1, h2])
    go_ret
    exact ⟨rfl, below_drewN (H1.out.alloc H1.out.size _) _⟩
  · have h1 : bits BinOp.and IntKind.u64 (b : Int) 9218868437227405312 = 9218868437227405312 := h1
    have hq := b64_q_hi y q1 hy
    have h0 : ((y : Int) == 0) = false := by simp; omega
    go_enter Try.func8, Try.ntmps8
    go_wp2_with fail
    refine (layoutOf64_any w).mono ?_
    rintro e w1 ⟨rfl, hb1⟩
    unfold lay64
    have H1 := fhide hb1
    clear hb1
    go_wp2_with fail
    go_quiet (simp only [hsf, h1, h2])
    go_wp2_with (simp only [hsf, h1, h2, hq])
    go_ret
    exact ⟨rfl, below_drewN (H1.out.alloc H1.out.size _) _⟩
  · have h1 : bits BinOp.and IntKind.u64 (b : Int) 9218868437227405312 = 9218868437227405312 := h1
    have hq := b64_q_lo y q2
    have h0 : ((y : Int) == 0) = false := by simp; omega
    go_enter Try.func8, Try.ntmps8
    go_wp2_with fail
    refine (layoutOf64_any w).mono ?_
    rintro e w1 ⟨rfl, hb1⟩
    unfold lay64
    have H1 := fhide hb1
    clear hb1
    go_wp2_with fail
    go_quiet (simp only [hsf, h1, h2])
    go_wp2_with (simp only [hsf, h1, h2, hq])
    go_ret
    exact ⟨rfl, below_drewN (H1.out.alloc H1.out.size _) _⟩
  · have h0 : ((fl : Int) == 9218868437227405312) = false := by simp; omega
    have h3 : ((fl : Int) == 0) = false := by simp; omega
    have h4 : ((fl : Int) != 0) = true := by simp; omega
    go_enter Try.func8, Try.ntmps8
    go_wp2_with fail
    refine (layoutOf64_any w).mono ?_
    rintro e w1 ⟨rfl, hb1⟩
    unfold lay64
    have H1 := fhide hb1
    clear hb1
    go_wp2_with fail
    go_quiet (simp only [hsf, h1, h2])
    go_wp2_with (simp only [hsf, h1, h2])
    go_ret
    exact ⟨rfl, below_drewN (H1.out.alloc H1.out.size _) _⟩
  · have h1 : bits BinOp.and IntKind.u64 (b : Int) 9218868437227405312 = 0 := h1
    have h0 : ((y : Int) == 0) = false := by simp; omega
    have h4 : ((y : Int) != 0) = true := by simp; omega
    go_enter Try.func8, Try.ntmps8
    go_wp2_with fail
    refine (layoutOf64_any w).mono ?_
    rintro e w1 ⟨rfl, hb1⟩
    unfold lay64
    have H1 := fhide hb1
    clear hb1
    go_wp2_with fail
    go_quiet (simp only [hsf, h1, h2])
    go_wp2_with (simp only [hsf, h1, h2])
    go_ret
    exact ⟨rfl, below_drewN (H1.out.alloc H1.out.size _) _⟩
  · have h1 : bits BinOp.and IntKind.u64 (b : Int) 9218868437227405312 = 0 := h1
    have h2 : bits BinOp.andNot IntKind.u64 (b : Int) 18442240474082181120 = 0 := h2
    go_enter Try.func8, Try.ntmps8
    go_wp2_with fail
    refine (layoutOf64_any w).mono ?_
    rintro e w1 ⟨rfl, hb1⟩
    unfold lay64
    have H1 := fhide hb1
    clear hb1
    go_wp2_with fail
    go_quiet (simp only [hsf, h1, h2])
    go_wp2_with (simp only [hsf, h1, h2])
    go_ret
    exact ⟨rfl, below_drewN (H1.out.alloc H1.out.size _) _⟩

theorem Class64_any (b : Nat) (w : World) (hb : b < 18446744073709551616) : Calls Try.prog 8 #[.int .u64 b] w fun e w' => e = .returned (.int .i64 (class64 b : Nat)) ∧ Below w.heap.size w w' := by
  refine class64_core b _ _ _ w hb (b64_field b hb) (b64_frac b hb) (Nat.mod_lt _ (by omega)) ?_
  have e : b % 9223372036854775808 = b / 4503599627370496 % (2047 + 1) * 4503599627370496 + b % 4503599627370496 := by omega
  have l1 : b / 4503599627370496 % (2047 + 1) ≤ 2047 := by omega
  have l2 : b % 4503599627370496 < 4503599627370496 := Nat.mod_lt _ (by omega)
  unfold class64
  rw [e]
  generalize b / 4503599627370496 % (2047 + 1) = x at *
  generalize b % 4503599627370496 = y at *
  clear e
  by_cases h1 : x = 2047
  · subst h1
    rw [if_neg (by omega), if_neg (by omega), if_neg (by omega)]
    by_cases h2 : y = 0
    · subst h2; left; simp
    · rw [if_neg (by omega)]
      by_cases h3 : y < 2251799813685248
      · right; right; left; rw [if_pos (by omega)]; exact ⟨rfl, h2, h3, rfl⟩
      · right; left; rw [if_neg (by omega)]; exact ⟨rfl, by omega, rfl⟩
  · by_cases h2 : x = 0
    · subst h2
      by_cases h3 : y = 0
      · subst h3; right; right; right; right; right; simp
      · rw [if_neg (by omega), if_pos (by omega)]
        right; right; right; right; left; exact ⟨by omega, h3, rfl⟩
    · rw [if_neg (by omega), if_neg (by omega), if_pos (by omega)]
      right; right; right; left; exact ⟨by omega, by omega, rfl⟩

theorem b32_flip (b : Nat) (hb : b < 4294967296) : bits BinOp.xor IntKind.u32 (b : Int) 2147483648 = ((flip32 b : Nat) : Int) := by
  unfold flip32
  by_cases h : b < 2147483648
  · rw [if_pos h]; exact b32_xor_lo b h
  · rw [if_neg h]; exact b32_xor_hi b (by omega) hb

set_option maxRecDepth 100000 in
set_option maxHeartbeats 1000000 in
theorem Down32_any (b : Nat) (w : World) (hb : b < 4294967296) : Calls Try.prog 22 #[.int .u32 b] w fun e w' => e = .returned (.int .u32 (down32 b : Nat)) ∧ Below w.heap.size w w' := by
  have hf1 := b32_flip b hb
  have hf2 := b32_flip (up32 (flip32 b)) (up32_lt _ (flip32_lt b hb))
  have hfl := flip32_lt b hb
  have hu : Hid (down32 b = if 2139095040 < b % 2147483648 then 2143289344 else flip32 (up32 (flip32 b))) := rfl
  generalize flip32 b = fb at *
  have HU := fhide (fun w => Up32_any fb w hfl)
  generalize up32 fb = ub at *
  generalize flip32 ub = fu at *
  generalize down32 b = u at *
  go_enter Try.func22, Try.ntmps22
  go_wp2_with fail
  refine (layoutOf32_any w).mono ?_
  rintro e w1 ⟨rfl, hb1⟩
  unfold lay32
  have H1 := fhide hb1
  clear hb1
  go_wp2_with fail
  refine (isNaN32_any b _ hb).mono ?_
  rintro e w2 ⟨rfl, hb2⟩
  have H2 : Hid (Lay32 w2 w1.heap.size ∧ Below w.heap.size w w2) := ⟨(Lay32.new w1).below hb2, (H1.out.alloc H1.out.size _).trans (hb2.mono (by have := H1.out.size; simp; omega))⟩
  clear hb2 H1
  have c0 := H2.out.1.c0
  have c1 := H2.out.1.c1
  have c2 := H2.out.1.c2
  generalize w1.heap.size = g at *
  clear w1
  by_cases h1 : 2139095040 < b % 2147483648
  · rw [decide_eq_true h1]
    have hv := fhide (hu.out.trans (if_pos h1))
    clear h1
    go_wp2_with fail
    refine (theNaN32_any _).mono ?_
    rintro e w3 ⟨rfl, hb3⟩
    go_wp2_with fail
    go_ret
    rw [hv.out]
    exact ⟨rfl, H2.out.2.trans (hb3.mono H2.out.2.size)⟩
  · rw [decide_eq_false h1]
    have hv := fhide (hu.out.trans (if_neg h1))
    clear h1
    go_wp2_with fail
    have c0d : w2.drew.cell? ⟨g, 0, none⟩ = some (.int .u32 2147483648) := c0
    clear c1 c2
    go_region_held3 (fun w' => w'.cell? ⟨g, 0, none⟩ = some (.int .u32 2147483648)) (first | exact c0d | exact c05)
      (first | (simp only [hf1, hf2]; done) | (go_at_call 21; go_must (refine (HU.out _).mono ?_); rintro _ w5 ⟨rfl, B5⟩; have H5 := fhide B5; have c05 : w5.cell? ⟨g, 0, none⟩ = some (.int .u32 2147483648) := (by rw [B5.cell (p := ⟨g, 0, none⟩) (block_lt_of_cell c0d)]; exact c0d); clear B5))
    go_wp2_with fail
    go_ret
    rw [hv.out]
    exact ⟨rfl, H2.out.2.drew.trans (H5.out.mono H2.out.2.size)⟩

set_option maxRecDepth 100000 in
set_option maxHeartbeats 1000000 in
theorem class32_core (b fl y c : Nat) (w : World) (hb : b < 4294967296) (h1 : bits BinOp.and IntKind.u32 (b : Int) 2139095040 = (fl : Int)) (h2 : bits BinOp.andNot IntKind.u32 (b : Int) 4286578688 = (y : Int)) (hy : y < 8388608)
    (hc : (fl = 2139095040 ∧ y = 0 ∧ c = 3) ∨ (fl = 2139095040 ∧ 4194304 ≤ y ∧ c = 4) ∨ (fl = 2139095040 ∧ y ≠ 0 ∧ y < 4194304 ∧ c = 5) ∨ (fl ≠ 2139095040 ∧ fl ≠ 0 ∧ c = 2) ∨ (fl = 0 ∧ y ≠ 0 ∧ c = 1) ∨ (fl = 0 ∧ y = 0 ∧ c = 0)) :
    Calls Try.prog 18 #[.int .u32 b] w fun e w' => e = .returned (.int .i64 c) ∧ Below w.heap.size w w' := by
  have hsf := b32_sf
  rcases hc with ⟨rfl, rfl, rfl⟩ | ⟨rfl, q1, rfl⟩ | ⟨rfl, q1, q2, rfl⟩ | ⟨q1, q2, rfl⟩ | ⟨rfl, q1, rfl⟩ | ⟨rfl, rfl, rfl⟩
  · have h1 : bits BinOp.and IntKind.u32 (b : Int) 2139095040 = 2139095040 := h1
    have h2 : bits BinOp.andNot IntKind.u32 (b : Int) 4286578688 = 0 := h2
    go_enter Try.func18, Try.ntmps18
    go_wp2_with fail
    refine (layoutOf32_any w).mono ?_
    rintro e w1 ⟨rfl, hb1⟩
    unfold lay32
    have H1 := fhide hb1
    clear hb1
    go_wp2_with fail
    go_quiet (simp only [hsf, h1, h2])
    go_wp2_with (simp only [hsf, h1, h2])
    go_ret
    exact ⟨rfl, below_drewN (H1.out.alloc H1.out.size _) _⟩
  · have h1 : bits BinOp.and IntKind.u32 (b : Int) 2139095040 = 2139095040 := h1
    have hq := b32_q_hi y q1 hy
    have h0 : ((y : Int) == 0) = false := by simp; omega
    go_enter Try.func18, Try.ntmps18
    go_wp2_with fail
    refine (layoutOf32_any w).mono ?_
    rintro e w1 ⟨rfl, hb1⟩
    unfold lay32
    have H1 := fhide hb1
    clear hb1
    go_wp2_with fail
    go_quiet (simp only [hsf, h1, h2])
    go_wp2_with (simp only [hsf, h1, h2, hq])
    go_ret
    exact ⟨rfl, below_drewN (H1.out.alloc H1.out.size _) _⟩
  · have h1 : bits BinOp.and IntKind.u32 (b : Int) 2139095040 = 2139095040 := h1
    have hq := b32_q_lo y q2
    have h0 : ((y : Int) == 0) = false := by simp; omega
    go_enter Try.func18, Try.ntmps18
    go_wp2_with fail
    refine (layoutOf32_any w).mono ?_
    rintro e w1 ⟨rfl, hb1⟩
    unfold lay32
    have H1 := fhide hb1
    clear hb1
    go_wp2_with fail
    go_quiet (simp only [hsf, h1, h2])
    go_wp2_with (simp only [hsf, h1, h2, hq])
    go_ret
    exact ⟨rfl, below_drewN (H1.out.alloc H1.out.size _) _⟩
  · have h0 : ((fl : Int) == 2139095040) = false := by simp; omega
    have h3 : ((fl : Int) == 0) = false := by simp; omega
    have h4 : ((fl : Int) != 0) = true := by simp; omega
    go_enter Try.func18, Try.ntmps18
    go_wp2_with fail
    refine (layoutOf32_any w).mono ?_
    rintro e w1 ⟨rfl, hb1⟩
    unfold lay32
    have H1 := fhide hb1
    clear hb1
    go_wp2_with fail
    go_quiet (simp only [hsf, h1, h2])
    go_wp2_with (simp only [hsf, h1, h2])
    go_ret
    exact ⟨rfl, below_drewN (H1.out.alloc H1.out.size _) _⟩
  · have h1 : bits BinOp.and IntKind.u32 (b : Int) 2139095040 = 0 := h1
    have h0 : ((y : Int) == 0) = false := by simp; omega
    have h4 : ((y : Int) != 0) = true := by simp; omega
    go_enter Try.func18, Try.ntmps18
    go_wp2_with fail
    refine (layoutOf32_any w).mono ?_
    rintro e w1 ⟨rfl, hb1⟩
    unfold lay32
    have H1 := fhide hb1
    clear hb1
    go_wp2_with fail
    go_quiet (simp only [hsf, h1, h2])
    go_wp2_with (simp only [hsf, h1, h2])
    go_ret
    exact ⟨rfl, below_drewN (H1.out.alloc H1.out.size _) _⟩
  · have h1 : bits BinOp.and IntKind.u32 (b : Int) 2139095040 = 0 := h1
    have h2 : bits BinOp.andNot IntKind.u32 (b : Int) 4286578688 = 0 := h2
    go_enter Try.func18, Try.ntmps18
    go_wp2_with fail
    refine (layoutOf32_any w).mono ?_
    rintro e w1 ⟨rfl, hb1⟩
    unfold lay32
    have H1 := fhide hb1
    clear hb1
    go_wp2_with fail
    go_quiet (simp only [hsf, h1, h2])
    go_wp2_with (simp only [hsf, h1, h2])
    go_ret
    exact ⟨rfl, below_drewN (H1.out.alloc H1.out.size _) _⟩

theorem Class32_any (b : Nat) (w : World) (hb : b < 4294967296) : Calls Try.prog 18 #[.int .u32 b] w fun e w' => e = .returned (.int .i64 (class32 b : Nat)) ∧ Below w.heap.size w w' := by
  refine class32_core b _ _ _ w hb (b32_field b hb) (b32_frac b hb) (Nat.mod_lt _ (by omega)) ?_
  have e : b % 2147483648 = b / 8388608 % (255 + 1) * 8388608 + b % 8388608 := by omega
  have l1 : b / 8388608 % (255 + 1) ≤ 255 := by omega
  have l2 : b % 8388608 < 8388608 := Nat.mod_lt _ (by omega)
  unfold class32
  rw [e]
  generalize b / 8388608 % (255 + 1) = x at *
  generalize b % 8388608 = y at *
  clear e
  by_cases h1 : x = 255
  · subst h1
    rw [if_neg (by omega), if_neg (by omega), if_neg (by omega)]
    by_cases h2 : y = 0
    · subst h2; left; simp
    · rw [if_neg (by omega)]
      by_cases h3 : y < 4194304
      · right; right; left; rw [if_pos (by omega)]; exact ⟨rfl, h2, h3, rfl⟩
      · right; left; rw [if_neg (by omega)]; exact ⟨rfl, by omega, rfl⟩
  · by_cases h2 : x = 0
    · subst h2
      by_cases h3 : y = 0
      · subst h3; right; right; right; right; right; simp
      · rw [if_neg (by omega), if_pos (by omega)]
        right; right; right; right; left; exact ⟨by omega, h3, rfl⟩
    · rw [if_neg (by omega), if_neg (by omega), if_pos (by omega)]
      right; right; right; left; exact ⟨by omega, by omega, rfl⟩

end Go.Proofs.Ytdiinhccfifiaaa

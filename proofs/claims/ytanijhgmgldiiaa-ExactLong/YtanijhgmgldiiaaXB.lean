/- Package exact: a number by its leading bits: without its lowest ones. -/
import Derived.Test.YtanijhgmgldiiaaXA
import Derived.Test.YtanijhgmgldiiaaRA
namespace Go.Proofs.Ytanijhgmgldiiaa
open Go.RowKit
open M
open Flt (cutN)
set_option linter.unusedVariables false
set_option linter.unusedSimpArgs false

theorem cutN_low (n sh : Nat) (more : Bool) : cutN n sh more = n / 2 ^ (sh + 1) + if 2 ^ sh < n % 2 ^ (sh + 1) ∨ (n % 2 ^ (sh + 1) = 2 ^ sh ∧ (more = true ∨ n / 2 ^ (sh + 1) % 2 = 1)) then 1 else 0 := by
  unfold cutN
  have e1 : n / 2 ^ (sh + 1) = n / 2 ^ sh / 2 := by rw [Nat.pow_succ, Nat.div_div_eq_div_mul]
  have e3 : n % 2 ^ (sh + 1) = n % 2 ^ sh + 2 ^ sh * (n / 2 ^ sh % 2) := by rw [Nat.pow_succ]; exact Nat.mod_mul
  have hx : n % 2 ^ sh < 2 ^ sh := Nat.mod_lt _ (Nat.two_pow_pos sh)
  rw [e1, e3]
  refine congrArg _ ?_
  generalize n / 2 ^ sh = c at *
  generalize n % 2 ^ sh = x at *
  generalize 2 ^ sh = H at *
  have hc : c % 2 = 0 ∨ c % 2 = 1 := by omega
  have key : (c % 2 = 1 ∧ ((more || decide (x ≠ 0)) = true ∨ c / 2 % 2 = 1)) ↔ (H < x + H * (c % 2) ∨ (x + H * (c % 2) = H ∧ (more = true ∨ c / 2 % 2 = 1))) := by
    rcases hc with hc | hc
    · rw [hc, Nat.mul_zero, Nat.add_zero]
      constructor
      · rintro ⟨h, _⟩; omega
      · rintro (h | ⟨h, _⟩) <;> omega
    · rw [hc, Nat.mul_one]
      simp only [Bool.or_eq_true, decide_eq_true_eq, true_and]
      constructor
      · rintro ((h | h) | h)
        · by_cases h0 : x = 0
          · right; exact ⟨by omega, .inl h⟩
          · left; omega
        · left; omega
        · by_cases h0 : x = 0
          · right; exact ⟨by omega, .inr h⟩
          · left; omega
      · rintro (h | ⟨h, h2⟩)
        · left; right; omega
        · rcases h2 with h2 | h2
          · left; left; exact h2
          · right; exact h2
  by_cases h : c % 2 = 1 ∧ ((more || decide (x ≠ 0)) = true ∨ c / 2 % 2 = 1)
  · rw [if_pos h, if_pos (key.1 h)]
  · rw [if_neg h, if_neg (fun e => h (key.2 e))]

theorem cutN_far (n sh : Nat) (more : Bool) (h : n < 2 ^ sh) : cutN n sh more = 0 := by
  unfold cutN
  rw [Nat.div_eq_of_lt h]; simp

set_option maxRecDepth 100000 in
set_option maxHeartbeats 2000000 in
theorem without_any (n sh : Nat) (more : Bool) (e : Int) (w : World) (hn : n < 18446744073709551616) (hsh : sh < 9223372036854775807) :
    Calls Try.prog 22 #[.agg #[.int .u64 n, .bool more, .int .i64 e], .int .i64 ((sh : Int) + 1)] w fun r w' => r = .returned (.int .u64 (cutN n sh more : Nat)) ∧ Below w.heap.size w w' := by
  obtain ⟨low, hlow, hl1, hl2⟩ : ∃ low : Nat, sh + 1 = low ∧ (1 : Int) ≤ (low : Int) ∧ (low : Int) < 9223372036854775808 := ⟨_, rfl, by omega⟩
  rw [show (sh : Int) + 1 = (low : Int) by omega]
  by_cases c : (64 : Int) < (low : Int)
  · have hz : cutN n sh more = 0 := cutN_far n sh more (Nat.lt_of_lt_of_le hn (by
      have := Nat.pow_le_pow_right (n := 2) (by omega) (show 64 ≤ sh by omega)
      simpa using this))
    rw [hz]
    clear hlow hz hn hsh
    go_enter Try.func22, Try.ntmps22
    go_wp2_with fail
    go_ret
    exact ⟨rfl, (Below.refl _ w).alloc (Nat.le_refl _) _⟩
  · rw [cutN_low, hlow]
    have hws : IntKind.i64.wrap ((low : Int) - 1) = (sh : Int) := by rw [IntKind.wrap_i64]; omega
    have hs0 : (0 : Int) ≤ (sh : Int) := by omega
    have hs1 : (sh : Int) < 64 := by omega
    have hp63 : 2 ^ sh ≤ 9223372036854775808 := by
      have := Nat.pow_le_pow_right (n := 2) (by omega) (show sh ≤ 63 by omega)
      simpa using this
    have hpl : 2 ^ low = 2 ^ sh * 2 := by rw [← hlow, Nat.pow_succ]
    have hpp : 0 < 2 ^ sh := Nat.two_pow_pos sh
    have hH : IntKind.u64.wrap ((2 : Int) ^ sh) = ((2 ^ sh : Nat) : Int) := by
      rw [IntKind.wrap_u64, show (2 : Int) ^ sh = ((2 ^ sh : Nat) : Int) by rw [Int.natCast_pow]; rfl]
      omega
    have hK : (n : Int) / 2 ^ low = ((n / 2 ^ low : Nat) : Int) := by rw [Int.natCast_ediv, Int.natCast_pow]; rfl
    have hK2 : n / 2 ^ low ≤ n / 2 := by
      refine Nat.div_le_div_left ?_ (by omega)
      omega
    have hG : bits BinOp.and IntKind.u64 (n : Int) (IntKind.u64.wrap (IntKind.u64.wrap (((2 ^ sh : Nat) : Int) * 2) - 1)) = ((n % 2 ^ low : Nat) : Int) := by
      have e1 : IntKind.u64.wrap (IntKind.u64.wrap (((2 ^ sh : Nat) : Int) * 2) - 1) = ((2 ^ low - 1 : Nat) : Int) := by
        rw [IntKind.wrap_u64, IntKind.wrap_u64, hpl]
        generalize 2 ^ sh = z at *
        omega
      rw [e1, u64_and_nat n _ hn (by rw [hpl]; omega), Nat.and_two_pow_sub_one_eq_mod]
    have hgl : n % 2 ^ low < 2 ^ low := Nat.mod_lt _ (by rw [hpl]; omega)
    generalize n / 2 ^ low = K at *
    generalize n % 2 ^ low = G at *
    obtain ⟨H, hHn, hHp⟩ : ∃ H : Nat, 2 ^ sh = H ∧ 0 < H := ⟨_, rfl, hpp⟩
    rw [hHn] at hH hG ⊢
    have hKo : bits BinOp.and IntKind.u64 (K : Int) 1 = ((K % 2 : Nat) : Int) := by
      have := u64_and_nat K 1 (by omega) (by omega)
      rw [show K &&& 1 = K % 2 from Nat.and_one_is_mod K] at this
      exact this
    have hKp : IntKind.u64.wrap ((K : Int) + 1) = ((K + 1 : Nat) : Int) := by rw [IntKind.wrap_u64]; omega
    obtain ⟨W, hW⟩ : ∃ W, W = w.alloc (.cells #[.int .u64 n, .bool more, .int .i64 e] 40) := ⟨_, rfl⟩
    have c0 : W.cell? ⟨w.heap.size, 0, none⟩ = some (.int .u64 n) := by rw [hW, cell_of_row _ _ _ _ _ _ (heap_alloc_new _ _)]; rfl
    have c1 : W.cell? ⟨w.heap.size, 1, none⟩ = some (.bool more) := by rw [hW, cell_of_row _ _ _ _ _ _ (heap_alloc_new _ _)]; rfl
    have hbel : Below w.heap.size w W.drew := by rw [hW]; exact ((Below.refl _ w).alloc (Nat.le_refl _) _).drew
    have HB := hide hbel
    clear hbel hp63 hpl hpp hHn hgl hK2 hn hsh hlow
    have hcase : (H < G ∧ (if H < G ∨ (G = H ∧ (more = true ∨ K % 2 = 1)) then 1 else 0) = 1) ∨ (¬ H < G ∧ G ≠ H ∧ (if H < G ∨ (G = H ∧ (more = true ∨ K % 2 = 1)) then 1 else 0) = 0) ∨
        (¬ H < G ∧ G = H ∧ more = true ∧ (if H < G ∨ (G = H ∧ (more = true ∨ K % 2 = 1)) then 1 else 0) = 1) ∨ (¬ H < G ∧ G = H ∧ more = false ∧ K % 2 = 1 ∧ (if H < G ∨ (G = H ∧ (more = true ∨ K % 2 = 1)) then 1 else 0) = 1) ∨
        (¬ H < G ∧ G = H ∧ more = false ∧ K % 2 = 0 ∧ (if H < G ∨ (G = H ∧ (more = true ∨ K % 2 = 1)) then 1 else 0) = 0) := by
      by_cases a1 : H < G
      · left; exact ⟨a1, if_pos (.inl a1)⟩
      · right
        by_cases a2 : G = H
        · right
          cases more
          · right
            rcases Nat.mod_two_eq_zero_or_one K with a3 | a3
            · right; exact ⟨a1, a2, rfl, a3, if_neg (by rintro (h | ⟨_, h | h⟩); exact a1 h; cases h; omega)⟩
            · left; exact ⟨a1, a2, rfl, a3, if_pos (.inr ⟨a2, .inr a3⟩)⟩
          · left; exact ⟨a1, a2, rfl, if_pos (.inr ⟨a2, .inl rfl⟩)⟩
        · left; exact ⟨a1, a2, if_neg (by rintro (h | ⟨h, _⟩); exact a1 h; exact a2 h)⟩
    rcases hcase with ⟨a1, a4⟩ | ⟨a1, a2, a4⟩ | ⟨a1, a2, rfl, a4⟩ | ⟨a1, a2, rfl, a3, a4⟩ | ⟨a1, a2, rfl, a3, a4⟩
    all_goals
      rw [a4]
      try (have a2' : ((G : Int) == (H : Int)) = false := by simp; omega)
      try (have a2' : ((G : Int) == (H : Int)) = true := by simp; omega)
      try rw [a3] at hKo
      first | (generalize ho : K + 1 = out at *) | (generalize ho : K + 0 = out at *)
      have HO := hide ho
      clear a4 ho
      try clear a2
      try clear a3
      go_enter Try.func22, Try.ntmps22
      go_wp2_with fail
      rw [← hW]
      have HWW := hide hW
      clear hW
      have c0 : W.drew.cell? ⟨w.heap.size, 0, none⟩ = some (.int .u64 n) := c0
      have c1 : W.drew.cell? ⟨w.heap.size, 1, none⟩ = some _ := c1
      go_region_held3 (fun w' => w'.cell? ⟨w.heap.size, 0, none⟩ = some (.int .u64 n)) (exact c0) (fail)
      clear hl1 hl2 hws
      try simp only [hH, hK]
      go_wp2_with (simp only [hG, hKo, hKp])
      go_ret
      exact ⟨ret_int (by first | rfl | (rw [← HO.out]; rfl) | (rw [← HO.out]; simp; done) | (simp; done)), HB.out⟩
end Go.Proofs.Ytanijhgmgldiiaa

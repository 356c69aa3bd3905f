/- addInto, addTimes, shiftInto, difference: limbs written in place. -/
import Derived.Test.YtanijhgmgldiiaaD
import Derived.Test.YtanijhgmgldiiaaE
namespace Go.Proofs.Ytanijhgmgldiiaa
open Go.RowKit
open M
set_option linter.unusedVariables false
set_option linter.unusedSimpArgs false

set_option maxRecDepth 100000 in
set_option maxHeartbeats 1000000 in
theorem addInto_any (ad : Option Addr) (g o k cap A : Nat) (u : Value) (m C : Nat) (w : World) (hW : Wk w g o k A) (hk : k ≤ 70368744177664) (hcap : k ≤ cap) (had : 0 < k → ad = some ⟨g, o, none⟩) (hC : RowX (· ≠ g) w u m C) :
    Calls Try.prog 52 #[.slice ad k cap, u] w fun e w' => e = .returned (.tuple #[]) ∧ Wk w' g o k ((A + C) % 4294967296 ^ k) ∧ Only g o (o + k) w w' := by
  have HW := hide hW
  have HC := hide hC
  have Had := hide had
  clear hW hC had
  go_enter Try.func52, Try.ntmps52
  go_wp2_with fail
  go_loopw [4, 8] (fun t4 t8 wr => ∃ i : Nat, i ≤ k ∧ t4 = .int .u64 (addC A C i : Nat) ∧ t8 = .int .i64 i ∧ Hid (Mid wr g o k i A (A + C) ∧ Only g o (o + k) w wr)) (fun _ t8 _ => k - (intOf t8).toNat)
  case atStart => exact ⟨0, by omega, by rw [addC_zero]; rfl, rfl, HW.out.mid _, Only.refl _ _ _ _⟩
  case round =>
    obtain ⟨i, hi, rfl, rfl, HM⟩ := hrel
    by_cases hlt : i < k
    · have hlt' : (i : Int) < (k : Int) := by omega
      obtain rfl := Had.out (by omega)
      have HR := hide (HC.out.only HM.out.2)
      have hx := HM.out.1.hi i (Nat.le_refl _) hlt
      have hf := HM.out.1.free i hlt
      have Hs := hide (add_step A C i)
      have hxl := dg_le A i
      have hyl := dg_le C i
      have hcl := addC_le A C i
      have HL : Hid (∀ n, Calls Try.prog 46 #[u, .int .i64 i] (wr.drewN n) fun e w' => e = .returned (.int .u64 (dg C i : Nat)) ∧ w' = wr.drewN n) := fun n => limbAt_any u m C i _ (HR.out.drewN n) (by omega)
      generalize dg A i = x at *
      generalize dg C i = y at *
      generalize addC A C i = c at *
      go_wp2_with fail
      go_quiet ((go_at_call 46; exact Calls.quiet_of_same (HL.out _)))
      go_wp2_with fail
      refine ⟨⟨i + 1, by omega, ?_, by go_num, ?_⟩, by simp [intOf]; omega⟩
      · rw [← Hs.out.2]; exact congrArg _ (by omega)
      · exact ⟨(HM.out.1.drewN nq).step hlt _ (by rw [← Hs.out.1]; omega), (HM.out.2.drewN nq).setCell _ (by omega) (by omega) _⟩
    · obtain rfl : i = k := by omega
      go_wp2_with fail
      go_end0
      exact ⟨rfl, HM.out.1.wk_mod, HM.out.2⟩

set_option maxRecDepth 100000 in
set_option maxHeartbeats 1000000 in
theorem addTimes_any (ad : Option Addr) (g o k cap A : Nat) (u : Value) (C f : Nat) (w : World) (hW : Wk w g o k A) (hk : k ≤ 70368744177664) (hcap : k ≤ cap) (had : 0 < k → ad = some ⟨g, o, none⟩) (hC : RowX (· ≠ g) w u k C) (hf : f < 4294967296) :
    Calls Try.prog 44 #[.slice ad k cap, u, .int .u32 f] w fun e w' => e = .returned (.int .u32 ((A + f * C) / 4294967296 ^ k : Nat)) ∧ Wk w' g o k ((A + f * C) % 4294967296 ^ k) ∧ Only g o (o + k) w w' := by
  have HW := hide hW
  have HC := hide hC
  have Had := hide had
  have HE : Hid (mulC A C f k = (A + f * C) / 4294967296 ^ k) := mulC_all hW.lt hC.lt
  obtain ⟨_, _, adu, capu, rfl, hcu, hcellu⟩ := hC
  have HU : Hid (0 < k → ∃ g2 o2, adu = some ⟨g2, o2, none⟩ ∧ g2 ≠ g ∧ ∀ j, j < k → w.cell? ⟨g2, o2 + j, none⟩ = some (.int .u32 (dg C j : Nat))) := hcellu
  clear hW had hcellu
  go_enter Try.func44, Try.ntmps44
  go_wp2_with fail
  go_loopw [7, 11] (fun t7 t11 wr => ∃ i : Nat, i ≤ k ∧ t7 = .int .u64 (mulC A C f i : Nat) ∧ t11 = .int .i64 i ∧ Hid (Mid wr g o k i A (A + f * C) ∧ Only g o (o + k) w wr)) (fun _ t11 _ => k - (intOf t11).toNat)
  case atStart => exact ⟨0, by omega, by rw [mulC_zero]; rfl, rfl, HW.out.mid _, Only.refl _ _ _ _⟩
  case round =>
    obtain ⟨i, hi, rfl, rfl, HM⟩ := hrel
    by_cases hlt : i < k
    · have hlt' : (i : Int) < (k : Int) := by omega
      obtain rfl := Had.out (by omega)
      obtain ⟨g2, o2, rfl, hne2, hc2⟩ := HU.out (by omega)
      have hy : wr.cell? ⟨g2, o2 + i, none⟩ = some (.int .u32 (dg C i : Nat)) := by rw [World.cell?_of_block (w := w) (a := ⟨g2, o2 + i, none⟩) (HM.out.2.block g2 (lt_of_cell (hc2 i hlt)) hne2)]; exact hc2 i hlt
      have hx := HM.out.1.hi i (Nat.le_refl _) hlt
      have hfr := HM.out.1.free i hlt
      have Hs := hide (mul_step A C f i)
      have hxl := dg_le A i
      have hyl := dg_lt C i
      have hcl := mulC_le A C f i
      have hroom := mul_room (dg C i) f (dg A i) (mulC A C f i) hyl hf (by omega) hcl
      clear hc2
      generalize dg A i = x at *
      generalize dg C i = y at *
      generalize mulC A C f i = c at *
      obtain ⟨p, hp, hp'⟩ : ∃ p : Nat, p = y * f ∧ (y : Int) * (f : Int) = (p : Int) := ⟨y * f, rfl, by rw [Int.natCast_mul]⟩
      rw [← hp] at hroom Hs
      clear hp
      go_wp2_with fail
      go_quiet (fail)
      go_wp2_with fail
      go_roundw
      case rel =>
        refine ⟨i + 1, by omega, ?_, by go_num, ?_⟩
        · rw [← Hs.out.2]; exact congrArg _ (by omega)
        · exact ⟨(HM.out.1.drewN nq).step hlt _ (by rw [← Hs.out.1]; omega), (HM.out.2.drewN nq).setCell _ (by omega) (by omega) _⟩
      case measure => simp [intOf]; omega
    · obtain rfl : i = k := by omega
      have hcl := mulC_le A C f i
      rw [HE.out] at hcl
      rw [HE.out]
      generalize hc : (A + f * C) / 4294967296 ^ i = c at *
      have Hc := hide hc
      clear hc HE
      go_wp2_with fail
      go_ret
      refine ⟨?_, HM.out.1.wk_mod, HM.out.2⟩
      rw [Hc.out]
      apply ret_int
      omega

theorem or_shift (c y n : Nat) (hc : c < 2 ^ n) (hn : n < 32) (hy : y < 4294967296) :
    bits BinOp.or IntKind.u64 (c : Int) (IntKind.u64.wrap ((y : Int) * 2 ^ n)) = ((c + y * 2 ^ n : Nat) : Int) := by
  have e : ((y : Int) * 2 ^ n) = ((y * 2 ^ n : Nat) : Int) := by simp
  have hm : y * 2 ^ n % 2 ^ n = 0 := Nat.mul_mod_left _ _
  have h2 : (2 : Nat) ^ n ≤ 2 ^ 31 := Nat.pow_le_pow_right (by omega) (by omega)
  have hf : y * 2 ^ n ≤ 4294967295 * 2 ^ 31 := Nat.mul_le_mul (by omega) h2
  rw [e]
  generalize y * 2 ^ n = z at *
  rw [show IntKind.u64.wrap (z : Int) = (z : Int) from by rw [IntKind.wrap_u64]; omega, u64_or _ _ (by omega) (by omega) (by omega) (by omega)]
  simp only [Int.toNat_natCast]
  rw [Nat.or_comm, nat_join n z c hm hc]
  simp; omega

theorem sh_room (c y n : Nat) (hc : c < 2 ^ n) (hn : n < 32) (hy : y < 4294967296) : c + y * 2 ^ n < 18446744073709551616 := by
  have h2 : (2 : Nat) ^ n ≤ 2 ^ 31 := Nat.pow_le_pow_right (by omega) (by omega)
  have hf : y * 2 ^ n ≤ 4294967295 * 2 ^ 31 := Nat.mul_le_mul (by omega) h2
  omega

set_option maxRecDepth 100000 in
set_option maxHeartbeats 1000000 in
theorem shiftInto_any (ad : Option Addr) (g o k cap W0 : Nat) (u : Value) (m A n : Nat) (w : World) (hW : Wk w g o k W0) (hk : k ≤ 70368744177664) (hcap : k ≤ cap) (had : 0 < k → ad = some ⟨g, o, none⟩) (hC : RowX (· ≠ g) w u m A) (hn : n < 32) :
    Calls Try.prog 53 #[.slice ad k cap, u, .int .i64 n] w fun e w' => e = .returned (.tuple #[]) ∧ Wk w' g o k ((A * 2 ^ n) % 4294967296 ^ k) ∧ Only g o (o + k) w w' := by
  have HW := hide hW
  have HC := hide hC
  have Had := hide had
  clear hW had hC
  go_enter Try.func53, Try.ntmps53
  go_wp2_with fail
  go_loopw [6, 10] (fun t6 t10 wr => ∃ i : Nat, i ≤ k ∧ t6 = .int .u64 (shC A n i : Nat) ∧ t10 = .int .i64 i ∧ Hid (Mid wr g o k i W0 (A * 2 ^ n) ∧ Only g o (o + k) w wr)) (fun _ t10 _ => k - (intOf t10).toNat)
  case atStart => exact ⟨0, by omega, by rw [shC_zero]; rfl, rfl, HW.out.mid _, Only.refl _ _ _ _⟩
  case round =>
    obtain ⟨i, hi, rfl, rfl, HM⟩ := hrel
    by_cases hlt : i < k
    · have hlt' : (i : Int) < (k : Int) := by omega
      obtain rfl := Had.out (by omega)
      have HR := hide (HC.out.only HM.out.2)
      have hx := HM.out.1.hi i (Nat.le_refl _) hlt
      have hfr := HM.out.1.free i hlt
      have Hs := hide (sh_step A n i)
      have hyl := dg_le A i
      have hcl := shC_lt A n i
      have HL : Hid (Calls Try.prog 46 #[u, .int .i64 i] wr fun e w' => e = .returned (.int .u64 (dg A i : Nat)) ∧ w' = wr) := limbAt_any u m A i _ HR.out (by omega)
      generalize dg W0 i = x at *
      generalize dg A i = y at *
      generalize shC A n i = c at *
      have hor := or_shift c y n hcl hn (by omega)
      have hroom := sh_room c y n hcl hn (by omega)
      clear hcl
      generalize c + y * 2 ^ n = z at *
      go_wp2_with fail
      refine HL.out.mono ?_
      rintro e w' ⟨rfl, rfl⟩
      go_wp2_with fail
      go_roundw
      case rel =>
        refine ⟨i + 1, by omega, ?_, by go_num, ?_⟩
        · rw [← Hs.out.2]; exact congrArg _ (by omega)
        · exact ⟨HM.out.1.step hlt _ (by rw [← Hs.out.1]; omega), HM.out.2.setCell _ (by omega) (by omega) _⟩
      case measure => simp [intOf]; omega
    · obtain rfl : i = k := by omega
      go_wp2_with fail
      go_end0
      exact ⟨rfl, HM.out.1.wk_mod, HM.out.2⟩


theorem sub_u64_hi (x y b : Nat) (hx : x ≤ 4294967295) (hy : y ≤ 4294967295) (hb : b ≤ 1) (h : b + y ≤ x) :
    IntKind.u64.wrap (IntKind.u64.wrap ((x : Int) - (y : Int)) - (b : Int)) % 4294967296 = ((x - y - b : Nat) : Int) ∧ bits BinOp.and IntKind.u64 (IntKind.u64.wrap (IntKind.u64.wrap ((x : Int) - (y : Int)) - (b : Int)) / 4294967296) 1 = 0 := by
  have e : IntKind.u64.wrap (IntKind.u64.wrap ((x : Int) - (y : Int)) - (b : Int)) = ((x - y - b : Nat) : Int) := by simp only [IntKind.wrap_u64]; omega
  rw [e]
  refine ⟨by omega, ?_⟩
  rw [show ((x - y - b : Nat) : Int) / 4294967296 = 0 from by omega]
  decide

theorem sub_u64_lo (x y b : Nat) (hx : x ≤ 4294967295) (hy : y ≤ 4294967295) (hb : b ≤ 1) (h : x < b + y) :
    IntKind.u64.wrap (IntKind.u64.wrap ((x : Int) - (y : Int)) - (b : Int)) % 4294967296 = ((x + 4294967296 - y - b : Nat) : Int) ∧ bits BinOp.and IntKind.u64 (IntKind.u64.wrap (IntKind.u64.wrap ((x : Int) - (y : Int)) - (b : Int)) / 4294967296) 1 = 1 := by
  have e : IntKind.u64.wrap (IntKind.u64.wrap ((x : Int) - (y : Int)) - (b : Int)) = ((x + 18446744073709551616 - y - b : Nat) : Int) := by simp only [IntKind.wrap_u64]; omega
  rw [e]
  refine ⟨by omega, ?_⟩
  rw [show ((x + 18446744073709551616 - y - b : Nat) : Int) / 4294967296 = 4294967295 from by omega]
  decide

/-- The step of a difference, as the program reckons it. -/
theorem sub_round (P Y k i : Nat) (hi : i < k) (x y b : Nat) (hx : x ≤ 4294967295) (hy : y ≤ 4294967295) (hb : b ≤ 1)
    (hs : (b + y ≤ x → dg (subN P Y k) i = x - y - b ∧ brw P Y (i + 1) = 0) ∧ (x < b + y → dg (subN P Y k) i = x + 4294967296 - y - b ∧ brw P Y (i + 1) = 1)) :
    IntKind.u64.wrap (IntKind.u64.wrap ((x : Int) - (y : Int)) - (b : Int)) % 4294967296 = ((dg (subN P Y k) i : Nat) : Int) ∧ bits BinOp.and IntKind.u64 (IntKind.u64.wrap (IntKind.u64.wrap ((x : Int) - (y : Int)) - (b : Int)) / 4294967296) 1 = ((brw P Y (i + 1) : Nat) : Int) := by
  rcases Nat.lt_or_ge x (b + y) with h | h
  · have := hs.2 h
    rw [this.1, this.2]; exact sub_u64_lo x y b hx hy hb h
  · have := hs.1 h
    rw [this.1, this.2]; exact sub_u64_hi x y b hx hy hb h

end Go.Proofs.Ytanijhgmgldiiaa

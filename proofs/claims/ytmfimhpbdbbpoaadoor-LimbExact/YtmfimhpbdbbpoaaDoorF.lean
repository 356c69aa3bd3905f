/- addInto, addTimes, shiftInto, difference: limbs written in place. -/
import Derived.Test.YtmfimhpbdbbpoaaDoorC
import Derived.Test.YtmfimhpbdbbpoaaDoorE
/- compare, Cmp. -/
namespace Go.Proofs.YtmfimhpbdbbpoaaDoor
open Go.RowKit
open M
set_option linter.unusedVariables false
set_option linter.unusedSimpArgs false

theorem hide_ret {k : IntKind} {a b : Int} (h : Hid (a = b)) : Ending.returned (.int k a) = .returned (.int k b) := by rw [h.out]

set_option maxRecDepth 100000 in
set_option maxHeartbeats 1000000 in
theorem compare_any {S S' : Nat → Prop} (v u : Value) (k A m C : Nat) (w : World) (h : RowX S w v k A) (h' : RowX S' w u m C) (hn : Nrm k A) (hn' : Nrm m C) :
    Calls Tryd.prog 69 #[v, u] w fun e w' => e = .returned (.int .i64 (cmpI A C)) ∧ ∃ n, w' = w.drewN n := by
  obtain ⟨hN, hk, ad, cap, rfl, hc, hcell⟩ := h
  obtain ⟨hN', hk', ad', cap', rfl, hc', hcell'⟩ := h'
  have HC : Hid (0 < k → ∃ g o, ad = some ⟨g, o, none⟩ ∧ S g ∧ ∀ j, j < k → w.cell? ⟨g, o + j, none⟩ = some (.int .u32 (dg A j : Nat))) := hcell
  have HC' : Hid (0 < m → ∃ g o, ad' = some ⟨g, o, none⟩ ∧ S' g ∧ ∀ j, j < m → w.cell? ⟨g, o + j, none⟩ = some (.int .u32 (dg C j : Nat))) := hcell'
  have HN := hide hn
  have HN' := hide hn'
  clear hcell hcell' hN hN' hn hn'
  by_cases hkm : k = m
  · subst hkm
    go_enter Tryd.func69, Tryd.ntmps69
    go_wp2_with fail
    go_loopw [20] (fun t20 wr => ∃ i : Nat, i ≤ k ∧ t20 = .int .i64 i ∧ Hid (A / 4294967296 ^ (k - i) = C / 4294967296 ^ (k - i) ∧ ∃ n, wr = w.drewN n)) (fun t20 _ => k - (intOf t20).toNat)
    case atStart => exact ⟨0, by omega, rfl, by show _ = _; rw [Nat.sub_zero, Nat.div_eq_of_lt HN.out.1, Nat.div_eq_of_lt HN'.out.1], 0, rfl⟩
    case round =>
      obtain ⟨i, hi, rfl, HI⟩ := hrel
      by_cases hlt : i < k
      · have hlt' : (i : Int) < (k : Int) := by omega
        obtain ⟨j, hj, hj'⟩ : ∃ j : Nat, k - i = j + 1 ∧ (k : Int) - 1 - (i : Int) = (j : Int) := ⟨k - 1 - i, by omega, by omega⟩
        have HE : Hid (A / 4294967296 ^ (j + 1) = C / 4294967296 ^ (j + 1)) := by have := HI.out.1; rw [hj] at this; exact this
        have Hj := hide hj
        have HW := hide HI.out.2
        have hjk : j < k := by omega
        have hjk' : (j : Int) < (k : Int) := by omega
        obtain ⟨g, o, rfl, _, hc1⟩ := HC.out (by omega)
        obtain ⟨g', o', rfl, _, hc2⟩ := HC'.out (by omega)
        have hx : wr.cell? ⟨g, o + j, none⟩ = some (.int .u32 (dg A j : Nat)) := by obtain ⟨n, rfl⟩ := HW.out; exact hc1 j hjk
        have hy : wr.cell? ⟨g', o' + j, none⟩ = some (.int .u32 (dg C j : Nat)) := by obtain ⟨n, rfl⟩ := HW.out; exact hc2 j hjk
        have HD : Hid (A / 4294967296 ^ j = A / 4294967296 ^ (j + 1) * 4294967296 + dg A j ∧ C / 4294967296 ^ j = C / 4294967296 ^ (j + 1) * 4294967296 + dg C j) := ⟨div_succ A j, div_succ C j⟩
        clear hc1 hc2 HI hj
        generalize dg A j = x at *
        generalize dg C j = y at *
        by_cases hxy : x = y
        · subst hxy
          have HQ : Hid (A / 4294967296 ^ j = C / 4294967296 ^ j) := by show _ = _; rw [HD.out.1, HD.out.2, HE.out]
          clear HD HE
          go_wp2_with fail
          go_quiet (fail)
          go_wp2_with fail
          refine ⟨⟨i + 1, by omega, by go_num, ?_⟩, by simp [intOf]; omega⟩
          obtain ⟨n, rfl⟩ := HW.out
          have e : k - (i + 1) = j := by have := Hj.out; omega
          exact ⟨by rw [e]; exact HQ.out, n + nq, World.drewN_drewN _ _ _⟩
        · have hne : ((x : Int) == (y : Int)) = false := by rw [beq_eq_false_iff_ne]; omega
          have hne2 : ((x : Int) != (y : Int)) = true := by rw [bne_iff_ne]; omega
          by_cases hgt : y < x
          · have HQ : Hid (cmpI A C = 1) := cmpI_gt (lt_of_div (i := j) (by rw [HD.out.1, HD.out.2, HE.out]; omega))
            have hgt' : (y : Int) < (x : Int) := by omega
            clear HD HE
            go_wp2_with fail
            go_quiet (fail)
            have hx2 : (wr.drewN nq).cell? ⟨g, o + j, none⟩ = some (.int .u32 (x : Nat)) := hx
            have hy2 : (wr.drewN nq).cell? ⟨g', o' + j, none⟩ = some (.int .u32 (y : Nat)) := hy
            have HW2 : Hid (∃ n, wr.drewN nq = w.drewN n) := by obtain ⟨n, rfl⟩ := HW.out; exact ⟨_, World.drewN_drewN _ _ _⟩
            generalize wr.drewN nq = wq at *
            go_wp2_with fail
            go_quiet ((go_at_call 89; exact Calls.quiet_of_same (sign_true _)))
            go_wp2_with fail
            go_ret
            refine ⟨?_, ?_⟩
            · rw [HQ.out]; rfl
            · obtain ⟨n, rfl⟩ := HW2.out
              exact ⟨_, World.drewN_drewN _ _ _⟩
          · have HQ : Hid (cmpI A C = -1) := cmpI_lt (lt_of_div (i := j) (by rw [HD.out.1, HD.out.2, HE.out]; omega))
            have hgt' : ¬ (y : Int) < (x : Int) := by omega
            clear HD HE
            go_wp2_with fail
            go_quiet (fail)
            have hx2 : (wr.drewN nq).cell? ⟨g, o + j, none⟩ = some (.int .u32 (x : Nat)) := hx
            have hy2 : (wr.drewN nq).cell? ⟨g', o' + j, none⟩ = some (.int .u32 (y : Nat)) := hy
            have HW2 : Hid (∃ n, wr.drewN nq = w.drewN n) := by obtain ⟨n, rfl⟩ := HW.out; exact ⟨_, World.drewN_drewN _ _ _⟩
            generalize wr.drewN nq = wq at *
            go_wp2_with fail
            go_quiet ((go_at_call 89; exact Calls.quiet_of_same (sign_false _)))
            go_wp2_with fail
            go_ret
            refine ⟨?_, ?_⟩
            · rw [HQ.out]; rfl
            · obtain ⟨n, rfl⟩ := HW2.out
              exact ⟨_, World.drewN_drewN _ _ _⟩
      · have HQ : Hid (cmpI A C = 0) := by
          have := HI.out.1
          rw [show k - i = 0 from by omega] at this
          simp at this
          rw [this]; exact cmpI_eq C
        go_wp2_with fail
        go_ret
        exact ⟨by rw [HQ.out]; rfl, HI.out.2⟩
  · have hne : ((k : Int) == (m : Int)) = false := by rw [beq_eq_false_iff_ne]; omega
    have hne2 : ((k : Int) != (m : Int)) = true := by rw [bne_iff_ne]; omega
    by_cases hgt : m < k
    · have HQ : Hid (cmpI A C = 1) := cmpI_gt (HN'.out.lt_of HN.out hgt)
      have hgt' : (m : Int) < (k : Int) := by omega
      go_enter Tryd.func69, Tryd.ntmps69
      go_wp2_with fail
      refine (sign_any _ _).mono ?_
      rintro e w' ⟨rfl, rfl⟩
      go_wp2_with fail
      go_ret
      exact ⟨by rw [HQ.out]; rfl, 0, rfl⟩
    · have HQ : Hid (cmpI A C = -1) := cmpI_lt (HN.out.lt_of HN'.out (by omega))
      have hgt' : ¬ (m : Int) < (k : Int) := by omega
      go_enter Tryd.func69, Tryd.ntmps69
      go_wp2_with fail
      refine (sign_any _ _).mono ?_
      rintro e w' ⟨rfl, rfl⟩
      go_wp2_with fail
      go_ret
      exact ⟨by rw [HQ.out]; rfl, 0, rfl⟩

end Go.Proofs.YtmfimhpbdbbpoaaDoor

namespace Go.Proofs.YtmfimhpbdbbpoaaDoor
open Go.RowKit
open M
set_option linter.unusedVariables false
set_option linter.unusedSimpArgs false

set_option maxRecDepth 100000 in
set_option maxHeartbeats 1000000 in
theorem addInto_any (ad : Option Addr) (g o k cap A : Nat) (u : Value) (m C : Nat) (w : World) (hW : Wk w g o k A) (hk : k ≤ 70368744177664) (hcap : k ≤ cap) (had : 0 < k → ad = some ⟨g, o, none⟩) (hC : RowX (· ≠ g) w u m C) :
    Calls Tryd.prog 88 #[.slice ad k cap, u] w fun e w' => e = .returned (.tuple #[]) ∧ Wk w' g o k ((A + C) % 4294967296 ^ k) ∧ Only g o (o + k) w w' := by
  have HW := hide hW
  have HC := hide hC
  have Had := hide had
  clear hW hC had
  go_enter Tryd.func88, Tryd.ntmps88
  go_wp2_with fail
  go_loopw [4, 8] (fun t4 t8 wr => ∃ i : Nat, i ≤ k ∧ t4 = .int .u64 (addC A C i : Nat) ∧ t8 = .int .i64 i ∧ Hid (Mid wr g o k i A (A + C) ∧ Only g o (o + k) w wr)) (fun _ t8 _ => k - (intOf t8).toNat)
  case atStart => exact ⟨0, by omega, by rw [addC_zero]; rfl, rfl, HW.out.mid _, Only.refl _ _ _ _⟩
  case round =>
    obtain ⟨i, hi, rfl, rfl, HM⟩ := hrel
    by_cases hlt : i < k
    · have hlt' : (i : Int) < (k : Int) := by omega
      obtain rfl := Had.out (by omega)
      have HR := hide (HC.out.only HM.out.2)
      have hx := HM.out.1.hi i (Nat.le_refl _) hlt
      have hf := HM.out.1.free i hlt
      have Hs := hide (add_step A C i)
      have hxl := dg_le A i
      have hyl := dg_le C i
      have hcl := addC_le A C i
      have HL : Hid (∀ n, Calls Tryd.prog 90 #[u, .int .i64 i] (wr.drewN n) fun e w' => e = .returned (.int .u64 (dg C i : Nat)) ∧ w' = wr.drewN n) := fun n => limbAt_any u m C i _ (HR.out.drewN n) (by omega)
      generalize dg A i = x at *
      generalize dg C i = y at *
      generalize addC A C i = c at *
      go_wp2_with fail
      go_quiet ((go_at_call 90; exact Calls.quiet_of_same (HL.out _)))
      go_wp2_with fail
      refine ⟨⟨i + 1, by omega, ?_, by go_num, ?_⟩, by simp [intOf]; omega⟩
      · rw [← Hs.out.2]; exact congrArg _ (by omega)
      · exact ⟨(HM.out.1.drewN nq).step hlt _ (by rw [← Hs.out.1]; omega), (HM.out.2.drewN nq).setCell _ (by omega) (by omega) _⟩
    · obtain rfl : i = k := by omega
      go_wp2_with fail
      go_end0
      exact ⟨rfl, HM.out.1.wk_mod, HM.out.2⟩

set_option maxRecDepth 100000 in
set_option maxHeartbeats 1000000 in
theorem addTimes_any (ad : Option Addr) (g o k cap A : Nat) (u : Value) (C f : Nat) (w : World) (hW : Wk w g o k A) (hk : k ≤ 70368744177664) (hcap : k ≤ cap) (had : 0 < k → ad = some ⟨g, o, none⟩) (hC : RowX (· ≠ g) w u k C) (hf : f < 4294967296) :
    Calls Tryd.prog 91 #[.slice ad k cap, u, .int .u32 f] w fun e w' => e = .returned (.int .u32 ((A + f * C) / 4294967296 ^ k : Nat)) ∧ Wk w' g o k ((A + f * C) % 4294967296 ^ k) ∧ Only g o (o + k) w w' := by
  have HW := hide hW
  have HC := hide hC
  have Had := hide had
  have HE : Hid (mulC A C f k = (A + f * C) / 4294967296 ^ k) := mulC_all hW.lt hC.lt
  obtain ⟨_, _, adu, capu, rfl, hcu, hcellu⟩ := hC
  have HU : Hid (0 < k → ∃ g2 o2, adu = some ⟨g2, o2, none⟩ ∧ g2 ≠ g ∧ ∀ j, j < k → w.cell? ⟨g2, o2 + j, none⟩ = some (.int .u32 (dg C j : Nat))) := hcellu
  clear hW had hcellu
  go_enter Tryd.func91, Tryd.ntmps91
  go_wp2_with fail
  go_loopw [7, 11] (fun t7 t11 wr => ∃ i : Nat, i ≤ k ∧ t7 = .int .u64 (mulC A C f i : Nat) ∧ t11 = .int .i64 i ∧ Hid (Mid wr g o k i A (A + f * C) ∧ Only g o (o + k) w wr)) (fun _ t11 _ => k - (intOf t11).toNat)
  case atStart => exact ⟨0, by omega, by rw [mulC_zero]; rfl, rfl, HW.out.mid _, Only.refl _ _ _ _⟩
  case round =>
    obtain ⟨i, hi, rfl, rfl, HM⟩ := hrel
    by_cases hlt : i < k
    · have hlt' : (i : Int) < (k : Int) := by omega
      obtain rfl := Had.out (by omega)
      obtain ⟨g2, o2, rfl, hne2, hc2⟩ := HU.out (by omega)
      have hy : wr.cell? ⟨g2, o2 + i, none⟩ = some (.int .u32 (dg C i : Nat)) := by rw [World.cell?_of_block (w := w) (a := ⟨g2, o2 + i, none⟩) (HM.out.2.block g2 (lt_of_cell (hc2 i hlt)) hne2)]; exact hc2 i hlt
      have hx := HM.out.1.hi i (Nat.le_refl _) hlt
      have hfr := HM.out.1.free i hlt
      have Hs := hide (mul_step A C f i)
      have hxl := dg_le A i
      have hyl := dg_lt C i
      have hcl := mulC_le A C f i
      have hroom := mul_room (dg C i) f (dg A i) (mulC A C f i) hyl hf (by omega) hcl
      clear hc2
      generalize dg A i = x at *
      generalize dg C i = y at *
      generalize mulC A C f i = c at *
      obtain ⟨p, hp, hp'⟩ : ∃ p : Nat, p = y * f ∧ (y : Int) * (f : Int) = (p : Int) := ⟨y * f, rfl, by rw [Int.natCast_mul]⟩
      rw [← hp] at hroom Hs
      clear hp
      go_wp2_with fail
      go_quiet (fail)
      go_wp2_with fail
      go_roundw
      case rel =>
        refine ⟨i + 1, by omega, ?_, by go_num, ?_⟩
        · rw [← Hs.out.2]; exact congrArg _ (by omega)
        · exact ⟨(HM.out.1.drewN nq).step hlt _ (by rw [← Hs.out.1]; omega), (HM.out.2.drewN nq).setCell _ (by omega) (by omega) _⟩
      case measure => simp [intOf]; omega
    · obtain rfl : i = k := by omega
      have hcl := mulC_le A C f i
      rw [HE.out] at hcl
      rw [HE.out]
      generalize hc : (A + f * C) / 4294967296 ^ i = c at *
      have Hc := hide hc
      clear hc HE
      go_wp2_with fail
      go_ret
      refine ⟨?_, HM.out.1.wk_mod, HM.out.2⟩
      rw [Hc.out]
      apply ret_int
      omega

theorem or_shift (c y n : Nat) (hc : c < 2 ^ n) (hn : n < 32) (hy : y < 4294967296) :
    bits BinOp.or IntKind.u64 (c : Int) (IntKind.u64.wrap ((y : Int) * 2 ^ n)) = ((c + y * 2 ^ n : Nat) : Int) := by
  have e : ((y : Int) * 2 ^ n) = ((y * 2 ^ n : Nat) : Int) := by simp
  have hm : y * 2 ^ n % 2 ^ n = 0 := Nat.mul_mod_left _ _
  have h2 : (2 : Nat) ^ n ≤ 2 ^ 31 := Nat.pow_le_pow_right (by omega) (by omega)
  have hf : y * 2 ^ n ≤ 4294967295 * 2 ^ 31 := Nat.mul_le_mul (by omega) h2
  rw [e]
  generalize y * 2 ^ n = z at *
  rw [show IntKind.u64.wrap (z : Int) = (z : Int) from by rw [IntKind.wrap_u64]; omega, u64_or _ _ (by omega) (by omega) (by omega) (by omega)]
  simp only [Int.toNat_natCast]
  rw [Nat.or_comm, nat_join n z c hm hc]
  simp; omega

theorem sh_room (c y n : Nat) (hc : c < 2 ^ n) (hn : n < 32) (hy : y < 4294967296) : c + y * 2 ^ n < 18446744073709551616 := by
  have h2 : (2 : Nat) ^ n ≤ 2 ^ 31 := Nat.pow_le_pow_right (by omega) (by omega)
  have hf : y * 2 ^ n ≤ 4294967295 * 2 ^ 31 := Nat.mul_le_mul (by omega) h2
  omega

set_option maxRecDepth 100000 in
set_option maxHeartbeats 1000000 in
theorem shiftInto_any (ad : Option Addr) (g o k cap W0 : Nat) (u : Value) (m A n : Nat) (w : World) (hW : Wk w g o k W0) (hk : k ≤ 70368744177664) (hcap : k ≤ cap) (had : 0 < k → ad = some ⟨g, o, none⟩) (hC : RowX (· ≠ g) w u m A) (hn : n < 32) :
    Calls Tryd.prog 92 #[.slice ad k cap, u, .int .i64 n] w fun e w' => e = .returned (.tuple #[]) ∧ Wk w' g o k ((A * 2 ^ n) % 4294967296 ^ k) ∧ Only g o (o + k) w w' := by
  have HW := hide hW
  have HC := hide hC
  have Had := hide had
  clear hW had hC
  go_enter Tryd.func92, Tryd.ntmps92
  go_wp2_with fail
  go_loopw [6, 10] (fun t6 t10 wr => ∃ i : Nat, i ≤ k ∧ t6 = .int .u64 (shC A n i : Nat) ∧ t10 = .int .i64 i ∧ Hid (Mid wr g o k i W0 (A * 2 ^ n) ∧ Only g o (o + k) w wr)) (fun _ t10 _ => k - (intOf t10).toNat)
  case atStart => exact ⟨0, by omega, by rw [shC_zero]; rfl, rfl, HW.out.mid _, Only.refl _ _ _ _⟩
  case round =>
    obtain ⟨i, hi, rfl, rfl, HM⟩ := hrel
    by_cases hlt : i < k
    · have hlt' : (i : Int) < (k : Int) := by omega
      obtain rfl := Had.out (by omega)
      have HR := hide (HC.out.only HM.out.2)
      have hx := HM.out.1.hi i (Nat.le_refl _) hlt
      have hfr := HM.out.1.free i hlt
      have Hs := hide (sh_step A n i)
      have hyl := dg_le A i
      have hcl := shC_lt A n i
      have HL : Hid (Calls Tryd.prog 90 #[u, .int .i64 i] wr fun e w' => e = .returned (.int .u64 (dg A i : Nat)) ∧ w' = wr) := limbAt_any u m A i _ HR.out (by omega)
      generalize dg W0 i = x at *
      generalize dg A i = y at *
      generalize shC A n i = c at *
      have hor := or_shift c y n hcl hn (by omega)
      have hroom := sh_room c y n hcl hn (by omega)
      clear hcl
      generalize c + y * 2 ^ n = z at *
      go_wp2_with fail
      refine HL.out.mono ?_
      rintro e w' ⟨rfl, rfl⟩
      go_wp2_with fail
      go_roundw
      case rel =>
        refine ⟨i + 1, by omega, ?_, by go_num, ?_⟩
        · rw [← Hs.out.2]; exact congrArg _ (by omega)
        · exact ⟨HM.out.1.step hlt _ (by rw [← Hs.out.1]; omega), HM.out.2.setCell _ (by omega) (by omega) _⟩
      case measure => simp [intOf]; omega
    · obtain rfl : i = k := by omega
      go_wp2_with fail
      go_end0
      exact ⟨rfl, HM.out.1.wk_mod, HM.out.2⟩


theorem sub_u64_hi (x y b : Nat) (hx : x ≤ 4294967295) (hy : y ≤ 4294967295) (hb : b ≤ 1) (h : b + y ≤ x) :
    IntKind.u64.wrap (IntKind.u64.wrap ((x : Int) - (y : Int)) - (b : Int)) % 4294967296 = ((x - y - b : Nat) : Int) ∧ bits BinOp.and IntKind.u64 (IntKind.u64.wrap (IntKind.u64.wrap ((x : Int) - (y : Int)) - (b : Int)) / 4294967296) 1 = 0 := by
  have e : IntKind.u64.wrap (IntKind.u64.wrap ((x : Int) - (y : Int)) - (b : Int)) = ((x - y - b : Nat) : Int) := by simp only [IntKind.wrap_u64]; omega
  rw [e]
  refine ⟨by omega, ?_⟩
  rw [show ((x - y - b : Nat) : Int) / 4294967296 = 0 from by omega]
  decide

theorem sub_u64_lo (x y b : Nat) (hx : x ≤ 4294967295) (hy : y ≤ 4294967295) (hb : b ≤ 1) (h : x < b + y) :
    IntKind.u64.wrap (IntKind.u64.wrap ((x : Int) - (y : Int)) - (b : Int)) % 4294967296 = ((x + 4294967296 - y - b : Nat) : Int) ∧ bits BinOp.and IntKind.u64 (IntKind.u64.wrap (IntKind.u64.wrap ((x : Int) - (y : Int)) - (b : Int)) / 4294967296) 1 = 1 := by
  have e : IntKind.u64.wrap (IntKind.u64.wrap ((x : Int) - (y : Int)) - (b : Int)) = ((x + 18446744073709551616 - y - b : Nat) : Int) := by simp only [IntKind.wrap_u64]; omega
  rw [e]
  refine ⟨by omega, ?_⟩
  rw [show ((x + 18446744073709551616 - y - b : Nat) : Int) / 4294967296 = 4294967295 from by omega]
  decide

/-- The step of a difference, as the program reckons it. -/
theorem sub_round (P Y k i : Nat) (hi : i < k) (x y b : Nat) (hx : x ≤ 4294967295) (hy : y ≤ 4294967295) (hb : b ≤ 1)
    (hs : (b + y ≤ x → dg (subN P Y k) i = x - y - b ∧ brw P Y (i + 1) = 0) ∧ (x < b + y → dg (subN P Y k) i = x + 4294967296 - y - b ∧ brw P Y (i + 1) = 1)) :
    IntKind.u64.wrap (IntKind.u64.wrap ((x : Int) - (y : Int)) - (b : Int)) % 4294967296 = ((dg (subN P Y k) i : Nat) : Int) ∧ bits BinOp.and IntKind.u64 (IntKind.u64.wrap (IntKind.u64.wrap ((x : Int) - (y : Int)) - (b : Int)) / 4294967296) 1 = ((brw P Y (i + 1) : Nat) : Int) := by
  rcases Nat.lt_or_ge x (b + y) with h | h
  · have := hs.2 h
    rw [this.1, this.2]; exact sub_u64_lo x y b hx hy hb h
  · have := hs.1 h
    rw [this.1, this.2]; exact sub_u64_hi x y b hx hy hb h

end Go.Proofs.YtmfimhpbdbbpoaaDoor

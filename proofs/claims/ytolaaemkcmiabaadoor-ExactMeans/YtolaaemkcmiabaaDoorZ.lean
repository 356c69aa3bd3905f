/- shiftDown, shiftUp. -/
import Derived.Test.YtolaaemkcmiabaaDoorW
import Derived.Laws.MathBits
/- guess, subTimes, takeOut. -/
namespace Go.Proofs.YtolaaemkcmiabaaDoor
open Go.RowKit
open M
set_option linter.unusedVariables false
set_option linter.unusedSimpArgs false

set_option maxRecDepth 100000 in
set_option maxHeartbeats 2000000 in
theorem guess_any {S S' : Nat → Prop} (v u : Value) (m P D : Nat) (w : World) (h : RowX S w v (m + 3) P) (h' : RowX S' w u (m + 2) D) (hD0 : 0 < D) (hP : P < D * 4294967296) (ht : 0 < dg D (m + 1)) :
    Calls Tryd.prog 100 #[v, u] w fun e w' => ∃ f : Nat, e = .returned (.int .u32 f) ∧ P / D ≤ f ∧ f ≤ P / D + 1 ∧ f ≤ 4294967295 ∧ ∃ n, w' = w.drewN n := by
  have hDl := h'.1
  have hst := guess_start hD0 hDl hP ht
  have Hnext := hide (fun (f rest : Nat) => guess_next (f := f) (rest := rest) hD0 hDl hP ht)
  have Hend := hide (fun (f rest : Nat) => guess_end (f := f) (rest := rest) hD0 hDl hP ht)
  obtain ⟨_, hk, ad, cap, rfl, hc, hcell⟩ := h
  obtain ⟨_, hk', ad', cap', rfl, hc', hcell'⟩ := h'
  obtain ⟨g, o, rfl, _, hj⟩ := hcell (by omega)
  obtain ⟨g', o', rfl, _, hj'⟩ := hcell' (by omega)
  have c2 := hj (m + 2) (by omega)
  have c1 := hj (m + 1) (by omega)
  have c0 := hj m (by omega)
  have d1 := hj' (m + 1) (by omega)
  have d0 := hj' m (by omega)
  have l2 := dg_le P (m + 2)
  have l1 := dg_le P (m + 1)
  have l0 := dg_le P m
  have e1 := dg_le D (m + 1)
  have e0 := dg_le D m
  clear hcell hcell' hj hj' hDl
  generalize dg P (m + 2) = a2 at *
  generalize dg P (m + 1) = a1 at *
  generalize dg P m = a0 at *
  generalize dg D (m + 1) = top at *
  generalize dg D m = next at *
  generalize P / D = Q at *
  have htz : ¬ (top : Int) = 0 := by omega
  have htz' : ((top : Int) == 0) = false := by rw [beq_eq_false_iff_ne]; omega
  have hor := or_hi a2 a1 (by omega) (by omega)
  have hhl : a2 * 4294967296 + a1 < 18446744073709551616 := by omega
  obtain ⟨hh, hhe⟩ : ∃ hh, hh = a2 * 4294967296 + a1 := ⟨_, rfl⟩
  rw [← hhe] at hor hhl hst Hnext Hend
  clear hhe
  obtain ⟨q0, hq0, hq0'⟩ : ∃ q : Nat, q = hh / top ∧ (hh : Int).tdiv (top : Int) = (q : Int) := ⟨hh / top, rfl, rfl⟩
  obtain ⟨r0, hr0, hr0'⟩ : ∃ r : Nat, r = hh % top ∧ (hh : Int).tmod (top : Int) = (r : Int) := ⟨hh % top, rfl, rfl⟩
  have HS : Hid (q0 * top + r0 = hh ∧ Q ≤ q0) := ⟨by rw [hq0, hr0, Nat.mul_comm]; exact Nat.div_add_mod hh top, by rw [hq0]; exact hst⟩
  have hq0l : q0 ≤ hh := by rw [hq0]; exact Nat.div_le_self _ _
  have hr0l : r0 < top := by rw [hr0]; exact Nat.mod_lt _ ht
  clear hst hq0 hr0
  go_enter Tryd.func100, Tryd.ntmps100
  go_wp2_with fail
  go_quiet (fail)
  go_wp2_with fail
  go_quiet (fail)
  go_wp2_with fail
  go_quiet (fail)
  go_wp2_with fail
  go_loopw [9, 10] (fun t9 t10 wr => ∃ f rest : Nat, t9 = .int .u64 f ∧ t10 = .int .u64 rest ∧ f ≤ hh ∧ rest ≤ 8589934591 ∧ Hid (f * top + rest = hh ∧ Q ≤ f ∧ ∃ n, wr = w.drewN n)) (fun _ t10 _ => 8589934592 - (intOf t10).toNat)
  case atStart => exact ⟨q0, r0, rfl, rfl, hq0l, by omega, HS.out.1, HS.out.2, _, by rw [World.drewN_drewN, World.drewN_drewN]⟩
  case round =>
    obtain ⟨f, rest, rfl, rfl, hfl, hrl, HI⟩ := hrel
    have c0' : wr.cell? ⟨g, o + m, none⟩ = some (.int .u32 (a0 : Nat)) := by obtain ⟨n, hn⟩ := HI.out.2.2; rw [hn]; exact c0
    have Hn := hide (Hnext.out f rest HI.out.1 HI.out.2.1)
    have He := hide (Hend.out f rest HI.out.1)
    by_cases k1 : rest ≤ 4294967295
    · have k1' : (rest : Int) ≤ 4294967295 := by omega
      by_cases k2 : 4294967295 < f
      · have k2' : (4294967295 : Int) < (f : Int) := by omega
        have HN := hide (Hn.out (.inl k2))
        clear Hn He
        have hf0 : 0 < f := by omega
        go_wp2_with fail
        go_roundw
        case rel =>
          refine ⟨f - 1, rest + top, ?_, ?_, by omega, by omega, HN.out.2.1, HN.out.2.2, HI.out.2.2⟩
          · exact congrArg _ (by omega)
          · exact congrArg _ (by omega)
        case measure => simp [intOf]; omega
      · have k2' : ¬ (4294967295 : Int) < (f : Int) := by omega
        have hpb : f * next ≤ 4294967295 * 4294967295 := Nat.mul_le_mul (by omega) e0
        obtain ⟨p, hp, hp'⟩ : ∃ p : Nat, p = f * next ∧ (f : Int) * (next : Int) = (p : Int) := ⟨f * next, rfl, by rw [Int.natCast_mul]⟩
        have hor2 := or_hi rest a0 (by omega) (by omega)
        obtain ⟨z, hz⟩ : ∃ z, z = rest * 4294967296 + a0 := ⟨_, rfl⟩
        have hzl : z < 18446744073709551616 := by omega
        rw [← hz] at hor2
        rw [← hp] at hpb Hn He
        rw [← hz] at Hn He
        clear hp hz
        by_cases k3 : z < p
        · have k3' : (z : Int) < (p : Int) := by omega
          have HN := hide (Hn.out (.inr k3))
          clear Hn He
          have hf0 : 0 < f := HN.out.1
          go_wp2_with fail
          go_roundw
          case rel =>
            refine ⟨f - 1, rest + top, ?_, ?_, by omega, by omega, HN.out.2.1, HN.out.2.2, HI.out.2.2⟩
            · exact congrArg _ (by omega)
            · exact congrArg _ (by omega)
          case measure => simp [intOf]; omega
        · have k3' : ¬ (z : Int) < (p : Int) := by omega
          have HE := hide (He.out (.inr ⟨by omega, k3⟩))
          clear Hn He
          go_wp2_with fail
          go_ret
          exact ⟨f, ret_int (by omega), HI.out.2.1, HE.out.1, HE.out.2, HI.out.2.2⟩
    · have k1' : ¬ (rest : Int) ≤ 4294967295 := by omega
      have HE := hide (He.out (.inl (by omega)))
      have hfe := HE.out.2
      clear Hn He
      go_wp2_with fail
      go_ret
      exact ⟨f, ret_int (by omega), HI.out.2.1, HE.out.1, HE.out.2, HI.out.2.2⟩


set_option maxRecDepth 100000 in
set_option maxHeartbeats 1000000 in
theorem subTimes_any (ad : Option Addr) (g o k cap P : Nat) (u : Value) (m C f : Nat) (w : World) (hW : Wk w g o k P) (hk : k ≤ 70368744177664) (hcap : k ≤ cap) (had : 0 < k → ad = some ⟨g, o, none⟩) (hC : RowX (· ≠ g) w u m C) (hf : f < 4294967296) (hY : f * C < 4294967296 ^ k) :
    Calls Tryd.prog 101 #[.slice ad k cap, u, .int .u32 f] w fun e w' => e = .returned (.bool (decide (P < f * C))) ∧ Wk w' g o k (subN P (f * C) k) ∧ Only g o (o + k) w w' := by
  have HW := hide hW
  have HC := hide hC
  have Had := hide had
  have HY := hide hY
  clear hW had hC hY
  go_enter Tryd.func101, Tryd.ntmps101
  go_wp2_with fail
  go_loopw [7, 8, 13] (fun t7 t8 t13 wr => ∃ i : Nat, i ≤ k ∧ t7 = .int .u64 (mulC 0 C f i : Nat) ∧ t8 = .int .u64 (brw P (f * C) i : Nat) ∧ t13 = .int .i64 i ∧ Hid (Mid wr g o k i P (subN P (f * C) k) ∧ Only g o (o + k) w wr)) (fun _ _ t13 _ => k - (intOf t13).toNat)
  case atStart => exact ⟨0, by omega, by rw [mulC_zero]; rfl, by rw [brw_zero]; rfl, rfl, HW.out.mid _, Only.refl _ _ _ _⟩
  case round =>
    obtain ⟨i, hi, rfl, rfl, rfl, HM⟩ := hrel
    by_cases hlt : i < k
    · have hlt' : (i : Int) < (k : Int) := by omega
      obtain rfl := Had.out (by omega)
      have HR := hide (HC.out.only HM.out.2)
      have hx := HM.out.1.hi i (Nat.le_refl _) hlt
      have hfr := HM.out.1.free i hlt
      have Hs := hide (mul_step 0 C f i)
      have hcl := mulC_le 0 C f i
      have hyl := dg_lt C i
      have hxl := dg_le P i
      have hzl := dg_le (f * C) i
      have hbl := brw_le P (f * C) i
      have Hb := hide (sub_step P (f * C) k i hlt _ _ _ rfl rfl rfl)
      have HL : Hid (Calls Tryd.prog 87 #[u, .int .i64 i] wr fun e w' => e = .returned (.int .u64 (dg C i : Nat)) ∧ w' = wr) := limbAt_any u m C i _ HR.out (by omega)
      rw [dg_zero, Nat.add_zero, Nat.zero_add] at Hs
      have hroom := mul_room (dg C i) f 0 (mulC 0 C f i) hyl hf (by omega) hcl
      rw [Nat.add_zero] at hroom
      generalize dg P i = x at *
      generalize dg C i = y at *
      generalize mulC 0 C f i = c at *
      generalize dg (f * C) i = d at *
      generalize brw P (f * C) i = b at *
      obtain ⟨p, hp, hp'⟩ : ∃ p : Nat, p = y * f ∧ (y : Int) * (f : Int) = (p : Int) := ⟨y * f, rfl, by rw [Int.natCast_mul]⟩
      rw [← hp] at hroom Hs
      have hand : bits BinOp.and IntKind.u64 ((c : Int) + (p : Int)) 4294967295 = (d : Int) := by
        rw [and_low32 _ (by omega) (by omega), ← Hs.out.1]; omega
      clear hp
      go_wp2_with fail
      refine HL.out.mono ?_
      rintro e w' ⟨rfl, rfl⟩
      go_wp2_with fail
      have Hr := hide (sub_round P (f * C) k i hlt x d b hxl hzl hbl Hb.out)
      go_roundw
      case rel =>
        refine ⟨i + 1, by omega, ?_, by rw [Hr.out.2], by go_num, ?_⟩
        · rw [← Hs.out.2]; exact congrArg _ (by omega)
        · exact ⟨HM.out.1.step hlt _ Hr.out.1, HM.out.2.setCell _ (by omega) (by omega) _⟩
      case measure => simp [intOf]; omega
    · obtain rfl : i = k := by omega
      have HB : Hid (brw P (f * C) i = if P < f * C then 1 else 0) := by unfold brw; rw [mod_self HW.out.lt, mod_self HY.out]; rfl
      have HF : Hid (Wk wr g o i (subN P (f * C) i) ∧ Only g o (o + i) w wr) := ⟨HM.out.1.wk (subN_lt _ _ _), HM.out.2⟩
      clear HM
      by_cases hlt2 : P < f * C
      · have e1 : brw P (f * C) i = 1 := by rw [HB.out, if_pos hlt2]
        rw [e1]
        have HD := hide (decide_eq_true hlt2)
        clear e1 HB
        go_wp2_with fail
        go_ret
        exact ⟨by rw [HD.out]; rfl, HF.out⟩
      · have e1 : brw P (f * C) i = 0 := by rw [HB.out, if_neg hlt2]
        rw [e1]
        have HD := hide (decide_eq_false hlt2)
        clear e1 HB
        go_wp2_with fail
        go_ret
        exact ⟨by rw [HD.out]; rfl, HF.out⟩

set_option maxRecDepth 100000 in
set_option maxHeartbeats 1000000 in
theorem takeOut_any (g o m cap P D : Nat) (u : Value) (w : World) (hW : Wk w g o (m + 3) P) (hk : m + 3 ≤ 70368744177664) (hcap : m + 3 ≤ cap) (hC : RowX (· ≠ g) w u (m + 2) D) (hD0 : 0 < D) (hP : P < D * 4294967296) (ht : 0 < dg D (m + 1)) :
    Calls Tryd.prog 99 #[.slice (some ⟨g, o, none⟩) (m + 3) cap, u] w fun e w' => e = .returned (.int .u32 (P / D : Nat)) ∧ Wk w' g o (m + 3) (P % D) ∧ Only g o (o + (m + 3)) w w' := by
  have HW := hide hW
  have HC := hide hC
  clear hW hC
  have HG := hide (guess_any _ u m P D w (HW.out.row hk hcap (S := fun _ => True) trivial _ (fun _ => rfl)) HC.out hD0 hP ht)
  go_enter Tryd.func99, Tryd.ntmps99
  go_wp2_with fail
  refine HG.out.mono ?_
  rintro e w1 ⟨f, rfl, hf1, hf2, hf3, n1, rfl⟩
  have HT := hide (take_exact hD0 hf1 hf2)
  have hY : f * D < 4294967296 ^ (m + 3) := by
    have h1 := Nat.mul_le_mul_right D hf3
    have h2 := HC.out.1
    rw [show m + 3 = m + 2 + 1 from rfl, pw_succ]
    omega
  have HSb := hide (subTimes_any (some ⟨g, o, none⟩) g o (m + 3) cap P u (m + 2) D f (w.drewN n1) (HW.out.drewN n1) hk hcap (fun _ => rfl) (HC.out.drewN n1) (by omega) hY)
  have HO1 : Hid (Only g o (o + (m + 3)) w (w.drewN n1)) := (Only.refl _ _ _ _).drewN n1
  have HC1 : Hid (RowX (· ≠ g) (w.drewN n1) u (m + 2) D) := HC.out.drewN n1
  have HY := hide hY
  clear hf1 hf2 hY
  generalize w.drewN n1 = w1 at *
  by_cases hlt : P < f * D
  · have HX := hide (HT.out.2 hlt)
    have hf0 : 0 < f := HX.out.2.2
    rw [decide_eq_true hlt] at HSb
    have HL := hide hlt
    clear HT hlt
    go_wp2_with fail
    refine HSb.out.mono ?_
    rintro e w2 ⟨rfl, hW2, hO2⟩
    have H2 := hide (And.intro hW2 hO2)
    clear hW2 hO2
    go_wp2_with fail
    refine (addInto_any _ g o (m + 3) cap _ u (m + 2) D w2 H2.out.1 hk hcap (fun _ => rfl) (HC1.out.only H2.out.2)).mono ?_
    rintro e w3 ⟨rfl, hW3, hO3⟩
    have H3 : Hid (Wk w3 g o (m + 3) (P % D) ∧ Only g o (o + (m + 3)) w w3) := by
      refine ⟨?_, HO1.out.trans (H2.out.2.trans hO3)⟩
      have e : (subN P (f * D) (m + 3) + D) % 4294967296 ^ (m + 3) = P % D := by
        rw [subN_below HL.out HY.out, ← HX.out.2.1]
        have h1 := HW.out.lt
        have h2 := HY.out
        have h3 := HL.out
        have h7 : D < 4294967296 ^ (m + 3) := Nat.lt_of_lt_of_le HC.out.1 (Nat.pow_le_pow_right (by omega) (by omega))
        have h4 : f * D ≤ P + D := by
          have := Nat.mod_lt P hD0
          have h5 := HX.out.1
          have h6 := Nat.div_mul_le_self P D
          rw [← h5] at h6
          obtain ⟨e, rfl⟩ : ∃ e, f = e + 1 := ⟨f - 1, by omega⟩
          rw [Nat.add_sub_cancel] at h6
          rw [Nat.add_mul, Nat.one_mul]; omega
        generalize f * D = Y at *
        rw [show 4294967296 ^ (m + 3) - (Y - P) + D = (P + D - Y) + 4294967296 ^ (m + 3) from by omega, Nat.add_mod_right, Nat.mod_eq_of_lt]
        omega
      rw [e] at hW3; exact hW3
    clear hW3 hO3
    go_wp2_with fail
    go_ret
    exact ⟨ret_int (by have := HX.out.1; omega), H3.out⟩
  · have HX := hide (HT.out.1 (by omega))
    rw [decide_eq_false hlt] at HSb
    have HL : Hid (f * D ≤ P) := by show _ ≤ _; omega
    clear HT hlt
    go_wp2_with fail
    refine HSb.out.mono ?_
    rintro e w2 ⟨rfl, hW2, hO2⟩
    have H2 : Hid (Wk w2 g o (m + 3) (P % D) ∧ Only g o (o + (m + 3)) w w2) := by
      refine ⟨?_, HO1.out.trans hO2⟩
      rw [subN_ge HL.out HW.out.lt, HX.out.2] at hW2; exact hW2
    clear hW2 hO2
    go_wp2_with fail
    go_ret
    exact ⟨ret_int (by have := HX.out.1; omega), H2.out⟩

end Go.Proofs.YtolaaemkcmiabaaDoor

/- math/bits. -/
namespace Go.Proofs.YtolaaemkcmiabaaDoor
open Go.RowKit
open M
set_option linter.unusedVariables false
set_option linter.unusedSimpArgs false

theorem wrap64_small (n : Nat) (h : n ≤ 64) : wrap64 ((n : Nat) : Int) = (n : Int) := by unfold wrap64; omega

set_option maxRecDepth 1000000 in
set_option maxHeartbeats 4000000 in
theorem len32_a (x : Nat) (w : World) (hx : x < 4294967296) (h : x < 256) : Calls Tryd.prog 60 #[.int .u32 x] w fun e w' => e = .returned (.int .i64 (bitLen x : Nat)) ∧ w' = w := by
  have h1' : ¬ (65536 : Int) ≤ (x : Int) := by omega
  have h2' : ¬ (256 : Int) ≤ (x : Int) := by omega
  have Hz := hide (bitLen_le8 x (by omega))
  go_enter Tryd.func60, Tryd.ntmps60
  go_wp2_with fail
  go_ret
  refine ⟨?_, rfl⟩
  apply ret_int
  rw [len8tab_get]
  have := Hz.out
  simp only [wrap64]; omega

set_option maxRecDepth 1000000 in
set_option maxHeartbeats 4000000 in
theorem len32_b (x : Nat) (w : World) (hx : x < 4294967296) (h : 256 ≤ x) (h2 : x < 65536) : Calls Tryd.prog 60 #[.int .u32 x] w fun e w' => e = .returned (.int .i64 (bitLen x : Nat)) ∧ w' = w := by
  have h1' : decide ((65536 : Int) ≤ (x : Int)) = false := by simp; omega
  have h2' : (256 : Int) ≤ (x : Int) := by omega
  obtain ⟨z, hz, hz'⟩ : ∃ z : Nat, z = x / 256 ∧ (x : Int) / 256 = (z : Int) := ⟨x / 256, rfl, by simp⟩
  have Hy : Hid (bitLen x = 8 + bitLen z) := by show _ = _; rw [hz]; exact bitLen_shift x 8 (by omega)
  have hzl : z < 256 := by omega
  have Hz := hide (bitLen_le8 z hzl)
  clear hz h h2 hx
  go_enter Tryd.func60, Tryd.ntmps60
  go_wp2_with fail
  go_ret
  refine ⟨?_, rfl⟩
  apply ret_int
  rw [len8tab_get]
  have q1 := Hz.out
  have q2 := Hy.out
  simp only [wrap64]
  clear h1' h2' hz'
  omega

set_option maxRecDepth 1000000 in
set_option maxHeartbeats 4000000 in
theorem len32_c (x : Nat) (w : World) (hx : x < 4294967296) (h : 65536 ≤ x) (h2 : x / 65536 < 256) : Calls Tryd.prog 60 #[.int .u32 x] w fun e w' => e = .returned (.int .i64 (bitLen x : Nat)) ∧ w' = w := by
  have h1' : (65536 : Int) ≤ (x : Int) := by omega
  obtain ⟨y, hy, hy'⟩ : ∃ y : Nat, y = x / 65536 ∧ (x : Int) / 65536 = (y : Int) := ⟨x / 65536, rfl, by simp⟩
  have Hx : Hid (bitLen x = 16 + bitLen y) := by show _ = _; rw [hy]; exact bitLen_shift x 16 (by omega)
  have hyl : y < 65536 := by omega
  have h2' : ¬ (256 : Int) ≤ (y : Int) := by omega
  have hy2 : y < 256 := by omega
  have Hz := hide (bitLen_le8 y (by omega))
  clear hy hyl h2
  go_enter Tryd.func60, Tryd.ntmps60
  go_wp2_with fail
  go_ret
  refine ⟨?_, rfl⟩
  apply ret_int
  rw [len8tab_get]
  have q1 := Hz.out
  have q2 := Hx.out
  simp only [wrap64]
  clear h1' h2' hy' h hx
  omega

set_option maxRecDepth 1000000 in
set_option maxHeartbeats 4000000 in
theorem len32_d (x : Nat) (w : World) (hx : x < 4294967296) (h : 65536 ≤ x) (h2 : 256 ≤ x / 65536) : Calls Tryd.prog 60 #[.int .u32 x] w fun e w' => e = .returned (.int .i64 (bitLen x : Nat)) ∧ w' = w := by
  have h1' : (65536 : Int) ≤ (x : Int) := by omega
  obtain ⟨y, hy, hy'⟩ : ∃ y : Nat, y = x / 65536 ∧ (x : Int) / 65536 = (y : Int) := ⟨x / 65536, rfl, by simp⟩
  have Hx : Hid (bitLen x = 16 + bitLen y) := by show _ = _; rw [hy]; exact bitLen_shift x 16 (by omega)
  have hyl : y < 65536 := by omega
  have h2' : (256 : Int) ≤ (y : Int) := by omega
  clear hy h2
  obtain ⟨z, hz, hz'⟩ : ∃ z : Nat, z = y / 256 ∧ (y : Int) / 256 = (z : Int) := ⟨y / 256, rfl, by simp⟩
  have Hy : Hid (bitLen y = 8 + bitLen z) := by show _ = _; rw [hz]; exact bitLen_shift y 8 (by omega)
  have hzl : z < 256 := by omega
  have Hz := hide (bitLen_le8 z hzl)
  clear hz
  go_enter Tryd.func60, Tryd.ntmps60
  go_wp2_with fail
  go_ret
  refine ⟨?_, rfl⟩
  apply ret_int
  rw [len8tab_get]
  have q1 := Hz.out
  have q2 := Hx.out
  have q3 := Hy.out
  simp only [wrap64]
  clear h1' h2' hy' hz' h hx
  omega

theorem len32_any (x : Nat) (w : World) (hx : x < 4294967296) : Calls Tryd.prog 60 #[.int .u32 x] w fun e w' => e = .returned (.int .i64 (bitLen x : Nat)) ∧ w' = w := by
  by_cases h : x < 256
  · exact len32_a x w hx h
  · by_cases h1 : x < 65536
    · exact len32_b x w hx (by omega) h1
    · by_cases h2 : x / 65536 < 256
      · exact len32_c x w hx (by omega) h2
      · exact len32_d x w hx (by omega) (by omega)

theorem bitLen_le {n k : Nat} (h : n < 2 ^ k) : bitLen n ≤ k := by
  rcases Nat.lt_or_ge k (bitLen n) with h1 | h1
  · have h2 := (bitLen_spec n).2 (by rintro rfl; simp [bitLen] at h1)
    have := Nat.pow_le_pow_right (n := 2) (by omega) (show k ≤ bitLen n - 1 from by omega)
    omega
  · exact h1

theorem lz32_any (x : Nat) (w : World) (hx : x < 4294967296) : Calls Tryd.prog 98 #[.int .u32 x] w fun e w' => e = .returned (.int .i64 (32 - bitLen x : Nat)) ∧ w' = w := by
  have hb : bitLen x ≤ 32 := bitLen_le (by omega)
  have HL := hide (len32_any x w hx)
  generalize bitLen x = b at *
  go_enter Tryd.func98, Tryd.ntmps98
  go_wp2_with fail
  refine HL.out.mono ?_
  rintro e w1 ⟨rfl, rfl⟩
  go_wp2_with fail
  go_ret
  exact ⟨ret_int (by omega), rfl⟩

end Go.Proofs.YtolaaemkcmiabaaDoor

namespace Go.Proofs.YtolaaemkcmiabaaDoor
open Go.RowKit
open M
set_option linter.unusedVariables false
set_option linter.unusedSimpArgs false

theorem down_two (t z r : Nat) (hr : r < 32) : (t * 4294967296 * 4294967296 + z) / 2 ^ r % 4294967296 = z / 2 ^ r % 4294967296 := by
  have h2 : (4294967296 : Nat) = 2 ^ r * 2 ^ (32 - r) := by rw [← Nat.pow_add, show r + (32 - r) = 32 from by omega]
  have e : t * 4294967296 = 2 ^ r * (2 ^ (32 - r) * t) := by
    rw [Nat.mul_comm t, ← Nat.mul_assoc, ← h2]
  rw [e, Nat.mul_assoc (2 ^ r), Nat.add_comm, Nat.add_mul_div_left _ _ (Nat.two_pow_pos r), Nat.add_mul_mod_self_right]

/-- A limb of a number that is shifted down. -/
theorem dg_down (N i r : Nat) (hr : r < 32) : (dg N (i + 1) * 4294967296 + dg N i) / 2 ^ r % 4294967296 = dg (N / 2 ^ r) i := by
  have hd1 : N / 4294967296 ^ i = N / 4294967296 ^ (i + 1 + 1) * 4294967296 * 4294967296 + (dg N (i + 1) * 4294967296 + dg N i) := by
    rw [div_succ N i, div_succ N (i + 1), Nat.add_mul, Nat.add_assoc]
  have e : dg (N / 2 ^ r) i = N / 4294967296 ^ i / 2 ^ r % 4294967296 := by
    unfold dg
    rw [Nat.div_div_eq_div_mul, Nat.mul_comm, ← Nat.div_div_eq_div_mul]
  rw [e, hd1, down_two _ _ r hr]

theorem or_hi_w (r d : Nat) (hr : r < 4294967296) (hd : d < 4294967296) :
    bits BinOp.or IntKind.u64 (IntKind.u64.wrap ((r : Int) * 4294967296)) (d : Int) = ((r * 4294967296 + d : Nat) : Int) := by
  rw [show IntKind.u64.wrap ((r : Int) * 4294967296) = (r : Int) * 4294967296 from by rw [IntKind.wrap_u64]; omega]
  exact or_hi r d hr hd

theorem down_lt {N k r : Nat} (h : N < 4294967296 ^ k) : N / 2 ^ r < 4294967296 ^ k := Nat.lt_of_le_of_lt (Nat.div_le_self _ _) h

theorem shift_split (N n : Nat) : N / 4294967296 ^ (n / 32) / 2 ^ (n % 32) = N / 2 ^ n := by
  rw [show (4294967296 : Nat) = 2 ^ 32 from by decide, ← Nat.pow_mul, Nat.div_div_eq_div_mul, ← Nat.pow_add, show 32 * (n / 32) + n % 32 = n from by omega]

set_option maxRecDepth 100000 in
set_option maxHeartbeats 2000000 in
theorem shiftDown_any {S : Nat → Prop} (v : Value) (k N n : Nat) (w : World) (h : RowX S w v k N) (hn : n < 32 * k) :
    Calls Tryd.prog 82 #[v, .int .i64 n] w fun e w' => ∃ r, e = .returned r ∧ ∃ m, RowX (w.heap.size ≤ ·) w' r m (N / 2 ^ n) ∧ Nrm m (N / 2 ^ n) ∧ m ≤ k - n / 32 ∧ Below w.heap.size w w' := by
  obtain ⟨i5, hi5⟩ := info32
  have Hi := hide hi5
  clear hi5
  obtain ⟨hN, hk, ad, cap, rfl, hc, hcell⟩ := Row.old h.row
  obtain ⟨g, o, rfl, hg, hj⟩ := hcell (by omega)
  obtain ⟨q, hq, hq'⟩ : ∃ q : Nat, q = n / 32 ∧ (n : Int).tdiv 32 = (q : Int) := ⟨n / 32, rfl, rfl⟩
  obtain ⟨rr, hrr, hrr'⟩ : ∃ r : Nat, r = n % 32 ∧ (n : Int).tmod 32 = (r : Int) := ⟨n % 32, rfl, rfl⟩
  have hq2 : (n : Int) / 32 = (q : Int) := by omega
  have hrr2 : (n : Int) % 32 = (rr : Int) := by omega
  have hqk : q < k := by omega
  obtain ⟨K, hK, hK'⟩ : ∃ K : Nat, K = k - q ∧ (k : Int) - (q : Int) = (K : Int) := ⟨k - q, rfl, by omega⟩
  have hkept : RowX (· < w.heap.size) w (.slice (some ⟨g, o + q, none⟩) K K) K (N / 4294967296 ^ q) := by
    refine ⟨div_lt_pow (by rw [hK, show q + (k - q) = k from by omega]; exact hN), by omega, _, K, rfl, Nat.le_refl _, fun _ => ⟨g, o + q, rfl, hg, fun j hjk => ?_⟩⟩
    rw [← dg_shift, Nat.add_assoc]
    exact hj (q + j) (by omega)
  have hb1 : Below w.heap.size w (w.alloc (.cells (madeCells #[Value.int .u32 0] K) 97)) := (Below.refl _ _).alloc (Nat.le_refl _) _
  have HF : Hid (Wk (w.alloc (.cells (madeCells #[Value.int .u32 0] K) 97)) w.heap.size 0 K 0 ∧ Below w.heap.size w (w.alloc (.cells (madeCells #[Value.int .u32 0] K) 97)) ∧ N / 4294967296 ^ q / 2 ^ rr = N / 2 ^ n ∧ K = k - n / 32) :=
    ⟨wk_of_block (pw_pos _) (make_block w K), hb1, by rw [hq, hrr]; exact shift_split N n, by rw [hK, hq]⟩
  have HKp := hide hkept
  have hrl : rr < 32 := by omega
  have hrl' : (rr : Int) < 32 := by omega
  have hKb : K ≤ 70368744177664 := by omega
  have hsub : k - q = K := hK.symm
  have hqk' : (q : Int) ≤ (k : Int) := by omega
  have hkc : (k : Int) ≤ (cap : Int) := by omega
  have hne : ¬ k = q := by omega
  have hK0 : 0 < K := by omega
  clear hcell hj hN h hkept hb1 hq hrr hK
  generalize N / 4294967296 ^ q = M at *
  go_enter Tryd.func82, Tryd.ntmps82
  go_wp2_with (at_make; refine wpList_make_row _ rfl _ _ _ rfl 97 i5 (.int .u32 0) Tryd.underlying45 Hi.out.1 Hi.out.2.1 Hi.out.2.2.1 rfl .i64 .i64 K rfl rfl (by rw [Hi.out.2.2.2]; omega) (by omega) ?_)
  generalize w.alloc (.cells (madeCells #[Value.int .u32 0] K) 97) = wa at *
  go_loopw [22] (fun t22 wr => ∃ i : Nat, i ≤ K ∧ t22 = .int .i64 i ∧ Hid (Mid wr w.heap.size 0 K i 0 (M / 2 ^ rr) ∧ Below w.heap.size w wr)) (fun t22 _ => K - (intOf t22).toNat)
  case atStart => exact ⟨0, by omega, rfl, HF.out.1.mid _, HF.out.2.1⟩
  case round =>
    obtain ⟨i, hi, rfl, HM⟩ := hrel
    by_cases hlt : i < K
    · have hlt' : (i : Int) < (K : Int) := by omega
      have HR := hide (HKp.out.belowB HM.out.2)
      obtain ⟨_, _, ad3, cap3, hv3, _, hcell3⟩ := HR.out
      obtain ⟨g3, o3, ha3, _, hj3⟩ := hcell3 hK0
      simp only [Value.slice.injEq] at hv3
      rw [← hv3.1, Option.some.injEq, Addr.mk.injEq] at ha3
      obtain ⟨rfl, rfl, _⟩ := ha3
      have hx := hj3 i hlt
      have hy := HM.out.1.hi i (Nat.le_refl _) hlt
      have hf := HM.out.1.free i hlt
      rw [Nat.zero_add] at hy hf
      have hxl := dg_lt M i
      have hyl := dg_lt M (i + 1)
      have Hs := hide (dg_down M i rr hrl)
      have hcast : ((i : Int) + 1) = ((i + 1 : Nat) : Int) := by omega
      have HL : Hid (∀ n, Calls Tryd.prog 87 #[.slice (some ⟨g, o + q, none⟩) K K, .int .i64 (i + 1)] (wr.drewN n) fun e w' => e = .returned (.int .u64 (dg M (i + 1) : Nat)) ∧ w' = wr.drewN n) := fun n => by
        rw [hcast]; exact limbAt_any _ K M (i + 1) _ (HR.out.drewN n) (by omega)
      clear hj3 hcell3 hv3 hcast
      generalize dg M i = x at *
      generalize dg M (i + 1) = y at *
      have ho1 := or_hi y x hyl hxl
      have ho2 := or_hi_w y x hyl hxl
      obtain ⟨z, hz⟩ : ∃ z, z = y * 4294967296 + x := ⟨_, rfl⟩
      have hzl : z < 18446744073709551616 := by omega
      rw [← hz] at ho1 ho2 Hs
      clear hz
      go_wp2_with fail
      go_quiet ((go_at_call 87; exact Calls.quiet_of_same (HL.out _)))
      go_wp2_with fail
      go_roundw
      case rel =>
        refine ⟨i + 1, by omega, by go_num, ?_⟩
        have hst := (HM.out.1.drewN nq).step hlt ((z : Int) / 2 ^ rr % 4294967296) (by rw [← Hs.out]; simp)
        rw [Nat.zero_add] at hst
        exact ⟨hst, (below_drewN HM.out.2 nq).setCell (Nat.le_refl _) _⟩
      case measure => simp [intOf]; omega
    · obtain rfl : i = K := by omega
      have HW : Hid (RowX (w.heap.size ≤ ·) wr (.slice (some ⟨w.heap.size, 0, none⟩) i i) i (N / 2 ^ n) ∧ Below w.heap.size w wr) := by
        have h1 := HM.out.1.wk (down_lt HKp.out.1)
        rw [HF.out.2.2.1] at h1
        exact ⟨h1.row hKb (Nat.le_refl _) (Nat.le_refl _) _ (fun _ => rfl), HM.out.2⟩
      go_wp2_with fail
      refine (trim_any _ i (N / 2 ^ n) wr HW.out.1).mono ?_
      rintro e w3 ⟨r, rfl, m, hrow, hnrm, hnk, rfl⟩
      have HZ := hide (And.intro hrow (And.intro hnrm hnk))
      clear hrow hnrm hnk
      go_wp2_with fail
      go_ret
      exact ⟨r, rfl, m, HZ.out.1, HZ.out.2.1, by have := HZ.out.2.2; have := HF.out.2.2.2; omega, HW.out.2⟩

theorem Wk.lift {w w' : World} {g q m X : Nat} (h : Wk w g 0 (q + m) 0) (ho : Only g q (q + m) w w') (h' : Wk w' g q m X) : Wk w' g 0 (q + m) (X * 4294967296 ^ q) := by
  refine ⟨?_, fun j hj => ?_, fun j hj => by rw [ho.frozen]; exact h.free j hj⟩
  · rw [Nat.add_comm q m, Nat.pow_add]; exact Nat.mul_lt_mul_of_pos_right h'.lt (pw_pos q)
  · rw [Nat.zero_add]
    rcases Nat.lt_or_ge j q with h1 | h1
    · rw [ho.cell j (.inl h1)]
      have e : dg (X * 4294967296 ^ q) j = 0 := by
        have := dg_low (a := 0) (k := q) (b := X) h1
        rw [Nat.zero_add, dg_zero, Nat.mul_comm] at this; exact this
      rw [e]
      have := h.cell j hj
      rw [Nat.zero_add, dg_zero] at this; exact this
    · obtain ⟨t, rfl⟩ : ∃ t, j = q + t := ⟨j - q, by omega⟩
      rw [dg_shift, Nat.mul_div_cancel _ (pw_pos q)]
      exact h'.cell t (by omega)

theorem up_split (N n : Nat) : N * 2 ^ (n % 32) * 4294967296 ^ (n / 32) = N * 2 ^ n := by
  rw [show (4294967296 : Nat) = 2 ^ 32 from by decide, ← Nat.pow_mul, Nat.mul_assoc, ← Nat.pow_add, show n % 32 + 32 * (n / 32) = n from by omega]

theorem up_lt {N k r : Nat} (h : N < 4294967296 ^ k) (hr : r < 32) : N * 2 ^ r < 4294967296 ^ (k + 1) := by
  rw [pw_succ]
  have h2 : (2 : Nat) ^ r ≤ 2 ^ 32 := Nat.pow_le_pow_right (by omega) (by omega)
  have h3 : N * 2 ^ r ≤ N * 2 ^ 32 := Nat.mul_le_mul_left _ h2
  have h4 : N * 2 ^ 32 < 4294967296 ^ k * 2 ^ 32 := Nat.mul_lt_mul_of_pos_right h (by decide)
  omega

set_option maxRecDepth 100000 in
set_option maxHeartbeats 2000000 in
theorem shiftUp_any {S : Nat → Prop} (v : Value) (k N n : Nat) (w : World) (h : RowX S w v k N) (hn : n / 32 + k + 1 ≤ 70368744177664) :
    Calls Tryd.prog 84 #[v, .int .i64 n] w fun e w' => ∃ r, e = .returned r ∧ ∃ m, RowX (w.heap.size ≤ ·) w' r m (N * 2 ^ n) ∧ Nrm m (N * 2 ^ n) ∧ m ≤ n / 32 + k + 1 ∧ Below w.heap.size w w' := by
  obtain ⟨i5, hi5⟩ := info32
  have Hi := hide hi5
  clear hi5
  obtain ⟨q, hq, hq'⟩ : ∃ q : Nat, q = n / 32 ∧ (n : Int).tdiv 32 = (q : Int) := ⟨n / 32, rfl, rfl⟩
  obtain ⟨rr, hrr, hrr'⟩ : ∃ r : Nat, r = n % 32 ∧ (n : Int).tmod 32 = (r : Int) := ⟨n % 32, rfl, rfl⟩
  have hq2 : (n : Int) / 32 = (q : Int) := by omega
  have hrr2 : (n : Int) % 32 = (rr : Int) := by omega
  obtain ⟨k1, hk1, hk1'⟩ : ∃ k1 : Nat, k1 = q + k ∧ (q : Int) + (k : Int) = (k1 : Int) := ⟨q + k, rfl, by omega⟩
  obtain ⟨K, hK, hK'⟩ : ∃ K : Nat, K = q + (k + 1) ∧ (k1 : Int) + 1 = (K : Int) := ⟨q + (k + 1), rfl, by omega⟩
  have hKb : K ≤ 70368744177664 := by omega
  have HF : Hid (Wk (w.alloc (.cells (madeCells #[Value.int .u32 0] K) 97)) w.heap.size 0 K 0 ∧ Below w.heap.size w (w.alloc (.cells (madeCells #[Value.int .u32 0] K) 97)) ∧ RowX (· ≠ w.heap.size) (w.alloc (.cells (madeCells #[Value.int .u32 0] K) 97)) v k N ∧ N < 4294967296 ^ k) :=
    ⟨wk_of_block (pw_pos _) (make_block w K), (Below.refl _ _).alloc (Nat.le_refl _) _, (RowX.belowB (Row.old h.row) ((Below.refl _ _).alloc (Nat.le_refl _) _)).mono (fun g _ hg => Nat.ne_of_lt hg), h.1⟩
  have HE : Hid (N * 2 ^ rr * 4294967296 ^ q = N * 2 ^ n) := by show _ = _; rw [hq, hrr]; exact up_split N n
  obtain ⟨_, hk, ad, cap, rfl, hc, _⟩ := h
  have hrl : rr < 32 := by omega
  have hsub : K - q = k + 1 := by omega
  have hqK : (q : Int) ≤ (K : Int) := by omega
  have hne : ¬ K = q := by omega
  have hqn : q ≤ K := by omega
  have HK := hide (And.intro hK hq)
  clear hq hrr hk1 hK
  go_enter Tryd.func84, Tryd.ntmps84
  go_wp2_with (at_make; refine wpList_make_row _ rfl _ _ _ rfl 97 i5 (.int .u32 0) Tryd.underlying45 Hi.out.1 Hi.out.2.1 Hi.out.2.2.1 rfl .i64 .i64 K rfl rfl (by rw [Hi.out.2.2.2]; omega) (by omega) ?_)
  have hwsz : w.heap.size < (w.alloc (.cells (madeCells #[Value.int .u32 0] K) 97)).heap.size := by simp
  generalize w.alloc (.cells (madeCells #[Value.int .u32 0] K) 97) = wa at *
  have HW1 : Hid (Wk wa w.heap.size q (k + 1) (0 / 4294967296 ^ q % 4294967296 ^ (k + 1))) := by
    have := HF.out.1.sub q (k + 1) (by have := HK.out.1; omega)
    rwa [Nat.zero_add] at this
  refine (shiftInto_any _ w.heap.size q (k + 1) (k + 1) _ _ k N rr wa HW1.out (by omega) (Nat.le_refl _) (fun _ => rfl) HF.out.2.2.1 hrl).mono ?_
  rintro e w2 ⟨rfl, hW2, hO2⟩
  have HZ : Hid (RowX (w.heap.size ≤ ·) w2 (.slice (some ⟨w.heap.size, 0, none⟩) K K) K (N * 2 ^ n) ∧ Below w.heap.size w w2) := by
    rw [mod_self (up_lt HF.out.2.2.2 hrl)] at hW2
    have h0 := HF.out.1
    rw [HK.out.1] at h0
    have h1 := Wk.lift h0 (hO2.wider (Nat.le_refl _) (by omega)) hW2
    rw [HE.out, ← HK.out.1] at h1
    exact ⟨h1.row hKb (Nat.le_refl _) (Nat.le_refl _) _ (fun _ => rfl), HF.out.2.1.trans (hO2.below (Nat.le_refl _) (by omega))⟩
  clear hW2 hO2
  go_wp2_with fail
  refine (trim_any _ K (N * 2 ^ n) w2 HZ.out.1).mono ?_
  rintro e w3 ⟨r, rfl, m, hrow, hnrm, hnk, rfl⟩
  have HY := hide (And.intro hrow (And.intro hnrm hnk))
  clear hrow hnrm hnk
  go_wp2_with fail
  go_ret
  exact ⟨r, rfl, m, HY.out.1, HY.out.2.1, by have := HY.out.2.2; have := HK.out; omega, HZ.out.2⟩

end Go.Proofs.YtolaaemkcmiabaaDoor

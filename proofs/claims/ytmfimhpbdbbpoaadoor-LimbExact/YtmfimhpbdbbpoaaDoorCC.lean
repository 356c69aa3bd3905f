/- What is no number: the error ways of the program and of the document. -/
import Derived.Test.YtmfimhpbdbbpoaaDoorCA
import Derived.Test.YtmfimhpbdbbpoaaDoorH
/- The document's Times. -/
namespace Go.Proofs.YtmfimhpbdbbpoaaDoor
open Go.RowKit
open M
set_option linter.unusedVariables false
set_option linter.unusedSimpArgs false

theorem Wk.glue {w w' : World} {g K P i X : Nat} (h : Wk w g 0 K P) (ho : Only g i K w w') (h' : Wk w' g i (K - i) X) (hi : i ≤ K) : Wk w' g 0 K (P % 4294967296 ^ i + 4294967296 ^ i * X) := by
  have hX := h'.lt
  have hp := pw_pos i
  have hm := mod_lt P i
  refine ⟨?_, fun j hj => ?_, fun j hj => by rw [ho.frozen]; exact h.free j hj⟩
  · have e : 4294967296 ^ K = 4294967296 ^ i * 4294967296 ^ (K - i) := by rw [← Nat.pow_add]; congr 1; omega
    have : 4294967296 ^ i * (X + 1) ≤ 4294967296 ^ i * 4294967296 ^ (K - i) := Nat.mul_le_mul_left _ hX
    rw [Nat.mul_add, Nat.mul_one] at this
    omega
  · rcases Nat.lt_or_ge j i with h1 | h1
    · have := h.cell j hj
      rw [Nat.zero_add] at this ⊢
      rw [ho.cell j (by omega), this, dg_low h1, dg_mod P h1]
    · obtain ⟨t, rfl⟩ : ∃ t, j = i + t := ⟨j - i, by omega⟩
      have := h'.cell t (by omega)
      rw [Nat.zero_add, this, dg_shift _ i t, Nat.add_mul_div_left _ _ hp, Nat.div_eq_of_lt hm, Nat.zero_add]

theorem times_end {W C f j : Nat} (h0 : mulC W C f j = 0) (hC : C < 4294967296 ^ j) {t : Nat} (ht : j ≤ t) : dg (W + f * C) t = dg W t := by
  unfold mulC at h0
  rw [mod_self hC] at h0
  have e : (W + f * C) / 4294967296 ^ j = W / 4294967296 ^ j := by
    have e1 : W + f * C = (W % 4294967296 ^ j + f * C) + 4294967296 ^ j * (W / 4294967296 ^ j) := by have := Nat.div_add_mod W (4294967296 ^ j); omega
    rw [e1, Nat.add_mul_div_left _ _ (pw_pos j), h0, Nat.zero_add]
  obtain ⟨d, rfl⟩ : ∃ d, t = j + d := ⟨t - j, by omega⟩
  rw [dg_shift, dg_shift, e]

theorem times_top {W C f m : Nat} (hW : W < 4294967296 ^ m) (hC : C < 4294967296 ^ m) (hf : f < 4294967296) : W + f * C < 4294967296 ^ (m + 1) := by
  have h1 : f * C ≤ 4294967295 * C := Nat.mul_le_mul_right _ (by omega)
  rw [pw_succ]; omega

set_option maxRecDepth 100000 in
set_option maxHeartbeats 4000000 in
theorem rtimes_any {S S' : Nat → Prop} (v u : Value) (k A m C : Nat) (w : World) (h : RowX S w v k A) (h' : RowX S' w u m C) (hkb : k ≤ 100000) (hmb : m ≤ 100000) :
    Calls Tryd.prog 52 #[v, u] w fun e w' => ∃ r, e = .returned r ∧ ∃ n, Own w' w.heap.size r n (A * C) ∧ Nrm n (A * C) ∧ n ≤ k + m + 1 ∧ Below w.heap.size w w' := by
  obtain ⟨i5, hi5⟩ := info32
  have Hi := hide hi5
  clear hi5
  have HR := hide (And.intro (Row.old h.row) (Row.old h'.row))
  have HL := hide (And.intro h.1 h'.1)
  obtain ⟨_, _, ad, cap, rfl, _, _⟩ := h
  obtain ⟨_, _, ad', cap', rfl, _, _⟩ := h'
  obtain ⟨K, hK, hK1⟩ : ∃ K : Nat, k + m + 1 = K ∧ (k : Int) + (m : Int) + 1 = (K : Int) := ⟨_, rfl, by omega⟩
  have HS0 : Hid (Wk (w.alloc (.cells (madeCells #[Value.int .u32 0] K) 24)) w.heap.size 0 K (A % 4294967296 ^ 0 * C) ∧ Below w.heap.size w (w.alloc (.cells (madeCells #[Value.int .u32 0] K) 24)) ∧ w.heap.size < (w.alloc (.cells (madeCells #[Value.int .u32 0] K) 24)).heap.size) :=
    ⟨by rw [mod_zero, Nat.zero_mul]; exact wk_of_block (pw_pos _) (make_block w K), (Below.refl _ _).alloc (Nat.le_refl _) _, by simp⟩
  go_enter Tryd.func52, Tryd.ntmps52
  go_wp2_with (at_make; refine wpList_make_row _ rfl _ _ _ rfl 24 i5 (.int .u32 0) Tryd.underlying23 Hi.out.1 Hi.out.2.1 Hi.out.2.2.1 rfl .i64 .i64 K rfl rfl (by rw [Hi.out.2.2.2]; omega) (by omega) ?_)
  generalize w.alloc (.cells (madeCells #[Value.int .u32 0] K) 24) = wa at *
  go_loopw [6] (fun t6 wr => ∃ i : Nat, i ≤ k ∧ t6 = .int .i64 i ∧ Hid (Wk wr w.heap.size 0 K (A % 4294967296 ^ i * C) ∧ Below w.heap.size w wr ∧ w.heap.size < wr.heap.size)) (fun t6 _ => k - (intOf t6).toNat)
  case atStart => exact ⟨0, by omega, rfl, HS0⟩
  case round =>
    obtain ⟨i, hi, rfl, HS⟩ := hrel
    by_cases hlt : i < k
    · obtain ⟨wo, rfl⟩ : ∃ wo, wo = wr := ⟨_, rfl⟩
      have hlt' : (i : Int) < (k : Int) := by omega
      obtain ⟨W, hW⟩ : ∃ W, A % 4294967296 ^ i * C / 4294967296 ^ i = W := ⟨_, rfl⟩
      have HWl : Hid (W < 4294967296 ^ m ∧ W < 4294967296 ^ (K - i)) := by
        have h1 : A % 4294967296 ^ i * C < 4294967296 ^ (i + m) := mul_lt_pow (mod_lt A i) HL.out.2
        have h2 : W < 4294967296 ^ m := by rw [← hW]; exact div_lt_pow h1
        exact ⟨h2, Nat.lt_of_lt_of_le h2 (Nat.pow_le_pow_right (by omega) (by omega))⟩
      have HM0 : Hid (Wk wo w.heap.size i (K - i) W) := by
        have := HS.out.1.sub i (K - i) (by omega)
        rw [Nat.zero_add, hW, Nat.mod_eq_of_lt HWl.out.2] at this
        exact this
      have Hn : Hid (A % 4294967296 ^ i * C % 4294967296 ^ i + 4294967296 ^ i * (W + dg A i * C) = A % 4294967296 ^ (i + 1) * C) := by
        show _ = _
        rw [← prod_next, ← hW, Nat.mul_add, ← Nat.add_assoc]
        congr 1
        have := Nat.div_add_mod (A % 4294967296 ^ i * C) (4294967296 ^ i)
        omega
      have HXl : Hid (W + dg A i * C < 4294967296 ^ (m + 1)) := times_top HWl.out.1 HL.out.2 (dg_lt A i)
      have hfl := dg_lt A i
      clear hW
      have HF : Hid (∀ w2, Below w.heap.size w w2 → Row w2 (.slice ad k cap) k A) := fun w2 hb => (HR.out.1.belowB hb).row
      generalize hf : dg A i = f at *
      have Hf := hide hf
      clear hf
      go_wp2_with fail
      go_loopw [7, 8] (fun t7 t8 wr => ∃ j : Nat, j ≤ m + 1 ∧ t7 = .int .u64 (mulC W C f j : Nat) ∧ t8 = .int .i64 j ∧ Hid (Mid wr w.heap.size i (K - i) j W (W + f * C) ∧ Only w.heap.size i K wo wr)) (fun _ t8 _ => m + 1 - (intOf t8).toNat)
      case atStart => exact ⟨0, by omega, by rw [mulC_zero]; rfl, rfl, HM0.out.mid _, Only.refl _ _ _ _⟩
      case round =>
        obtain ⟨j, hj, rfl, rfl, HM⟩ := hrel
        have hcl := mulC_le W C f j
        have HBl : Hid (Below w.heap.size w wr) := HS.out.2.1.trans (HM.out.2.below (Nat.le_refl _) (by have := HS.out.2.2; omega))
        by_cases hgo : j < m ∨ mulC W C f j ≠ 0
        · have hjm : j ≤ m := by
            rcases hgo with h1 | h1
            · omega
            · rcases Nat.lt_or_ge m j with h2 | h2
              · exfalso; apply h1
                obtain rfl : j = m + 1 := by omega
                rw [mulC_all (Nat.lt_of_lt_of_le HWl.out.1 (Nat.pow_le_pow_right (by omega) (by omega))) (Nat.lt_of_lt_of_le HL.out.2 (Nat.pow_le_pow_right (by omega) (by omega)))]
                exact Nat.div_eq_of_lt HXl.out
              · exact h2
          have hjK : j < K - i := by omega
          obtain ⟨p, hp, hp1⟩ : ∃ p : Nat, i + j = p ∧ (i : Int) + (j : Int) = (p : Int) := ⟨_, rfl, by omega⟩
          have hpK : (p : Int) < (K : Int) := by omega
          have hy := HM.out.1.hi j (Nat.le_refl _) hjK
          have hfr := HM.out.1.free j hjK
          rw [hp] at hy hfr
          obtain ⟨_, _, ad2, cap2, hv2, _, hcell2⟩ := HF.out wr HBl.out
          obtain ⟨g2, o2, ha2, _, hj2⟩ := hcell2 (by omega)
          simp only [Value.slice.injEq] at hv2
          rw [← hv2.1] at ha2
          subst ha2
          have hx := hj2 i hlt
          rw [Hf.out] at hx
          have HCa : Hid (∀ n, Calls Tryd.prog 86 #[.slice ad' m cap', .int .i64 j] (wr.drewN n) fun e w' => e = .returned (.int .u64 (dg C j : Nat)) ∧ w' = wr.drewN n) := fun n => rat_any _ m C j _ ((HR.out.2.belowB HBl.out).row.drewN n) (by omega)
          have Hst := hide (mul_step W C f j)
          have hcjl := dg_le C j
          have hwl := dg_le W j
          have hstep := HM.out.1.step hjK
          rw [hp] at hstep
          have Hstep := hide (fun (n : Nat) => (HM.out.1.drewN n).step hjK)
          clear hj2 hcell2 hv2 hstep
          generalize dg C j = x at *
          generalize dg W j = z at *
          generalize mulC W C f j = c at *
          have hfx : f * x ≤ 4294967295 * 4294967295 := Nat.mul_le_mul (by omega) hcjl
          have hcomm : x * f = f * x := Nat.mul_comm _ _
          rw [hcomm] at Hst
          obtain ⟨y, hyy, hy1⟩ : ∃ y : Nat, f * x = y ∧ (f : Int) * (x : Int) = (y : Int) := ⟨_, rfl, by rw [Int.natCast_mul]⟩
          rw [hyy] at Hst hfx
          obtain ⟨s, hs, hs1⟩ : ∃ s : Nat, c + (y + z) = s ∧ (y : Int) + (z : Int) + (c : Int) = (s : Int) := ⟨_, rfl, by omega⟩
          rw [hs] at Hst
          have hsl : s < 18446744073709551616 := by omega
          obtain ⟨d, hd, hd1⟩ : ∃ d : Nat, s % 4294967296 = d ∧ (s : Int) % 4294967296 = (d : Int) := ⟨_, rfl, by omega⟩
          obtain ⟨q, hq, hq1⟩ : ∃ q : Nat, s / 4294967296 = q ∧ (s : Int) / 4294967296 = (q : Int) := ⟨_, rfl, by omega⟩
          rw [hd, hq] at Hst
          have hdl : d < 4294967296 := by omega
          have Hp := hide hp
          clear hyy hs hd hq hcomm hp
          have h3 : j < m ∨ (¬ j < m ∧ 0 < c) := by omega
          clear hgo
          rcases h3 with h1 | ⟨h1, h2⟩
          · have h1' : (j : Int) < (m : Int) := by omega
            go_wp2_with fail
            go_quiet ((go_at_call 86; exact Calls.quiet_of_same (HCa.out _)))
            go_wp2_with fail
            go_roundw
            case rel =>
              refine ⟨j + 1, by omega, by rw [← Hst.out.2], by go_num, ?_⟩
              have := Hstep.out nq (d : Int) (by rw [← Hst.out.1])
              rw [Hp.out] at this
              exact ⟨this, (HM.out.2.drewN nq).setCell p (by have := Hp.out; omega) (by omega) _⟩
            case measure => simp [intOf]; omega
          · have h1' : ¬ (j : Int) < (m : Int) := by omega
            have h2' : (0 : Int) < (c : Int) := by omega
            go_wp2_with fail
            go_quiet ((go_at_call 86; exact Calls.quiet_of_same (HCa.out _)))
            go_wp2_with fail
            go_roundw
            case rel =>
              refine ⟨j + 1, by omega, by rw [← Hst.out.2], by go_num, ?_⟩
              have := Hstep.out nq (d : Int) (by rw [← Hst.out.1])
              rw [Hp.out] at this
              exact ⟨this, (HM.out.2.drewN nq).setCell p (by have := Hp.out; omega) (by omega) _⟩
            case measure => simp [intOf]; omega
        · have h1' : ¬ (j : Int) < (m : Int) := by omega
          have h0 : mulC W C f j = 0 := by omega
          have HN : Hid (Wk wr w.heap.size 0 K (A % 4294967296 ^ (i + 1) * C) ∧ Below w.heap.size w wr ∧ w.heap.size < wr.heap.size) := by
            refine ⟨?_, HBl.out, Nat.lt_of_lt_of_le HS.out.2.2 HM.out.2.size⟩
            have hC : C < 4294967296 ^ j := Nat.lt_of_lt_of_le HL.out.2 (Nat.pow_le_pow_right (by omega) (by omega))
            have hX : Wk wr w.heap.size i (K - i) (W + f * C) := ⟨Nat.lt_of_lt_of_le HXl.out (Nat.pow_le_pow_right (by omega) (by omega)), fun t ht => by
              rcases Nat.lt_or_ge t j with h2 | h2
              · exact HM.out.1.lo t h2
              · rw [times_end h0 hC h2]; exact HM.out.1.hi t h2 ht, HM.out.1.free⟩
            have := HS.out.1.glue HM.out.2 hX (by omega)
            rwa [Hn.out] at this
          rw [h0]
          clear HM
          go_wp2_with fail
          go_roundw
          case rel => exact ⟨i + 1, by omega, by go_num, HN⟩
          case measure => simp [intOf]; omega
    · obtain rfl : i = k := by omega
      have HE : Hid (Row wr (.slice (some ⟨w.heap.size, 0, none⟩) K K) K (A * C) ∧ Below w.heap.size w wr) := by
        have := HS.out.1
        rw [mod_self HL.out.1] at this
        exact ⟨this.row (S := fun _ => True) (by omega) (Nat.le_refl _) trivial _ (fun _ => rfl), HS.out.2.1⟩
      clear HS
      go_wp2_with fail
      refine (rtrim_any _ K (A * C) wr HE.out.1 (by omega)).mono ?_
      rintro e w3 ⟨r, rfl, n, ho, hn, hnk, hb⟩
      have HF : Hid (Own w3 w.heap.size r n _ ∧ Nrm n _ ∧ n ≤ i + m + 1 ∧ Below w.heap.size w w3) := ⟨ho.mono HE.out.2.size, hn, by omega, HE.out.2.trans (hb.mono HE.out.2.size)⟩
      clear ho hn hb
      go_wp2_with fail
      go_ret
      exact ⟨r, rfl, n, HF.out⟩

end Go.Proofs.YtmfimhpbdbbpoaaDoor

namespace Go.Proofs.YtmfimhpbdbbpoaaDoor
open Go.RowKit
open M
set_option linter.unusedVariables false
set_option linter.unusedSimpArgs false

/-- The error of two rows, the first one's first. -/
def chk2 (k A m C : Nat) : Int := if chk k A = 0 then chk m C else chk k A

theorem chk2_ok {k A m C : Nat} (hA : A < 4294967296 ^ k) (hC : C < 4294967296 ^ m) (h : chk2 k A m C = 0) : (Nrm k A ∧ k ≤ 8192) ∧ Nrm m C ∧ m ≤ 8192 := by
  unfold chk2 at h
  by_cases h0 : chk k A = 0
  · rw [if_pos h0] at h
    exact ⟨nrm_chk hA h0, nrm_chk hC h⟩
  · rw [if_neg h0] at h
    exact absurd h h0

theorem chk2_nrm {k A m C : Nat} (h : Nrm k A) (hk : k ≤ 8192) (h' : Nrm m C) (hm : m ≤ 8192) : chk2 k A m C = 0 := by
  unfold chk2
  rw [if_pos (chk_nrm h hk), chk_nrm h' hm]

set_option maxRecDepth 100000 in
theorem Add_bad {S S' : Nat → Prop} (v u : Value) (k A m C : Nat) (w : World) (h : RowX S w v k A) (h' : RowX S' w u m C) (hc : chk2 k A m C ≠ 0) :
    Calls Tryd.prog 27 #[v, u] w fun e w' => e = .returned (.tuple #[.slice none 0 0, .int .i64 (chk2 k A m C)]) ∧ w' = w := by
  have HC := hide (checkBoth_any v u k A m C w h h')
  change Hid (Calls _ _ _ _ fun e w' => e = .returned (.int .i64 (chk2 k A m C)) ∧ w' = w) at HC
  clear h h'
  have h0 : (chk2 k A m C == 0) = false := by rw [beq_eq_false_iff_ne]; exact hc
  have h1 : (chk2 k A m C != 0) = true := by rw [bne_iff_ne]; exact hc
  generalize chk2 k A m C = c at *
  go_enter Tryd.func27, Tryd.ntmps27
  go_wp2_with fail
  refine HC.out.mono ?_
  rintro e w1 ⟨rfl, rfl⟩
  go_wp2_with fail
  go_ret2
  exact ⟨rfl, rfl⟩

set_option maxRecDepth 100000 in
theorem Sub_bad {S S' : Nat → Prop} (v u : Value) (k A m C : Nat) (w : World) (h : RowX S w v k A) (h' : RowX S' w u m C) (hc : chk2 k A m C ≠ 0) :
    Calls Tryd.prog 29 #[v, u] w fun e w' => e = .returned (.tuple #[.slice none 0 0, .int .i64 (chk2 k A m C)]) ∧ w' = w := by
  have HC := hide (checkBoth_any v u k A m C w h h')
  change Hid (Calls _ _ _ _ fun e w' => e = .returned (.int .i64 (chk2 k A m C)) ∧ w' = w) at HC
  clear h h'
  have h0 : (chk2 k A m C == 0) = false := by rw [beq_eq_false_iff_ne]; exact hc
  have h1 : (chk2 k A m C != 0) = true := by rw [bne_iff_ne]; exact hc
  generalize chk2 k A m C = c at *
  go_enter Tryd.func29, Tryd.ntmps29
  go_wp2_with fail
  refine HC.out.mono ?_
  rintro e w1 ⟨rfl, rfl⟩
  go_wp2_with fail
  go_ret2
  exact ⟨rfl, rfl⟩

set_option maxRecDepth 100000 in
theorem Mul_bad {S S' : Nat → Prop} (v u : Value) (k A m C : Nat) (w : World) (h : RowX S w v k A) (h' : RowX S' w u m C) (hc : chk2 k A m C ≠ 0) :
    Calls Tryd.prog 33 #[v, u] w fun e w' => e = .returned (.tuple #[.slice none 0 0, .int .i64 (chk2 k A m C)]) ∧ w' = w := by
  have HC := hide (checkBoth_any v u k A m C w h h')
  change Hid (Calls _ _ _ _ fun e w' => e = .returned (.int .i64 (chk2 k A m C)) ∧ w' = w) at HC
  clear h h'
  have h0 : (chk2 k A m C == 0) = false := by rw [beq_eq_false_iff_ne]; exact hc
  have h1 : (chk2 k A m C != 0) = true := by rw [bne_iff_ne]; exact hc
  generalize chk2 k A m C = c at *
  go_enter Tryd.func33, Tryd.ntmps33
  go_wp2_with fail
  refine HC.out.mono ?_
  rintro e w1 ⟨rfl, rfl⟩
  go_wp2_with fail
  go_ret2
  exact ⟨rfl, rfl⟩

set_option maxRecDepth 100000 in
theorem Gcd_bad {S S' : Nat → Prop} (v u : Value) (k A m C : Nat) (w : World) (h : RowX S w v k A) (h' : RowX S' w u m C) (hc : chk2 k A m C ≠ 0) :
    Calls Tryd.prog 47 #[v, u] w fun e w' => e = .returned (.tuple #[.slice none 0 0, .int .i64 (chk2 k A m C)]) ∧ w' = w := by
  have HC := hide (checkBoth_any v u k A m C w h h')
  change Hid (Calls _ _ _ _ fun e w' => e = .returned (.int .i64 (chk2 k A m C)) ∧ w' = w) at HC
  clear h h'
  have h0 : (chk2 k A m C == 0) = false := by rw [beq_eq_false_iff_ne]; exact hc
  have h1 : (chk2 k A m C != 0) = true := by rw [bne_iff_ne]; exact hc
  generalize chk2 k A m C = c at *
  go_enter Tryd.func47, Tryd.ntmps47
  go_wp2_with fail
  refine HC.out.mono ?_
  rintro e w1 ⟨rfl, rfl⟩
  go_wp2_with fail
  go_ret2
  exact ⟨rfl, rfl⟩

set_option maxRecDepth 100000 in
theorem DivMod_bad {S S' : Nat → Prop} (v u : Value) (k A m C : Nat) (w : World) (h : RowX S w v k A) (h' : RowX S' w u m C) (hc : chk2 k A m C ≠ 0) :
    Calls Tryd.prog 45 #[v, u] w fun e w' => e = .returned (.tuple #[.slice none 0 0, .slice none 0 0, .int .i64 (chk2 k A m C)]) ∧ w' = w := by
  have HC := hide (checkBoth_any v u k A m C w h h')
  change Hid (Calls _ _ _ _ fun e w' => e = .returned (.int .i64 (chk2 k A m C)) ∧ w' = w) at HC
  clear h h'
  have h0 : (chk2 k A m C == 0) = false := by rw [beq_eq_false_iff_ne]; exact hc
  have h1 : (chk2 k A m C != 0) = true := by rw [bne_iff_ne]; exact hc
  generalize chk2 k A m C = c at *
  go_enter Tryd.func45, Tryd.ntmps45
  go_wp2_with fail
  refine HC.out.mono ?_
  rintro e w1 ⟨rfl, rfl⟩
  go_wp2_with fail
  go_ret3
  exact ⟨rfl, rfl⟩

set_option maxRecDepth 100000 in
theorem Cmp_bad {S S' : Nat → Prop} (v u : Value) (k A m C : Nat) (w : World) (h : RowX S w v k A) (h' : RowX S' w u m C) (hc : chk2 k A m C ≠ 0) :
    Calls Tryd.prog 31 #[v, u] w fun e w' => e = .returned (.int .i64 0) ∧ w' = w := by
  have HC := hide (checkBoth_any v u k A m C w h h')
  change Hid (Calls _ _ _ _ fun e w' => e = .returned (.int .i64 (chk2 k A m C)) ∧ w' = w) at HC
  clear h h'
  have h0 : (chk2 k A m C == 0) = false := by rw [beq_eq_false_iff_ne]; exact hc
  have h1 : (chk2 k A m C != 0) = true := by rw [bne_iff_ne]; exact hc
  generalize chk2 k A m C = c at *
  go_enter Tryd.func31, Tryd.ntmps31
  go_wp2_with fail
  refine HC.out.mono ?_
  rintro e w1 ⟨rfl, rfl⟩
  go_wp2_with fail
  go_ret
  exact ⟨rfl, rfl⟩

set_option maxRecDepth 100000 in
theorem rAdd_bad {S S' : Nat → Prop} (v u : Value) (k A m C : Nat) (w : World) (h : RowX S w v k A) (h' : RowX S' w u m C) (hc : chk2 k A m C ≠ 0) :
    Calls Tryd.prog 28 #[v, u] w fun e w' => e = .returned (.tuple #[.slice none 0 0, .int .i64 (chk2 k A m C)]) ∧ w' = w := by
  have HC := hide (rboth_any v u k A m C w h h')
  change Hid (Calls _ _ _ _ fun e w' => e = .returned (.int .i64 (chk2 k A m C)) ∧ w' = w) at HC
  clear h h'
  have h0 : (chk2 k A m C == 0) = false := by rw [beq_eq_false_iff_ne]; exact hc
  have h1 : (chk2 k A m C != 0) = true := by rw [bne_iff_ne]; exact hc
  generalize chk2 k A m C = c at *
  go_enter Tryd.func28, Tryd.ntmps28
  go_wp2_with fail
  refine HC.out.mono ?_
  rintro e w1 ⟨rfl, rfl⟩
  go_wp2_with fail
  go_ret2
  exact ⟨rfl, rfl⟩

set_option maxRecDepth 100000 in
theorem rSub_bad {S S' : Nat → Prop} (v u : Value) (k A m C : Nat) (w : World) (h : RowX S w v k A) (h' : RowX S' w u m C) (hc : chk2 k A m C ≠ 0) :
    Calls Tryd.prog 30 #[v, u] w fun e w' => e = .returned (.tuple #[.slice none 0 0, .int .i64 (chk2 k A m C)]) ∧ w' = w := by
  have HC := hide (rboth_any v u k A m C w h h')
  change Hid (Calls _ _ _ _ fun e w' => e = .returned (.int .i64 (chk2 k A m C)) ∧ w' = w) at HC
  clear h h'
  have h0 : (chk2 k A m C == 0) = false := by rw [beq_eq_false_iff_ne]; exact hc
  have h1 : (chk2 k A m C != 0) = true := by rw [bne_iff_ne]; exact hc
  generalize chk2 k A m C = c at *
  go_enter Tryd.func30, Tryd.ntmps30
  go_wp2_with fail
  refine HC.out.mono ?_
  rintro e w1 ⟨rfl, rfl⟩
  go_wp2_with fail
  go_ret2
  exact ⟨rfl, rfl⟩

set_option maxRecDepth 100000 in
theorem rMul_bad {S S' : Nat → Prop} (v u : Value) (k A m C : Nat) (w : World) (h : RowX S w v k A) (h' : RowX S' w u m C) (hc : chk2 k A m C ≠ 0) :
    Calls Tryd.prog 34 #[v, u] w fun e w' => e = .returned (.tuple #[.slice none 0 0, .int .i64 (chk2 k A m C)]) ∧ w' = w := by
  have HC := hide (rboth_any v u k A m C w h h')
  change Hid (Calls _ _ _ _ fun e w' => e = .returned (.int .i64 (chk2 k A m C)) ∧ w' = w) at HC
  clear h h'
  have h0 : (chk2 k A m C == 0) = false := by rw [beq_eq_false_iff_ne]; exact hc
  have h1 : (chk2 k A m C != 0) = true := by rw [bne_iff_ne]; exact hc
  generalize chk2 k A m C = c at *
  go_enter Tryd.func34, Tryd.ntmps34
  go_wp2_with fail
  refine HC.out.mono ?_
  rintro e w1 ⟨rfl, rfl⟩
  go_wp2_with fail
  go_ret2
  exact ⟨rfl, rfl⟩

set_option maxRecDepth 100000 in
theorem rGcd_bad {S S' : Nat → Prop} (v u : Value) (k A m C : Nat) (w : World) (h : RowX S w v k A) (h' : RowX S' w u m C) (hc : chk2 k A m C ≠ 0) :
    Calls Tryd.prog 48 #[v, u] w fun e w' => e = .returned (.tuple #[.slice none 0 0, .int .i64 (chk2 k A m C)]) ∧ w' = w := by
  have HC := hide (rboth_any v u k A m C w h h')
  change Hid (Calls _ _ _ _ fun e w' => e = .returned (.int .i64 (chk2 k A m C)) ∧ w' = w) at HC
  clear h h'
  have h0 : (chk2 k A m C == 0) = false := by rw [beq_eq_false_iff_ne]; exact hc
  have h1 : (chk2 k A m C != 0) = true := by rw [bne_iff_ne]; exact hc
  generalize chk2 k A m C = c at *
  go_enter Tryd.func48, Tryd.ntmps48
  go_wp2_with fail
  refine HC.out.mono ?_
  rintro e w1 ⟨rfl, rfl⟩
  go_wp2_with fail
  go_ret2
  exact ⟨rfl, rfl⟩

set_option maxRecDepth 100000 in
theorem rDivMod_bad {S S' : Nat → Prop} (v u : Value) (k A m C : Nat) (w : World) (h : RowX S w v k A) (h' : RowX S' w u m C) (hc : chk2 k A m C ≠ 0) :
    Calls Tryd.prog 46 #[v, u] w fun e w' => e = .returned (.tuple #[.slice none 0 0, .slice none 0 0, .int .i64 (chk2 k A m C)]) ∧ w' = w := by
  have HC := hide (rboth_any v u k A m C w h h')
  change Hid (Calls _ _ _ _ fun e w' => e = .returned (.int .i64 (chk2 k A m C)) ∧ w' = w) at HC
  clear h h'
  have h0 : (chk2 k A m C == 0) = false := by rw [beq_eq_false_iff_ne]; exact hc
  have h1 : (chk2 k A m C != 0) = true := by rw [bne_iff_ne]; exact hc
  generalize chk2 k A m C = c at *
  go_enter Tryd.func46, Tryd.ntmps46
  go_wp2_with fail
  refine HC.out.mono ?_
  rintro e w1 ⟨rfl, rfl⟩
  go_wp2_with fail
  go_ret3
  exact ⟨rfl, rfl⟩

set_option maxRecDepth 100000 in
theorem rCmp_bad {S S' : Nat → Prop} (v u : Value) (k A m C : Nat) (w : World) (h : RowX S w v k A) (h' : RowX S' w u m C) (hc : chk2 k A m C ≠ 0) :
    Calls Tryd.prog 32 #[v, u] w fun e w' => e = .returned (.int .i64 0) ∧ w' = w := by
  have HC := hide (rboth_any v u k A m C w h h')
  change Hid (Calls _ _ _ _ fun e w' => e = .returned (.int .i64 (chk2 k A m C)) ∧ w' = w) at HC
  clear h h'
  have h0 : (chk2 k A m C == 0) = false := by rw [beq_eq_false_iff_ne]; exact hc
  have h1 : (chk2 k A m C != 0) = true := by rw [bne_iff_ne]; exact hc
  generalize chk2 k A m C = c at *
  go_enter Tryd.func32, Tryd.ntmps32
  go_wp2_with fail
  refine HC.out.mono ?_
  rintro e w1 ⟨rfl, rfl⟩
  go_wp2_with fail
  go_ret
  exact ⟨rfl, rfl⟩

set_option maxRecDepth 100000 in
theorem Root_bad {S : Nat → Prop} (v : Value) (k A : Nat) (w : World) (h : RowX S w v k A) (hc : chk k A ≠ 0) :
    Calls Tryd.prog 49 #[v] w fun e w' => e = .returned (.tuple #[.slice none 0 0, .bool false, .int .i64 (chk k A)]) ∧ w' = w := by
  have HC := hide (check_any v k A w h)
  clear h
  have h0 : (chk k A == 0) = false := by rw [beq_eq_false_iff_ne]; exact hc
  have h1 : (chk k A != 0) = true := by rw [bne_iff_ne]; exact hc
  generalize chk k A = c at *
  go_enter Tryd.func49, Tryd.ntmps49
  go_wp2_with fail
  refine HC.out.mono ?_
  rintro e w1 ⟨rfl, rfl⟩
  go_wp2_with fail
  go_ret3
  exact ⟨rfl, rfl⟩

set_option maxRecDepth 100000 in
theorem Len_bad {S : Nat → Prop} (v : Value) (k A : Nat) (w : World) (h : RowX S w v k A) (hc : chk k A ≠ 0) :
    Calls Tryd.prog 39 #[v] w fun e w' => e = .returned (.int .i64 0) ∧ w' = w := by
  have HC := hide (check_any v k A w h)
  clear h
  have h0 : (chk k A == 0) = false := by rw [beq_eq_false_iff_ne]; exact hc
  have h1 : (chk k A != 0) = true := by rw [bne_iff_ne]; exact hc
  generalize chk k A = c at *
  go_enter Tryd.func39, Tryd.ntmps39
  go_wp2_with fail
  refine HC.out.mono ?_
  rintro e w1 ⟨rfl, rfl⟩
  go_wp2_with fail
  go_ret
  exact ⟨rfl, rfl⟩

set_option maxRecDepth 100000 in
theorem Low_bad {S : Nat → Prop} (v : Value) (k A : Nat) (w : World) (h : RowX S w v k A) (hc : chk k A ≠ 0) :
    Calls Tryd.prog 41 #[v] w fun e w' => e = .returned (.int .i64 0) ∧ w' = w := by
  have HC := hide (check_any v k A w h)
  clear h
  have h0 : (chk k A == 0) = false := by rw [beq_eq_false_iff_ne]; exact hc
  have h1 : (chk k A != 0) = true := by rw [bne_iff_ne]; exact hc
  generalize chk k A = c at *
  go_enter Tryd.func41, Tryd.ntmps41
  go_wp2_with fail
  refine HC.out.mono ?_
  rintro e w1 ⟨rfl, rfl⟩
  go_wp2_with fail
  go_ret
  exact ⟨rfl, rfl⟩

set_option maxRecDepth 100000 in
theorem Bit_bad {S : Nat → Prop} (v : Value) (k A : Nat) (n : Int) (w : World) (h : RowX S w v k A) (hc : chk k A ≠ 0) :
    Calls Tryd.prog 43 #[v, .int .i64 n] w fun e w' => e = .returned (.bool false) ∧ w' = w := by
  have HC := hide (check_any v k A w h)
  clear h
  have h0 : (chk k A == 0) = false := by rw [beq_eq_false_iff_ne]; exact hc
  have h1 : (chk k A != 0) = true := by rw [bne_iff_ne]; exact hc
  generalize chk k A = c at *
  go_enter Tryd.func43, Tryd.ntmps43
  go_wp2_with fail
  refine HC.out.mono ?_
  rintro e w1 ⟨rfl, rfl⟩
  go_wp2_with fail
  go_ret
  exact ⟨rfl, rfl⟩

set_option maxRecDepth 100000 in
theorem Small_bad {S : Nat → Prop} (v : Value) (k A : Nat) (w : World) (h : RowX S w v k A) (hc : chk k A ≠ 0) :
    Calls Tryd.prog 17 #[v] w fun e w' => e = .returned (.tuple #[.int .u64 0, .bool false]) ∧ w' = w := by
  have HC := hide (check_any v k A w h)
  clear h
  have h0 : (chk k A == 0) = false := by rw [beq_eq_false_iff_ne]; exact hc
  have h1 : (chk k A != 0) = true := by rw [bne_iff_ne]; exact hc
  generalize chk k A = c at *
  go_enter Tryd.func17, Tryd.ntmps17
  go_wp2_with fail
  refine HC.out.mono ?_
  rintro e w1 ⟨rfl, rfl⟩
  go_wp2_with fail
  go_ret2
  exact ⟨rfl, rfl⟩

set_option maxRecDepth 100000 in
theorem Bytes_bad {S : Nat → Prop} (v : Value) (k A : Nat) (w : World) (h : RowX S w v k A) (hc : chk k A ≠ 0) :
    Calls Tryd.prog 19 #[v] w fun e w' => e = .returned (.slice none 0 0) ∧ w' = w := by
  have HC := hide (check_any v k A w h)
  clear h
  have h0 : (chk k A == 0) = false := by rw [beq_eq_false_iff_ne]; exact hc
  have h1 : (chk k A != 0) = true := by rw [bne_iff_ne]; exact hc
  generalize chk k A = c at *
  go_enter Tryd.func19, Tryd.ntmps19
  go_wp2_with fail
  refine HC.out.mono ?_
  rintro e w1 ⟨rfl, rfl⟩
  go_wp2_with fail
  go_ret
  exact ⟨rfl, rfl⟩

set_option maxRecDepth 100000 in
theorem Text_bad {S : Nat → Prop} (v : Value) (k A : Nat) (w : World) (h : RowX S w v k A) (hc : chk k A ≠ 0) :
    Calls Tryd.prog 24 #[v] w fun e w' => e = .returned (.string ⟨#[]⟩) ∧ w' = w := by
  have HC := hide (check_any v k A w h)
  clear h
  have h0 : (chk k A == 0) = false := by rw [beq_eq_false_iff_ne]; exact hc
  have h1 : (chk k A != 0) = true := by rw [bne_iff_ne]; exact hc
  generalize chk k A = c at *
  go_enter Tryd.func24, Tryd.ntmps24
  go_wp2_with fail
  refine HC.out.mono ?_
  rintro e w1 ⟨rfl, rfl⟩
  go_wp2_with fail
  go_ret
  exact ⟨rfl, rfl⟩

set_option maxRecDepth 100000 in
theorem rRoot_bad {S : Nat → Prop} (v : Value) (k A : Nat) (w : World) (h : RowX S w v k A) (hc : chk k A ≠ 0) :
    Calls Tryd.prog 50 #[v] w fun e w' => e = .returned (.tuple #[.slice none 0 0, .bool false, .int .i64 (chk k A)]) ∧ w' = w := by
  have HC := hide (rcheck_any v k A w h)
  clear h
  have h0 : (chk k A == 0) = false := by rw [beq_eq_false_iff_ne]; exact hc
  have h1 : (chk k A != 0) = true := by rw [bne_iff_ne]; exact hc
  generalize chk k A = c at *
  go_enter Tryd.func50, Tryd.ntmps50
  go_wp2_with fail
  refine HC.out.mono ?_
  rintro e w1 ⟨rfl, rfl⟩
  go_wp2_with fail
  go_ret3
  exact ⟨rfl, rfl⟩

set_option maxRecDepth 100000 in
theorem rLen_bad {S : Nat → Prop} (v : Value) (k A : Nat) (w : World) (h : RowX S w v k A) (hc : chk k A ≠ 0) :
    Calls Tryd.prog 40 #[v] w fun e w' => e = .returned (.int .i64 0) ∧ w' = w := by
  have HC := hide (rcheck_any v k A w h)
  clear h
  have h0 : (chk k A == 0) = false := by rw [beq_eq_false_iff_ne]; exact hc
  have h1 : (chk k A != 0) = true := by rw [bne_iff_ne]; exact hc
  generalize chk k A = c at *
  go_enter Tryd.func40, Tryd.ntmps40
  go_wp2_with fail
  refine HC.out.mono ?_
  rintro e w1 ⟨rfl, rfl⟩
  go_wp2_with fail
  go_ret
  exact ⟨rfl, rfl⟩

set_option maxRecDepth 100000 in
theorem rLow_bad {S : Nat → Prop} (v : Value) (k A : Nat) (w : World) (h : RowX S w v k A) (hc : chk k A ≠ 0) :
    Calls Tryd.prog 42 #[v] w fun e w' => e = .returned (.int .i64 0) ∧ w' = w := by
  have HC := hide (rcheck_any v k A w h)
  clear h
  have h0 : (chk k A == 0) = false := by rw [beq_eq_false_iff_ne]; exact hc
  have h1 : (chk k A != 0) = true := by rw [bne_iff_ne]; exact hc
  generalize chk k A = c at *
  go_enter Tryd.func42, Tryd.ntmps42
  go_wp2_with fail
  refine HC.out.mono ?_
  rintro e w1 ⟨rfl, rfl⟩
  go_wp2_with fail
  go_ret
  exact ⟨rfl, rfl⟩

set_option maxRecDepth 100000 in
theorem rBit_bad {S : Nat → Prop} (v : Value) (k A : Nat) (n : Int) (w : World) (h : RowX S w v k A) (hc : chk k A ≠ 0) :
    Calls Tryd.prog 44 #[v, .int .i64 n] w fun e w' => e = .returned (.bool false) ∧ w' = w := by
  have HC := hide (rcheck_any v k A w h)
  clear h
  have h0 : (chk k A == 0) = false := by rw [beq_eq_false_iff_ne]; exact hc
  have h1 : (chk k A != 0) = true := by rw [bne_iff_ne]; exact hc
  generalize chk k A = c at *
  go_enter Tryd.func44, Tryd.ntmps44
  go_wp2_with fail
  refine HC.out.mono ?_
  rintro e w1 ⟨rfl, rfl⟩
  go_wp2_with fail
  go_ret
  exact ⟨rfl, rfl⟩

set_option maxRecDepth 100000 in
theorem rSmall_bad {S : Nat → Prop} (v : Value) (k A : Nat) (w : World) (h : RowX S w v k A) (hc : chk k A ≠ 0) :
    Calls Tryd.prog 18 #[v] w fun e w' => e = .returned (.tuple #[.int .u64 0, .bool false]) ∧ w' = w := by
  have HC := hide (rcheck_any v k A w h)
  clear h
  have h0 : (chk k A == 0) = false := by rw [beq_eq_false_iff_ne]; exact hc
  have h1 : (chk k A != 0) = true := by rw [bne_iff_ne]; exact hc
  generalize chk k A = c at *
  go_enter Tryd.func18, Tryd.ntmps18
  go_wp2_with fail
  refine HC.out.mono ?_
  rintro e w1 ⟨rfl, rfl⟩
  go_wp2_with fail
  go_ret2
  exact ⟨rfl, rfl⟩

set_option maxRecDepth 100000 in
theorem rBytes_bad {S : Nat → Prop} (v : Value) (k A : Nat) (w : World) (h : RowX S w v k A) (hc : chk k A ≠ 0) :
    Calls Tryd.prog 23 #[v] w fun e w' => e = .returned (.slice none 0 0) ∧ w' = w := by
  have HC := hide (rcheck_any v k A w h)
  clear h
  have h0 : (chk k A == 0) = false := by rw [beq_eq_false_iff_ne]; exact hc
  have h1 : (chk k A != 0) = true := by rw [bne_iff_ne]; exact hc
  generalize chk k A = c at *
  go_enter Tryd.func23, Tryd.ntmps23
  go_wp2_with fail
  refine HC.out.mono ?_
  rintro e w1 ⟨rfl, rfl⟩
  go_wp2_with fail
  go_ret
  exact ⟨rfl, rfl⟩

set_option maxRecDepth 100000 in
theorem rText_bad {S : Nat → Prop} (v : Value) (k A : Nat) (w : World) (h : RowX S w v k A) (hc : chk k A ≠ 0) :
    Calls Tryd.prog 25 #[v] w fun e w' => e = .returned (.string ⟨#[]⟩) ∧ w' = w := by
  have HC := hide (rcheck_any v k A w h)
  clear h
  have h0 : (chk k A == 0) = false := by rw [beq_eq_false_iff_ne]; exact hc
  have h1 : (chk k A != 0) = true := by rw [bne_iff_ne]; exact hc
  generalize chk k A = c at *
  go_enter Tryd.func25, Tryd.ntmps25
  go_wp2_with fail
  refine HC.out.mono ?_
  rintro e w1 ⟨rfl, rfl⟩
  go_wp2_with fail
  go_ret
  exact ⟨rfl, rfl⟩

set_option maxRecDepth 100000 in
theorem rLeft_bad {S : Nat → Prop} (v : Value) (k A : Nat) (n : Int) (w : World) (h : RowX S w v k A) (hc : chk k A ≠ 0) :
    Calls Tryd.prog 36 #[v, .int .i64 n] w fun e w' => e = .returned (.tuple #[.slice none 0 0, .int .i64 (chk k A)]) ∧ w' = w := by
  have HC := hide (rcheck_any v k A w h)
  clear h
  have h0 : (chk k A == 0) = false := by rw [beq_eq_false_iff_ne]; exact hc
  have h1 : (chk k A != 0) = true := by rw [bne_iff_ne]; exact hc
  generalize chk k A = c at *
  go_enter Tryd.func36, Tryd.ntmps36
  go_wp2_with fail
  refine HC.out.mono ?_
  rintro e w1 ⟨rfl, rfl⟩
  go_wp2_with fail
  go_ret2
  exact ⟨rfl, rfl⟩

set_option maxRecDepth 100000 in
theorem rRight_bad {S : Nat → Prop} (v : Value) (k A : Nat) (n : Int) (w : World) (h : RowX S w v k A) (hc : chk k A ≠ 0) :
    Calls Tryd.prog 38 #[v, .int .i64 n] w fun e w' => e = .returned (.tuple #[.slice none 0 0, .bool false, .int .i64 (chk k A)]) ∧ w' = w := by
  have HC := hide (rcheck_any v k A w h)
  clear h
  have h0 : (chk k A == 0) = false := by rw [beq_eq_false_iff_ne]; exact hc
  have h1 : (chk k A != 0) = true := by rw [bne_iff_ne]; exact hc
  generalize chk k A = c at *
  go_enter Tryd.func38, Tryd.ntmps38
  go_wp2_with fail
  refine HC.out.mono ?_
  rintro e w1 ⟨rfl, rfl⟩
  go_wp2_with fail
  go_ret3
  exact ⟨rfl, rfl⟩

end Go.Proofs.YtmfimhpbdbbpoaaDoor

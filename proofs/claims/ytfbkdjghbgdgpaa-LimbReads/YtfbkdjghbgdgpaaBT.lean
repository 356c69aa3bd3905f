/- The document's OfDigits and OfText; OfText of what is no decimal. -/
import Derived.Test.YtfbkdjghbgdgpaaBP
import Derived.Test.YtfbkdjghbgdgpaaAM
namespace Go.Proofs.Ytfbkdjghbgdgpaa
open Go.RowKit
open M
set_option linter.unusedVariables false
set_option linter.unusedSimpArgs false

/-- Behind i digits. -/
def OdSt (w : World) (s : ByteArray) (i k : Nat) (v : Value) (wr : World) : Prop := Own wr w.heap.size v k (dv (sd s) i) ∧ Nrm k (dv (sd s) i) ∧ Below w.heap.size w wr

set_option maxRecDepth 100000 in
set_option maxHeartbeats 4000000 in
theorem ofDigits_any (s : ByteArray) (w : World) (hs : s.size ≤ 100000) (hA : AllDec s) :
    Calls Try.prog 33 #[.string s] w fun e w' => ∃ r, e = .returned r ∧ ∃ k, Own w' w.heap.size r k (dv (sd s) s.size) ∧ Nrm k (dv (sd s) s.size) ∧ k ≤ s.size ∧ Below w.heap.size w w' := by
  obtain ⟨i5, hi5⟩ := info32
  have Hi := hide hi5
  clear hi5
  obtain ⟨L, hL⟩ : ∃ L, s.size = L := ⟨_, rfl⟩
  have HA := hide hA
  clear hA
  go_enter Try.func33, Try.ntmps33
  go_wp2_with fail
  go_loopw [3, 4] (fun t3 t4 wr => ∃ i k : Nat, i ≤ L ∧ k ≤ i ∧ t4 = .int .i64 i ∧ Hid (OdSt w s i k t3 wr)) (fun _ t4 _ => L - (intOf t4).toNat)
  case atStart => exact ⟨0, 0, by omega, by omega, rfl, Own.nil _ _, nrm_zero, Below.refl _ _⟩
  case round =>
    obtain ⟨i, k, hi, hki, rfl, HS⟩ := hrel
    obtain ⟨_, _, ad, cap, rfl, hkc, _⟩ := HS.out.1.row
    by_cases hlt : i < L
    · obtain ⟨wo, rfl⟩ : ∃ wo, wo = wr := ⟨_, rfl⟩
      have hlt' : (i : Int) < (L : Int) := by omega
      have hin : i < s.size := by omega
      have hd : sd s i = (s[i]'hin).toNat - 48 := by unfold sd; rw [dif_pos hin]
      have hb := HA.out i hin
      have Hnext : Hid (dv (sd s) (i + 1) = dv (sd s) i * 10 + ((s[i]'hin).toNat - 48)) := by rw [← hd]; rfl
      clear hd
      obtain ⟨x, hx⟩ : ∃ x, (s[i]'hin).toNat = x := ⟨_, rfl⟩
      rw [hx] at hb Hnext
      obtain ⟨m, hm, hm'⟩ : ∃ m : Nat, x - 48 = m ∧ (x : Int) - 48 = (m : Int) := ⟨x - 48, rfl, by omega⟩
      have hml : m ≤ 9 := by omega
      rw [hm] at Hnext
      obtain ⟨N, hN⟩ : ∃ N, dv (sd s) i = N := ⟨_, rfl⟩
      have HS1 : Hid (Own wo w.heap.size (.slice ad k cap) k N ∧ Nrm k N ∧ Below w.heap.size w wo) := by rw [← hN]; exact HS.out
      rw [hN] at Hnext
      clear HS hm hN
      have HS0 := hide (GrowSt.start HS1.out.1.2.2 (N * 10 + m))
      have HE : Hid (growC N 10 m k = (N * 10 + m) / 4294967296 ^ k) := growC_all HS1.out.2.1.1
      have HW : Hid (w.heap.size ≤ wo.heap.size) := HS1.out.2.2.size
      go_wp2_with fail
      go_loopw [5, 6] (fun t5 t6 wr => ∃ j : Nat, j ≤ k ∧ t5 = .int .u64 (growC N 10 m j : Nat) ∧ t6 = .int .i64 j ∧ Hid (GrowSt wo w.heap.size ad k cap N (N * 10 + m) j wr)) (fun _ t6 _ => k - (intOf t6).toNat)
      case atStart => exact ⟨0, by omega, by rw [growC_zero], rfl, HS0⟩
      case round =>
        obtain ⟨j, hj, rfl, rfl, HM⟩ := hrel
        by_cases hjk : j < k
        · have hjk' : (j : Int) < (k : Int) := by omega
          obtain ⟨g, rfl, hbg, hM, _, hkcap, _⟩ := HM.out.some (by omega)
          have hy := hM.hi j (Nat.le_refl _) hjk
          have hfr := hM.free j hjk
          rw [Nat.zero_add] at hy hfr
          have Hs := hide (grow_step N 10 m j)
          have hyl := dg_lt N j
          have hcl := growC_le N 10 m j (by omega) (by omega)
          clear hM
          generalize dg N j = y at *
          generalize growC N 10 m j = c at *
          go_wp2_with fail
          go_roundw
          case rel =>
            refine ⟨j + 1, by omega, ?_, by go_num, ?_⟩
            · rw [← Hs.out.2]; exact congrArg _ (by omega)
            · exact HM.out.step hjk HW.out _ (by rw [← Hs.out.1]; omega)
          case measure => simp [intOf]; omega
        · obtain rfl : j = k := by omega
          have hcl := growC_le N 10 m j (by omega) (by omega)
          have HO := hide HM.out.done
          rw [HE.out] at hcl ⊢
          by_cases h0 : (N * 10 + m) / 4294967296 ^ j = 0
          · have HX : Hid (N * 10 + m < 4294967296 ^ j) := by
              rcases Nat.lt_or_ge (N * 10 + m) (4294967296 ^ j) with h | h
              · exact h
              · have := Nat.div_pos h (pw_pos j); omega
            have HF : Hid (OdSt w s (i + 1) j (.slice ad j cap) wr) := by
              refine ⟨?_, ?_, HS1.out.2.2.trans HM.out.below⟩
              · rw [Hnext.out]; exact ⟨HX.out, by omega, HO.out⟩
              · rw [Hnext.out]; exact grow_nrm HS1.out.2.1 (by omega) HX.out
            rw [h0]
            go_wp2_with fail
            go_roundw
            case rel => exact ⟨i + 1, j, by omega, by omega, by go_num, HF⟩
            case measure => simp [intOf]; omega
          · have HX : Hid (dg (N * 10 + m) j = (N * 10 + m) / 4294967296 ^ j) := Nat.mod_eq_of_lt (by omega)
            generalize hc : (N * 10 + m) / 4294967296 ^ j = c at *
            have h0' : (0 : Int) < (c : Int) := by omega
            have Hend : Hid (∀ (w4 : World) (g4 cap4 : Nat), w4.ownsRow w.heap.size 58 1 (.slice (some ⟨g4, 0, none⟩) (j + 1) cap4) (j + 1) (limbsV j (N * 10 + m) ++ [.int .u32 (c : Nat)]) → (wr.alloc (.cells #[.int .u32 (c : Nat)] 58)).grownBy w4 (Value.slice ad j cap).ownBlock →
                OdSt w s (i + 1) (j + 1) (.slice (some ⟨g4, 0, none⟩) (j + 1) cap4) w4) := by
              intro w4 g4 cap4 ho hg
              have hlt : N * 10 + m < 4294967296 ^ (j + 1) := by
                have := Nat.div_add_mod (N * 10 + m) (4294967296 ^ j)
                have := mod_lt (N * 10 + m) j
                rw [hc] at *
                rw [pw_succ]
                have h3 : 4294967296 ^ j * c ≤ 4294967296 ^ j * 4294967295 := Nat.mul_le_mul_left _ (by omega)
                omega
              unfold OdSt
              rw [Hnext.out]
              refine ⟨⟨hlt, by omega, ?_⟩, Nrm.of_top hlt (by rw [HX.out]; omega), ?_⟩
              · rw [limbsV_succ, HX.out]; exact ho
              · exact (HS1.out.2.2.trans (HM.out.below.alloc (Nat.le_trans HW.out HM.out.below.size) _)).trans (grown_below hg (fun g hg => (HO.out.lt g hg).1) (by have := HM.out.below.size; have := HW.out; simp; omega))
            have HWq : Hid (w.heap.size ≤ wr.heap.size) := Nat.le_trans HW.out HM.out.below.size
            clear hc HX HM
            go_wp2_with (at_builtin; refine wpList_append_lies _ rfl _ _ _ rfl w.heap.size 58 i5 (.int .u32 0) 1 4 Try.underlying27 Hi.out.1 Hi.out.2.1 Hi.out.2.2.1 Hi.out.2.2.2 rfl (by decide) _ j (limbsV j (N * 10 + m)) rfl (HO.out.alloc _) ⟨wr.heap.size, 0, none⟩ 1 1 [.int .u32 (c : Nat)] rfl rfl ?d2 ?d3 (by decide) ?d4 ?d5 ?d7 _ rfl ?d6)
            case d2 => intro j u hj; exact cell_new1 wr _ 58 j u hj
            case d3 => intro u hu; simp at hu; subst hu; rfl
            case d4 => unfold maxLen; omega
            case d5 => omega
            case d7 => have := HWq.out; simp; omega
            case d6 =>
              intro g4 cap4 w4 ho4 hg4 hat4 hlt4
              have H4 := hide (Hend.out w4 g4 cap4 ho4 hg4)
              clear ho4 hg4 hat4 hlt4 Hend
              go_wp2_with fail
              go_roundw
              case rel => exact ⟨i + 1, j + 1, by omega, by omega, by go_num, H4⟩
              case measure => simp [intOf]; omega
    · obtain rfl : i = L := by omega
      go_wp2_with fail
      refine (rtrim_any _ k (dv (sd s) i) wr HS.out.1.row (by omega)).mono ?_
      rintro e w3 ⟨r, rfl, n, ho, hn, hnk, hb⟩
      have HF : Hid (Own w3 w.heap.size r n (dv (sd s) i) ∧ Nrm n (dv (sd s) i) ∧ n ≤ i ∧ Below w.heap.size w w3) := ⟨ho.mono HS.out.2.2.size, hn, by omega, HS.out.2.2.trans (hb.mono HS.out.2.2.size)⟩
      clear ho hn hb
      go_wp2_with fail
      go_ret
      exact ⟨r, rfl, n, by rw [hL]; exact HF.out⟩

end Go.Proofs.Ytfbkdjghbgdgpaa

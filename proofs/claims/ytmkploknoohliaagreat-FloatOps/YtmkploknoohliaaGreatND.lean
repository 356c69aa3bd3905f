/- The document's whole numbers: Times. -/
import Derived.Test.YtmkploknoohliaaGreatNC
import Derived.Deep.AppendLies
namespace Go.Proofs.YtmkploknoohliaaGreat
open Go.RowKit
open M
set_option linter.unusedVariables false
set_option linter.unusedSimpArgs false

set_option maxRecDepth 100000 in
set_option maxHeartbeats 4000000 in
theorem nTimes {S S' : Nat → Prop} (v u : Value) (k A m C : Nat) (w : World) (h : RowX S w v k A) (h' : RowX S' w u m C) (hkm : k + m ≤ 100000) :
    Calls Tryz.prog 76 #[v, u] w fun e w' => ∃ r, e = .returned r ∧ ∃ n, Row w' r n (A * C) ∧ Nrm n (A * C) ∧ n ≤ k + m ∧ Below w.heap.size w w' := by
  obtain ⟨i5, hi5⟩ := info32
  have Hi := hide hi5
  clear hi5
  obtain ⟨K, hK, hK'⟩ : ∃ K : Nat, K = k + m ∧ (k : Int) + (m : Int) = (K : Int) := ⟨k + m, rfl, by omega⟩
  have HF : Hid (Wk (w.alloc (.cells (madeCells #[Value.int .u32 0] K) 38)) w.heap.size 0 K 0 ∧ Below w.heap.size w (w.alloc (.cells (madeCells #[Value.int .u32 0] K) 38))) :=
    ⟨wk_of_block (pw_pos _) (make_block w K), (Below.refl _ _).alloc (Nat.le_refl _) _⟩
  have hAl := hide h.1
  have hCl := hide h'.1
  have HK := hide hK
  clear hK
  obtain ⟨hN, hk, ad, cap, rfl, hc, hcell⟩ := Row.old h.row
  obtain ⟨hN', hk', ad', cap', rfl, hc', hcell'⟩ := Row.old h'.row
  have HU : Hid (0 < k → ∃ g2 o2, ad = some ⟨g2, o2, none⟩ ∧ g2 < w.heap.size ∧ ∀ j, j < k → w.cell? ⟨g2, o2 + j, none⟩ = some (.int .u32 (dg A j : Nat))) := hcell
  have HV : Hid (0 < m → ∃ g3 o3, ad' = some ⟨g3, o3, none⟩ ∧ g3 < w.heap.size ∧ ∀ j, j < m → w.cell? ⟨g3, o3 + j, none⟩ = some (.int .u32 (dg C j : Nat))) := hcell'
  clear hcell hN hcell' hN' h h'
  have hKb : K ≤ 100000 := by have := HK.out; omega
  go_enter Tryz.func76, Tryz.ntmps76
  go_wp2_with (at_make; refine wpList_make_row _ rfl _ _ _ rfl 38 i5 (.int .u32 0) Tryz.underlying69 Hi.out.1 Hi.out.2.1 Hi.out.2.2.1 rfl .i64 .i64 K rfl rfl (by rw [Hi.out.2.2.2]; omega) (by omega) ?_)
  generalize w.alloc (.cells (madeCells #[Value.int .u32 0] K) 38) = wa at *
  go_loopw [6] (fun t6 wr => ∃ i : Nat, i ≤ k ∧ t6 = .int .i64 i ∧ Hid (Wk wr w.heap.size 0 K (A % 4294967296 ^ i * C) ∧ Below w.heap.size w wr)) (fun t6 _ => k - (intOf t6).toNat)
  case atStart => exact ⟨0, by omega, rfl, by rw [mod_zero, Nat.zero_mul]; exact HF.out⟩
  case round =>
    clear HF
    obtain ⟨i, hi, rfl, HM⟩ := hrel
    by_cases hlt : i < k
    · have hlt' : (i : Int) < (k : Int) := by omega
      have hiK : i + m < K := by have := HK.out; omega
      obtain ⟨g2, o2, rfl, hg2, hc2⟩ := HU.out (by omega)
      have HX : Hid (w.cell? ⟨g2, o2 + i, none⟩ = some (.int .u32 (dg A i : Nat))) := hc2 i hlt
      have hxl := dg_lt A i
      have HN := hide (prod_next A C i)
      have HP : Hid (A % 4294967296 ^ i * C < 4294967296 ^ (i + m)) := mul_lt_pow (mod_lt A i) hCl.out
      have HWs : Hid (Wk wr w.heap.size i m (A % 4294967296 ^ i * C / 4294967296 ^ i)) := by have := HM.out.1.sub i m (by omega); rwa [Nat.zero_add, mod_self (div_lt_pow HP.out)] at this
      clear hc2
      generalize dg A i = f at *
      have Hfb := hide hxl
      obtain ⟨wo, hwo⟩ : ∃ wo, wo = wr := ⟨_, rfl⟩
      subst hwo
      obtain ⟨Wn, hWn⟩ : ∃ Wn, Wn = A % 4294967296 ^ i * C / 4294967296 ^ i := ⟨_, rfl⟩
      rw [← hWn] at HWs
      have HWn := hide hWn
      clear hWn
      go_wp2_with fail
      go_loopw [7, 8] (fun t7 t8 wi => ∃ j : Nat, j ≤ m ∧ t7 = .int .u64 (mulC Wn C f j : Nat) ∧ t8 = .int .i64 j ∧ Hid (Mid wi w.heap.size i m j Wn (Wn + f * C) ∧ Only w.heap.size i (i + m) wo wi)) (fun _ t8 _ => m - (intOf t8).toNat)
      case atStart => exact ⟨0, by omega, by rw [mulC_zero]; rfl, rfl, HWs.out.mid _, Only.refl _ _ _ _⟩
      case round =>
        obtain ⟨j, hj, rfl, rfl, HD⟩ := hrel
        by_cases hjl : j < m
        · have hjl' : (j : Int) < (m : Int) := by omega
          obtain ⟨g3, o3, rfl, hg3, hc3⟩ := HV.out (by omega)
          obtain ⟨e, he, he'⟩ : ∃ e : Nat, i + j = e ∧ (i : Int) + (j : Int) = (e : Int) := ⟨_, rfl, by omega⟩
          have heK : (e : Int) < (K : Int) := by omega
          have cA : wr.cell? ⟨g2, o2 + i, none⟩ = some (.int .u32 (f : Nat)) := by
            rw [World.cell?_of_block (w := wo) (a := ⟨g2, o2 + i, none⟩) (HD.out.2.block g2 (by have := HM.out.2.size; omega) (by omega)), HM.out.2.cell (p := ⟨g2, o2 + i, none⟩) hg2]; exact HX.out
          have cB : wr.cell? ⟨g3, o3 + j, none⟩ = some (.int .u32 (dg C j : Nat)) := by
            rw [World.cell?_of_block (w := wo) (a := ⟨g3, o3 + j, none⟩) (HD.out.2.block g3 (by have := HM.out.2.size; omega) (by omega)), HM.out.2.cell (p := ⟨g3, o3 + j, none⟩) hg3]; exact hc3 j hjl
          have cL := HD.out.1.hi j (Nat.le_refl _) hjl
          have hfr := HD.out.1.free j hjl
          rw [he] at cL hfr
          have Hs := hide (mul_step Wn C f j)
          have hwl := dg_le Wn j
          have hyl := dg_lt C j
          have hcl := mulC_le Wn C f j
          have hroom := mul_room (dg C j) f (dg Wn j) (mulC Wn C f j) hyl hxl (by omega) hcl
          have He := hide he
          clear hc3 he
          generalize dg Wn j = x at *
          generalize dg C j = y at *
          generalize mulC Wn C f j = c at *
          obtain ⟨p, hp, hp'⟩ : ∃ p : Nat, p = y * f ∧ (f : Int) * (y : Int) = (p : Int) := ⟨y * f, rfl, by rw [Int.natCast_mul, Int.mul_comm]⟩
          rw [← hp] at hroom Hs
          clear hp
          obtain ⟨s, hs⟩ : ∃ s : Nat, (c : Int) + (x : Int) = (s : Int) := ⟨c + x, by omega⟩
          obtain ⟨z, hz, hz1⟩ : ∃ z : Nat, c + (p + x) = z ∧ (s : Int) + (p : Int) = (z : Int) := ⟨_, rfl, by omega⟩
          have hsl : s < 18446744073709551616 := by omega
          have hpl : p < 18446744073709551616 := by omega
          have hzl : z < 18446744073709551616 := by omega
          rw [hz] at Hs
          obtain ⟨d, hd, hd1⟩ : ∃ d : Nat, z % 4294967296 = d ∧ (z : Int) % 4294967296 = (d : Int) := ⟨_, rfl, by omega⟩
          obtain ⟨e2, hq', hq1'⟩ : ∃ q' : Nat, z / 4294967296 = q' ∧ (z : Int) / 4294967296 = (q' : Int) := ⟨_, rfl, by omega⟩
          rw [hd, hq'] at Hs
          clear hz hd hq' hroom
          go_wp2_with fail
          go_quiet (fail)
          have cL2 : (wr.drewN nq).cell? ⟨w.heap.size, e, none⟩ = some (.int .u32 (x : Nat)) := cL
          have hfr2 : (wr.drewN nq).frozen? ⟨w.heap.size, e, none⟩ = false := hfr
          go_wp2_with fail
          go_roundw
          case rel =>
            refine ⟨j + 1, by omega, ?_, by go_num, ?_⟩
            · rw [← Hs.out.2]
            · rw [← He.out]
              exact ⟨(HD.out.1.drewN nq).step hjl _ (by rw [← Hs.out.1]), (HD.out.2.drewN nq).setCell _ (by omega) (by omega) _⟩
          case measure => simp [intOf]; omega
        · have hjl' : ¬ (j : Int) < (m : Int) := by omega
          obtain rfl : j = m := by omega
          have hcl := mulC_le Wn C f j
          have HE : Hid (mulC Wn C f j = (Wn + f * C) / 4294967296 ^ j) := mulC_all HWs.out.lt hCl.out
          obtain ⟨e, he, he'⟩ : ∃ e : Nat, i + j = e ∧ (i : Int) + (j : Int) = (e : Int) := ⟨_, rfl, by omega⟩
          have heK : (e : Int) < (K : Int) := by omega
          have cL : ∃ cv, wr.cell? ⟨w.heap.size, e, none⟩ = some cv := ⟨.int .u32 (dg (A % 4294967296 ^ i * C) e : Nat), by
            rw [HD.out.2.cell e (by omega)]
            have := HM.out.1.cell e (by omega)
            rwa [Nat.zero_add] at this⟩
          obtain ⟨cv, cL⟩ := cL
          have hfr : wr.frozen? ⟨w.heap.size, e, none⟩ = false := by
            rw [HD.out.2.frozen e]
            have := HM.out.1.free e (by omega)
            rwa [Nat.zero_add] at this
          have Hprod := hide (HM.out.1.prod HD.out.2 hiK HP.out Hfb.out hCl.out (by rw [← HWn.out]; exact HD.out.1.wk_mod))
          rw [← HWn.out, ← HE.out, he] at Hprod
          have HB2 : Hid (Below w.heap.size w wr) := HM.out.2.trans (HD.out.2.below (Nat.le_refl _) HM.out.2.size)
          have He := hide he
          clear he HE HD HWs HP
          generalize mulC Wn C f j = c at *
          have hc4 : c < 4294967296 := by omega
          have hc5 : (c : Int) % 4294967296 = (c : Int) := by omega
          go_wp2_with fail
          go_roundw
          case rel =>
            refine ⟨i + 1, by omega, by go_num, ?_⟩
            rw [← HN.out]
            exact ⟨Hprod.out, HB2.out.setCell (Nat.le_refl _) _⟩
          case measure => simp [intOf]; omega
    · have hlt' : ¬ (i : Int) < (k : Int) := by omega
      obtain rfl : i = k := by omega
      have HW : Hid (RowX (fun _ => True) wr (.slice (some ⟨w.heap.size, 0, none⟩) K K) K (A * C)) := by
        have := HM.out.1
        rw [mod_self hAl.out] at this
        exact this.row (by omega) (Nat.le_refl _) trivial _ (fun _ => rfl)
      go_wp2_with fail
      refine (nTrim _ K (A * C) _ HW.out).mono ?_
      rintro e w5 ⟨r5, rfl, n5, hr5, hn5, hnk5, rfl⟩
      have H5 := hide (And.intro hr5 (And.intro hn5 hnk5))
      clear hr5 hn5 hnk5
      go_wp2_with fail
      go_ret
      exact ⟨r5, rfl, n5, H5.out.1, H5.out.2.1, by have := H5.out.2.2; have := HK.out; omega, HM.out.2⟩
end Go.Proofs.YtmkploknoohliaaGreat

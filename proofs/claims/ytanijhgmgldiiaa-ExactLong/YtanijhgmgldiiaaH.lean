/- product; Add, Sub, Mul, Cmp. -/
import Derived.Test.YtanijhgmgldiiaaG
namespace Go.Proofs.Ytanijhgmgldiiaa
open Go.RowKit
open M
set_option linter.unusedVariables false
set_option linter.unusedSimpArgs false

set_option maxRecDepth 100000 in
set_option maxHeartbeats 2000000 in
theorem product_any {S S' : Nat → Prop} (v u : Value) (k A m C : Nat) (w : World) (h : RowX S w v k A) (h' : RowX S' w u m C) (hkm : k + m ≤ 70368744177664) :
    Calls Try.prog 29 #[v, u] w fun e w' => ∃ r, e = .returned r ∧ ∃ n, RowX (w.heap.size ≤ ·) w' r n (A * C) ∧ Nrm n (A * C) ∧ n ≤ k + m ∧ Below w.heap.size w w' := by
  obtain ⟨i5, hi5⟩ := info32
  have Hi := hide hi5
  clear hi5
  obtain ⟨K, hK, hK'⟩ : ∃ K : Nat, K = k + m ∧ (k : Int) + (m : Int) = (K : Int) := ⟨k + m, rfl, by omega⟩
  have hb1 : Below w.heap.size w (w.alloc (.cells (madeCells #[Value.int .u32 0] K) 24)) := (Below.refl _ _).alloc (Nat.le_refl _) _
  have HF : Hid (Wk (w.alloc (.cells (madeCells #[Value.int .u32 0] K) 24)) w.heap.size 0 K 0 ∧ Below w.heap.size w (w.alloc (.cells (madeCells #[Value.int .u32 0] K) 24))) :=
    ⟨wk_of_block (pw_pos _) (make_block w K), hb1⟩
  have HA := hide (Row.old h.row)
  have HC := hide (Row.old h'.row)
  have hAl := hide h.1
  have hCl := hide h'.1
  have HK := hide hK
  clear hb1 hK
  obtain ⟨hN, hk, ad, cap, rfl, hc, hcell⟩ := Row.old h.row
  obtain ⟨hN', hk', ad', cap', rfl, hc', hcell'⟩ := h'
  have HU : Hid (0 < k → ∃ g2 o2, ad = some ⟨g2, o2, none⟩ ∧ g2 < w.heap.size ∧ ∀ j, j < k → w.cell? ⟨g2, o2 + j, none⟩ = some (.int .u32 (dg A j : Nat))) := hcell
  clear hcell hN hcell' hN' h
  have hKb : K ≤ 70368744177664 := by have := HK.out; omega
  go_enter Try.func29, Try.ntmps29
  go_wp2_with (at_make; refine wpList_make_row _ rfl _ _ _ rfl 24 i5 (.int .u32 0) Try.underlying22 Hi.out.1 Hi.out.2.1 Hi.out.2.2.1 rfl .i64 .i64 K rfl rfl (by rw [Hi.out.2.2.2]; omega) (by omega) ?_)
  generalize w.alloc (.cells (madeCells #[Value.int .u32 0] K) 24) = wa at *
  go_loopw [16] (fun t16 wr => ∃ i : Nat, i ≤ k ∧ t16 = .int .i64 i ∧ Hid (Wk wr w.heap.size 0 K (A % 4294967296 ^ i * C) ∧ Below w.heap.size w wr)) (fun t16 _ => k - (intOf t16).toNat)
  case atStart => exact ⟨0, by omega, rfl, by rw [mod_zero, Nat.zero_mul]; exact HF.out⟩
  case round =>
    obtain ⟨i, hi, rfl, HM⟩ := hrel
    by_cases hlt : i < k
    · have hlt' : (i : Int) < (k : Int) := by omega
      obtain ⟨g2, o2, rfl, hg2, hc2⟩ := HU.out (by omega)
      have hx : wr.cell? ⟨g2, o2 + i, none⟩ = some (.int .u32 (dg A i : Nat)) := by rw [HM.out.2.cell (p := ⟨g2, o2 + i, none⟩) hg2]; exact hc2 i hlt
      obtain ⟨en, hen, hen'⟩ : ∃ en : Nat, en = i + m ∧ (i : Int) + (m : Int) = (en : Int) := ⟨i + m, rfl, by omega⟩
      have hKe : en < K := by have := HK.out; omega
      have hKe' : (en : Int) < (K : Int) := by omega
      have hie : i ≤ en := by omega
      have hie' : (i : Int) ≤ (en : Int) := by omega
      have Hen := hide hen
      have hfr : wr.frozen? ⟨w.heap.size, en, none⟩ = false := by have := HM.out.1.free en hKe; rwa [Nat.zero_add] at this
      clear hen hc2
      go_wp2_with fail
      have Hwd : Hid (Wk wr.drew w.heap.size 0 K (A % 4294967296 ^ i * C) ∧ Below w.heap.size w wr.drew) := ⟨HM.out.1.drewN 1, HM.out.2.drew⟩
      have hxd : wr.drew.cell? ⟨g2, o2 + i, none⟩ = some (.int .u32 (dg A i : Nat)) := hx
      have hxl := dg_lt A i
      have HN := hide (prod_next A C i)
      generalize dg A i = x at *
      have hsub : en - i = m := by have := Hen.out; omega
      have HP : Hid (A % 4294967296 ^ i * C < 4294967296 ^ (i + m)) := mul_lt_pow (mod_lt A i) hCl.out
      have HCd : Hid (RowX (· ≠ w.heap.size) wr.drew (.slice ad' m cap') m C) := (HC.out.belowB Hwd.out.2).mono (fun g _ hg => Nat.ne_of_lt hg)
      have HWs : Hid (Wk wr.drew w.heap.size i m (A % 4294967296 ^ i * C / 4294967296 ^ i)) := by have := Hwd.out.1.sub i m (by have := HK.out; omega); rwa [Nat.zero_add, mod_self (div_lt_pow HP.out)] at this
      have hcE : ∃ cv, wr.drew.cell? ⟨w.heap.size, en, none⟩ = some cv := ⟨_, by have := Hwd.out.1.cell en hKe; rw [Nat.zero_add] at this; exact this⟩
      have HcE := hide hcE
      clear hcE hx
      have hsz : w.heap.size < wr.heap.size := by
        have := HM.out.1.cell en hKe; exact lt_of_cell this
      by_cases hm0 : m = 0
      · obtain rfl : en = i := by omega
        subst hm0
        clear hsub hen'
        have q1 : (0 : Int) ≤ (en : Int) := by omega
        have q2 : (en : Int) ≤ (K : Int) := by omega
        have q4 : en ≤ K := by omega
        go_region_held3 (fun w' => w'.cell? ⟨g2, o2 + en, none⟩ = some (.int .u32 (x : Nat))) (first | exact hxd | exact hx5 | exact (cell_other _ _ _ _ _ _ (Nat.ne_of_lt hg2)).trans hx5)
          (first | (go_at_call 44; go_must (refine (addTimes_any _ w.heap.size en 0 0 _ _ C x _ HWs.out (by omega) (Nat.le_refl _) (fun h => by omega) HCd.out hxl).mono ?_); rintro _ w5 ⟨rfl, W5, O5⟩; have H5 := hide (And.intro W5 O5); (obtain ⟨cv5, hc5⟩ : ∃ cv, w5.cell? ⟨w.heap.size, en, none⟩ = some cv := by obtain ⟨cv, h⟩ := HcE.out; exact ⟨cv, by rw [O5.cell en (by omega)]; exact h⟩); have hf5 : w5.frozen? ⟨w.heap.size, en, none⟩ = false := (by rw [O5.frozen]; exact hfr); have hx5 : w5.cell? ⟨g2, o2 + en, none⟩ = some (.int .u32 (x : Nat)) := (by rw [World.cell?_of_block (w := wr.drew) (a := ⟨g2, o2 + en, none⟩) (O5.block g2 (lt_of_cell hxd) (Nat.ne_of_lt hg2))]; exact hxd); clear W5 O5))
        go_wp2_with fail
        go_roundw
        case rel =>
          refine ⟨_, _, _, _, _, _, _, _, _, _, _, _, _, _, _, _, _, _, _, _, _, _, _, _, ⟨en + 1, by omega, ?_, ?_⟩, rfl⟩
          · go_num
          rw [← HN.out]
          have hp := Hwd.out.1.prod H5.out.2 hKe HP.out hxl hCl.out H5.out.1
          have e : (((A % 4294967296 ^ en * C / 4294967296 ^ en + x * C) / 4294967296 ^ 0 : Nat) : Int) = (A : Int) % 4294967296 ^ en * (C : Int) / 4294967296 ^ en + (x : Int) * (C : Int) := by simp
          rw [e, Nat.add_zero] at hp
          exact ⟨hp, (Hwd.out.2.trans (H5.out.2.below (Nat.le_refl _) (by have := Hwd.out.2.size; omega))).setCell (Nat.le_refl _) _⟩
        case measure => simp [intOf]; omega
      · have hne : ¬ en = i := by omega
        have q1 : (0 : Int) ≤ (i : Int) := by omega
        have q2 : (en : Int) ≤ (K : Int) := by omega
        have q3 : (0 : Int) ≤ (en : Int) := by omega
        have q4 : en ≤ K := by omega
        go_region_held3 (fun w' => w'.cell? ⟨g2, o2 + i, none⟩ = some (.int .u32 (x : Nat))) (first | exact hxd | exact hx5 | exact (cell_other _ _ _ _ _ _ (Nat.ne_of_lt hg2)).trans hx5)
          (first | (go_at_call 44; refine (addTimes_any _ w.heap.size i m m _ _ C x _ HWs.out (by omega) (Nat.le_refl _) (fun _ => rfl) HCd.out hxl).mono ?_; rintro _ w5 ⟨rfl, W5, O5⟩; have H5 := hide (And.intro W5 O5); (obtain ⟨cv5, hc5⟩ : ∃ cv, w5.cell? ⟨w.heap.size, en, none⟩ = some cv := by obtain ⟨cv, h⟩ := HcE.out; exact ⟨cv, by rw [O5.cell en (by omega)]; exact h⟩); have hf5 : w5.frozen? ⟨w.heap.size, en, none⟩ = false := (by rw [O5.frozen]; exact hfr); have hx5 : w5.cell? ⟨g2, o2 + i, none⟩ = some (.int .u32 (x : Nat)) := (by rw [World.cell?_of_block (w := wr.drew) (a := ⟨g2, o2 + i, none⟩) (O5.block g2 (lt_of_cell hxd) (Nat.ne_of_lt hg2))]; exact hxd); clear W5 O5))
        go_wp2_with fail
        go_roundw
        case rel =>
          refine ⟨i + 1, by omega, by go_num, ?_⟩
          obtain rfl := Hen.out
          rw [← HN.out]
          exact ⟨Hwd.out.1.prod H5.out.2 hKe HP.out hxl hCl.out H5.out.1, (Hwd.out.2.trans (H5.out.2.below (Nat.le_refl _) (by have := Hwd.out.2.size; omega))).setCell (Nat.le_refl _) _⟩
        case measure => simp [intOf]; omega
    · obtain rfl : i = k := by omega
      have HW : Hid (RowX (w.heap.size ≤ ·) wr (.slice (some ⟨w.heap.size, 0, none⟩) K K) K (A * C) ∧ Below w.heap.size w wr) := by
        have := HM.out.1
        rw [mod_self hAl.out] at this
        exact ⟨this.row hKb (Nat.le_refl _) (Nat.le_refl _) _ (fun _ => rfl), HM.out.2⟩
      go_wp2_with fail
      refine (trim_any _ K (A * C) wr HW.out.1).mono ?_
      rintro e w3 ⟨r, rfl, n, hrow, hnrm, hnk, rfl⟩
      have HZ := hide (And.intro hrow (And.intro hnrm hnk))
      clear hrow hnrm hnk
      go_wp2_with fail
      go_ret
      exact ⟨r, rfl, n, HZ.out.1, HZ.out.2.1, by rw [← HK.out]; exact HZ.out.2.2, HW.out.2⟩

end Go.Proofs.Ytanijhgmgldiiaa

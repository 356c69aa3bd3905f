/- What is told of leading bits is the nearest rung. -/
import Derived.Test.YtolaaemkcmiabaaDoorYD
import Derived.Test.YtolaaemkcmiabaaDoorFA
import Derived.Test.YtolaaemkcmiabaaDoorYI
/- exact's numbers: less where nothing falls below nought, spread. -/
namespace Go.Proofs.YtolaaemkcmiabaaDoor
open Go.RowKit
open M
set_option linter.unusedVariables false
set_option linter.unusedSimpArgs false

theorem isZero_any (s : Bool) (ad : Option Addr) (k cap : Nat) (w : World) : Calls Tryd.prog 89 #[.agg #[.bool s, .slice ad k cap]] w fun e w' => e = .returned (.bool ((k : Int) == 0)) ∧ Below w.heap.size w w' := by
  have HB : Hid (Below w.heap.size w (w.alloc (.cells #[.bool s, .slice ad k cap] 48))) := (Below.refl _ _).alloc (Nat.le_refl _) _
  go_enter Tryd.func89, Tryd.ntmps89
  go_wp2_with fail
  go_ret
  exact ⟨rfl, HB.out⟩

set_option maxRecDepth 100000 in
set_option maxHeartbeats 8000000 in
theorem nless_ge {v u : Value} {A C : Nat} {w : World} (h : Num w v A) (h' : Num w u C) (hle : C ≤ A) :
    Calls Tryd.prog 68 #[.agg #[.bool false, v], .agg #[.bool false, u]] w fun e w' => ∃ r, e = .returned (.agg #[.bool false, r]) ∧ NumO w' w.heap.size r (A - C) ∧ Below w.heap.size w w' := by
  obtain ⟨sa, hsa⟩ : ∃ sa : Bool, sa = false := ⟨_, rfl⟩
  obtain ⟨sb, hsb⟩ : ∃ sb : Bool, sb = false := ⟨_, rfl⟩
  obtain ⟨a1, k1, p1, rfl, _⟩ := num_slice h
  obtain ⟨a2, k2, p2, rfl, e2⟩ := num_slice h'
  have HM := hide (fun (w1 : World) (hb : Below w.heap.size w w1) => (show Calls Tryd.prog 88 #[.agg #[.bool false, .slice a1 k1 p1], .agg #[.bool (!((k2 : Int) == 0)), .slice a2 k2 p2]] w1 fun e w' => ∃ r, e = .returned (.agg #[.bool false, r]) ∧ NumO w' w1.heap.size r (A - C) ∧ Below w1.heap.size w1 w' from by
    by_cases hk : k2 = 0
    · have hC : C = 0 := e2.1 hk
      have hs : (!((k2 : Int) == 0)) = false := by rw [hk]; rfl
      rw [hs]
      have := nplus_same (h.below hb) (h'.below hb) (by rw [hC]; exact h.fits)
      rw [hC] at this ⊢
      exact this
    · have hs : (!((k2 : Int) == 0)) = true := by simp; omega
      rw [hs]
      exact nplus_more (h.below hb) (h'.below hb) hle))
  have HZ := hide (fun w1 : World => isZero_any false a2 k2 p2 w1)
  obtain ⟨zb, hzb⟩ : ∃ zb : Bool, zb = ((k2 : Int) == 0) := ⟨_, rfl⟩
  rw [← hzb] at HM HZ
  obtain ⟨W, hW⟩ : ∃ W, W = (((w.alloc (.cells #[.bool sa, .slice a1 k1 p1] 48)).alloc (.cells #[.bool sb, .slice a2 k2 p2] 48)).alloc (.cells #[.bool false, .slice none 0 0] 48)) := ⟨_, rfl⟩
  obtain ⟨c00, c01, c10, c11, c20, c21, fz, hsz, hbel⟩ := three_new w sa sb a1 a2 k1 p1 k2 p2 W hW
  subst hsa hsb
  clear h h' hle hzb e2
  go_enter Tryd.func68, Tryd.ntmps68
  go_wp2_with fail
  rw [← hW]
  have HI : Hid (Below w.heap.size w W.drew) := hbel.drew
  have HWs : Hid (w.heap.size + 1 + 1 < W.drew.heap.size) := by show _ < W.heap.size; omega
  have c00 : W.drew.cell? ⟨w.heap.size, 0, none⟩ = some (.bool false) := c00
  have c01 : W.drew.cell? ⟨w.heap.size, 1, none⟩ = some (.slice a1 k1 p1) := c01
  have c10 : W.drew.cell? ⟨w.heap.size + 1, 0, none⟩ = some (.bool false) := c10
  have c11 : W.drew.cell? ⟨w.heap.size + 1, 1, none⟩ = some (.slice a2 k2 p2) := c11
  have c20 : W.drew.cell? ⟨w.heap.size + 1 + 1, 0, none⟩ = some (.bool false) := c20
  have c21 : W.drew.cell? ⟨w.heap.size + 1 + 1, 1, none⟩ = some (.slice none 0 0) := c21
  have f20 : W.drew.frozen? ⟨w.heap.size + 1 + 1, 0, none⟩ = false := fz 0
  have f21 : W.drew.frozen? ⟨w.heap.size + 1 + 1, 1, none⟩ = false := fz 1
  clear hW hsz hbel fz
  go_region_held3 (fun w' => w'.cell? ⟨w.heap.size, 0, none⟩ = some (.bool false) ∧ w'.cell? ⟨w.heap.size, 1, none⟩ = some (.slice a1 k1 p1) ∧ w'.cell? ⟨w.heap.size + 1, 0, none⟩ = some (.bool false) ∧ w'.cell? ⟨w.heap.size + 1, 1, none⟩ = some (.slice a2 k2 p2)) (first | exact ⟨c00, c01, c10, c11⟩ | (refine ⟨?_, ?_, ?_, ?_⟩ <;> (rw [cell_other _ _ _ _ _ _ (by omega), cell_other _ _ _ _ _ _ (by omega)]; assumption)))
    (first | (go_at_call 89; go_must (refine (HZ.out _).mono ?_); rintro _ w5 ⟨rfl, B5⟩; have HI := hide (HI.out.trans (B5.mono HI.out.size)); have HWs := hide (Nat.lt_of_lt_of_le HWs.out B5.size); have f21 : w5.frozen? ⟨w.heap.size + 1 + 1, 1, none⟩ = false := (by rw [B5.frozen (p := ⟨w.heap.size + 1 + 1, 1, none⟩) (block_lt_of_cell c21)]; exact f21); have f20 : w5.frozen? ⟨w.heap.size + 1 + 1, 0, none⟩ = false := (by rw [B5.frozen (p := ⟨w.heap.size + 1 + 1, 0, none⟩) (block_lt_of_cell c20)]; exact f20); have c00 : w5.cell? ⟨w.heap.size, 0, none⟩ = some (.bool false) := (by rw [B5.cell (p := ⟨w.heap.size, 0, none⟩) (block_lt_of_cell c00)]; exact c00); have c01 : w5.cell? ⟨w.heap.size, 1, none⟩ = some (.slice a1 k1 p1) := (by rw [B5.cell (p := ⟨w.heap.size, 1, none⟩) (block_lt_of_cell c01)]; exact c01); have c10 : w5.cell? ⟨w.heap.size + 1, 0, none⟩ = some (.bool false) := (by rw [B5.cell (p := ⟨w.heap.size + 1, 0, none⟩) (block_lt_of_cell c10)]; exact c10); have c11 : w5.cell? ⟨w.heap.size + 1, 1, none⟩ = some (.slice a2 k2 p2) := (by rw [B5.cell (p := ⟨w.heap.size + 1, 1, none⟩) (block_lt_of_cell c11)]; exact c11); have c20 : w5.cell? ⟨w.heap.size + 1 + 1, 0, none⟩ = some (.bool false) := (by rw [B5.cell (p := ⟨w.heap.size + 1 + 1, 0, none⟩) (block_lt_of_cell c20)]; exact c20); have c21 : w5.cell? ⟨w.heap.size + 1 + 1, 1, none⟩ = some (.slice none 0 0) := (by rw [B5.cell (p := ⟨w.heap.size + 1 + 1, 1, none⟩) (block_lt_of_cell c21)]; exact c21); clear B5) | (go_at_call 88; go_must (refine (HM.out _ HI.out).mono ?_); rintro _ w5 ⟨r, rfl, hr, B5⟩; obtain ⟨a3, k3, p3, rfl, e3⟩ := num_slice hr.num; have HR := hide hr; have HOw := hide HWs.out; have HI := hide (HI.out.trans (B5.mono HI.out.size)); have HWs := hide (Nat.lt_of_lt_of_le HWs.out B5.size); have f21 : w5.frozen? ⟨w.heap.size + 1 + 1, 1, none⟩ = false := (by rw [B5.frozen (p := ⟨w.heap.size + 1 + 1, 1, none⟩) (block_lt_of_cell c21)]; exact f21); have f20 : w5.frozen? ⟨w.heap.size + 1 + 1, 0, none⟩ = false := (by rw [B5.frozen (p := ⟨w.heap.size + 1 + 1, 0, none⟩) (block_lt_of_cell c20)]; exact f20); have c00 : w5.cell? ⟨w.heap.size, 0, none⟩ = some (.bool false) := (by rw [B5.cell (p := ⟨w.heap.size, 0, none⟩) (block_lt_of_cell c00)]; exact c00); have c01 : w5.cell? ⟨w.heap.size, 1, none⟩ = some (.slice a1 k1 p1) := (by rw [B5.cell (p := ⟨w.heap.size, 1, none⟩) (block_lt_of_cell c01)]; exact c01); have c10 : w5.cell? ⟨w.heap.size + 1, 0, none⟩ = some (.bool false) := (by rw [B5.cell (p := ⟨w.heap.size + 1, 0, none⟩) (block_lt_of_cell c10)]; exact c10); have c11 : w5.cell? ⟨w.heap.size + 1, 1, none⟩ = some (.slice a2 k2 p2) := (by rw [B5.cell (p := ⟨w.heap.size + 1, 1, none⟩) (block_lt_of_cell c11)]; exact c11); have c20 : w5.cell? ⟨w.heap.size + 1 + 1, 0, none⟩ = some (.bool false) := (by rw [B5.cell (p := ⟨w.heap.size + 1 + 1, 0, none⟩) (block_lt_of_cell c20)]; exact c20); have c21 : w5.cell? ⟨w.heap.size + 1 + 1, 1, none⟩ = some (.slice none 0 0) := (by rw [B5.cell (p := ⟨w.heap.size + 1 + 1, 1, none⟩) (block_lt_of_cell c21)]; exact c21); clear B5 hr e3))
  go_wp2_with fail
  obtain ⟨r0, r1, r2⟩ := num_put (s := false) c20 c21 HOw.out HR.out
  exact bodyPost_ret (v := .agg #[.bool false, .slice a3 k3 p3]) (by simp [results, Tryd.results68, go_sem, r0, r1]) rfl ⟨_, rfl, r2.mono (by have := HOw.out; omega), (HI.out.setCell (show w.heap.size ≤ w.heap.size + 1 + 1 by omega) _).setCell (show w.heap.size ≤ w.heap.size + 1 + 1 by omega) _⟩

end Go.Proofs.YtolaaemkcmiabaaDoor

/- exact's numbers: spread. -/
namespace Go.Proofs.YtolaaemkcmiabaaDoor
open Go.RowKit
open M
set_option linter.unusedVariables false
set_option linter.unusedSimpArgs false

theorem five_new (w : World) (sn s2 ss : Bool) (an a2 as_ : Option Addr) (kn pn k2 p2 ks ps : Nat) : ∀ W, W = (((((w.alloc (.cells #[.bool sn, .slice an kn pn] 48)).alloc (.cells #[.bool s2, .slice a2 k2 p2] 48)).alloc (.cells #[.bool ss, .slice as_ ks ps] 48)).alloc (.cells #[.bool ss, .slice as_ ks ps] 48)).alloc (.cells #[.bool false, .slice none 0 0] 48)) →
    W.cell? ⟨w.heap.size, 0, none⟩ = some (.bool sn) ∧ W.cell? ⟨w.heap.size, 1, none⟩ = some (.slice an kn pn) ∧ W.cell? ⟨w.heap.size + 1, 0, none⟩ = some (.bool s2) ∧ W.cell? ⟨w.heap.size + 1, 1, none⟩ = some (.slice a2 k2 p2) ∧ W.cell? ⟨w.heap.size + 1 + 1, 0, none⟩ = some (.bool ss) ∧ W.cell? ⟨w.heap.size + 1 + 1, 1, none⟩ = some (.slice as_ ks ps) ∧ W.cell? ⟨w.heap.size + 1 + 1 + 1, 0, none⟩ = some (.bool ss) ∧ W.cell? ⟨w.heap.size + 1 + 1 + 1, 1, none⟩ = some (.slice as_ ks ps) ∧ W.cell? ⟨w.heap.size + 1 + 1 + 1 + 1, 0, none⟩ = some (.bool false) ∧ W.cell? ⟨w.heap.size + 1 + 1 + 1 + 1, 1, none⟩ = some (.slice none 0 0) ∧ (∀ j, W.frozen? ⟨w.heap.size + 1 + 1 + 1 + 1, j, none⟩ = false) ∧ W.heap.size = w.heap.size + 1 + 1 + 1 + 1 + 1 ∧ Below w.heap.size w W := by
  intro W hW
  have n0 := heap_alloc_new w (.cells #[.bool sn, .slice an kn pn] 48)
  have z0 : (w.alloc (.cells #[.bool sn, .slice an kn pn] 48)).heap.size = w.heap.size + 1 := by simp
  have b0 : Below w.heap.size w (w.alloc (.cells #[.bool sn, .slice an kn pn] 48)) := (Below.refl _ _).alloc (Nat.le_refl _) _
  generalize w.alloc (.cells #[.bool sn, .slice an kn pn] 48) = w0 at *
  have n1 := heap_alloc_new w0 (.cells #[.bool s2, .slice a2 k2 p2] 48)
  have z1 : (w0.alloc (.cells #[.bool s2, .slice a2 k2 p2] 48)).heap.size = w0.heap.size + 1 := by simp
  have b1 : Below w0.heap.size w0 (w0.alloc (.cells #[.bool s2, .slice a2 k2 p2] 48)) := (Below.refl _ _).alloc (Nat.le_refl _) _
  generalize w0.alloc (.cells #[.bool s2, .slice a2 k2 p2] 48) = w1 at *
  have n2 := heap_alloc_new w1 (.cells #[.bool ss, .slice as_ ks ps] 48)
  have z2 : (w1.alloc (.cells #[.bool ss, .slice as_ ks ps] 48)).heap.size = w1.heap.size + 1 := by simp
  have b2 : Below w1.heap.size w1 (w1.alloc (.cells #[.bool ss, .slice as_ ks ps] 48)) := (Below.refl _ _).alloc (Nat.le_refl _) _
  generalize w1.alloc (.cells #[.bool ss, .slice as_ ks ps] 48) = w2 at *
  have n3 := heap_alloc_new w2 (.cells #[.bool ss, .slice as_ ks ps] 48)
  have z3 : (w2.alloc (.cells #[.bool ss, .slice as_ ks ps] 48)).heap.size = w2.heap.size + 1 := by simp
  have b3 : Below w2.heap.size w2 (w2.alloc (.cells #[.bool ss, .slice as_ ks ps] 48)) := (Below.refl _ _).alloc (Nat.le_refl _) _
  generalize w2.alloc (.cells #[.bool ss, .slice as_ ks ps] 48) = w3 at *
  have n4 := heap_alloc_new w3 (.cells #[.bool false, .slice none 0 0] 48)
  have z4 : (w3.alloc (.cells #[.bool false, .slice none 0 0] 48)).heap.size = w3.heap.size + 1 := by simp
  have b4 : Below w3.heap.size w3 (w3.alloc (.cells #[.bool false, .slice none 0 0] 48)) := (Below.refl _ _).alloc (Nat.le_refl _) _
  rw [← hW] at n4 z4 b4
  have m0 : W.heap[w.heap.size]? = some (.cells #[.bool sn, .slice an kn pn] 48 (0, 0)) := by
    have hh : w.heap.size = w.heap.size := by omega
    rw [hh, b4.block _ (by omega), b3.block _ (by omega), b2.block _ (by omega), b1.block _ (by omega)]; exact n0
  have m1 : W.heap[w.heap.size + 1]? = some (.cells #[.bool s2, .slice a2 k2 p2] 48 (0, 0)) := by
    have hh : w.heap.size + 1 = w0.heap.size := by omega
    rw [hh, b4.block _ (by omega), b3.block _ (by omega), b2.block _ (by omega)]; exact n1
  have m2 : W.heap[w.heap.size + 1 + 1]? = some (.cells #[.bool ss, .slice as_ ks ps] 48 (0, 0)) := by
    have hh : w.heap.size + 1 + 1 = w1.heap.size := by omega
    rw [hh, b4.block _ (by omega), b3.block _ (by omega)]; exact n2
  have m3 : W.heap[w.heap.size + 1 + 1 + 1]? = some (.cells #[.bool ss, .slice as_ ks ps] 48 (0, 0)) := by
    have hh : w.heap.size + 1 + 1 + 1 = w2.heap.size := by omega
    rw [hh, b4.block _ (by omega)]; exact n3
  have m4 : W.heap[w.heap.size + 1 + 1 + 1 + 1]? = some (.cells #[.bool false, .slice none 0 0] 48 (0, 0)) := by
    have hh : w.heap.size + 1 + 1 + 1 + 1 = w3.heap.size := by omega
    rw [hh]; exact n4
  exact ⟨cell_of_row _ _ 0 _ _ _ m0, cell_of_row _ _ 1 _ _ _ m0, cell_of_row _ _ 0 _ _ _ m1, cell_of_row _ _ 1 _ _ _ m1, cell_of_row _ _ 0 _ _ _ m2, cell_of_row _ _ 1 _ _ _ m2, cell_of_row _ _ 0 _ _ _ m3, cell_of_row _ _ 1 _ _ _ m3, cell_of_row _ _ 0 _ _ _ m4, cell_of_row _ _ 1 _ _ _ m4, fun j => frozen_of_row _ _ _ _ _ m4, by omega, b0.trans ((b1.mono (by omega)).trans ((b2.mono (by omega)).trans ((b3.mono (by omega)).trans (b4.mono (by omega)))))⟩

set_option maxRecDepth 100000 in
set_option maxHeartbeats 16000000 in
theorem spread_num {vn v2 vs : Value} {N S S2 : Int} {w : World} (hn : NumI w vn N) (h2 : NumI w v2 S2) (hs : NumI w vs S) (hN : 0 ≤ N) (hS2 : 0 ≤ S2) (hle : 0 ≤ N * S2 - S * S) (hf1 : Fits (N.natAbs * S2.natAbs)) (hf2 : Fits (S.natAbs * S.natAbs)) :
    Calls Tryd.prog 42 #[vn, v2, vs, vs] w fun e w' => ∃ r, e = .returned (.agg #[.bool false, r]) ∧ NumO w' w.heap.size r (N * S2 - S * S).natAbs ∧ Below w.heap.size w w' := by
  have HTa := hide (fun (w1 : World) (hb : Below w.heap.size w w1) => ntimes_num (hn.below hb) (h2.below hb) hf1)
  have HTb := hide (fun (w1 : World) (hb : Below w.heap.size w w1) => ntimes_num (hs.below hb) (hs.below hb) hf2)
  have q1 : decide (N * S2 < 0) = false := by rw [decide_eq_false_iff_not]; have := Int.mul_nonneg hN hS2; omega
  have q2 : decide (S * S < 0) = false := by
    rw [decide_eq_false_iff_not]
    rcases Int.le_total 0 S with h | h
    · have := Int.mul_nonneg h h; omega
    · have := Int.mul_nonneg_of_nonpos_of_nonpos h h; omega
  have HL : Hid (∀ (w1 : World) (x y : Value), Num w1 x (N * S2).natAbs → Num w1 y (S * S).natAbs → Calls Tryd.prog 68 #[.agg #[.bool false, x], .agg #[.bool false, y]] w1 fun e w' => ∃ r, e = .returned (.agg #[.bool false, r]) ∧ NumO w' w1.heap.size r ((N * S2).natAbs - (S * S).natAbs) ∧ Below w1.heap.size w1 w') := fun w1 x y h1 h2 => nless_ge h1 h2 (by
    rw [decide_eq_false_iff_not] at q1 q2; omega)
  have HE : Hid ((N * S2).natAbs - (S * S).natAbs = (N * S2 - S * S).natAbs) := by
    rw [decide_eq_false_iff_not] at q1 q2; show _ = _; omega
  unfold NumIO at HTa HTb
  rw [q1] at HTa
  rw [q2] at HTb
  obtain ⟨un, rfl, hun⟩ := hn
  obtain ⟨u2, rfl, hu2⟩ := h2
  obtain ⟨us, rfl, hus⟩ := hs
  obtain ⟨an, kn, pn, rfl, _⟩ := num_slice hun
  obtain ⟨a2, k2, p2, rfl, _⟩ := num_slice hu2
  obtain ⟨as_, ks, ps, rfl, _⟩ := num_slice hus
  generalize decide (N < 0) = sn at *
  generalize decide (S2 < 0) = s2 at *
  generalize decide (S < 0) = ss at *
  generalize (N * S2).natAbs = Pa at *
  generalize (S * S).natAbs = Pb at *
  obtain ⟨W, hW⟩ : ∃ W, W = (((((w.alloc (.cells #[.bool sn, .slice an kn pn] 48)).alloc (.cells #[.bool s2, .slice a2 k2 p2] 48)).alloc (.cells #[.bool ss, .slice as_ ks ps] 48)).alloc (.cells #[.bool ss, .slice as_ ks ps] 48)).alloc (.cells #[.bool false, .slice none 0 0] 48)) := ⟨_, rfl⟩
  obtain ⟨c00, c01, c10, c11, c20, c21, c30, c31, c40, c41, fz, hsz, hbel⟩ := five_new w sn s2 ss an a2 as_ kn pn k2 p2 ks ps W hW
  clear hun hu2 hus hN hS2 hle hf1 hf2 q1 q2
  go_enter Tryd.func42, Tryd.ntmps42
  go_wp2_with fail
  rw [← hW]
  have HI : Hid (Below w.heap.size w W.drew) := hbel.drew
  have HWs : Hid (w.heap.size + 1 + 1 + 1 + 1 < W.drew.heap.size) := by show _ < W.heap.size; omega
  have c00 : W.drew.cell? ⟨w.heap.size, 0, none⟩ = some (.bool sn) := c00
  have c01 : W.drew.cell? ⟨w.heap.size, 1, none⟩ = some (.slice an kn pn) := c01
  have c10 : W.drew.cell? ⟨w.heap.size + 1, 0, none⟩ = some (.bool s2) := c10
  have c11 : W.drew.cell? ⟨w.heap.size + 1, 1, none⟩ = some (.slice a2 k2 p2) := c11
  have c20 : W.drew.cell? ⟨w.heap.size + 1 + 1, 0, none⟩ = some (.bool ss) := c20
  have c21 : W.drew.cell? ⟨w.heap.size + 1 + 1, 1, none⟩ = some (.slice as_ ks ps) := c21
  have c30 : W.drew.cell? ⟨w.heap.size + 1 + 1 + 1, 0, none⟩ = some (.bool ss) := c30
  have c31 : W.drew.cell? ⟨w.heap.size + 1 + 1 + 1, 1, none⟩ = some (.slice as_ ks ps) := c31
  have c40 : W.drew.cell? ⟨w.heap.size + 1 + 1 + 1 + 1, 0, none⟩ = some (.bool false) := c40
  have c41 : W.drew.cell? ⟨w.heap.size + 1 + 1 + 1 + 1, 1, none⟩ = some (.slice none 0 0) := c41
  have f40 : W.drew.frozen? ⟨w.heap.size + 1 + 1 + 1 + 1, 0, none⟩ = false := fz 0
  have f41 : W.drew.frozen? ⟨w.heap.size + 1 + 1 + 1 + 1, 1, none⟩ = false := fz 1
  clear hW hsz hbel fz
  go_region_held3 (fun w' => w'.cell? ⟨w.heap.size, 0, none⟩ = some (.bool sn) ∧ w'.cell? ⟨w.heap.size, 1, none⟩ = some (.slice an kn pn) ∧ w'.cell? ⟨w.heap.size + 1, 0, none⟩ = some (.bool s2) ∧ w'.cell? ⟨w.heap.size + 1, 1, none⟩ = some (.slice a2 k2 p2) ∧ w'.cell? ⟨w.heap.size + 1 + 1, 0, none⟩ = some (.bool ss) ∧ w'.cell? ⟨w.heap.size + 1 + 1, 1, none⟩ = some (.slice as_ ks ps) ∧ w'.cell? ⟨w.heap.size + 1 + 1 + 1, 0, none⟩ = some (.bool ss) ∧ w'.cell? ⟨w.heap.size + 1 + 1 + 1, 1, none⟩ = some (.slice as_ ks ps)) (first | exact ⟨c00, c01, c10, c11, c20, c21, c30, c31⟩ | (refine ⟨?_, ?_, ?_, ?_, ?_, ?_, ?_, ?_⟩ <;> (rw [cell_other _ _ _ _ _ _ (by omega), cell_other _ _ _ _ _ _ (by omega)]; assumption)))
    (first | (go_at_call_of 25 (Value.slice an kn pn); go_must (refine (HTa.out _ HI.out).mono ?_); rintro _ w5 ⟨ra, rfl, ⟨va, rfl, ha⟩, B5⟩; obtain ⟨xa, ya, za, rfl, ea⟩ := num_slice ha.num; have HRa := hide ha; (try have HRb := hide (HRb.out.below B5)); have HI := hide (HI.out.trans (B5.mono HI.out.size)); have HWs := hide (Nat.lt_of_lt_of_le HWs.out B5.size); have f41 : w5.frozen? ⟨w.heap.size + 1 + 1 + 1 + 1, 1, none⟩ = false := (by rw [B5.frozen (p := ⟨w.heap.size + 1 + 1 + 1 + 1, 1, none⟩) (block_lt_of_cell c41)]; exact f41); have f40 : w5.frozen? ⟨w.heap.size + 1 + 1 + 1 + 1, 0, none⟩ = false := (by rw [B5.frozen (p := ⟨w.heap.size + 1 + 1 + 1 + 1, 0, none⟩) (block_lt_of_cell c40)]; exact f40); have c00 : w5.cell? ⟨w.heap.size, 0, none⟩ = some (.bool sn) := (by rw [B5.cell (p := ⟨w.heap.size, 0, none⟩) (block_lt_of_cell c00)]; exact c00); have c01 : w5.cell? ⟨w.heap.size, 1, none⟩ = some (.slice an kn pn) := (by rw [B5.cell (p := ⟨w.heap.size, 1, none⟩) (block_lt_of_cell c01)]; exact c01); have c10 : w5.cell? ⟨w.heap.size + 1, 0, none⟩ = some (.bool s2) := (by rw [B5.cell (p := ⟨w.heap.size + 1, 0, none⟩) (block_lt_of_cell c10)]; exact c10); have c11 : w5.cell? ⟨w.heap.size + 1, 1, none⟩ = some (.slice a2 k2 p2) := (by rw [B5.cell (p := ⟨w.heap.size + 1, 1, none⟩) (block_lt_of_cell c11)]; exact c11); have c20 : w5.cell? ⟨w.heap.size + 1 + 1, 0, none⟩ = some (.bool ss) := (by rw [B5.cell (p := ⟨w.heap.size + 1 + 1, 0, none⟩) (block_lt_of_cell c20)]; exact c20); have c21 : w5.cell? ⟨w.heap.size + 1 + 1, 1, none⟩ = some (.slice as_ ks ps) := (by rw [B5.cell (p := ⟨w.heap.size + 1 + 1, 1, none⟩) (block_lt_of_cell c21)]; exact c21); have c30 : w5.cell? ⟨w.heap.size + 1 + 1 + 1, 0, none⟩ = some (.bool ss) := (by rw [B5.cell (p := ⟨w.heap.size + 1 + 1 + 1, 0, none⟩) (block_lt_of_cell c30)]; exact c30); have c31 : w5.cell? ⟨w.heap.size + 1 + 1 + 1, 1, none⟩ = some (.slice as_ ks ps) := (by rw [B5.cell (p := ⟨w.heap.size + 1 + 1 + 1, 1, none⟩) (block_lt_of_cell c31)]; exact c31); have c40 : w5.cell? ⟨w.heap.size + 1 + 1 + 1 + 1, 0, none⟩ = some (.bool false) := (by rw [B5.cell (p := ⟨w.heap.size + 1 + 1 + 1 + 1, 0, none⟩) (block_lt_of_cell c40)]; exact c40); have c41 : w5.cell? ⟨w.heap.size + 1 + 1 + 1 + 1, 1, none⟩ = some (.slice none 0 0) := (by rw [B5.cell (p := ⟨w.heap.size + 1 + 1 + 1 + 1, 1, none⟩) (block_lt_of_cell c41)]; exact c41); clear B5 ha ea) | (go_at_call_of 25 (Value.slice as_ ks ps); go_must (refine (HTb.out _ HI.out).mono ?_); rintro _ w5 ⟨rb, rfl, ⟨vb, rfl, hb⟩, B5⟩; obtain ⟨xb, yb, zb, rfl, eb⟩ := num_slice hb.num; have HRb := hide hb; (try have HRa := hide (HRa.out.below B5)); have HI := hide (HI.out.trans (B5.mono HI.out.size)); have HWs := hide (Nat.lt_of_lt_of_le HWs.out B5.size); have f41 : w5.frozen? ⟨w.heap.size + 1 + 1 + 1 + 1, 1, none⟩ = false := (by rw [B5.frozen (p := ⟨w.heap.size + 1 + 1 + 1 + 1, 1, none⟩) (block_lt_of_cell c41)]; exact f41); have f40 : w5.frozen? ⟨w.heap.size + 1 + 1 + 1 + 1, 0, none⟩ = false := (by rw [B5.frozen (p := ⟨w.heap.size + 1 + 1 + 1 + 1, 0, none⟩) (block_lt_of_cell c40)]; exact f40); have c00 : w5.cell? ⟨w.heap.size, 0, none⟩ = some (.bool sn) := (by rw [B5.cell (p := ⟨w.heap.size, 0, none⟩) (block_lt_of_cell c00)]; exact c00); have c01 : w5.cell? ⟨w.heap.size, 1, none⟩ = some (.slice an kn pn) := (by rw [B5.cell (p := ⟨w.heap.size, 1, none⟩) (block_lt_of_cell c01)]; exact c01); have c10 : w5.cell? ⟨w.heap.size + 1, 0, none⟩ = some (.bool s2) := (by rw [B5.cell (p := ⟨w.heap.size + 1, 0, none⟩) (block_lt_of_cell c10)]; exact c10); have c11 : w5.cell? ⟨w.heap.size + 1, 1, none⟩ = some (.slice a2 k2 p2) := (by rw [B5.cell (p := ⟨w.heap.size + 1, 1, none⟩) (block_lt_of_cell c11)]; exact c11); have c20 : w5.cell? ⟨w.heap.size + 1 + 1, 0, none⟩ = some (.bool ss) := (by rw [B5.cell (p := ⟨w.heap.size + 1 + 1, 0, none⟩) (block_lt_of_cell c20)]; exact c20); have c21 : w5.cell? ⟨w.heap.size + 1 + 1, 1, none⟩ = some (.slice as_ ks ps) := (by rw [B5.cell (p := ⟨w.heap.size + 1 + 1, 1, none⟩) (block_lt_of_cell c21)]; exact c21); have c30 : w5.cell? ⟨w.heap.size + 1 + 1 + 1, 0, none⟩ = some (.bool ss) := (by rw [B5.cell (p := ⟨w.heap.size + 1 + 1 + 1, 0, none⟩) (block_lt_of_cell c30)]; exact c30); have c31 : w5.cell? ⟨w.heap.size + 1 + 1 + 1, 1, none⟩ = some (.slice as_ ks ps) := (by rw [B5.cell (p := ⟨w.heap.size + 1 + 1 + 1, 1, none⟩) (block_lt_of_cell c31)]; exact c31); have c40 : w5.cell? ⟨w.heap.size + 1 + 1 + 1 + 1, 0, none⟩ = some (.bool false) := (by rw [B5.cell (p := ⟨w.heap.size + 1 + 1 + 1 + 1, 0, none⟩) (block_lt_of_cell c40)]; exact c40); have c41 : w5.cell? ⟨w.heap.size + 1 + 1 + 1 + 1, 1, none⟩ = some (.slice none 0 0) := (by rw [B5.cell (p := ⟨w.heap.size + 1 + 1 + 1 + 1, 1, none⟩) (block_lt_of_cell c41)]; exact c41); clear B5 hb eb) | (go_at_call 68; go_must (refine (HL.out _ _ _ HRa.out.num HRb.out.num).mono ?_); rintro _ w5 ⟨r, rfl, hr, B5⟩; obtain ⟨a3, k3, p3, rfl, e3⟩ := num_slice hr.num; have HR := hide hr; have HOw := hide HWs.out; have HI := hide (HI.out.trans (B5.mono HI.out.size)); have HWs := hide (Nat.lt_of_lt_of_le HWs.out B5.size); have f41 : w5.frozen? ⟨w.heap.size + 1 + 1 + 1 + 1, 1, none⟩ = false := (by rw [B5.frozen (p := ⟨w.heap.size + 1 + 1 + 1 + 1, 1, none⟩) (block_lt_of_cell c41)]; exact f41); have f40 : w5.frozen? ⟨w.heap.size + 1 + 1 + 1 + 1, 0, none⟩ = false := (by rw [B5.frozen (p := ⟨w.heap.size + 1 + 1 + 1 + 1, 0, none⟩) (block_lt_of_cell c40)]; exact f40); have c00 : w5.cell? ⟨w.heap.size, 0, none⟩ = some (.bool sn) := (by rw [B5.cell (p := ⟨w.heap.size, 0, none⟩) (block_lt_of_cell c00)]; exact c00); have c01 : w5.cell? ⟨w.heap.size, 1, none⟩ = some (.slice an kn pn) := (by rw [B5.cell (p := ⟨w.heap.size, 1, none⟩) (block_lt_of_cell c01)]; exact c01); have c10 : w5.cell? ⟨w.heap.size + 1, 0, none⟩ = some (.bool s2) := (by rw [B5.cell (p := ⟨w.heap.size + 1, 0, none⟩) (block_lt_of_cell c10)]; exact c10); have c11 : w5.cell? ⟨w.heap.size + 1, 1, none⟩ = some (.slice a2 k2 p2) := (by rw [B5.cell (p := ⟨w.heap.size + 1, 1, none⟩) (block_lt_of_cell c11)]; exact c11); have c20 : w5.cell? ⟨w.heap.size + 1 + 1, 0, none⟩ = some (.bool ss) := (by rw [B5.cell (p := ⟨w.heap.size + 1 + 1, 0, none⟩) (block_lt_of_cell c20)]; exact c20); have c21 : w5.cell? ⟨w.heap.size + 1 + 1, 1, none⟩ = some (.slice as_ ks ps) := (by rw [B5.cell (p := ⟨w.heap.size + 1 + 1, 1, none⟩) (block_lt_of_cell c21)]; exact c21); have c30 : w5.cell? ⟨w.heap.size + 1 + 1 + 1, 0, none⟩ = some (.bool ss) := (by rw [B5.cell (p := ⟨w.heap.size + 1 + 1 + 1, 0, none⟩) (block_lt_of_cell c30)]; exact c30); have c31 : w5.cell? ⟨w.heap.size + 1 + 1 + 1, 1, none⟩ = some (.slice as_ ks ps) := (by rw [B5.cell (p := ⟨w.heap.size + 1 + 1 + 1, 1, none⟩) (block_lt_of_cell c31)]; exact c31); have c40 : w5.cell? ⟨w.heap.size + 1 + 1 + 1 + 1, 0, none⟩ = some (.bool false) := (by rw [B5.cell (p := ⟨w.heap.size + 1 + 1 + 1 + 1, 0, none⟩) (block_lt_of_cell c40)]; exact c40); have c41 : w5.cell? ⟨w.heap.size + 1 + 1 + 1 + 1, 1, none⟩ = some (.slice none 0 0) := (by rw [B5.cell (p := ⟨w.heap.size + 1 + 1 + 1 + 1, 1, none⟩) (block_lt_of_cell c41)]; exact c41); clear B5 hr e3))
  all_goals
    go_wp2_with fail
    obtain ⟨r0, r1, r2⟩ := num_put (s := false) c40 c41 HOw.out HR.out
    exact bodyPost_ret (v := .agg #[.bool false, .slice a3 k3 p3]) (by simp [results, Tryd.results42, go_sem, r0, r1]) rfl ⟨_, rfl, by rw [← HE.out]; exact r2.mono (by have := HOw.out; omega), (HI.out.setCell (show w.heap.size ≤ w.heap.size + 1 + 1 + 1 + 1 by omega) _).setCell (show w.heap.size ≤ w.heap.size + 1 + 1 + 1 + 1 by omega) _⟩

end Go.Proofs.YtolaaemkcmiabaaDoor

namespace Go.Proofs.YtolaaemkcmiabaaDoor
open Go.RowKit
open M
open Flt
set_option linter.unusedVariables false
set_option linter.unusedSimpArgs false

theorem bitLen_log {n : Nat} (h : n ≠ 0) : bitLen n = n.log2 + 1 := by unfold bitLen; rw [if_neg h]

/-- The exact number, in units of the least place: its numerator and its denominator. -/
def exN (P L : Nat) (e0 : Int) : Nat := P * 2 ^ (e0 + (L : Int)).toNat
def exD (Q L : Nat) (e0 : Int) : Nat := Q * 2 ^ (-(e0 + (L : Int))).toNat

theorem cross (P D N Q u d a b A B : Nat) (H : N * (Q * 2 ^ d) = P * 2 ^ u * D) (he : d + a + B = b + A + u) : P * 2 ^ a * (D * 2 ^ B) = N * (Q * 2 ^ b * 2 ^ A) := by
  refine Nat.eq_of_mul_eq_mul_right (Nat.two_pow_pos u) ?_
  calc P * 2 ^ a * (D * 2 ^ B) * 2 ^ u = P * 2 ^ u * D * (2 ^ a * 2 ^ B) := by simp only [Nat.mul_assoc, Nat.mul_left_comm, Nat.mul_comm]
    _ = N * (Q * 2 ^ d) * (2 ^ a * 2 ^ B) := by rw [H]
    _ = N * Q * 2 ^ (d + a + B) := by rw [Nat.pow_add, Nat.pow_add]; simp only [Nat.mul_assoc]
    _ = N * Q * 2 ^ (b + A + u) := by rw [he]
    _ = N * (Q * 2 ^ b * 2 ^ A) * 2 ^ u := by rw [Nat.pow_add, Nat.pow_add]; simp only [Nat.mul_assoc]

/-- What unsF tells of a quotient's leading bits. -/
theorem uns_rnd (f : Ieee.Format) (b L inf : Nat) (hfb : f.fractionBits + 1 = b) (hb : b ≤ 53) (hbin : f.binade = 2 ^ (b - 1)) (P Q : Nat) (e0 : Int) (head : Nat) (more : Bool) (e' : Int) (hQ : 0 < Q) (hP : 0 < P) (he : nr e0 = e0)
    (h : LeadQ P Q e0 head more e') : unsF b L inf head more e' = min (rnd f (exN P L e0) (exD Q L e0)) inf := by
  rcases h with ⟨h, _⟩ | ⟨_, N, D, hD, H, hh, hm, hee, h62, h64⟩
  · omega
  have hne : head ≠ 0 := by omega
  have hlog : 62 ≤ head.log2 := by
    rw [Nat.le_log2 hne]; omega
  unfold unsF
  rw [if_neg hne]
  refine congrArg (fun x => min x inf) ?_
  have hbl := bitLen_log hne
  obtain ⟨A, hA⟩ : ∃ A, A = (e' + (L : Int)).toNat := ⟨_, rfl⟩
  obtain ⟨B, hB⟩ : ∃ B, B = (-(e' + (L : Int))).toNat := ⟨_, rfl⟩
  obtain ⟨k, hk⟩ : ∃ k, k = (stp b L head e' + L).toNat := ⟨_, rfl⟩
  obtain ⟨sh, hsh⟩ : ∃ sh, sh = (stp b L head e' - e').toNat - 1 := ⟨_, rfl⟩
  rw [← hk, ← hsh]
  have hst : stp b L head e' = max (e' + (head.log2 : Int) + 1 - (b : Int)) (-(L : Int)) := by unfold stp; rw [hbl]; congr 1; omega
  rw [hst] at hk hsh
  have hk' : k = head.log2 + A - B - f.fractionBits := by omega
  have hs' : sh + 1 + A = k + B := by omega
  have hq : N / D ≠ 0 := by rw [← hh]; exact hne
  have hcross : exN P L e0 * (D * 2 ^ B) = N * (exD Q L e0 * 2 ^ A) := by
    unfold exN exD
    exact cross P D N Q _ _ _ _ A B H (by omega)
  have hDD : 0 < exD Q L e0 := Nat.mul_pos hQ (Nat.two_pow_pos _)
  have := rnd_quot f (exN P L e0) (exD Q L e0) N D A B sh k hDD hD hq hcross (by rw [← hh]; exact hk') hs'
  rw [this, hbin, ← hh, hm]
  rfl

theorem uns_zero (b L inf head : Nat) (more : Bool) (e0 e' : Int) (Q : Nat) (h : LeadQ 0 Q e0 head more e') : unsF b L inf head more e' = 0 := by
  rcases h with ⟨_, h, _⟩ | ⟨h, _⟩
  · unfold unsF; rw [if_pos h]
  · omega

/-- Of 64 bits. -/
theorem uns64_rnd (P Q : Nat) (e0 : Int) (head : Nat) (more : Bool) (e' : Int) (hQ : 0 < Q) (hP : 0 < P) (he1 : -1048576 ≤ e0) (he2 : e0 ≤ 1048576) (h : LeadQ P Q e0 head more e') :
    unsF 53 1074 9218868437227405312 head more e' = min (rnd Ieee.double (exN P 1074 e0) (exD Q 1074 e0)) 9218868437227405312 :=
  uns_rnd Ieee.double 53 1074 _ (by decide) (by omega) (by decide) P Q e0 head more e' hQ hP (by unfold nr; omega) h

end Go.Proofs.YtolaaemkcmiabaaDoor

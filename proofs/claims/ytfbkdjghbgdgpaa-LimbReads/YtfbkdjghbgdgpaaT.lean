/- three. -/
import Derived.Test.YtfbkdjghbgdgpaaS
namespace Go.Proofs.Ytfbkdjghbgdgpaa
open Go.RowKit
open M
set_option linter.unusedVariables false
set_option linter.unusedSimpArgs false

/-- A slice of rows that came in. -/
def IsRows (w : World) (aL : Option Addr) (nL : Nat) : Prop :=
  nL ≤ 9223372036854775807 ∧ (0 < nL → ∃ g o, aL = some ⟨g, o, none⟩ ∧ g < w.heap.size ∧ ∀ i, i < nL → ∃ v k N, w.cell? ⟨g, o + i, none⟩ = some v ∧ RowL w v k N)

/-- The array of three numbers. -/
def ThreeSt (w : World) (la most : Nat) (wr : World) : Prop :=
  (∃ R : Nat → Value, ∀ j, j < 3 → wr.cell? ⟨la, j, none⟩ = some (R j) ∧ wr.frozen? ⟨la, j, none⟩ = false ∧ ∃ n A, RowX (· ≠ la) wr (R j) n A ∧ Nrm n A ∧ n ≤ most) ∧ Below w.heap.size w wr ∧ la < wr.heap.size

theorem RowX.nil (S : Nat → Prop) (w : World) : RowX S w (.slice none 0 0) 0 0 := ⟨by simp, by omega, none, 0, rfl, Nat.le_refl _, fun h => by omega⟩

theorem ThreeSt.next {w wr w1 : World} {la most i n A : Nat} {r : Value} (h : ThreeSt w la most wr) (hla : w.heap.size ≤ la) (hb : Below wr.heap.size wr w1) (hr : RowX (wr.heap.size ≤ ·) w1 r n A) (hn : Nrm n A) (hm : n ≤ most) (hi : i < 3) :
    ThreeSt w la most (w1.setCell ⟨la, i, none⟩ r) := by
  obtain ⟨⟨R, hR⟩, h2, h3⟩ := h
  have hk : ∀ g o, g ≠ la → g < w1.heap.size → (w1.setCell ⟨la, i, none⟩ r).cell? ⟨g, o, none⟩ = w1.cell? ⟨g, o, none⟩ := fun g o hg _ => cell_other _ _ _ _ _ _ hg
  refine ⟨⟨fun j => if j = i then r else R j, fun j hj => ⟨?_, ?_, ?_⟩⟩, (h2.trans (hb.mono h2.size)).setCell hla _, ?_⟩
  · show _ = some (if j = i then r else R j)
    by_cases e : j = i
    · subst e; rw [if_pos rfl]; exact cell_setCell_eq _ _ _ _ _ (by rw [hb.cell (p := ⟨la, j, none⟩) h3]; exact (hR j hj).1)
    · rw [if_neg e, cell_setCell_ne _ _ _ _ _ e, hb.cell (p := ⟨la, j, none⟩) h3]; exact (hR j hj).1
  · rw [frozen_setCell, hb.frozen (p := ⟨la, j, none⟩) h3]; exact (hR j hj).2.1
  · show ∃ n A, RowX (· ≠ la) _ (if j = i then r else R j) n A ∧ Nrm n A ∧ n ≤ most
    by_cases e : j = i
    · rw [if_pos e]
      exact ⟨n, A, (hr.mono (S' := (· ≠ la)) (fun g _ hg => by omega)).keep hk, hn, hm⟩
    · rw [if_neg e]
      obtain ⟨n', A', h1, h2, h3⟩ := (hR j hj).2.2
      exact ⟨n', A', (h1.below hb).keep hk, h2, h3⟩
  · have := hb.size; simp [World.setCell]; omega

set_option maxRecDepth 100000 in
set_option maxHeartbeats 2000000 in
theorem three_any (aL aN : Option Addr) (nL cL nN cN most : Nat) (w : World) (h : IsRows w aL nL) (hm : most ≤ 8192) :
    Calls Try.prog 15 #[.agg #[.slice aL nL cL, .slice aN nN cN], .int .i64 most] w fun e w' => ∃ r0 r1 r2, e = .returned (.tuple #[r0, r1, r2]) ∧ ∃ A B C, Num w' r0 A ∧ Num w' r1 B ∧ Num w' r2 C ∧ A < 4294967296 ^ most ∧ B < 4294967296 ^ most ∧ C < 4294967296 ^ most ∧ Below w.heap.size w w' := by
  obtain ⟨hnL, hrows⟩ := h
  have HR := hide hrows
  clear hrows
  have hb1 : Below w.heap.size w (w.alloc (.cells #[.slice aL nL cL, .slice aN nN cN] 43)) := (Below.refl _ _).alloc (Nat.le_refl _) _
  have hs1 : (w.alloc (.cells #[.slice aL nL cL, .slice aN nN cN] 43)).heap.size = w.heap.size + 1 := by simp
  have hbox : (w.alloc (.cells #[.slice aL nL cL, .slice aN nN cN] 43)).cell? ⟨w.heap.size, 0, none⟩ = some (.slice aL nL cL) := by rw [cell_of_row _ _ _ _ _ _ (heap_alloc_new _ _)]; rfl
  generalize hw1 : w.alloc (.cells #[.slice aL nL cL, .slice aN nN cN] 43) = w1 at *
  have HS0 : Hid (ThreeSt w (w.heap.size + 1) most (w1.alloc (.cells #[.slice none 0 0, .slice none 0 0, .slice none 0 0] 70)) ∧ (w1.alloc (.cells #[.slice none 0 0, .slice none 0 0, .slice none 0 0] 70)).cell? ⟨w.heap.size, 0, none⟩ = some (.slice aL nL cL)) := by
    have hnew := heap_alloc_new w1 (.cells #[.slice none 0 0, .slice none 0 0, .slice none 0 0] 70)
    rw [hs1] at hnew
    refine ⟨⟨⟨fun _ => .slice none 0 0, fun j hj => ⟨?_, ?_, 0, 0, RowX.nil _ _, nrm_zero, by omega⟩⟩, hb1.alloc hb1.size _, by rw [show (w1.alloc (.cells #[.slice none 0 0, .slice none 0 0, .slice none 0 0] 70)).heap.size = w1.heap.size + 1 from by simp, hs1]; omega⟩, ?_⟩
    · rw [cell_of_row _ _ _ _ _ _ hnew]
      have : j = 0 ∨ j = 1 ∨ j = 2 := by omega
      rcases this with rfl | rfl | rfl <;> rfl
    · exact frozen_of_row _ _ _ _ _ hnew
    · rw [World.cell?_of_block (w := w1) (a := ⟨w.heap.size, 0, none⟩) (Below.heap_alloc _ _ _ (show w.heap.size < w1.heap.size from by rw [hs1]; omega))]; exact hbox
  go_enter Try.func15, Try.ntmps15
  go_wp2_with fail
  clear hbox hb1
  have Hw1 := hide hs1
  clear hs1
  go_loopw [8] (fun t8 wr => ∃ i : Nat, i ≤ 3 ∧ t8 = .int .i64 i ∧ Hid (ThreeSt w (w.heap.size + 1) most wr ∧ wr.cell? ⟨w.heap.size, 0, none⟩ = some (.slice aL nL cL))) (fun t8 _ => 3 - (intOf t8).toNat)
  case atStart => exact ⟨0, by omega, rfl, HS0⟩
  case round =>
    obtain ⟨i, hi, rfl, HS⟩ := hrel
    have hbx := HS.out.2
    by_cases hlt : i < 3 ∧ i < nL
    · have h1 : (i : Int) < 3 := by omega
      have h2 : (i : Int) < (nL : Int) := by omega
      have h1n : i < 3 := hlt.1
      obtain ⟨g, o, rfl, hg, hrow⟩ := HR.out (by omega)
      obtain ⟨vi, k, N, hc, hr⟩ := hrow i hlt.2
      have hc' : wr.cell? ⟨g, o + i, none⟩ = some vi := by rw [HS.out.1.2.1.cell (p := ⟨g, o + i, none⟩) hg]; exact hc
      have HRow : Hid (RowL wr vi k N) := hr.belowB HS.out.1.2.1
      obtain ⟨ri, hri, hfri, _⟩ : ∃ ri, wr.cell? ⟨w.heap.size + 1, i, none⟩ = some ri ∧ wr.frozen? ⟨w.heap.size + 1, i, none⟩ = false ∧ True := by obtain ⟨R, hR⟩ := HS.out.1.1; exact ⟨R i, (hR i h1n).1, (hR i h1n).2.1, trivial⟩
      have HRI := hide (And.intro hri hfri)
      clear hrow hc hr hlt hri hfri
      go_wp2_with fail
      refine (nat_any vi k N most wr HRow.out hm).mono ?_
      rintro e w2 ⟨r, rfl, n, hrow2, hn2, hm2, hb2⟩
      have hri2 : w2.cell? ⟨w.heap.size + 1, i, none⟩ = some ri := by rw [hb2.cell (p := ⟨w.heap.size + 1, i, none⟩) HS.out.1.2.2]; exact HRI.out.1
      have hfri2 : w2.frozen? ⟨w.heap.size + 1, i, none⟩ = false := by rw [hb2.frozen (p := ⟨w.heap.size + 1, i, none⟩) HS.out.1.2.2]; exact HRI.out.2
      have H3 : Hid (ThreeSt w (w.heap.size + 1) most (w2.setCell ⟨w.heap.size + 1, i, none⟩ r) ∧ (w2.setCell ⟨w.heap.size + 1, i, none⟩ r).cell? ⟨w.heap.size, 0, none⟩ = some (.slice (some ⟨g, o, none⟩) nL cL)) := by
        refine ⟨HS.out.1.next (by omega) hb2 hrow2 hn2 hm2 h1n, ?_⟩
        rw [cell_other _ _ _ _ _ _ (by omega), hb2.cell (p := ⟨w.heap.size, 0, none⟩) (lt_of_cell hbx)]; exact hbx
      obtain ⟨ad2, cap2, rfl⟩ : ∃ ad2 cap2, r = .slice ad2 n cap2 := by obtain ⟨_, _, ad2, cap2, h, _⟩ := hrow2; exact ⟨ad2, cap2, h⟩
      clear hrow2 hn2 hm2 hb2
      go_wp2_with fail
      go_roundw
      case rel => exact ⟨i + 1, by omega, by go_num, H3⟩
      case measure => simp [intOf]; omega
    · have HF : Hid (∃ r0 r1 r2, (wr.cell? ⟨w.heap.size + 1, 0, none⟩ = some r0 ∧ wr.cell? ⟨w.heap.size + 1, 1, none⟩ = some r1 ∧ wr.cell? ⟨w.heap.size + 1, 2, none⟩ = some r2) ∧ (∃ A B C, Num wr r0 A ∧ Num wr r1 B ∧ Num wr r2 C ∧ A < 4294967296 ^ most ∧ B < 4294967296 ^ most ∧ C < 4294967296 ^ most) ∧ Below w.heap.size w wr) := by
        obtain ⟨⟨R, hR⟩, hb, _⟩ := HS.out.1
        obtain ⟨n0, A, a1, a2, a3⟩ := (hR 0 (by omega)).2.2
        obtain ⟨n1, B, b1, b2, b3⟩ := (hR 1 (by omega)).2.2
        obtain ⟨n2, C, c1, c2, c3⟩ := (hR 2 (by omega)).2.2
        exact ⟨R 0, R 1, R 2, ⟨(hR 0 (by omega)).1, (hR 1 (by omega)).1, (hR 2 (by omega)).1⟩, ⟨A, B, C, ⟨n0, a1.row, a2, by omega⟩, ⟨n1, b1.row, b2, by omega⟩, ⟨n2, c1.row, c2, by omega⟩, a2.le_iff.1 a3, b2.le_iff.1 b3, c2.le_iff.1 c3⟩, hb⟩
      obtain ⟨r0, r1, r2, ⟨q0, q1, q2⟩, hABC, hb⟩ := HF.out
      have H3 := hide (And.intro hABC hb)
      clear hABC hb HF HS
      by_cases h3 : i < 3
      all_goals
        first
        | (have hc1 : (i : Int) < 3 := (by omega); have hc2 : ¬ (i : Int) < (nL : Int) := (by omega))
        | (have hc1 : ¬ (i : Int) < 3 := (by omega))
        clear hlt
        go_wp2_with fail
        go_quiet (fail)
        go_wp2_with fail
        go_ret3
        obtain ⟨⟨A, B, C, hA, hB, hC, hr⟩, hb⟩ := H3.out
        exact ⟨r0, r1, r2, rfl, A, B, C, hA.below (below_drewN (Below.refl _ _) nq), hB.below (below_drewN (Below.refl _ _) nq), hC.below (below_drewN (Below.refl _ _) nq), hr.1, hr.2.1, hr.2.2, below_drewN hb nq⟩

end Go.Proofs.Ytfbkdjghbgdgpaa

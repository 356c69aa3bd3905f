/- FloatErrors: sums of signed whole numbers, are two the same. -/
import Derived.Test.YtmkploknoohliaaSA
import Derived.Test.YtmkploknoohliaaRM
import Derived.Test.YtmkploknoohliaaFL
namespace Go.Proofs.Ytmkploknoohliaa
open Go.RowKit
open M
open Flt (V)
set_option linter.unusedVariables false
set_option linter.unusedSimpArgs false

theorem plus_any {B : Nat} (s t : Bool) (v u : Value) (A C : Nat) (w : World) (h : LimB B w v A) (h' : LimB B w u C) (hB : B ≤ 5000) :
    Calls Try.prog 8 #[.agg #[.bool s, v], .agg #[.bool t, u]] w fun e w' => ∃ n r N, e = .returned (.agg #[.bool n, r]) ∧ LimB (B + 1) w' r N ∧ sW n N = sW s A + sW t C ∧ (s = t ∨ C ≤ A → n = s) ∧ Below w.heap.size w w' := by
  by_cases hst : s = t
  · subst hst
    refine (plus_same s v u A C w h h' hB hB).mono ?_
    rintro e w' ⟨r, rfl, hl, hb⟩
    rw [Nat.max_self] at hl
    exact ⟨s, r, A + C, rfl, hl, by unfold sW; cases s <;> simp <;> omega, fun _ => rfl, hb⟩
  · by_cases hc : C ≤ A
    · refine (plus_more s t v u A C w h h' hB hB hst hc).mono ?_
      rintro e w' ⟨r, rfl, hl, hb⟩
      rw [Nat.max_self] at hl
      exact ⟨s, r, A - C, rfl, hl, by unfold sW; cases s <;> cases t <;> simp at hst ⊢ <;> omega, fun _ => rfl, hb⟩
    · refine (plus_less s t v u A C w h h' hB hB hst (by omega)).mono ?_
      rintro e w' ⟨r, rfl, hl, hb⟩
      rw [Nat.max_self] at hl
      exact ⟨t, r, C - A, rfl, hl, by unfold sW; cases s <;> cases t <;> simp at hst ⊢ <;> omega, fun h => by rcases h with h | h; exact absurd h hst; exact absurd h hc, hb⟩

theorem two_boxes (w : World) (s t : Bool) (x1 x2 : Option Addr) (y1 z1 y2 z2 : Nat) (T : TypeId) : ∃ W : World, W = (w.alloc (.cells #[.bool s, .slice x1 y1 z1] T)).alloc (.cells #[.bool t, .slice x2 y2 z2] T) ∧
    W.cell? ⟨w.heap.size, 0, none⟩ = some (.bool s) ∧ W.cell? ⟨w.heap.size, 1, none⟩ = some (.slice x1 y1 z1) ∧ W.cell? ⟨w.heap.size + 1, 0, none⟩ = some (.bool t) ∧ W.cell? ⟨w.heap.size + 1, 1, none⟩ = some (.slice x2 y2 z2) ∧ Below w.heap.size w W := by
  obtain ⟨W1, h1⟩ : ∃ W1, W1 = w.alloc (.cells #[.bool s, .slice x1 y1 z1] T) := ⟨_, rfl⟩
  obtain ⟨W2, h2⟩ : ∃ W2, W2 = W1.alloc (.cells #[.bool t, .slice x2 y2 z2] T) := ⟨_, rfl⟩
  have hz1 : W1.heap.size = w.heap.size + 1 := by rw [h1]; simp
  have b1 : Below W1.heap.size W1 W2 := by rw [h2]; exact (Below.refl _ _).alloc (Nat.le_refl _) _
  have b0 : Below w.heap.size w W1 := by rw [h1]; exact (Below.refl _ _).alloc (Nat.le_refl _) _
  obtain ⟨n0, n1, _⟩ := whole_new w (.bool s) (.slice x1 y1 z1) T
  obtain ⟨m0, m1, _⟩ := whole_new W1 (.bool t) (.slice x2 y2 z2) T
  rw [← h1] at n0 n1
  rw [← h2] at m0 m1
  rw [hz1] at m0 m1
  have u0 : ∀ o, W2.cell? ⟨w.heap.size, o, none⟩ = W1.cell? ⟨w.heap.size, o, none⟩ := fun o => b1.cell (p := ⟨w.heap.size, o, none⟩) (by rw [hz1]; show w.heap.size < _; omega)
  exact ⟨W2, by rw [h2, h1], by rw [u0]; exact n0, by rw [u0]; exact n1, m0, m1, b0.trans (b1.mono (by omega))⟩

set_option maxRecDepth 100000 in
set_option maxHeartbeats 2000000 in
theorem eqWhole_true {B : Nat} (s t : Bool) (v u : Value) (A C : Nat) (w : World) (h : LimB B w v A) (h' : LimB B w u C) (he : sW s A = sW t C) :
    Calls Try.prog 7 #[.agg #[.bool s, v], .agg #[.bool t, u]] w fun e w' => e = .returned (.bool true) ∧ Below w.heap.size w w' := by
  have hAC : A = C := by unfold sW at he; cases s <;> cases t <;> simp at he <;> omega
  subst hAC
  have hz : s = t ∨ A = 0 := by unfold sW at he; cases s <;> cases t <;> simp at he ⊢ <;> omega
  clear he
  obtain ⟨k, hr, hn, hk⟩ := h
  have hk0 : A = 0 → k = 0 := fun e => hn.zero_iff.2 e
  have hkb := hr.2.1
  obtain ⟨a1, k1, p1, e1⟩ := LimB.slice (⟨k, hr, hn, hk⟩ : LimB B w v A)
  have hkk : k1 = k := by
    obtain ⟨_, _, ad, cap, hv, _⟩ := hr
    rw [e1] at hv; injection hv
  subst hkk
  have h : LimB B w v A := ⟨k1, hr, hn, hk⟩
  subst e1
  obtain ⟨a2, k2, p2, rfl⟩ := h'.slice
  have HE : Hid (∀ w1 : World, LimB B w1 (.slice a1 k1 p1) A → LimB B w1 (.slice a2 k2 p2) A → Calls Try.prog 14 #[.slice a1 k1 p1, .slice a2 k2 p2] w1 fun e w' => e = .returned (.bool true) ∧ Below w1.heap.size w1 w') := fun w1 q1 q2 => lEq q1 q2
  obtain ⟨W, hW, c00, c01, c10, c11, hbel⟩ := two_boxes w s t a1 a2 k1 p1 k2 p2 32
  have HB := fhide (And.intro hbel (And.intro (h.below hbel) (h'.below hbel)))
  have H0 := fhide (And.intro hk0 hz)
  clear h h' hr hn hk hk0 hz hbel
  go_enter Try.func7, Try.ntmps7
  go_wp2_with fail
  rw [← hW]
  refine (HE.out _ HB.out.2.1 HB.out.2.2).mono ?_
  rintro e W2 ⟨rfl, hb2⟩
  have c00 : W2.cell? ⟨w.heap.size, 0, none⟩ = some (.bool s) := by rw [hb2.cell (p := ⟨w.heap.size, 0, none⟩) (block_lt_of_cell c00)]; exact c00
  have c01 : W2.cell? ⟨w.heap.size, 1, none⟩ = some (.slice a1 k1 p1) := by rw [hb2.cell (p := ⟨w.heap.size, 1, none⟩) (block_lt_of_cell c01)]; exact c01
  have c10 : W2.cell? ⟨w.heap.size + 1, 0, none⟩ = some (.bool t) := by rw [hb2.cell (p := ⟨w.heap.size + 1, 0, none⟩) (block_lt_of_cell c10)]; exact c10
  have HJ := fhide (HB.out.1.trans (hb2.mono HB.out.1.size))
  clear hb2 hW c11 HB
  by_cases hs : s = t
  · have hst : (s == t) = true := by rw [hs]; cases t <;> rfl
    clear hs
    go_wp2_with (simp only [hst])
    go_ret
    exact ⟨rfl, HJ.out⟩
  · have hst : (s == t) = false := by cases s <;> cases t <;> first | rfl | exact absurd rfl hs
    have hk : k1 = 0 := H0.out.1 (H0.out.2.resolve_left hs)
    subst hk
    clear hs
    go_wp2_with (simp only [hst])
    go_ret
    exact ⟨rfl, HJ.out⟩
end Go.Proofs.Ytmkploknoohliaa

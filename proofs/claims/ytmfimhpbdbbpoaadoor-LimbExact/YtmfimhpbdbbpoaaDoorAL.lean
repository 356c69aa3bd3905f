/- grow: times a limb, and a limb more, in place; a limb on top where it is needed. -/
import Derived.Test.YtmfimhpbdbbpoaaDoorS
namespace Go.Proofs.YtmfimhpbdbbpoaaDoor
open Go.RowKit
open M
set_option linter.unusedVariables false
set_option linter.unusedSimpArgs false

/-- What comes over behind i limbs. -/
def growC (N t m i : Nat) : Nat := (N % 4294967296 ^ i * t + m) / 4294967296 ^ i

theorem growC_zero (N t m : Nat) : growC N t m 0 = m := by simp [growC, Nat.mod_one]

theorem growC_le (N t m i : Nat) (ht : t < 4294967296) (hm : m < 4294967296) : growC N t m i ≤ 4294967295 := by
  rcases i with _ | i
  · rw [growC_zero]; omega
  · unfold growC
    have h1 := mod_lt N (i + 1)
    have h2 : N % 4294967296 ^ (i + 1) * t ≤ N % 4294967296 ^ (i + 1) * 4294967295 := Nat.mul_le_mul_left _ (by omega)
    have h3 := pw_pos i
    have h4 := pw_succ i
    have : (N % 4294967296 ^ (i + 1) * t + m) / 4294967296 ^ (i + 1) < 4294967296 := by
      rw [Nat.div_lt_iff_lt_mul (pw_pos _)]; omega
    omega

theorem grow_step (N t m i : Nat) : (growC N t m i + dg N i * t) % 4294967296 = dg (N * t + m) i ∧ (growC N t m i + dg N i * t) / 4294967296 = growC N t m (i + 1) := by
  have e : growC N t m i + dg N i * t = (N % 4294967296 ^ (i + 1) * t + m) / 4294967296 ^ i := by
    unfold growC
    rw [← carry_div, mod_succ, Nat.add_mul, Nat.mul_assoc]
    congr 1; omega
  constructor
  · rw [e]
    refine dg_of_mod (X := N % 4294967296 ^ (i + 1) * t + m) ?_
    rw [Nat.add_mod, Nat.mul_mod, Nat.mod_mod, ← Nat.mul_mod, ← Nat.add_mod]
  · rw [e, carry_next]; rfl

theorem growC_all {N t m k : Nat} (hN : N < 4294967296 ^ k) : growC N t m k = (N * t + m) / 4294967296 ^ k := by
  unfold growC; rw [mod_self hN]

/-- A block of cells, so many. -/
def Shape (w : World) (g cap : Nat) : Prop := ∃ cur, w.heap[g]? = some (.cells cur 24 (0, 0)) ∧ cur.size = cap

theorem Shape.setCell {w : World} {g cap : Nat} (h : Shape w g cap) (i : Nat) (v : Value) : Shape (w.setCell ⟨g, i, none⟩ v) g cap := by
  obtain ⟨cur, h1, h2⟩ := h
  refine ⟨cur.setIfInBounds i v, ?_, by simp [h2]⟩
  simp [World.setCell, Array.getElem?_modify, h1]

theorem Shape.owns {w : World} {g cap base k X : Nat} (h : Shape w g cap) (hb : base ≤ g) (hk : k ≤ cap) (hc : cap ≤ maxLen) (hcell : ∀ j, j < k → w.cell? ⟨g, 0 + j, none⟩ = some (.int .u32 (dg X j : Nat))) :
    w.ownsRow base 24 1 (.slice (some ⟨g, 0, none⟩) k cap) k (limbsV k X) := by
  obtain ⟨cur, h1, h2⟩ := h
  refine ⟨by simp [limbsV], .inr ⟨g, cap, cur, rfl, hb, h1, hk, hc, by rw [h2, Nat.mul_one], ?_⟩⟩
  rw [Nat.mul_one]
  refine List.ext_getElem? fun j => ?_
  rw [List.getElem?_take]
  split
  · rename_i hj
    have := hcell j hj
    rw [Nat.zero_add, cell_of_row w g j cur _ (0, 0) h1] at this
    rw [limbsV_get k X j hj, ← this]; simp
  · rename_i hj
    rw [List.getElem?_eq_none (by simp [limbsV]; omega)]

/-- Behind i limbs of grow. -/
structure GrowSt (w : World) (base : Nat) (ad : Option Addr) (k cap N X i : Nat) (wr : World) : Prop where
  below : Below base w wr
  some : 0 < k → ∃ g, ad = some ⟨g, 0, none⟩ ∧ base ≤ g ∧ Mid wr g 0 k i N X ∧ Shape wr g cap ∧ k ≤ cap ∧ cap ≤ maxLen
  none : k = 0 → wr.ownsRow base 24 1 (.slice ad k cap) k (limbsV k X)

theorem GrowSt.start {w : World} {base : Nat} {ad : Option Addr} {k cap N : Nat} (h : w.ownsRow base 24 1 (.slice ad k cap) k (limbsV k N)) (X : Nat) : GrowSt w base ad k cap N X 0 w := by
  refine ⟨Below.refl _ _, fun hk => ?_, fun hk => ?_⟩
  · rcases h.2 with ⟨h1, h2⟩ | ⟨g, cap', cur, h1, hb, hg, hc, hm, hs, ht⟩
    · omega
    · cases h1
      refine ⟨g, rfl, hb, ⟨fun j hj => by omega, fun j _ hj => ?_, fun j _ => frozen_of_row w g _ _ _ hg⟩, ⟨cur, hg, by omega⟩, hc, hm⟩
      rw [Nat.zero_add, cell_of_row w g j cur _ (0, 0) hg, ← limbsV_get k N j hj, ← ht, List.getElem?_take, if_pos (by omega)]
      simp
  · subst hk; exact h

theorem GrowSt.done {w wr : World} {base : Nat} {ad : Option Addr} {k cap N X : Nat} (h : GrowSt w base ad k cap N X k wr) : wr.ownsRow base 24 1 (.slice ad k cap) k (limbsV k X) := by
  rcases Nat.eq_zero_or_pos k with hk | hk
  · exact h.none hk
  · obtain ⟨g, rfl, hb, hM, hs, h1, h2⟩ := h.some hk
    exact hs.owns hb h1 h2 fun j hj => hM.lo j hj

theorem GrowSt.step {w wr : World} {base g : Nat} {k cap N X i : Nat} (h : GrowSt w base (.some ⟨g, 0, .none⟩) k cap N X i wr) (hi : i < k) (hw : base ≤ w.heap.size) (y : Int) (hy : y = (dg X i : Nat)) :
    GrowSt w base (.some ⟨g, 0, .none⟩) k cap N X (i + 1) (wr.setCell ⟨g, i, .none⟩ (.int .u32 y)) := by
  obtain ⟨g', e, hb, hM, hs, h1, h2⟩ := h.some (by omega)
  simp only [Option.some.injEq, Addr.mk.injEq, and_true] at e
  subst e
  have e0 : i = 0 + i := by omega
  rw [e0]
  have e1 : 0 + i + 1 = i + 1 := by omega
  rw [e1]
  refine ⟨h.below.trans ((Only.refl g 0 k _).setCell (0 + i) (by omega) (by omega) _ |>.below hb (Nat.le_trans hw h.below.size)), fun _ => ⟨g, rfl, hb, hM.step hi y hy, hs.setCell _ _, h1, h2⟩, fun h => by omega⟩

theorem grow_nrm {k N t m : Nat} (hn : Nrm k N) (ht : 1 ≤ t) (h : N * t + m < 4294967296 ^ k) : Nrm k (N * t + m) := by
  refine ⟨h, hn.2.imp id fun h => ?_⟩
  have : N * 1 ≤ N * t := Nat.mul_le_mul_left _ ht
  omega


end Go.Proofs.YtmfimhpbdbbpoaaDoor

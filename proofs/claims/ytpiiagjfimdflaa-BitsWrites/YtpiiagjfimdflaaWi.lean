/- The law's Book: Bytes. -/
import Derived.Test.YtpiiagjfimdflaaWh
namespace Go.Proofs.Ytpiiagjfimdflaa
open Go.RowKit
open M
set_option linter.unusedVariables false

theorem BookNil.set {w : World} {NB : Nat} (h : BookNil w NB) (i : Nat) (v : Value) (hi : i < 3 ∨ 69 ≤ i) : BookNil (w.setCell ⟨NB, i, none⟩ v) NB :=
  ⟨fun j h1 h2 h3 => by rw [cell_setCell_ne _ _ _ _ _ (by omega)]; exact h.nils j h1 h2 h3, fun j h1 h2 h3 => by rw [cell_setCell_ne _ _ _ _ _ (by omega)]; exact h.ats j h1 h2 h3, fun j hj => by rw [frozen_setCell]; exact h.fz j hj⟩

theorem row_ge {w : World} {base : Nat} {t : TypeId} {v : Value} {n : Nat} {xs : List Value} (h : w.ownsRow base t 1 v n xs) {g : Nat} (hg : v.ownBlock = some g) : base ≤ g ∧ g < w.heap.size := h.lt g hg

theorem ownsRow_setOther {w : World} {base : Nat} {t : TypeId} {v : Value} {n : Nat} {xs : List Value} (h : w.ownsRow base t 1 v n xs) (b i : Nat) (x : Value) (hb : b < base) : (w.setCell ⟨b, i, none⟩ x).ownsRow base t 1 v n xs :=
  ownsRow_keep h (fun g hg => Below.heap_setCell _ _ _ _ (by show g ≠ b; have := (h.lt g hg).1; omega))

/-- One number of the Book's own is set. -/
theorem BookSt.setT {w : World} {NB base : Nat} {rb ro : Option Nat} {E : List Ent} {A T D U : Nat} (h : BookSt w NB base rb ro E A T D U) (T' : Nat) (hT : D ≤ T') : BookSt (w.setCell ⟨NB, 69, none⟩ (.int .i64 T')) NB base rb ro E A T' D U := by
  obtain ⟨vb, b1, b2, b3⟩ := h.rows
  obtain ⟨vo, o1, o2, o3⟩ := h.marks
  have hb := h.le.2.2.2.1
  have ne : ∀ j v, j ≠ 69 → w.cell? ⟨NB, j, none⟩ = some v → (w.setCell ⟨NB, 69, none⟩ (.int .i64 T')).cell? ⟨NB, j, none⟩ = some v := fun j v hj hc => by rw [cell_setCell_ne _ _ _ _ _ hj]; exact hc
  exact ⟨h.nil.set 69 _ (by omega), ⟨vb, ne _ _ (by omega) b1, ownsRow_setOther b2 _ _ _ hb, b3⟩, ⟨vo, ne _ _ (by omega) o1, ownsRow_setOther o2 _ _ _ hb, o3⟩, ne _ _ (by omega) h.at_, cell_setCell_eq _ _ _ _ _ h.turn, ne _ _ (by omega) h.done, ne _ _ (by omega) h.used,
    fun e he => ⟨ownsRow_setOther (h.ok e he).1 _ _ _ hb, (h.ok e he).2⟩, h.le.1, hT, h.le.2.2⟩

theorem BookSt.setU {w : World} {NB base : Nat} {rb ro : Option Nat} {E : List Ent} {A T D U : Nat} (h : BookSt w NB base rb ro E A T D U) (U' : Nat) (hU : U' ≤ 16777216) : BookSt (w.setCell ⟨NB, 71, none⟩ (.int .i64 U')) NB base rb ro E A T D U' := by
  obtain ⟨vb, b1, b2, b3⟩ := h.rows
  obtain ⟨vo, o1, o2, o3⟩ := h.marks
  have hb := h.le.2.2.2.1
  have ne : ∀ j v, j ≠ 71 → w.cell? ⟨NB, j, none⟩ = some v → (w.setCell ⟨NB, 71, none⟩ (.int .i64 U')).cell? ⟨NB, j, none⟩ = some v := fun j v hj hc => by rw [cell_setCell_ne _ _ _ _ _ hj]; exact hc
  exact ⟨h.nil.set 71 _ (by omega), ⟨vb, ne _ _ (by omega) b1, ownsRow_setOther b2 _ _ _ hb, b3⟩, ⟨vo, ne _ _ (by omega) o1, ownsRow_setOther o2 _ _ _ hb, o3⟩, ne _ _ (by omega) h.at_, ne _ _ (by omega) h.turn, ne _ _ (by omega) h.done, cell_setCell_eq _ _ _ _ _ h.used,
    fun e he => ⟨ownsRow_setOther (h.ok e he).1 _ _ _ hb, (h.ok e he).2⟩, h.le.1, h.le.2.1, hU, h.le.2.2.2⟩

/-- A list is added: both rows have grown. -/
theorem BookSt.add {wC wD wE wF wG : World} {NB base : Nat} {rb ro : Option Nat} {E : List Ent} {A T D U : Nat} (h : BookSt wC NB base rb ro E A T D U) (e : Ent) (he : EOk wC base e) {vb' vo' : Value} {c1 c2 : Obj}
    (o1 : wD.ownsRow base 29 1 vb' (E.length + 1) (E.map Ent.v ++ [e.v])) (g1 : (wC.alloc c1).grownBy wD rb) (a1 : rb = vb'.ownBlock ∨ vb'.ownBlock = some (wC.heap.size + 1)) (hE : wE = wD.setCell ⟨NB, 0, none⟩ vb')
    (o2 : wF.ownsRow base 3 1 vo' (E.length + 1) ((E.map fun e => Value.int .i64 (e.m : Int)) ++ [.int .i64 (e.m : Int)])) (g2 : (wE.alloc c2).grownBy wF ro) (a2 : ro = vo'.ownBlock ∨ vo'.ownBlock = some (wE.heap.size + 1)) (hG : wG = wF.setCell ⟨NB, 1, none⟩ vo') :
    BookSt wG NB base vb'.ownBlock vo'.ownBlock (E ++ [e]) A T D U ∧ RowStep wC rb vb'.ownBlock ∧ RowStep wC ro vo'.ownBlock ∧ Chg (fun k => k = NB ∨ rb = some k ∨ ro = some k) wC wG := by
  obtain ⟨vb, b1, b2, b3⟩ := h.rows
  obtain ⟨vo, q1, q2, q3⟩ := h.marks
  have hb := h.le.2.2.2.1
  have hNB : NB < wC.heap.size := block_lt_of_cell b1
  have hA := h.le.1
  have nrb : rb ≠ some NB := fun hh => by have := (row_ge b2 (b3.trans hh)).1; omega
  have nro : ro ≠ some NB := fun hh => by have := (row_ge q2 (q3.trans hh)).1; omega
  have C1 : Chg (fun k => rb = some k) wC wD := (Chg.below ((Below.refl _ _).alloc (Nat.le_refl _) _)).trans' (Chg.grown g1 fun g hg => hg)
  have C2 : Chg (fun k => k = NB) wD wE := by rw [hE]; exact Chg.set _ _ _ _ rfl
  have C3 : Chg (fun k => ro = some k) wE wF := (Chg.below ((Below.refl _ _).alloc (Nat.le_refl _) _)).trans' (Chg.grown g2 fun g hg => hg)
  have C4 : Chg (fun k => k = NB) wF wG := by rw [hG]; exact Chg.set _ _ _ _ rfl
  have zD : wC.heap.size ≤ wD.heap.size := C1.size
  -- the row of numbers behind the first append
  have q2D : wD.ownsRow base 3 1 vo E.length (E.map fun e => Value.int .i64 (e.m : Int)) := ownsRow_chg q2 C1 (fun g hg hh => rows_ne q2 b2 (by decide) hg (b3.trans hh))
  have q2E : wE.ownsRow base 3 1 vo E.length (E.map fun e => Value.int .i64 (e.m : Int)) := ownsRow_chg q2D C2 (fun g hg hh => by have := (row_ge q2D hg).1; omega)
  have o1E : wE.ownsRow base 29 1 vb' (E.length + 1) (E.map Ent.v ++ [e.v]) := ownsRow_chg o1 C2 (fun g hg hh => by have := (row_ge o1 hg).1; omega)
  have o1F : wF.ownsRow base 29 1 vb' (E.length + 1) (E.map Ent.v ++ [e.v]) := ownsRow_chg o1E C3 (fun g hg hh => rows_ne o1E q2E (by decide) hg (q3.trans hh))
  have o1G : wG.ownsRow base 29 1 vb' (E.length + 1) (E.map Ent.v ++ [e.v]) := ownsRow_chg o1F C4 (fun g hg hh => by have := (row_ge o1F hg).1; omega)
  have o2G : wG.ownsRow base 3 1 vo' (E.length + 1) ((E.map fun e => Value.int .i64 (e.m : Int)) ++ [.int .i64 (e.m : Int)]) := ownsRow_chg o2 C4 (fun g hg hh => by have := (row_ge o2 hg).1; omega)
  have ent : ∀ e', EOk wC base e' → EOk wG base e' := fun e' ⟨k1, k2, k3⟩ => by
    have r1 := ownsRow_chg k1 C1 (fun g hg hh => rows_ne k1 b2 (by decide) hg (b3.trans hh))
    have r2 := ownsRow_chg r1 C2 (fun g hg hh => by have := (row_ge r1 hg).1; omega)
    have r3 := ownsRow_chg r2 C3 (fun g hg hh => rows_ne r2 q2E (by decide) hg (q3.trans hh))
    exact ⟨ownsRow_chg r3 C4 (fun g hg hh => by have := (row_ge r3 hg).1; omega), k2, k3⟩
  have cNB : ∀ j v, j ≠ 0 → j ≠ 1 → wC.cell? ⟨NB, j, none⟩ = some v → wG.cell? ⟨NB, j, none⟩ = some v := fun j v h0 h1 hc => by
    have r1 := cell_chg hc C1 nrb
    have r2 : wE.cell? ⟨NB, j, none⟩ = some v := by rw [hE, cell_setCell_ne _ _ _ _ _ h0]; exact r1
    have r3 := cell_chg r2 C3 nro
    rw [hG, cell_setCell_ne _ _ _ _ _ h1]; exact r3
  have fNB : ∀ j, wG.frozen? ⟨NB, j, none⟩ = wC.frozen? ⟨NB, j, none⟩ := fun j => by
    have r1 : wD.frozen? ⟨NB, j, none⟩ = wC.frozen? ⟨NB, j, none⟩ := World.frozen?_of_block (w := wC) (C1.block NB hNB nrb)
    have r2 : wE.frozen? ⟨NB, j, none⟩ = wD.frozen? ⟨NB, j, none⟩ := by rw [hE, frozen_setCell]
    have r3 : wF.frozen? ⟨NB, j, none⟩ = wE.frozen? ⟨NB, j, none⟩ := World.frozen?_of_block (w := wE) (C3.block NB (by have := C2.size; omega) nro)
    rw [hG, frozen_setCell, r3, r2, r1]
  have cb : wG.cell? ⟨NB, 0, none⟩ = some vb' := by
    have r1 : wE.cell? ⟨NB, 0, none⟩ = some vb' := by rw [hE]; exact cell_setCell_eq _ _ _ _ _ (cell_chg b1 C1 nrb)
    rw [hG, cell_setCell_ne _ _ _ _ _ (by omega)]; exact cell_chg r1 C3 nro
  have co : wG.cell? ⟨NB, 1, none⟩ = some vo' := by
    have r0 := cell_chg q1 C1 nrb
    have r1 : wE.cell? ⟨NB, 1, none⟩ = some vo := by rw [hE, cell_setCell_ne _ _ _ _ _ (by omega)]; exact r0
    rw [hG]; exact cell_setCell_eq _ _ _ _ _ (cell_chg r1 C3 nro)
  refine ⟨⟨⟨fun j h1 h2 h3 => cNB j _ (by omega) (by omega) (h.nil.nils j h1 h2 h3), fun j h1 h2 h3 => cNB j _ (by omega) (by omega) (h.nil.ats j h1 h2 h3), fun j hj => (fNB j).trans (h.nil.fz j hj)⟩,
    ⟨vb', cb, by simpa using o1G, rfl⟩, ⟨vo', co, by simpa using o2G, rfl⟩, cNB _ _ (by omega) (by omega) h.at_, cNB _ _ (by omega) (by omega) h.turn, cNB _ _ (by omega) (by omega) h.done, cNB _ _ (by omega) (by omega) h.used, fun e' he' => ?_, by simp; omega, h.le.2.1, h.le.2.2.1, h.le.2.2.2.1, fun h0 => by simp at h0⟩, ?_, ?_, ?_⟩
  · simp only [List.mem_append, List.mem_singleton] at he'
    rcases he' with he' | rfl
    · exact ent e' (h.ok e' he')
    · exact ent e' he
  · rcases a1 with a1 | a1
    · exact .inl a1.symm
    · exact .inr ⟨_, a1, by omega⟩
  · rcases a2 with a2 | a2
    · exact .inl a2.symm
    · exact .inr ⟨_, a2, by have := C2.size; omega⟩
  · exact (((C1.mono fun k _ hk => .inr (.inl hk)).trans' (C2.mono fun k _ hk => .inl hk)).trans' (C3.mono fun k _ hk => .inr (.inr hk))).trans' (C4.mono fun k _ hk => .inl hk)

end Go.Proofs.Ytpiiagjfimdflaa

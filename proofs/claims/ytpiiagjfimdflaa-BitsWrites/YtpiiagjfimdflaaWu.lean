/- BitsWrites: the steps from state to state. -/
import Derived.Test.YtpiiagjfimdflaaWt
namespace Go.Proofs.Ytpiiagjfimdflaa
open Go.RowKit
open M
set_option linter.unusedVariables false

structure MS (w : World) (i : Nat) (l0 l1 : List Bool) (e0 e1 : Int) (r0 r1 rb ro : Option Nat) (E : List Ent) (A T D U : Nat) (rg rw_ : Option Nat) (G : List Got) (wr : World) : Prop where
  w0 : Wr wr (w.heap.size + 4) w.heap.size 0 l0 e0
  w1 : Wr wr (w.heap.size + 4) w.heap.size 123 l1 e1
  v0 : Rw wr (w.heap.size + 1) 0 r0 l0 e0
  v1 : Rw wr (w.heap.size + 1) 2 r1 l1 e1
  n0 : l0.length ≤ 80 * i
  n1 : l1.length ≤ 80 * i
  q0 : ∀ k, r0 = some k → w.heap.size + 4 ≤ k ∧ r1 ≠ some k
  q1 : ∀ k, r1 = some k → w.heap.size + 4 ≤ k
  k : KSt wr (w.heap.size + 2) (w.heap.size + 3) (w.heap.size + 4) rb ro E A T D U rg rw_ G
  sep : ∀ j, DB E G j → r0 ≠ some j ∧ r1 ≠ some j
  below : Below w.heap.size w wr

def MSt (w : World) (i c : Nat) (wr : World) : Prop := ∃ l0 l1 e0 e1 r0 r1 rb ro E A T D U rg rw_ G, MS w i l0 l1 e0 e1 r0 r1 rb ro E A T D U rg rw_ G wr ∧ T + G.length ≤ c

theorem KSt.dbge {w : World} {NB NL base : Nat} {rb ro : Option Nat} {E : List Ent} {A T D U : Nat} {rg rw_ : Option Nat} {G : List Got} (h : KSt w NB NL base rb ro E A T D U rg rw_ G) {k : Nat} (hk : DB E G k) : base ≤ k ∧ k < w.heap.size := by
  rcases hk with ⟨e, he, hk⟩ | ⟨g, hg, hk | hk⟩
  · exact (h.book.ok e he).1.lt k hk
  · exact (h.late.ok g hg).got.lt k hk
  · obtain ⟨b, cap, k1, k2, k3, _⟩ := (h.late.ok g hg).want
    rw [k1] at hk; simp only [Value.ownBlock, Option.some.injEq] at hk; subst hk; exact ⟨k2, k3⟩

theorem KSt.kbge {w : World} {NB NL base : Nat} {rb ro : Option Nat} {E : List Ent} {A T D U : Nat} {rg rw_ : Option Nat} {G : List Got} (h : KSt w NB NL base rb ro E A T D U rg rw_ G) {k : Nat} (hk : KB NB NL rb ro rg rw_ E G k) : k = NB ∨ k = NL ∨ (base ≤ k ∧ k < w.heap.size) := by
  obtain ⟨vb, x1, x2, x3⟩ := h.book.rows
  obtain ⟨vo, y1, y2, y3⟩ := h.book.marks
  obtain ⟨vg, z1, z2, z3⟩ := h.late.gots
  obtain ⟨vw, t1, t2, t3⟩ := h.late.wants
  rcases hk with hk | hk | hk | hk | hk | hk | hk
  · exact .inl hk
  · exact .inr (.inl hk)
  · exact .inr (.inr (x2.lt k (x3.trans hk)))
  · exact .inr (.inr (y2.lt k (y3.trans hk)))
  · exact .inr (.inr (z2.lt k (z3.trans hk)))
  · exact .inr (.inr (t2.lt k (t3.trans hk)))
  · exact .inr (.inr (h.dbge hk))

/-- A row of the document's lies apart from all the Book's and the Late's. -/
theorem KSt.rowApart {w : World} {NB NL base : Nat} {rb ro : Option Nat} {E : List Ent} {A T D U : Nat} {rg rw_ : Option Nat} {G : List Got} (h : KSt w NB NL base rb ro E A T D U rg rw_ G) {c o : Nat} {r : Option Nat} {l : List Bool} {e : Int} (hR : Rw w c o r l e) (hNB : NB < base) (hr : ∀ k, r = some k → base ≤ k) (hs : ∀ j, DB E G j → r ≠ some j) {k : Nat} (hk : KB NB NL rb ro rg rw_ E G k) : r ≠ some k := by
  intro hh
  obtain ⟨vb, x1, x2, x3⟩ := h.book.rows
  obtain ⟨vo, y1, y2, y3⟩ := h.book.marks
  obtain ⟨vg, z1, z2, z3⟩ := h.late.gots
  obtain ⟨vw, t1, t2, t3⟩ := h.late.wants
  have hg := hr k hh
  have hNL := h.late.lt
  rcases hk with hk | hk | hk | hk | hk | hk | hk
  · omega
  · omega
  · exact hR.apartRow hh x2 (by decide) (x3.trans hk)
  · exact hR.apartRow hh y2 (by decide) (y3.trans hk)
  · exact hR.apartRow hh z2 (by decide) (z3.trans hk)
  · exact hR.apartRow hh t2 (by decide) (t3.trans hk)
  · exact hs k hk hh

theorem chg_of_onlyR {c lo hi : Nat} {r : Option Nat} {w w' : World} (h : OnlyR c lo hi r w w') : Chg (fun k => k = c ∨ r = some k) w w' :=
  ⟨h.os, h.tape, h.output, h.size, fun k hk hn => h.block k hk (fun e => hn (.inl e)) (fun e => hn (.inr e.symm))⟩

theorem Chg.belowN {S : Nat → Prop} {w w' : World} (h : Chg S w w') (N : Nat) (hN : N ≤ w.heap.size) (hs : ∀ k, k < N → ¬ S k) : Below N w w' := ⟨h.os, h.tape, h.output, h.size, fun k hk => h.block k (by omega) (hs k hk)⟩

theorem MS.lay0 {w wr w' : World} {i : Nat} {l0 l1 l' : List Bool} {e0 e1 e' : Int} {r0 r1 rb ro : Option Nat} {E : List Ent} {A T D U : Nat} {rg rw_ : Option Nat} {G : List Got} (h : MS w i l0 l1 e0 e1 r0 r1 rb ro E A T D U rg rw_ G wr) (hP : LayPost (w.heap.size + 4) w.heap.size 0 (w.heap.size + 1) 0 r0 l' l' e' e' wr w') (hl : l'.length ≤ l0.length + 80) :
    ∃ r', MS w (i + 1) l' l1 e' e1 r' r1 rb ro E A T D U rg rw_ G w' := by
  obtain ⟨w1, r', O1, O2, s, W', R'⟩ := hP
  have hz1 := O1.size
  have hz2 := O2.size
  have C : Chg (fun k => k = w.heap.size ∨ k = w.heap.size + 1 ∨ r0 = some k) wr w' := (Chg.only (S := fun k => k = w.heap.size ∨ k = w.heap.size + 1 ∨ r0 = some k) O1 (.inl rfl)).trans' ((chg_of_onlyR O2).mono fun k _ hk => .inr hk)
  have hR1 : Rw w1 (w.heap.size + 1) 0 r0 l0 e0 := h.v0.other O1 (by omega) (fun hh => by have := (h.q0 _ hh).1; omega)
  have hr1lt : ∀ k, r1 = some k → k < wr.heap.size := fun k hk => (h.v1.apart k hk).2
  refine ⟨r', W', ?_, R', ?_, by have := h.n0; omega, by have := h.n1; omega, fun k hk => ?_, h.q1, h.k.chg C (fun k hk hS => ?_), fun j hj => ⟨fun hh => ?_, (h.sep j hj).2⟩, ?_⟩
  · exact (h.w1.side O1 (by omega) (by omega)).ref hR1 O2 (by omega) (fun hh => by have := (h.q0 _ hh).1; omega) (by omega)
  · exact (h.v1.other O1 (by omega) (fun hh => by have := h.q1 _ hh; omega)).side O2 (by omega) (fun k hk hh => (h.q0 k hh).2 hk)
  · rcases s with s | ⟨g, s, hg⟩
    · exact h.q0 k (s ▸ hk)
    · rw [s] at hk; simp only [Option.some.injEq] at hk; subst hk
      exact ⟨by have := h.k.base_; omega, fun hh => by have := hr1lt _ hh; omega⟩
  · rcases hS with hS | hS | hS
    · rcases h.k.kbge hk with h9 | h9 | h9 <;> omega
    · rcases h.k.kbge hk with h9 | h9 | h9 <;> omega
    · exact h.k.rowApart h.v0 (by omega) (fun k hk => (h.q0 k hk).1) (fun j hj => (h.sep j hj).1) hk hS
  · rcases s with s | ⟨g, s, hg⟩
    · exact (h.sep j hj).1 (s ▸ hh)
    · rw [s] at hh; simp only [Option.some.injEq] at hh; subst hh
      have := (h.k.dbge hj).2; omega
  · exact h.below.trans (C.belowN _ h.below.size (fun k hk hh => by
      rcases hh with hh | hh | hh
      · omega
      · omega
      · have := (h.q0 k hh).1; omega))

theorem MS.lay1 {w wr w' : World} {i : Nat} {l0 l1 l' : List Bool} {e0 e1 e' : Int} {r0 r1 rb ro : Option Nat} {E : List Ent} {A T D U : Nat} {rg rw_ : Option Nat} {G : List Got} (h : MS w i l0 l1 e0 e1 r0 r1 rb ro E A T D U rg rw_ G wr) (hP : LayPost (w.heap.size + 4) w.heap.size 123 (w.heap.size + 1) 2 r1 l' l' e' e' wr w') (hl : l'.length ≤ l1.length + 80) :
    ∃ r', MS w (i + 1) l0 l' e0 e' r0 r' rb ro E A T D U rg rw_ G w' := by
  obtain ⟨w1, r', O1, O2, s, W', R'⟩ := hP
  have hz1 := O1.size
  have hz2 := O2.size
  have C : Chg (fun k => k = w.heap.size ∨ k = w.heap.size + 1 ∨ r1 = some k) wr w' := (Chg.only (S := fun k => k = w.heap.size ∨ k = w.heap.size + 1 ∨ r1 = some k) O1 (.inl rfl)).trans' ((chg_of_onlyR O2).mono fun k _ hk => .inr hk)
  have hR1 : Rw w1 (w.heap.size + 1) 2 r1 l1 e1 := h.v1.other O1 (by omega) (fun hh => by have := h.q1 _ hh; omega)
  have hr0lt : ∀ k, r0 = some k → k < wr.heap.size := fun k hk => (h.v0.apart k hk).2
  refine ⟨r', ?_, W', ?_, R', by have := h.n0; omega, by have := h.n1; omega, fun k hk => ⟨(h.q0 k hk).1, fun hh => ?_⟩, fun k hk => ?_, h.k.chg C (fun k hk hS => ?_), fun j hj => ⟨(h.sep j hj).1, fun hh => ?_⟩, ?_⟩
  · exact (h.w0.side O1 (by omega) (by omega)).ref hR1 O2 (by omega) (fun hh => by have := h.q1 _ hh; omega) (by omega)
  · exact (h.v0.other O1 (by omega) (fun hh => by have := (h.q0 _ hh).1; omega)).side O2 (by omega) (fun k hk hh => (h.q0 k hk).2 hh)
  · rcases s with s | ⟨g, s, hg⟩
    · exact (h.q0 k hk).2 (s ▸ hh)
    · rw [s] at hh; simp only [Option.some.injEq] at hh; subst hh
      have := hr0lt _ hk; omega
  · rcases s with s | ⟨g, s, hg⟩
    · exact h.q1 k (s ▸ hk)
    · rw [s] at hk; simp only [Option.some.injEq] at hk; subst hk
      have := h.k.base_; omega
  · rcases hS with hS | hS | hS
    · rcases h.k.kbge hk with h9 | h9 | h9 <;> omega
    · rcases h.k.kbge hk with h9 | h9 | h9 <;> omega
    · exact h.k.rowApart h.v1 (by omega) h.q1 (fun j hj => (h.sep j hj).2) hk hS
  · rcases s with s | ⟨g, s, hg⟩
    · exact (h.sep j hj).2 (s ▸ hh)
    · rw [s] at hh; simp only [Option.some.injEq] at hh; subst hh
      have := (h.k.dbge hj).2; omega
  · exact h.below.trans (C.belowN _ h.below.size (fun k hk hh => by
      rcases hh with hh | hh | hh
      · omega
      · omega
      · have := h.q1 k hh; omega))

end Go.Proofs.Ytpiiagjfimdflaa

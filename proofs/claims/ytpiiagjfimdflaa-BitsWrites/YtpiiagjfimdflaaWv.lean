/- BitsWrites: the steps done and Settle. -/
import Derived.Test.YtpiiagjfimdflaaWu
namespace Go.Proofs.Ytpiiagjfimdflaa
open Go.RowKit
open M
set_option linter.unusedVariables false

theorem getElem_two {α : Type} (G : List α) (a b : α) (j : Nat) (g : α) (h : (G ++ [a, b])[j]? = some g) : (j < G.length ∧ G[j]? = some g) ∨ (j = G.length ∧ g = a) ∨ (j = G.length + 1 ∧ g = b) := by
  by_cases hj : j < G.length
  · rw [List.getElem?_append_left hj] at h; exact .inl ⟨hj, h⟩
  · rw [List.getElem?_append_right (by omega)] at h
    rcases (show j - G.length = 0 ∨ j - G.length = 1 ∨ 2 ≤ j - G.length from by omega) with h0 | h0 | h0
    · rw [h0] at h; simp at h; exact .inr (.inl ⟨by omega, h.symm⟩)
    · rw [h0] at h; simp at h; exact .inr (.inr ⟨by omega, h.symm⟩)
    · rw [List.getElem?_eq_none (by simp; omega)] at h; cases h

theorem MS.done {w wr w' : World} {i : Nat} {l0 l1 : List Bool} {e0 e1 : Int} {r0 r1 rb ro : Option Nat} {E : List Ent} {A T D U : Nat} {rg rw_ : Option Nat} {G : List Got} (h : MS w i l0 l1 e0 e1 r0 r1 rb ro E A T D U rg rw_ G wr) (hc : T + G.length + 2 ≤ 1000) (hP : DonePost wr (w.heap.size + 3) (w.heap.size + 4) rg rw_ G w') :
    ∃ rg' rw' g1 g2, MS w i l0 l1 e0 e1 r0 r1 rb ro E A T D U rg' rw' (G ++ [g1, g2]) w' := by
  obtain ⟨rg', rw', g1, g2, L, s1, s2, f1, f2, f12, fu, C⟩ := hP
  obtain ⟨vb, x1, x2, x3⟩ := h.k.book.rows
  obtain ⟨vo, y1, y2, y3⟩ := h.k.book.marks
  obtain ⟨vg, z1, z2, z3⟩ := h.k.late.gots
  obtain ⟨vw, t1, t2, t3⟩ := h.k.late.wants
  have low : ∀ k, k < w.heap.size + 3 → ¬ (k = w.heap.size + 3 ∨ rg = some k ∨ rw_ = some k) := fun k hk hh => by
    rcases hh with hh | hh | hh
    · omega
    · have := (z2.lt k (z3.trans hh)).1; omega
    · have := (t2.lt k (t3.trans hh)).1; omega
  have np : ∀ k, (k = w.heap.size + 3 ∨ rg = some k ∨ rw_ = some k) → NP wr k := fun k hk => h.k.np (by
    rcases hk with hk | hk | hk
    · exact .inr (.inl hk)
    · exact .inr (.inr (.inr (.inr (.inl hk))))
    · exact .inr (.inr (.inr (.inr (.inr (.inl hk))))))
  have kb : ∀ k, (k = w.heap.size + 3 ∨ rg = some k ∨ rw_ = some k) → KB (w.heap.size + 2) (w.heap.size + 3) rb ro rg rw_ E G k := fun k hk => by
    rcases hk with hk | hk | hk
    · exact .inr (.inl hk)
    · exact .inr (.inr (.inr (.inr (.inl hk))))
    · exact .inr (.inr (.inr (.inr (.inr (.inl hk)))))
  have B' : BookSt w' (w.heap.size + 2) (w.heap.size + 4) rb ro E A T D U := h.k.book.chg C (fun k hk hh => by
    rcases hk with hk | hk | hk | ⟨e, he, hk⟩
    · exact low k (by omega) hh
    · rcases hh with hh | hh | hh
      · have := (x2.lt k (x3.trans hk)).1; omega
      · exact (h.k.rows k hk).1 hh
      · exact (h.k.rows k hk).2 hh
    · rcases hh with hh | hh | hh
      · have := (y2.lt k (y3.trans hk)).1; omega
      · exact rows_ne y2 z2 (by decide) (y3.trans hk) (z3.trans hh)
      · exact rows_ne y2 t2 (by decide) (y3.trans hk) (t3.trans hh)
    · exact h.k.late.data (h.k.book.ok e he).1 (Nat.le_refl _) k hk hh)
  have stepNe : ∀ {r r' : Option Nat} {k : Nat}, RowStep wr r r' → rb = some k → r ≠ some k → r' ≠ some k := fun hs hk hn hh => by
    rcases hs with hs | ⟨g, hs, hg⟩
    · exact hn (hs ▸ hh)
    · rw [hs] at hh; simp only [Option.some.injEq] at hh; subst hh
      have := (x2.lt _ (x3.trans hk)).2; omega
  refine ⟨rg', rw', g1, g2, h.w0.chg C (low _ (by omega)) np, h.w1.chg C (low _ (by omega)) np, h.v0.chg C (low _ (by omega)) (fun k hk hh => h.k.rowApart h.v0 (by omega) (fun k hk => (h.q0 k hk).1) (fun j hj => (h.sep j hj).1) (kb k hh) hk), h.v1.chg C (low _ (by omega)) (fun k hk hh => h.k.rowApart h.v1 (by omega) h.q1 (fun j hj => (h.sep j hj).2) (kb k hh) hk), h.n0, h.n1, h.q0, h.q1,
    ⟨B', L, by omega, h.k.fresh, h.k.cnt, by simp; omega, fun k hk => ⟨stepNe s1 hk (h.k.rows k hk).1, stepNe s2 hk (h.k.rows k hk).2⟩, fun g hg e he k hk hh => ?_, fun a b ga gb hab ha hb k hk hh => ?_, Nat.le_trans h.k.base_ C.size⟩, fun j hj => ?_, h.below.trans (C.belowN _ h.below.size (fun k hk => low k (by omega)))⟩
  · have hlt := ((h.k.book.ok e he).1.lt k hh).2
    simp only [List.mem_append, List.mem_cons, List.mem_nil_iff, or_false] at hg
    rcases hg with hg | rfl | rfl
    · exact h.k.ge g hg e he k hk hh
    · have := f1 k hk; omega
    · have := f2 k hk; omega
  · have A1 := getElem_two G g1 g2 a ga ha
    have B1 := getElem_two G g1 g2 b gb hb
    rcases A1 with ⟨ha1, ha2⟩ | ⟨ha1, ha2⟩ | ⟨ha1, ha2⟩ <;> rcases B1 with ⟨hb1, hb2⟩ | ⟨hb1, hb2⟩ | ⟨hb1, hb2⟩
    · exact h.k.gg a b ga gb hab ha2 hb2 k hk hh
    · have := ((h.k.late.ok ga (List.mem_of_getElem? ha2)).got.lt k hk).2; have := f1 k (hb2 ▸ hh); omega
    · have := ((h.k.late.ok ga (List.mem_of_getElem? ha2)).got.lt k hk).2; have := f2 k (hb2 ▸ hh); omega
    · omega
    · omega
    · exact f12 k (ha2 ▸ hk) (hb2 ▸ hh)
    · omega
    · omega
    · omega
  · have fresh : wr.heap.size ≤ j → r0 ≠ some j ∧ r1 ≠ some j := fun hj => ⟨fun hh => by have := (h.v0.apart j hh).2; omega, fun hh => by have := (h.v1.apart j hh).2; omega⟩
    rcases hj with ⟨e, he, hk⟩ | ⟨g, hg, hk⟩
    · exact h.sep j (.inl ⟨e, he, hk⟩)
    · simp only [List.mem_append, List.mem_cons, List.mem_nil_iff, or_false] at hg
      rcases hg with hg | rfl | rfl
      · exact h.sep j (.inr ⟨g, hg, hk⟩)
      · rcases hk with hk | hk
        · exact fresh (f1 j hk)
        · exact fresh (fu j (.inl hk))
      · rcases hk with hk | hk
        · exact fresh (f2 j hk)
        · exact fresh (fu j (.inr hk))

theorem MS.settle {w wr w' : World} {i : Nat} {l0 l1 : List Bool} {e0 e1 : Int} {r0 r1 rb ro : Option Nat} {E : List Ent} {A T D U : Nat} {rg rw_ : Option Nat} {G : List Got} (h : MS w i l0 l1 e0 e1 r0 r1 rb ro E A T D U rg rw_ G wr) (hP : SettlePost wr (w.heap.size + 2) (w.heap.size + 3) (w.heap.size + 4) rb ro E T G w') :
    ∃ rb' ro' E' A' T' D' U' rg' rw' G', MS w i l0 l1 e0 e1 r0 r1 rb' ro' E' A' T' D' U' rg' rw' G' w' ∧ T' + G'.length ≤ T + G.length := by
  obtain ⟨rb', ro', E', A', T', D', U', rg', rw', G', K, hc, hd, C⟩ := hP
  have kb : ∀ k, (k = w.heap.size + 3 ∨ SS (w.heap.size + 2) rb ro G k) → KB (w.heap.size + 2) (w.heap.size + 3) rb ro rg rw_ E G k := fun k hk => by
    rcases hk with hk | hk | hk | hk | ⟨g, hg, hk⟩
    · exact .inr (.inl hk)
    · exact .inl hk
    · exact .inr (.inr (.inl hk))
    · exact .inr (.inr (.inr (.inl hk)))
    · exact .inr (.inr (.inr (.inr (.inr (.inr (.inr ⟨g, hg, .inl hk⟩))))))
  have low : ∀ k, k < w.heap.size + 2 → ¬ (k = w.heap.size + 3 ∨ SS (w.heap.size + 2) rb ro G k) := fun k hk hh => by
    rcases h.k.kbge (kb k hh) with h9 | h9 | h9 <;> omega
  have np : ∀ k, (k = w.heap.size + 3 ∨ SS (w.heap.size + 2) rb ro G k) → NP wr k := fun k hk => h.k.np (by
    rcases hk with hk | hk | hk | hk | ⟨g, hg, hk⟩
    · exact .inr (.inl hk)
    · exact .inl hk
    · exact .inr (.inr (.inl hk))
    · exact .inr (.inr (.inr (.inl hk)))
    · exact .inr (.inr (.inr (.inr (.inr (.inr ⟨g, hg, hk⟩))))))
  refine ⟨rb', ro', E', A', T', D', U', rg', rw', G', ⟨h.w0.chg C (low _ (by omega)) np, h.w1.chg C (low _ (by omega)) np, h.v0.chg C (low _ (by omega)) (fun k hk hh => h.k.rowApart h.v0 (by omega) (fun k hk => (h.q0 k hk).1) (fun j hj => (h.sep j hj).1) (kb k hh) hk), h.v1.chg C (low _ (by omega)) (fun k hk hh => h.k.rowApart h.v1 (by omega) h.q1 (fun j hj => (h.sep j hj).2) (kb k hh) hk), h.n0, h.n1, h.q0, h.q1, K, fun j hj => ?_, h.below.trans (C.belowN _ h.below.size (fun k hk => low k (by omega)))⟩, hc⟩
  rcases hd j hj with hd | hd
  · exact h.sep j hd
  · exact ⟨fun hh => by have := (h.v0.apart j hh).2; omega, fun hh => by have := (h.v1.apart j hh).2; omega⟩

end Go.Proofs.Ytpiiagjfimdflaa

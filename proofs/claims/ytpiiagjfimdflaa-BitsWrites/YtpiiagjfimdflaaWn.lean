/- The law's Late: what it holds, Add. -/
import Derived.Test.YtpiiagjfimdflaaWm
import Derived.Lib.ConvBytes
namespace Go.Proofs.Ytpiiagjfimdflaa
open Go.RowKit
open M
set_option linter.unusedVariables false

/-- The block's first cell is no pointer. -/
def NP (w : World) (k : Nat) : Prop := ∀ p, w.cell? ⟨k, 0, none⟩ ≠ some (.pointer p)

theorem np_row {w : World} {base : Nat} {t : TypeId} {v : Value} {n : Nat} {xs : List Value} (h : w.ownsRow base t 1 v n xs) (hx : ∀ x ∈ xs, ∀ p, x ≠ .pointer p) (hn : 0 < n) {k : Nat} (hk : v.ownBlock = some k) : NP w k := by
  intro p hp
  obtain ⟨_, _, _, _, _, h4⟩ := row_form h
  have hl : 0 < xs.length := by have := h.1; omega
  have := (h4 k hk).2.2.2 0 xs[0] (by rw [List.getElem?_eq_getElem])
  rw [this] at hp
  exact hx _ (List.getElem_mem hl) p (by simpa using hp)

theorem BookSt.np {w : World} {NB base : Nat} {rb ro : Option Nat} {E : List Ent} {A T D U : Nat} (h : BookSt w NB base rb ro E A T D U) {k : Nat} (hk : rb = some k ∨ ro = some k) : NP w k := by
  obtain ⟨vb, b1, b2, b3⟩ := h.rows
  obtain ⟨vo, o1, o2, o3⟩ := h.marks
  have hE : 0 < E.length := by
    rcases Nat.eq_zero_or_pos E.length with h0 | h0
    · have := h.le.2.2.2.2 (List.length_eq_zero_iff.1 h0)
      rcases hk with hk | hk <;> simp [this] at hk
    · exact h0
  rcases hk with hk | hk
  · refine np_row b2 (fun x hx p => ?_) hE (b3.trans hk)
    simp only [List.mem_map] at hx
    obtain ⟨e, he, rfl⟩ := hx
    obtain ⟨_, _, hv, _⟩ := row_form (h.ok e he).1
    rw [hv]; simp
  · refine np_row o2 (fun x hx p => ?_) hE (o3.trans hk)
    simp only [List.mem_map] at hx
    obtain ⟨e, he, rfl⟩ := hx
    simp

/-- An answer that is kept: what was got, what it must hold, its bytes. -/
structure Got where
  v : Value
  u : Value
  bs : List Nat

structure GOk (w : World) (base : Nat) (g : Got) : Prop where
  got : w.ownsRow base 5 1 g.v g.bs.length (bytesV g.bs)
  full : ∃ p, g.v = .slice p g.bs.length g.bs.length
  want : ∃ b cap, g.u = .slice (some ⟨b, 0, none⟩) g.bs.length cap ∧ base ≤ b ∧ b < w.heap.size ∧ ∀ i, i < g.bs.length → w.cell? ⟨b, i, none⟩ = some (.int .u8 (g.bs.getD i 0 : Nat))
  small : ∀ n ∈ g.bs, n < 256
  short : g.bs.length ≤ 5000

/-- The block of what it must hold. -/
def Got.ub (g : Got) : Option Nat := g.u.ownBlock

structure LateSt (w : World) (NL base : Nat) (rg rw_ : Option Nat) (G : List Got) : Prop where
  gots : ∃ vg, w.cell? ⟨NL, 0, none⟩ = some vg ∧ w.ownsRow base 29 1 vg G.length (G.map Got.v) ∧ vg.ownBlock = rg
  wants : ∃ vw, w.cell? ⟨NL, 1, none⟩ = some vw ∧ w.ownsRow base 29 1 vw G.length (G.map Got.u) ∧ vw.ownBlock = rw_
  f0 : w.frozen? ⟨NL, 0, none⟩ = false
  f1 : w.frozen? ⟨NL, 1, none⟩ = false
  ok : ∀ g ∈ G, GOk w base g
  ne : ∀ k, rg = some k → rw_ ≠ some k
  lt : NL < base
  nil : G = [] → rg = none ∧ rw_ = none

theorem GOk.chg {S : Nat → Prop} {w w' : World} {base : Nat} {g : Got} (h : GOk w base g) (hc : Chg S w w') (h1 : ∀ k, g.v.ownBlock = some k → ¬ S k) (h2 : ∀ k, g.u.ownBlock = some k → 0 < g.bs.length → ¬ S k) : GOk w' base g := by
  refine ⟨ownsRow_chg h.got hc h1, h.full, ?_, h.small, h.short⟩
  obtain ⟨b, cap, k1, k2, k3, k4⟩ := h.want
  exact ⟨b, cap, k1, k2, Nat.lt_of_lt_of_le k3 hc.size, fun i hi => cell_chg (k4 i hi) hc (h2 b (by rw [k1]; rfl) (by omega))⟩

theorem LateSt.chg {S : Nat → Prop} {w w' : World} {NL base : Nat} {rg rw_ : Option Nat} {G : List Got} (h : LateSt w NL base rg rw_ G) (hc : Chg S w w') (h1 : ¬ S NL) (h2 : ∀ k, rg = some k ∨ rw_ = some k → ¬ S k) (h3 : ∀ g ∈ G, ∀ k, g.v.ownBlock = some k → ¬ S k) (h4 : ∀ g ∈ G, ∀ k, g.u.ownBlock = some k → 0 < g.bs.length → ¬ S k) : LateSt w' NL base rg rw_ G := by
  obtain ⟨vg, a1, a2, a3⟩ := h.gots
  obtain ⟨vw, b1, b2, b3⟩ := h.wants
  have hl := block_lt_of_cell a1
  refine ⟨⟨vg, cell_chg a1 hc h1, ownsRow_chg a2 hc (fun g hg => h2 g (.inl (a3 ▸ hg))), a3⟩, ⟨vw, cell_chg b1 hc h1, ownsRow_chg b2 hc (fun g hg => h2 g (.inr (b3 ▸ hg))), b3⟩, ?_, ?_, fun g hg => (h.ok g hg).chg hc (h3 g hg) (h4 g hg), h.ne, h.lt, h.nil⟩
  · rw [World.frozen?_of_block (w := w) (w' := w') (a := ⟨NL, 0, none⟩) (hc.block NL hl h1)]; exact h.f0
  · rw [World.frozen?_of_block (w := w) (w' := w') (a := ⟨NL, 1, none⟩) (hc.block NL hl h1)]; exact h.f1

theorem LateSt.np {w : World} {NL base : Nat} {rg rw_ : Option Nat} {G : List Got} (h : LateSt w NL base rg rw_ G) {k : Nat} (hk : rg = some k ∨ rw_ = some k) : NP w k := by
  obtain ⟨vg, a1, a2, a3⟩ := h.gots
  obtain ⟨vw, b1, b2, b3⟩ := h.wants
  have hG : 0 < G.length := by
    rcases Nat.eq_zero_or_pos G.length with h0 | h0
    · have := h.nil (List.length_eq_zero_iff.1 h0)
      rcases hk with hk | hk <;> simp [this] at hk
    · exact h0
  rcases hk with hk | hk
  · refine np_row a2 (fun x hx p => ?_) hG (a3.trans hk)
    simp only [List.mem_map] at hx
    obtain ⟨e, he, rfl⟩ := hx
    obtain ⟨q, hv⟩ := (h.ok e he).full
    rw [hv]; simp
  · refine np_row b2 (fun x hx p => ?_) hG (b3.trans hk)
    simp only [List.mem_map] at hx
    obtain ⟨e, he, rfl⟩ := hx
    obtain ⟨_, _, hv, _⟩ := (h.ok e he).want
    rw [hv]; simp

/-- What it must hold lies apart from rows of slices. -/
theorem GOk.apart {w : World} {base : Nat} {g : Got} (h : GOk w base g) (h0 : 0 < g.bs.length) {k : Nat} (hk : g.u.ownBlock = some k) {b2 : Nat} {v : Value} {n : Nat} {xs : List Value} (hr : w.ownsRow b2 29 1 v n xs) (hx : ∀ x ∈ xs, ∀ a b, x ≠ .int a b) (hn : 0 < n) : v.ownBlock ≠ some k := by
  intro hh
  obtain ⟨b, cap, k1, k2, k3, k4⟩ := h.want
  have hb : b = k := by rw [k1] at hk; simpa [Value.ownBlock] using hk
  subst hb
  have c1 := k4 0 h0
  obtain ⟨_, _, _, _, _, h4⟩ := row_form hr
  have hl : 0 < xs.length := by have := hr.1; omega
  have c2 := (h4 b hh).2.2.2 0 xs[0] (by rw [List.getElem?_eq_getElem])
  rw [c1] at c2
  exact hx _ (List.getElem_mem hl) _ _ (by simpa using c2.symm)

end Go.Proofs.Ytpiiagjfimdflaa

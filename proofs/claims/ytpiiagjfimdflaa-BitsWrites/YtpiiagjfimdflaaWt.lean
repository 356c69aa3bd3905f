/- BitsWrites: the state between the steps. -/
import Derived.Test.YtpiiagjfimdflaaWs
namespace Go.Proofs.Ytpiiagjfimdflaa
open Go.RowKit
open M
set_option linter.unusedVariables false

theorem Chain.chg {S : Nat → Prop} {w w' : World} {lo : Nat} {l : List Bool} (hc : Chg S w w') (hnp : ∀ k, S k → NP w k) : ∀ {k : Nat} {p : Option Addr}, Chain w lo l k p → Chain w' lo l k p
  | 0, _, h => h
  | _ + 1, _, ⟨g, q, hp, hg, hk, hr⟩ => by
    have e := hc.block g hk.lt (fun h => hnp g h _ hk.1)
    exact ⟨g, q, hp, hg, ⟨by rw [World.cell?_of_block (w := w) e]; exact hk.1, fun j hj => by rw [World.cell?_of_block (w := w) e]; exact hk.2 j hj⟩, Chain.chg hc hnp hr⟩

theorem Wr.chg {S : Nat → Prop} {w w' : World} {lo b off : Nat} {l : List Bool} {e : Int} (h : Wr w lo b off l e) (hc : Chg S w w') (hb : ¬ S b) (hnp : ∀ k, S k → NP w k) : Wr w' lo b off l e := by
  obtain ⟨p, h1, h2⟩ := h
  exact ⟨p, h1.keep (hc.block b (block_lt_of_cell h1.full) hb), Chain.chg hc hnp h2⟩

theorem Rw.chg {S : Nat → Prop} {w w' : World} {c o : Nat} {r : Option Nat} {l : List Bool} {e : Int} (h : Rw w c o r l e) (hc : Chg S w w') (hb : ¬ S c) (hr : ∀ g, r = some g → ¬ S g) : Rw w' c o r l e :=
  h.keep hc.size (hc.block c h.lt hb) (fun g hg => hc.block g (h.apart g hg).2 (hr g hg))

/-- The other Writer of the same block. -/
theorem Wr.side {w w' : World} {lo b o1 o2 off : Nat} {l : List Bool} {e : Int} (h : Wr w lo b off l e) (ho : Only b o1 o2 w w') (hb : b < lo) (hd : off + 123 ≤ o1 ∨ o2 ≤ off) : Wr w' lo b off l e := by
  obtain ⟨p, h1, h2⟩ := h
  have hc : ∀ j, j < 123 → w'.cell? ⟨b, off + j, none⟩ = w.cell? ⟨b, off + j, none⟩ := fun j hj => ho.cell _ (by omega)
  refine ⟨p, ⟨by have := hc 0 (by omega); rw [Nat.add_zero] at this; rw [this]; exact h1.full, fun j hj => ?_, by rw [hc 121 (by omega)]; exact h1.len, by rw [hc 122 (by omega)]; exact h1.err, fun j hj => by rw [ho.frozen]; exact h1.fz j hj⟩, h2.only ho hb⟩
  have := hc (1 + j) (by omega)
  rw [Nat.add_assoc, this, ← Nat.add_assoc]; exact h1.last j hj

theorem Rw.side {w w' : World} {c o1 o2 o : Nat} {r r' : Option Nat} {l : List Bool} {e : Int} (h : Rw w c o r l e) (ho : OnlyR c o1 o2 r' w w') (hd : o + 2 ≤ o1 ∨ o2 ≤ o) (hr : ∀ k, r = some k → r' ≠ some k) : Rw w' c o r l e := by
  obtain ⟨v, h1, h2, h3, h4⟩ := h.row
  refine ⟨⟨v, ?_, ownsRow_keep h2 (fun g hg => ho.block g (h.apart g (h3 ▸ hg)).2 (h.apart g (h3 ▸ hg)).1 (fun e => hr g (h3 ▸ hg) e.symm)), h3, h4⟩, ?_, fun j hj => ?_, fun g hg => ⟨(h.apart g hg).1, Nat.lt_of_lt_of_le (h.apart g hg).2 ho.size⟩⟩
  · rw [ho.cell o (by omega)]; exact h1
  · rw [ho.cell (o + 1) (by omega)]; exact h.err
  · rw [ho.frozen]; exact h.fz j hj

/-- All the Book's and the Late's own blocks. -/
def KB (NB NL : Nat) (rb ro rg rw_ : Option Nat) (E : List Ent) (G : List Got) (k : Nat) : Prop := k = NB ∨ k = NL ∨ rb = some k ∨ ro = some k ∨ rg = some k ∨ rw_ = some k ∨ DB E G k

theorem KSt.chg {S : Nat → Prop} {w w' : World} {NB NL base : Nat} {rb ro : Option Nat} {E : List Ent} {A T D U : Nat} {rg rw_ : Option Nat} {G : List Got} (h : KSt w NB NL base rb ro E A T D U rg rw_ G) (hc : Chg S w w') (hs : ∀ k, KB NB NL rb ro rg rw_ E G k → ¬ S k) : KSt w' NB NL base rb ro E A T D U rg rw_ G := by
  refine ⟨h.book.chg hc (fun k hk => hs k ?_), h.late.chg hc (hs NL (.inr (.inl rfl))) (fun k hk => hs k ?_) (fun g hg k hk => hs k (.inr (.inr (.inr (.inr (.inr (.inr (.inr ⟨g, hg, .inl hk⟩)))))))) (fun g hg k hk _ => hs k (.inr (.inr (.inr (.inr (.inr (.inr (.inr ⟨g, hg, .inr hk⟩)))))))), h.ne, h.fresh, h.cnt, h.tot, h.rows, h.ge, h.gg, Nat.le_trans h.base_ hc.size⟩
  · rcases hk with hk | hk | hk | hk
    · exact .inl hk
    · exact .inr (.inr (.inl hk))
    · exact .inr (.inr (.inr (.inl hk)))
    · exact .inr (.inr (.inr (.inr (.inr (.inr (.inl hk))))))
  · rcases hk with hk | hk
    · exact .inr (.inr (.inr (.inr (.inl hk))))
    · exact .inr (.inr (.inr (.inr (.inr (.inl hk)))))

theorem np_data {w : World} {base : Nat} {v : Value} {n : Nat} {bs : List Nat} (h : w.ownsRow base 5 1 v n (bytesV bs)) (hf : ∃ p, v = .slice p n n) {k : Nat} (hk : v.ownBlock = some k) : NP w k := by
  rcases Nat.eq_zero_or_pos n with h0 | h0
  · subst h0
    intro p hp
    obtain ⟨q, hq⟩ := hf
    rcases h.2 with ⟨h2, _⟩ | ⟨g, cap, cur, hv, h4, h5, h6, _, h7, _⟩
    · rw [h2] at hk; simp [Value.ownBlock] at hk
    · rw [hv] at hk hq
      simp only [Value.ownBlock, Option.some.injEq, Value.slice.injEq] at hk hq
      subst hk
      rw [cell_of_row _ _ _ _ _ _ h5, Array.getElem?_eq_none (by omega)] at hp
      cases hp
  · refine np_row h (fun x hx p => ?_) h0 hk
    simp only [bytesV, List.mem_map] at hx
    obtain ⟨y, _, rfl⟩ := hx
    simp

/-- No block of Settle's is a chunk. -/
theorem KSt.np {w : World} {NB NL base : Nat} {rb ro : Option Nat} {E : List Ent} {A T D U : Nat} {rg rw_ : Option Nat} {G : List Got} (h : KSt w NB NL base rb ro E A T D U rg rw_ G) {k : Nat} (hk : k = NB ∨ k = NL ∨ rb = some k ∨ ro = some k ∨ rg = some k ∨ rw_ = some k ∨ ∃ g ∈ G, g.v.ownBlock = some k) : NP w k := by
  rcases hk with rfl | rfl | hk | hk | hk | hk | ⟨g, hg, hk⟩
  · intro p hp
    obtain ⟨vb, b1, b2, _⟩ := h.book.rows
    obtain ⟨_, _, hv, _⟩ := row_form b2
    rw [b1, hv] at hp; simp at hp
  · intro p hp
    obtain ⟨vb, b1, b2, _⟩ := h.late.gots
    obtain ⟨_, _, hv, _⟩ := row_form b2
    rw [b1, hv] at hp; simp at hp
  · exact h.book.np (.inl hk)
  · exact h.book.np (.inr hk)
  · exact h.late.np (.inl hk)
  · exact h.late.np (.inr hk)
  · exact np_data (h.late.ok g hg).got (h.late.ok g hg).full hk

/-- The row of a Writer of the document lies apart from rows of slices and of numbers. -/
theorem Rw.apartRow {w : World} {c o : Nat} {r : Option Nat} {l : List Bool} {e : Int} (h : Rw w c o r l e) {k : Nat} (hk : r = some k) {b2 : Nat} {t : TypeId} {v : Value} {n : Nat} {xs : List Value} (hr : w.ownsRow b2 t 1 v n xs) (ht : t ≠ 5) : v.ownBlock ≠ some k := by
  obtain ⟨v0, h1, h2, h3, _⟩ := h.row
  exact rows_ne h2 hr (fun e => ht e.symm) (h3.trans hk)

end Go.Proofs.Ytpiiagjfimdflaa

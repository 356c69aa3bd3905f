/- JournalBack: the walk. -/
import Derived.Test.YtgmahgfelbkoeaaDoorJ4F
namespace Go.Proofs.YtgmahgfelbkoeaaDoor
open Go.RowKit
set_option linter.unusedVariables false
set_option linter.unusedSimpArgs false

/-- Rows of rows of bytes, as they are handed in. -/
def RowsIn (w : World) (p : Option Addr) (n : Nat) : Prop := ∀ i, i < n → ∃ (b o : Nat) (pe : Option Addr) (ne ce : Nat) (q : Nat → List Nat), p = some ⟨b, o, none⟩ ∧ w.cell? ⟨b, o + i, none⟩ = some (.slice pe ne ce) ∧ ne ≤ 140737488355328 ∧ PartsOf w pe ne q ∧ ∀ j, j < ne → (q j).length ≤ 140737488355328 ∧ ∀ x ∈ q j, x < 256
def IntsIn (w : World) (p : Option Addr) (n : Nat) : Prop := ∀ i, i < n → ∃ (b o : Nat) (z : Int), p = some ⟨b, o, none⟩ ∧ w.cell? ⟨b, o + i, none⟩ = some (.int .i64 z)

/-- The walk's state. -/
structure BkSt (w0 wr : World) (d l nL : Nat) (v : Value) (A L k : Nat) (p : PS) (F : Nat → Prop) (vals : List Value) (rr : List (List (List Nat))) : Prop where
  log : LogSt w0 wr d l p F rr A
  want : RecG (Gd w0.heap.size wr F l) w0.heap.size wr v vals rr
  k1 : k ≤ 60
  k2 : k ≤ nL
  a1 : A ≤ 8 + 8 * k + (65536 - L)
  l1 : L ≤ 65536
  wr1 : p.wr ≤ 2 + 22 * k
  len : rr.length ≤ k
  few : ∀ r ∈ rr, r.length ≤ 1000000 ∧ ∀ x ∈ r, x.length ≤ 140737488355328

theorem BkSt.fr {w0 wr w' : World} {d l nL : Nat} {v : Value} {A L k : Nat} {p : PS} {F : Nat → Prop} {vals : List Value} {rr : List (List (List Nat))} (h : BkSt w0 wr d l nL v A L k p F vals rr) (hl : LogSt w0 w' d l p F rr A) (hf : Fr wr F w' F) : BkSt w0 w' d l nL v A L k p F vals rr := { h with log := hl, want := h.want.keep (gd_fr hf) }

theorem LogSt.grown {W wr w' : World} {d l : Nat} {p : PS} {F : Nat → Prop} {ff : List (List (List Nat))} {A : Nat} {X : Obj} {v : Value} (h : LogSt W wr d l p F ff A) (hg : (wr.alloc X).grownBy w' v.ownBlock) (hv : ∀ k, v.ownBlock = some k → Gd W.heap.size wr F l k) : LogSt W w' d l p F ff A := by
  have hk : ∀ k, k < wr.heap.size → (¬ Gd W.heap.size wr F l k) → w'.heap[k]? = wr.heap[k]? := fun k hk hn => (hg.block k (by simp; omega) (fun e => hn (hv k e.symm))).trans (Below.heap_alloc _ _ _ hk)
  have hl := heap_lt h.lg
  exact { h with
    di := h.di.keep fun k hF => hk k (h.di.lt k hF) fun e => e.2.2.1 hF
    lg := (hk l hl fun e => e.2.2.2 rfl).trans h.lg
    bel := h.bel.trans ⟨hg.os, hg.tape, hg.output, Nat.le_trans (by simp) hg.size, fun k hkB => hk k (Nat.lt_of_lt_of_le hkB h.bel.size) fun e => by have := e.1; omega⟩ }


end Go.Proofs.YtgmahgfelbkoeaaDoor

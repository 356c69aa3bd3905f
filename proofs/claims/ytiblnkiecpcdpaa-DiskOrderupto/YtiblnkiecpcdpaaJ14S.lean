/- The law of orders: a round at the end. -/
import Derived.Test.YtiblnkiecpcdpaaJ14R
namespace Go.Proofs.Ytiblnkiecpcdpaa
open Go.RowKit
set_option linter.unusedVariables false
set_option linter.unusedSimpArgs false

theorem OrK.cellK {w wS wr : World} {K U : Nat → Prop} {Sa : DS} (h : OrK w wS wr K U Sa) {a : Addr} (ha : K a.block) : wr.cell? a = wS.cell? a := World.cell?_of_block (w := wS) (w' := wr) (a := a) (h.kept _ ha).2.1

def OvB (w5 : World) (ps : List Pr) (pb : Option Addr) (m : Nat) : Prop := m = 0 ∨ ∃ (g0 : Nat) (cur0 : Array Value), pb = some ⟨g0, 0, none⟩ ∧ UB ps g0 ∧ w5.heap[g0]? = some (.cells cur0 5 (0, 0)) ∧ m ≤ cur0.size

section
variable {w w5 wr : World} {Ba d r n i : Nat} {fs L : List (ByteArray × List Nat)} {Sa Sb : DS} {l v : Value} {ps : List Pr} {wv : List Value}

theorem OrZ.at2 (z : OrZ w w5 Ba fs r n Sb l v ps wv L) (hi : i < n) :
    ∃ (pl : Option Addr) (cl g o : Nat) (pb : Option Addr) (cb : Nat), l = .slice pl n cl ∧ pl = some ⟨g, o, none⟩ ∧ w5.cell? ⟨g, o + i * 2, none⟩ = some (.string (fs.getD i (.empty, [])).1) ∧ w5.cell? ⟨g, o + i * 2 + 1, none⟩ = some (.slice pb (fs.getD i (.empty, [])).2.length cb) ∧ OvB w5 ps pb (fs.getD i (.empty, [])).2.length := by
  have hfs := z.ps_
  have hln : ps.length = n := by have := congrArg List.length hfs; rw [List.length_map, z.len.1] at this; exact this
  obtain ⟨_, pl, cl, e1, h2⟩ := z.linn
  have hi' : i < ps.length := by omega
  obtain ⟨g, o, e2, k1, k2⟩ := h2 i (by rw [List.length_map]; exact hi')
  have e3 : (ps.map (·.1)).getD i (.empty, []) = ps[i].1 := by simp [List.getD, List.getElem?_eq_getElem hi']
  have e4 : (ps.map (·.2)).getD i (.slice none 0 0) = ps[i].2 := by simp [List.getD, List.getElem?_eq_getElem hi']
  have e5 : fs.getD i (.empty, []) = ps[i].1 := by rw [← hfs]; exact e3
  have hm : ps[i] ∈ ps := List.getElem_mem hi'
  obtain ⟨pb, cb, e6, e7⟩ := z.vals ps[i] hm
  rw [e3] at k1
  rw [e4, e6] at k2
  rw [List.length_map, hln] at e1
  rw [e5]
  refine ⟨pl, cl, g, o, pb, cb, e1, e2, k1, k2, ?_⟩
  rcases e7 with e7 | ⟨g0, cur0, e8, e9, e10⟩
  · exact .inl e7
  · exact .inr ⟨g0, cur0, e8, ⟨ps[i], hm, by rw [e6, e8]; rfl⟩, e9, e10⟩

theorem OrZ.over (z : OrZ w w5 Ba fs r n Sb l v ps wv L) (h : OrA Ba wr d i fs Sa) (k : OrK w w5 wr (KB w Sb l v wv) (UB ps) Sa) {pb : Option Addr} {m cb : Nat} (hm : m ≤ 1000000) (hO : OvB w5 ps pb m) :
    Calls Try.prog 25 #[.slice pb m cb] wr fun e w2 => e = .returned (.tuple #[]) ∧ OrA Ba w2 d i fs Sa ∧ OrK w w5 w2 (KB w Sb l v wv) (UB ps) Sa := by
  rcases hO with rfl | ⟨g0, cur0, rfl, hU, h1, h2⟩
  · refine (over10_none pb cb wr).mono ?_
    rintro e w2 ⟨rfl, rfl⟩
    exact ⟨rfl, h, k⟩
  · obtain ⟨a0, a1, cur, c0, a2, a3, a4⟩ := k.byts g0 hU
    rw [h1] at a2
    simp only [Option.some.injEq, Obj.cells.injEq, and_true] at a2
    refine (over10_any g0 cb m wr hm cur a3 (by rw [a4, ← a2]; exact h2)).mono ?_
    rintro e w2 ⟨rfl, b1, cur', b2, b3⟩
    exact ⟨rfl, h.frA (h.dk.keep fun j hj => b1.block j fun e => a0 (e ▸ hj)), k.over hU b1 a3 b2 b3⟩

theorem OrZ.one_le (z : OrZ w w5 Ba fs r n Sb l v ps wv L) (hi : i < n) : (fs.getD i (.empty, [])).2.length ≤ 1000000 := by
  have hm : fs.getD i (.empty, []) ∈ fs := by
    rw [List.getD_eq_getElem?_getD, List.getElem?_eq_getElem (by rw [z.len.1]; exact hi)]
    exact List.getElem_mem _
  have h1 := totB_mem _ hm
  have h2 := z.tot
  omega
end

end Go.Proofs.Ytiblnkiecpcdpaa

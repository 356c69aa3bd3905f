/- The law of orders: behind the loading. -/
import Derived.Test.YtiblnkiecpcdpaaJ14M
import Derived.Test.YtiblnkiecpcdpaaJ14B
namespace Go.Proofs.Ytiblnkiecpcdpaa
open Go.RowKit
set_option linter.unusedVariables false
set_option linter.unusedSimpArgs false

set_option maxRecDepth 100000 in
theorem over10_none (p : Option Addr) (cap : Nat) (w : World) : Calls Try.prog 25 #[.slice p 0 cap] w fun e w' => e = .returned (.tuple #[]) ∧ w' = w := by
  go_enter Try.func25, Try.ntmps25
  go_wp2_with fail
  go_loopw [2] (fun t2 wr => t2 = .int .i64 0 ∧ wr = w) (fun _ _ => 0)
  case atStart => exact ⟨rfl, by first | rfl | trivial⟩
  case round =>
    obtain ⟨rfl, rfl⟩ := hrel
    go_wp2_with fail
    go_end0
    exact ⟨rfl, rfl⟩

theorem FilesR.keep {w w' : World} {v : Value} {vals : List Value} {fs : List (ByteArray × List Nat)} (h : FilesR w v vals fs) (hk : ∀ k, v.ownBlock = some k → w'.heap[k]? = w.heap[k]?) : FilesR w' v vals fs := by
  obtain ⟨h1, p, c, rfl, h2⟩ := h
  refine ⟨h1, p, c, rfl, fun i hi => ?_⟩
  obtain ⟨g, o, rfl, k1, k2⟩ := h2 i hi
  have e := hk g rfl
  exact ⟨g, o, rfl, (World.cell?_of_block (w := w) (w' := w') (a := ⟨g, o + i * 2, none⟩) e).trans k1, (World.cell?_of_block (w := w) (w' := w') (a := ⟨g, o + i * 2 + 1, none⟩) e).trans k2⟩

theorem RowsR.keep {w w' : World} {vals : List Value} {fs : List (ByteArray × List Nat)} (h : RowsR w vals fs) (hl : vals.length = fs.length) (hk : ∀ u ∈ vals, ∀ k, u.ownBlock = some k → w'.heap[k]? = w.heap[k]?) : RowsR w' vals fs := fun i hi => by
  have hl' : i < vals.length := by omega
  refine isBy_keepW (h i hi) fun k e => hk _ ?_ k e
  rw [List.getD_eq_getElem?_getD, List.getElem?_eq_getElem hl']
  exact List.getElem_mem hl'

/-- What is kept while the one disk is emptied: blocks that stay as they were, and the law's own bytes. -/
structure OrK (w wS wr : World) (K U : Nat → Prop) (Sa : DS) : Prop where
  kept : ∀ k, K k → k < wr.heap.size ∧ wr.heap[k]? = wS.heap[k]? ∧ ¬ Fp Sa k
  byts : ∀ k, U k → ¬ Fp Sa k ∧ w.heap.size ≤ k ∧ ∃ cur cur0 : Array Value, wS.heap[k]? = some (.cells cur0 5 (0, 0)) ∧ wr.heap[k]? = some (.cells cur 5 (0, 0)) ∧ cur.size = cur0.size
  dis : ∀ k, K k → ¬ U k
  bel : Below w.heap.size w wr

theorem OrK.fr {w wS wr w2 : World} {K U : Nat → Prop} {Sa Sa' : DS} {Ba : Nat} (h : OrK w wS wr K U Sa) (hD : Dk Ba wr 0 Sa) (hBa : w.heap.size ≤ Ba) (hf : Fr wr (Fp Sa) w2 (Fp Sa')) : OrK w wS w2 K U Sa' := by
  refine ⟨fun k hk => ?_, fun k hk => ?_, h.dis, h.bel.trans (hf.below (fun k e => Nat.le_trans hBa (hD.fpB k e)) h.bel.size)⟩
  · obtain ⟨a, b, c⟩ := h.kept k hk
    exact ⟨Nat.lt_of_lt_of_le a hf.size, ((hf.block k a c).2).trans b, (hf.block k a c).1⟩
  · obtain ⟨a, b, cur, cur0, c, d, e⟩ := h.byts k hk
    exact ⟨(hf.block k (heap_lt d) a).1, b, cur, cur0, c, ((hf.block k (heap_lt d) a).2).trans d, e⟩

theorem OrK.over {w wS wr w2 : World} {K U : Nat → Prop} {Sa : DS} {g : Nat} {cur cur' : Array Value} (h : OrK w wS wr K U Sa) (hg : U g) (ho : Ovd wr w2 g) (h1 : wr.heap[g]? = some (.cells cur 5 (0, 0))) (h2 : w2.heap[g]? = some (.cells cur' 5 (0, 0))) (h3 : cur'.size = cur.size) : OrK w wS w2 K U Sa := by
  refine ⟨fun k hk => ?_, fun k hk => ?_, h.dis, ?_⟩
  · obtain ⟨a, b, c⟩ := h.kept k hk
    exact ⟨by rw [ho.size]; exact a, (ho.block k fun e => h.dis k hk (e ▸ hg)).trans b, c⟩
  · obtain ⟨a, b, c1, c0, c, d, e⟩ := h.byts k hk
    by_cases e2 : k = g
    · subst e2
      rw [h1] at d
      simp only [Option.some.injEq, Obj.cells.injEq, and_true] at d
      exact ⟨a, b, cur', c0, c, h2, by rw [h3, d]; exact e⟩
    · exact ⟨a, b, c1, c0, c, (ho.block k e2).trans d, e⟩
  · exact ⟨ho.os.trans h.bel.os, ho.tape.trans h.bel.tape, ho.output.trans h.bel.output, by rw [ho.size]; exact h.bel.size, fun k hk => (ho.block k fun e => by have := (h.byts g hg).2.1; omega).trans (h.bel.block k hk)⟩

theorem drop_at {fs : List (ByteArray × List Nat)} {i : Nat} (hi : i < fs.length) : fs.drop i = fs.getD i (.empty, []) :: fs.drop (i + 1) := by
  rw [List.drop_eq_getElem_cons hi]; simp [List.getD, List.getElem?_eq_getElem hi]

theorem con1_drop {fs : List (ByteArray × List Nat)} (hn : (fs.map (·.1)).Nodup) {i : Nat} (hi : i < fs.length) : Con.drop (con1 (fs.drop i)) (fs.getD i (.empty, [])).1 = con1 (fs.drop (i + 1)) := by
  have e : fs.drop i = fs.getD i (.empty, []) :: fs.drop (i + 1) := by
    rw [List.drop_eq_getElem_cons hi]; simp [List.getD, List.getElem?_eq_getElem hi]
  have hn2 : ((fs.drop i).map (·.1)).Nodup := by rw [List.map_drop]; exact hn.sublist (List.drop_sublist _ _)
  rw [e] at hn2 ⊢
  rw [List.map_cons, List.nodup_cons] at hn2
  unfold con1 Con.drop
  rw [List.map_cons, List.filter_cons, if_neg (by simp), List.filter_eq_self]
  intro y hy
  obtain ⟨x, hx, rfl⟩ := List.mem_map.1 hy
  simp only [decide_not, Bool.not_eq_eq_eq_not, Bool.not_true, decide_eq_false_iff_not]
  exact fun e2 => hn2.1 (List.mem_map.2 ⟨x, hx, e2⟩)

theorem con1_names (fs : List (ByteArray × List Nat)) : (con1 fs).map (·.1) = fs.map (·.1) := by unfold con1; rw [List.map_map]; rfl

theorem get_perm {c d : Con} (hp : c.Perm d) (hn : (c.map (·.1)).Nodup) (n : ByteArray) : Con.get c n = Con.get d n := by
  by_cases h : c.has n
  · obtain ⟨y, hy, rfl⟩ := h
    rw [get_of hn hy, get_of ((hp.map (·.1)).nodup_iff.1 hn) (hp.mem_iff.1 hy)]
  · rw [get_no h, get_no fun ⟨y, hy, e⟩ => h ⟨y, hp.mem_iff.2 hy, e⟩]

/-- The disk that is emptied. -/
structure OrA (Ba : Nat) (wr : World) (d i : Nat) (fs : List (ByteArray × List Nat)) (Sa : DS) : Prop where
  dk : Dk Ba wr 0 Sa
  dd : Sa.d = d
  con : Sa.ps.con = con1 (fs.drop i)
  cfg : Sa.off = false ∧ Sa.ain = 0 ∧ Sa.wr ≤ i ∧ Sa.keep = 0 ∧ Sa.lose = 0

section
variable {w wS wr : World} {K U : Nat → Prop} {Sa : DS} {Ba d i r : Nat} {fs : List (ByteArray × List Nat)}
theorem OrA.sure (h : OrA Ba wr d i fs Sa) (hk : OrK w wS wr K U Sa) (hBa : w.heap.size ≤ Ba) (hok : LoadOk fs r) (hi : i < fs.length) :
    Calls Try.prog 14 #[.pointer (some ⟨d, 0, none⟩), .string (fs.getD i (.empty, [])).1] wr fun e w2 => e = .returned (.tuple #[.int .i64 ((fs.getD i (.empty, [])).2.length : Nat), .int .i64 0]) ∧ OrA Ba w2 d i fs Sa ∧ OrK w wS w2 K U Sa := by
  have hd0 := h.dd
  subst hd0
  have hm : fs.getD i (.empty, []) ∈ fs.drop i := by rw [drop_at hi]; exact List.mem_cons_self
  have hc : ((fs.getD i (.empty, [])).1, (fs.getD i (.empty, [])).2, (fs.getD i (.empty, [])).2.length) ∈ Sa.ps.con := by
    rw [h.con]; exact List.mem_map.2 ⟨_, hm, rfl⟩
  obtain ⟨x, hx, e1, e2, e3⟩ := fi_of hc
  have hokx : okN x.nm := by rw [e1]; exact hok.1 _ (List.mem_of_mem_drop hm)
  rw [← e1]
  refine (sure_any wr h.dk h.cfg.1 x hx hokx).mono ?_
  rintro e w2 ⟨rfl, k1, k2⟩
  exact ⟨by rw [e3], ⟨k1, rfl, h.con, h.cfg⟩, hk.fr h.dk hBa k2⟩

theorem OrA.remove (h : OrA Ba wr d i fs Sa) (hk : OrK w wS wr K U Sa) (hBa : w.heap.size ≤ Ba) (hok : LoadOk fs r) (hi : i < fs.length) (hi4 : i ≤ 400) :
    Calls Try.prog 24 #[.pointer (some ⟨d, 0, none⟩), .string (fs.getD i (.empty, [])).1] wr fun e w2 => ∃ z : Int, e = .returned (.int .i64 z) ∧ ∃ Sa' : DS, OrA Ba w2 d (i + 1) fs Sa' ∧ OrK w wS w2 K U Sa' := by
  have hd0 := h.dd
  subst hd0
  have hm : fs.getD i (.empty, []) ∈ fs.drop i := by rw [drop_at hi]; exact List.mem_cons_self
  have hokn : okN (fs.getD i (.empty, [])).1 := hok.1 _ (List.mem_of_mem_drop hm)
  have hhas : Sa.ps.con.has (fs.getD i (.empty, [])).1 := by rw [h.con]; exact ⟨_, List.mem_map.2 ⟨_, hm, rfl⟩, rfl⟩
  have hA : Sa.ps.arms := ⟨by show Sa.ain ≤ _; have := h.cfg.2.1; omega, ⟨by show _ ≤ Sa.keep; have := h.cfg.2.2.2.1; omega, by show Sa.keep ≤ _; have := h.cfg.2.2.2.1; omega⟩, by show _ ≤ Sa.lose; have := h.cfg.2.2.2.2; omega, by show Sa.lose ≤ _; have := h.cfg.2.2.2.2; omega⟩
  refine (remove_all wr h.dk _ (Nat.le_trans hokn.2.1 (by decide)) hA (by have := h.cfg.2.2.1; omega)).mono ?_
  rintro e w2 ⟨c, Sa', rfl, e1, e2, e3, e4⟩
  refine ⟨c, rfl, Sa', ?_, hk.fr h.dk hBa e4⟩
  rcases e2 with ⟨⟨c0, a⟩, _⟩ | ⟨_, _, _, _, b⟩
  · exfalso
    rcases a with a | ⟨_, _, a, _⟩
    · rcases a with ⟨a, _⟩ | ⟨_, ⟨s, hs, a⟩, _⟩ | ⟨_, _, a⟩
      · rw [show Sa.ps.off = Sa.off from rfl, h.cfg.1] at a; cases a
      · rw [List.mem_singleton.1 hs] at a; exact a hokn
      · exact c0 a
    · exact a hhas
  · rw [wrote_next h.cfg.2.1] at b
    refine ⟨e3, e1, ?_, (congrArg PS.off b).trans h.cfg.1, ?_, ?_, (congrArg PS.keep b).trans h.cfg.2.2.2.1, (congrArg PS.lose b).trans h.cfg.2.2.2.2⟩
    · rw [b]
      show Con.drop Sa.ps.con _ = _
      rw [h.con, con1_drop hok.2.1 hi]
    · have h1 : Sa'.ain = Sa.ain - 1 := congrArg PS.ain b
      have := h.cfg.2.1; omega
    · have h1 : Sa'.wr = Sa.wr + 1 := congrArg PS.wr b
      have := h.cfg.2.2.1; omega
end

end Go.Proofs.Ytiblnkiecpcdpaa

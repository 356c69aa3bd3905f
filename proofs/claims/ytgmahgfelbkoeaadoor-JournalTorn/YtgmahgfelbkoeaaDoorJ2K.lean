/- A log is opened. -/
import Derived.Test.YtgmahgfelbkoeaaDoorJ2J
import Derived.Recover
namespace Go.Proofs.YtgmahgfelbkoeaaDoor
open Go.RowKit
set_option linter.unusedVariables false
set_option linter.unusedSimpArgs false

set_option maxRecDepth 100000 in
theorem openedC (g1 g2 g3 : Nat) (u : FrameMode) (w : World) (h : w.cell? ⟨g1, 0, none⟩ = some (.int .i64 0)) :
    CallsD Tryd.prog 33 #[.pointer (some ⟨g1, 0, none⟩), .pointer (some ⟨g2, 0, none⟩), .pointer (some ⟨g3, 0, none⟩)] u w fun e u' w' => u' = u ∧ (e = .returned (.tuple #[]) ∧ w' = w) := by
  go_enter_d Tryd.func33, Tryd.ntmps33
  go_wp2
  go_end0
  exact ⟨rfl, rfl⟩

set_option maxRecDepth 100000 in
theorem sprefix_nil (s : ByteArray) (w : World) (hs : s.size ≤ 1000) : Calls Tryd.prog 35 #[.string s, .string (strOf [])] w fun e w' => e = .returned (.bool true) ∧ w' = w := by
  have e : strOf [] = ⟨#[]⟩ := by rfl
  rw [e]
  have h0 : (0 : Int) ≤ (s.size : Int) := by omega
  go_enter Tryd.func35, Tryd.ntmps35
  go_wp2
  go_ret
  exact ⟨by simp, rfl⟩

theorem results3 {fn : Func} {a b c : Tmp} (h : fn.results = #[.cell a 31, .cell b 22, .cell c 26]) (tmps : Array Value) (b1 b2 b3 : Nat) (h1 : tmps.getD a undef = .pointer (some ⟨b1, 0, none⟩)) (h2 : tmps.getD b undef = .pointer (some ⟨b2, 0, none⟩)) (h3 : tmps.getD c undef = .pointer (some ⟨b3, 0, none⟩)) (w : World) {v1 v2 v3 : Value} (c1 : w.cell? ⟨b1, 0, none⟩ = some v1) (c2 : w.cell? ⟨b2, 0, none⟩ = some v2) (c3 : w.cell? ⟨b3, 0, none⟩ = some v3) : (results fn tmps).run Tryd.prog w = .ok (.tuple #[v1, v2, v3]) w := by
  have h1' : tmps[a]?.getD undef = .pointer (some ⟨b1, 0, none⟩) := by simpa using h1
  have h2' : tmps[b]?.getD undef = .pointer (some ⟨b2, 0, none⟩) := by simpa using h2
  have h3' : tmps[c]?.getD undef = .pointer (some ⟨b3, 0, none⟩) := by simpa using h3
  have l1 : (loadVar 31 ⟨b1, 0, none⟩).run Tryd.prog w = .ok v1 w := by simp [loadVar, Tryd.isAgg31, Result.andThen, c1]
  have l2 : (loadVar 22 ⟨b2, 0, none⟩).run Tryd.prog w = .ok v2 w := by simp [loadVar, Tryd.isAgg22, Result.andThen, c2]
  have l3 : (loadVar 26 ⟨b3, 0, none⟩).run Tryd.prog w = .ok v3 w := by simp [loadVar, Tryd.isAgg26, Result.andThen, c3]
  simp [results, h, h1', h2', h3', asAddr, l1, l2, l3, Result.andThen]

/-- The three variables that opened tells. -/
structure Bx (w : World) (b1 b2 b3 : Nat) (v1 v2 v3 : Value) : Prop where
  h1 : w.heap[b1]? = some (.cells #[v1] 31 (0, 0))
  h2 : w.heap[b2]? = some (.cells #[v2] 22 (0, 0))
  h3 : w.heap[b3]? = some (.cells #[v3] 26 (0, 0))

theorem Bx.c1 {w : World} {b1 b2 b3 : Nat} {v1 v2 v3 : Value} (h : Bx w b1 b2 b3 v1 v2 v3) : w.cell? ⟨b1, 0, none⟩ = some v1 := by rw [cell_of_row _ _ _ _ _ _ h.h1]; rfl
theorem Bx.c2 {w : World} {b1 b2 b3 : Nat} {v1 v2 v3 : Value} (h : Bx w b1 b2 b3 v1 v2 v3) : w.cell? ⟨b2, 0, none⟩ = some v2 := by rw [cell_of_row _ _ _ _ _ _ h.h2]; rfl
theorem Bx.c3 {w : World} {b1 b2 b3 : Nat} {v1 v2 v3 : Value} (h : Bx w b1 b2 b3 v1 v2 v3) : w.cell? ⟨b3, 0, none⟩ = some v3 := by rw [cell_of_row _ _ _ _ _ _ h.h3]; rfl
theorem Bx.keep {w w' : World} {b1 b2 b3 : Nat} {v1 v2 v3 : Value} (h : Bx w b1 b2 b3 v1 v2 v3) (e1 : w'.heap[b1]? = w.heap[b1]?) (e2 : w'.heap[b2]? = w.heap[b2]?) (e3 : w'.heap[b3]? = w.heap[b3]?) : Bx w' b1 b2 b3 v1 v2 v3 := ⟨e1.trans h.h1, e2.trans h.h2, e3.trans h.h3⟩
theorem Bx.fr {w w' : World} {F F' : Nat → Prop} {b1 b2 b3 : Nat} {v1 v2 v3 : Value} (h : Bx w b1 b2 b3 v1 v2 v3) (hf : Fr w F w' F') (n1 : ¬ F b1) (n2 : ¬ F b2) (n3 : ¬ F b3) : Bx w' b1 b2 b3 v1 v2 v3 := h.keep (hf.block _ (heap_lt h.h1) n1).2 (hf.block _ (heap_lt h.h2) n2).2 (hf.block _ (heap_lt h.h3) n3).2
theorem Bx.fx {w w' : World} {F F' : Nat → Prop} {x b1 b2 b3 : Nat} {v1 v2 v3 : Value} (h : Bx w b1 b2 b3 v1 v2 v3) (hf : Fx x w F w' F') (n1 : ¬ F b1) (n2 : ¬ F b2) (n3 : ¬ F b3) (x1 : b1 ≠ x) (x2 : b2 ≠ x) (x3 : b3 ≠ x) : Bx w' b1 b2 b3 v1 v2 v3 := h.keep ((hf.block _ (heap_lt h.h1) n1).2 x1) ((hf.block _ (heap_lt h.h2) n2).2 x2) ((hf.block _ (heap_lt h.h3) n3).2 x3)
theorem Bx.set3 {w : World} {b1 b2 b3 : Nat} {v1 v2 v3 : Value} (h : Bx w b1 b2 b3 v1 v2 v3) (v : Value) : Bx (w.setCell ⟨b3, 0, none⟩ v) b1 b2 b3 v1 v2 v := by
  refine ⟨(Below.heap_setCell _ _ _ _ (fun e => ?_)).trans h.h1, (Below.heap_setCell _ _ _ _ (fun e => ?_)).trans h.h2, by rw [heap_set_at h.h3]; rfl⟩
  · have e' : b1 = b3 := e; have := h.h1; rw [e', h.h3] at this; simp at this
  · have e' : b2 = b3 := e; have := h.h2; rw [e', h.h3] at this; simp at this
theorem Bx.set2 {w : World} {b1 b2 b3 : Nat} {v1 v2 v3 : Value} (h : Bx w b1 b2 b3 v1 v2 v3) (v : Value) : Bx (w.setCell ⟨b2, 0, none⟩ v) b1 b2 b3 v1 v v3 := by
  refine ⟨(Below.heap_setCell _ _ _ _ (fun e => ?_)).trans h.h1, by rw [heap_set_at h.h2]; rfl, (Below.heap_setCell _ _ _ _ (fun e => ?_)).trans h.h3⟩
  · have e' : b1 = b2 := e; have := h.h1; rw [e', h.h2] at this; simp at this
  · have e' : b3 = b2 := e; have := h.h3; rw [e', h.h2] at this; simp at this
theorem Bx.set1 {w : World} {b1 b2 b3 : Nat} {v1 v2 v3 : Value} (h : Bx w b1 b2 b3 v1 v2 v3) (v : Value) : Bx (w.setCell ⟨b1, 0, none⟩ v) b1 b2 b3 v v2 v3 := by
  refine ⟨by rw [heap_set_at h.h1]; rfl, (Below.heap_setCell _ _ _ _ (fun e => ?_)).trans h.h2, (Below.heap_setCell _ _ _ _ (fun e => ?_)).trans h.h3⟩
  · have e' : b2 = b1 := e; have := h.h2; rw [e', h.h1] at this; simp at this
  · have e' : b3 = b1 := e; have := h.h3; rw [e', h.h1] at this; simp at this

/-- What is known while opened runs. -/
structure Op0 (B : Nat) (w0 w : World) (l d : Nat) (p : PS) (F0 F : Nat → Prop) (nm : ByteArray) (sz ct : Nat) (b1 b2 b3 : Nat) (v1 v2 v3 : Value) : Prop where
  di : Di B w d p F
  lg : Lg w l d nm sz ct
  bx : Bx w b1 b2 b3 v1 v2 v3
  nl : ¬ F l
  n1 : ¬ F b1
  n2 : ¬ F b2
  n3 : ¬ F b3
  x1 : b1 ≠ l
  x2 : b2 ≠ l
  x3 : b3 ≠ l
  ge : w0.heap.size ≤ b1 ∧ w0.heap.size ≤ b2 ∧ w0.heap.size ≤ b3
  fx : Fx l w0 F0 w F

theorem Fx.new {l : Nat} {w w' : World} {F F' : Nat → Prop} (h : Fx l w F w' F') {b i : Nat} (hb : w.heap.size ≤ b) (v : Value) : Fx l w F (w'.setCell ⟨b, i, none⟩ v) F' := ⟨h.os, h.tape, h.output, Nat.le_trans h.size (by simp [World.setCell]), fun k hk hn => ⟨(h.block k hk hn).1, fun hx => (Below.heap_setCell _ _ _ _ (fun e => by have e' : k = b := e; omega)).trans ((h.block k hk hn).2 hx)⟩⟩

section
variable {B : Nat} {w0 w w' : World} {l d : Nat} {p p' : PS} {F0 F F' : Nat → Prop} {nm : ByteArray} {sz ct sz' ct' b1 b2 b3 : Nat} {v1 v2 v3 : Value}
theorem Op0.set3 (h : Op0 B w0 w l d p F0 F nm sz ct b1 b2 b3 v1 v2 v3) (v : Value) : Op0 B w0 (w.setCell ⟨b3, 0, none⟩ v) l d p F0 F nm sz ct b1 b2 b3 v1 v2 v := { h with di := h.di.setCell (a := ⟨b3, 0, none⟩) h.n3 v, lg := (Below.heap_setCell _ _ _ _ (Ne.symm h.x3)).trans h.lg, bx := h.bx.set3 v, fx := h.fx.new h.ge.2.2 v }
theorem Op0.set2 (h : Op0 B w0 w l d p F0 F nm sz ct b1 b2 b3 v1 v2 v3) (v : Value) : Op0 B w0 (w.setCell ⟨b2, 0, none⟩ v) l d p F0 F nm sz ct b1 b2 b3 v1 v v3 := { h with di := h.di.setCell (a := ⟨b2, 0, none⟩) h.n2 v, lg := (Below.heap_setCell _ _ _ _ (Ne.symm h.x2)).trans h.lg, bx := h.bx.set2 v, fx := h.fx.new h.ge.2.1 v }
theorem Op0.set1 (h : Op0 B w0 w l d p F0 F nm sz ct b1 b2 b3 v1 v2 v3) (v : Value) : Op0 B w0 (w.setCell ⟨b1, 0, none⟩ v) l d p F0 F nm sz ct b1 b2 b3 v v2 v3 := { h with di := h.di.setCell (a := ⟨b1, 0, none⟩) h.n1 v, lg := (Below.heap_setCell _ _ _ _ (Ne.symm h.x1)).trans h.lg, bx := h.bx.set1 v, fx := h.fx.new h.ge.1 v }
theorem Op0.fr (h : Op0 B w0 w l d p F0 F nm sz ct b1 b2 b3 v1 v2 v3) (hf : Fr w F w' F') (hd : Di B w' d p' F') : Op0 B w0 w' l d p' F0 F' nm sz ct b1 b2 b3 v1 v2 v3 :=
  { h with di := hd, lg := h.lg.fr hf h.nl, bx := h.bx.fr hf h.n1 h.n2 h.n3, nl := (hf.block _ (heap_lt h.lg) h.nl).1, n1 := (hf.block _ (heap_lt h.bx.h1) h.n1).1, n2 := (hf.block _ (heap_lt h.bx.h2) h.n2).1, n3 := (hf.block _ (heap_lt h.bx.h3) h.n3).1, fx := h.fx.trans hf.fx }
theorem Op0.fxx (h : Op0 B w0 w l d p F0 F nm sz ct b1 b2 b3 v1 v2 v3) (hf : Fx l w F w' F') (hd : Di B w' d p' F') (hl : Lg w' l d nm sz' ct') : Op0 B w0 w' l d p' F0 F' nm sz' ct' b1 b2 b3 v1 v2 v3 :=
  { h with di := hd, lg := hl, bx := h.bx.fx hf h.n1 h.n2 h.n3 h.x1 h.x2 h.x3, nl := (hf.block _ (heap_lt h.lg) h.nl).1, n1 := (hf.block _ (heap_lt h.bx.h1) h.n1).1, n2 := (hf.block _ (heap_lt h.bx.h2) h.n2).1, n3 := (hf.block _ (heap_lt h.bx.h3) h.n3).1, fx := h.fx.trans hf }
theorem Op0.drew (h : Op0 B w0 w l d p F0 F nm sz ct b1 b2 b3 v1 v2 v3) : Op0 B w0 w.drew l d p F0 F nm sz ct b1 b2 b3 v1 v2 v3 := h.fr ⟨rfl, rfl, rfl, Nat.le_refl _, fun k _ hn => ⟨hn, rfl⟩⟩ h.di.drew
theorem Op0.setS (h : Op0 B w0 w l d p F0 F nm sz ct b1 b2 b3 v1 v2 v3) (k : Nat) : Op0 B w0 (w.setCell ⟨l, 2, none⟩ (.int .i64 (k : Int))) l d p F0 F nm k ct b1 b2 b3 v1 v2 v3 := h.fxx (Fx.set l 2 _) (h.di.setCell (a := ⟨l, 2, none⟩) h.nl _) (h.lg.set k)
theorem Op0.setK (h : Op0 B w0 w l d p F0 F nm sz ct b1 b2 b3 v1 v2 v3) (k : Nat) : Op0 B w0 (w.setCell ⟨l, 3, none⟩ (.int .i64 (k : Int))) l d p F0 F nm sz k b1 b2 b3 v1 v2 v3 := h.fxx (Fx.set l 3 _) (h.di.setCell (a := ⟨l, 3, none⟩) h.nl _) (h.lg.setC k)
end

theorem op_start {B : Nat} {l d : Nat} {p : PS} {F : Nat → Prop} {nm : ByteArray} {w : World} (h : Di B w d p F) (hg : Lg w l d nm 0 0) (hl : ¬ F l) :
    Op0 B w (((w.alloc (.cells #[.pointer (some ⟨l, 0, none⟩)] 31)).alloc (.cells #[.slice none 0 0] 22)).alloc (.cells #[.int .i64 0] 26)) l d p F F nm 0 0 w.heap.size (w.heap.size + 1) (w.heap.size + 1 + 1) (.pointer (some ⟨l, 0, none⟩)) (.slice none 0 0) (.int .i64 0) := by
  have hb : Below w.heap.size w (((w.alloc (.cells #[.pointer (some ⟨l, 0, none⟩)] 31)).alloc (.cells #[.slice none 0 0] 22)).alloc (.cells #[.int .i64 0] 26)) := (((Below.refl _ _).alloc (Nat.le_refl _) _).alloc (by simp) _).alloc (by simp; omega) _
  have hlt := heap_lt hg
  have nf : ∀ k, w.heap.size ≤ k → ¬ F k := fun k hk e => by have := h.lt k e; omega
  refine ⟨h.below hb, hg.below hb, ⟨new_kept (new_kept (heap_alloc_new w _) _) _, new_kept (by have := heap_alloc_new (w.alloc (.cells #[.pointer (some ⟨l, 0, none⟩)] 31)) (.cells #[.slice none 0 0] 22); simpa using this) _, by have := heap_alloc_new ((w.alloc (.cells #[.pointer (some ⟨l, 0, none⟩)] 31)).alloc (.cells #[.slice none 0 0] 22)) (.cells #[.int .i64 0] 26); simpa using this⟩, hl, nf _ (Nat.le_refl _), nf _ (by omega), nf _ (by omega), by omega, by omega, by omega, ⟨Nat.le_refl _, by omega, by omega⟩, (Fr.of_below hb).fx⟩

set_option maxRecDepth 100000 in
set_option maxHeartbeats 4000000 in
theorem opened_new {B : Nat} {l d : Nat} {p : PS} {F : Nat → Prop} {nm : ByteArray} (w : World) (h : Di B w d p F) (hg : Lg w l d nm 0 0) (hl : ¬ F l) (hoff : p.off = false) (harm : p.ain = 0) (hwr : p.wr ≤ 999999999) (hs : okN nm) (hc : (∀ y ∈ p.con, y.1 ≠ nm) ∧ p.con.length < 256) (hr : Con.tot p.con + 8 ≤ p.room) :
    Calls Tryd.prog 19 #[.pointer (some ⟨l, 0, none⟩)] w fun e w' => e = .returned (.tuple #[.pointer (some ⟨l, 0, none⟩), .slice none 0 0, .int .i64 0]) ∧ ∃ F', Di B w' d { p with con := Con.lay p.con nm headB, wr := p.wr + 2 } F' ∧ Lg w' l d nm 8 0 ∧ ¬ F' l ∧ Fx l w F w' F' := by
  have hmf : ∀ (fn : Fn) (first cap : Array Value) (w : World), (Instr.makeFunc fn first cap).run Tryd.prog w = .ok (.func fn first cap) w := fun _ _ _ _ => rfl
  have HST := hide (op_start h hg hl)
  have HRD : Hid (∀ w1 F1, Di B w1 d p F1 → Calls Tryd.prog 34 #[.pointer (some ⟨d, 0, none⟩), .string nm] w1 fun e w' => e = .returned (.tuple #[.slice none 0 0, .int .i64 102]) ∧ Di B w' d p F1 ∧ Fr w1 F1 w' F1) := fun w1 F1 h1 => di_read_no w1 h1 hoff nm hs hc.1
  have HBG : Hid (∀ w1 F1, Di B w1 d p F1 → Lg w1 l d nm 0 0 → ¬ F1 l → Calls Tryd.prog 36 #[.pointer (some ⟨l, 0, none⟩), .int .i64 0] w1 _) := fun w1 F1 h1 h2 h3 => begin0_ok w1 h1 h2 h3 hoff harm hwr hs (.inr hc) hr
  have hcv := convert_by (bs := []) (v := .slice none 0 0)
  obtain ⟨b1, e1⟩ : ∃ b1, w.heap.size = b1 := ⟨_, rfl⟩
  obtain ⟨b2, e2⟩ : ∃ b2, b1 + 1 = b2 := ⟨_, rfl⟩
  obtain ⟨b3, e3⟩ : ∃ b3, b2 + 1 = b3 := ⟨_, rfl⟩
  rw [e1, e2, e3] at HST
  have E1 := hide e1
  have E2 := hide e2
  have E3 := hide e3
  clear e1 e2 e3
  clear h hg hl hoff harm hwr hs hc hr
  go_enter_defers Tryd.func19, Tryd.ntmps19
  go_upto_region 3 with fail
  rw [E1.out, E2.out, E3.out]
  obtain ⟨wa, hwa⟩ : ∃ wa, (((w.alloc (.cells #[.pointer (some ⟨l, 0, none⟩)] 31)).alloc (.cells #[.slice none 0 0] 22)).alloc (.cells #[.int .i64 0] 26)) = wa := ⟨_, rfl⟩
  rw [hwa] at HST
  rw [hwa]
  clear hwa E1 E2 E3
  have q1 : wa.drew.cell? ⟨b1, 0, none⟩ = some (.pointer (some ⟨l, 0, none⟩)) := HST.out.bx.c1
  have q2 : wa.drew.cell? ⟨l, 0, none⟩ = some (.pointer (some ⟨d, 0, none⟩)) := HST.out.lg.cell 0 _ rfl
  have q3 : wa.drew.cell? ⟨l, 1, none⟩ = some (.string nm) := HST.out.lg.cell 1 _ rfl
  refine wp_region_noPanic ?_
  refine wp_region_held_drew (S := fun w' => w'.cell? ⟨b1, 0, none⟩ = some (.pointer (some ⟨l, 0, none⟩)) ∧ w'.cell? ⟨l, 0, none⟩ = some (.pointer (some ⟨d, 0, none⟩)) ∧ w'.cell? ⟨l, 1, none⟩ = some (.string nm)) (by kernel_rfl) ⟨q1, q2, q3⟩ (fun hHeld => ?_)
  refine wpAnyH_take (i := 0) (v := ?_) rfl (by kernel_rfl) (by kernel_rfl) (by kernel_rfl) (fun _ _ _ h => h) (Or.inl ⟨by rfl, ?_⟩) hHeld ?_
  rotate_left
  · (intro wq hSw; (try dsimp only at hSw); (try obtain ⟨s0, s1, s2⟩ := hSw); (go_simp <;> with_reducible rfl))
  try simp only [Act.put, List.getElem_toArray, List.getElem_cons_zero, List.getElem_cons_succ, List.setIfInBounds_toArray, List.set_cons_zero, List.set_cons_succ]
  refine wpAnyH_take (i := 1) (v := ?_) rfl (by kernel_rfl) (by kernel_rfl) (by kernel_rfl) (fun _ _ _ h => h) (Or.inl ⟨by rfl, ?_⟩) hHeld ?_
  rotate_left
  · (intro wq hSw; (try dsimp only at hSw); (try obtain ⟨s0, s1, s2⟩ := hSw); (go_simp <;> with_reducible rfl))
  try simp only [Act.put, List.getElem_toArray, List.getElem_cons_zero, List.getElem_cons_succ, List.setIfInBounds_toArray, List.set_cons_zero, List.set_cons_succ]
  refine wpAnyH_take (i := 2) (v := ?_) rfl (by kernel_rfl) (by kernel_rfl) (by kernel_rfl) (fun _ _ _ h => h) (Or.inl ⟨by rfl, ?_⟩) hHeld ?_
  rotate_left
  · (intro wq hSw; (try dsimp only at hSw); (try obtain ⟨s0, s1, s2⟩ := hSw); (go_simp <;> with_reducible rfl))
  try simp only [Act.put, List.getElem_toArray, List.getElem_cons_zero, List.getElem_cons_succ, List.setIfInBounds_toArray, List.set_cons_zero, List.set_cons_succ]
  refine wpAnyH_take (i := 3) (v := ?_) rfl (by kernel_rfl) (by kernel_rfl) (by kernel_rfl) (fun _ _ _ h => h) (Or.inl ⟨by rfl, ?_⟩) hHeld ?_
  rotate_left
  · (intro wq hSw; (try dsimp only at hSw); (try obtain ⟨s0, s1, s2⟩ := hSw); (go_simp <;> with_reducible rfl))
  try simp only [Act.put, List.getElem_toArray, List.getElem_cons_zero, List.getElem_cons_succ, List.setIfInBounds_toArray, List.set_cons_zero, List.set_cons_succ]
  refine wpAnyH_take (i := 4) (v := ?_) rfl (by kernel_rfl) (by kernel_rfl) (by kernel_rfl) (fun _ _ _ h => h) (Or.inl ⟨by rfl, ?_⟩) hHeld ?_
  rotate_left
  · (intro wq hSw; (try dsimp only at hSw); (try obtain ⟨s0, s1, s2⟩ := hSw); (go_simp <;> with_reducible rfl))
  try simp only [Act.put, List.getElem_toArray, List.getElem_cons_zero, List.getElem_cons_succ, List.setIfInBounds_toArray, List.set_cons_zero, List.set_cons_succ]
  refine wpAnyH_take (i := 5) (v := ?_) rfl (by kernel_rfl) (by kernel_rfl) (by kernel_rfl) (fun _ _ _ h => h) (Or.inl ⟨by rfl, ?_⟩) hHeld ?_
  rotate_left
  · (intro wq hSw; (try dsimp only at hSw); (try obtain ⟨s0, s1, s2⟩ := hSw); (go_simp <;> with_reducible rfl))
  try simp only [Act.put, List.getElem_toArray, List.getElem_cons_zero, List.getElem_cons_succ, List.setIfInBounds_toArray, List.set_cons_zero, List.set_cons_succ]
  refine wpAnyH_take (i := 6) (v := ?_) rfl (by kernel_rfl) (by kernel_rfl) (by kernel_rfl) (fun _ _ _ h => h) (Or.inl ⟨by rfl, ?_⟩) hHeld ?_
  rotate_left
  · (intro wq hSw; (try dsimp only at hSw); (try obtain ⟨s0, s1, s2⟩ := hSw); (go_simp <;> with_reducible rfl))
  try simp only [Act.put, List.getElem_toArray, List.getElem_cons_zero, List.getElem_cons_succ, List.setIfInBounds_toArray, List.set_cons_zero, List.set_cons_succ]
  refine wpAnyH_take (i := 7) (v := ?_) rfl (by kernel_rfl) (by kernel_rfl) (by kernel_rfl) (fun _ _ _ h => h) (Or.inl ⟨by rfl, ?_⟩) hHeld ?_
  rotate_left
  · (intro wq hSw; (try dsimp only at hSw); (try obtain ⟨s0, s1, s2⟩ := hSw); (go_simp <;> with_reducible rfl))
  try simp only [Act.put, List.getElem_toArray, List.getElem_cons_zero, List.getElem_cons_succ, List.setIfInBounds_toArray, List.set_cons_zero, List.set_cons_succ]
  refine wpAnyH_ready (rs := [8]) (by kernel_rfl) (by simp) ?_
  refine AllReadyH.cons rfl (fun K hK => ?_) AllReadyH.nil
  go_simp
  refine (HRD.out _ F HST.out.drew.di).mono ?_
  rintro _ wb ⟨rfl, hDb, hFb⟩
  have HSB := hide (HST.out.drew.fr hFb hDb)
  clear hDb hFb
  have r1 := HSB.out.bx.c1
  have r2 := HSB.out.lg.cell 0 _ rfl
  have r3 := HSB.out.lg.cell 1 _ rfl
  have d3 := HSB.out.bx.c3
  have g3 := frozen_of HSB.out.bx.h3 0
  refine hK.out _ _ ⟨r1, r2, r3⟩ (fun hHeld => ?_)
  clear hK K
  try simp only [Act.put, List.getElem_toArray, List.getElem_cons_zero, List.getElem_cons_succ, List.setIfInBounds_toArray, List.set_cons_zero, List.set_cons_succ]
  refine wpAnyH_take (i := 9) (v := ?_) rfl (by kernel_rfl) (by kernel_rfl) (by kernel_rfl) (fun _ _ _ h => h) (Or.inl ⟨by rfl, ?_⟩) hHeld ?_
  rotate_left
  · (intro wq hSw; (try dsimp only at hSw); (try obtain ⟨s0, s1, s2⟩ := hSw); (go_simp <;> with_reducible rfl))
  try simp only [Act.put, List.getElem_toArray, List.getElem_cons_zero, List.getElem_cons_succ, List.setIfInBounds_toArray, List.set_cons_zero, List.set_cons_succ]
  refine wpAnyH_take (i := 10) (v := ?_) rfl (by kernel_rfl) (by kernel_rfl) (by kernel_rfl) (fun _ _ _ h => h) (Or.inl ⟨by rfl, ?_⟩) hHeld ?_
  rotate_left
  · (intro wq hSw; (try dsimp only at hSw); (try obtain ⟨s0, s1, s2⟩ := hSw); (go_simp <;> with_reducible rfl))
  try simp only [Act.put, List.getElem_toArray, List.getElem_cons_zero, List.getElem_cons_succ, List.setIfInBounds_toArray, List.set_cons_zero, List.set_cons_succ]
  refine wpAnyH_take (i := 11) (v := ?_) rfl (by kernel_rfl) (by kernel_rfl) (by kernel_rfl) (fun _ _ _ h => h) (Or.inl ⟨by rfl, ?_⟩) hHeld ?_
  rotate_left
  · (intro wq hSw; (try dsimp only at hSw); (try obtain ⟨s0, s1, s2⟩ := hSw); (go_simp <;> with_reducible rfl))
  try simp only [Act.put, List.getElem_toArray, List.getElem_cons_zero, List.getElem_cons_succ, List.setIfInBounds_toArray, List.set_cons_zero, List.set_cons_succ]
  refine wpAnyH_take (i := 12) (v := ?_) rfl (by kernel_rfl) (by kernel_rfl) (by kernel_rfl) (fun _ _ _ h => h) (Or.inl ⟨by rfl, ?_⟩) hHeld ?_
  rotate_left
  · (intro wq hSw; (try dsimp only at hSw); (try obtain ⟨s0, s1, s2⟩ := hSw); (go_simp <;> with_reducible rfl))
  try simp only [Act.put, List.getElem_toArray, List.getElem_cons_zero, List.getElem_cons_succ, List.setIfInBounds_toArray, List.set_cons_zero, List.set_cons_succ]
  refine wpAnyH_ready (rs := [13]) (by kernel_rfl) (by simp) ?_
  refine AllReadyH.cons rfl (fun K hK => ?_) AllReadyH.nil
  go_simp
  obtain ⟨wc, hwc⟩ : ∃ wc, wb.setCell ⟨b3, 0, none⟩ (.int .i64 102) = wc := ⟨_, rfl⟩
  have HSC := hide (HSB.out.set3 (.int .i64 102))
  have HWC := hide hwc
  rw [hwc] at HSC
  rw [hwc]
  clear hwc r1 r2 r3 d3 g3 q1 q2 q3
  have r1 := HSC.out.bx.c1
  have r2 := HSC.out.lg.cell 0 _ rfl
  have r3 := HSC.out.lg.cell 1 _ rfl
  have d3 := HSC.out.bx.c3
  refine hK.out _ _ ⟨r1, r2, r3⟩ (fun hHeld => ?_)
  clear hK K
  try simp only [Act.put, List.getElem_toArray, List.getElem_cons_zero, List.getElem_cons_succ, List.setIfInBounds_toArray, List.set_cons_zero, List.set_cons_succ]
  refine wpAnyH_done (by kernel_rfl) ?_ _
  refine NoPanic.normal ?_
  have hcv0 := hcv wc (.inl (.inl ⟨rfl, rfl⟩))
  clear hcv
  go_upto_region 7 with (first | simp only [hcv0] | (go_at_call 35; refine (sprefix_nil _ _ (by decide)).mono ?_; rintro e w' ⟨rfl, hw⟩; have hw2 := hw.symm; subst hw2))
  have q1 : wc.drew.cell? ⟨b1, 0, none⟩ = some (.pointer (some ⟨l, 0, none⟩)) := HSC.out.bx.c1
  have q2 : wc.drew.cell? ⟨b2, 0, none⟩ = some (.slice none 0 0) := HSC.out.bx.c2
  refine wp_region_noPanic ?_
  refine wp_region_held_drew (S := fun w' => w'.cell? ⟨b1, 0, none⟩ = some (.pointer (some ⟨l, 0, none⟩)) ∧ w'.cell? ⟨b2, 0, none⟩ = some (.slice none 0 0)) (by kernel_rfl) ⟨q1, q2⟩ (fun hHeld => ?_)
  refine wpAnyH_take (i := 0) (v := ?_) rfl (by kernel_rfl) (by kernel_rfl) (by kernel_rfl) (fun _ _ _ h => h) (Or.inl ⟨by rfl, ?_⟩) hHeld ?_
  rotate_left
  · (intro wq hSw; (try dsimp only at hSw); (try obtain ⟨s0, s1⟩ := hSw); (go_simp <;> with_reducible rfl))
  try simp only [Act.put, List.getElem_toArray, List.getElem_cons_zero, List.getElem_cons_succ, List.setIfInBounds_toArray, List.set_cons_zero, List.set_cons_succ]
  refine wpAnyH_take (i := 1) (v := ?_) rfl (by kernel_rfl) (by kernel_rfl) (by kernel_rfl) (fun _ _ _ h => h) (Or.inl ⟨by rfl, ?_⟩) hHeld ?_
  rotate_left
  · (intro wq hSw; (try dsimp only at hSw); (try obtain ⟨s0, s1⟩ := hSw); (go_simp <;> with_reducible rfl))
  try simp only [Act.put, List.getElem_toArray, List.getElem_cons_zero, List.getElem_cons_succ, List.setIfInBounds_toArray, List.set_cons_zero, List.set_cons_succ]
  refine wpAnyH_take (i := 2) (v := ?_) rfl (by kernel_rfl) (by kernel_rfl) (by kernel_rfl) (fun _ _ _ h => h) (Or.inl ⟨by rfl, ?_⟩) hHeld ?_
  rotate_left
  · (intro wq hSw; (try dsimp only at hSw); (try obtain ⟨s0, s1⟩ := hSw); (go_simp <;> with_reducible rfl))
  try simp only [Act.put, List.getElem_toArray, List.getElem_cons_zero, List.getElem_cons_succ, List.setIfInBounds_toArray, List.set_cons_zero, List.set_cons_succ]
  refine wpAnyH_take (i := 3) (v := ?_) rfl (by kernel_rfl) (by kernel_rfl) (by kernel_rfl) (fun _ _ _ h => h) (Or.inl ⟨by rfl, ?_⟩) hHeld ?_
  rotate_left
  · (intro wq hSw; (try dsimp only at hSw); (try obtain ⟨s0, s1⟩ := hSw); (go_simp <;> with_reducible rfl))
  try simp only [Act.put, List.getElem_toArray, List.getElem_cons_zero, List.getElem_cons_succ, List.setIfInBounds_toArray, List.set_cons_zero, List.set_cons_succ]
  refine wpAnyH_take (i := 4) (v := ?_) rfl (by kernel_rfl) (by kernel_rfl) (by kernel_rfl) (fun _ _ _ h => h) (Or.inl ⟨by rfl, ?_⟩) hHeld ?_
  rotate_left
  · (intro wq hSw; (try dsimp only at hSw); (try obtain ⟨s0, s1⟩ := hSw); (go_simp <;> with_reducible rfl))
  try simp only [Act.put, List.getElem_toArray, List.getElem_cons_zero, List.getElem_cons_succ, List.setIfInBounds_toArray, List.set_cons_zero, List.set_cons_succ]
  refine wpAnyH_ready (rs := [5]) (by kernel_rfl) (by simp) ?_
  refine AllReadyH.cons rfl (fun K hK => ?_) AllReadyH.nil
  go_simp
  refine (HBG.out _ F HSC.out.drew.di HSC.out.drew.lg HSC.out.drew.nl).mono ?_
  rintro _ wd ⟨rfl, F2, hD2, hL2, hn2, hX2⟩
  have HSd := hide (HSC.out.drew.fxx hX2 hD2 hL2)
  clear hD2 hL2 hn2 hX2
  have z1d := HSd.out.bx.c1
  have z2d := HSd.out.bx.c2
  have z3d := HSd.out.bx.c3
  have y1d := frozen_of HSd.out.bx.h1 0
  have y2d := frozen_of HSd.out.bx.h2 0
  have y3d := frozen_of HSd.out.bx.h3 0
  refine hK.out _ _ ⟨z1d, z2d⟩ (fun hHeld => ?_)
  clear hK K
  try simp only [Act.put, List.getElem_toArray, List.getElem_cons_zero, List.getElem_cons_succ, List.setIfInBounds_toArray, List.set_cons_zero, List.set_cons_succ]
  refine wpAnyH_ready (rs := [6]) (by kernel_rfl) (by simp) ?_
  refine AllReadyH.cons rfl (fun K hK => ?_) AllReadyH.nil
  go_simp
  obtain ⟨we, hwe⟩ : ∃ we, wd.setCell ⟨b1, 0, none⟩ (.pointer (some ⟨l, 0, none⟩)) = we := ⟨_, rfl⟩
  have HSe := hide (HSd.out.set1 (.pointer (some ⟨l, 0, none⟩)))
  rw [hwe] at HSe
  rw [hwe]
  clear hwe
  have z1e := HSe.out.bx.c1
  have z2e := HSe.out.bx.c2
  have z3e := HSe.out.bx.c3
  have y1e := frozen_of HSe.out.bx.h1 0
  have y2e := frozen_of HSe.out.bx.h2 0
  have y3e := frozen_of HSe.out.bx.h3 0
  refine hK.out _ _ ⟨z1e, z2e⟩ (fun hHeld => ?_)
  clear hK K
  try simp only [Act.put, List.getElem_toArray, List.getElem_cons_zero, List.getElem_cons_succ, List.setIfInBounds_toArray, List.set_cons_zero, List.set_cons_succ]
  refine wpAnyH_ready (rs := [7]) (by kernel_rfl) (by simp) ?_
  refine AllReadyH.cons rfl (fun K hK => ?_) AllReadyH.nil
  go_simp
  obtain ⟨wf, hwf⟩ : ∃ wf, we.setCell ⟨b2, 0, none⟩ (.slice none 0 0) = wf := ⟨_, rfl⟩
  have HSf := hide (HSe.out.set2 (.slice none 0 0))
  rw [hwf] at HSf
  rw [hwf]
  clear hwf
  have z1f := HSf.out.bx.c1
  have z2f := HSf.out.bx.c2
  have z3f := HSf.out.bx.c3
  have y1f := frozen_of HSf.out.bx.h1 0
  have y2f := frozen_of HSf.out.bx.h2 0
  have y3f := frozen_of HSf.out.bx.h3 0
  refine hK.out _ _ ⟨z1f, z2f⟩ (fun hHeld => ?_)
  clear hK K
  try simp only [Act.put, List.getElem_toArray, List.getElem_cons_zero, List.getElem_cons_succ, List.setIfInBounds_toArray, List.set_cons_zero, List.set_cons_succ]
  refine wpAnyH_ready (rs := [8]) (by kernel_rfl) (by simp) ?_
  refine AllReadyH.cons rfl (fun K hK => ?_) AllReadyH.nil
  go_simp
  obtain ⟨wg, hwg⟩ : ∃ wg, wf.setCell ⟨b3, 0, none⟩ (.int .i64 0) = wg := ⟨_, rfl⟩
  have HSg := hide (HSf.out.set3 (.int .i64 0))
  rw [hwg] at HSg
  rw [hwg]
  clear hwg
  have z1g := HSg.out.bx.c1
  have z2g := HSg.out.bx.c2
  have z3g := HSg.out.bx.c3
  have y1g := frozen_of HSg.out.bx.h1 0
  have y2g := frozen_of HSg.out.bx.h2 0
  have y3g := frozen_of HSg.out.bx.h3 0
  refine hK.out _ _ ⟨z1g, z2g⟩ (fun hHeld => ?_)
  clear hK K
  try simp only [Act.put, List.getElem_toArray, List.getElem_cons_zero, List.getElem_cons_succ, List.setIfInBounds_toArray, List.set_cons_zero, List.set_cons_succ]
  refine wpAnyH_done (by kernel_rfl) ?_ _
  refine NoPanic.normal ?_
  go_wp2_with fail
  refine leaves_cons (f := 33) (args := #[.pointer (some ⟨b3, 0, none⟩), .pointer (some ⟨b1, 0, none⟩), .pointer (some ⟨b2, 0, none⟩)]) (by simp) (by simp [go_sem]) ?_
  refine (openedC b3 b1 b2 .returning _ z3g).mono ?_
  rintro e u' w'' ⟨rfl, rfl, rfl⟩
  refine ⟨.tuple #[.pointer (some ⟨l, 0, none⟩), .slice none 0 0, .int .i64 0], results3 (by rfl) _ b1 b2 b3 rfl rfl rfl _ z1g z2g z3g, rfl, F2, HSg.out.di, HSg.out.lg, HSg.out.nl, HSg.out.fx⟩

end Go.Proofs.YtgmahgfelbkoeaaDoor

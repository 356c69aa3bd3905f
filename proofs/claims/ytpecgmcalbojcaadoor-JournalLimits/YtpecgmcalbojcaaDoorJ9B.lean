/- JournalLimits: what it makes, and what Append says of it. -/
import Derived.Test.YtpecgmcalbojcaaDoorJ9A
import Derived.Test.YtpecgmcalbojcaaDoorJ8B
import Derived.Test.YtpecgmcalbojcaaDoorJ3A
namespace Go.Proofs.YtpecgmcalbojcaaDoor
open Go.RowKit
set_option linter.unusedVariables false
set_option linter.unusedSimpArgs false

/-- Rows that are made. -/
theorem mk_row (c : Nat) (h : c ≤ 1000000000) : ∃ X : Obj, (∀ W : World, (Instr.makeSlice 40 (.int .i64 (c : Int)) (.int .i64 (c : Int))).run Tryd.prog W = .ok (.slice (some ⟨W.heap.size, 0, none⟩) c c) (W.alloc X)) ∧ ∀ (w : World) (g : Nat), w.heap[g]? = some X → Cy w (some ⟨g, 0, none⟩) c c (List.replicate c 0) := by
  refine ⟨_, fun W => make_bytes c (by omega) W, fun w g hg => ⟨?_, by simp, Nat.le_refl _, by simp⟩⟩
  have hg' : w.heap[g]? = some (.cells (bytesV (List.replicate c 0)).toArray 5 (0, 0)) := by
    rw [hg]
    simp [bytesV]
  have := isBy_cells (cap := c) hg'
  rwa [List.length_replicate] at this

theorem make_rows (c : Nat) (h : c ≤ 1000000000) : ∃ X : Obj, (∀ W : World, (Instr.makeSlice 37 (.int .i64 (c : Int)) (.int .i64 (c : Int))).run Tryd.prog W = .ok (.slice (some ⟨W.heap.size, 0, none⟩) c c) (W.alloc X)) ∧ ∀ (w : World) (g : Nat), w.heap[g]? = some X → ∀ i, i < c → w.cell? ⟨g, i, none⟩ = some (.slice none 0 0) := by
  obtain ⟨i0, hi, hz0, hz1, hz2⟩ := info40
  obtain ⟨M, hM⟩ : ∃ M, M = madeCells (Value.slice none 0 0).cells (((c : Nat) : Int).toNat * i0.size) := ⟨_, rfl⟩
  have hMs : M.size = c := by rw [hM, size_madeCells, hz1]; simp
  refine ⟨.cells M 40, fun W => ?_, fun w g hg i hi' => ?_⟩
  · have h := run_make (P := Tryd.prog) W 37 40 i0 (.slice none 0 0) Tryd.underlying37 hi hz0 .i64 .i64 (c : Int) (c : Int) (by omega) (by omega) (by rw [hz2]; omega) (by omega)
    rw [← hM] at h
    simpa using h
  · have hg' : w.heap[g]? = some (.cells M 40 (0, 0)) := hg
    rw [cell_of_row _ _ _ _ _ _ hg']
    have hiM : i < M.size := by omega
    rw [Array.getElem?_eq_getElem hiM]
    subst hM
    simp [madeCells, Value.cells, Nat.mod_one]

theorem bodyP_none : ∀ m, (bodyP (fun _ => []) m).length = 4 * m
  | 0 => rfl
  | m + 1 => by simp only [bodyP, List.length_append, bodyP_none m, four_len, List.length_nil]; omega
theorem bodyB_none (m : Nat) : (bodyB (List.replicate m [])).length = 4 * m := by
  induction m with
  | zero => rfl
  | succ m ih => rw [List.replicate_succ, row_len, ih, List.length_nil]; omega

/-- A row alone. -/
theorem rowA_one {w : World} {g : Nat} {u : Value} {bs : List Nat} (c : Nat) (hc : w.cell? ⟨g, 0, none⟩ = some u) (hu : IsBy w u bs) : RowA w (.slice (some ⟨g, 0, none⟩) 1 c) [bs] := ⟨_, c, rfl, fun i hi => by
  have : i = 0 := by simpa using hi
  subst this
  exact ⟨g, u, rfl, hc, hu⟩⟩
theorem rowA_none {w : World} {g : Nat} (m c : Nat) (h : ∀ i, i < m → w.cell? ⟨g, i, none⟩ = some (.slice none 0 0)) : RowA w (.slice (some ⟨g, 0, none⟩) m c) (List.replicate m []) := ⟨_, c, by rw [List.length_replicate], fun i hi => by
  rw [List.length_replicate] at hi
  refine ⟨g, _, rfl, h i hi, ?_⟩
  have e : (List.replicate m ([] : List Nat)).getD i [] = [] := by simp [List.getD, hi]
  rw [e]
  exact .inl (.inl ⟨rfl, rfl⟩)⟩
theorem rowA_nil (w : World) : RowA w (.slice none 0 0) [] := ⟨none, 0, rfl, fun i hi => by simp at hi⟩

/-- The law's state: the log, and two blocks of the law's own. -/
structure Lim (W w : World) (d l : Nat) (p : PS) (F : Nat → Prop) (ff : List (List (List Nat))) (A g1 g2 : Nat) (X1 X2 : Obj) : Prop where
  log : LogSt W w d l p F ff A
  x1 : Gd W.heap.size w F l g1 ∧ w.heap[g1]? = some X1
  x2 : Gd W.heap.size w F l g2 ∧ w.heap[g2]? = some X2

section
variable {W w w' : World} {d l : Nat} {p p' : PS} {F F' : Nat → Prop} {ff ff' : List (List (List Nat))} {A A' g1 g2 : Nat} {X1 X2 : Obj}
theorem Lim.fx (h : Lim W w d l p F ff A g1 g2 X1 X2) (hf : Fx l w F w' F') (hl : LogSt W w' d l p' F' ff' A') : Lim W w' d l p' F' ff' A' g1 g2 X1 X2 :=
  ⟨hl, ⟨(gd_fx hf g1 h.x1.1).1, (gd_fx hf g1 h.x1.1).2.trans h.x1.2⟩, ⟨(gd_fx hf g2 h.x2.1).1, (gd_fx hf g2 h.x2.1).2.trans h.x2.2⟩⟩
theorem Lim.below (h : Lim W w d l p F ff A g1 g2 X1 X2) (hb : Below w.heap.size w w') : Lim W w' d l p F ff A g1 g2 X1 X2 := h.fx (Fr.of_below hb).fx (h.log.below hb)
theorem Lim.fr (h : Lim W w d l p F ff A g1 g2 X1 X2) (hl : LogSt W w' d l p F ff A) (hf : Fr w F w' F) : Lim W w' d l p F ff A g1 g2 X1 X2 := h.fx hf.fx hl

theorem lim_app (h : Lim W w d l p F ff A g1 g2 X1 X2) (hT : TabC W) (pr : Option Addr) (m cap : Nat) (rs : List (List Nat)) (hr : RowA w (.slice pr m cap) rs) (hb : ∀ r ∈ rs, ∀ x ∈ r, x < 256) (hok : Okr rs) (hA : A ≤ 100000000) (hw : p.wr ≤ 100) (hf : ff.length < 100) :
    Calls Tryd.prog 17 #[.pointer (some ⟨l, 0, none⟩), .slice pr m cap] w fun e w' => e = .returned (.int .i64 0) ∧ ∃ p' F', Lim W w' d l p' F' (ff ++ [rs]) (A + (recB rs).length) g1 g2 X1 X2 ∧ p'.wr = p.wr + 2 := by
  have hl := recB_len rs
  have h2 := hok.2
  refine (log_append h.log hT pr m cap rs hr hb hok (by omega) (by omega) (by omega)).mono ?_
  rintro e w' ⟨rfl, p', F', k1, k2, k3⟩
  exact ⟨rfl, p', F', h.fx k3 k1, k2⟩
end

/-- The two rows as the law hands them in. -/
structure Rws (c : Nat) (X1 X2 : Obj) : Prop where
  a : ∀ (w : World) (g : Nat), w.heap[g]? = some X1 → Cy w (some ⟨g, 0, none⟩) c c (List.replicate c 0)
  b : ∀ (w : World) (g : Nat), w.heap[g]? = some X2 → ∀ i, i < 4097 → w.cell? ⟨g, i, none⟩ = some (.slice none 0 0)

theorem mem_rep {n x : Nat} (h : x ∈ List.replicate n 0) : x < 256 := by rw [(List.mem_replicate.1 h).2]; decide

section
variable {W w : World} {d l : Nat} {p : PS} {F : Nat → Prop} {ff : List (List (List Nat))} {A g1 g2 c : Nat} {X1 X2 : Obj}
theorem lim_long1 (h : Lim W w d l p F ff A g1 g2 X1 X2) (hX : Rws c X1 X2) (hc : 4194300 < c) (hc2 : c ≤ 100000000) :
    Calls Tryd.prog 17 #[.pointer (some ⟨l, 0, none⟩), .slice (some ⟨w.heap.size, 0, none⟩) 1 1] (w.alloc (.cells #[.slice (some ⟨g1, 0, none⟩) c c] 40)) fun e w' => e = .returned (.int .i64 110) ∧ Lim W w' d l p F ff A g1 g2 X1 X2 := by
  have hb : Below w.heap.size w (w.alloc (.cells #[.slice (some ⟨g1, 0, none⟩) c c] 40)) := (Below.refl _ _).alloc (Nat.le_refl _) _
  have h1 := h.below hb
  have hcy := hX.a _ g1 h1.x1.2
  have hrow := rowA_one (w := w.alloc (.cells #[.slice (some ⟨g1, 0, none⟩) c c] 40)) (g := w.heap.size) 1 (by rw [cell_of_row _ _ _ _ _ _ (heap_alloc_new w _)]; rfl) hcy.1
  have hlen : (bodyP (fun i => [List.replicate c 0].getD i []) 1).length = 4 + c := by
    simp only [bodyP, List.length_append, four_len, List.nil_append, List.getD_cons_zero, List.length_replicate]
  refine (lappend_long _ h1.log.lg _ 1 1 _ hrow.parts.2 (by decide) (by rw [hlen]; omega) (fun e => by have := e.2; rw [hlen] at this; omega)).mono ?_
  rintro e w' ⟨rfl, rfl⟩
  exact ⟨rfl, h1⟩

theorem lim_long2 (h : Lim W w d l p F ff A g1 g2 X1 X2) (hX : Rws c X1 X2) :
    Calls Tryd.prog 17 #[.pointer (some ⟨l, 0, none⟩), .slice (some ⟨g2, 0, none⟩) 4097 4097] w fun e w' => e = .returned (.int .i64 110) ∧ Lim W w' d l p F ff A g1 g2 X1 X2 := by
  have hc := hX.b _ g2 h.x2.2
  refine (lappend_long _ h.log.lg _ 4097 4097 (fun _ => []) (fun i hi => ⟨g2, 0, _, rfl, by rw [Nat.zero_add]; exact hc i hi, .inl (.inl ⟨rfl, rfl⟩)⟩) (by decide) (by rw [bodyP_none]; decide) (fun e => by have := e.1; omega)).mono ?_
  rintro e w' ⟨rfl, rfl⟩
  exact ⟨rfl, h⟩

theorem lim_app1 (h : Lim W w d l p F ff A g1 g2 X1 X2) (hX : Rws c X1 X2) (hT : TabC W) (k : Nat) (hk : k ≤ 4194300) (hkc : k ≤ c) (hA : A ≤ 100000000) (hw : p.wr ≤ 100) (hf : ff.length < 100) :
    Calls Tryd.prog 17 #[.pointer (some ⟨l, 0, none⟩), .slice (some ⟨w.heap.size, 0, none⟩) 1 1] (w.alloc (.cells #[.slice (some ⟨g1, 0, none⟩) k c] 40)) fun e w' => e = .returned (.int .i64 0) ∧ ∃ (r1 : List Nat) (p' : PS) (F' : Nat → Prop), r1.length = k ∧ Lim W w' d l p' F' (ff ++ [[r1]]) (A + (12 + k)) g1 g2 X1 X2 ∧ p'.wr = p.wr + 2 := by
  have hb : Below w.heap.size w (w.alloc (.cells #[.slice (some ⟨g1, 0, none⟩) k c] 40)) := (Below.refl _ _).alloc (Nat.le_refl _) _
  have h1 := h.below hb
  have hcy := hX.a _ g1 h1.x1.2
  have hby := isBy_take hcy.1 (by rw [List.length_replicate]) k hkc
  rw [List.take_replicate, show min k c = k from by omega] at hby
  have hrow := rowA_one (w := w.alloc (.cells #[.slice (some ⟨g1, 0, none⟩) k c] 40)) (g := w.heap.size) 1 (by rw [cell_of_row _ _ _ _ _ _ (heap_alloc_new w _)]; rfl) hby
  have hlen : (bodyB [List.replicate k 0]).length = 4 + k := by
    rw [row_len, List.length_replicate]; rfl
  have hrl : (recB [List.replicate k 0]).length = 12 + k := by rw [recB_len, hlen]; omega
  refine (lim_app h1 hT _ 1 1 _ hrow (fun r hr x hx => by rw [List.mem_singleton.1 hr] at hx; exact mem_rep hx) ⟨show 1 ≤ 4096 by decide, by rw [hlen]; omega⟩ hA hw hf).mono ?_
  rintro e w' ⟨rfl, p', F', k1, k2⟩
  rw [hrl] at k1
  exact ⟨rfl, List.replicate k 0, p', F', List.length_replicate, k1, k2⟩

theorem lim_app2 (h : Lim W w d l p F ff A g1 g2 X1 X2) (hX : Rws c X1 X2) (hT : TabC W) (k : Nat) (hk : k ≤ 4096) (hA : A ≤ 100000000) (hw : p.wr ≤ 100) (hf : ff.length < 100) :
    Calls Tryd.prog 17 #[.pointer (some ⟨l, 0, none⟩), .slice (some ⟨g2, 0, none⟩) k 4097] w fun e w' => e = .returned (.int .i64 0) ∧ ∃ (r2 : List (List Nat)) (p' : PS) (F' : Nat → Prop), r2.length = k ∧ Lim W w' d l p' F' (ff ++ [r2]) (A + (8 + 4 * k)) g1 g2 X1 X2 ∧ p'.wr = p.wr + 2 := by
  have hc := hX.b _ g2 h.x2.2
  have hlen := bodyB_none k
  have hrl : (recB (List.replicate k [])).length = 8 + 4 * k := by rw [recB_len, hlen]
  refine (lim_app h hT _ k 4097 _ (rowA_none k 4097 fun i hi => hc i (by omega)) (fun r hr x hx => by rw [(List.mem_replicate.1 hr).2] at hx; simp at hx) ⟨by rw [List.length_replicate]; exact hk, by rw [hlen]; omega⟩ hA hw hf).mono ?_
  rintro e w' ⟨rfl, p', F', k1, k2⟩
  rw [hrl] at k1
  exact ⟨rfl, List.replicate k [], p', F', List.length_replicate, k1, k2⟩

theorem lim_app3 (h : Lim W w d l p F ff A g1 g2 X1 X2) (hT : TabC W) (hA : A ≤ 100000000) (hw : p.wr ≤ 100) (hf : ff.length < 100) :
    Calls Tryd.prog 17 #[.pointer (some ⟨l, 0, none⟩), .slice none 0 0] w fun e w' => e = .returned (.int .i64 0) ∧ ∃ p' F', Lim W w' d l p' F' (ff ++ [[]]) (A + 8) g1 g2 X1 X2 ∧ p'.wr = p.wr + 2 :=
  lim_app h hT none 0 0 [] (rowA_nil w) (fun r hr => by cases hr) ⟨Nat.zero_le _, Nat.zero_le _⟩ hA hw hf
end

end Go.Proofs.YtpecgmcalbojcaaDoor

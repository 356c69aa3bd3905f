/- The Book's lists hold what they held. -/
import Derived.Test.YtangjkhflgkkdaaGreatKX
import Derived.Test.YtangjkhflgkkdaaGreatKN
import Derived.Test.YtangjkhflgkkdaaGreatKEB
import Derived.BigQuiet
/- The Book and the Late: how they begin, a look at them, the walk's state. -/
namespace Go.Proofs.YtangjkhflgkkdaaGreat
open Go.RowKit
open M
set_option linter.unusedVariables false
set_option linter.unusedSimpArgs false

/-- The cells of a Book that has just been made. -/
def bookZ : Array Value := ((List.range 72).map fun j => if j < 69 ∧ j % 3 ≠ 2 then Value.slice none 0 0 else Value.int .i64 0).toArray

theorem built_book : Tryz.prog.built 50 [] = some bookZ := by kernel_rfl

theorem bookZ_at (j : Nat) (h : j < 72) : bookZ[j]? = some (if j < 69 ∧ j % 3 ≠ 2 then Value.slice none 0 0 else Value.int .i64 0) := by
  unfold bookZ
  rw [List.getElem?_toArray, List.getElem?_map, List.getElem?_range h]
  rfl

theorem run_book (w : World) : (Instr.build 50 #[]).run Tryz.prog w = .ok (.agg bookZ) w := run_build (P := Tryz.prog) w 50 #[] bookZ built_book

theorem wp_book {o : Oper} {a : Act} {w : World} {K : Act → World → Prop} {Q : Exit → Act → World → Prop} (ho : o.op = .build 50 #[]) (h : K (a.put o.dst (.agg bookZ)) w) : o.wp Tryz.prog a w K Q := by
  unfold Oper.wp execOp
  simp only [ho, List.map_toArray, List.map_nil, Sem.run_bind, run_book, Result.andThen_ok]
  exact h

theorem wpList_book {ops : Array Oper} {rest : List Oper} {o : Oper} {a : Act} {w : World} {Q : Exit → Act → World → Prop} (hg : o.guard = none) (ho : o.op = .build 50 #[]) (h : wpList Tryz.prog ops Q rest (a.put o.dst (.agg bookZ)) w) : wpList Tryz.prog ops Q (o :: rest) a w :=
  wpList_plain hg fun K hK => wp_book ho (hK _ _ h)

/-- Nothing of any kind. -/
def F0 : Nat → KV := fun _ => ⟨none, none, [], 0⟩

theorem book_of {L : List Kd} (hL : KOk L) {w : World} {NB base : Nat} (hn : w.heap[NB]? = some (.cells bookZ 50 (0, 0))) (hb : NB < base) : BkSt L w NB base F0 0 0 0 := by
  have c : ∀ j, j < 72 → w.cell? ⟨NB, j, none⟩ = some (if j < 69 ∧ j % 3 ≠ 2 then Value.slice none 0 0 else Value.int .i64 0) := fun j hj => by rw [cell_of_row _ _ _ _ _ _ hn]; exact bookZ_at j hj
  refine ⟨fun K hK => ?_, ⟨fun k hk _ => ⟨by rw [c _ (by omega), if_pos (by omega)], by rw [c _ (by omega), if_pos (by omega)], by rw [c _ (by omega), if_neg (by omega)]⟩, fun j hj => frozen_of_row _ _ _ _ _ hn⟩, ⟨by rw [c 69 (by omega)]; rfl, by rw [c 70 (by omega)]; rfl, by rw [c 71 (by omega)]; rfl, fun i h1 h2 => frozen_of_row _ _ _ _ _ hn, by omega, by omega⟩, fun K1 _ K2 _ _ k hk => by simp [F0] at hk⟩
  have hc := hL.c K hK
  exact ⟨⟨_, by rw [c _ (by omega), if_pos (by omega)], World.ownsRow_nil _ _ _ _, rfl⟩, ⟨_, by rw [c _ (by omega), if_pos (by omega)], World.ownsRow_nil _ _ _ _, rfl⟩, by rw [c _ (by omega), if_neg (by omega)]; rfl, fun i hi => frozen_of_row _ _ _ _ _ hn, fun e he => by simp [F0] at he, by simp [F0], hb, fun _ => ⟨rfl, rfl⟩⟩

theorem late_of {w : World} {NL base : Nat} {t : TypeId} (hn : w.heap[NL]? = some (.cells #[.slice none 0 0, .slice none 0 0] t (0, 0))) (hb : NL < base) : LateSt w NL base none none [] := by
  refine ⟨⟨.slice none 0 0, ?_, World.ownsRow_nil _ _ _ _, rfl⟩, ⟨.slice none 0 0, ?_, World.ownsRow_nil _ _ _ _, rfl⟩, frozen_of_row _ _ _ _ _ hn, frozen_of_row _ _ _ _ _ hn, fun g hg => by simp at hg, fun k hk => by simp at hk, hb, fun _ => ⟨rfl, rfl⟩⟩
  · rw [cell_of_row _ _ _ _ _ _ hn]; rfl
  · rw [cell_of_row _ _ _ _ _ _ hn]; rfl

/-- A look at the Book. -/
theorem BL.look {L : List Kd} (hL : KOk L) (hB : kB ∈ L) {w w' : World} {NB NL base : Nat} {F F' : Nat → KV} {T D U : Nat} {rg rw_ : Option Nat} {G : List Got} (h : BL L w NB NL base F T D U rg rw_ G) (hl : LookSt L w NB base F T U F' w') :
    ∃ D', BL L w' NB NL base F' T D' U rg rw_ G := by
  obtain ⟨D2, BS⟩ := hl.st
  have C := hl.chg
  have hNL := h.late.lt
  have hNB := (h.book.st kB hB).le.2.1
  obtain ⟨vg, a1, a2, a3⟩ := h.late.gots
  obtain ⟨vw, b1, b2, b3⟩ := h.late.wants
  refine ⟨D2, BS, h.late.chg C (fun hh => ?_) (fun k hk hh => ?_) (fun g hg k hk hh => ?_) (fun g hg k hk h0 hh => ?_), h.ne, fun K hK => ?_, fun K hK => ?_, h.tot, fun K hK k hk => ?_, fun g hg e he k hk => ?_, h.gg, Nat.le_trans h.base_ C.size⟩
  · rcases hh with hh | ⟨K, hK, hh⟩
    · exact h.ne hh.symm
    · have := (h.rowGe (.inl ⟨K, hK, hh⟩)).1; omega
  · rcases hh with hh | ⟨K, hK, hh⟩
    · have := (h.rowGe (.inr hk)).1; omega
    · rcases hh with hh | hh
      · have hr := h.rows K hK k hh
        rcases hk with hk | hk
        · exact hr.1 hk
        · exact hr.2 hk
      · obtain ⟨vo, y1, y2, y3⟩ := (h.book.st K hK).nums
        rcases hk with hk | hk
        · exact rows_ne a2 y2 (by decide) (a3.trans hk) (y3.trans hh)
        · exact rows_ne b2 y2 (by decide) (b3.trans hk) (y3.trans hh)
  · have gv := (h.late.ok g hg).got
    rcases hh with hh | ⟨K, hK, hh⟩
    · have := (row_ge gv hk).1; omega
    · obtain ⟨vb, x1, x2, x3⟩ := (h.book.st K hK).rows
      obtain ⟨vo, y1, y2, y3⟩ := (h.book.st K hK).nums
      rcases hh with hh | hh
      · exact rows_ne gv x2 (hL.el kB hB K hK) hk (x3.trans hh)
      · exact rows_ne gv y2 (by decide) hk (y3.trans hh)
  · rcases hh with hh | ⟨K, hK, hh⟩
    · exact (h.late.ok g hg).sepK (h.book.st kB hB) h0 hk (.inl hh)
    · exact (h.late.ok g hg).sepK (h.book.st K hK) h0 hk (.inr hh)
  · obtain ⟨X, x1, x2, x3, hA⟩ := hl.E K hK
    rcases hA with hA | ⟨hX, hA⟩
    · intro k e hk he
      rw [List.getElem?_eq_none (by omega)] at he; cases he
    · have h9 := h.fresh K hK
      intro k e hk he
      rw [x1, hX, List.append_nil] at he
      rw [hA] at hk
      exact h9 k e hk he
  · obtain ⟨X, x1, x2, x3, hA⟩ := hl.E K hK
    have h9 := h.cnt K hK
    rcases hA with hA | ⟨hX, hA⟩
    · rw [hA, Nat.sub_self, x1, List.length_append]; omega
    · rw [hA, x1, hX, List.append_nil]; exact h9
  · rcases hl.rb K hK with t1 | ⟨g, t1, t3⟩
    · rw [t1] at hk; exact h.rows K hK k hk
    · rw [t1] at hk
      simp only [Option.some.injEq] at hk
      subst hk
      exact ⟨fun hh => by have := (h.rowGe (.inr (.inl hh))).2; omega, fun hh => by have := (h.rowGe (.inr (.inr hh))).2; omega⟩
  · obtain ⟨X, x1, x2, x3, hA⟩ := hl.E kB hB
    have x1 : (F' 0).E = (F 0).E ++ X := x1
    rw [x1] at he
    simp only [List.mem_append] at he
    rcases he with he | he
    · exact h.ge g hg e he k hk
    · exact fun hh => by have := x3 e he k hh; have := h.dbLt (.inr ⟨g, hg, .inl hk⟩); omega

/-- All blocks of the Book, the Late and what they keep. -/
def FP (L : List Kd) (NB NL : Nat) (F : Nat → KV) (rg rw_ : Option Nat) (G : List Got) (k : Nat) : Prop := BkRows L NB F k ∨ LRows NL rg rw_ k ∨ DB L F G k

theorem BL.fpLt {L : List Kd} {w : World} {NB NL base : Nat} {F : Nat → KV} {T D U : Nat} {rg rw_ : Option Nat} {G : List Got} (h : BL L w NB NL base F T D U rg rw_ G) {k : Nat} (hk : FP L NB NL F rg rw_ G k) : k < w.heap.size := by
  rcases hk with (hk | ⟨K, hK, hk⟩) | (hk | hk) | hk
  · rw [hk]; exact h.book.NBlt
  · exact (h.rowGe (.inl ⟨K, hK, hk⟩)).2
  · rw [hk]; obtain ⟨vg, a1, _⟩ := h.late.gots; exact block_lt_of_cell a1
  · exact (h.rowGe (.inr hk)).2
  · exact h.dbLt hk

/-- Something else changes. -/
theorem BL.chg {L : List Kd} {S : Nat → Prop} {w w' : World} {NB NL base : Nat} {F : Nat → KV} {T D U : Nat} {rg rw_ : Option Nat} {G : List Got} (h : BL L w NB NL base F T D U rg rw_ G) (C : Chg S w w') (hs : ∀ k, FP L NB NL F rg rw_ G k → ¬ S k) : BL L w' NB NL base F T D U rg rw_ G :=
  ⟨h.book.chg C (fun k hk hh => by
      obtain ⟨K, hK, hk | hk | ⟨e, he, hk⟩⟩ := hk
      · exact hs k (.inl (.inr ⟨K, hK, .inl hk⟩)) hh
      · exact hs k (.inl (.inr ⟨K, hK, .inr hk⟩)) hh
      · exact hs k (.inr (.inr (.inl ⟨K, hK, e, he, hk⟩))) hh) (hs NB (.inl (.inl rfl))),
    h.late.chg C (hs NL (.inr (.inl (.inl rfl)))) (fun k hk => hs k (.inr (.inl (.inr hk)))) (fun g hg k hk => hs k (.inr (.inr (.inr ⟨g, hg, .inl hk⟩)))) (fun g hg k hk _ => hs k (.inr (.inr (.inr ⟨g, hg, .inr hk⟩)))),
    h.ne, h.fresh, h.cnt, h.tot, h.rows, h.ge, h.gg, Nat.le_trans h.base_ C.size⟩

/-- The walk's state: at most n lists were taken, or wait; below w0's blocks nothing has changed. -/
def WSt (L : List Kd) (w0 : World) (NB NL base n : Nat) (wr : World) : Prop :=
  ∃ F T D U rg rw_ G, BL L wr NB NL base F T D U rg rw_ G ∧ T + G.length ≤ n ∧ Below w0.heap.size w0 wr

theorem WSt.start {L : List Kd} (hL : KOk L) {w0 : World} {t : TypeId} : WSt L w0 w0.heap.size (w0.heap.size + 1) (w0.heap.size + 2) 0 ((w0.alloc (.cells bookZ 50)).alloc (.cells #[.slice none 0 0, .slice none 0 0] t)) := by
  have k1 : (w0.alloc (.cells bookZ 50)).heap[w0.heap.size]? = some (.cells bookZ 50 (0, 0)) := heap_alloc_new _ _
  have z1 : (w0.alloc (.cells bookZ 50)).heap.size = w0.heap.size + 1 := by simp
  have b1 : Below w0.heap.size w0 (w0.alloc (.cells bookZ 50)) := (Below.refl _ _).alloc (Nat.le_refl _) _
  generalize w0.alloc (.cells bookZ 50) = wA at *
  have k2 : (wA.alloc (.cells #[.slice none 0 0, .slice none 0 0] t)).heap[wA.heap.size]? = some (.cells #[.slice none 0 0, .slice none 0 0] t (0, 0)) := heap_alloc_new _ _
  have z2 : (wA.alloc (.cells #[.slice none 0 0, .slice none 0 0] t)).heap.size = wA.heap.size + 1 := by simp
  have b2 : Below wA.heap.size wA (wA.alloc (.cells #[.slice none 0 0, .slice none 0 0] t)) := (Below.refl _ _).alloc (Nat.le_refl _) _
  generalize wA.alloc (.cells #[.slice none 0 0, .slice none 0 0] t) = wB at *
  have f1 : wB.heap[w0.heap.size]? = some (.cells bookZ 50 (0, 0)) := by rw [b2.block _ (by omega)]; exact k1
  have f2 : wB.heap[w0.heap.size + 1]? = some (.cells #[.slice none 0 0, .slice none 0 0] t (0, 0)) := by rw [← z1]; exact k2
  refine ⟨F0, 0, 0, 0, none, none, [], ⟨book_of hL f1 (by omega), late_of f2 (by omega), by omega, fun K _ i e _ he => by simp [F0] at he, fun K _ => by simp [F0], by simp, fun K _ k hk => by simp [F0] at hk, fun g hg => by simp at hg, fun a b ga gb _ ha => by simp at ha, by omega⟩, by simp, b1.trans (b2.mono (by omega))⟩

/-- What the Book, the Late and what they keep may change lies from B on. -/
theorem BL.low {L : List Kd} {w : World} {NB NL base : Nat} {F : Nat → KV} {T D U : Nat} {rg rw_ : Option Nat} {G : List Got} (h : BL L w NB NL base F T D U rg rw_ G) {B : Nat} (h1 : B ≤ NB) (h2 : B ≤ NL) (h3 : B ≤ base) {k : Nat} (hk : BkRows L NB F k ∨ LRows NL rg rw_ k ∨ ∃ g ∈ G, g.v.ownBlock = some k) : B ≤ k := by
  rcases hk with (hk | ⟨K, hK, hk⟩) | (hk | hk) | ⟨g, hg, hk⟩
  · omega
  · have := (h.rowGe (.inl ⟨K, hK, hk⟩)).1; omega
  · omega
  · have := (h.rowGe (.inr hk)).1; omega
  · have := (row_ge (h.late.ok g hg).got hk).1; omega

theorem WSt.settle {L : List Kd} {w0 w w' : World} {NB NL base n : Nat} {F : Nat → KV} {T D U : Nat} {rg rw_ : Option Nat} {G : List Got} (h : BL L w NB NL base F T D U rg rw_ G) (hn : T + G.length ≤ n) (hb : Below w0.heap.size w0 w) (h1 : w0.heap.size ≤ NB) (h2 : w0.heap.size ≤ NL) (h3 : w0.heap.size ≤ base) (hp : SettlePost L w NB NL base F T G w') : WSt L w0 NB NL base n w' := by
  obtain ⟨F', T', D', U', rg', rw', G', B', q1, _, C⟩ := hp
  refine ⟨F', T', D', U', rg', rw', G', B', by omega, hb.trans (C.toBelow hb.size fun k hk hh => ?_)⟩
  have : w0.heap.size ≤ k := by
    rcases hh with hh | hh | hh
    · omega
    · exact h.low h1 h2 h3 (.inl hh)
    · exact h.low h1 h2 h3 (.inr (.inr hh))
  omega

theorem WSt.look {L : List Kd} (hL : KOk L) (hB : kB ∈ L) {w0 w w' : World} {NB NL base n : Nat} {F F' : Nat → KV} {T D U : Nat} {rg rw_ : Option Nat} {G : List Got} (h : BL L w NB NL base F T D U rg rw_ G) (hn : T + G.length ≤ n) (hb : Below w0.heap.size w0 w) (h1 : w0.heap.size ≤ NB) (h2 : w0.heap.size ≤ NL) (h3 : w0.heap.size ≤ base) (hl : LookSt L w NB base F T U F' w') : WSt L w0 NB NL base n w' := by
  obtain ⟨D', B'⟩ := h.look hL hB hl
  refine ⟨F', T, D', U, rg, rw_, G, B', hn, hb.trans (hl.chg.toBelow hb.size fun k hk hh => ?_)⟩
  have := h.low h1 h2 h3 (.inl hh)
  omega

theorem WSt.below {L : List Kd} {w0 w w' : World} {NB NL base n : Nat} (h : WSt L w0 NB NL base n w) (hb : Below w.heap.size w w') : WSt L w0 NB NL base n w' := by
  obtain ⟨F, T, D, U, rg, rw_, G, B, q, b⟩ := h
  exact ⟨F, T, D, U, rg, rw_, G, B.below hb, q, b.trans (hb.mono b.size)⟩

/-- A look from the walk's state. -/
theorem WSt.looked {L : List Kd} (hL : KOk L) (hB : kB ∈ L) (hLook : LookOk L) {w0 w : World} {NB NL base n : Nat} (h : WSt L w0 NB NL base n w) (h1 : w0.heap.size ≤ NB) (h2 : w0.heap.size ≤ NL) (h3 : w0.heap.size ≤ base) :
    Calls Tryz.prog 11 #[.pointer (some ⟨NB, 0, none⟩)] w fun q w' => q = .returned (.bool true) ∧ WSt L w0 NB NL base n w' := by
  obtain ⟨F, T, D, U, rg, rw_, G, B, q, b⟩ := h
  refine (hLook NB base F T D U w B.book (fun K hK => by have := B.cnt K hK; have := B.tot; omega) B.base_ B.fresh).mono ?_
  rintro e w' ⟨rfl, F', hl⟩
  exact ⟨rfl, WSt.look hL hB B q b h1 h2 h3 hl⟩

/-- Settle from the walk's state. -/
theorem WSt.settled {L : List Kd} (hL : KOk L) (hB : kB ∈ L) (hLook : LookOk L) {w0 w : World} {NB NL base n : Nat} (h : WSt L w0 NB NL base n w) (h1 : w0.heap.size ≤ NB) (h2 : w0.heap.size ≤ NL) (h3 : w0.heap.size ≤ base) (m : Nat) (hm : m ≤ 1000) :
    Calls Tryz.prog 5 #[.pointer (some ⟨NL, 0, none⟩), .pointer (some ⟨NB, 0, none⟩), .int .i64 m] w fun q w' => q = .returned (.bool true) ∧ WSt L w0 NB NL base n w' := by
  obtain ⟨F, T, D, U, rg, rw_, G, B, q, b⟩ := h
  refine (settle_any hL hB hLook NB NL base F T D U rg rw_ G m w B hm).mono ?_
  rintro e w' ⟨rfl, hp⟩
  exact ⟨rfl, WSt.settle B q b h1 h2 h3 hp⟩

end Go.Proofs.YtangjkhflgkkdaaGreat

namespace Go.Proofs.YtangjkhflgkkdaaGreat
open Go.RowKit
open M
set_option linter.unusedVariables false
set_option linter.unusedSimpArgs false

/-- What a kind's lists hold, for reading. -/
theorem KSt.read {K : Kd} {w : World} {NB base : Nat} {rb ro : Option Nat} {E : List Ent} {A : Nat} (h : KSt K w NB base rb ro E A) :
    ∃ (pb : Option Addr) (capb : Nat) (po : Option Addr) (capo : Nat), w.cell? ⟨NB, 3 * K.c, none⟩ = some (.slice pb E.length capb) ∧ w.cell? ⟨NB, 3 * K.c + 1, none⟩ = some (.slice po E.length capo) ∧
      ∀ k, k < E.length → ∃ (gb go : Nat) (p : Option Addr) (n cp m : Nat), pb = some ⟨gb, 0, none⟩ ∧ po = some ⟨go, 0, none⟩ ∧ w.cell? ⟨gb, k, none⟩ = some (.slice p n cp) ∧ w.cell? ⟨go, k, none⟩ = some (.int .i64 (m : Int)) ∧ n ≤ 100000 ∧ m ≤ 1000000 ∧
        (0 < n → ∃ g, p = some ⟨g, 0, none⟩ ∧ ∀ j, j < n → w.cell? ⟨g, j, none⟩ = some (K.mv m j)) := by
  obtain ⟨vb, cb, ob, _⟩ := h.rows
  obtain ⟨vo, co, oo, _⟩ := h.nums
  obtain ⟨pb, capb, hvb, -⟩ := row_form ob
  obtain ⟨po, capo, hvo, -⟩ := row_form oo
  refine ⟨pb, capb, po, capo, by rw [cb, hvb], by rw [co, hvo], fun k hk => ?_⟩
  obtain ⟨e, he⟩ : ∃ e, E[k]? = some e := ⟨E[k], List.getElem?_eq_getElem hk⟩
  obtain ⟨gb, h1, _, _, h2⟩ := row_at ob hvb (by omega)
  obtain ⟨go, h3, _, _, h4⟩ := row_at oo hvo (by omega)
  obtain ⟨hok, hn, hm⟩ := h.ok e (List.mem_of_getElem? he)
  obtain ⟨p, c, hv, -⟩ := row_form hok
  refine ⟨gb, go, p, e.n, c, e.m, h1, h3, ?_, ?_, hn, hm, fun h0 => ?_⟩
  · rw [h2 k e.v (by simp [he]), hv]
  · exact h4 k _ (by simp [numsV, he])
  · obtain ⟨g, h5, _, _, h6⟩ := row_at hok hv h0
    exact ⟨g, h5, fun j hj => h6 j _ (Kd.marks_get K e.m e.n j hj)⟩

set_option maxRecDepth 100000 in
set_option maxHeartbeats 8000000 in
theorem plainB_any (NB base : Nat) (rbB roB : Option Nat) (EB : List Ent) (AB : Nat) (w : World) (hB : KSt kB w NB base rbB roB EB AB) (hEB : EB.length ≤ 10000000) (c3 : w.cell? ⟨NB, 3, none⟩ = some (.slice none 0 0)) :
    Calls Tryz.prog 48 #[.pointer (some ⟨NB, 0, none⟩)] w fun e w' => e = .returned (.bool true) ∧ ∃ m, w' = w.drewN m := by
  obtain ⟨pbB, capbB, poB, capoB, cbB, coB, heB⟩ := hB.read
  have HEB := hideB heB
  have cbB : w.cell? ⟨NB, 0, none⟩ = some (.slice pbB EB.length capbB) := cbB
  have coB : w.cell? ⟨NB, 1, none⟩ = some (.slice poB EB.length capoB) := coB
  clear hB heB
  generalize EB.length = nEB at *
  have HCB : Hid (w.cell? ⟨NB, 0, none⟩ = some (.slice pbB nEB capbB) ∧ w.cell? ⟨NB, 1, none⟩ = some (.slice poB nEB capoB)) := ⟨cbB, coB⟩
  have HC3 := hideB c3
  have Hm : Hid (∃ m, w = w.drewN m) := ⟨0, rfl⟩
  clear cbB coB c3
  go_enter Tryz.func48, Tryz.ntmps48
  go_wp2_with fail
  go_loopw [3] (fun t wr => ∃ k : Nat, k ≤ nEB ∧ t = .int .i64 k ∧ Hid (∃ m, wr = w.drewN m)) (fun t _ => nEB - (intOf t).toNat)
  case atStart => exact ⟨0, by omega, rfl, Hm⟩
  case round =>
    clear Hm
    obtain ⟨k, hk, rfl, Hm⟩ := hrel
    have hcell : ∀ a, wr.cell? a = w.cell? a := fun a => by obtain ⟨m, rfl⟩ := Hm.out; rfl
    have cb' := (hcell ⟨NB, 0, none⟩).trans HCB.out.1
    have co' := (hcell ⟨NB, 1, none⟩).trans HCB.out.2
    by_cases hlt : k < nEB
    · obtain ⟨gb, go, p, n, cp, m, rfl, rfl, d1, d2, hn, hm, hx⟩ := HEB.out k hlt
      have D1 := hideB d1
      have D2 := hideB d2
      have HX := hideB hx
      have d1 := (hcell ⟨gb, k, none⟩).trans D1.out
      clear d2 hx hcell HEB
      go_wp2_with fail
      have Hm0 : Hid (∃ m, wr = w.drewN m) := Hm
      clear Hm cb' co' d1
      go_loopw [4] (fun t4 wr => ∃ j : Nat, j ≤ n ∧ t4 = .int .i64 j ∧ Hid (∃ m, wr = w.drewN m)) (fun t4 _ => n - (intOf t4).toNat)
      case atStart => exact ⟨0, by omega, rfl, Hm0⟩
      case round =>
        clear Hm0
        obtain ⟨j, hj, rfl, Hm⟩ := hrel
        have hcell : ∀ a, wr.cell? a = w.cell? a := fun a => by obtain ⟨m, rfl⟩ := Hm.out; rfl
        have cb' := (hcell ⟨NB, 0, none⟩).trans HCB.out.1
        have co' := (hcell ⟨NB, 1, none⟩).trans HCB.out.2
        have d1 := (hcell ⟨gb, k, none⟩).trans D1.out
        have d2 := (hcell ⟨go, k, none⟩).trans D2.out
        by_cases hjn : j < n
        · obtain ⟨g, rfl, hg⟩ := HX.out (by omega)
          obtain ⟨yy, hyy⟩ : ∃ yy : Int, ((mk m j : Nat) : Int) = yy := ⟨_, rfl⟩
          have d3 : wr.cell? ⟨g, j, none⟩ = some (.int .u8 yy) := by rw [(hcell ⟨g, j, none⟩).trans (hg j hjn), ← hyy]; rfl
          have HA : Hid (∀ w, Calls Tryz.prog 37 #[.int .i64 m, .int .i64 j] w fun e w' => e = .returned (.int .u8 yy) ∧ w' = w) := fun w => by rw [← hyy]; exact at_any m j w hm (by omega)
          clear hg hcell hyy
          have hjI : (j : Int) < (n : Int) := by omega
          have hkI : (k : Int) < (nEB : Int) := by omega
          go_wp2_with fail
          go_quiet ((go_at_call 37; exact Calls.quiet_of_same (HA.out _)))
          go_wp2_with fail
          go_roundw
          case rel =>
            refine ⟨j + 1, by omega, by go_num, ?_⟩
            obtain ⟨m, rfl⟩ := Hm.out
            exact ⟨m + nq, World.drewN_drewN _ _ _⟩
          case measure => simp [intOf]; omega
        · clear hcell
          go_wp2_with fail
          go_roundw
          case rel => exact ⟨k + 1, by omega, by go_num, Hm⟩
          case measure => simp [intOf]; omega
    · clear hcell HEB
      go_wp2_with fail
      clear cb' co'
      go_loopw [5] (fun t wr => t = .int .i64 0 ∧ Hid (∃ m, wr = w.drewN m)) (fun _ _ => 0)
      case atStart => exact ⟨rfl, Hm⟩
      case round =>
        clear Hm
        obtain ⟨rfl, Hm⟩ := hrel
        have c3 : wr.cell? ⟨NB, 3, none⟩ = some (.slice none 0 0) := by obtain ⟨m, rfl⟩ := Hm.out; exact HC3.out
        go_wp2_with fail
        clear c3
        go_ret
        exact ⟨rfl, Hm.out⟩


end Go.Proofs.YtangjkhflgkkdaaGreat

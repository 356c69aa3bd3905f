/- The law's Late: Settle. -/
import Derived.Test.YtpiiagjfimdflaaWp
namespace Go.Proofs.Ytpiiagjfimdflaa
open Go.RowKit
open M
set_option linter.unusedVariables false

/-- The Book and the Late together. -/
structure KSt (w : World) (NB NL base : Nat) (rb ro : Option Nat) (E : List Ent) (A T D U : Nat) (rg rw_ : Option Nat) (G : List Got) : Prop where
  book : BookSt w NB base rb ro E A T D U
  late : LateSt w NL base rg rw_ G
  ne : NB ≠ NL
  fresh : Fresh E A
  cnt : E.length + 96 * (E.length - A) ≤ 97 * T
  tot : T + G.length ≤ 1000
  rows : ∀ k, rb = some k → rg ≠ some k ∧ rw_ ≠ some k
  ge : ∀ g ∈ G, ∀ e ∈ E, ∀ k, g.v.ownBlock = some k → e.v.ownBlock ≠ some k
  gg : ∀ (i j : Nat) (gi gj : Got), i < j → G[i]? = some gi → G[j]? = some gj → ∀ k, gi.v.ownBlock = some k → gj.v.ownBlock ≠ some k
  base_ : base ≤ w.heap.size

/-- What Settle may turn. -/
def SS (NB : Nat) (rb ro : Option Nat) (G : List Got) (k : Nat) : Prop := k = NB ∨ rb = some k ∨ ro = some k ∨ ∃ g ∈ G, g.v.ownBlock = some k

/-- While the answers go into the Book: i of them are in it. -/
structure SetSt (w : World) (NB NL base : Nat) (rb ro : Option Nat) (E : List Ent) (A T D : Nat) (G : List Got) (vg vw : Value) (rb' ro' : Option Nat) (Ei : List Ent) (Ui i : Nat) (wr : World) : Prop where
  book : BookSt wr NB base rb' ro' Ei A (T + i) D Ui
  from_ : ∀ e ∈ Ei, e ∈ E ∨ ∃ (j : Nat) (g : Got), j < i ∧ G[j]? = some g ∧ e.v = g.v
  cnt : Ei.length + 96 * (Ei.length - A) ≤ 97 * (T + i)
  fresh : Fresh Ei A
  s1 : RowStep w rb rb'
  s2 : RowStep w ro ro'
  chg : Chg (SS NB rb ro G) w wr
  left : ∀ (j : Nat) (g : Got), i ≤ j → G[j]? = some g → wr.ownsRow base 5 1 g.v g.bs.length (bytesV g.bs)
  c0 : wr.cell? ⟨NL, 0, none⟩ = some vg
  c1 : wr.cell? ⟨NL, 1, none⟩ = some vw
  f0 : wr.frozen? ⟨NL, 0, none⟩ = false
  f1 : wr.frozen? ⟨NL, 1, none⟩ = false
  row : wr.ownsRow base 29 1 vg G.length (G.map Got.v)

theorem SetSt.step {w wr w1 : World} {NB NL base : Nat} {rb ro : Option Nat} {E : List Ent} {A T D U : Nat} {rg rw_ : Option Nat} {G : List Got} {vg vw : Value} {rb' ro' : Option Nat} {Ei : List Ent} {Ui i : Nat} {g : Got} (hK : KSt w NB NL base rb ro E A T D U rg rw_ G) (hvg : vg.ownBlock = rg)
    (h : SetSt w NB NL base rb ro E A T D G vg vw rb' ro' Ei Ui i wr) (hg : G[i]? = some g) (hP : BytesPost wr NB base rb' ro' Ei A (T + i) D ⟨g.v, g.bs.length, T + i + 1⟩ w1) :
    ∃ rb'' ro'' Ej Uj, SetSt w NB NL base rb ro E A T D G vg vw rb'' ro'' Ej Uj (i + 1) w1 := by
  obtain ⟨rb2, ro2, Ej, Uj, B1, hEj, t1, t2, C⟩ := hP
  have hz := h.chg.size
  have hgm := List.mem_of_getElem? hg
  have hgok := hK.late.ok g hgm
  have hA := h.book.le.1
  obtain ⟨vb, b1, b2, b3⟩ := h.book.rows
  obtain ⟨vo, q1, q2, q3⟩ := h.book.marks
  have hNB := h.book.le.2.2.2.1
  have hNL := hK.late.lt
  have hgi := h.left i g (Nat.le_refl _) hg
  have nNL : ¬ (NL = NB ∨ rb' = some NL ∨ ro' = some NL ∨ g.v.ownBlock = some NL) := fun hh => by
    rcases hh with hh | hh | hh | hh
    · exact hK.ne hh.symm
    · have := (row_ge b2 (b3.trans hh)).1; omega
    · have := (row_ge q2 (q3.trans hh)).1; omega
    · have := (row_ge hgi hh).1; omega
  refine ⟨rb2, ro2, Ej, Uj, B1, ?_, ?_, ?_, h.s1.trans hz t1, h.s2.trans hz t2, ?_, ?_, cell_chg h.c0 C nNL, cell_chg h.c1 C nNL, ?_, ?_, ?_⟩
  · intro e he
    rcases hEj with rfl | rfl
    · rcases h.from_ e he with h1 | ⟨j, g', h1, h2, h3⟩
      · exact .inl h1
      · exact .inr ⟨j, g', by omega, h2, h3⟩
    · simp only [List.mem_append, List.mem_singleton] at he
      rcases he with he | rfl
      · rcases h.from_ e he with h1 | ⟨j, g', h1, h2, h3⟩
        · exact .inl h1
        · exact .inr ⟨j, g', by omega, h2, h3⟩
      · exact .inr ⟨i, g, by omega, hg, rfl⟩
  · have := h.cnt
    rcases hEj with rfl | rfl
    · omega
    · simp only [List.length_append, List.length_cons, List.length_nil]; omega
  · rcases hEj with rfl | rfl
    · exact h.fresh
    · intro k e hk he
      by_cases hlt : k < Ei.length
      · rw [List.getElem?_append_left hlt] at he; exact h.fresh k e hk he
      · rw [List.getElem?_append_right (by omega)] at he
        have h0 : k - Ei.length = 0 := by
          rcases Nat.eq_zero_or_pos (k - Ei.length) with h0 | h0
          · exact h0
          · rw [List.getElem?_eq_none (by simp; omega)] at he; cases he
        rw [h0] at he
        simp only [List.getElem?_cons_zero, Option.some.injEq] at he
        subst he
        exact ⟨hgok.short, hgok.full⟩
  · refine h.chg.trans (C.mono fun k _ hh => ?_)
    rcases hh with hh | hh | hh | hh
    · exact .inl (.inl hh)
    · rcases h.s1 with s1 | ⟨gg, s1, s3⟩
      · exact .inl (.inr (.inl (s1 ▸ hh)))
      · rw [s1] at hh; simp only [Option.some.injEq] at hh; subst hh; exact .inr s3
    · rcases h.s2 with s2 | ⟨gg, s2, s3⟩
      · exact .inl (.inr (.inr (.inl (s2 ▸ hh))))
      · rw [s2] at hh; simp only [Option.some.injEq] at hh; subst hh; exact .inr s3
    · exact .inl (.inr (.inr (.inr ⟨g, hgm, hh⟩)))
  · intro j g' hj hg'
    have hrow := h.left j g' (by omega) hg'
    refine ownsRow_chg hrow C (fun k hk hh => ?_)
    rcases hh with hh | hh | hh | hh
    · have := (row_ge hrow hk).1; omega
    · exact rows_ne hrow b2 (by decide) hk (b3.trans hh)
    · exact rows_ne hrow q2 (by decide) hk (q3.trans hh)
    · exact hK.gg i j g g' (by omega) hg hg' k hh hk
  · exact (World.frozen?_of_block (w := wr) (C.block NL (block_lt_of_cell h.c0) nNL)).trans h.f0
  · exact (World.frozen?_of_block (w := wr) (C.block NL (block_lt_of_cell h.c0) nNL)).trans h.f1
  · refine ownsRow_chg h.row C (fun k hk hh => ?_)
    rcases hh with hh | hh | hh | hh
    · have := (row_ge h.row hk).1; omega
    · rcases h.s1 with s1 | ⟨gg, s1, s3⟩
      · exact (hK.rows k (s1 ▸ hh)).1 (hvg ▸ hk)
      · rw [s1] at hh; simp only [Option.some.injEq] at hh; subst hh
        obtain ⟨vg0, a10, a20, a30⟩ := hK.late.gots
        have := (row_ge a20 (a30.trans (hvg ▸ hk))).2; omega
    · exact rows_ne h.row q2 (by decide) hk (q3.trans hh)
    · exact rows_ne hgi h.row (by decide) hh hk

/-- The blocks of the data that are kept. -/
def DB (E : List Ent) (G : List Got) (k : Nat) : Prop := (∃ e ∈ E, e.v.ownBlock = some k) ∨ ∃ g ∈ G, g.v.ownBlock = some k ∨ g.u.ownBlock = some k

/-- Behind Settle. -/
def SettlePost (w : World) (NB NL base : Nat) (rb ro : Option Nat) (E : List Ent) (T : Nat) (G : List Got) (w' : World) : Prop :=
  ∃ rb' ro' E' A' T' D' U' rg' rw' G', KSt w' NB NL base rb' ro' E' A' T' D' U' rg' rw' G' ∧ T' + G'.length ≤ T + G.length ∧ (∀ k, DB E' G' k → DB E G k ∨ w.heap.size ≤ k) ∧ Chg (fun k => k = NL ∨ SS NB rb ro G k) w w'

set_option maxRecDepth 100000 in
set_option maxHeartbeats 8000000 in
theorem settle_any (NB NL base : Nat) (rb ro : Option Nat) (E : List Ent) (A T D U : Nat) (rg rw_ : Option Nat) (G : List Got) (n : Nat) (w : World) (h : KSt w NB NL base rb ro E A T D U rg rw_ G) (hn : n ≤ 1000) :
    Calls Try.prog 12 #[.pointer (some ⟨NL, 0, none⟩), .pointer (some ⟨NB, 0, none⟩), .int .i64 n] w fun q w' => q = .returned (.bool true) ∧ SettlePost w NB NL base rb ro E T G w' := by
  obtain ⟨vg, a1, a2, a3⟩ := h.late.gots
  obtain ⟨pg, cg, hvg, -⟩ := row_form a2
  obtain ⟨vw, b1, b2, b3⟩ := h.late.wants
  have hG := h.tot
  obtain ⟨nG, hnG⟩ : ∃ nG, nG = G.length := ⟨_, rfl⟩
  have HnG : Hid (nG = G.length) := hnG
  have hnG2 : nG ≤ 1000 := by omega
  have Hh : Hid (KSt w NB NL base rb ro E A T D U rg rw_ G) := h
  have a1' : w.cell? ⟨NL, 0, none⟩ = some (.slice pg nG cg) := by rw [hnG, ← hvg]; exact a1
  by_cases hlt : nG < n
  · have hlt' : (nG : Int) < (n : Int) := by omega
    clear h a1 a2 a3 b1 b2 b3 hvg hnG hG
    go_enter Try.func12, Try.ntmps12
    go_wp2_with fail
    go_ret
    exact ⟨rfl, rb, ro, E, A, T, D, U, rg, rw_, G, Hh.out, Nat.le_refl _, fun k hk => .inl hk, Chg.refl _ _⟩
  · have hlt' : ¬ (nG : Int) < (n : Int) := by omega
    have HSame : Hid (Calls Try.prog 48 #[.pointer (some ⟨NL, 0, none⟩)] w fun q w' => q = .returned (.bool true) ∧ ∃ m, w' = w.drewN m) := same_any NL base rg rw_ G w h.late (by omega)
    have hvgp : (Value.slice pg nG cg).ownBlock = rg := by rw [hnG, ← hvg]; exact a3
    have Hvgp : Hid ((Value.slice pg nG cg).ownBlock = rg) := hvgp
    have HS0 : Hid (∀ m, SetSt w NB NL base rb ro E A T D G (.slice pg nG cg) vw rb ro E U 0 (w.drewN m)) := fun m =>
      ⟨h.book.drewN m, fun e he => .inl he, h.cnt, h.fresh, .inl rfl, .inl rfl, Chg.drewN _ _, fun j g hj hg => (h.late.ok g (List.mem_of_getElem? hg)).got, a1', b1, h.late.f0, h.late.f1, by rw [hnG, ← hvg]; exact a2⟩
    clear h a1 a2 a3 b1 b2 b3 hvg hnG hvgp
    go_enter Try.func12, Try.ntmps12
    go_wp2_with fail
    refine HSame.out.mono ?_
    rintro _ w1 ⟨rfl, m, hw1⟩
    have H0 : Hid (SetSt w NB NL base rb ro E A T D G (.slice pg nG cg) vw rb ro E U 0 w1) := by rw [hw1]; exact HS0.out m
    clear hw1 HS0
    go_wp2_with fail
    go_loopw [7] (fun t7 wr => ∃ i : Nat, i ≤ nG ∧ t7 = .int .i64 i ∧ Hid (∃ rb' ro' Ei Ui, SetSt w NB NL base rb ro E A T D G (.slice pg nG cg) vw rb' ro' Ei Ui i wr)) (fun t7 _ => nG - (intOf t7).toNat)
    case atStart => exact ⟨0, by omega, rfl, ⟨rb, ro, E, U, H0.out⟩⟩
    case round =>
      obtain ⟨i, hi, rfl, HS⟩ := hrel
      obtain ⟨rb', ro', Ei, Ui, hS⟩ := HS.out
      have c0 := hS.c0
      by_cases hin : i < nG
      · have hin' : (i : Int) < (nG : Int) := by omega
        obtain ⟨g, hg⟩ : ∃ g, G[i]? = some g := ⟨G[i]'(by have := HnG.out; omega), List.getElem?_eq_getElem _⟩
        obtain ⟨gg, rfl, _, _, hgc⟩ := row_at hS.row (show Value.slice pg nG cg = .slice pg G.length cg by rw [HnG.out]) (by have := HnG.out; omega)
        have hgok := Hh.out.late.ok g (List.mem_of_getElem? hg)
        obtain ⟨pq, hpq⟩ := hgok.full
        have d1 : wr.cell? ⟨gg, i, none⟩ = some (.slice pq g.bs.length g.bs.length) := by rw [← hpq]; exact hgc i g.v (by simp [hg])
        have HP : Hid (Calls Try.prog 49 #[.pointer (some ⟨NB, 0, none⟩), .slice pq g.bs.length g.bs.length] wr fun q w' => q = .returned (.tuple #[]) ∧ BytesPost wr NB base rb' ro' Ei A (T + i) D ⟨.slice pq g.bs.length g.bs.length, g.bs.length, T + i + 1⟩ w') := by
          have hcnt := hS.cnt
          refine bytes_any NB base rb' ro' Ei A (T + i) D Ui g.bs.length pq g.bs wr hS.book (by rw [← hpq]; exact hS.left i g (Nat.le_refl _) hg) hgok.short (by omega) (by omega) (Nat.le_trans Hh.out.base_ hS.chg.size) (fun e he k hk => ?_)
          rw [← hpq] at hk
          rcases hS.from_ e he with h1 | ⟨j, g', h1, h2, h3⟩
          · exact Hh.out.ge g (List.mem_of_getElem? hg) e h1 k hk
          · rw [h3]; exact fun hh => Hh.out.gg j i g' g h1 h2 hg k hh hk
        have HStep : Hid (∀ w1, BytesPost wr NB base rb' ro' Ei A (T + i) D ⟨.slice pq g.bs.length g.bs.length, g.bs.length, T + i + 1⟩ w1 → ∃ rb'' ro'' Ej Uj, SetSt w NB NL base rb ro E A T D G (.slice (some ⟨gg, 0, none⟩) nG cg) vw rb'' ro'' Ej Uj (i + 1) w1) := fun w1 hP => hS.step Hh.out Hvgp.out hg (by rw [hpq]; exact hP)
        clear HS hS hg hgc hgok hpq
        generalize g.bs.length = nb at *
        go_wp2_with fail
        refine HP.out.mono ?_
        rintro _ w2 ⟨rfl, hP⟩
        have HN : Hid (∃ rb'' ro'' Ej Uj, SetSt w NB NL base rb ro E A T D G (.slice (some ⟨gg, 0, none⟩) nG cg) vw rb'' ro'' Ej Uj (i + 1) w2) := HStep.out w2 hP
        clear HStep HP hP
        go_wp2_with fail
        exact ⟨⟨i + 1, by omega, by go_num, HN⟩, by simp [intOf]; omega⟩
      · have hin2 : i = nG := by omega
        subst hin2
        have c1 := hS.c1
        have f0 := hS.f0
        have f1 := hS.f1
        obtain ⟨w3, hw3⟩ : ∃ w3, w3 = (wr.setCell ⟨NL, 0, none⟩ (.slice none 0 0)).setCell ⟨NL, 1, none⟩ (.slice none 0 0) := ⟨_, rfl⟩
        have C3 : Chg (fun k => k = NL) wr w3 := by rw [hw3]; exact (Chg.set (S := fun k => k = NL) _ _ _ _ rfl).trans' (Chg.set (S := fun k => k = NL) _ _ _ _ rfl)
        have B3 : BookSt w3 NB base rb' ro' Ei A (T + i) D Ui := hS.book.chg C3 (fun k hk hh => by
          subst hh
          obtain ⟨vb, x1, x2, x3⟩ := hS.book.rows
          obtain ⟨vo, y1, y2, y3⟩ := hS.book.marks
          have hlt9 := Hh.out.late.lt
          rcases hk with hk | hk | hk | ⟨e, he, hk⟩
          · exact Hh.out.ne hk.symm
          · have := (row_ge x2 (x3.trans hk)).1; omega
          · have := (row_ge y2 (y3.trans hk)).1; omega
          · have := (row_ge (hS.book.ok e he).1 hk).1; omega)
        have hcnt := hS.cnt
        have HL : Hid (Calls Try.prog 13 #[.pointer (some ⟨NB, 0, none⟩)] w3 fun q w' => q = .returned (.bool true) ∧ LookPost w3 NB base rb' ro' Ei A (T + i) Ui w') := look_book NB base rb' ro' Ei A (T + i) D Ui w3 B3 (by have := HnG.out; omega) (Nat.le_trans Hh.out.base_ (Nat.le_trans hS.chg.size C3.size)) hS.fresh
        have HF : Hid (∀ w4, LookPost w3 NB base rb' ro' Ei A (T + i) Ui w4 → SettlePost w NB NL base rb ro E T G w4) := fun w4 hP => by
          obtain ⟨rb2, ro2, X, A2, D2, BS, hA2, hX, s1, s2, xn, C⟩ := hP
          have hNL := Hh.out.late.lt
          have nNL : ¬ (NL = NB ∨ rb' = some NL ∨ ro' = some NL) := fun hh => by
            obtain ⟨vb, x1, x2, x3⟩ := hS.book.rows
            obtain ⟨vo, y1, y2, y3⟩ := hS.book.marks
            rcases hh with hh | hh | hh
            · exact Hh.out.ne hh.symm
            · have := (row_ge x2 (x3.trans hh)).1; omega
            · have := (row_ge y2 (y3.trans hh)).1; omega
          have d0 : w3.cell? ⟨NL, 0, none⟩ = some (.slice none 0 0) := by rw [hw3, cell_setCell_ne _ _ _ _ _ (by omega)]; exact cell_setCell_eq _ _ _ _ _ c0
          have d1 : w3.cell? ⟨NL, 1, none⟩ = some (.slice none 0 0) := by rw [hw3]; exact cell_setCell_eq _ _ _ _ vw (by rw [cell_setCell_ne _ _ _ _ _ (by omega)]; exact c1)
          have g0 : w3.frozen? ⟨NL, 0, none⟩ = false := by rw [hw3, frozen_setCell, frozen_setCell]; exact f0
          have g1 : w3.frozen? ⟨NL, 1, none⟩ = false := by rw [hw3, frozen_setCell, frozen_setCell]; exact f1
          have hl3 := block_lt_of_cell d0
          have e0 := cell_chg d0 C nNL
          have e1 := cell_chg d1 C nNL
          refine ⟨rb2, ro2, Ei ++ X, A2, T + i, D2, Ui, none, none, [], ⟨BS, ⟨⟨_, e0, World.ownsRow_nil _ _ _ _, rfl⟩, ⟨_, e1, World.ownsRow_nil _ _ _ _, rfl⟩, ?_, ?_, fun g hg => by simp at hg, fun k hk => by simp at hk, hNL, fun _ => ⟨rfl, rfl⟩⟩, Hh.out.ne, ?_, ?_, by have := HnG.out; simp; omega, fun k hk => by simp, fun g hg => by simp at hg, fun a b ga gb _ ha => by simp at ha, ?_⟩, by have := HnG.out; simp; omega, fun k hk => ?_, ?_⟩
          · exact (World.frozen?_of_block (w := w3) (C.block NL hl3 nNL)).trans g0
          · exact (World.frozen?_of_block (w := w3) (C.block NL hl3 nNL)).trans g1
          · rcases hA2 with hA2 | ⟨hX0, hA2⟩
            · intro k e hk he
              rw [List.getElem?_eq_none (by omega)] at he; cases he
            · subst hX0; subst hA2; rw [List.append_nil]; exact hS.fresh
          · rcases hA2 with hA2 | ⟨hX0, hA2⟩
            · rw [hA2, Nat.sub_self, List.length_append]; omega
            · subst hX0; subst hA2; rw [List.append_nil]; exact hcnt
          · exact Nat.le_trans Hh.out.base_ (Nat.le_trans hS.chg.size (Nat.le_trans C3.size C.size))
          · rcases hk with ⟨e, he, hk⟩ | ⟨g, hg, _⟩
            · simp only [List.mem_append] at he
              rcases he with he | he
              · rcases hS.from_ e he with h1 | ⟨j, g, h1, h2, h3⟩
                · exact .inl (.inl ⟨e, h1, hk⟩)
                · exact .inl (.inr ⟨g, List.mem_of_getElem? h2, .inl (h3 ▸ hk)⟩)
              · exact .inr (Nat.le_trans (Nat.le_trans hS.chg.size C3.size) (xn e he k hk))
            · simp at hg
          · have r1 : Chg (fun k => k = NL ∨ SS NB rb ro G k) w w3 := (hS.chg.mono fun k _ hk => .inr hk).trans' (C3.mono fun k _ hk => .inl hk)
            refine r1.trans (C.mono fun k _ hh => ?_)
            rcases hh with hh | hh | hh
            · exact .inl (.inr (.inl hh))
            · rcases hS.s1 with s9 | ⟨gg, s9, s3⟩
              · exact .inl (.inr (.inr (.inl (s9 ▸ hh))))
              · rw [s9] at hh; simp only [Option.some.injEq] at hh; subst hh; exact .inr s3
            · rcases hS.s2 with s9 | ⟨gg, s9, s3⟩
              · exact .inl (.inr (.inr (.inr (.inl (s9 ▸ hh)))))
              · rw [s9] at hh; simp only [Option.some.injEq] at hh; subst hh; exact .inr s3
        clear HS hS B3 C3
        go_wp2_with fail
        rw [← hw3]
        clear hw3
        refine HL.out.mono ?_
        rintro _ w4 ⟨rfl, hP⟩
        have HQ : Hid (SettlePost w NB NL base rb ro E T G w4) := HF.out w4 hP
        clear HF HL hP
        go_wp2_with fail
        go_ret
        exact ⟨rfl, HQ.out⟩

end Go.Proofs.Ytpiiagjfimdflaa

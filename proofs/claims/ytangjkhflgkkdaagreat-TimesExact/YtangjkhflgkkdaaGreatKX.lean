/- The Book and the Late, a step at a time. -/
import Derived.Test.YtangjkhflgkkdaaGreatKQ
import Derived.Test.YtangjkhflgkkdaaGreatKO
/- The law's Late: Settle. -/
namespace Go.Proofs.YtangjkhflgkkdaaGreat
open Go.RowKit
open M
set_option linter.unusedVariables false
set_option linter.unusedSimpArgs false

/-- The blocks of the data that are kept. -/
def DB (L : List Kd) (F : Nat → KV) (G : List Got) (k : Nat) : Prop := (∃ K ∈ L, ∃ e ∈ (F K.c).E, e.v.ownBlock = some k) ∨ ∃ g ∈ G, g.v.ownBlock = some k ∨ g.u.ownBlock = some k

/-- Behind Settle. -/
def SettlePost (L : List Kd) (w : World) (NB NL base : Nat) (F : Nat → KV) (T : Nat) (G : List Got) (w' : World) : Prop :=
  ∃ F' T' D' U' rg' rw' G', BL L w' NB NL base F' T' D' U' rg' rw' G' ∧ T' + G'.length ≤ T + G.length ∧ (∀ k, DB L F' G' k → DB L F G k ∨ w.heap.size ≤ k) ∧ Chg (fun k => k = NL ∨ SS L NB F G k) w w'

/-- Behind the loop: the Late is empty, the Book was looked at. -/
theorem SetSt.done {L : List Kd} (hL : KOk L) (hB : kB ∈ L) {w wr w3 w4 : World} {NB NL base : Nat} {F : Nat → KV} {T D U : Nat} {rg rw_ : Option Nat} {G : List Got} {vg vw : Value} {Fi F' : Nat → KV} {Ui i : Nat} (hK : BL L w NB NL base F T D U rg rw_ G) (hi : i = G.length)
    (h : SetSt L w NB NL base F T D G vg vw Fi Ui i wr) (hw3 : w3 = (wr.setCell ⟨NL, 0, none⟩ (.slice none 0 0)).setCell ⟨NL, 1, none⟩ (.slice none 0 0)) (C3 : Chg (fun k => k = NL) wr w3) (hl : LookSt L w3 NB base Fi (T + i) Ui F' w4) : SettlePost L w NB NL base F T G w4 := by
  obtain ⟨D2, BS⟩ := hl.st
  have C := hl.chg
  have hNL := hK.late.lt
  have nNL : ¬ BkRows L NB Fi NL := fun hh => by
    rcases hh with hh | ⟨K, hK', hh⟩
    · exact hK.ne hh.symm
    · obtain ⟨vb, x1, x2, x3⟩ := (h.book.st K hK').rows
      obtain ⟨vo, y1, y2, y3⟩ := (h.book.st K hK').nums
      rcases hh with hh | hh
      · have := (row_ge x2 (x3.trans hh)).1; omega
      · have := (row_ge y2 (y3.trans hh)).1; omega
  have d0 : w3.cell? ⟨NL, 0, none⟩ = some (.slice none 0 0) := by rw [hw3, cell_setCell_ne _ _ _ _ _ (by omega)]; exact cell_setCell_eq _ _ _ _ _ h.c0
  have d1 : w3.cell? ⟨NL, 1, none⟩ = some (.slice none 0 0) := by rw [hw3]; exact cell_setCell_eq _ _ _ _ vw (by rw [cell_setCell_ne _ _ _ _ _ (by omega)]; exact h.c1)
  have g0 : w3.frozen? ⟨NL, 0, none⟩ = false := by rw [hw3, frozen_setCell, frozen_setCell]; exact h.f0
  have g1 : w3.frozen? ⟨NL, 1, none⟩ = false := by rw [hw3, frozen_setCell, frozen_setCell]; exact h.f1
  have hl3 := block_lt_of_cell d0
  have e0 := cell_chg d0 C nNL
  have e1 := cell_chg d1 C nNL
  have hT := hK.tot
  refine ⟨F', T + i, D2, Ui, none, none, [], ⟨BS, ⟨⟨_, e0, World.ownsRow_nil _ _ _ _, rfl⟩, ⟨_, e1, World.ownsRow_nil _ _ _ _, rfl⟩, ?_, ?_, fun g hg => by simp at hg, fun k hk => by simp at hk, hNL, fun _ => ⟨rfl, rfl⟩⟩, hK.ne, fun K hK' => ?_, fun K hK' => ?_, by simp; omega, fun K _ k hk => by simp, fun g hg => by simp at hg, fun a b ga gb _ ha => by simp at ha, ?_⟩, by simp; omega, fun k hk => ?_, ?_⟩
  · exact (World.frozen?_of_block (w := w3) (a := ⟨NL, 0, none⟩) (C.block NL hl3 nNL)).trans g0
  · exact (World.frozen?_of_block (w := w3) (a := ⟨NL, 1, none⟩) (C.block NL hl3 nNL)).trans g1
  · obtain ⟨X, x1, x2, x3, hA⟩ := hl.E K hK'
    rcases hA with hA | ⟨hX, hA⟩
    · intro k e hk he
      rw [List.getElem?_eq_none (by omega)] at he; cases he
    · have h9 := h.fresh K hK'
      intro k e hk he
      rw [x1, hX, List.append_nil] at he
      rw [hA] at hk
      exact h9 k e hk he
  · obtain ⟨X, x1, x2, x3, hA⟩ := hl.E K hK'
    have h9 := h.cnt K hK'
    rcases hA with hA | ⟨hX, hA⟩
    · rw [hA, Nat.sub_self, x1, List.length_append]; omega
    · rw [hA, x1, hX, List.append_nil]; exact h9
  · exact Nat.le_trans hK.base_ (Nat.le_trans h.chg.size (Nat.le_trans C3.size C.size))
  · rcases hk with ⟨K, hK', e, he, hk⟩ | ⟨g, hg, _⟩
    · obtain ⟨X, x1, x2, x3, hA⟩ := hl.E K hK'
      rw [x1] at he
      simp only [List.mem_append] at he
      rcases he with he | he
      · by_cases hc : K.c = 0
        · rw [hc] at he
          rcases h.from_ e he with h1 | ⟨j, g, h1, h2, h3⟩
          · exact .inl (.inl ⟨K, hK', e, by rw [hc]; exact h1, hk⟩)
          · exact .inl (.inr ⟨g, List.mem_of_getElem? h2, .inl (h3 ▸ hk)⟩)
        · rw [h.oth _ hc] at he
          exact .inl (.inl ⟨K, hK', e, he, hk⟩)
      · exact .inr (Nat.le_trans (Nat.le_trans h.chg.size C3.size) (x3 e he k hk))
    · simp at hg
  · have r1 : Chg (fun k => k = NL ∨ SS L NB F G k) w w3 := (h.chg.mono fun k _ hk => .inr hk).trans' (C3.mono fun k _ hk => .inl hk)
    refine r1.trans (C.mono fun k _ hh => ?_)
    rcases hh with hh | ⟨K, hK', hh⟩
    · exact .inl (.inr (.inl (.inl hh)))
    · by_cases hc : K.c = 0
      · have := hL.uniq K hK' kB hB hc
        subst this
        rcases hh with hh | hh
        · rcases h.s1 with s9 | ⟨gg, s9, s3⟩
          · exact .inl (.inr (.inl (.inr ⟨kB, hB, .inl (s9 ▸ hh)⟩)))
          · have hh : (Fi 0).rb = some k := hh
            rw [s9] at hh; simp only [Option.some.injEq] at hh; subst hh; exact .inr s3
        · rcases h.s2 with s9 | ⟨gg, s9, s3⟩
          · exact .inl (.inr (.inl (.inr ⟨kB, hB, .inr (s9 ▸ hh)⟩)))
          · have hh : (Fi 0).ro = some k := hh
            rw [s9] at hh; simp only [Option.some.injEq] at hh; subst hh; exact .inr s3
      · rw [h.oth _ hc] at hh
        exact .inl (.inr (.inl (.inr ⟨K, hK', hh⟩)))

set_option maxRecDepth 100000 in
set_option maxHeartbeats 8000000 in
theorem settle_any {L : List Kd} (hL : KOk L) (hB : kB ∈ L) (hLook : LookOk L) (NB NL base : Nat) (F : Nat → KV) (T D U : Nat) (rg rw_ : Option Nat) (G : List Got) (n : Nat) (w : World) (h : BL L w NB NL base F T D U rg rw_ G) (hn : n ≤ 1000) :
    Calls Tryz.prog 5 #[.pointer (some ⟨NL, 0, none⟩), .pointer (some ⟨NB, 0, none⟩), .int .i64 n] w fun q w' => q = .returned (.bool true) ∧ SettlePost L w NB NL base F T G w' := by
  obtain ⟨vg, a1, a2, a3⟩ := h.late.gots
  obtain ⟨pg, cg, hvg, -⟩ := row_form a2
  obtain ⟨vw, b1, b2, b3⟩ := h.late.wants
  have hG := h.tot
  obtain ⟨nG, hnG⟩ : ∃ nG, nG = G.length := ⟨_, rfl⟩
  have HnG : Hid (nG = G.length) := hnG
  have hnG2 : nG ≤ 2000 := by omega
  have Hh : Hid (BL L w NB NL base F T D U rg rw_ G) := h
  have HLk := hideB hLook
  have HLB : Hid (KOk L ∧ kB ∈ L) := ⟨hL, hB⟩
  have HTT : Hid (T + G.length ≤ 2000) := hG
  have a1' : w.cell? ⟨NL, 0, none⟩ = some (.slice pg nG cg) := by rw [hnG, ← hvg]; exact a1
  by_cases hlt : nG < n
  · have hlt' : (nG : Int) < (n : Int) := by omega
    clear h a1 a2 a3 b1 b2 b3 hvg hnG hG hL hB hLook
    go_enter Tryz.func5, Tryz.ntmps5
    go_wp2_with fail
    go_ret
    exact ⟨rfl, F, T, D, U, rg, rw_, G, Hh.out, Nat.le_refl _, fun k hk => .inl hk, Chg.refl _ _⟩
  · have hlt' : ¬ (nG : Int) < (n : Int) := by omega
    have HSame := hideB (lateSame_any NL base rg rw_ G w h.late (by omega))
    have hvgp : (Value.slice pg nG cg).ownBlock = rg := by rw [hnG, ← hvg]; exact a3
    have Hvgp : Hid ((Value.slice pg nG cg).ownBlock = rg) := hvgp
    have HS0 : Hid (∀ m, SetSt L w NB NL base F T D G (.slice pg nG cg) vw F U 0 (w.drewN m)) := fun m =>
      ⟨h.book.drewN m, fun e he => .inl he, fun _ _ => rfl, rfl, h.cnt, h.fresh, .inl rfl, .inl rfl, Chg.drewN _ _, fun j g hj hg => (h.late.ok g (List.mem_of_getElem? hg)).got, a1', b1, h.late.f0, h.late.f1, by rw [hnG, ← hvg]; exact a2⟩
    clear h a1 a2 a3 b1 b2 b3 hvg hnG hvgp hG hL hB hLook
    go_enter Tryz.func5, Tryz.ntmps5
    go_wp2_with fail
    refine HSame.out.mono ?_
    rintro _ w1 ⟨rfl, m, hw1⟩
    have H0 : Hid (SetSt L w NB NL base F T D G (.slice pg nG cg) vw F U 0 w1) := by rw [hw1]; exact HS0.out m
    clear hw1 HS0
    go_wp2_with fail
    go_loopw [7] (fun t7 wr => ∃ i : Nat, i ≤ nG ∧ t7 = .int .i64 i ∧ Hid (∃ Fi Ui, SetSt L w NB NL base F T D G (.slice pg nG cg) vw Fi Ui i wr)) (fun t7 _ => nG - (intOf t7).toNat)
    case atStart => exact ⟨0, by omega, rfl, ⟨F, U, H0.out⟩⟩
    case round =>
      obtain ⟨i, hi, rfl, HS⟩ := hrel
      obtain ⟨Fi, Ui, hS⟩ := HS.out
      have c0 := hS.c0
      by_cases hin : i < nG
      · have hin' : (i : Int) < (nG : Int) := by omega
        obtain ⟨g, hg⟩ : ∃ g, G[i]? = some g := ⟨G[i]'(by have := HnG.out; omega), List.getElem?_eq_getElem _⟩
        obtain ⟨gg, rfl, _, _, hgc⟩ := row_at hS.row (show Value.slice pg nG cg = .slice pg G.length cg by rw [HnG.out]) (by have := HnG.out; omega)
        have hgok := Hh.out.late.ok g (List.mem_of_getElem? hg)
        obtain ⟨pq, hpq⟩ := hgok.full
        have d1 : wr.cell? ⟨gg, i, none⟩ = some (.slice pq g.bs.length g.bs.length) := by rw [← hpq]; exact hgc i g.v (by simp [hg])
        have HP : Hid (Calls Tryz.prog 21 #[.pointer (some ⟨NB, 0, none⟩), .slice pq g.bs.length g.bs.length] wr fun q w' => q = .returned (.tuple #[]) ∧ AddPost kB wr NB base (Fi 0).rb (Fi 0).ro (Fi 0).E (Fi 0).A (T + i) D ⟨.slice pq g.bs.length g.bs.length, g.bs.length, T + i + 1⟩ w') := by
          have hcnt : (Fi 0).E.length + 96 * ((Fi 0).E.length - (Fi 0).A) ≤ 97 * (T + i) := hS.cnt kB HLB.out.2
          have h9 := HTT.out
          have h10 := HnG.out
          refine addB_any NB base (Fi 0).rb (Fi 0).ro (Fi 0).E (Fi 0).A (T + i) D Ui g.bs.length pq (bytesV g.bs) wr (hS.book.st kB HLB.out.2) hS.book.com (by rw [← hpq]; exact hS.left i g (Nat.le_refl _) hg) hgok.short (by omega) (by omega) (Nat.le_trans Hh.out.base_ hS.chg.size) (fun e he k hk => ?_)
          rw [← hpq] at hk
          rcases hS.from_ e he with h1 | ⟨j, g', h1, h2, h3⟩
          · exact Hh.out.ge g (List.mem_of_getElem? hg) e h1 k hk
          · rw [h3]; exact fun hh => Hh.out.gg j i g' g h1 h2 hg k hh hk
        have HStep : Hid (∀ w1, AddPost kB wr NB base (Fi 0).rb (Fi 0).ro (Fi 0).E (Fi 0).A (T + i) D ⟨.slice pq g.bs.length g.bs.length, g.bs.length, T + i + 1⟩ w1 → ∃ Fj Uj, SetSt L w NB NL base F T D G (.slice (some ⟨gg, 0, none⟩) nG cg) vw Fj Uj (i + 1) w1) := fun w1 hP => hS.step HLB.out.1 HLB.out.2 Hh.out Hvgp.out hg (by rw [hpq]; exact hP)
        clear HS hS hg hgc hgok hpq
        generalize g.bs.length = nb at *
        go_wp2_with fail
        refine HP.out.mono ?_
        rintro _ w2 ⟨rfl, hP⟩
        have HN : Hid (∃ Fj Uj, SetSt L w NB NL base F T D G (.slice (some ⟨gg, 0, none⟩) nG cg) vw Fj Uj (i + 1) w2) := HStep.out w2 hP
        clear HStep HP hP
        go_wp2_with fail
        exact ⟨⟨i + 1, by omega, by go_num, HN⟩, by simp [intOf]; omega⟩
      · have hin2 : i = nG := by omega
        subst hin2
        have c1 := hS.c1
        have f0 := hS.f0
        have f1 := hS.f1
        obtain ⟨w3, hw3⟩ : ∃ w3, w3 = (wr.setCell ⟨NL, 0, none⟩ (.slice none 0 0)).setCell ⟨NL, 1, none⟩ (.slice none 0 0) := ⟨_, rfl⟩
        have C3 : Chg (fun k => k = NL) wr w3 := by rw [hw3]; exact (Chg.set (S := fun k => k = NL) _ _ _ _ rfl).trans' (Chg.set (S := fun k => k = NL) _ _ _ _ rfl)
        have B3 : BkSt L w3 NB base Fi (T + i) D Ui := hS.book.chg C3 (fun k hk hh => by
          subst hh
          obtain ⟨K, hK', hk⟩ := hk
          have s := hS.book.st K hK'
          obtain ⟨vb, x1, x2, x3⟩ := s.rows
          obtain ⟨vo, y1, y2, y3⟩ := s.nums
          have hlt9 := Hh.out.late.lt
          rcases hk with hk | hk | ⟨e, he, hk⟩
          · have := (row_ge x2 (x3.trans hk)).1; omega
          · have := (row_ge y2 (y3.trans hk)).1; omega
          · have := (row_ge (s.ok e he).1 hk).1; omega) Hh.out.ne
        have HL := hideB (HLk.out NB base Fi (T + i) D Ui w3 B3 (fun K hK' => by have h8 := hS.cnt K hK'; have h9 := HTT.out; have h10 := HnG.out; omega) (Nat.le_trans Hh.out.base_ (Nat.le_trans hS.chg.size C3.size)) hS.fresh)
        have HF : Hid (∀ w4, (∃ F', LookSt L w3 NB base Fi (T + i) Ui F' w4) → SettlePost L w NB NL base F T G w4) := fun w4 hP => by
          obtain ⟨F', hl⟩ := hP
          exact hS.done HLB.out.1 HLB.out.2 Hh.out HnG.out hw3 C3 hl
        clear HS hS B3 C3
        go_wp2_with fail
        rw [← hw3]
        clear hw3
        refine HL.out.mono ?_
        rintro _ w4 ⟨rfl, hP⟩
        have HQ : Hid (SettlePost L w NB NL base F T G w4) := HF.out w4 hP
        clear HF HL hP
        go_wp2_with fail
        go_ret
        exact ⟨rfl, HQ.out⟩

end Go.Proofs.YtangjkhflgkkdaaGreat

namespace Go.Proofs.YtangjkhflgkkdaaGreat
open Go.RowKit
open M
set_option linter.unusedVariables false
set_option linter.unusedSimpArgs false

/-- What an answer must hold lies apart from the Book's rows of a kind. -/
theorem GOk.sepK {K : Kd} {w : World} {NB base : Nat} {rb ro : Option Nat} {E : List Ent} {A : Nat} {g : Got} (h : GOk w base g) (hs : KSt K w NB base rb ro E A) (h0 : 0 < g.bs.length) {k : Nat} (hk : g.u.ownBlock = some k) : ¬ (k = NB ∨ rb = some k ∨ ro = some k) := by
  obtain ⟨b, cap, k1, k2, k3, k4⟩ := h.want
  have hb : b = k := by rw [k1] at hk; simpa [Value.ownBlock] using hk
  subst hb
  have c1 := k4 0 h0
  obtain ⟨vb, x1, x2, x3⟩ := hs.rows
  obtain ⟨vo, y1, y2, y3⟩ := hs.nums
  have hN := hs.le.2.1
  rintro (hh | hh | hh)
  · omega
  · have hne : E ≠ [] := fun e => by have := (hs.le.2.2 e).1; rw [this] at hh; cases hh
    obtain ⟨e, E', hEe⟩ := List.exists_cons_of_ne_nil hne
    obtain ⟨_, _, _, _, _, h4⟩ := row_form x2
    have c2 := (h4 b (x3.trans hh)).2.2.2 0 e.v (by rw [hEe]; rfl)
    obtain ⟨p, c, hv, -⟩ := row_form (hs.ok e (by rw [hEe]; simp)).1
    rw [c1, hv] at c2
    cases c2
  · have hne : E ≠ [] := fun e => by have := (hs.le.2.2 e).2; rw [this] at hh; cases hh
    obtain ⟨e, E', hEe⟩ := List.exists_cons_of_ne_nil hne
    obtain ⟨_, _, _, _, _, h4⟩ := row_form y2
    have c2 := (h4 b (y3.trans hh)).2.2.2 0 (.int .i64 (e.m : Int)) (by rw [hEe]; rfl)
    rw [c1] at c2
    cases c2

/-- What is kept lies in blocks that are there. -/
theorem BL.dbLt {L : List Kd} {w : World} {NB NL base : Nat} {F : Nat → KV} {T D U : Nat} {rg rw_ : Option Nat} {G : List Got} (h : BL L w NB NL base F T D U rg rw_ G) {k : Nat} (hk : DB L F G k) : k < w.heap.size := by
  rcases hk with ⟨K, hK, e, he, hk⟩ | ⟨g, hg, hk | hk⟩
  · exact (row_ge ((h.book.st K hK).ok e he).1 hk).2
  · exact (row_ge (h.late.ok g hg).got hk).2
  · obtain ⟨b, cap, k1, k2, k3, _⟩ := (h.late.ok g hg).want
    rw [k1] at hk
    simp only [Value.ownBlock, Option.some.injEq] at hk
    omega

/-- The Book's rows, and the Late's, lie in blocks from base on. -/
theorem BL.rowGe {L : List Kd} {w : World} {NB NL base : Nat} {F : Nat → KV} {T D U : Nat} {rg rw_ : Option Nat} {G : List Got} (h : BL L w NB NL base F T D U rg rw_ G) {k : Nat} (hk : (∃ K ∈ L, (F K.c).rb = some k ∨ (F K.c).ro = some k) ∨ rg = some k ∨ rw_ = some k) : base ≤ k ∧ k < w.heap.size := by
  rcases hk with ⟨K, hK, hk | hk⟩ | hk | hk
  · obtain ⟨v, _, x2, x3⟩ := (h.book.st K hK).rows
    exact row_ge x2 (x3.trans hk)
  · obtain ⟨v, _, x2, x3⟩ := (h.book.st K hK).nums
    exact row_ge x2 (x3.trans hk)
  · obtain ⟨v, _, x2, x3⟩ := h.late.gots
    exact row_ge x2 (x3.trans hk)
  · obtain ⟨v, _, x2, x3⟩ := h.late.wants
    exact row_ge x2 (x3.trans hk)

/-- A list of another kind than bytes is taken. -/
theorem BL.take {L : List Kd} (hL : KOk L) (hB : kB ∈ L) {w w' : World} {NB NL base : Nat} {F : Nat → KV} {T D U : Nat} {rg rw_ : Option Nat} {G : List Got} (h : BL L w NB NL base F T D U rg rw_ G) {K : Kd} (hK : K ∈ L) (hK0 : K.c ≠ 0) {p : Option Addr} {n m : Nat} {xs : List Value} (hn : n ≤ 50000)
    (hv : w.ownsRow base K.te 1 (.slice p n n) n xs) (htot : T + 1 + G.length ≤ 2000) (hnew : ∀ k, (Value.slice p n n).ownBlock = some k → ¬ DB L F G k)
    (ha : AddPost K w NB base (F K.c).rb (F K.c).ro (F K.c).E (F K.c).A T D ⟨.slice p n n, n, m⟩ w') :
    ∃ F' U', BL L w' NB NL base F' (T + 1) D U' rg rw_ G ∧ (∀ k, DB L F' G k → DB L F G k ∨ (Value.slice p n n).ownBlock = some k) ∧ (∀ k, BkRows L NB F' k → BkRows L NB F k ∨ w.heap.size ≤ k) ∧ Chg (fun k => BkRows L NB F k ∨ (Value.slice p n n).ownBlock = some k) w w' := by
  obtain ⟨rb', ro', E', U', B1, hE, t1, t2, C⟩ := h.book.taken hL hK (e := ⟨.slice p n n, n, m⟩) hv ha
  have hE : E' = (F K.c).E ∨ E' = (F K.c).E ++ [⟨.slice p n n, n, m⟩] := hE
  have C : Chg (fun k => k = NB ∨ (F K.c).rb = some k ∨ (F K.c).ro = some k ∨ (Value.slice p n n).ownBlock = some k) w w' := C
  have s := h.book.st K hK
  obtain ⟨vb, x1, x2, x3⟩ := s.rows
  obtain ⟨vo, y1, y2, y3⟩ := s.nums
  have hNB := s.le.2.1
  have hNL := h.late.lt
  have hll := hL.ll kB hB K hK (fun e => hK0 e.symm)
  have e1 : K.te ≠ 57 := hL.el K hK kB hB
  have e2 : 5 ≠ K.tl := hL.el kB hB K hK
  have e3 : 5 ≠ K.te := hll.2
  have nNL : ¬ (NL = NB ∨ (F K.c).rb = some NL ∨ (F K.c).ro = some NL ∨ (Value.slice p n n).ownBlock = some NL) := fun hh => by
    rcases hh with hh | hh | hh | hh
    · exact h.ne hh.symm
    · have := (row_ge x2 (x3.trans hh)).1; omega
    · have := (row_ge y2 (y3.trans hh)).1; omega
    · have := (row_ge hv hh).1; omega
  refine ⟨_, U', ⟨B1, h.late.chg C nNL (fun k hk hh => ?_) (fun g hg k hk hh => ?_) (fun g hg k hk h0 hh => ?_), h.ne, fun K' hK' => ?_, fun K' hK' => ?_, by omega, fun K' hK' k hk => ?_, fun g hg e he => ?_, h.gg, Nat.le_trans h.base_ C.size⟩, fun k hk => ?_, fun k hk => ?_, C.mono fun k _ hk => ?_⟩
  · obtain ⟨vg, a1, a2, a3⟩ := h.late.gots
    obtain ⟨vw, b1, b2, b3⟩ := h.late.wants
    rcases hh with hh | hh | hh | hh
    · subst hh
      have := (h.rowGe (.inr hk)).1; omega
    · have := h.rows K hK k hh
      rcases hk with hk | hk
      · exact this.1 hk
      · exact this.2 hk
    · rcases hk with hk | hk
      · exact rows_ne a2 y2 (by decide) (a3.trans hk) (y3.trans hh)
      · exact rows_ne b2 y2 (by decide) (b3.trans hk) (y3.trans hh)
    · rcases hk with hk | hk
      · exact rows_ne a2 hv (Ne.symm e1) (a3.trans hk) hh
      · exact rows_ne b2 hv (Ne.symm e1) (b3.trans hk) hh
  · have gv := (h.late.ok g hg).got
    rcases hh with hh | hh | hh | hh
    · subst hh; have := (row_ge gv hk).1; omega
    · exact rows_ne gv x2 e2 hk (x3.trans hh)
    · exact rows_ne gv y2 (by decide) hk (y3.trans hh)
    · exact rows_ne gv hv e3 hk hh
  · have := (h.late.ok g hg).sepK s h0 hk
    rcases hh with hh | hh | hh | hh
    · exact this (.inl hh)
    · exact this (.inr (.inl hh))
    · exact this (.inr (.inr hh))
    · exact hnew k hh (.inr ⟨g, hg, .inr hk⟩)
  · by_cases hc : K'.c = K.c
    · rw [hc, upd_same]
      have h9 := h.fresh K hK
      rcases hE with rfl | rfl
      · exact h9
      · intro i e hi he
        have hi : (F K.c).A ≤ i := hi
        have he : ((F K.c).E ++ [⟨.slice p n n, n, m⟩])[i]? = some e := he
        by_cases hlt : i < (F K.c).E.length
        · rw [List.getElem?_append_left hlt] at he; exact h9 i e hi he
        · rw [List.getElem?_append_right (by omega)] at he
          have h0 : i - (F K.c).E.length = 0 := by
            rcases Nat.eq_zero_or_pos (i - (F K.c).E.length) with h0 | h0
            · exact h0
            · rw [List.getElem?_eq_none (by simp; omega)] at he; cases he
          rw [h0] at he
          simp only [List.getElem?_cons_zero, Option.some.injEq] at he
          subst he
          exact ⟨hn, p, rfl⟩
    · rw [upd_ne _ _ hc]; exact h.fresh K' hK'
  · by_cases hc : K'.c = K.c
    · rw [hc, upd_same]
      have h9 := h.cnt K hK
      have hA : (F K.c).A ≤ (F K.c).E.length := s.le.1
      show E'.length + 96 * (E'.length - (F K.c).A) ≤ _
      rcases hE with rfl | rfl
      · omega
      · simp only [List.length_append, List.length_cons, List.length_nil]; omega
    · rw [upd_ne _ _ hc]
      have := h.cnt K' hK'
      omega
  · by_cases hc : K'.c = K.c
    · rw [hc, upd_same] at hk
      have hk : rb' = some k := hk
      rcases t1 with t1 | ⟨g, t1, t3⟩
      · rw [t1] at hk; exact h.rows K hK k hk
      · rw [t1] at hk
        simp only [Option.some.injEq] at hk
        subst hk
        exact ⟨fun hh => by have := (h.rowGe (.inr (.inl hh))).2; omega, fun hh => by have := (h.rowGe (.inr (.inr hh))).2; omega⟩
    · rw [upd_ne _ _ hc] at hk; exact h.rows K' hK' k hk
  · rw [upd_ne _ _ (Ne.symm hK0)] at he
    exact h.ge g hg e he
  · rcases hk with ⟨K', hK', e, he, hk⟩ | hk
    · by_cases hc : K'.c = K.c
      · rw [hc, upd_same] at he
        have he : e ∈ E' := he
        rcases hE with rfl | rfl
        · exact .inl (.inl ⟨K, hK, e, he, hk⟩)
        · simp only [List.mem_append, List.mem_singleton] at he
          rcases he with he | rfl
          · exact .inl (.inl ⟨K, hK, e, he, hk⟩)
          · exact .inr hk
      · rw [upd_ne _ _ hc] at he
        exact .inl (.inl ⟨K', hK', e, he, hk⟩)
    · exact .inl (.inr hk)
  · rcases hk with hk | ⟨K', hK', hk⟩
    · exact .inl (.inl hk)
    · by_cases hc : K'.c = K.c
      · rw [hc, upd_same] at hk
        have hk : rb' = some k ∨ ro' = some k := hk
        rcases hk with hk | hk
        · rcases t1 with t1 | ⟨g, t1, t3⟩
          · rw [t1] at hk; exact .inl (.inr ⟨K, hK, .inl hk⟩)
          · rw [t1] at hk; simp only [Option.some.injEq] at hk; subst hk; exact .inr t3
        · rcases t2 with t2 | ⟨g, t2, t3⟩
          · rw [t2] at hk; exact .inl (.inr ⟨K, hK, .inr hk⟩)
          · rw [t2] at hk; simp only [Option.some.injEq] at hk; subst hk; exact .inr t3
      · rw [upd_ne _ _ hc] at hk
        exact .inl (.inr ⟨K', hK', hk⟩)
  · rcases hk with hk | hk | hk | hk
    · exact .inl (.inl hk)
    · exact .inl (.inr ⟨K, hK, .inl hk⟩)
    · exact .inl (.inr ⟨K, hK, .inr hk⟩)
    · exact .inr hk

/-- What Add of the Late may change. -/
def LRows (NL : Nat) (rg rw_ : Option Nat) (k : Nat) : Prop := k = NL ∨ rg = some k ∨ rw_ = some k

/-- An answer goes into the Late. -/
theorem BL.put {L : List Kd} (hL : KOk L) (hB : kB ∈ L) {w w' : World} {NB NL base : Nat} {F : Nat → KV} {T D U : Nat} {rg rw_ : Option Nat} {G : List Got} (h : BL L w NB NL base F T D U rg rw_ G) {v : Value} {bs : List Nat} (htot : T + (G.length + 1) ≤ 2000) (hnew : ∀ k, v.ownBlock = some k → ¬ DB L F G k)
    (hp : LatePost w NL base rg rw_ G v bs w') :
    ∃ rg' rw' u, BL L w' NB NL base F T D U rg' rw' (G ++ [⟨v, u, bs⟩]) ∧ (∃ k, u.ownBlock = some k ∧ w.heap.size ≤ k) ∧ (∀ k, LRows NL rg' rw' k → LRows NL rg rw_ k ∨ w.heap.size ≤ k) ∧ Chg (LRows NL rg rw_) w w' := by
  obtain ⟨rg', rw', u, S', t1, t2, hu, C⟩ := hp
  obtain ⟨vg, a1, a2, a3⟩ := h.late.gots
  obtain ⟨vw, b1, b2, b3⟩ := h.late.wants
  have hNL := h.late.lt
  have hNB := (h.book.st kB hB).le.2.1
  refine ⟨rg', rw', u, ⟨h.book.chg C (fun k hk hh => ?_) (fun hh => ?_), S', h.ne, h.fresh, h.cnt, by simp; omega, fun K hK k hk => ?_, fun g hg e he k hk => ?_, fun i j gi gj hij hi hj k hk => ?_, Nat.le_trans h.base_ C.size⟩, hu, fun k hk => ?_, C⟩
  · obtain ⟨K, hK, hk⟩ := hk
    have s := h.book.st K hK
    obtain ⟨vb, x1, x2, x3⟩ := s.rows
    obtain ⟨vo, y1, y2, y3⟩ := s.nums
    have e1 : K.te ≠ 57 := hL.el K hK kB hB
    rcases hk with hk | hk | ⟨e, he, hk⟩
    · rcases hh with hh | hh | hh
      · have := (row_ge x2 (x3.trans hk)).1; omega
      · exact (h.rows K hK k hk).1 hh
      · exact (h.rows K hK k hk).2 hh
    · rcases hh with hh | hh | hh
      · have := (row_ge y2 (y3.trans hk)).1; omega
      · exact rows_ne a2 y2 (by decide) (a3.trans hh) (y3.trans hk)
      · exact rows_ne b2 y2 (by decide) (b3.trans hh) (y3.trans hk)
    · have ev := (s.ok e he).1
      rcases hh with hh | hh | hh
      · have := (row_ge ev hk).1; omega
      · exact rows_ne ev a2 e1 hk (a3.trans hh)
      · exact rows_ne ev b2 e1 hk (b3.trans hh)
  · rcases hh with hh | hh | hh
    · exact h.ne hh
    · have := (row_ge a2 (a3.trans hh)).1; omega
    · have := (row_ge b2 (b3.trans hh)).1; omega
  · have hr := h.rows K hK k hk
    have hlt := (h.rowGe (.inl ⟨K, hK, .inl hk⟩)).2
    refine ⟨?_, ?_⟩
    · rcases t1 with t1 | ⟨g, t1, t3⟩
      · rw [t1]; exact hr.1
      · rw [t1]; intro hh; simp only [Option.some.injEq] at hh; omega
    · rcases t2 with t2 | ⟨g, t2, t3⟩
      · rw [t2]; exact hr.2
      · rw [t2]; intro hh; simp only [Option.some.injEq] at hh; omega
  · simp only [List.mem_append, List.mem_singleton] at hg
    rcases hg with hg | rfl
    · exact h.ge g hg e he k hk
    · exact fun hh => hnew k hk (.inl ⟨kB, hB, e, he, hh⟩)
  · by_cases hlt : j < G.length
    · rw [List.getElem?_append_left hlt] at hj
      rw [List.getElem?_append_left (by omega)] at hi
      exact h.gg i j gi gj hij hi hj k hk
    · have hjl : j < (G ++ [(⟨v, u, bs⟩ : Got)]).length := by
        rcases Nat.lt_or_ge j (G ++ [(⟨v, u, bs⟩ : Got)]).length with h1 | h1
        · exact h1
        · rw [List.getElem?_eq_none h1] at hj; cases hj
      have hje : j = G.length := by simp at hjl; omega
      subst hje
      rw [List.getElem?_append_right (Nat.le_refl _), Nat.sub_self] at hj
      simp only [List.getElem?_cons_zero, Option.some.injEq] at hj
      subst hj
      rw [List.getElem?_append_left hij] at hi
      exact fun hh => hnew k hh (.inr ⟨gi, List.mem_of_getElem? hi, .inl hk⟩)
  · rcases hk with hk | hk | hk
    · exact .inl (.inl hk)
    · rcases t1 with t1 | ⟨g, t1, t3⟩
      · rw [t1] at hk; exact .inl (.inr (.inl hk))
      · rw [t1] at hk; simp only [Option.some.injEq] at hk; subst hk; exact .inr t3
    · rcases t2 with t2 | ⟨g, t2, t3⟩
      · rw [t2] at hk; exact .inl (.inr (.inr hk))
      · rw [t2] at hk; simp only [Option.some.injEq] at hk; subst hk; exact .inr t3

/-- Something new is laid beside it. -/
theorem BL.below {L : List Kd} {w w' : World} {NB NL base : Nat} {F : Nat → KV} {T D U : Nat} {rg rw_ : Option Nat} {G : List Got} (h : BL L w NB NL base F T D U rg rw_ G) (hB : Below w.heap.size w w') : BL L w' NB NL base F T D U rg rw_ G :=
  have C : Chg (fun k => w.heap.size ≤ k) w w' := Chg.below hB
  ⟨h.book.chg C (fun k hk hh => by
      obtain ⟨K, hK, hk | hk | ⟨e, he, hk⟩⟩ := hk
      · have := (h.rowGe (.inl ⟨K, hK, .inl hk⟩)).2; omega
      · have := (h.rowGe (.inl ⟨K, hK, .inr hk⟩)).2; omega
      · have := h.dbLt (.inl ⟨K, hK, e, he, hk⟩); omega) (fun hh => by have := h.book.NBlt; omega),
    h.late.chg C (fun hh => by obtain ⟨vg, a1, _⟩ := h.late.gots; have := block_lt_of_cell a1; simp only at this; omega) (fun k hk hh => by have := (h.rowGe (.inr hk)).2; omega) (fun g hg k hk hh => by have := h.dbLt (.inr ⟨g, hg, .inl hk⟩); omega) (fun g hg k hk _ hh => by have := h.dbLt (.inr ⟨g, hg, .inr hk⟩); omega),
    h.ne, h.fresh, h.cnt, h.tot, h.rows, h.ge, h.gg, Nat.le_trans h.base_ hB.size⟩

end Go.Proofs.YtangjkhflgkkdaaGreat

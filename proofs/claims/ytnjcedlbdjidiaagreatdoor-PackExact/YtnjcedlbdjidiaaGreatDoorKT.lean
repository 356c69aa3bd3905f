/- The document's window. -/
import Derived.Test.YtnjcedlbdjidiaaGreatDoorKQ
import Derived.Test.YtnjcedlbdjidiaaGreatDoorKM
import Derived.Test.YtnjcedlbdjidiaaGreatDoorP1A
/- The law's Late: Settle. -/
namespace Go.Proofs.YtnjcedlbdjidiaaGreatDoor
open Go.RowKit
open M
set_option linter.unusedVariables false
set_option linter.unusedSimpArgs false

/-- The blocks of the data that are kept. -/
def DB (L : List Kd) (F : Nat → KV) (G : List Got) (k : Nat) : Prop := (∃ K ∈ L, ∃ e ∈ (F K.c).E, e.v.ownBlock = some k) ∨ ∃ g ∈ G, g.v.ownBlock = some k ∨ g.u.ownBlock = some k

/-- Behind Settle. -/
def SettlePost (L : List Kd) (w : World) (NB NL base : Nat) (F : Nat → KV) (T : Nat) (G : List Got) (w' : World) : Prop :=
  ∃ F' T' D' U' rg' rw' G', BL L w' NB NL base F' T' D' U' rg' rw' G' ∧ T' + G'.length ≤ T + G.length ∧ (∀ k, DB L F' G' k → DB L F G k ∨ w.heap.size ≤ k) ∧ Chg (fun k => k = NL ∨ SS L NB F G k) w w'

/-- Behind the loop: the Late is empty, the Book was looked at. -/
theorem SetSt.done {L : List Kd} (hL : KOk L) (hB : kB ∈ L) {w wr w3 w4 : World} {NB NL base : Nat} {F : Nat → KV} {T D U : Nat} {rg rw_ : Option Nat} {G : List Got} {vg vw : Value} {Fi F' : Nat → KV} {Ui i : Nat} (hK : BL L w NB NL base F T D U rg rw_ G) (hi : i = G.length)
    (h : SetSt L w NB NL base F T D G vg vw Fi Ui i wr) (hw3 : w3 = (wr.setCell ⟨NL, 0, none⟩ (.slice none 0 0)).setCell ⟨NL, 1, none⟩ (.slice none 0 0)) (C3 : Chg (fun k => k = NL) wr w3) (hl : LookSt L w3 NB base Fi (T + i) Ui F' w4) : SettlePost L w NB NL base F T G w4 := by
  obtain ⟨D2, BS⟩ := hl.st
  have C := hl.chg
  have hNL := hK.late.lt
  have nNL : ¬ BkRows L NB Fi NL := fun hh => by
    rcases hh with hh | ⟨K, hK', hh⟩
    · exact hK.ne hh.symm
    · obtain ⟨vb, x1, x2, x3⟩ := (h.book.st K hK').rows
      obtain ⟨vo, y1, y2, y3⟩ := (h.book.st K hK').nums
      rcases hh with hh | hh
      · have := (row_ge x2 (x3.trans hh)).1; omega
      · have := (row_ge y2 (y3.trans hh)).1; omega
  have d0 : w3.cell? ⟨NL, 0, none⟩ = some (.slice none 0 0) := by rw [hw3, cell_setCell_ne _ _ _ _ _ (by omega)]; exact cell_setCell_eq _ _ _ _ _ h.c0
  have d1 : w3.cell? ⟨NL, 1, none⟩ = some (.slice none 0 0) := by rw [hw3]; exact cell_setCell_eq _ _ _ _ vw (by rw [cell_setCell_ne _ _ _ _ _ (by omega)]; exact h.c1)
  have g0 : w3.frozen? ⟨NL, 0, none⟩ = false := by rw [hw3, frozen_setCell, frozen_setCell]; exact h.f0
  have g1 : w3.frozen? ⟨NL, 1, none⟩ = false := by rw [hw3, frozen_setCell, frozen_setCell]; exact h.f1
  have hl3 := block_lt_of_cell d0
  have e0 := cell_chg d0 C nNL
  have e1 := cell_chg d1 C nNL
  have hT := hK.tot
  refine ⟨F', T + i, D2, Ui, none, none, [], ⟨BS, ⟨⟨_, e0, World.ownsRow_nil _ _ _ _, rfl⟩, ⟨_, e1, World.ownsRow_nil _ _ _ _, rfl⟩, ?_, ?_, fun g hg => by simp at hg, fun k hk => by simp at hk, hNL, fun _ => ⟨rfl, rfl⟩⟩, hK.ne, fun K hK' => ?_, fun K hK' => ?_, by simp; omega, fun K _ k hk => by simp, fun g hg => by simp at hg, fun a b ga gb _ ha => by simp at ha, ?_⟩, by simp; omega, fun k hk => ?_, ?_⟩
  · exact (World.frozen?_of_block (w := w3) (a := ⟨NL, 0, none⟩) (C.block NL hl3 nNL)).trans g0
  · exact (World.frozen?_of_block (w := w3) (a := ⟨NL, 1, none⟩) (C.block NL hl3 nNL)).trans g1
  · obtain ⟨X, x1, x2, x3, hA⟩ := hl.E K hK'
    rcases hA with hA | ⟨hX, hA⟩
    · intro k e hk he
      rw [List.getElem?_eq_none (by omega)] at he; cases he
    · have h9 := h.fresh K hK'
      intro k e hk he
      rw [x1, hX, List.append_nil] at he
      rw [hA] at hk
      exact h9 k e hk he
  · obtain ⟨X, x1, x2, x3, hA⟩ := hl.E K hK'
    have h9 := h.cnt K hK'
    rcases hA with hA | ⟨hX, hA⟩
    · rw [hA, Nat.sub_self, x1, List.length_append]; omega
    · rw [hA, x1, hX, List.append_nil]; exact h9
  · exact Nat.le_trans hK.base_ (Nat.le_trans h.chg.size (Nat.le_trans C3.size C.size))
  · rcases hk with ⟨K, hK', e, he, hk⟩ | ⟨g, hg, _⟩
    · obtain ⟨X, x1, x2, x3, hA⟩ := hl.E K hK'
      rw [x1] at he
      simp only [List.mem_append] at he
      rcases he with he | he
      · by_cases hc : K.c = 0
        · rw [hc] at he
          rcases h.from_ e he with h1 | ⟨j, g, h1, h2, h3⟩
          · exact .inl (.inl ⟨K, hK', e, by rw [hc]; exact h1, hk⟩)
          · exact .inl (.inr ⟨g, List.mem_of_getElem? h2, .inl (h3 ▸ hk)⟩)
        · rw [h.oth _ hc] at he
          exact .inl (.inl ⟨K, hK', e, he, hk⟩)
      · exact .inr (Nat.le_trans (Nat.le_trans h.chg.size C3.size) (x3 e he k hk))
    · simp at hg
  · have r1 : Chg (fun k => k = NL ∨ SS L NB F G k) w w3 := (h.chg.mono fun k _ hk => .inr hk).trans' (C3.mono fun k _ hk => .inl hk)
    refine r1.trans (C.mono fun k _ hh => ?_)
    rcases hh with hh | ⟨K, hK', hh⟩
    · exact .inl (.inr (.inl (.inl hh)))
    · by_cases hc : K.c = 0
      · have := hL.uniq K hK' kB hB hc
        subst this
        rcases hh with hh | hh
        · rcases h.s1 with s9 | ⟨gg, s9, s3⟩
          · exact .inl (.inr (.inl (.inr ⟨kB, hB, .inl (s9 ▸ hh)⟩)))
          · have hh : (Fi 0).rb = some k := hh
            rw [s9] at hh; simp only [Option.some.injEq] at hh; subst hh; exact .inr s3
        · rcases h.s2 with s9 | ⟨gg, s9, s3⟩
          · exact .inl (.inr (.inl (.inr ⟨kB, hB, .inr (s9 ▸ hh)⟩)))
          · have hh : (Fi 0).ro = some k := hh
            rw [s9] at hh; simp only [Option.some.injEq] at hh; subst hh; exact .inr s3
      · rw [h.oth _ hc] at hh
        exact .inl (.inr (.inl (.inr ⟨K, hK', hh⟩)))

set_option maxRecDepth 100000 in
set_option maxHeartbeats 8000000 in
theorem settle_any {L : List Kd} (hL : KOk L) (hB : kB ∈ L) (hLook : LookOk L) (NB NL base : Nat) (F : Nat → KV) (T D U : Nat) (rg rw_ : Option Nat) (G : List Got) (n : Nat) (w : World) (h : BL L w NB NL base F T D U rg rw_ G) (hn : n ≤ 1000) :
    Calls Tryz.prog 5 #[.pointer (some ⟨NL, 0, none⟩), .pointer (some ⟨NB, 0, none⟩), .int .i64 n] w fun q w' => q = .returned (.bool true) ∧ SettlePost L w NB NL base F T G w' := by
  obtain ⟨vg, a1, a2, a3⟩ := h.late.gots
  obtain ⟨pg, cg, hvg, -⟩ := row_form a2
  obtain ⟨vw, b1, b2, b3⟩ := h.late.wants
  have hG := h.tot
  obtain ⟨nG, hnG⟩ : ∃ nG, nG = G.length := ⟨_, rfl⟩
  have HnG : Hid (nG = G.length) := hnG
  have hnG2 : nG ≤ 2000 := by omega
  have Hh : Hid (BL L w NB NL base F T D U rg rw_ G) := h
  have HLk := hideB hLook
  have HLB : Hid (KOk L ∧ kB ∈ L) := ⟨hL, hB⟩
  have HTT : Hid (T + G.length ≤ 2000) := hG
  have a1' : w.cell? ⟨NL, 0, none⟩ = some (.slice pg nG cg) := by rw [hnG, ← hvg]; exact a1
  by_cases hlt : nG < n
  · have hlt' : (nG : Int) < (n : Int) := by omega
    clear h a1 a2 a3 b1 b2 b3 hvg hnG hG hL hB hLook
    go_enter Tryz.func5, Tryz.ntmps5
    go_wp2_with fail
    go_ret
    exact ⟨rfl, F, T, D, U, rg, rw_, G, Hh.out, Nat.le_refl _, fun k hk => .inl hk, Chg.refl _ _⟩
  · have hlt' : ¬ (nG : Int) < (n : Int) := by omega
    have HSame := hideB (lateSame_any NL base rg rw_ G w h.late (by omega))
    have hvgp : (Value.slice pg nG cg).ownBlock = rg := by rw [hnG, ← hvg]; exact a3
    have Hvgp : Hid ((Value.slice pg nG cg).ownBlock = rg) := hvgp
    have HS0 : Hid (∀ m, SetSt L w NB NL base F T D G (.slice pg nG cg) vw F U 0 (w.drewN m)) := fun m =>
      ⟨h.book.drewN m, fun e he => .inl he, fun _ _ => rfl, rfl, h.cnt, h.fresh, .inl rfl, .inl rfl, Chg.drewN _ _, fun j g hj hg => (h.late.ok g (List.mem_of_getElem? hg)).got, a1', b1, h.late.f0, h.late.f1, by rw [hnG, ← hvg]; exact a2⟩
    clear h a1 a2 a3 b1 b2 b3 hvg hnG hvgp hG hL hB hLook
    go_enter Tryz.func5, Tryz.ntmps5
    go_wp2_with fail
    refine HSame.out.mono ?_
    rintro _ w1 ⟨rfl, m, hw1⟩
    have H0 : Hid (SetSt L w NB NL base F T D G (.slice pg nG cg) vw F U 0 w1) := by rw [hw1]; exact HS0.out m
    clear hw1 HS0
    go_wp2_with fail
    go_loopw [7] (fun t7 wr => ∃ i : Nat, i ≤ nG ∧ t7 = .int .i64 i ∧ Hid (∃ Fi Ui, SetSt L w NB NL base F T D G (.slice pg nG cg) vw Fi Ui i wr)) (fun t7 _ => nG - (intOf t7).toNat)
    case atStart => exact ⟨0, by omega, rfl, ⟨F, U, H0.out⟩⟩
    case round =>
      obtain ⟨i, hi, rfl, HS⟩ := hrel
      obtain ⟨Fi, Ui, hS⟩ := HS.out
      have c0 := hS.c0
      by_cases hin : i < nG
      · have hin' : (i : Int) < (nG : Int) := by omega
        obtain ⟨g, hg⟩ : ∃ g, G[i]? = some g := ⟨G[i]'(by have := HnG.out; omega), List.getElem?_eq_getElem _⟩
        obtain ⟨gg, rfl, _, _, hgc⟩ := row_at hS.row (show Value.slice pg nG cg = .slice pg G.length cg by rw [HnG.out]) (by have := HnG.out; omega)
        have hgok := Hh.out.late.ok g (List.mem_of_getElem? hg)
        obtain ⟨pq, hpq⟩ := hgok.full
        have d1 : wr.cell? ⟨gg, i, none⟩ = some (.slice pq g.bs.length g.bs.length) := by rw [← hpq]; exact hgc i g.v (by simp [hg])
        have HP : Hid (Calls Tryz.prog 23 #[.pointer (some ⟨NB, 0, none⟩), .slice pq g.bs.length g.bs.length] wr fun q w' => q = .returned (.tuple #[]) ∧ AddPost kB wr NB base (Fi 0).rb (Fi 0).ro (Fi 0).E (Fi 0).A (T + i) D ⟨.slice pq g.bs.length g.bs.length, g.bs.length, T + i + 1⟩ w') := by
          have hcnt : (Fi 0).E.length + 96 * ((Fi 0).E.length - (Fi 0).A) ≤ 97 * (T + i) := hS.cnt kB HLB.out.2
          have h9 := HTT.out
          have h10 := HnG.out
          refine addB_any NB base (Fi 0).rb (Fi 0).ro (Fi 0).E (Fi 0).A (T + i) D Ui g.bs.length pq (bytesV g.bs) wr (hS.book.st kB HLB.out.2) hS.book.com (by rw [← hpq]; exact hS.left i g (Nat.le_refl _) hg) hgok.short (by omega) (by omega) (Nat.le_trans Hh.out.base_ hS.chg.size) (fun e he k hk => ?_)
          rw [← hpq] at hk
          rcases hS.from_ e he with h1 | ⟨j, g', h1, h2, h3⟩
          · exact Hh.out.ge g (List.mem_of_getElem? hg) e h1 k hk
          · rw [h3]; exact fun hh => Hh.out.gg j i g' g h1 h2 hg k hh hk
        have HStep : Hid (∀ w1, AddPost kB wr NB base (Fi 0).rb (Fi 0).ro (Fi 0).E (Fi 0).A (T + i) D ⟨.slice pq g.bs.length g.bs.length, g.bs.length, T + i + 1⟩ w1 → ∃ Fj Uj, SetSt L w NB NL base F T D G (.slice (some ⟨gg, 0, none⟩) nG cg) vw Fj Uj (i + 1) w1) := fun w1 hP => hS.step HLB.out.1 HLB.out.2 Hh.out Hvgp.out hg (by rw [hpq]; exact hP)
        clear HS hS hg hgc hgok hpq
        generalize g.bs.length = nb at *
        go_wp2_with fail
        refine HP.out.mono ?_
        rintro _ w2 ⟨rfl, hP⟩
        have HN : Hid (∃ Fj Uj, SetSt L w NB NL base F T D G (.slice (some ⟨gg, 0, none⟩) nG cg) vw Fj Uj (i + 1) w2) := HStep.out w2 hP
        clear HStep HP hP
        go_wp2_with fail
        exact ⟨⟨i + 1, by omega, by go_num, HN⟩, by simp [intOf]; omega⟩
      · have hin2 : i = nG := by omega
        subst hin2
        have c1 := hS.c1
        have f0 := hS.f0
        have f1 := hS.f1
        obtain ⟨w3, hw3⟩ : ∃ w3, w3 = (wr.setCell ⟨NL, 0, none⟩ (.slice none 0 0)).setCell ⟨NL, 1, none⟩ (.slice none 0 0) := ⟨_, rfl⟩
        have C3 : Chg (fun k => k = NL) wr w3 := by rw [hw3]; exact (Chg.set (S := fun k => k = NL) _ _ _ _ rfl).trans' (Chg.set (S := fun k => k = NL) _ _ _ _ rfl)
        have B3 : BkSt L w3 NB base Fi (T + i) D Ui := hS.book.chg C3 (fun k hk hh => by
          subst hh
          obtain ⟨K, hK', hk⟩ := hk
          have s := hS.book.st K hK'
          obtain ⟨vb, x1, x2, x3⟩ := s.rows
          obtain ⟨vo, y1, y2, y3⟩ := s.nums
          have hlt9 := Hh.out.late.lt
          rcases hk with hk | hk | ⟨e, he, hk⟩
          · have := (row_ge x2 (x3.trans hk)).1; omega
          · have := (row_ge y2 (y3.trans hk)).1; omega
          · have := (row_ge (s.ok e he).1 hk).1; omega) Hh.out.ne
        have HL := hideB (HLk.out NB base Fi (T + i) D Ui w3 B3 (fun K hK' => by have h8 := hS.cnt K hK'; have h9 := HTT.out; have h10 := HnG.out; omega) (Nat.le_trans Hh.out.base_ (Nat.le_trans hS.chg.size C3.size)) hS.fresh)
        have HF : Hid (∀ w4, (∃ F', LookSt L w3 NB base Fi (T + i) Ui F' w4) → SettlePost L w NB NL base F T G w4) := fun w4 hP => by
          obtain ⟨F', hl⟩ := hP
          exact hS.done HLB.out.1 HLB.out.2 Hh.out HnG.out hw3 C3 hl
        clear HS hS B3 C3
        go_wp2_with fail
        rw [← hw3]
        clear hw3
        refine HL.out.mono ?_
        rintro _ w4 ⟨rfl, hP⟩
        have HQ : Hid (SettlePost L w NB NL base F T G w4) := HF.out w4 hP
        clear HF HL hP
        go_wp2_with fail
        go_ret
        exact ⟨rfl, HQ.out⟩

end Go.Proofs.YtnjcedlbdjidiaaGreatDoor

/- The Book of bytes, words and smalls is looked at; the document's window. -/
namespace Go.Proofs.YtnjcedlbdjidiaaGreatDoor
open Go.RowKit
open M
set_option linter.unusedVariables false

theorem look_LQ : LookOk LQ := fun NB base F T D U w h hE hb hf => look_book NB base F T D U w h hE hb hf

theorem lead_zero (x W i : Nat) (hi : i < W - bitLen x) : x / 2 ^ (W - 1 - i) = 0 := by
  have h1 : x < 2 ^ bitLen x := (bitLen_spec x).1
  have h2 : 2 ^ bitLen x ≤ 2 ^ (W - 1 - i) := Nat.pow_le_pow_right (by omega) (by omega)
  exact Nat.div_eq_of_lt (by omega)

theorem lead_one (x W : Nat) (h0 : x ≠ 0) (hx : bitLen x ≤ W) : x / 2 ^ (W - 1 - (W - bitLen x)) = 1 := by
  have hp := bitLen_pos x h0
  have e : W - 1 - (W - bitLen x) = bitLen x - 1 := by omega
  rw [e]
  have h1 : x < 2 ^ bitLen x := (bitLen_spec x).1
  have h2 := (bitLen_spec x).2 h0
  have h3 : 2 ^ bitLen x = 2 * 2 ^ (bitLen x - 1) := by rw [← Nat.pow_succ']; congr 1; omega
  rw [Nat.div_eq_iff (Nat.two_pow_pos _)]
  omega

theorem tail_even (x t : Nat) (h0 : x ≠ 0) (hx : x < 2 ^ 64) (ht : t < tz x) : x / 2 ^ t % 2 = 0 := by
  obtain ⟨m, hm⟩ := tz_spec x h0 hx
  have e : 2 ^ tz x = 2 ^ t * (2 * 2 ^ (tz x - t - 1)) := by rw [← Nat.pow_succ', ← Nat.pow_add]; congr 1; omega
  have e2 : x / 2 ^ t = 2 * (2 ^ (tz x - t - 1) * (2 * m + 1)) := by
    refine Nat.div_eq_of_eq_mul_right (Nat.two_pow_pos _) ?_
    rw [← Nat.mul_assoc 2, ← Nat.mul_assoc (2 ^ t), ← e]
    exact hm
  omega

theorem tail_odd (x : Nat) (h0 : x ≠ 0) (hx : x < 2 ^ 64) : x / 2 ^ tz x % 2 = 1 := by
  obtain ⟨m, hm⟩ := tz_spec x h0 hx
  have e2 : x / 2 ^ tz x = 2 * m + 1 := Nat.div_eq_of_eq_mul_right (Nat.two_pow_pos _) hm
  omega

end Go.Proofs.YtnjcedlbdjidiaaGreatDoor

namespace Go.Proofs.YtnjcedlbdjidiaaGreatDoor
open Go.RowKit
open M
set_option linter.unusedVariables false

theorem bit_form (x s : Nat) : ((x : Int) / 2 ^ s).tmod 2 = ((x / 2 ^ s % 2 : Nat) : Int) := by
  have h0 : (x : Int) / 2 ^ s = ((x / 2 ^ s : Nat) : Int) := by simp
  rw [h0, Int.tmod_eq_emod_of_nonneg (Int.natCast_nonneg _)]
  generalize x / 2 ^ s = y
  omega
theorem bit_even (x s : Nat) (h : x / 2 ^ s % 2 = 0) : (((x : Int) / 2 ^ s).tmod 2 == 0) = true := by rw [bit_form, h]; rfl
theorem bit_odd (x s : Nat) (h : x / 2 ^ s % 2 = 1) : (((x : Int) / 2 ^ s).tmod 2 == 0) = false := by rw [bit_form, h]; rfl

set_option maxRecDepth 100000 in
set_option maxHeartbeats 800000 in
theorem rwindow_any (x W : Nat) (w : World) (h0 : x ≠ 0) (hx : x < 2 ^ W) (hW : W ≤ 64) :
    Calls Tryz.prog 90 #[.int .u64 x, .int .i64 W] w fun e w' => e = .returned (.tuple #[.int .i64 ((W - bitLen x : Nat) : Int), .int .i64 ((wl x : Nat) : Int)]) ∧ w' = w := by
  have hx64 := lt64 hx hW
  have hb := bitLen_le x W hx
  have hp := bitLen_pos x h0
  have ht := tz_lt x h0 hx64
  have HL1 : Hid (∀ i, i < W - bitLen x → (((x : Int) / 2 ^ (W - 1 - i)).tmod 2 == 0) = true) := fun i hi => bit_even _ _ (by rw [lead_zero x W i hi])
  have HL2 : Hid ((((x : Int) / 2 ^ (W - 1 - (W - bitLen x))).tmod 2 == 0) = false) := bit_odd _ _ (by rw [lead_one x W h0 hb])
  have HT1 : Hid (∀ t, t < tz x → (((x : Int) / 2 ^ t).tmod 2 == 0) = true) := fun t h => bit_even _ _ (tail_even x t h0 hx64 h)
  have HT2 : Hid ((((x : Int) / 2 ^ tz x).tmod 2 == 0) = false) := bit_odd _ _ (tail_odd x h0 hx64)
  have hwl : Hid (wl x = bitLen x - tz x) := rfl
  generalize wl x = N at *
  generalize tz x = tt at *
  generalize bitLen x = bl at *
  have hx' : x < 18446744073709551616 := by simpa using hx64
  clear hx hx64 h0
  go_enter Tryz.func90, Tryz.ntmps90
  go_wp2_with fail
  go_loopw [6] (fun t6 wr => ∃ i : Nat, i ≤ W - bl ∧ t6 = .int .i64 i ∧ wr = w) (fun t6 _ => W - bl - (intOf t6).toNat)
  case atStart => exact ⟨0, by omega, rfl, rfl⟩
  case round =>
    obtain ⟨i, hi, rfl, hw⟩ := hrel
    have hw := hw.symm
    subst hw
    by_cases hlt : i < W - bl
    · have q := HL1.out i hlt
      obtain ⟨s, hs⟩ : ∃ s : Nat, W - 1 - i = s := ⟨_, rfl⟩
      have hs2 : (W : Int) - 1 - (i : Int) = (s : Int) := by omega
      have hs3 : s < 64 := by omega
      rw [hs] at q
      clear hs
      go_wp2_with (simp only [hs2])
      go_roundw
      case rel => exact ⟨i + 1, by omega, by go_num, by first | rfl | trivial⟩
      case measure => simp [intOf]; omega
    · have hi2 : i = W - bl := by omega
      have q := HL2.out
      rw [← hi2] at q
      have Hi2 : Hid (i = W - bl) := hi2
      obtain ⟨s, hs⟩ : ∃ s : Nat, W - 1 - i = s := ⟨_, rfl⟩
      have hs2 : (W : Int) - 1 - (i : Int) = (s : Int) := by omega
      have hs3 : s < 64 := by omega
      have hib : i ≤ 64 := by omega
      rw [hs] at q
      clear hs hi2
      go_wp2_with (simp only [hs2])
      clear q hs2 hs3
      go_loopw [7] (fun t7 wx => ∃ t : Nat, t ≤ tt ∧ t7 = .int .i64 t ∧ wx = w) (fun t7 _ => tt - (intOf t7).toNat)
      case atStart => exact ⟨0, by omega, rfl, rfl⟩
      case round =>
        obtain ⟨t, ht2, rfl, hw⟩ := hrel
        have hw := hw.symm
        subst hw
        by_cases htl : t < tt
        · have q := HT1.out t htl
          have hs3 : t < 64 := by omega
          go_wp2_with fail
          go_roundw
          case rel => exact ⟨t + 1, by omega, by go_num, by first | rfl | trivial⟩
          case measure => simp [intOf]; omega
        · have ht3 : tt = t := by omega
          subst ht3
          have q := HT2.out
          have hs3 : tt < 64 := by omega
          go_wp2_with fail
          go_ret2
          refine ⟨?_, rfl⟩
          have e1 : (i : Int) = ((W - bl : Nat) : Int) := by rw [Hi2.out]
          have e2 : (W : Int) - (i : Int) - (tt : Int) = (N : Int) := by have := Hi2.out; have := hwl.out; omega
          rw [e1] at e2 ⊢
          rw [e2]
          rfl

end Go.Proofs.YtnjcedlbdjidiaaGreatDoor

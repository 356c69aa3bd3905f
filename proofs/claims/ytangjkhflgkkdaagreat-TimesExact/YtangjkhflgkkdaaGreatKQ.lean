/- The law's Book and its Late together: Settle. -/
import Derived.Test.YtangjkhflgkkdaaGreatKO
import Derived.Test.YtangjkhflgkkdaaGreatKL
import Derived.Test.YtangjkhflgkkdaaGreatKEB
/- The law's Late: same, Settle. -/
namespace Go.Proofs.YtangjkhflgkkdaaGreat
open Go.RowKit
open M
set_option linter.unusedVariables false

theorem isBytes_own {w : World} {base g n cap : Nat} {bs : List Nat} (h : w.ownsRow base 5 1 (.slice (some ⟨g, 0, none⟩) n cap) n (bytesV bs)) (hn : bs.length = n) : IsBytes w (.slice (some ⟨g, 0, none⟩) n cap) bs := by
  obtain ⟨h1, h2⟩ := h
  rcases h2 with ⟨h2, _⟩ | ⟨g', cap', cur, h0, h4, h5, h6, _, h7, h8⟩
  · simp at h2
  · simp only [Value.slice.injEq, Option.some.injEq, Addr.mk.injEq] at h0
    obtain ⟨⟨rfl, _⟩, _, rfl⟩ := h0
    refine .inr ⟨g, 0, cap, by rw [hn], fun i hi => ?_⟩
    rw [cell_of_row _ _ _ _ _ _ h5]
    have h9 := congrArg (fun l => l[i]?) h8
    rw [List.getElem?_take_of_lt (by omega)] at h9
    rw [Nat.zero_add]
    have h10 : cur[i]? = (bytesV bs)[i]? := by simpa using h9
    rw [h10]
    simp [bytesV, hi]

theorem by_of_row {w : World} {base n : Nat} {v : Value} {bs : List Nat} (h : w.ownsRow base 5 1 v n (bytesV bs)) : IsBy w v bs := by
  have hl : bs.length = n := by have := h.1; simpa using this
  rcases h.2 with ⟨rfl, rfl⟩ | ⟨g, cap, cur, rfl, _⟩
  · exact .inl (.inl ⟨rfl, List.length_eq_zero_iff.1 hl⟩)
  · exact .inl (isBytes_own h hl)

theorem GOk.by_got {w : World} {base : Nat} {g : Got} (h : GOk w base g) : IsBy w g.v g.bs := by_of_row h.got

theorem GOk.by_want {w : World} {base : Nat} {g : Got} (h : GOk w base g) : IsBy w g.u g.bs := by
  obtain ⟨b, cap, k1, _, _, k4⟩ := h.want
  rw [k1]
  exact .inl (.inr ⟨b, 0, cap, rfl, fun i hi => by rw [Nat.zero_add]; exact k4 i hi⟩)

theorem IsBy.drewN {w : World} {v : Value} {bs : List Nat} (h : IsBy w v bs) (m : Nat) : IsBy (w.drewN m) v bs := h

set_option maxRecDepth 100000 in
set_option maxHeartbeats 8000000 in
theorem lateSame_any (NL base : Nat) (rg rw_ : Option Nat) (G : List Got) (w : World) (h : LateSt w NL base rg rw_ G) (hG : G.length ≤ 100000) :
    Calls Tryz.prog 20 #[.pointer (some ⟨NL, 0, none⟩)] w fun q w' => q = .returned (.bool true) ∧ ∃ m, w' = w.drewN m := by
  obtain ⟨vg, a1, a2, _⟩ := h.gots
  obtain ⟨vw, b1, b2, _⟩ := h.wants
  obtain ⟨pg, cg, hvg, -⟩ := row_form a2
  obtain ⟨pw, cw, hvw, -⟩ := row_form b2
  have HOK : Hid (∀ g ∈ G, GOk w base g) := h.ok
  have HB : Hid (0 < G.length → ∃ b, pg = some ⟨b, 0, none⟩ ∧ ∀ (i : Nat) g, G[i]? = some g → w.cell? ⟨b, i, none⟩ = some g.v) := fun h0 => by
    obtain ⟨b, h1, _, _, h2⟩ := row_at a2 hvg h0
    exact ⟨b, h1, fun i g hg => h2 i g.v (by simp [hg])⟩
  have HM : Hid (0 < G.length → ∃ b, pw = some ⟨b, 0, none⟩ ∧ ∀ (i : Nat) g, G[i]? = some g → w.cell? ⟨b, i, none⟩ = some g.u) := fun h0 => by
    obtain ⟨b, h1, _, _, h2⟩ := row_at b2 hvw h0
    exact ⟨b, h1, fun i g hg => h2 i g.u (by simp [hg])⟩
  subst hvg
  subst hvw
  obtain ⟨nG, hnG⟩ : ∃ nG, nG = G.length := ⟨_, rfl⟩
  have HnG : Hid (nG = G.length) := hnG
  rw [← hnG] at a1 b1 hG
  clear h a2 b2 hnG
  go_enter Tryz.func20, Tryz.ntmps20
  go_wp2
  go_loopw [3] (fun t3 wr => ∃ k : Nat, k ≤ nG ∧ t3 = .int .i64 k ∧ Hid (∃ m, wr = w.drewN m)) (fun t3 _ => nG - (intOf t3).toNat)
  case atStart => exact ⟨0, by omega, rfl, ⟨0, rfl⟩⟩
  case round =>
    obtain ⟨k, hk, rfl, Hm⟩ := hrel
    have hcell : ∀ a, wr.cell? a = w.cell? a := fun a => by obtain ⟨m, rfl⟩ := Hm.out; rfl
    have a1' := (hcell ⟨NL, 0, none⟩).trans a1
    have b1' := (hcell ⟨NL, 1, none⟩).trans b1
    by_cases hlt : k < nG
    · have hkI : (k : Int) < (nG : Int) := by omega
      obtain ⟨g, hg⟩ : ∃ g, G[k]? = some g := ⟨G[k]'(by have := HnG.out; omega), List.getElem?_eq_getElem _⟩
      have hok := HOK.out g (List.mem_of_getElem? hg)
      obtain ⟨gb, rfl, hgb⟩ := HB.out (by have := HnG.out; omega)
      obtain ⟨gw, rfl, hgw⟩ := HM.out (by have := HnG.out; omega)
      have d1 := (hcell ⟨gb, k, none⟩).trans (hgb k g hg)
      have d2 := (hcell ⟨gw, k, none⟩).trans (hgw k g hg)
      have hcv1 : ∀ n, (convert 57 9 g.v).run Tryz.prog (wr.drewN n) = .ok (.string (strOf g.bs)) (wr.drewN n) := fun n => by
        obtain ⟨m, rfl⟩ := Hm.out
        exact convert_by _ _ _ (by rw [World.drewN_drewN]; exact hok.by_got.drewN _)
      have hcv2 : ∀ n, (convert 57 9 g.u).run Tryz.prog (wr.drewN n) = .ok (.string (strOf g.bs)) (wr.drewN n) := fun n => by
        obtain ⟨m, rfl⟩ := Hm.out
        exact convert_by _ _ _ (by rw [World.drewN_drewN]; exact hok.by_want.drewN _)
      clear hcell hok hgb hgw hg
      generalize strOf g.bs = s at *
      generalize g.v = gv at *
      generalize g.u = gu at *
      go_wp2_with fail
      go_quiet (fail)
      go_wp2_with fail
      go_roundw
      case rel =>
        refine ⟨k + 1, by omega, by go_num, ?_⟩
        obtain ⟨m, rfl⟩ := Hm.out
        exact ⟨m + nq, World.drewN_drewN _ _ _⟩
      case measure => simp [intOf]; omega
    · clear hcell
      go_wp2_with fail
      go_ret
      exact ⟨rfl, Hm.out⟩

end Go.Proofs.YtangjkhflgkkdaaGreat

namespace Go.Proofs.YtangjkhflgkkdaaGreat
open Go.RowKit
open M
set_option linter.unusedVariables false
set_option linter.unusedSimpArgs false

/-- A look at a Book of these kinds. -/
def LookOk (L : List Kd) : Prop := ∀ (NB base : Nat) (F : Nat → KV) (T D U : Nat) (w : World), BkSt L w NB base F T D U → (∀ K ∈ L, (F K.c).E.length + 96 * ((F K.c).E.length - (F K.c).A) ≤ 200000) → base ≤ w.heap.size → (∀ K ∈ L, Fresh (F K.c)) →
    Calls Tryz.prog 11 #[.pointer (some ⟨NB, 0, none⟩)] w fun q w' => q = .returned (.bool true) ∧ ∃ F', LookSt L w NB base F T U F' w'

/-- The Book and the Late. -/
structure BL (L : List Kd) (w : World) (NB NL base : Nat) (F : Nat → KV) (T D U : Nat) (rg rw_ : Option Nat) (G : List Got) : Prop where
  book : BkSt L w NB base F T D U
  late : LateSt w NL base rg rw_ G
  ne : NB ≠ NL
  fresh : ∀ K ∈ L, Fresh (F K.c)
  cnt : ∀ K ∈ L, (F K.c).E.length + 96 * ((F K.c).E.length - (F K.c).A) ≤ 97 * T
  tot : T + G.length ≤ 2000
  rows : ∀ K ∈ L, ∀ k, (F K.c).rb = some k → rg ≠ some k ∧ rw_ ≠ some k
  ge : ∀ g ∈ G, ∀ e ∈ (F 0).E, ∀ k, g.v.ownBlock = some k → e.v.ownBlock ≠ some k
  gg : ∀ (i j : Nat) (gi gj : Got), i < j → G[i]? = some gi → G[j]? = some gj → ∀ k, gi.v.ownBlock = some k → gj.v.ownBlock ≠ some k
  base_ : base ≤ w.heap.size

/-- What Settle may turn. -/
def SS (L : List Kd) (NB : Nat) (F : Nat → KV) (G : List Got) (k : Nat) : Prop := BkRows L NB F k ∨ ∃ g ∈ G, g.v.ownBlock = some k

/-- While the answers go into the Book: i of them are in it. -/
structure SetSt (L : List Kd) (w : World) (NB NL base : Nat) (F : Nat → KV) (T D : Nat) (G : List Got) (vg vw : Value) (Fi : Nat → KV) (Ui i : Nat) (wr : World) : Prop where
  book : BkSt L wr NB base Fi (T + i) D Ui
  from_ : ∀ e ∈ (Fi 0).E, e ∈ (F 0).E ∨ ∃ (j : Nat) (g : Got), j < i ∧ G[j]? = some g ∧ e.v = g.v
  oth : ∀ k, k ≠ 0 → Fi k = F k
  A : (Fi 0).A = (F 0).A
  cnt : ∀ K ∈ L, (Fi K.c).E.length + 96 * ((Fi K.c).E.length - (Fi K.c).A) ≤ 97 * (T + i)
  fresh : ∀ K ∈ L, Fresh (Fi K.c)
  s1 : RStep w (F 0).rb (Fi 0).rb
  s2 : RStep w (F 0).ro (Fi 0).ro
  chg : Chg (SS L NB F G) w wr
  left : ∀ (j : Nat) (g : Got), i ≤ j → G[j]? = some g → wr.ownsRow base 5 1 g.v g.bs.length (bytesV g.bs)
  c0 : wr.cell? ⟨NL, 0, none⟩ = some vg
  c1 : wr.cell? ⟨NL, 1, none⟩ = some vw
  f0 : wr.frozen? ⟨NL, 0, none⟩ = false
  f1 : wr.frozen? ⟨NL, 1, none⟩ = false
  row : wr.ownsRow base 57 1 vg G.length (G.map Got.v)

theorem SetSt.step {L : List Kd} (hL : KOk L) (hB : kB ∈ L) {w wr w1 : World} {NB NL base : Nat} {F : Nat → KV} {T D U : Nat} {rg rw_ : Option Nat} {G : List Got} {vg vw : Value} {Fi : Nat → KV} {Ui i : Nat} {g : Got} (hK : BL L w NB NL base F T D U rg rw_ G) (hvg : vg.ownBlock = rg)
    (h : SetSt L w NB NL base F T D G vg vw Fi Ui i wr) (hg : G[i]? = some g) (hP : AddPost kB wr NB base (Fi 0).rb (Fi 0).ro (Fi 0).E (Fi 0).A (T + i) D ⟨g.v, g.bs.length, T + i + 1⟩ w1) :
    ∃ Fj Uj, SetSt L w NB NL base F T D G vg vw Fj Uj (i + 1) w1 := by
  have hz := h.chg.size
  have hgm := List.mem_of_getElem? hg
  have hgok := hK.late.ok g hgm
  have hgi := h.left i g (Nat.le_refl _) hg
  have hst := h.book.st kB hB
  have hA : (Fi 0).A ≤ (Fi 0).E.length := hst.le.1
  obtain ⟨rb2, ro2, Ej, Uj, B1, hEj, t1, t2, C⟩ := h.book.taken hL (K := kB) hB (e := ⟨g.v, g.bs.length, T + i + 1⟩) hgi hP
  have hEj : Ej = (Fi 0).E ∨ Ej = (Fi 0).E ++ [⟨g.v, g.bs.length, T + i + 1⟩] := hEj
  have t1 : RStep wr (Fi 0).rb rb2 := t1
  have t2 : RStep wr (Fi 0).ro ro2 := t2
  have C : Chg (fun k => k = NB ∨ (Fi 0).rb = some k ∨ (Fi 0).ro = some k ∨ g.v.ownBlock = some k) wr w1 := C
  have B1 : BkSt L w1 NB base (upd Fi 0 ⟨rb2, ro2, Ej, (Fi 0).A⟩) (T + i + 1) D Uj := B1
  obtain ⟨vb, b1, b2, b3⟩ := hst.rows
  obtain ⟨vo, q1, q2, q3⟩ := hst.nums
  have b3 : vb.ownBlock = (Fi 0).rb := b3
  have q3 : vo.ownBlock = (Fi 0).ro := q3
  have hNB := hst.le.2.1
  have hNL := hK.late.lt
  have nNL : ¬ (NL = NB ∨ (Fi 0).rb = some NL ∨ (Fi 0).ro = some NL ∨ g.v.ownBlock = some NL) := fun hh => by
    rcases hh with hh | hh | hh | hh
    · exact hK.ne hh.symm
    · have := (row_ge b2 (b3.trans hh)).1; omega
    · have := (row_ge q2 (q3.trans hh)).1; omega
    · have := (row_ge hgi hh).1; omega
  have hcB : ∀ K ∈ L, K.c = 0 → K = kB := fun K hK' hc => hL.uniq K hK' kB hB hc
  refine ⟨_, Uj, B1, ?_, fun k hk => by rw [upd_ne _ _ hk]; exact h.oth k hk, by rw [upd_same]; exact h.A, ?_, ?_, by rw [upd_same]; exact h.s1.trans hz t1, by rw [upd_same]; exact h.s2.trans hz t2, ?_, ?_, cell_chg h.c0 C nNL, cell_chg h.c1 C nNL, ?_, ?_, ?_⟩
  · intro e he
    rw [upd_same] at he
    have he : e ∈ Ej := he
    rcases hEj with rfl | rfl
    · rcases h.from_ e he with h1 | ⟨j, g', h1, h2, h3⟩
      · exact .inl h1
      · exact .inr ⟨j, g', by omega, h2, h3⟩
    · simp only [List.mem_append, List.mem_singleton] at he
      rcases he with he | rfl
      · rcases h.from_ e he with h1 | ⟨j, g', h1, h2, h3⟩
        · exact .inl h1
        · exact .inr ⟨j, g', by omega, h2, h3⟩
      · exact .inr ⟨i, g, by omega, hg, rfl⟩
  · intro K hK'
    by_cases hc : K.c = 0
    · rw [hc, upd_same]
      have h9 := h.cnt K hK'
      rw [hc] at h9
      show Ej.length + 96 * (Ej.length - (Fi 0).A) ≤ _
      rcases hEj with rfl | rfl
      · omega
      · simp only [List.length_append, List.length_cons, List.length_nil]; omega
    · rw [upd_ne _ _ hc]
      have := h.cnt K hK'
      omega
  · intro K hK'
    by_cases hc : K.c = 0
    · rw [hc, upd_same]
      have h9 := h.fresh K hK'
      rw [hc] at h9
      rcases hEj with rfl | rfl
      · exact h9
      · intro k e hk he
        have hk : (Fi 0).A ≤ k := hk
        have he : ((Fi 0).E ++ [⟨g.v, g.bs.length, T + i + 1⟩])[k]? = some e := he
        by_cases hlt : k < (Fi 0).E.length
        · rw [List.getElem?_append_left hlt] at he; exact h9 k e hk he
        · rw [List.getElem?_append_right (by omega)] at he
          have h0 : k - (Fi 0).E.length = 0 := by
            rcases Nat.eq_zero_or_pos (k - (Fi 0).E.length) with h0 | h0
            · exact h0
            · rw [List.getElem?_eq_none (by simp; omega)] at he; cases he
          rw [h0] at he
          simp only [List.getElem?_cons_zero, Option.some.injEq] at he
          subst he
          exact ⟨hgok.short, hgok.full⟩
    · rw [upd_ne _ _ hc]; exact h.fresh K hK'
  · refine h.chg.trans (C.mono fun k _ hh => ?_)
    rcases hh with hh | hh | hh | hh
    · exact .inl (.inl (.inl hh))
    · rcases h.s1 with s1 | ⟨gg, s1, s3⟩
      · exact .inl (.inl (.inr ⟨kB, hB, .inl (s1 ▸ hh)⟩))
      · rw [s1] at hh; simp only [Option.some.injEq] at hh; subst hh; exact .inr s3
    · rcases h.s2 with s2 | ⟨gg, s2, s3⟩
      · exact .inl (.inl (.inr ⟨kB, hB, .inr (s2 ▸ hh)⟩))
      · rw [s2] at hh; simp only [Option.some.injEq] at hh; subst hh; exact .inr s3
    · exact .inl (.inr ⟨g, hgm, hh⟩)
  · intro j g' hj hg'
    have hrow := h.left j g' (by omega) hg'
    refine ownsRow_chg hrow C (fun k hk hh => ?_)
    rcases hh with hh | hh | hh | hh
    · have := (row_ge hrow hk).1; omega
    · exact rows_ne hrow b2 (by decide) hk (b3.trans hh)
    · exact rows_ne hrow q2 (by decide) hk (q3.trans hh)
    · exact hK.gg i j g g' (by omega) hg hg' k hh hk
  · exact (World.frozen?_of_block (w := wr) (a := ⟨NL, 0, none⟩) (C.block NL (block_lt_of_cell h.c0) nNL)).trans h.f0
  · exact (World.frozen?_of_block (w := wr) (a := ⟨NL, 1, none⟩) (C.block NL (block_lt_of_cell h.c0) nNL)).trans h.f1
  · refine ownsRow_chg h.row C (fun k hk hh => ?_)
    rcases hh with hh | hh | hh | hh
    · have := (row_ge h.row hk).1; omega
    · rcases h.s1 with s1 | ⟨gg, s1, s3⟩
      · exact (hK.rows kB hB k (s1 ▸ hh)).1 (hvg ▸ hk)
      · rw [s1] at hh; simp only [Option.some.injEq] at hh; subst hh
        obtain ⟨vg0, a10, a20, a30⟩ := hK.late.gots
        have := (row_ge a20 (a30.trans (hvg ▸ hk))).2; omega
    · exact rows_ne h.row q2 (by decide) hk (q3.trans hh)
    · exact rows_ne hgi h.row (by decide) hh hk

end Go.Proofs.YtangjkhflgkkdaaGreat

/- The power goes in an Append, in a Clear of a log. -/
import Derived.Test.YtgmahgfelbkoeaaDoorJ11H
/- JournalTorn's states. -/
namespace Go.Proofs.YtgmahgfelbkoeaaDoor
open Go.RowKit
set_option linter.unusedVariables false
set_option linter.unusedSimpArgs false

/-- The disk has the file j alone, with these bytes, all sure. -/
structure Fa (W w : World) (d : Nat) (p : PS) (F : Nat → Prop) (bs : List Nat) (V : Nat) : Prop where
  di : Di W.heap.size w d p F
  con : p.con = [(nmJ, bs, bs.length)]
  room : p.room = 268435456
  arms : p.arms
  wr : p.wr ≤ V
  bel : Below W.heap.size W w
  len : bs.length ≤ 268435448

/-- The power has gone in a write of the log l. -/
structure Cr (W w : World) (d l : Nat) (p : PS) (F : Nat → Prop) (bs : List Nat) (V : Nat) : Prop where
  di : Di W.heap.size w d p F
  con : ∃ su, p.con = [(nmJ, bs, su)]
  room : p.room = 268435456
  off : p.off = true
  ain : p.ain = 0
  keep : p.keep = 0
  lose : p.lose = 0
  wr : p.wr ≤ V
  bel : Below W.heap.size W w
  len : bs.length ≤ 268435448
  lg : ∃ sz ct, LgO w l d nmJ sz ct
  nl : ¬ F l

section
variable {W w : World} {d l : Nat} {p : PS} {F : Nat → Prop} {bs : List Nat} {V : Nat}

theorem Cr.fr (h : Cr W w d l p F bs V) {w' : World} (hd : Di W.heap.size w' d p F) (hf : Fr w F w' F) : Cr W w' d l p F bs V := by
  obtain ⟨sz, ct, hl⟩ := h.lg
  exact { h with di := hd, bel := bel_fr h.bel (Nat.le_refl _) hf h.di.ge, lg := ⟨sz, ct, hl.fr hf h.nl⟩ }

theorem Cr.cell4 (h : Cr W w d l p F bs V) : w.cell? ⟨l, 4, none⟩ = some (.bool true) := by
  obtain ⟨sz, ct, hl⟩ := h.lg
  exact hl.cell4

theorem Cr.isOff (h : Cr W w d l p F bs V) : Calls Tryd.prog 14 #[.pointer (some ⟨d, 0, none⟩)] w fun e w' => e = .returned (.bool true) ∧ Cr W w' d l p F bs V ∧ Fr w F w' F := by
  refine (di_off w h.di).mono ?_
  rintro e w' ⟨rfl, k1, k2⟩
  exact ⟨by rw [h.off], h.fr k1 k2, k2⟩

theorem Cr.on (h : Cr W w d l p F bs V) : Calls Tryd.prog 15 #[.pointer (some ⟨d, 0, none⟩)] w fun e w' => e = .returned (.tuple #[]) ∧ ∃ p' F', Fa W w' d p' F' bs V ∧ p'.off = false ∧ Fr w F w' F' := by
  refine (di_on w h.di).mono ?_
  rintro e w' ⟨rfl, F', k1, k2⟩
  obtain ⟨su, hc⟩ := h.con
  have e1 : p.onned = { p with con := Con.each p.con sureF, off := false } := if_pos h.off
  rw [e1] at k1
  refine ⟨rfl, _, F', ⟨k1, ?_, h.room, ⟨by dsimp only; rw [h.ain]; omega, by dsimp only; rw [h.keep]; omega, by dsimp only; rw [h.lose]; omega, by dsimp only; rw [h.lose]; omega⟩, h.wr, bel_fr h.bel (Nat.le_refl _) k2 h.di.ge, h.len⟩, rfl, k2⟩
  dsimp only
  rw [hc]
  rfl

theorem fa_arm (h : Fa W w d p F bs V) (n x y : Int) (hn : n ≤ 9223372036854775807) (hx : -9223372036854775808 ≤ x ∧ x ≤ 9223372036854775807) (hy : -9223372036854775808 ≤ y ∧ y ≤ 9223372036854775807) :
    Calls Tryd.prog 12 #[.pointer (some ⟨d, 0, none⟩), .int .i64 n, .int .i64 x, .int .i64 y] w fun e w' => e = .returned (.tuple #[]) ∧ ∃ p', Fa W w' d p' F bs V ∧ (p'.off = p.off ∧ p'.ain = n.toNat) ∧ Fr w F w' F := by
  refine (di_arm w h.di n x y).mono ?_
  rintro e w' ⟨rfl, k1, k2⟩
  exact ⟨rfl, _, ⟨k1, h.con, h.room, ⟨by dsimp only; omega, hx, hy⟩, h.wr, bel_fr h.bel (Nat.le_refl _) k2 h.di.ge, h.len⟩, ⟨rfl, rfl⟩, k2⟩

theorem fa_on (h : Fa W w d p F bs V) : Calls Tryd.prog 15 #[.pointer (some ⟨d, 0, none⟩)] w fun e w' => e = .returned (.tuple #[]) ∧ ∃ p' F', Fa W w' d p' F' bs V ∧ (p'.off = false ∧ p'.ain = p.ain) ∧ Fr w F w' F' := by
  refine (di_on w h.di).mono ?_
  rintro e w' ⟨rfl, F', k1, k2⟩
  by_cases ho : p.off = true
  · have e1 : p.onned = { p with con := Con.each p.con sureF, off := false } := if_pos ho
    rw [e1] at k1
    refine ⟨rfl, _, F', ⟨k1, ?_, h.room, h.arms, h.wr, bel_fr h.bel (Nat.le_refl _) k2 h.di.ge, h.len⟩, ⟨rfl, rfl⟩, k2⟩
    dsimp only
    rw [h.con]
    rfl
  · have e1 : p.onned = p := if_neg ho
    rw [e1] at k1
    exact ⟨rfl, p, F', ⟨k1, h.con, h.room, h.arms, h.wr, bel_fr h.bel (Nat.le_refl _) k2 h.di.ge, h.len⟩, ⟨by simpa using ho, rfl⟩, k2⟩

theorem fa_off (h : Fa W w d p F bs V) : Calls Tryd.prog 14 #[.pointer (some ⟨d, 0, none⟩)] w fun e w' => e = .returned (.bool p.off) ∧ Fa W w' d p F bs V ∧ Fr w F w' F := by
  refine (di_off w h.di).mono ?_
  rintro e w' ⟨rfl, k1, k2⟩
  exact ⟨rfl, { h with di := k1, bel := bel_fr h.bel (Nat.le_refl _) k2 h.di.ge }, k2⟩

/-- Open, with the power that may go in it. -/
theorem fa_openA {rr wh : List (List (List Nat))} (h : Fa W w d p F bs V) (hoff : p.off = false) (hV : V ≤ 1000) (hT : TabC W) (ha : Af rr wh bs) :
    Calls Tryd.prog 7 #[.pointer (some ⟨d, 0, none⟩), .string { data := #[106] }] w fun e w' => ∃ (ml : Option Addr) (v : Value) (c : Int), e = .returned (.tuple #[.pointer ml, v, .int .i64 c]) ∧ ∃ p' F' bs', Fa W w' d p' F' bs' (V + 1) ∧ Af rr wh bs' ∧ (c = 0 ∧ p'.off = false ∨ c = 104 ∧ p'.off = true) ∧ Fr w F w' F' ∧ bs'.length ≤ bs.length := by
  obtain ⟨gg, n, k, hbs, hn, h8, hk, hgg, hok⟩ := id ha
  have hmem : (nmJ, bs, bs.length) ∈ p.con := by rw [h.con]; exact List.mem_singleton.2 rfl
  have hw := h.wr
  have hlen := h.len
  have hl : bs.length = n := by rw [hbs, List.length_take]; omega
  have hgl : 0 < W.heap.size := World.block_lt_of_cell? _ _ (hT 0 (by decide))
  have hTF : ¬ F 0 := fun e => by have := h.di.ge _ e; omega
  have htk := tk_torn gg n k hok hn h8 hk
  rw [← hbs] at htk
  have hp : pl gg k ≤ n := by rcases hk.at_ with h1 | h1; omega; exact h1
  have hpre : bs.take 8 = headB := by rw [hbs, List.take_take, show min 8 n = 8 from by omega]; exact List.take_left' rfl
  have hft : bs.take (pl gg k) = headB ++ recsB (gg.take k) := by
    rw [hbs, List.take_take, show min (pl gg k) n = pl gg k from by omega]; exact file_take gg k hk.le
  have hok2 : ∀ r ∈ gg.take k, Okr r := fun r hr => hok r (List.mem_of_mem_take hr)
  by_cases hz : pl gg k = n
  · rw [hz, Nat.sub_self] at htk
    refine (open_full w h.di nmJ hoff okJ bs bs.length hmem (by omega) (by omega) hpre (gg.take k) htk (hT.below h.bel) hTF).mono ?_
    rintro e w' ⟨l2, v, rfl, k1, k2, k3, k4, k5⟩
    exact ⟨some ⟨l2, 0, none⟩, v, 0, rfl, p, F, bs, { h with di := k1, wr := by omega, bel := bel_fr h.bel (Nat.le_refl _) k4 h.di.ge }, ha, .inl ⟨rfl, hoff⟩, k4, Nat.le_refl _⟩
  · have hcutl : (headB ++ recsB (gg.take k)).length = pl gg k := by rw [← hft, List.length_take]; omega
    by_cases h1 : p.ain = 1
    · refine (open_cutT w h.di nmJ hoff h.arms h1 (by omega) okJ bs bs.length hmem (by omega) (by omega) hpre (gg.take k) (pl gg k) (n - pl gg k) htk (by omega) (by omega) (hT.below h.bel) hTF).mono ?_
      rintro e w' ⟨rfl, F', k1, k2⟩
      have e1 := PS.wrote_torn h1 (cutF nmJ (pl gg k))
      rw [e1] at k1
      by_cases hkp : 0 < p.keep
      · rw [if_pos hkp] at k1
        refine ⟨none, _, 104, rfl, _, F', headB ++ recsB (gg.take k), ⟨k1, ?_, h.room, ⟨by dsimp only; omega, by dsimp only; omega, by dsimp only; omega, by dsimp only; omega⟩, by dsimp only; omega, bel_fr h.bel (Nat.le_refl _) k2 h.di.ge, by omega⟩, Af.full hgg hok2, .inr ⟨rfl, rfl⟩, k2, by omega⟩
        dsimp only
        rw [h.con]
        unfold cutF
        rw [con_cut1]
        dsimp only
        rw [hft, show min bs.length (pl gg k) = (headB ++ recsB (gg.take k)).length from by omega]
        simp only [Con.each, List.map_cons, List.map_nil]
        rw [lost_all]
      · rw [if_neg hkp] at k1
        refine ⟨none, _, 104, rfl, _, F', bs, ⟨k1, ?_, h.room, ⟨by dsimp only; omega, by dsimp only; omega, by dsimp only; omega, by dsimp only; omega⟩, by dsimp only; omega, bel_fr h.bel (Nat.le_refl _) k2 h.di.ge, h.len⟩, ha, .inr ⟨rfl, rfl⟩, k2, Nat.le_refl _⟩
        dsimp only
        rw [h.con]
        simp only [Con.each, List.map_cons, List.map_nil]
        rw [lost_all]
    · refine (open_cutM w h.di nmJ hoff h.arms h1 (by omega) okJ bs bs.length hmem (by omega) (by omega) hpre (gg.take k) (pl gg k) (n - pl gg k) htk (by omega) (by omega) (hT.below h.bel) hTF).mono ?_
      rintro e w' ⟨l2, v, F', rfl, k1, k2, k3, k4, k5, -⟩
      have e1 := PS.wrote_more h1 (cutF nmJ (pl gg k))
      have harm := PS.arms_wrote h.arms (cutF nmJ (pl gg k))
      rw [e1] at k1 harm
      refine ⟨some ⟨l2, 0, none⟩, v, 0, rfl, _, F', headB ++ recsB (gg.take k), ⟨k1, ?_, h.room, harm, by dsimp only; omega, bel_fr h.bel (Nat.le_refl _) k5 h.di.ge, by omega⟩, Af.full hgg hok2, .inl ⟨rfl, hoff⟩, k5, by omega⟩
      dsimp only
      rw [h.con]
      unfold cutF
      rw [con_cut1]
      dsimp only
      rw [hft, show min bs.length (pl gg k) = (headB ++ recsB (gg.take k)).length from by omega]

theorem RecG.notLog {B : Nat} {v : Value} {vals : List Value} {rr : List (List (List Nat))} {nm : ByteArray} {sz ct : Nat} (h : RecG (Gf B w F) B w v vals rr) (hl : Lg w l d nm sz ct) : RecG (Gd B w F l) B w v vals rr := by
  refine ⟨h.own, fun k e => ?_, h.len, fun i u hu => (h.row i u hu).keep fun k cs t hk hc ht => ⟨⟨hk.1, hk.2.1, hk.2.2, fun e => ?_⟩, rfl⟩⟩
  · have hk := h.ob k e
    refine ⟨hk.1, hk.2.1, hk.2.2, fun e2 => ?_⟩
    rcases h.own.2 with ⟨e1, _⟩ | ⟨g', cap, cur, e1, _, e3, _⟩
    · rw [e1] at e; simp [Value.ownBlock] at e
    · have : g' = k := by rw [e1] at e; simpa [Value.ownBlock] using e
      subst this
      subst e2
      unfold Lg at hl
      rw [hl] at e3
      simp at e3
  · subst e
    unfold Lg at hl
    rw [hl] at hc
    rcases ht with rfl | rfl <;> simp at hc

/-- Open, with the power on for good: a log of rr or of wh. -/
theorem fa_openL {rr wh : List (List (List Nat))} (h : Fa W w d p F bs V) (hoff : p.off = false) (hain : p.ain = 0) (hV : V ≤ 1000) (hT : TabC W) (ha : Af rr wh bs) (hrr : rr.length ≤ 100) (hwh : wh.length ≤ 101) :
    Calls Tryd.prog 7 #[.pointer (some ⟨d, 0, none⟩), .string { data := #[106] }] w fun e w' => ∃ (l2 : Nat) (v : Value), e = .returned (.tuple #[.pointer (some ⟨l2, 0, none⟩), v, .int .i64 0]) ∧ ∃ p' F' hh A, LogSt W w' d l2 p' F' hh A ∧ (hh = rr ∨ hh = wh) ∧ p'.wr ≤ V + 1 ∧ A ≤ bs.length ∧ (∃ vals, RecG (Gd W.heap.size w' F' l2) W.heap.size w' v vals hh) ∧ Fr w F w' F' := by
  obtain ⟨gg, n, k, hbs, hn, h8, hk, hgg, hok⟩ := id ha
  have hmem : (nmJ, bs, bs.length) ∈ p.con := by rw [h.con]; exact List.mem_singleton.2 rfl
  have hw := h.wr
  have hlen := h.len
  have hl : bs.length = n := by rw [hbs, List.length_take]; omega
  have hgl : 0 < W.heap.size := World.block_lt_of_cell? _ _ (hT 0 (by decide))
  have hTF : ¬ F 0 := fun e => by have := h.di.ge _ e; omega
  have htk := tk_torn gg n k hok hn h8 hk
  rw [← hbs] at htk
  have hp : pl gg k ≤ n := by rcases hk.at_ with h1 | h1; omega; exact h1
  have hpre : bs.take 8 = headB := by rw [hbs, List.take_take, show min 8 n = 8 from by omega]; exact List.take_left' rfl
  have hft : bs.take (pl gg k) = headB ++ recsB (gg.take k) := by
    rw [hbs, List.take_take, show min (pl gg k) n = pl gg k from by omega]; exact file_take gg k hk.le
  have hok2 : ∀ r ∈ gg.take k, Okr r := fun r hr => hok r (List.mem_of_mem_take hr)
  have hfew : (gg.take k).length ≤ 1000 := by rcases hgg with e | e <;> rw [e] <;> omega
  have hcutl : (headB ++ recsB (gg.take k)).length = pl gg k := by rw [← hft, List.length_take]; omega
  have hB := h.bel.size
  by_cases hz : pl gg k = n
  · rw [hz, Nat.sub_self] at htk
    have hsame : bs = headB ++ recsB (gg.take k) := by rw [← hft, hz, ← hl, List.take_length]
    refine (open_full w h.di nmJ hoff okJ bs bs.length hmem (by omega) (by omega) hpre (gg.take k) htk (hT.below h.bel) hTF).mono ?_
    rintro e w' ⟨l2, v, rfl, k1, k2, k3, k4, k5⟩
    refine ⟨l2, v, rfl, p, F, gg.take k, bs.length, ⟨k1, by rw [h.con, ← hsame], by rw [← hsame], h.room, hoff, hain, k2, fun e => by have := h.di.lt l2 e; omega, by omega, bel_fr h.bel (Nat.le_refl _) k4 h.di.ge, hok2, hfew⟩, hgg, by omega, Nat.le_refl _, ?_, k4⟩
    obtain ⟨vals, hv⟩ := k5.g hB (G := Gf W.heap.size w' F) fun x h1 h2 => ⟨Nat.le_trans hB h1, h2, fun e => by have := h.di.lt x e; omega⟩
    exact ⟨vals, hv.notLog k2⟩
  · refine (open_cut w h.di nmJ hoff hain (by omega) okJ bs bs.length hmem (by omega) (by omega) hpre (gg.take k) (pl gg k) (n - pl gg k) htk (by omega) (by omega) (hT.below h.bel) hTF).mono ?_
    rintro e w' ⟨l2, v, F', rfl, k1, k2, k3, k4, k5, lo, k6, hi, k7, k8, k9⟩
    refine ⟨l2, v, rfl, _, F', gg.take k, pl gg k, ⟨k1, ?_, hcutl, h.room, hoff, hain, k2, k3, by omega, bel_fr h.bel (Nat.le_refl _) k5 h.di.ge, hok2, hfew⟩, hgg, by dsimp only; omega, by omega, ?_, k5⟩
    · dsimp only
      rw [h.con, con_cut1]
      dsimp only
      rw [hft, show min bs.length (pl gg k) = pl gg k from by omega]
    · obtain ⟨vals, hv⟩ := k8.g (Nat.le_trans hB k6) (G := Gf W.heap.size w' F') fun x h1 h2 => ⟨Nat.le_trans (Nat.le_trans hB k6) h1, Nat.lt_of_lt_of_le h2 k7, k9 x h1 h2⟩
      exact ⟨vals, hv.notLog k2⟩
end

end Go.Proofs.YtgmahgfelbkoeaaDoor

namespace Go.Proofs.YtgmahgfelbkoeaaDoor
open Go.RowKit
set_option linter.unusedVariables false
set_option linter.unusedSimpArgs false

theorem con_app1 (bs cs : List Nat) (su : Nat) : Con.app [(nmJ, bs, su)] nmJ cs = [(nmJ, bs ++ cs, su)] := by
  simp [Con.app, Con.upd]
theorem con_each1 (bs : List Nat) (su : Nat) (f : List Nat × Nat → List Nat × Nat) : Con.each [(nmJ, bs, su)] f = [(nmJ, f (bs, su))] := rfl

theorem take_low (R : List Nat) (j : Nat) : ∃ m, m ≤ R.length ∧ R.take j = R.take m := ⟨min j R.length, by omega, (List.take_eq_take_iff).2 (by omega)⟩

/-- What a torn Append leaves. -/
theorem laidT_is (p : PS) (bs R : List Nat) (hc : p.con = [(nmJ, bs, bs.length)]) (ha : p.ain = 1 ∨ p.ain = 2) : ∃ j su n, j ≤ R.length ∧ n ≤ p.wr + 2 ∧ p.laidT nmJ R = { p with con := [(nmJ, bs ++ R.take j, su)], off := true, ain := 0, keep := 0, lose := 0, wr := n } := by
  by_cases h1 : p.ain = 1
  · rw [show p.laidT nmJ R = _ from if_pos h1, PS.wrote_torn h1]
    by_cases hk : 0 < p.keep
    · rw [if_pos hk, hc]
      unfold appF
      rw [con_app1, con_each1]
      obtain ⟨m, hm, e⟩ := lost_app bs R p.keep.toNat p.lose
      rw [e]
      exact ⟨m, bs.length, p.wr + 1, hm, by omega, rfl⟩
    · rw [if_neg hk, hc, con_each1, lost_all]
      exact ⟨0, bs.length, p.wr + 1, by omega, by omega, by simp⟩
  · rw [show p.laidT nmJ R = _ from if_neg h1, PS.wrote_more h1]
    rw [PS.wrote_torn (p := { p with con := appF nmJ R 9223372036854775807 p.con, ain := p.ain - 1, wr := p.wr + 1 }) (by show p.ain - 1 = 1; omega)]
    dsimp only
    rw [hc]
    unfold appF
    rw [con_app1]
    by_cases hk : 0 < p.keep
    · rw [if_pos hk]
      unfold syncF
      rw [con_cut1]
      dsimp only
      rw [con_each1, lost_all]
      obtain ⟨m, hm, e⟩ := take_low R (9223372036854775807 : Int).toNat
      rw [e]
      exact ⟨m, _, p.wr + 1 + 1, hm, by omega, rfl⟩
    · rw [if_neg hk, con_each1]
      obtain ⟨m, hm, e⟩ := lost_app bs R (9223372036854775807 : Int).toNat p.lose
      rw [e]
      exact ⟨m, bs.length, p.wr + 1 + 1, hm, by omega, rfl⟩

section
variable {W w0 w : World} {d l : Nat} {p : PS} {F : Nat → Prop} {rr : List (List (List Nat))} {A : Nat}

theorem torn_append (h : LogSt W w0 d l p F rr A) (a : Nat) (x y : Int) (hd : Di W.heap.size w d { p with ain := a, keep := x, lose := y } F) (hf : Fr w0 F w F) (ha : a = 1 ∨ a = 2) (hx : -9223372036854775808 ≤ x ∧ x ≤ 9223372036854775807) (hy : -9223372036854775808 ≤ y ∧ y ≤ 9223372036854775807) (hT : TabC W) (pr : Option Addr) (m cap : Nat) (rs : List (List Nat)) (hr : RowA w (.slice pr m cap) rs) (hb : ∀ r ∈ rs, ∀ x ∈ r, x < 256) (hok : Okr rs) (hA : A + (recB rs).length ≤ 268435448) (hw : p.wr ≤ 10000) :
    Calls Tryd.prog 11 #[.pointer (some ⟨l, 0, none⟩), .slice pr m cap] w fun e w' => e = .returned (.int .i64 104) ∧ ∃ p' F' bs', Cr W w' d l p' F' bs' (p.wr + 2) ∧ Af rr (rr ++ [rs]) bs' ∧ bs'.length ≤ A + (recB rs).length ∧ Fx l w F w' F' := by
  obtain ⟨hm, hp⟩ := hr.parts
  subst hm
  obtain ⟨e1, e2⟩ := recP_rs rs
  have hf1 := h.few
  have ht : Con.tot p.con = A := by rw [h.con]; simp only [Con.tot]; rw [h.alen]; omega
  have hbel := bel_fr h.bel (Nat.le_refl _) hf h.di.ge
  refine (lappend_torn (p := { p with ain := a, keep := x, lose := y }) w hd (h.lg.fr hf h.nl) h.nl h.off ⟨by dsimp only; omega, hx, hy⟩ ha (by dsimp only; omega) okJ ⟨_, by show _ ∈ p.con; rw [h.con]; exact List.mem_singleton.2 rfl, rfl⟩ pr rs.length cap _ hp (fun i hi n hn => ?_) hok.1 (by rw [e2]; exact hok.2) (by show Con.tot p.con + _ ≤ p.room; rw [e1, ht, h.room]; omega) (by omega) (by omega) (hT.below hbel)).mono ?_
  · have hm : rs.getD i [] ∈ rs := by rw [List.getD_eq_getElem?_getD, List.getElem?_eq_getElem hi]; exact List.getElem_mem hi
    exact hb _ hm n hn
  · rintro e w' ⟨rfl, F', k1, k2, k3, k4⟩
    rw [e1] at k1
    obtain ⟨j, su, n, hj, hn, ep⟩ := laidT_is { p with ain := a, keep := x, lose := y } (headB ++ recsB rr) (recB rs) (by dsimp only; rw [h.con, h.alen]) ha
    rw [ep] at k1
    have hl2 : ((headB ++ recsB rr) ++ (recB rs).take j).length ≤ A + (recB rs).length := by
      rw [List.length_append, h.alen, List.length_take]; omega
    exact ⟨rfl, _, F', _, ⟨k1, ⟨su, rfl⟩, h.room, rfl, rfl, rfl, rfl, hn, bel_fx hbel (Nat.le_refl _) k4 h.di.ge h.lge, by omega, ⟨_, _, k2⟩, k3⟩, Af.app h.okr hok j hj, hl2, k4⟩

theorem torn_clear (h : LogSt W w0 d l p F rr A) (x y : Int) (hd : Di W.heap.size w d { p with ain := 1, keep := x, lose := y } F) (hf : Fr w0 F w F) (hx : -9223372036854775808 ≤ x ∧ x ≤ 9223372036854775807) (hy : -9223372036854775808 ≤ y ∧ y ≤ 9223372036854775807) (hA : A ≤ 268435448) (hw : p.wr ≤ 10000) :
    Calls Tryd.prog 13 #[.pointer (some ⟨l, 0, none⟩)] w fun e w' => e = .returned (.int .i64 104) ∧ ∃ p' F' bs', Cr W w' d l p' F' bs' (p.wr + 2) ∧ Af rr [] bs' ∧ bs'.length ≤ A ∧ Fx l w F w' F' := by
  have hbel := bel_fr h.bel (Nat.le_refl _) hf h.di.ge
  have h8 : 8 ≤ (headB ++ recsB rr).length := by rw [List.length_append]; show 8 ≤ 8 + _; omega
  have hal := h.alen
  refine (lclear_torn (p := { p with ain := 1, keep := x, lose := y }) w hd (h.lg.fr hf h.nl) h.nl h.off ⟨by dsimp only; omega, hx, hy⟩ rfl (by dsimp only; omega) okJ (headB ++ recsB rr) A (by show _ ∈ p.con; rw [h.con]; exact List.mem_singleton.2 rfl) h8).mono ?_
  rintro e w' ⟨rfl, F', k1, k2, k3, k4⟩
  rw [PS.wrote_torn (p := { p with ain := 1, keep := x, lose := y }) rfl] at k1
  have hc : p.con = [(nmJ, headB ++ recsB rr, (headB ++ recsB rr).length)] := by rw [h.con, h.alen]
  by_cases hk : 0 < x
  · dsimp only at k1
    rw [if_pos hk] at k1
    refine ⟨rfl, _, F', headB ++ recsB [], ⟨k1, ⟨8, ?_⟩, h.room, rfl, rfl, rfl, rfl, by dsimp only; omega, bel_fx hbel (Nat.le_refl _) k4 h.di.ge h.lge, by show 8 ≤ _; omega, ⟨_, _, k2⟩, k3⟩, Af.full (.inr rfl) (by simp), by show 8 ≤ A; omega, k4⟩
    dsimp only
    rw [hc]
    unfold cutF
    rw [con_cut1]
    dsimp only
    rw [show (headB ++ recsB rr).take 8 = headB from List.take_left' rfl, show min (headB ++ recsB rr).length 8 = headB.length from by show _ = 8; omega, con_each1, lost_all]
    rfl
  · dsimp only at k1
    rw [if_neg hk] at k1
    refine ⟨rfl, _, F', headB ++ recsB rr, ⟨k1, ⟨A, ?_⟩, h.room, rfl, rfl, rfl, rfl, by dsimp only; omega, bel_fx hbel (Nat.le_refl _) k4 h.di.ge h.lge, by omega, ⟨_, _, k2⟩, k3⟩, Af.full (.inl rfl) h.okr, by omega, k4⟩
    dsimp only
    rw [hc, con_each1, lost_all, h.alen]

theorem more_clear (h : LogSt W w0 d l p F rr A) (x y : Int) (hd : Di W.heap.size w d { p with ain := 2, keep := x, lose := y } F) (hf : Fr w0 F w F) (hx : -9223372036854775808 ≤ x ∧ x ≤ 9223372036854775807) (hy : -9223372036854775808 ≤ y ∧ y ≤ 9223372036854775807) (hw : p.wr ≤ 10000) :
    Calls Tryd.prog 13 #[.pointer (some ⟨l, 0, none⟩)] w fun e w' => e = .returned (.int .i64 0) ∧ ∃ p' F', Di W.heap.size w' d p' F' ∧ p'.off = false ∧ Below W.heap.size W w' ∧ Fx l w F w' F' := by
  have hbel := bel_fr h.bel (Nat.le_refl _) hf h.di.ge
  have h8 : 8 ≤ (headB ++ recsB rr).length := by rw [List.length_append]; show 8 ≤ 8 + _; omega
  refine (lclear_more (p := { p with ain := 2, keep := x, lose := y }) w hd (h.lg.fr hf h.nl) h.nl h.off ⟨by dsimp only; omega, hx, hy⟩ (by dsimp only; omega) (by dsimp only; omega) okJ (headB ++ recsB rr) A (by show _ ∈ p.con; rw [h.con]; exact List.mem_singleton.2 rfl) h8).mono ?_
  rintro e w' ⟨rfl, F', k1, k2, k3, k4⟩
  rw [PS.wrote_more (p := { p with ain := 2, keep := x, lose := y }) (by dsimp only; omega)] at k1
  exact ⟨rfl, _, F', k1, h.off, bel_fx hbel (Nat.le_refl _) k4 h.di.ge h.lge, k4⟩
end

/-- The law while it lays records. -/
structure TrSt (W wr : World) (d l n : Nat) (vw : Value) (A L k : Nat) (p : PS) (F : Nat → Prop) (vals : List Value) (rr : List (List (List Nat))) : Prop where
  log : LogSt W wr d l p F rr A
  want : RecG (Gd W.heap.size wr F l) W.heap.size wr vw vals rr
  k1 : k ≤ 20
  k2 : k ≤ n
  a1 : A ≤ 8 + 8 * k + (65536 - L)
  l1 : L ≤ 65536
  wr1 : p.wr ≤ 2 + 2 * k
  len : rr.length ≤ k
  few : ∀ r ∈ rr, r.length ≤ 1000000 ∧ ∀ x ∈ r, x.length ≤ 140737488355328

end Go.Proofs.YtgmahgfelbkoeaaDoor

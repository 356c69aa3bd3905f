/- JournalSpoilt: the law's own rewritten, length. -/
import Derived.Test.YtpjinakhgfpafaaDoorJ10M
/- Open of a file that it takes, and what was taken. -/
namespace Go.Proofs.YtpjinakhgfpafaaDoor
open Go.RowKit
set_option linter.unusedVariables false
set_option linter.unusedSimpArgs false

theorem raw_tk {W w : World} {d : Nat} {p : PS} {F : Nat → Prop} {bs : List Nat} {V : Nat} (h : Fl W w d p F bs V) (hV : V ≤ 1000) (hT : TabC W) (hb : ∀ x ∈ bs, x < 256) (h8 : 8 ≤ bs.length) (hgood : ¬ Bad bs) :
    Calls Tryd.prog 11 #[.pointer (some ⟨d, 0, none⟩), .string { data := #[106] }] w fun e w' => ∃ (l2 : Nat) (v : Value), e = .returned (.tuple #[.pointer (some ⟨l2, 0, none⟩), v, .int .i64 0]) ∧ ∃ p' F' rr m, tkRecs (bs.length + 1) (bs.drop 8) [] = some (rr, m) ∧ Fl W w' d p' F' (headB ++ recsB rr) (V + 3) ∧ Fr w F w' F' ∧ ∃ vals, RecG (Gf W.heap.size w' F') W.heap.size w' v vals rr := by
  obtain ⟨su, hcon⟩ := h.con
  have hmem : (nmJ, bs, su) ∈ p.con := by rw [hcon]; exact List.mem_singleton.2 rfl
  have hw := h.wr
  have hlen := h.len
  have hB := h.bel.size
  have hgl : 0 < W.heap.size := World.block_lt_of_cell? _ _ (hT 0 (by decide))
  have hTF : ¬ F 0 := fun e => by have := h.di.ge _ e; omega
  have hpre : bs.take 8 = headB := Classical.byContradiction fun e => hgood (.inl ⟨h8, .inl e⟩)
  cases htk : tkRecs (bs.length + 1) (bs.drop 8) [] with
  | none => exact absurd (.inl ⟨h8, .inr htk⟩) hgood
  | some q =>
    obtain ⟨rr, m⟩ := q
    obtain ⟨more, rest, e1, e2, e3, e4⟩ := tkRecs_inv _ _ _ _ _ htk (fun n hn => hb n (List.mem_of_mem_drop hn))
    rw [List.nil_append] at e1
    subst e1
    have hbs : bs = (headB ++ recsB rr) ++ rest := by
      rw [List.append_assoc, ← e2, ← hpre, List.take_append_drop]
    have hl : bs.length = (headB ++ recsB rr).length + m := by rw [← e3, ← List.length_append, ← hbs]
    by_cases hz : m = 0
    · subst hz
      refine (open_full w h.di nmJ h.off okJ _ su hmem h8 (by omega) hpre rr htk (hT.below h.bel) hTF).mono ?_
      rintro e w' ⟨l2, v, rfl, k1, k2, k3, k4, k5⟩
      have hr0 : rest = [] := List.eq_nil_of_length_eq_zero e3
      have hsame : bs = headB ++ recsB rr := by rw [hbs, hr0, List.append_nil]
      exact ⟨l2, v, rfl, p, F, rr, 0, rfl, ⟨k1, ⟨su, by rw [hcon, hsame]⟩, h.room, h.off, h.ain, by omega, bel_fr h.bel (Nat.le_refl _) k4 h.di.ge, by rw [← hsame]; exact hlen⟩, k4, k5.g hB fun x h1 h2 => ⟨Nat.le_trans hB h1, h2, fun e => by have := h.di.lt x e; omega⟩⟩
    · refine (open_cut w h.di nmJ h.off h.ain (by omega) okJ _ su hmem h8 (by omega) hpre rr (headB ++ recsB rr).length m htk (by omega) (by omega) (hT.below h.bel) hTF).mono ?_
      rintro e w' ⟨l2, v, F', rfl, k1, k2, k3, k4, k5, lo, k6, hi, k7, k8, k9⟩
      refine ⟨l2, v, rfl, _, F', rr, m, rfl, ⟨k1, ⟨min su (headB ++ recsB rr).length, ?_⟩, h.room, h.off, h.ain, by dsimp only; omega, bel_fr h.bel (Nat.le_refl _) k5 h.di.ge, by omega⟩, k5, k8.g (Nat.le_trans hB k6) fun x h1 h2 => ⟨Nat.le_trans (Nat.le_trans hB k6) h1, Nat.lt_of_lt_of_le h2 k7, k9 x h1 h2⟩⟩
      dsimp only
      rw [hcon, con_cut1]
      dsimp only
      conv => lhs; rw [hbs]
      rw [List.take_left' rfl]

end Go.Proofs.YtpjinakhgfpafaaDoor

namespace Go.Proofs.YtpjinakhgfpafaaDoor
open Go.RowKit
set_option linter.unusedVariables false
set_option linter.unusedSimpArgs false

/-- The file is written anew. -/
theorem fl_append0 {W w : World} {d : Nat} {p : PS} {F : Nat → Prop} {V : Nat} (h : Fl W w d p F [] V) (hV : V ≤ 1000) (v : Value) (bs : List Nat) (w2 : World) (ho : OB w.heap.size w bs v w2) (hb : ∀ x ∈ bs, x < 256) (hl : bs.length ≤ 1000000) :
    ∃ q c, v = .slice q bs.length c ∧ Calls Tryd.prog 28 #[.pointer (some ⟨d, 0, none⟩), .string { data := #[106] }, .slice q bs.length c] w2 fun e w' => e = .returned (.int .i64 0) ∧ ∃ p' F', Fl W w' d p' F' bs (V + 1) ∧ Fr w F w' F' := by
  obtain ⟨q, c, rfl, hcy⟩ := ho.cy
  obtain ⟨su, hcon⟩ := h.con
  have hB : Below w.heap.size w w2 := ho.bel
  have h2 := h.di.below hB
  have hw := h.wr
  refine ⟨q, c, rfl, (di_append w2 h2 h.off h.ain (by omega) nmJ okJ (.inl ⟨_, by rw [hcon]; exact List.mem_singleton.2 rfl, rfl⟩) q bs.length c bs rfl hcy.2.2.1 hcy.2.2.2 hcy.1 (fun k hk e => ?_) hb (by rw [hcon, h.room]; simp only [Con.tot, List.length_nil]; omega)).mono ?_⟩
  · have h1 := (ho.own.lt k hk).1
    have h3 := h.di.lt k e
    omega
  · rintro e w' ⟨rfl, F', k1, k2⟩
    have hb2 : Below W.heap.size W w2 := h.bel.trans (hB.mono h.bel.size)
    have hc : Con.app p.con nmJ bs = [(nmJ, bs, su)] := by rw [hcon]; simp [Con.app, Con.upd]
    exact ⟨rfl, _, F', ⟨k1, ⟨su, hc⟩, h.room, h.off, h.ain, by dsimp only; omega, bel_fr hb2 (Nat.le_refl _) k2 h2.ge, by omega⟩, (Fr.of_below hB).trans k2⟩

set_option maxRecDepth 100000 in
theorem rewritten_any {W w : World} {d : Nat} {p : PS} {F : Nat → Prop} {fb bs : List Nat} {V : Nat} (h : Fl W w d p F fb V) (hV : V ≤ 900) (pc : Option Addr) (nc cc : Nat) (hb : Hb W.heap.size w F (.slice pc nc cc) bs) (hn : nc = bs.length) (h256 : ∀ x ∈ bs, x < 256) (hl : bs.length ≤ 1000000) :
    Calls Tryd.prog 10 #[.pointer (some ⟨d, 0, none⟩), .slice pc nc cc] w fun e w' => e = .returned (.bool true) ∧ ∃ p' F', Fl W w' d p' F' bs (V + 2) ∧ Fr w F w' F' := by
  have H := hide h
  have HB := hide hb
  have HP := hide (And.intro h256 hl)
  have HNN := hide hn
  clear h hb h256 hn
  go_enter Tryd.func10, Tryd.ntmps10
  go_wp2_with (first
    | (go_at_call 7; refine (num_any _ _).mono ?_; rintro e wn ⟨rfl, hwn⟩; have hwn2 := hwn.symm; subst hwn2)
    | (go_at_call 27; refine (fl_cut H.out (by omega) 0 (Nat.zero_le _)).mono ?_; rintro e w1 ⟨rfl, p1, F1, k1, k2⟩; rw [List.take_zero] at k1; have H1 := hide (And.intro k1 k2); clear k1 k2)
    | (go_at_call 9; refine (copy_any _ bs _ (HB.out.fr H1.out.2).1 (by have := HP.out.2; omega)).mono ?_; rintro e w2 ⟨v2, rfl, ho2⟩; obtain ⟨q2, c2, hv2, hap⟩ := fl_append0 H1.out.1 (by omega) v2 bs w2 ho2 HP.out.1 HP.out.2; rw [← HNN.out] at hv2 hap; subst hv2; have HAP := hide hap; clear ho2 hap)
    | (go_at_call 28; refine HAP.out.mono ?_; rintro e w3 ⟨rfl, p3, F3, k3, k4⟩; have H3 : Hid (Fl W w3 d p3 F3 bs (V + 2) ∧ Fr w F w3 F3) := ⟨k3, H1.out.2.trans k4⟩; clear k3 k4 HAP))
  go_ret
  exact ⟨rfl, p3, F3, H3.out⟩

set_option maxRecDepth 100000 in
theorem length_any (w : World) (ff : List (List (List Nat))) (g np cp at_ k : Nat) (hnp : np = ff.length + 1) (hc : ∀ i, i ≤ ff.length → w.cell? ⟨g, i, none⟩ = some (.int .i64 ((pl ff i : Nat) : Int))) (hpb : ∀ i, i ≤ ff.length → pl ff i ≤ 1000000) (hff : ff.length ≤ 1000) (hk : k < ff.length) (hat : at_ ≤ 1000000) (h1 : pl ff k ≤ at_) (h2 : at_ < pl ff k + 4) :
    Calls Tryd.prog 13 #[.slice (some ⟨g, 0, none⟩) np cp, .int .i64 (at_ : Int)] w fun e w' => e = .returned (.bool true) ∧ w' = w := by
  have HC := hide hc
  have HPB := hide hpb
  have H1 := hide (And.intro h1 h2)
  obtain ⟨R, hR⟩ : ∃ R, ff.length = R := ⟨_, rfl⟩
  have HR := hide hR
  rw [hR] at hnp hff hk
  subst hnp
  clear hc hpb h1 h2 hR
  go_enter Tryd.func13, Tryd.ntmps13
  go_wp2_with fail
  go_loopw [5] (fun t5 wr => ∃ i : Nat, t5 = .int .i64 (i : Int) ∧ wr = w ∧ i ≤ k) (fun t5 _ => 1001 - (intOf t5).toNat)
  case atStart => exact ⟨0, rfl, rfl, by omega⟩
  case round =>
    obtain ⟨i, rfl, rfl, hik⟩ := hrel
    have hi1 : (i : Int) + 1 < (R : Int) + 1 := by omega
    have hcc := HC.out i (by rw [HR.out]; omega)
    obtain ⟨q, hq⟩ : ∃ q, pl ff i = q := ⟨_, rfl⟩
    rw [hq] at hcc
    have hq6 : q ≤ 1000000 := by rw [← hq]; exact HPB.out i (by rw [HR.out]; omega)
    by_cases he : i = k
    · have a1 : (q : Int) ≤ (at_ : Int) := by have := H1.out.1; rw [← he, hq] at this; omega
      have a2 : (at_ : Int) < (q : Int) + 4 := by have := H1.out.2; rw [← he, hq] at this; omega
      clear hq he
      go_wp2_with fail
      go_ret
      exact ⟨rfl, rfl⟩
    · have a0 : q + 8 ≤ at_ := by
        have b1 := pl_mono ff k (i + 1) (by omega) (by rw [HR.out]; omega)
        have b2 := recs_take_len ff i (by rw [HR.out]; omega)
        have b3 := H1.out.1
        unfold pl at *
        omega
      have a1 : (q : Int) ≤ (at_ : Int) := by omega
      have a2 : ¬ (at_ : Int) < (q : Int) + 4 := by omega
      clear hq
      go_wp2_with fail
      go_roundw
      case rel => exact ⟨i + 1, by simp, by first | rfl | trivial, by omega⟩
      case measure => simp [intOf]; omega

end Go.Proofs.YtpjinakhgfpafaaDoor

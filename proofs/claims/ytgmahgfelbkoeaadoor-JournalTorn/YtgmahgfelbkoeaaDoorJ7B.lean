/- A disk with one file, and what the law holds besides: cut, opened, read. -/
import Derived.Test.YtgmahgfelbkoeaaDoorJ7M
namespace Go.Proofs.YtgmahgfelbkoeaaDoor
open Go.RowKit
set_option linter.unusedVariables false
set_option linter.unusedSimpArgs false

/-- A block that is not the disk's. -/
def Gf (B : Nat) (w : World) (F : Nat → Prop) (k : Nat) : Prop := B ≤ k ∧ k < w.heap.size ∧ ¬ F k
theorem gf_fr {B : Nat} {w w' : World} {F F' : Nat → Prop} (h : Fr w F w' F') : ∀ k, Gf B w F k → Gf B w' F' k ∧ w'.heap[k]? = w.heap[k]? := fun k ⟨h1, h2, h3⟩ => ⟨⟨h1, Nat.lt_of_lt_of_le h2 h.size, (h.block k h2 h3).1⟩, (h.block k h2 h3).2⟩

/-- Bytes that the law holds. -/
def Hb (B : Nat) (w : World) (F : Nat → Prop) (v : Value) (bs : List Nat) : Prop := IsBy w v bs ∧ ∀ k, v.ownBlock = some k → Gf B w F k
theorem Hb.fr {B : Nat} {w w' : World} {F F' : Nat → Prop} {v : Value} {bs : List Nat} (h : Hb B w F v bs) (hf : Fr w F w' F') : Hb B w' F' v bs := ⟨isBy_keep h.1 fun k e => (gf_fr hf k (h.2 k e)).2, fun k e => (gf_fr hf k (h.2 k e)).1⟩

/-- The disk d has the file j alone, with these bytes. -/
structure Fl (W w : World) (d : Nat) (p : PS) (F : Nat → Prop) (bs : List Nat) (V : Nat) : Prop where
  di : Di W.heap.size w d p F
  con : ∃ su, p.con = [(nmJ, bs, su)]
  room : p.room = 268435456
  off : p.off = false
  ain : p.ain = 0
  wr : p.wr ≤ V
  bel : Below W.heap.size W w
  len : bs.length ≤ 268435448

/-- What the law holds: records, places, bytes. -/
structure Kp (W w : World) (F : Nat → Prop) (vw : Value) (ff : List (List (List Nat))) (vp : Value) (bl : List (Value × List Nat)) (gl : List (Value × List (List (List Nat)))) : Prop where
  want : ∃ vals, RecG (Gf W.heap.size w F) W.heap.size w vw vals ff
  plc : w.ownsRow W.heap.size 3 1 vp (ff.length + 1) (plV ff)
  plg : ∀ k, vp.ownBlock = some k → Gf W.heap.size w F k
  byt : ∀ x ∈ bl, Hb W.heap.size w F x.1 x.2
  got : ∀ x ∈ gl, ∃ vals, RecG (Gf W.heap.size w F) W.heap.size w x.1 vals x.2

theorem Kp.fr {W w w' : World} {F F' : Nat → Prop} {vw : Value} {ff : List (List (List Nat))} {vp : Value} {bl : List (Value × List Nat)} {gl : List (Value × List (List (List Nat)))} (h : Kp W w F vw ff vp bl gl) (hf : Fr w F w' F') : Kp W w' F' vw ff vp bl gl := by
  obtain ⟨vals, h1⟩ := h.want
  exact ⟨⟨vals, h1.keep (gf_fr hf)⟩, ownsRow_keep h.plc fun k e => (gf_fr hf k (h.plg k e)).2, fun k e => (gf_fr hf k (h.plg k e)).1, fun x hx => (h.byt x hx).fr hf, fun x hx => by obtain ⟨vv, hv⟩ := h.got x hx; exact ⟨vv, hv.keep (gf_fr hf)⟩⟩

theorem LdSt.fl {W w : World} {d l n : Nat} {vw vp : Value} {A L k : Nat} {p : PS} {F : Nat → Prop} {vals : List Value} {rr : List (List (List Nat))} (h : LdSt W w d l n vw vp A L k p F vals rr) : Fl W w d p F (headB ++ recsB rr) 100 ∧ Kp W w F vw rr vp [] [] := by
  have h1 := h.wr1
  have h2 := h.k1
  have h3 := h.a1
  have h4 := h.log.alen
  refine ⟨⟨h.log.di, ⟨A, h.log.con⟩, h.log.room, h.log.off, h.log.ain, by omega, h.log.bel, by omega⟩, ⟨vals, h.want.keep fun k hk => ⟨⟨hk.1.1, hk.1.2.1, hk.1.2.2.1⟩, rfl⟩⟩, h.plc, fun k e => ⟨(h.plg k e).1, (h.plg k e).2.1, (h.plg k e).2.2.1⟩, fun x hx => by simp at hx, fun x hx => by simp at hx⟩

section
variable {W w : World} {d : Nat} {p : PS} {F : Nat → Prop} {bs : List Nat} {V : Nat}

theorem Fl.mem (h : Fl W w d p F bs V) : ∃ su, (nmJ, bs, su) ∈ p.con := by
  obtain ⟨su, e⟩ := h.con
  exact ⟨su, by rw [e]; exact List.mem_singleton.2 rfl⟩

theorem Fl.below {w' : World} (h : Fl W w d p F bs V) (hb : Below w.heap.size w w') : Fl W w' d p F bs V := { h with di := h.di.below hb, bel := h.bel.trans (hb.mono h.bel.size) }

theorem fl_read (h : Fl W w d p F bs V) : Calls Tryd.prog 34 #[.pointer (some ⟨d, 0, none⟩), .string { data := #[106] }] w fun e w' => ∃ (pv : Option Addr) (cv m : Nat), e = .returned (.tuple #[.slice pv m cv, .int .i64 0]) ∧ m = bs.length ∧ Fl W w' d p F bs V ∧ Fr w F w' F ∧ Hb W.heap.size w' F (.slice pv m cv) bs ∧ m ≤ cv := by
  obtain ⟨su, hm⟩ := h.mem
  refine (di_read w h.di h.off nmJ okJ bs su hm).mono ?_
  rintro e w' ⟨v, rfl, ⟨k1, k2⟩, k3, k4, k5⟩
  have ho : OB w.heap.size w' bs v w' := ⟨k3, Below.refl _ _, k2.size⟩
  obtain ⟨pv, cv, rfl, hcy⟩ := ho.cy
  exact ⟨pv, cv, bs.length, rfl, rfl, { h with di := k1, bel := bel_fr h.bel (Nat.le_refl _) k2 h.di.ge }, k2, ⟨ho.by_, fun k e => ⟨Nat.le_trans h.bel.size (k3.lt k e).1, (k3.lt k e).2, k4 k e⟩⟩, hcy.2.2.1⟩

theorem fl_cut (h : Fl W w d p F bs V) (hV : V ≤ 1000) (n : Nat) (hn : n ≤ bs.length) : Calls Tryd.prog 28 #[.pointer (some ⟨d, 0, none⟩), .string { data := #[106] }, .int .i64 (n : Int)] w fun e w' => e = .returned (.int .i64 0) ∧ ∃ p' F', Fl W w' d p' F' (bs.take n) (V + 1) ∧ Fr w F w' F' := by
  obtain ⟨su, hcon⟩ := h.con
  have hw := h.wr
  have hl := h.len
  refine (di_cut w h.di h.off h.ain (by omega) nmJ okJ bs su (by rw [hcon]; exact List.mem_singleton.2 rfl) n hn).mono ?_
  rintro e w' ⟨rfl, F', k1, k2⟩
  exact ⟨rfl, _, F', ⟨k1, ⟨min su n, by dsimp only; rw [hcon, con_cut1]⟩, h.room, h.off, h.ain, by dsimp only; omega, bel_fr h.bel (Nat.le_refl _) k2 h.di.ge, by rw [List.length_take]; omega⟩, k2⟩

/-- Open of a file that ends anywhere. -/
theorem fl_open {ff : List (List (List Nat))} {n k : Nat} (h : Fl W w d p F ((headB ++ recsB ff).take n) V) (hV : V ≤ 1000) (hT : TabC W) (hok : ∀ r ∈ ff, Okr r) (hn : n ≤ (headB ++ recsB ff).length) (hk : Whole ff n k) :
    Calls Tryd.prog 7 #[.pointer (some ⟨d, 0, none⟩), .string { data := #[106] }] w fun e w' => ∃ (l2 : Nat) (v : Value), e = .returned (.tuple #[.pointer (some ⟨l2, 0, none⟩), v, .int .i64 0]) ∧ ∃ p' F', Fl W w' d p' F' (headB ++ recsB (ff.take k)) (V + 3) ∧ Fr w F w' F' ∧ ∃ vals, RecG (Gf W.heap.size w' F') W.heap.size w' v vals (ff.take k) := by
  obtain ⟨su, hcon⟩ := h.con
  have hmem : (nmJ, (headB ++ recsB ff).take n, su) ∈ p.con := by rw [hcon]; exact List.mem_singleton.2 rfl
  have hw := h.wr
  have hlen := h.len
  have hl : ((headB ++ recsB ff).take n).length = n := by rw [List.length_take]; omega
  rw [hl] at hlen
  have hB := h.bel.size
  have hgl : 0 < W.heap.size := World.block_lt_of_cell? _ _ (hT 0 (by decide))
  have hTF : ¬ F 0 := fun e => by have := h.di.ge _ e; omega
  by_cases h8 : n < 8
  · have hk0 : k = 0 := by
      rcases hk.at_ with h1 | h1
      · exact h1.2
      · have := pl_mono ff k 0 (by omega) hk.le; rw [pl_zero] at this; omega
    subst hk0
    have hhd : (headB ++ recsB ff).take n = headB.take n := List.take_append_of_le_length (by show n ≤ 8; omega)
    have hpre : (headB ++ recsB ff).take n = headB.take ((headB ++ recsB ff).take n).length := by rw [hl]; exact hhd
    have htot : Con.tot p.con + 8 ≤ p.room := by rw [hcon, h.room]; simp only [Con.tot]; rw [hl]; omega
    have he : headB ++ recsB (ff.take 0) = headB := by simp [recsB]
    by_cases hz : n = 0
    · refine (open_beg0 w h.di nmJ h.off h.ain (by omega) okJ _ su hmem (by rw [hl]; exact h8) hpre htot (by rw [hl]; exact hz)).mono ?_
      rintro e w' ⟨l2, F', rfl, k1, k2, k3, k4, k5⟩
      refine ⟨l2, _, rfl, _, F', ⟨k1, ⟨8, ?_⟩, h.room, h.off, h.ain, by dsimp only; omega, bel_fr h.bel (Nat.le_refl _) k5 h.di.ge, by rw [he]; decide⟩, k5, [], RecG.nil _ _ _⟩
      dsimp only
      rw [he, hcon, con_lay1, hhd, hz]
      rfl
    · refine (open_beg1 w h.di nmJ h.off h.ain (by omega) okJ _ su hmem (by rw [hl]; exact h8) hpre htot (by rw [hl]; omega)).mono ?_
      rintro e w' ⟨l2, F', rfl, k1, k2, k3, k4, k5⟩
      refine ⟨l2, _, rfl, _, F', ⟨k1, ⟨8, ?_⟩, h.room, h.off, h.ain, by dsimp only; omega, bel_fr h.bel (Nat.le_refl _) k5 h.di.ge, by rw [he]; decide⟩, k5, [], RecG.nil _ _ _⟩
      dsimp only
      rw [he, hcon, con_cut1, con_lay1]
      rfl
  · have htk := tk_torn ff n k hok hn (by omega) hk
    have hp : pl ff k ≤ n := by rcases hk.at_ with h1 | h1; omega; exact h1
    have hp8 : 8 ≤ pl ff k := by have := pl_mono ff k 0 (by omega) hk.le; rw [pl_zero] at this; exact this
    have hpre : ((headB ++ recsB ff).take n).take 8 = headB := by
      rw [List.take_take, show min 8 n = 8 from by omega]; exact List.take_left' rfl
    have hft : ((headB ++ recsB ff).take n).take (pl ff k) = headB ++ recsB (ff.take k) := by
      rw [List.take_take, show min (pl ff k) n = pl ff k from by omega]; exact file_take ff k hk.le
    by_cases hz : pl ff k = n
    · rw [hz, Nat.sub_self] at htk
      refine (open_full w h.di nmJ h.off okJ _ su hmem (by rw [hl]; omega) (by rw [hl]; omega) hpre (ff.take k) htk (hT.below h.bel) hTF).mono ?_
      rintro e w' ⟨l2, v, rfl, k1, k2, k3, k4, k5⟩
      have hsame : (headB ++ recsB ff).take n = headB ++ recsB (ff.take k) := by rw [← hz]; exact file_take ff k hk.le
      refine ⟨l2, v, rfl, p, F, ⟨k1, ⟨su, by rw [hcon, hsame]⟩, h.room, h.off, h.ain, by omega, bel_fr h.bel (Nat.le_refl _) k4 h.di.ge, by rw [← hsame, hl]; exact hlen⟩, k4, k5.g hB fun x h1 h2 => ⟨Nat.le_trans hB h1, h2, fun e => by have := h.di.lt x e; omega⟩⟩
    · refine (open_cut w h.di nmJ h.off h.ain (by omega) okJ _ su hmem (by rw [hl]; omega) (by rw [hl]; omega) hpre (ff.take k) (pl ff k) (n - pl ff k) htk (by rw [hl]; omega) (by rw [hl]; omega) (hT.below h.bel) hTF).mono ?_
      rintro e w' ⟨l2, v, F', rfl, k1, k2, k3, k4, k5, lo, k6, hi, k7, k8, k9⟩
      refine ⟨l2, v, rfl, _, F', ⟨k1, ⟨min su (pl ff k), ?_⟩, h.room, h.off, h.ain, by dsimp only; omega, bel_fr h.bel (Nat.le_refl _) k5 h.di.ge, ?_⟩, k5, k8.g (Nat.le_trans hB k6) fun x h1 h2 => ⟨Nat.le_trans (Nat.le_trans hB k6) h1, Nat.lt_of_lt_of_le h2 k7, k9 x h1 h2⟩⟩
      · dsimp only
        rw [hcon, con_cut1]
        dsimp only
        rw [hft]
      · rw [← hft, List.length_take, hl]; omega
end

theorem RecA.take {w : World} {v : Value} {rr : List (List (List Nat))} (h : RecA w v rr) (k : Nat) (hk : k ≤ rr.length) : ∃ p c, v = .slice p rr.length c ∧ RecA w (.slice p k c) (rr.take k) := by
  obtain ⟨p, c, rfl, h1⟩ := h
  refine ⟨p, c, rfl, p, c, by rw [List.length_take, show min k rr.length = k from by omega], fun i hi => ?_⟩
  rw [List.length_take] at hi
  obtain ⟨g, u, a1, a2, a3⟩ := h1 i (by omega)
  refine ⟨g, u, a1, a2, ?_⟩
  have e : (rr.take k).getD i [] = rr.getD i [] := by simp only [List.getD_eq_getElem?_getD]; rw [List.getElem?_take, if_pos (by omega)]
  rw [e]; exact a3
theorem isBy_take {w : World} {p : Option Addr} {n c : Nat} {bs : List Nat} (h : IsBy w (.slice p n c) bs) (hn : n = bs.length) (k : Nat) (hk : k ≤ n) : IsBy w (.slice p k c) (bs.take k) := by
  obtain ⟨p', cap, e, h1⟩ := by_slice h
  simp only [Value.slice.injEq] at e
  obtain ⟨rfl, _, rfl⟩ := e
  have hl : (bs.take k).length = k := by rw [List.length_take]; omega
  by_cases h0 : k = 0
  · subst h0
    cases p with
    | none =>
      rcases h with (⟨e, _⟩ | ⟨g, o, cap, e, _⟩) | ⟨ad, cap, e, _⟩
      · simp only [Value.slice.injEq] at e
        obtain ⟨_, _, rfl⟩ := e
        exact .inl (.inl ⟨rfl, by simp⟩)
      · simp at e
      · simp at e
    | some ad => exact .inr ⟨ad, c, rfl, by simp⟩
  · obtain ⟨b, o, e1, _⟩ := h1 0 (by omega)
    subst e1
    refine .inl (.inr ⟨b, o, c, by rw [hl], fun i hi => ?_⟩)
    rw [hl] at hi
    obtain ⟨b', o', e2, hc⟩ := h1 i (by omega)
    simp only [Option.some.injEq, Addr.mk.injEq] at e2
    obtain ⟨rfl, rfl, _⟩ := e2
    rw [hc]
    have e : (bs.take k).getD i 0 = bs.getD i 0 := by simp only [List.getD_eq_getElem?_getD]; rw [List.getElem?_take, if_pos (by omega)]
    rw [e]
theorem plc_at {w : World} {B : Nat} {vp : Value} {ff : List (List (List Nat))} (h : w.ownsRow B 3 1 vp (ff.length + 1) (plV ff)) : ∃ g c, vp = .slice (some ⟨g, 0, none⟩) (ff.length + 1) c ∧ ∀ i, i ≤ ff.length → w.cell? ⟨g, i, none⟩ = some (.int .i64 ((pl ff i : Nat) : Int)) := by
  obtain ⟨g, c, e, h1⟩ := own_at h (by omega)
  refine ⟨g, c, e, fun i hi => h1 i _ (by omega) ?_⟩
  unfold plV
  rw [List.getElem?_map, List.getElem?_range (by omega)]
  rfl

end Go.Proofs.YtgmahgfelbkoeaaDoor

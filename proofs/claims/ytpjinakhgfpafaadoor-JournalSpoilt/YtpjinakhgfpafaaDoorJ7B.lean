/- A disk with one file, and what the law holds besides: cut, opened, read. -/
import Derived.Test.YtpjinakhgfpafaaDoorJ7A
import Derived.Test.YtpjinakhgfpafaaDoorJ6C
/- A file of records that ends anywhere. -/
namespace Go.Proofs.YtpjinakhgfpafaaDoor
open Go.RowKit
set_option linter.unusedVariables false
set_option linter.unusedSimpArgs false

theorem recHead_torn (r : List (List Nat)) (t : List Nat) (m : Nat) (hr : Okr r) (hm : m < (recB r).length) : recHead ((recB r ++ t).take m) = .stop := by
  have hl := recB_len r
  have hb := hr.2
  have hlen : ((recB r ++ t).take m).length = m := by rw [List.length_take, List.length_append]; omega
  unfold recHead
  rw [hlen]
  by_cases h8 : m < 8
  · rw [if_pos h8]
  · rw [if_neg h8]
    have hn : num4 ((recB r ++ t).take m) = (bodyB r).length := by
      have e : (recB r ++ t).take m = four (bodyB r).length ++ ((four (crcO (four (bodyB r).length ++ bodyB r)) ++ bodyB r ++ t).take (m - 4)) := by
        have e1 : recB r ++ t = four (bodyB r).length ++ (four (crcO (four (bodyB r).length ++ bodyB r)) ++ bodyB r ++ t) := by unfold recB; simp only [List.append_assoc]
        rw [e1, List.take_append, four_len, List.take_of_length_le (by rw [four_len]; omega)]
      rw [e]
      exact num4_four _ (by omega) _
    rw [hn, if_neg (by omega), if_pos (by omega)]

theorem recs_take_len (ff : List (List (List Nat))) : ∀ k, k + 1 ≤ ff.length → (recsB (ff.take k)).length + 8 ≤ (recsB (ff.take (k + 1))).length := fun k hk => by
  rw [List.take_succ_eq_append_getElem (by omega), recsB_app, List.length_append]
  have := recB_len (ff[k]'(by omega))
  simp only [recsB, List.append_nil]
  omega

theorem tkRecs_torn : ∀ (k : Nat) (ff recs : List (List (List Nat))) (f m : Nat), (∀ r ∈ ff, Okr r) → m ≤ (recsB ff).length → k ≤ ff.length → (recsB (ff.take k)).length ≤ m → (k = ff.length ∨ m < (recsB (ff.take (k + 1))).length) → m < f → tkRecs f ((recsB ff).take m) recs = some (recs ++ ff.take k, m - (recsB (ff.take k)).length)
  | 0, [], recs, f, m, _, hm, _, _, _, hf => by
    have h0 : m = 0 := by simpa [recsB] using hm
    subst h0
    obtain ⟨f', rfl⟩ : ∃ f', f = f' + 1 := ⟨f - 1, by omega⟩
    simp only [recsB, List.take_zero]
    rw [tkRecs_end recHead_none]
    simp [recsB]
  | 0, r :: t, recs, f, m, hok, hm, _, _, h2, hf => by
    have h2' : m < (recB r).length := by
      rcases h2 with h | h
      · simp at h
      · simpa [recsB] using h
    have hs := recHead_torn r (recsB t) m (hok r (by simp)) h2'
    have hlen : ((recB r ++ recsB t).take m).length = m := by rw [List.length_take, List.length_append]; omega
    rw [recsB, tkRecs_stop (by rw [hlen]; exact hf) hs, hlen]
    simp [recsB]
  | k + 1, [], recs, f, m, _, _, hk, _, _, _ => by simp at hk
  | k + 1, r :: t, recs, f, m, hok, hm, hk, h1, h2, hf => by
    have hr := hok r (by simp)
    have hl := recB_len r
    simp only [recsB, List.length_append, List.take_succ_cons, List.length_cons] at hm hk h1 h2
    obtain ⟨f', rfl⟩ : ∃ f', f = f' + 1 := ⟨f - 1, by omega⟩
    have h3 := tkRows_body r [] ((bodyB r).length + 1) (by simpa using hr.1) (by have := hr.2; omega) (by omega)
    rw [List.nil_append] at h3
    have e : (recsB (r :: t)).take m = recB r ++ (recsB t).take (m - (recB r).length) := by
      rw [recsB, List.take_append, List.take_of_length_le (by omega)]
    rw [e, tkRecs_rec (recHead_rec r _ hr) h3, tkRecs_torn k t (recs ++ [r]) f' (m - (recB r).length) (fun x hx => hok x (by simp [hx])) (by omega) (by omega) (by omega) (by omega) (by omega)]
    simp only [List.append_assoc, List.singleton_append, List.take_succ_cons, recsB, List.length_append, Option.some.injEq, Prod.mk.injEq, true_and]
    omega

/-- How many records stand whole ahead of n. -/
structure Whole (ff : List (List (List Nat))) (n k : Nat) : Prop where
  le : k ≤ ff.length
  at_ : n < 8 ∧ k = 0 ∨ pl ff k ≤ n
  end_ : k = ff.length ∨ n < pl ff (k + 1)

theorem pl_mono (ff : List (List (List Nat))) : ∀ (b a : Nat), a ≤ b → b ≤ ff.length → pl ff a ≤ pl ff b
  | 0, a, h, _ => by rw [show a = 0 from by omega]; exact Nat.le_refl _
  | b + 1, a, h, hb => by
    by_cases e : a = b + 1
    · rw [e]; exact Nat.le_refl _
    · have h1 := pl_mono ff b a (by omega) (by omega)
      have h2 := recs_take_len ff b hb
      unfold pl at *
      omega
theorem pl_one (ff : List (List (List Nat))) (h : 1 ≤ ff.length) : 16 ≤ pl ff 1 := by
  have := recs_take_len ff 0 h
  rw [Nat.zero_add] at this
  unfold pl
  omega
theorem pl_zero (ff : List (List (List Nat))) : pl ff 0 = 8 := by simp [pl, recsB]

theorem whole_of (ff : List (List (List Nat))) (n : Nat) : ∃ k, Whole ff n k := by
  by_cases h8 : n < 8
  · refine ⟨0, by omega, .inl ⟨h8, rfl⟩, ?_⟩
    by_cases h0 : ff.length = 0
    · exact .inl h0.symm
    · right; have := pl_one ff (by omega); rw [Nat.zero_add]; omega
  · have : ∀ m, m ≤ ff.length → ∃ k, k ≤ m ∧ pl ff k ≤ n ∧ (k = m ∨ n < pl ff (k + 1)) := by
      intro m
      induction m with
      | zero => intro _; exact ⟨0, Nat.le_refl _, by rw [pl_zero]; omega, .inl rfl⟩
      | succ m ih =>
        intro hm
        obtain ⟨k, h1, h2, h3⟩ := ih (by omega)
        rcases h3 with h3 | h3
        · subst h3
          by_cases h4 : pl ff (k + 1) ≤ n
          · exact ⟨k + 1, Nat.le_refl _, h4, .inl rfl⟩
          · exact ⟨k, by omega, h2, .inr (by omega)⟩
        · exact ⟨k, by omega, h2, .inr h3⟩
    obtain ⟨k, h1, h2, h3⟩ := this ff.length (Nat.le_refl _)
    exact ⟨k, h1, .inr h2, h3⟩

theorem file_take (ff : List (List (List Nat))) (k : Nat) (hk : k ≤ ff.length) : (headB ++ recsB ff).take (pl ff k) = headB ++ recsB (ff.take k) := by
  have e : recsB ff = recsB (ff.take k) ++ recsB (ff.drop k) := by rw [← recsB_app, List.take_append_drop]
  rw [e, ← List.append_assoc]
  exact List.take_left' (by rw [List.length_append]; rfl)

/-- What Open takes of a file that ends at n, not within its head. -/
theorem tk_torn (ff : List (List (List Nat))) (n k : Nat) (hok : ∀ r ∈ ff, Okr r) (hn : n ≤ (headB ++ recsB ff).length) (h8 : 8 ≤ n) (h : Whole ff n k) : tkRecs (((headB ++ recsB ff).take n).length + 1) (((headB ++ recsB ff).take n).drop 8) [] = some (ff.take k, n - pl ff k) := by
  have hl : (headB ++ recsB ff).length = 8 + (recsB ff).length := by rw [List.length_append]; rfl
  have e : ((headB ++ recsB ff).take n).drop 8 = (recsB ff).take (n - 8) := by
    rw [List.take_append, List.take_of_length_le (by show 8 ≤ n; exact h8)]
    exact List.drop_left' rfl
  have hp : pl ff k ≤ n := by rcases h.at_ with h1 | h1; omega; exact h1
  rw [e, List.length_take, show min n (headB ++ recsB ff).length = n from by omega, tkRecs_torn k ff [] (n + 1) (n - 8) hok (by omega) h.le (by unfold pl at hp; omega) (by rcases h.end_ with h1 | h1; exact .inl h1; right; unfold pl at h1; omega) (by omega), List.nil_append]
  congr 2
  unfold pl
  omega

end Go.Proofs.YtpjinakhgfpafaaDoor

namespace Go.Proofs.YtpjinakhgfpafaaDoor
open Go.RowKit
set_option linter.unusedVariables false
set_option linter.unusedSimpArgs false

/-- A block that is not the disk's. -/
def Gf (B : Nat) (w : World) (F : Nat → Prop) (k : Nat) : Prop := B ≤ k ∧ k < w.heap.size ∧ ¬ F k
theorem gf_fr {B : Nat} {w w' : World} {F F' : Nat → Prop} (h : Fr w F w' F') : ∀ k, Gf B w F k → Gf B w' F' k ∧ w'.heap[k]? = w.heap[k]? := fun k ⟨h1, h2, h3⟩ => ⟨⟨h1, Nat.lt_of_lt_of_le h2 h.size, (h.block k h2 h3).1⟩, (h.block k h2 h3).2⟩

/-- Bytes that the law holds. -/
def Hb (B : Nat) (w : World) (F : Nat → Prop) (v : Value) (bs : List Nat) : Prop := IsBy w v bs ∧ ∀ k, v.ownBlock = some k → Gf B w F k
theorem Hb.fr {B : Nat} {w w' : World} {F F' : Nat → Prop} {v : Value} {bs : List Nat} (h : Hb B w F v bs) (hf : Fr w F w' F') : Hb B w' F' v bs := ⟨isBy_keep h.1 fun k e => (gf_fr hf k (h.2 k e)).2, fun k e => (gf_fr hf k (h.2 k e)).1⟩

/-- The disk d has the file j alone, with these bytes. -/
structure Fl (W w : World) (d : Nat) (p : PS) (F : Nat → Prop) (bs : List Nat) (V : Nat) : Prop where
  di : Di W.heap.size w d p F
  con : ∃ su, p.con = [(nmJ, bs, su)]
  room : p.room = 268435456
  off : p.off = false
  ain : p.ain = 0
  wr : p.wr ≤ V
  bel : Below W.heap.size W w
  len : bs.length ≤ 268435448

/-- What the law holds: records, places, bytes. -/
structure Kp (W w : World) (F : Nat → Prop) (vw : Value) (ff : List (List (List Nat))) (vp : Value) (bl : List (Value × List Nat)) (gl : List (Value × List (List (List Nat)))) : Prop where
  want : ∃ vals, RecG (Gf W.heap.size w F) W.heap.size w vw vals ff
  plc : w.ownsRow W.heap.size 3 1 vp (ff.length + 1) (plV ff)
  plg : ∀ k, vp.ownBlock = some k → Gf W.heap.size w F k
  byt : ∀ x ∈ bl, Hb W.heap.size w F x.1 x.2
  got : ∀ x ∈ gl, ∃ vals, RecG (Gf W.heap.size w F) W.heap.size w x.1 vals x.2

theorem Kp.fr {W w w' : World} {F F' : Nat → Prop} {vw : Value} {ff : List (List (List Nat))} {vp : Value} {bl : List (Value × List Nat)} {gl : List (Value × List (List (List Nat)))} (h : Kp W w F vw ff vp bl gl) (hf : Fr w F w' F') : Kp W w' F' vw ff vp bl gl := by
  obtain ⟨vals, h1⟩ := h.want
  exact ⟨⟨vals, h1.keep (gf_fr hf)⟩, ownsRow_keep h.plc fun k e => (gf_fr hf k (h.plg k e)).2, fun k e => (gf_fr hf k (h.plg k e)).1, fun x hx => (h.byt x hx).fr hf, fun x hx => by obtain ⟨vv, hv⟩ := h.got x hx; exact ⟨vv, hv.keep (gf_fr hf)⟩⟩

theorem LdSt.fl {W w : World} {d l n : Nat} {vw vp : Value} {A L k : Nat} {p : PS} {F : Nat → Prop} {vals : List Value} {rr : List (List (List Nat))} (h : LdSt W w d l n vw vp A L k p F vals rr) : Fl W w d p F (headB ++ recsB rr) 100 ∧ Kp W w F vw rr vp [] [] := by
  have h1 := h.wr1
  have h2 := h.k1
  have h3 := h.a1
  have h4 := h.log.alen
  refine ⟨⟨h.log.di, ⟨A, h.log.con⟩, h.log.room, h.log.off, h.log.ain, by omega, h.log.bel, by omega⟩, ⟨vals, h.want.keep fun k hk => ⟨⟨hk.1.1, hk.1.2.1, hk.1.2.2.1⟩, rfl⟩⟩, h.plc, fun k e => ⟨(h.plg k e).1, (h.plg k e).2.1, (h.plg k e).2.2.1⟩, fun x hx => by simp at hx, fun x hx => by simp at hx⟩

section
variable {W w : World} {d : Nat} {p : PS} {F : Nat → Prop} {bs : List Nat} {V : Nat}

theorem Fl.mem (h : Fl W w d p F bs V) : ∃ su, (nmJ, bs, su) ∈ p.con := by
  obtain ⟨su, e⟩ := h.con
  exact ⟨su, by rw [e]; exact List.mem_singleton.2 rfl⟩

theorem Fl.below {w' : World} (h : Fl W w d p F bs V) (hb : Below w.heap.size w w') : Fl W w' d p F bs V := { h with di := h.di.below hb, bel := h.bel.trans (hb.mono h.bel.size) }

theorem fl_read (h : Fl W w d p F bs V) : Calls Tryd.prog 6 #[.pointer (some ⟨d, 0, none⟩), .string { data := #[106] }] w fun e w' => ∃ (pv : Option Addr) (cv m : Nat), e = .returned (.tuple #[.slice pv m cv, .int .i64 0]) ∧ m = bs.length ∧ Fl W w' d p F bs V ∧ Fr w F w' F ∧ Hb W.heap.size w' F (.slice pv m cv) bs ∧ m ≤ cv := by
  obtain ⟨su, hm⟩ := h.mem
  refine (di_read w h.di h.off nmJ okJ bs su hm).mono ?_
  rintro e w' ⟨v, rfl, ⟨k1, k2⟩, k3, k4, k5⟩
  have ho : OB w.heap.size w' bs v w' := ⟨k3, Below.refl _ _, k2.size⟩
  obtain ⟨pv, cv, rfl, hcy⟩ := ho.cy
  exact ⟨pv, cv, bs.length, rfl, rfl, { h with di := k1, bel := bel_fr h.bel (Nat.le_refl _) k2 h.di.ge }, k2, ⟨ho.by_, fun k e => ⟨Nat.le_trans h.bel.size (k3.lt k e).1, (k3.lt k e).2, k4 k e⟩⟩, hcy.2.2.1⟩

theorem fl_cut (h : Fl W w d p F bs V) (hV : V ≤ 1000) (n : Nat) (hn : n ≤ bs.length) : Calls Tryd.prog 27 #[.pointer (some ⟨d, 0, none⟩), .string { data := #[106] }, .int .i64 (n : Int)] w fun e w' => e = .returned (.int .i64 0) ∧ ∃ p' F', Fl W w' d p' F' (bs.take n) (V + 1) ∧ Fr w F w' F' := by
  obtain ⟨su, hcon⟩ := h.con
  have hw := h.wr
  have hl := h.len
  refine (di_cut w h.di h.off h.ain (by omega) nmJ okJ bs su (by rw [hcon]; exact List.mem_singleton.2 rfl) n hn).mono ?_
  rintro e w' ⟨rfl, F', k1, k2⟩
  exact ⟨rfl, _, F', ⟨k1, ⟨min su n, by dsimp only; rw [hcon, con_cut1]⟩, h.room, h.off, h.ain, by dsimp only; omega, bel_fr h.bel (Nat.le_refl _) k2 h.di.ge, by rw [List.length_take]; omega⟩, k2⟩

/-- Open of a file that ends anywhere. -/
theorem fl_open {ff : List (List (List Nat))} {n k : Nat} (h : Fl W w d p F ((headB ++ recsB ff).take n) V) (hV : V ≤ 1000) (hT : TabC W) (hok : ∀ r ∈ ff, Okr r) (hn : n ≤ (headB ++ recsB ff).length) (hk : Whole ff n k) :
    Calls Tryd.prog 11 #[.pointer (some ⟨d, 0, none⟩), .string { data := #[106] }] w fun e w' => ∃ (l2 : Nat) (v : Value), e = .returned (.tuple #[.pointer (some ⟨l2, 0, none⟩), v, .int .i64 0]) ∧ ∃ p' F', Fl W w' d p' F' (headB ++ recsB (ff.take k)) (V + 3) ∧ Fr w F w' F' ∧ ∃ vals, RecG (Gf W.heap.size w' F') W.heap.size w' v vals (ff.take k) := by
  obtain ⟨su, hcon⟩ := h.con
  have hmem : (nmJ, (headB ++ recsB ff).take n, su) ∈ p.con := by rw [hcon]; exact List.mem_singleton.2 rfl
  have hw := h.wr
  have hlen := h.len
  have hl : ((headB ++ recsB ff).take n).length = n := by rw [List.length_take]; omega
  rw [hl] at hlen
  have hB := h.bel.size
  have hgl : 0 < W.heap.size := World.block_lt_of_cell? _ _ (hT 0 (by decide))
  have hTF : ¬ F 0 := fun e => by have := h.di.ge _ e; omega
  by_cases h8 : n < 8
  · have hk0 : k = 0 := by
      rcases hk.at_ with h1 | h1
      · exact h1.2
      · have := pl_mono ff k 0 (by omega) hk.le; rw [pl_zero] at this; omega
    subst hk0
    have hhd : (headB ++ recsB ff).take n = headB.take n := List.take_append_of_le_length (by show n ≤ 8; omega)
    have hpre : (headB ++ recsB ff).take n = headB.take ((headB ++ recsB ff).take n).length := by rw [hl]; exact hhd
    have htot : Con.tot p.con + 8 ≤ p.room := by rw [hcon, h.room]; simp only [Con.tot]; rw [hl]; omega
    have he : headB ++ recsB (ff.take 0) = headB := by simp [recsB]
    by_cases hz : n = 0
    · refine (open_beg0 w h.di nmJ h.off h.ain (by omega) okJ _ su hmem (by rw [hl]; exact h8) hpre htot (by rw [hl]; exact hz)).mono ?_
      rintro e w' ⟨l2, F', rfl, k1, k2, k3, k4, k5⟩
      refine ⟨l2, _, rfl, _, F', ⟨k1, ⟨8, ?_⟩, h.room, h.off, h.ain, by dsimp only; omega, bel_fr h.bel (Nat.le_refl _) k5 h.di.ge, by rw [he]; decide⟩, k5, [], RecG.nil _ _ _⟩
      dsimp only
      rw [he, hcon, con_lay1, hhd, hz]
      rfl
    · refine (open_beg1 w h.di nmJ h.off h.ain (by omega) okJ _ su hmem (by rw [hl]; exact h8) hpre htot (by rw [hl]; omega)).mono ?_
      rintro e w' ⟨l2, F', rfl, k1, k2, k3, k4, k5⟩
      refine ⟨l2, _, rfl, _, F', ⟨k1, ⟨8, ?_⟩, h.room, h.off, h.ain, by dsimp only; omega, bel_fr h.bel (Nat.le_refl _) k5 h.di.ge, by rw [he]; decide⟩, k5, [], RecG.nil _ _ _⟩
      dsimp only
      rw [he, hcon, con_cut1, con_lay1]
      rfl
  · have htk := tk_torn ff n k hok hn (by omega) hk
    have hp : pl ff k ≤ n := by rcases hk.at_ with h1 | h1; omega; exact h1
    have hp8 : 8 ≤ pl ff k := by have := pl_mono ff k 0 (by omega) hk.le; rw [pl_zero] at this; exact this
    have hpre : ((headB ++ recsB ff).take n).take 8 = headB := by
      rw [List.take_take, show min 8 n = 8 from by omega]; exact List.take_left' rfl
    have hft : ((headB ++ recsB ff).take n).take (pl ff k) = headB ++ recsB (ff.take k) := by
      rw [List.take_take, show min (pl ff k) n = pl ff k from by omega]; exact file_take ff k hk.le
    by_cases hz : pl ff k = n
    · rw [hz, Nat.sub_self] at htk
      refine (open_full w h.di nmJ h.off okJ _ su hmem (by rw [hl]; omega) (by rw [hl]; omega) hpre (ff.take k) htk (hT.below h.bel) hTF).mono ?_
      rintro e w' ⟨l2, v, rfl, k1, k2, k3, k4, k5⟩
      have hsame : (headB ++ recsB ff).take n = headB ++ recsB (ff.take k) := by rw [← hz]; exact file_take ff k hk.le
      refine ⟨l2, v, rfl, p, F, ⟨k1, ⟨su, by rw [hcon, hsame]⟩, h.room, h.off, h.ain, by omega, bel_fr h.bel (Nat.le_refl _) k4 h.di.ge, by rw [← hsame, hl]; exact hlen⟩, k4, k5.g hB fun x h1 h2 => ⟨Nat.le_trans hB h1, h2, fun e => by have := h.di.lt x e; omega⟩⟩
    · refine (open_cut w h.di nmJ h.off h.ain (by omega) okJ _ su hmem (by rw [hl]; omega) (by rw [hl]; omega) hpre (ff.take k) (pl ff k) (n - pl ff k) htk (by rw [hl]; omega) (by rw [hl]; omega) (hT.below h.bel) hTF).mono ?_
      rintro e w' ⟨l2, v, F', rfl, k1, k2, k3, k4, k5, lo, k6, hi, k7, k8, k9⟩
      refine ⟨l2, v, rfl, _, F', ⟨k1, ⟨min su (pl ff k), ?_⟩, h.room, h.off, h.ain, by dsimp only; omega, bel_fr h.bel (Nat.le_refl _) k5 h.di.ge, ?_⟩, k5, k8.g (Nat.le_trans hB k6) fun x h1 h2 => ⟨Nat.le_trans (Nat.le_trans hB k6) h1, Nat.lt_of_lt_of_le h2 k7, k9 x h1 h2⟩⟩
      · dsimp only
        rw [hcon, con_cut1]
        dsimp only
        rw [hft]
      · rw [← hft, List.length_take, hl]; omega
end

theorem RecA.take {w : World} {v : Value} {rr : List (List (List Nat))} (h : RecA w v rr) (k : Nat) (hk : k ≤ rr.length) : ∃ p c, v = .slice p rr.length c ∧ RecA w (.slice p k c) (rr.take k) := by
  obtain ⟨p, c, rfl, h1⟩ := h
  refine ⟨p, c, rfl, p, c, by rw [List.length_take, show min k rr.length = k from by omega], fun i hi => ?_⟩
  rw [List.length_take] at hi
  obtain ⟨g, u, a1, a2, a3⟩ := h1 i (by omega)
  refine ⟨g, u, a1, a2, ?_⟩
  have e : (rr.take k).getD i [] = rr.getD i [] := by simp only [List.getD_eq_getElem?_getD]; rw [List.getElem?_take, if_pos (by omega)]
  rw [e]; exact a3
theorem isBy_take {w : World} {p : Option Addr} {n c : Nat} {bs : List Nat} (h : IsBy w (.slice p n c) bs) (hn : n = bs.length) (k : Nat) (hk : k ≤ n) : IsBy w (.slice p k c) (bs.take k) := by
  obtain ⟨p', cap, e, h1⟩ := by_slice h
  simp only [Value.slice.injEq] at e
  obtain ⟨rfl, _, rfl⟩ := e
  have hl : (bs.take k).length = k := by rw [List.length_take]; omega
  by_cases h0 : k = 0
  · subst h0
    cases p with
    | none =>
      rcases h with (⟨e, _⟩ | ⟨g, o, cap, e, _⟩) | ⟨ad, cap, e, _⟩
      · simp only [Value.slice.injEq] at e
        obtain ⟨_, _, rfl⟩ := e
        exact .inl (.inl ⟨rfl, by simp⟩)
      · simp at e
      · simp at e
    | some ad => exact .inr ⟨ad, c, rfl, by simp⟩
  · obtain ⟨b, o, e1, _⟩ := h1 0 (by omega)
    subst e1
    refine .inl (.inr ⟨b, o, c, by rw [hl], fun i hi => ?_⟩)
    rw [hl] at hi
    obtain ⟨b', o', e2, hc⟩ := h1 i (by omega)
    simp only [Option.some.injEq, Addr.mk.injEq] at e2
    obtain ⟨rfl, rfl, _⟩ := e2
    rw [hc]
    have e : (bs.take k).getD i 0 = bs.getD i 0 := by simp only [List.getD_eq_getElem?_getD]; rw [List.getElem?_take, if_pos (by omega)]
    rw [e]
theorem plc_at {w : World} {B : Nat} {vp : Value} {ff : List (List (List Nat))} (h : w.ownsRow B 3 1 vp (ff.length + 1) (plV ff)) : ∃ g c, vp = .slice (some ⟨g, 0, none⟩) (ff.length + 1) c ∧ ∀ i, i ≤ ff.length → w.cell? ⟨g, i, none⟩ = some (.int .i64 ((pl ff i : Nat) : Int)) := by
  obtain ⟨g, c, e, h1⟩ := own_at h (by omega)
  refine ⟨g, c, e, fun i hi => h1 i _ (by omega) ?_⟩
  unfold plV
  rw [List.getElem?_map, List.getElem?_range (by omega)]
  rfl

end Go.Proofs.YtpjinakhgfpafaaDoor

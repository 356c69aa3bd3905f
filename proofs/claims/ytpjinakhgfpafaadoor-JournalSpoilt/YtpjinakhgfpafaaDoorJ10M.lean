/- A file of records with one byte changed. -/
import Derived.Test.YtpjinakhgfpafaaDoorJ8A
import Derived.Test.YtpjinakhgfpafaaDoorJ7B
import Derived.Test.YtpjinakhgfpafaaDoorJ3M
/- A file of any bytes: what its records are; Open of it. -/
namespace Go.Proofs.YtpjinakhgfpafaaDoor
open Go.RowKit
set_option linter.unusedVariables false
set_option linter.unusedSimpArgs false

theorem four_num4 : ∀ (l : List Nat), 4 ≤ l.length → (∀ n ∈ l, n < 256) → four (num4 l) = l.take 4
  | a :: b :: c :: d :: t, _, h => by
    have ha := h a (by simp)
    have hb := h b (by simp)
    have hc := h c (by simp)
    have hd := h d (by simp)
    simp only [four, num4, List.getD, List.getElem?_cons_zero, List.getElem?_cons_succ, Option.getD_some, List.take_succ_cons, List.take_zero]
    simp only [List.cons.injEq, and_true]
    exact ⟨by omega, by omega, by omega, by omega⟩

theorem tkRows_inv : ∀ (f : Nat) (body : List Nat) (rows res : List (List Nat)), tkRows f body rows = some res → (∀ n ∈ body, n < 256) → rows.length ≤ 4096 → ∃ more, res = rows ++ more ∧ bodyB more = body ∧ res.length ≤ 4096
  | 0, _, _, _, h, _, _ => by simp [tkRows] at h
  | f + 1, body, rows, res, h, hb, hr => by
    rw [tkRows_step] at h
    unfold rowHead at h
    by_cases h0 : body.length = 0
    · rw [if_pos h0] at h
      simp only [Option.some.injEq] at h
      subst h
      exact ⟨[], by simp, by rw [List.eq_nil_of_length_eq_zero h0]; rfl, hr⟩
    · rw [if_neg h0] at h
      by_cases h4 : body.length < 4
      · rw [if_pos h4] at h; simp at h
      · rw [if_neg h4] at h
        by_cases hn : body.length - 4 < num4 body
        · rw [if_pos hn] at h; simp at h
        · rw [if_neg hn] at h
          by_cases hk : rows.length = 4096
          · rw [if_pos hk] at h; simp at h
          · rw [if_neg hk] at h
            simp only at h
            obtain ⟨more, e1, e2, e3⟩ := tkRows_inv f _ _ res h (fun n hn' => hb n (List.mem_of_mem_drop hn')) (by simp; omega)
            refine ⟨(body.drop 4).take (num4 body) :: more, by rw [e1]; simp, ?_, e3⟩
            have hl : ((body.drop 4).take (num4 body)).length = num4 body := by rw [List.length_take, List.length_drop]; omega
            rw [bodyB, e2, hl, four_num4 body (by omega) hb]
            rw [show body.drop (4 + num4 body) = (body.drop 4).drop (num4 body) from by rw [List.drop_drop], List.append_assoc, List.take_append_drop, List.take_append_drop]

def rh (M : Nat) (left : List Nat) : RH := if left.length < 8 then .stop else if M < num4 left then .bad else if left.length - 8 < num4 left then .stop else if crcO (left.take 4 ++ (left.drop 8).take (num4 left)) ≠ num4 (left.drop 4) then .bad else .go ((left.drop 8).take (num4 left)) (left.drop (8 + num4 left))
theorem rh_cases (M : Nat) (left : List Nat) : rh M left = .stop ∨ rh M left = .bad ∨ (8 ≤ left.length ∧ num4 left ≤ M ∧ num4 left ≤ left.length - 8 ∧ crcO (left.take 4 ++ (left.drop 8).take (num4 left)) = num4 (left.drop 4) ∧ rh M left = .go ((left.drop 8).take (num4 left)) (left.drop (8 + num4 left))) := by
  unfold rh
  by_cases h8 : left.length < 8
  · rw [if_pos h8]; exact .inl rfl
  · rw [if_neg h8]
    by_cases hbig : M < num4 left
    · rw [if_pos hbig]; exact .inr (.inl rfl)
    · rw [if_neg hbig]
      by_cases hs : left.length - 8 < num4 left
      · rw [if_pos hs]; exact .inl rfl
      · rw [if_neg hs]
        by_cases hc : crcO (left.take 4 ++ (left.drop 8).take (num4 left)) ≠ num4 (left.drop 4)
        · rw [if_pos hc]; exact .inr (.inl rfl)
        · rw [if_neg hc]; exact .inr (.inr ⟨by omega, by omega, by omega, Classical.byContradiction hc, rfl⟩)
theorem recHead_cases (left : List Nat) : recHead left = .stop ∨ recHead left = .bad ∨ (8 ≤ left.length ∧ num4 left ≤ 4194304 ∧ num4 left ≤ left.length - 8 ∧ crcO (left.take 4 ++ (left.drop 8).take (num4 left)) = num4 (left.drop 4) ∧ recHead left = .go ((left.drop 8).take (num4 left)) (left.drop (8 + num4 left))) := rh_cases 4194304 left

theorem rec_is {left : List Nat} {rows : List (List Nat)} (h8 : 8 ≤ left.length) (hb : ∀ n ∈ left, n < 256) (hs : num4 left ≤ left.length - 8) (hc : crcO (left.take 4 ++ (left.drop 8).take (num4 left)) = num4 (left.drop 4)) (hr : bodyB rows = (left.drop 8).take (num4 left)) : left = recB rows ++ left.drop (8 + num4 left) := by
  have hbl : ((left.drop 8).take (num4 left)).length = num4 left := by rw [List.length_take, List.length_drop]; omega
  have h4 := four_num4 left (by omega) hb
  have h5 := four_num4 (left.drop 4) (by rw [List.length_drop]; omega) (fun n hn => hb n (List.mem_of_mem_drop hn))
  have er : recB rows = left.take 4 ++ (left.drop 4).take 4 ++ (left.drop 8).take (num4 left) := by
    unfold recB
    rw [hr, hbl, h4, hc, h5]
  have e1 : left.drop 8 = (left.drop 4).drop 4 := by rw [List.drop_drop]
  have e2 : left.drop (8 + num4 left) = (left.drop 8).drop (num4 left) := by rw [List.drop_drop]
  have e3 : (left.drop 8).take (num4 left) ++ left.drop (8 + num4 left) = left.drop 8 := by rw [e2, List.take_append_drop]
  have e4 : (left.drop 4).take 4 ++ left.drop 8 = left.drop 4 := by rw [e1, List.take_append_drop]
  rw [er, List.append_assoc, List.append_assoc, e3, e4, List.take_append_drop]

theorem tkRecs_no {f : Nat} {left b l : List Nat} {recs : List (List (List Nat))} (h : recHead left = .go b l) (h2 : tkRows (b.length + 1) b [] = none) : tkRecs (f + 1) left recs = none := by
  rw [tkRecs_step, h]
  simp only [h2]

theorem tkRecs_inv (f : Nat) : ∀ (left : List Nat) (recs rr : List (List (List Nat))) (m : Nat), tkRecs f left recs = some (rr, m) → (∀ n ∈ left, n < 256) → ∃ more rest, rr = recs ++ more ∧ left = recsB more ++ rest ∧ rest.length = m ∧ ∀ r ∈ more, Okr r := by
  induction f with
  | zero => intro left recs rr m h; simp [tkRecs] at h
  | succ f ih =>
    intro left recs rr m h hb
    rcases recHead_cases left with e | e | ⟨h8, hM, hs, hc, e⟩
    · rw [tkRecs_end e] at h
      simp only [Option.some.injEq, Prod.mk.injEq] at h
      exact ⟨[], left, by simp [h.1], by simp [recsB], h.2, by simp⟩
    · rw [tkRecs_step, e] at h
      simp at h
    · cases htk : tkRows (((left.drop 8).take (num4 left)).length + 1) ((left.drop 8).take (num4 left)) [] with
      | none =>
        rw [tkRecs_no e htk] at h
        simp at h
      | some rows =>
        rw [tkRecs_rec e htk] at h
        obtain ⟨mo, a1, a2, a3⟩ := tkRows_inv _ _ _ _ htk (fun n hn => hb n (List.mem_of_mem_drop (List.mem_of_mem_take hn))) (by simp)
        rw [List.nil_append] at a1
        subst a1
        obtain ⟨more, rest, e1, e2, e3, e4⟩ := ih _ _ rr m h (fun n hn => hb n (List.mem_of_mem_drop hn))
        have hl := rec_is h8 hb hs hc a2
        refine ⟨rows :: more, rest, by rw [e1]; simp, ?_, e3, fun r hr => ?_⟩
        · rw [recsB, List.append_assoc, ← e2]; exact hl
        · rcases List.mem_cons.1 hr with rfl | hr
          · exact ⟨a3, by rw [a2, List.length_take]; omega⟩
          · exact e4 r hr

theorem body_mem : ∀ {r : List (List Nat)} {x : List Nat}, x ∈ r → x.length ≤ (bodyB r).length ∧ ∀ y ∈ x, y ∈ bodyB r
  | a :: t, x, h => by
    have hl := row_len a t
    rcases List.mem_cons.1 h with rfl | h
    · exact ⟨by omega, fun y hy => by simp [bodyB, hy]⟩
    · have := body_mem h
      exact ⟨by omega, fun y hy => by simp [bodyB, this.2 y hy]⟩
theorem recs_mem : ∀ {rr : List (List (List Nat))} {r : List (List Nat)}, r ∈ rr → (bodyB r).length + 8 ≤ (recsB rr).length ∧ ∀ y ∈ bodyB r, y ∈ recsB rr
  | a :: t, r, h => by
    have hl := recB_len a
    have hrl : (recsB (a :: t)).length = (recB a).length + (recsB t).length := by rw [recsB, List.length_append]
    rcases List.mem_cons.1 h with rfl | h
    · exact ⟨by omega, fun y hy => by simp [recsB, recB, hy]⟩
    · have := recs_mem h
      exact ⟨by omega, fun y hy => by simp [recsB, this.2 y hy]⟩
theorem recs_many : ∀ (rr : List (List (List Nat))), 8 * rr.length ≤ (recsB rr).length
  | [] => by simp [recsB]
  | a :: t => by
    have hl := recB_len a
    have := recs_many t
    rw [recsB, List.length_append, List.length_cons]; omega

/-- A file that Open refuses. -/
def Bad (bs : List Nat) : Prop := (8 ≤ bs.length ∧ (¬ bs.take 8 = headB ∨ tkRecs (bs.length + 1) (bs.drop 8) [] = none)) ∨ (bs.length < 8 ∧ ¬ bs = headB.take bs.length)

set_option maxRecDepth 100000 in
theorem open_bad8 {B : Nat} {d : Nat} {p : PS} {F : Nat → Prop} (w : World) (h : Di B w d p F) (nm : ByteArray) (hoff : p.off = false) (hs : okN nm) (bs : List Nat) (su : Nat) (hc : (nm, bs, su) ∈ p.con) (hlb : bs.length ≤ 268435456) (h8 : 8 ≤ bs.length) (hbad : ¬ bs.take 8 = headB ∨ tkRecs (bs.length + 1) (bs.drop 8) [] = none) (hT : TabC w) (hTF : ¬ F 0) :
    Calls Tryd.prog 11 #[.pointer (some ⟨d, 0, none⟩), .string nm] w fun e w' => e = .returned (.tuple #[.pointer none, .slice none 0 0, .int .i64 111]) ∧ Di B w' d p F ∧ Fr w F w' F := by
  have hgl : 0 < w.heap.size := World.block_lt_of_cell? _ _ (hT 0 (by decide))
  have HO : Hid (∀ w1, Below w.heap.size w w1 → Calls Tryd.prog 29 #[.pointer (some ⟨w1.heap.size, 0, none⟩)] (w1.alloc (.cells #[.pointer (some ⟨d, 0, none⟩), .string nm, .int .i64 0, .int .i64 0, .bool false] 80)) fun e w' => e = .returned (.tuple #[.pointer none, .slice none 0 0, .int .i64 111]) ∧ Di B w' d p F ∧ Fr w F w' F) := fun w1 hb => by
    have hb2 : Below w1.heap.size w1 (w1.alloc (.cells #[.pointer (some ⟨d, 0, none⟩), .string nm, .int .i64 0, .int .i64 0, .bool false] 80)) := (Below.refl _ _).alloc (Nat.le_refl _) _
    have hb3 := hb.trans (hb2.mono hb.size)
    refine (opened_bad _ (h.below hb3) (heap_alloc_new w1 _) (fun e => by have := h.lt _ e; have := hb.size; omega) hoff hs bs su hc hlb h8 hbad (hT.below hb3) ⟨hTF, by have := hb.size; omega⟩).mono ?_
    rintro e w' ⟨rfl, e1, e2⟩
    exact ⟨rfl, e1, e2.fr hb3 hb.size⟩
  have hsz : nm.size ≤ 1000000000 := by have := hs.2.1; omega
  clear h hoff hs hc hT hTF hgl hbad
  go_enter Tryd.func11, Tryd.ntmps11
  go_wp2_with (first | (go_at_call 30; refine (sclone_any nm _ hsz).mono ?_; rintro e w1 ⟨rfl, hB1⟩; have HB1 := hide hB1; clear hB1) | (go_at_call 29; refine (HO.out _ HB1.out).mono ?_; rintro e w2 ⟨rfl, hR⟩; have HR := hide hR; clear hR))
  go_ret3
  exact ⟨rfl, HR.out⟩

set_option maxRecDepth 100000 in
theorem open_bad0 {B : Nat} {d : Nat} {p : PS} {F : Nat → Prop} (w : World) (h : Di B w d p F) (nm : ByteArray) (hoff : p.off = false) (hs : okN nm) (bs : List Nat) (su : Nat) (hc : (nm, bs, su) ∈ p.con) (hlb : bs.length ≤ 268435456) (h8 : bs.length < 8) (hb256 : ∀ x ∈ bs, x < 256) (hnp : ¬ bs = headB.take bs.length) (hbad : ¬ bs.take 8 = headB ∨ tkRecs (bs.length + 1) (bs.drop 8) [] = none) (hT : TabC w) (hTF : ¬ F 0) :
    Calls Tryd.prog 11 #[.pointer (some ⟨d, 0, none⟩), .string nm] w fun e w' => e = .returned (.tuple #[.pointer none, .slice none 0 0, .int .i64 111]) ∧ Di B w' d p F ∧ Fr w F w' F := by
  have hgl : 0 < w.heap.size := World.block_lt_of_cell? _ _ (hT 0 (by decide))
  have HO : Hid (∀ w1, Below w.heap.size w w1 → Calls Tryd.prog 29 #[.pointer (some ⟨w1.heap.size, 0, none⟩)] (w1.alloc (.cells #[.pointer (some ⟨d, 0, none⟩), .string nm, .int .i64 0, .int .i64 0, .bool false] 80)) fun e w' => e = .returned (.tuple #[.pointer none, .slice none 0 0, .int .i64 111]) ∧ Di B w' d p F ∧ Fr w F w' F) := fun w1 hb => by
    have hb2 : Below w1.heap.size w1 (w1.alloc (.cells #[.pointer (some ⟨d, 0, none⟩), .string nm, .int .i64 0, .int .i64 0, .bool false] 80)) := (Below.refl _ _).alloc (Nat.le_refl _) _
    have hb3 := hb.trans (hb2.mono hb.size)
    refine (opened_bad0 _ (h.below hb3) (heap_alloc_new w1 _) (fun e => by have := h.lt _ e; have := hb.size; omega) hoff hs bs su hc hlb h8 hb256 hnp hbad (hT.below hb3) ⟨hTF, by have := hb.size; omega⟩).mono ?_
    rintro e w' ⟨rfl, e1, e2⟩
    exact ⟨rfl, e1, e2.fr hb3 hb.size⟩
  have hsz : nm.size ≤ 1000000000 := by have := hs.2.1; omega
  clear h hoff hs hc hT hTF hgl hbad
  go_enter Tryd.func11, Tryd.ntmps11
  go_wp2_with (first | (go_at_call 30; refine (sclone_any nm _ hsz).mono ?_; rintro e w1 ⟨rfl, hB1⟩; have HB1 := hide hB1; clear hB1) | (go_at_call 29; refine (HO.out _ HB1.out).mono ?_; rintro e w2 ⟨rfl, hR⟩; have HR := hide hR; clear hR))
  go_ret3
  exact ⟨rfl, HR.out⟩

section
variable {W w : World} {d : Nat} {p : PS} {F : Nat → Prop} {bs : List Nat} {V : Nat}
theorem raw_bad (h : Fl W w d p F bs V) (hT : TabC W) (hb : ∀ x ∈ bs, x < 256) (hbad : Bad bs) :
    Calls Tryd.prog 11 #[.pointer (some ⟨d, 0, none⟩), .string { data := #[106] }] w fun e w' => e = .returned (.tuple #[.pointer none, .slice none 0 0, .int .i64 111]) ∧ Fl W w' d p F bs V ∧ Fr w F w' F := by
  obtain ⟨su, hm⟩ := h.mem
  have hgl : 0 < W.heap.size := World.block_lt_of_cell? _ _ (hT 0 (by decide))
  have hTF : ¬ F 0 := fun e => by have := h.di.ge _ e; omega
  have hlen := h.len
  rcases hbad with ⟨h8, h1⟩ | ⟨h8, h1⟩
  · refine (open_bad8 w h.di nmJ h.off okJ bs su hm (by omega) h8 h1 (hT.below h.bel) hTF).mono ?_
    rintro e w' ⟨rfl, k1, k2⟩
    exact ⟨rfl, { h with di := k1, bel := bel_fr h.bel (Nat.le_refl _) k2 h.di.ge }, k2⟩
  · refine (open_bad0 w h.di nmJ h.off okJ bs su hm (by omega) h8 hb h1 (.inl fun e => ?_) (hT.below h.bel) hTF).mono ?_
    · have := congrArg List.length e
      rw [List.length_take, show headB.length = 8 from rfl] at this
      omega
    · rintro e w' ⟨rfl, k1, k2⟩
      exact ⟨rfl, { h with di := k1, bel := bel_fr h.bel (Nat.le_refl _) k2 h.di.ge }, k2⟩

/-- Open of a file that it takes: its records, and the file is just these. -/
theorem raw_good (h : Fl W w d p F bs V) (hV : V ≤ 1000) (hT : TabC W) (hb : ∀ x ∈ bs, x < 256) (hgood : ¬ Bad bs) :
    Calls Tryd.prog 11 #[.pointer (some ⟨d, 0, none⟩), .string { data := #[106] }] w fun e w' => ∃ (l2 : Nat) (v : Value), e = .returned (.tuple #[.pointer (some ⟨l2, 0, none⟩), v, .int .i64 0]) ∧ ∃ p' F' rr, Fl W w' d p' F' (headB ++ recsB rr) (V + 3) ∧ Fr w F w' F' ∧ (∃ vals, RecG (Gf W.heap.size w' F') W.heap.size w' v vals rr) ∧ Lg w' l2 d nmJ (headB ++ recsB rr).length rr.length ∧ ¬ F' l2 ∧ (∀ r ∈ rr, Okr r) ∧ (∀ x ∈ recsB rr, x < 256) ∧ (headB ++ recsB rr).length ≤ bs.length + 8 := by
  obtain ⟨su, hcon⟩ := h.con
  have hmem : (nmJ, bs, su) ∈ p.con := by rw [hcon]; exact List.mem_singleton.2 rfl
  have hw := h.wr
  have hlen := h.len
  have hB := h.bel.size
  have hgl : 0 < W.heap.size := World.block_lt_of_cell? _ _ (hT 0 (by decide))
  have hTF : ¬ F 0 := fun e => by have := h.di.ge _ e; omega
  by_cases h8 : bs.length < 8
  · have hpre : bs = headB.take bs.length := Classical.byContradiction fun e => hgood (.inr ⟨h8, e⟩)
    have htot : Con.tot p.con + 8 ≤ p.room := by rw [hcon, h.room]; simp only [Con.tot]; omega
    have he : headB ++ recsB [] = headB := by simp [recsB]
    by_cases hz : bs.length = 0
    · refine (open_beg0 w h.di nmJ h.off h.ain (by omega) okJ _ su hmem h8 hpre htot hz).mono ?_
      rintro e w' ⟨l2, F', rfl, k1, k2, k3, k4, k5⟩
      refine ⟨l2, _, rfl, _, F', [], ⟨k1, ⟨8, ?_⟩, h.room, h.off, h.ain, by dsimp only; omega, bel_fr h.bel (Nat.le_refl _) k5 h.di.ge, by rw [he]; decide⟩, k5, ⟨[], RecG.nil _ _ _⟩, k2, k3, by simp, by simp [recsB], by rw [he]; show 8 ≤ _; omega⟩
      dsimp only
      rw [he, hcon, con_lay1, List.eq_nil_of_length_eq_zero hz]
      rfl
    · refine (open_beg1 w h.di nmJ h.off h.ain (by omega) okJ _ su hmem h8 hpre htot (by omega)).mono ?_
      rintro e w' ⟨l2, F', rfl, k1, k2, k3, k4, k5⟩
      refine ⟨l2, _, rfl, _, F', [], ⟨k1, ⟨8, ?_⟩, h.room, h.off, h.ain, by dsimp only; omega, bel_fr h.bel (Nat.le_refl _) k5 h.di.ge, by rw [he]; decide⟩, k5, ⟨[], RecG.nil _ _ _⟩, k2, k3, by simp, by simp [recsB], by rw [he]; show 8 ≤ _; omega⟩
      dsimp only
      rw [he, hcon, con_cut1, con_lay1]
      rfl
  · have hpre : bs.take 8 = headB := Classical.byContradiction fun e => hgood (.inl ⟨by omega, .inl e⟩)
    cases htk : tkRecs (bs.length + 1) (bs.drop 8) [] with
    | none => exact absurd (.inl ⟨by omega, .inr htk⟩) hgood
    | some q =>
      obtain ⟨rr, m⟩ := q
      obtain ⟨more, rest, e1, e2, e3, e4⟩ := tkRecs_inv _ _ _ _ _ htk (fun n hn => hb n (List.mem_of_mem_drop hn))
      rw [List.nil_append] at e1
      subst e1
      have hbs : bs = (headB ++ recsB rr) ++ rest := by
        rw [List.append_assoc, ← e2, ← hpre, List.take_append_drop]
      have hl : bs.length = (headB ++ recsB rr).length + m := by rw [← e3, ← List.length_append, ← hbs]
      have h256 : ∀ x ∈ recsB rr, x < 256 := fun x hx => hb x (by rw [hbs]; simp [hx])
      by_cases hz : m = 0
      · rw [hz] at htk
        refine (open_full w h.di nmJ h.off okJ _ su hmem (by omega) (by omega) hpre rr htk (hT.below h.bel) hTF).mono ?_
        rintro e w' ⟨l2, v, rfl, k1, k2, k3, k4, k5⟩
        have hr0 : rest = [] := List.eq_nil_of_length_eq_zero (by rw [e3, hz])
        have hsame : bs = headB ++ recsB rr := by rw [hbs, hr0, List.append_nil]
        rw [hsame] at k2
        exact ⟨l2, v, rfl, p, F, rr, ⟨k1, ⟨su, by rw [hcon, hsame]⟩, h.room, h.off, h.ain, by omega, bel_fr h.bel (Nat.le_refl _) k4 h.di.ge, by rw [← hsame]; exact hlen⟩, k4, k5.g hB fun x h1 h2 => ⟨Nat.le_trans hB h1, h2, fun e => by have := h.di.lt x e; omega⟩, k2, fun e => by have := h.di.lt _ e; omega, e4, h256, by omega⟩
      · refine (open_cut w h.di nmJ h.off h.ain (by omega) okJ _ su hmem (by omega) (by omega) hpre rr (headB ++ recsB rr).length m htk (by omega) (by omega) (hT.below h.bel) hTF).mono ?_
        rintro e w' ⟨l2, v, F', rfl, k1, k2, k3, k4, k5, lo, k6, hi, k7, k8, k9⟩
        refine ⟨l2, v, rfl, _, F', rr, ⟨k1, ⟨min su (headB ++ recsB rr).length, ?_⟩, h.room, h.off, h.ain, by dsimp only; omega, bel_fr h.bel (Nat.le_refl _) k5 h.di.ge, by omega⟩, k5, k8.g (Nat.le_trans hB k6) fun x h1 h2 => ⟨Nat.le_trans (Nat.le_trans hB k6) h1, Nat.lt_of_lt_of_le h2 k7, k9 x h1 h2⟩, k2, k3, e4, h256, by omega⟩
        dsimp only
        rw [hcon, con_cut1]
        dsimp only
        conv => lhs; rw [hbs]
        rw [List.take_left' rfl]
end

end Go.Proofs.YtpjinakhgfpafaaDoor

namespace Go.Proofs.YtpjinakhgfpafaaDoor
open Go.RowKit
set_option linter.unusedVariables false
set_option linter.unusedSimpArgs false

theorem tkRecs_front (a : List (List (List Nat))) : ∀ (recs : List (List (List Nat))) (f : Nat) (X : List Nat), (∀ r ∈ a, Okr r) → tkRecs (f + a.length) (recsB a ++ X) recs = tkRecs f X (recs ++ a) := by
  induction a with
  | nil => intro recs f X _; simp [recsB]
  | cons r t ih =>
    intro recs f X h
    have hr := h r (by simp)
    have h3 := tkRows_body r [] ((bodyB r).length + 1) (by simpa using hr.1) (by have := hr.2; omega) (by omega)
    rw [List.nil_append] at h3
    rw [show f + (r :: t).length = (f + t.length) + 1 from by rw [List.length_cons]; omega, recsB, List.append_assoc, tkRecs_rec (recHead_rec r _ hr) h3, ih (recs ++ [r]) f X (fun x hx => h x (by simp [hx])), List.append_assoc, List.singleton_append]

theorem tkRecs_bad' {f : Nat} {left : List Nat} {recs : List (List (List Nat))} (h : recHead left = .bad) : tkRecs (f + 1) left recs = none := by
  rw [tkRecs_step, h]
theorem take_more' (rr : List (List (List Nat))) (i : Nat) (hi : i < rr.length) : rr.take (i + 1) = rr.take i ++ [rr.getD i []] := by
  rw [List.take_succ_eq_append_getElem hi]
  simp [List.getD, hi]

/-- The sum or the body of a record changed: refused. -/
theorem recHead_spoilt (n : Nat) (body body' s4 : List Nat) (T : List Nat) (hn : n = body.length) (hn' : n = body'.length) (hM : n ≤ 4194304) (hs : s4.length = 4) (hne : crcO (four n ++ body') ≠ num4 (s4 ++ (body' ++ T))) : recHead (four n ++ (s4 ++ (body' ++ T))) = .bad := by
  have h4 : num4 (four n ++ (s4 ++ (body' ++ T))) = n := num4_four _ (by omega) _
  have hl : (four n ++ (s4 ++ (body' ++ T))).length = 8 + n + T.length := by simp only [List.length_append, four_len, hs]; omega
  have d4 : (four n ++ (s4 ++ (body' ++ T))).drop 4 = s4 ++ (body' ++ T) := List.drop_left' (four_len _)
  have d8 : (four n ++ (s4 ++ (body' ++ T))).drop 8 = body' ++ T := by
    rw [show (8 : Nat) = 4 + 4 from rfl, ← List.drop_drop, d4]; exact List.drop_left' hs
  have t4 : (four n ++ (s4 ++ (body' ++ T))).take 4 = four n := List.take_left' (four_len _)
  rcases recHead_cases (four n ++ (s4 ++ (body' ++ T))) with e | e | ⟨_, _, _, hc, _⟩
  · exfalso
    have e2 : rh 4194304 (four n ++ (s4 ++ (body' ++ T))) = .stop := e
    revert e2
    generalize 4194304 = M at hM
    unfold rh
    rw [h4, d8, t4, d4, List.take_left' hn'.symm, if_neg (by omega), if_neg (by omega), if_neg (by omega), if_pos hne]
    intro e2
    cases e2
  · exact e
  · rw [h4, d8, t4, d4, List.take_left' hn'.symm] at hc
    exact absurd hc hne

/-- A record at the front of bytes has its sum. -/
def SumsOk (X : List Nat) : Prop := 8 ≤ X.length ∧ num4 X ≤ 4194304 ∧ num4 X ≤ X.length - 8 ∧ crcO (X.take 4 ++ (X.drop 8).take (num4 X)) = num4 (X.drop 4)

/-- One record with a byte changed, others behind it. -/
theorem rec_set (r : List (List Nat)) (T : List Nat) (o z : Nat) (hr : Okr r) (h256 : ∀ x ∈ bodyB r, x < 256) (ho : o < (recB r).length) (hz : z < 256) (hne : z ≠ (recB r).getD o 0) (h4 : 4 ≤ o) : recHead ((recB r).set o z ++ T) = .bad := by
  have hl := recB_len r
  obtain ⟨n, hn⟩ : ∃ n, (bodyB r).length = n := ⟨_, rfl⟩
  obtain ⟨cr, hcr⟩ : ∃ c, crcO (four n ++ bodyB r) = c := ⟨_, rfl⟩
  have hcl : cr < 4294967296 := by rw [← hcr]; exact crcO_lt _
  have hM : n ≤ 4194304 := by rw [← hn]; exact hr.2
  have e : recB r = four n ++ (four cr ++ bodyB r) := by unfold recB; rw [hn, hcr, List.append_assoc]
  rw [e] at hne ⊢
  rw [hn] at hl
  have s1 : (four n ++ (four cr ++ bodyB r)).set o z = four n ++ (four cr ++ bodyB r).set (o - 4) z := by
    rw [List.set_append_right _ _ (by rw [four_len]; exact h4), four_len]
  have g1 : (four n ++ (four cr ++ bodyB r)).getD o 0 = (four cr ++ bodyB r).getD (o - 4) 0 := by
    simp only [List.getD_eq_getElem?_getD]
    rw [List.getElem?_append_right (by rw [four_len]; exact h4), four_len]
  rw [g1] at hne
  rw [s1]
  by_cases h8 : o < 8
  · have s2 : (four cr ++ bodyB r).set (o - 4) z = (four cr).set (o - 4) z ++ bodyB r := by
      rw [List.set_append_left _ _ (by rw [four_len]; omega)]
    have g2 : (four cr ++ bodyB r).getD (o - 4) 0 = (four cr).getD (o - 4) 0 := by
      simp only [List.getD_eq_getElem?_getD]
      rw [List.getElem?_append_left (by rw [four_len]; omega)]
    rw [g2] at hne
    rw [s2, List.append_assoc, List.append_assoc]
    refine recHead_spoilt n (bodyB r) (bodyB r) _ T hn.symm hn.symm hM (by rw [List.length_set, four_len]) fun ee => ?_
    rw [hcr] at ee
    have hlt : ∀ y ∈ (four cr).set (o - 4) z, y < 256 := fun y hy => by
      rcases List.mem_or_eq_of_mem_set hy with h | h
      · exact four_lt _ y h
      · rw [h]; exact hz
    have h5 : num4 ((four cr).set (o - 4) z ++ (bodyB r ++ T)) = num4 ((four cr).set (o - 4) z) := by
      have hl4 : ((four cr).set (o - 4) z).length = 4 := by rw [List.length_set, four_len]
      match hq : (four cr).set (o - 4) z, hl4 with
      | [a, b, c, d], _ => rfl
    have h6 := four_num4 ((four cr).set (o - 4) z) (by rw [List.length_set, four_len]; exact Nat.le_refl _) hlt
    rw [← h5, ← ee, List.take_of_length_le (by rw [List.length_set, four_len]; exact Nat.le_refl _)] at h6
    have h7 : (four cr).getD (o - 4) 0 = z := by
      rw [h6]
      simp only [List.getD_eq_getElem?_getD]
      rw [List.getElem?_set, if_pos rfl, if_pos (by rw [four_len]; omega)]
      rfl
    exact hne h7.symm
  · have s2 : (four cr ++ bodyB r).set (o - 4) z = four cr ++ (bodyB r).set (o - 4 - 4) z := by
      rw [List.set_append_right _ _ (by rw [four_len]; omega), four_len]
    have g2 : (four cr ++ bodyB r).getD (o - 4) 0 = (bodyB r).getD (o - 4 - 4) 0 := by
      simp only [List.getD_eq_getElem?_getD]
      rw [List.getElem?_append_right (by rw [four_len]; omega), four_len]
    rw [g2] at hne
    rw [s2, List.append_assoc, List.append_assoc]
    refine recHead_spoilt n (bodyB r) _ _ T hn.symm (by rw [List.length_set, hn]) hM (four_len _) fun ee => ?_
    rw [num4_four _ hcl, ← hcr] at ee
    have e3 : four n ++ (bodyB r).set (o - 4 - 4) z = (four n ++ bodyB r).set (o - 4) z := by
      rw [List.set_append_right _ _ (by rw [four_len]; omega), four_len]
    rw [e3] at ee
    refine crcO_one (four n ++ bodyB r) (o - 4) z (fun k hk => ?_) (by rw [List.length_append, four_len, hn]; omega) hz (fun h => hne ?_) ee
    · rcases List.mem_append.1 hk with h | h
      · exact four_lt _ k h
      · exact h256 k h
    · rw [h]
      simp only [List.getD_eq_getElem?_getD]
      rw [List.getElem?_append_right (by rw [four_len]; omega), four_len]

theorem file_split (ff : List (List (List Nat))) (k : Nat) (hk : k < ff.length) : headB ++ recsB ff = (headB ++ recsB (ff.take k)) ++ (recB (ff.getD k []) ++ recsB (ff.drop (k + 1))) ∧ (headB ++ recsB (ff.take k)).length = pl ff k := by
  have hg : ff.getD k [] = ff[k] := by simp [List.getD, hk]
  have e : ff = ff.take k ++ ff.getD k [] :: ff.drop (k + 1) := by
    rw [hg]; rw [← List.drop_eq_getElem_cons hk, List.take_append_drop]
  refine ⟨?_, by rw [List.length_append]; rfl⟩
  conv => lhs; rw [e]
  rw [recsB_app, recsB, List.append_assoc]

theorem spoilt (ff : List (List (List Nat))) (hok : ∀ r ∈ ff, Okr r) (h256 : ∀ x ∈ recsB ff, x < 256) (at_ z : Nat) (hat : at_ < (headB ++ recsB ff).length) (hz : z < 256) (hne : z ≠ (headB ++ recsB ff).getD at_ 0) (hgood : ¬ Bad ((headB ++ recsB ff).set at_ z)) :
    8 ≤ ((headB ++ recsB ff).set at_ z).length ∧ ∃ k, k < ff.length ∧ pl ff k ≤ at_ ∧ at_ < pl ff k + 4 ∧ ∀ rr m, tkRecs (((headB ++ recsB ff).set at_ z).length + 1) (((headB ++ recsB ff).set at_ z).drop 8) [] = some (rr, m) → rr = ff.take k ∨ (k < rr.length ∧ SumsOk (((headB ++ recsB ff).set at_ z).drop (pl ff k))) := by
  have hl : (headB ++ recsB ff).length = 8 + (recsB ff).length := by rw [List.length_append]; rfl
  have hN : ((headB ++ recsB ff).set at_ z).length = 8 + (recsB ff).length := by rw [List.length_set, hl]
  refine ⟨by omega, ?_⟩
  have hnb : ∀ P, ((headB ++ recsB ff).set at_ z).take 8 = headB → (tkRecs (((headB ++ recsB ff).set at_ z).length + 1) (((headB ++ recsB ff).set at_ z).drop 8) [] = none) → P := fun P _ h => absurd (.inl ⟨by omega, .inr h⟩) hgood
  by_cases h8 : at_ < 8
  · exfalso
    refine hgood (.inl ⟨by omega, .inl fun e => ?_⟩)
    have e1 : (headB ++ recsB ff).set at_ z = headB.set at_ z ++ recsB ff := by rw [List.set_append_left _ _ (by show at_ < 8; exact h8)]
    rw [e1, List.take_left' (by rw [List.length_set]; rfl)] at e
    refine hne ?_
    have e2 : (headB ++ recsB ff).getD at_ 0 = headB.getD at_ 0 := by
      simp only [List.getD_eq_getElem?_getD]
      rw [List.getElem?_append_left (by show at_ < 8; exact h8)]
    rw [e2, ← e]
    simp only [List.getD_eq_getElem?_getD]
    rw [List.getElem?_set, if_pos rfl, if_pos (by show at_ < 8; exact h8)]
    rfl
  · obtain ⟨k, hw⟩ := whole_of ff at_
    have hp : pl ff k ≤ at_ := by rcases hw.at_ with h1 | h1; omega; exact h1
    have hend : pl ff ff.length = 8 + (recsB ff).length := by unfold pl; rw [List.take_length]
    have hk : k < ff.length := by
      rcases Nat.lt_or_ge k ff.length with h | h
      · exact h
      · have : k = ff.length := by have := hw.le; omega
        rw [this, hend] at hp; omega
    have hp1 : at_ < pl ff (k + 1) := by
      rcases hw.end_ with h | h
      · omega
      · exact h
    obtain ⟨hsp, hpl⟩ := file_split ff k hk
    have hmem : ff.getD k [] ∈ ff := by rw [List.getD_eq_getElem?_getD, List.getElem?_eq_getElem hk]; exact List.getElem_mem hk
    have hrk := hok _ hmem
    have hpk : pl ff (k + 1) = pl ff k + (recB (ff.getD k [])).length := by
      unfold pl; rw [take_more' ff k hk, recsB_app, List.length_append]; simp [recsB]; omega
    obtain ⟨r, hr⟩ : ∃ r, ff.getD k [] = r := ⟨_, rfl⟩
    obtain ⟨T, hT⟩ : ∃ T, recsB (ff.drop (k + 1)) = T := ⟨_, rfl⟩
    rw [hr] at hpk hrk hmem
    rw [hr, hT] at hsp
    have ho : at_ - pl ff k < (recB r).length := by omega
    have hset : (headB ++ recsB ff).set at_ z = (headB ++ recsB (ff.take k)) ++ ((recB r).set (at_ - pl ff k) z ++ T) := by
      rw [hsp, List.set_append_right _ _ (by rw [hpl]; exact hp), hpl, List.set_append_left _ _ ho]
    have hd8 : ((headB ++ recsB ff).set at_ z).drop 8 = recsB (ff.take k) ++ ((recB r).set (at_ - pl ff k) z ++ T) := by
      rw [hset, List.append_assoc]; exact List.drop_left' rfl
    have hdp : ((headB ++ recsB ff).set at_ z).drop (pl ff k) = (recB r).set (at_ - pl ff k) z ++ T := by
      rw [hset]; exact List.drop_left' hpl
    have ht8 : ((headB ++ recsB ff).set at_ z).take 8 = headB := by
      rw [hset, List.append_assoc]; exact List.take_left' rfl
    have hgd : (headB ++ recsB ff).getD at_ 0 = (recB r).getD (at_ - pl ff k) 0 := by
      rw [hsp]
      simp only [List.getD_eq_getElem?_getD]
      rw [List.getElem?_append_right (by rw [hpl]; exact hp), hpl, List.getElem?_append_left ho]
    rw [hgd] at hne
    obtain ⟨X, hX⟩ : ∃ X, (recB r).set (at_ - pl ff k) z ++ T = X := ⟨_, rfl⟩
    have hXl : X.length ≤ (recsB ff).length := by
      have h1 := congrArg List.length hd8
      rw [List.length_drop, hN, hX, List.length_append] at h1
      omega
    have hb256 : ∀ x ∈ bodyB r, x < 256 := fun x hx => h256 x ((recs_mem hmem).2 x hx)
    have hX256 : ∀ x ∈ X, x < 256 := fun x hx => by
      rw [← hX] at hx
      rcases List.mem_append.1 hx with h | h
      · rcases List.mem_or_eq_of_mem_set h with h | h
        · refine h256 x ?_
          have : x ∈ recsB ff := by
            have h2 : headB ++ recsB ff = headB ++ (recsB (ff.take k) ++ (recB r ++ T)) := by rw [hsp, List.append_assoc]
            have h3 := List.append_cancel_left h2
            rw [h3]; simp [h]
          exact this
        · rw [h]; exact hz
      · have h2 : headB ++ recsB ff = headB ++ (recsB (ff.take k) ++ (recB r ++ T)) := by rw [hsp, List.append_assoc]
        have h3 := List.append_cancel_left h2
        exact h256 x (by rw [h3]; simp [h])
    have hmany := recs_many ff
    have htk0 : tkRecs (((headB ++ recsB ff).set at_ z).length + 1) (((headB ++ recsB ff).set at_ z).drop 8) [] = tkRecs (9 + (recsB ff).length - k) X (ff.take k) := by
      have h1 := tkRecs_front (ff.take k) [] (9 + (recsB ff).length - k) X (fun x hx => hok x (List.mem_of_mem_take hx))
      rw [List.length_take, show min k ff.length = k from by omega, List.nil_append, show 9 + (recsB ff).length - k + k = 8 + (recsB ff).length + 1 from by omega] at h1
      rw [hd8, hX, hN]
      exact h1
    obtain ⟨f, hf⟩ : ∃ f, 9 + (recsB ff).length - k = f + 1 := ⟨8 + (recsB ff).length - k, by omega⟩
    have ho4 : at_ - pl ff k < 4 := by
      rcases Nat.lt_or_ge (at_ - pl ff k) 4 with h | h
      · exact h
      · have hbad := rec_set r T (at_ - pl ff k) z hrk hb256 ho hz hne h
        rw [hX] at hbad
        refine hnb _ ht8 ?_
        rw [htk0, hf]
        exact tkRecs_bad' hbad
    refine ⟨k, hk, hp, by omega, fun rr m h => ?_⟩
    rw [hdp, hX]
    rw [htk0, hf] at h
    rcases recHead_cases X with e | e | ⟨h1, h2, h3, h4, e⟩
    · rw [tkRecs_end e] at h
      simp only [Option.some.injEq, Prod.mk.injEq] at h
      exact .inl h.1.symm
    · rw [tkRecs_bad' e] at h
      simp at h
    · right
      refine ⟨?_, h1, h2, h3, h4⟩
      cases hrw : tkRows (((X.drop 8).take (num4 X)).length + 1) ((X.drop 8).take (num4 X)) [] with
      | none => rw [tkRecs_no e hrw] at h; simp at h
      | some rows =>
        rw [tkRecs_rec e hrw] at h
        obtain ⟨more, rest, e1, _⟩ := tkRecs_inv _ _ _ _ _ h (fun n hn => hX256 n (List.mem_of_mem_drop hn))
        rw [e1]
        simp only [List.length_append, List.length_take, List.length_singleton]
        omega

end Go.Proofs.YtpjinakhgfpafaaDoor

/- A log and its file while the law goes on. -/
import Derived.Test.YtgmahgfelbkoeaaDoorJ4E
namespace Go.Proofs.YtgmahgfelbkoeaaDoor
open Go.RowKit
set_option linter.unusedVariables false
set_option linter.unusedSimpArgs false

/-- A block of the law's own. -/
def Gd (B : Nat) (w : World) (F : Nat → Prop) (l k : Nat) : Prop := B ≤ k ∧ k < w.heap.size ∧ ¬ F k ∧ k ≠ l

theorem gd_fx {B : Nat} {w w' : World} {F F' : Nat → Prop} {l : Nat} (h : Fx l w F w' F') : ∀ k, Gd B w F l k → Gd B w' F' l k ∧ w'.heap[k]? = w.heap[k]? := fun k ⟨h1, h2, h3, h4⟩ =>
  ⟨⟨h1, Nat.lt_of_lt_of_le h2 h.size, (h.block k h2 h3).1, h4⟩, (h.block k h2 h3).2 h4⟩
theorem gd_fr {B : Nat} {w w' : World} {F F' : Nat → Prop} {l : Nat} (h : Fr w F w' F') : ∀ k, Gd B w F l k → Gd B w' F' l k ∧ w'.heap[k]? = w.heap[k]? := fun k hk => gd_fx h.fx k hk
theorem gd_below {B : Nat} {w w' : World} {F : Nat → Prop} {l : Nat} (h : Below w.heap.size w w') : ∀ k, Gd B w F l k → Gd B w' F l k ∧ w'.heap[k]? = w.heap[k]? := gd_fr (Fr.of_below h)

theorem RecsAt.g {w : World} {lo hi B : Nat} {v : Value} {rr : List (List (List Nat))} (h : RecsAt w lo hi v rr) (hB : B ≤ lo) {G : Nat → Prop} (hG : ∀ k, lo ≤ k → k < hi → G k) : ∃ vals, RecG G B w v vals rr := by
  obtain ⟨vals, h1, h2, h3, h4⟩ := h
  exact ⟨vals, ownsRow_low h1 hB, fun k e => hG k (h1.lt k e).1 (h2 k e), h3, fun i u hu => (h4 i u hu).g hB hG⟩

/-- The file j holds just these records, all sure, and the log says so. -/
structure LogSt (W wr : World) (d l : Nat) (p : PS) (F : Nat → Prop) (ff : List (List (List Nat))) (A : Nat) : Prop where
  di : Di W.heap.size wr d p F
  con : p.con = [(nmJ, headB ++ recsB ff, A)]
  alen : (headB ++ recsB ff).length = A
  room : p.room = 268435456
  off : p.off = false
  ain : p.ain = 0
  lg : Lg wr l d nmJ A ff.length
  nl : ¬ F l
  lge : W.heap.size ≤ l
  bel : Below W.heap.size W wr
  okr : ∀ r ∈ ff, Okr r
  few : ff.length ≤ 1000

theorem LogSt.below {W wr w' : World} {d l : Nat} {p : PS} {F : Nat → Prop} {ff : List (List (List Nat))} {A : Nat} (h : LogSt W wr d l p F ff A) (hb : Below wr.heap.size wr w') : LogSt W w' d l p F ff A :=
  { h with di := h.di.below hb, lg := h.lg.below hb, bel := h.bel.trans (hb.mono h.bel.size) }
theorem LogSt.fr {W wr w' : World} {d l : Nat} {p : PS} {F : Nat → Prop} {ff : List (List (List Nat))} {A : Nat} (h : LogSt W wr d l p F ff A) (hd : Di W.heap.size w' d p F) (hf : Fr wr F w' F) : LogSt W w' d l p F ff A :=
  { h with di := hd, lg := h.lg.fr hf h.nl, bel := bel_fr h.bel (Nat.le_refl _) hf h.di.ge }

section
variable {W wr : World} {d l : Nat} {p : PS} {F : Nat → Prop} {ff : List (List (List Nat))} {A : Nat}

theorem log_append (h : LogSt W wr d l p F ff A) (hT : TabC W) (pr : Option Addr) (m cap : Nat) (rs : List (List Nat)) (hr : RowA wr (.slice pr m cap) rs) (hb : ∀ r ∈ rs, ∀ x ∈ r, x < 256) (hok : Okr rs) (hA : A + (recB rs).length ≤ 268435456) (hw : p.wr ≤ 10000) (hf : ff.length < 1000) :
    Calls Tryd.prog 11 #[.pointer (some ⟨l, 0, none⟩), .slice pr m cap] wr fun e w' => e = .returned (.int .i64 0) ∧ ∃ p' F', LogSt W w' d l p' F' (ff ++ [rs]) (A + (recB rs).length) ∧ p'.wr = p.wr + 2 ∧ Fx l wr F w' F' := by
  obtain ⟨hm, hp⟩ := hr.parts
  subst hm
  obtain ⟨e1, e2⟩ := recP_rs rs
  have ht : Con.tot p.con = A := by rw [h.con]; simp only [Con.tot]; rw [h.alen]; omega
  refine (lappend_ok wr h.di h.lg h.nl h.off h.ain (by omega) okJ ⟨_, by rw [h.con]; exact List.mem_singleton.2 rfl, rfl⟩ pr rs.length cap _ hp (fun i hi n hn => ?_) hok.1 (by rw [e2]; exact hok.2) (by rw [e1, ht, h.room]; exact hA) (by omega) (by omega) (hT.below h.bel)).mono ?_
  · have hm : rs.getD i [] ∈ rs := by rw [List.getD_eq_getElem?_getD, List.getElem?_eq_getElem hi]; exact List.getElem_mem hi
    exact hb _ hm n hn
  · rintro e w' ⟨rfl, F', k1, k2, k3, k4⟩
    rw [e1] at k1 k2
    have el : headB ++ recsB (ff ++ [rs]) = (headB ++ recsB ff) ++ recB rs := by rw [recsB_app]; simp [recsB]
    have hl : (headB ++ recsB (ff ++ [rs])).length = A + (recB rs).length := by rw [el, List.length_append, h.alen]
    refine ⟨rfl, _, F', ⟨k1, ?_, ?_, h.room, h.off, h.ain, by rw [List.length_append]; exact k2, k3, h.lge, bel_fx h.bel (Nat.le_refl _) k4 h.di.ge h.lge, fun r hr => ?_, by simp; omega⟩, rfl, k4⟩
    · dsimp only
      rw [h.con, con_lay1, ← el, hl]
    · exact hl
    · rcases List.mem_append.1 hr with hr | hr
      · exact h.okr r hr
      · rw [List.mem_singleton.1 hr]; exact hok

theorem log_clear (h : LogSt W wr d l p F ff A) (hw : p.wr ≤ 10000) :
    Calls Tryd.prog 13 #[.pointer (some ⟨l, 0, none⟩)] wr fun e w' => e = .returned (.int .i64 0) ∧ ∃ p' F', LogSt W w' d l p' F' [] 8 ∧ p'.wr = p.wr + 1 ∧ Fx l wr F w' F' := by
  have h8 : 8 ≤ (headB ++ recsB ff).length := by rw [List.length_append]; show 8 ≤ 8 + _; omega
  refine (lclear_ok wr h.di h.lg h.nl h.off h.ain (by omega) okJ (headB ++ recsB ff) A (by rw [h.con]; exact List.mem_singleton.2 rfl) h8).mono ?_
  rintro e w' ⟨rfl, F', k1, k2, k3, k4⟩
  refine ⟨rfl, _, F', ⟨k1, ?_, rfl, h.room, h.off, h.ain, k2, k3, h.lge, bel_fx h.bel (Nat.le_refl _) k4 h.di.ge h.lge, fun r hr => by simp at hr, by simp⟩, rfl, k4⟩
  dsimp only
  rw [h.con, con_cut1]
  have ha : min A 8 = 8 := by rw [← h.alen]; omega
  have ht : (headB ++ recsB ff).take 8 = headB := List.take_left' rfl
  simp only [ha, ht, recsB, List.append_nil]

theorem log_open (h : LogSt W wr d l p F ff A) (hT : TabC W) (hA : A ≤ 268435456) :
    Calls Tryd.prog 7 #[.pointer (some ⟨d, 0, none⟩), .string nmJ] wr fun e w' => ∃ l2 v, e = .returned (.tuple #[.pointer (some ⟨l2, 0, none⟩), v, .int .i64 0]) ∧ LogSt W w' d l p F ff A ∧ Lg w' l2 d nmJ A ff.length ∧ (∃ vals, RecG (Gd W.heap.size w' F l) W.heap.size w' v vals ff) ∧ Fr wr F w' F ∧ ¬ F l2 := by
  have h8 : 8 ≤ (headB ++ recsB ff).length := by rw [List.length_append]; show 8 ≤ 8 + _; omega
  have hgl : 0 < W.heap.size := World.block_lt_of_cell? _ _ (hT 0 (by decide))
  refine (open_full wr h.di nmJ h.off okJ (headB ++ recsB ff) A (by rw [h.con]; exact List.mem_singleton.2 rfl) h8 (by rw [h.alen]; exact hA) (List.take_left' rfl) ff (tk_file ff h.okr) (hT.below h.bel) (fun e => by have := h.di.ge _ e; omega)).mono ?_
  rintro e w' ⟨l2, v, rfl, k1, k2, k3, k4, k5⟩
  rw [h.alen] at k2
  exact ⟨l2, v, rfl, h.fr k1 k4, k2, k5.g h.bel.size fun k h1 h2 => ⟨Nat.le_trans h.bel.size h1, h2, fun e => by have := h.di.lt k e; omega, fun e => by have := heap_lt h.lg; omega⟩, k4, fun e => by have := h.di.lt l2 e; omega⟩

theorem log_sure (h : LogSt W wr d l p F ff A) : Calls Tryd.prog 17 #[.pointer (some ⟨d, 0, none⟩), .string nmJ] wr fun e w' => e = .returned (.tuple #[.int .i64 (A : Int), .int .i64 0]) ∧ LogSt W w' d l p F ff A ∧ Fr wr F w' F := by
  refine (di_sure wr h.di h.off nmJ okJ (headB ++ recsB ff) A (by rw [h.con]; exact List.mem_singleton.2 rfl)).mono ?_
  rintro e w' ⟨rfl, k1, k2⟩
  exact ⟨rfl, h.fr k1 k2, k2⟩


/-- A new disk and a new log. -/
theorem log_new (W w1 : World) (d : Nat) (F : Nat → Prop) (h : Di W.heap.size w1 d { con := [], room := 268435456, off := false, ain := 0, keep := 0, lose := 0, wr := 0 } F) (hb : Below W.heap.size W w1) :
    Calls Tryd.prog 7 #[.pointer (some ⟨d, 0, none⟩), .string nmJ] w1 fun e w' => ∃ l p F', e = .returned (.tuple #[.pointer (some ⟨l, 0, none⟩), .slice none 0 0, .int .i64 0]) ∧ LogSt W w' d l p F' [] 8 ∧ p.wr = 2 := by
  refine (open_new w1 h nmJ rfl rfl (by decide) okJ ⟨by simp, by decide⟩ (by decide)).mono ?_
  rintro e w' ⟨l, F', rfl, k1, k2, k3, k4, k5⟩
  exact ⟨l, _, F', rfl, ⟨k1, con1, rfl, rfl, rfl, rfl, k2, k3, Nat.le_trans hb.size k4, bel_fr hb (Nat.le_refl _) k5 h.ge, fun r hr => by simp at hr, by simp⟩, rfl⟩
end

end Go.Proofs.YtgmahgfelbkoeaaDoor

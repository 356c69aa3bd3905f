/- Records of one's own, in blocks of which something is known. -/
import Derived.Test.YtgmahgfelbkoeaaDoorJ4D
import Derived.Test.YtgmahgfelbkoeaaDoorJ4A
import Derived.Test.YtgmahgfelbkoeaaDoorJ4M
namespace Go.Proofs.YtgmahgfelbkoeaaDoor
open Go.RowKit
set_option linter.unusedVariables false
set_option linter.unusedSimpArgs false

/-- Rows, records of one's own, all of whose blocks are G. -/
def RowG (G : Nat → Prop) (B : Nat) (w : World) (v : Value) (rs : List (List Nat)) : Prop := ∃ vals, w.ownsRow B 38 1 v rs.length vals ∧ (∀ k, v.ownBlock = some k → G k) ∧ vals.length = rs.length ∧ ∀ i u, vals[i]? = some u → IsBy w u (rs.getD i []) ∧ ∀ k, u.ownBlock = some k → G k ∧ ∃ cs, w.heap[k]? = some (.cells cs 5 (0, 0))
structure RecG (G : Nat → Prop) (B : Nat) (w : World) (v : Value) (vals : List Value) (rr : List (List (List Nat))) : Prop where
  own : w.ownsRow B 35 1 v rr.length vals
  ob : ∀ k, v.ownBlock = some k → G k
  len : vals.length = rr.length
  row : ∀ i u, vals[i]? = some u → RowG G B w u (rr.getD i [])

theorem RowG.keep {G G' : Nat → Prop} {B : Nat} {w w' : World} {v : Value} {rs : List (List Nat)} (h : RowG G B w v rs) (hk : ∀ k cs t, G k → w.heap[k]? = some (.cells cs t (0, 0)) → t = 5 ∨ t = 38 → G' k ∧ w'.heap[k]? = w.heap[k]?) : RowG G' B w' v rs := by
  obtain ⟨vals, h1, h2, h3, h4⟩ := h
  have hb : ∀ k, v.ownBlock = some k → G' k ∧ w'.heap[k]? = w.heap[k]? := fun k e => by
    rcases h1.2 with ⟨e1, _⟩ | ⟨g', cap, cur, e1, _, e3, _⟩
    · rw [e1] at e; simp [Value.ownBlock] at e
    · have : g' = k := by rw [e1] at e; simpa [Value.ownBlock] using e
      subst this
      exact hk _ cur _ (h2 _ e) e3 (.inr rfl)
  refine ⟨vals, ownsRow_keep h1 fun g hg => (hb g hg).2, fun k e => (hb k e).1, h3, fun i u hu => ?_⟩
  obtain ⟨e1, e2⟩ := h4 i u hu
  have e3 : ∀ k, u.ownBlock = some k → G' k ∧ w'.heap[k]? = w.heap[k]? := fun k e => by
    obtain ⟨a1, cs, a2⟩ := e2 k e
    exact hk k cs _ a1 a2 (.inl rfl)
  exact ⟨isBy_keep e1 fun k e => (e3 k e).2, fun k e => ⟨(e3 k e).1, by obtain ⟨_, cs, a2⟩ := e2 k e; exact ⟨cs, (e3 k e).2.trans a2⟩⟩⟩

theorem RecG.keep {G G' : Nat → Prop} {B : Nat} {w w' : World} {v : Value} {vals : List Value} {rr : List (List (List Nat))} (h : RecG G B w v vals rr) (hk : ∀ k, G k → G' k ∧ w'.heap[k]? = w.heap[k]?) : RecG G' B w' v vals rr :=
  ⟨ownsRow_keep h.own fun g hg => (hk g (h.ob g hg)).2, fun k e => (hk k (h.ob k e)).1, h.len, fun i u hu => (h.row i u hu).keep fun k _ _ hg _ _ => hk k hg⟩

theorem RecG.nil (G : Nat → Prop) (B : Nat) (w : World) : RecG G B w (.slice none 0 0) [] [] := ⟨World.ownsRow_nil _ _ _ _, fun k e => by simp [Value.ownBlock] at e, rfl, fun i u hu => by simp at hu⟩

theorem RowG.a {G : Nat → Prop} {B : Nat} {w : World} {v : Value} {rs : List (List Nat)} (h : RowG G B w v rs) : RowA w v rs := by
  obtain ⟨vals, h1, h2, h3, h4⟩ := h
  exact rowA_of h1 h3 fun i u hu => (h4 i u hu).1
theorem RecG.a {G : Nat → Prop} {B : Nat} {w : World} {v : Value} {vals : List Value} {rr : List (List (List Nat))} (h : RecG G B w v vals rr) : RecA w v rr := recA_of h.own h.len fun i u hu => (h.row i u hu).a

theorem RowsAt.g {w : World} {lo hi B : Nat} {v : Value} {rs : List (List Nat)} (h : RowsAt w lo hi v rs) (hB : B ≤ lo) {G : Nat → Prop} (hG : ∀ k, lo ≤ k → k < hi → G k) : RowG G B w v rs := by
  obtain ⟨vals, h1, h2, h3, h4⟩ := h
  exact ⟨vals, ownsRow_low h1 hB, fun k e => hG k (h1.lt k e).1 (h2 k e), h3, fun i u hu => ⟨(h4 i u hu).1, fun k e => ⟨hG k ((h4 i u hu).2 k e).1.1 ((h4 i u hu).2 k e).1.2, ((h4 i u hu).2 k e).2⟩⟩⟩

/-- One more record. -/
theorem RecG.more {G G' : Nat → Prop} {B : Nat} {w w4 : World} {v v6 u : Value} {vals : List Value} {rr : List (List (List Nat))} {rs : List (List Nat)} {X : Obj} (h : RecG G B w v vals rr) (hr : RowG G B w u rs) (ho4 : w4.ownsRow B 35 1 v6 (rr.length + 1) (vals ++ [u])) (hg4 : (w.alloc X).grownBy w4 v.ownBlock) (hlt : ∀ k, G k → k < w.heap.size) (hGG : ∀ k, G k → G' k) (h6 : ∀ k, v6.ownBlock = some k → G' k) : RecG G' B w4 v6 (vals ++ [u]) (rr ++ [rs]) := by
  have hty : ∀ k cs t, G k → w.heap[k]? = some (.cells cs t (0, 0)) → t = 5 ∨ t = 38 → G' k ∧ w4.heap[k]? = w.heap[k]? := fun k cs t hk hc ht => ⟨hGG k hk, by
    have hkl := hlt k hk
    refine (hg4.block k (by simp; omega) fun e => ?_).trans (Below.heap_alloc _ _ _ hkl)
    rcases h.own.2 with ⟨e1, _⟩ | ⟨g', cap, cur, e1, _, e3, _⟩
    · rw [e1] at e; simp [Value.ownBlock] at e
    · rw [e1] at e; simp [Value.ownBlock] at e; subst e; rw [hc] at e3; rcases ht with rfl | rfl <;> simp at e3⟩
  refine ⟨by rw [List.length_append]; exact ho4, h6, by simp [h.len], fun i x hx => ?_⟩
  rcases Nat.lt_or_ge i vals.length with hi' | hi'
  · rw [List.getElem?_append_left hi'] at hx
    rw [show (rr ++ [rs]).getD i [] = rr.getD i [] from by simp [List.getD, List.getElem?_append_left (by rw [← h.len]; exact hi')]]
    exact (h.row i x hx).keep hty
  · rw [List.getElem?_append_right hi'] at hx
    have hi0 : i - vals.length = 0 := by
      rcases Nat.eq_zero_or_pos (i - vals.length) with h0 | h0
      · exact h0
      · rw [List.getElem?_eq_none (by simp; omega)] at hx; simp at hx
    rw [hi0] at hx
    simp at hx
    subst hx
    rw [show (rr ++ [rs]).getD i [] = rs from by
      have : i = rr.length := by rw [← h.len]; omega
      subst this
      simp [List.getD]]
    exact hr.keep hty

theorem con_lay1 (bs cs : List Nat) (su : Nat) : Con.lay [(nmJ, bs, su)] nmJ cs = [(nmJ, bs ++ cs, (bs ++ cs).length)] := by
  simp [Con.lay, Con.app, Con.upd]
theorem con_cut1 (bs : List Nat) (su : Nat) (g : List Nat × Nat → List Nat × Nat) : Con.upd [(nmJ, bs, su)] nmJ g = [(nmJ, g (bs, su))] := by
  simp [Con.upd]
theorem map_getD (rs : List (List Nat)) : (List.range rs.length).map (fun i => rs.getD i []) = rs := by
  apply List.ext_getElem
  · simp
  · intro i h1 h2; simp [List.getD, h2]
theorem recP_rs (rs : List (List Nat)) : recP (fun i => rs.getD i []) rs.length = recB rs ∧ bodyP (fun i => rs.getD i []) rs.length = bodyB rs := by
  rw [recP_B, bodyP_B, map_getD]; exact ⟨rfl, rfl⟩

/-- How long a record's body is, against what the law counts. -/
theorem body_sumL (q : Nat → List Nat) (m : Nat) : (bodyP q m).length + 4 * m = sumL q m := by
  induction m with
  | zero => rfl
  | succ m ih => simp only [bodyP, sumL, List.length_append, four_len]; omega

end Go.Proofs.YtgmahgfelbkoeaaDoor

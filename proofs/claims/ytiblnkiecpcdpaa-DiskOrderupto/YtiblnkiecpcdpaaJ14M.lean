/- The law of orders: turned in place; how many bytes one of the files has. -/
import Derived.Test.YtiblnkiecpcdpaaJ14L
namespace Go.Proofs.Ytiblnkiecpcdpaa
open Go.RowKit
set_option linter.unusedVariables false
set_option linter.unusedSimpArgs false

theorem totB_mem {fs : List (ByteArray × List Nat)} : ∀ x ∈ fs, x.2.length ≤ totB fs := by
  induction fs with
  | nil => intro x hx; simp at hx
  | cons y l ih =>
    intro x hx
    rw [totB]
    rcases List.mem_cons.1 hx with rfl | hx
    · omega
    · have := ih x hx; omega

theorem exch_get {l : List Pr} {k : Nat} {x : Pr} (hk : k < l.length) (h : l[k]? = some x) : l[k] = x := by
  rw [List.getElem?_eq_getElem hk] at h; exact Option.some.inj h

/-- While the files are turned in place. -/
structure RvI (w1 wr : World) (g n : Nat) (qs : List Pr) : Prop where
  len : qs.length = n
  row : ∃ cur : Array Value, wr.heap[g]? = some (.cells cur 45 (0, 0)) ∧ 2 * n ≤ cur.size ∧ ∀ j (h : j < qs.length), cur[j * 2]? = some (.string qs[j].1.1) ∧ cur[j * 2 + 1]? = some qs[j].2
  bel : Below w1.heap.size w1 wr
  ge : w1.heap.size ≤ g

theorem RvI.of {w1 wr : World} {v : Value} {n : Nat} {qs : List Pr} (h : OrM w1 wr v n qs) (hn : 0 < n) : ∃ g c, v = .slice (some ⟨g, 0, none⟩) n c ∧ RvI w1 wr g n qs := by
  rcases h.own.2 with ⟨e1, e2⟩ | ⟨g, cap, cur, e1, q1, q2, q3, q4, q5, q6⟩
  · omega
  · refine ⟨g, cap, e1, h.len, ⟨cur, q2, by omega, fun j hj => ?_⟩, h.bel, q1⟩
    obtain ⟨k1, k2⟩ := fcells_at (qs.map (·.1)) (qs.map (·.2)) j (by simp) (by simpa using hj)
    have hj2 := hj
    rw [h.len] at hj2
    rw [← q6, List.getElem?_take, if_pos (by omega)] at k1 k2
    have e3 : (qs.map (·.1)).getD j (.empty, []) = qs[j].1 := by simp [List.getD, List.getElem?_eq_getElem hj]
    have e4 : (qs.map (·.2)).getD j (.slice none 0 0) = qs[j].2 := by simp [List.getD, List.getElem?_eq_getElem hj]
    rw [e3] at k1
    rw [e4] at k2
    exact ⟨by simpa using k1, by simpa using k2⟩

theorem RvI.cells {w1 wr : World} {g n : Nat} {qs : List Pr} (h : RvI w1 wr g n qs) (j : Nat) (hj : j < qs.length) : wr.cell? ⟨g, j * 2, none⟩ = some (.string qs[j].1.1) ∧ wr.cell? ⟨g, j * 2 + 1, none⟩ = some qs[j].2 := by
  obtain ⟨cur, h1, _, h3⟩ := h.row
  rw [cell_of_row _ _ _ _ _ _ h1, cell_of_row _ _ _ _ _ _ h1]
  exact h3 j hj
theorem RvI.frozen {w1 wr : World} {g n : Nat} {qs : List Pr} (h : RvI w1 wr g n qs) (i : Nat) : wr.frozen? ⟨g, i, none⟩ = false := by
  obtain ⟨cur, h1, _⟩ := h.row
  exact frozen_of h1 i
theorem RvI.pin {w1 wr : World} {g n c : Nat} {qs : List Pr} (h : RvI w1 wr g n qs) : PIn wr (.slice (some ⟨g, 0, none⟩) n c) qs := by
  refine ⟨by simp, some ⟨g, 0, none⟩, c, by rw [List.length_map, h.len], fun i hi => ⟨g, 0, rfl, ?_⟩⟩
  have hi' : i < qs.length := by simpa using hi
  have e3 : (qs.map (·.1)).getD i (.empty, []) = qs[i].1 := by simp [List.getD, List.getElem?_eq_getElem hi']
  have e4 : (qs.map (·.2)).getD i (.slice none 0 0) = qs[i].2 := by simp [List.getD, List.getElem?_eq_getElem hi']
  rw [e3, e4, Nat.zero_add]
  exact h.cells i hi'
theorem RvI.below {w1 wr w2 : World} {g n : Nat} {qs : List Pr} (h : RvI w1 wr g n qs) (hb : Below wr.heap.size wr w2) : RvI w1 w2 g n qs := by
  obtain ⟨cur, h1, h2, h3⟩ := h.row
  exact ⟨h.len, ⟨cur, (hb.block g (heap_lt h1)).trans h1, h2, h3⟩, h.bel.trans (hb.mono h.bel.size), h.ge⟩

/-- Four stores: two files exchanged. -/
theorem RvI.swap {w1 wr : World} {g n : Nat} {qs : List Pr} (h : RvI w1 wr g n qs) {i j : Nat} (hi : i < qs.length) (hj : j < qs.length) (hij : i < j) {a b c d : Value} (ha : a = .string qs[j].1.1) (hb : b = qs[j].2) (hc : c = .string qs[i].1.1) (hd : d = qs[i].2) :
    RvI w1 ((((wr.setCell ⟨g, i * 2, none⟩ a).setCell ⟨g, i * 2 + 1, none⟩ b).setCell ⟨g, j * 2, none⟩ c).setCell ⟨g, j * 2 + 1, none⟩ d) g n (exch qs i j qs[i] qs[j]) := by
  obtain ⟨cur, h1, h2, h3⟩ := h.row
  have s1 := heap_set_at (i := i * 2) h1 a
  have s2 := heap_set_at (i := i * 2 + 1) s1 b
  have s3 := heap_set_at (i := j * 2) s2 c
  have s4 := heap_set_at (i := j * 2 + 1) s3 d
  have hl := h.len
  have hf : ∀ (w : World) (o : Nat) (v : Value), Below w1.heap.size w1 w → Below w1.heap.size w1 (w.setCell ⟨g, o, none⟩ v) := fun w o v hw => hw.trans ((Fr.setCell (w := w) (F := fun k => k = g) (a := ⟨g, o, none⟩) rfl v).below (fun k e => by rw [e]; exact h.ge) hw.size)
  refine ⟨by unfold exch; simp [hl], ⟨_, s4, by simp; omega, fun k hk => ?_⟩, hf _ _ _ (hf _ _ _ (hf _ _ _ (hf _ _ _ h.bel))), h.ge⟩
  have hk' : k < qs.length := by unfold exch at hk; simpa using hk
  simp only [Array.getElem?_setIfInBounds, Array.size_setIfInBounds]
  by_cases e1 : k = j
  · subst e1
    have hx : (exch qs i k qs[i] qs[k])[k] = qs[i] := exch_get hk (by unfold exch; rw [List.getElem?_set_self (by simpa using hk')])
    rw [hx]
    have t1 : ¬ k * 2 + 1 = k * 2 := by omega
    rw [if_neg t1, if_pos rfl, if_pos (by omega), if_pos rfl, if_pos (by omega)]
    exact ⟨by rw [hc], by rw [hd]⟩
  · by_cases e2 : k = i
    · subst e2
      have hx : (exch qs k j qs[k] qs[j])[k] = qs[j] := exch_get hk (by unfold exch; rw [List.getElem?_set_ne (by omega), List.getElem?_set_self hk'])
      rw [hx]
      rw [if_neg (by omega), if_neg (by omega), if_neg (by omega), if_pos rfl, if_pos (by omega), if_neg (by omega), if_neg (by omega), if_pos rfl, if_pos (by omega)]
      exact ⟨by rw [ha], by rw [hb]⟩
    · have hx : (exch qs i j qs[i] qs[j])[k] = qs[k] := exch_get hk (by unfold exch; rw [List.getElem?_set_ne (by omega), List.getElem?_set_ne (by omega), List.getElem?_eq_getElem hk'])
      rw [hx]
      rw [if_neg (by omega), if_neg (by omega), if_neg (by omega), if_neg (by omega), if_neg (by omega), if_neg (by omega), if_neg (by omega), if_neg (by omega)]
      exact h3 k hk'

/-- The files in another order. -/
structure OrR (w1 wr : World) (v : Value) (qs : List Pr) : Prop where
  inn : PIn wr v qs
  bel : Below w1.heap.size w1 wr

end Go.Proofs.Ytiblnkiecpcdpaa

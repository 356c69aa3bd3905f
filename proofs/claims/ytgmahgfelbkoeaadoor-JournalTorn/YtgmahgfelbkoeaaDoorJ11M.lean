/- Rows and records that stay while the law's own blocks stay. -/
import Derived.Test.YtgmahgfelbkoeaaDoorJ11J
namespace Go.Proofs.YtgmahgfelbkoeaaDoor
open Go.RowKit
set_option linter.unusedVariables false
set_option linter.unusedSimpArgs false

/-- These are these rows, these records, wherever the blocks of G are as they are here. -/
def RowK (G : Nat → Prop) (w : World) (v : Value) (rs : List (List Nat)) : Prop := ∀ w', (∀ k, G k → w'.heap[k]? = w.heap[k]?) → RowA w' v rs
def RecK (G : Nat → Prop) (w : World) (v : Value) (rr : List (List (List Nat))) : Prop := ∀ w', (∀ k, G k → w'.heap[k]? = w.heap[k]?) → RecA w' v rr

theorem RowK.keep {G G' : Nat → Prop} {w w' : World} {v : Value} {rs : List (List Nat)} (h : RowK G w v rs) (hk : ∀ k, G k → G' k ∧ w'.heap[k]? = w.heap[k]?) : RowK G' w' v rs := fun w2 h2 => h w2 fun k hg => (h2 k (hk k hg).1).trans (hk k hg).2
theorem RecK.keep {G G' : Nat → Prop} {w w' : World} {v : Value} {rr : List (List (List Nat))} (h : RecK G w v rr) (hk : ∀ k, G k → G' k ∧ w'.heap[k]? = w.heap[k]?) : RecK G' w' v rr := fun w2 h2 => h w2 fun k hg => (h2 k (hk k hg).1).trans (hk k hg).2
theorem RowK.a {G : Nat → Prop} {w : World} {v : Value} {rs : List (List Nat)} (h : RowK G w v rs) : RowA w v rs := h w fun _ _ => rfl
theorem RecK.a {G : Nat → Prop} {w : World} {v : Value} {rr : List (List (List Nat))} (h : RecK G w v rr) : RecA w v rr := h w fun _ _ => rfl
theorem RecK.nil (G : Nat → Prop) (w : World) : RecK G w (.slice none 0 0) [] := fun w' _ => ⟨none, 0, rfl, fun i hi => by simp at hi⟩

/-- Two rows: last, and none. -/
def lastR : List (List Nat) := [[108, 97, 115, 116], []]
def onR : List (List Nat) := [[111, 110]]
theorem last_ok : Okr lastR ∧ (∀ r ∈ lastR, ∀ x ∈ r, x < 256) ∧ (recB lastR).length = 20 := by
  refine ⟨by unfold Okr; decide, by decide, ?_⟩
  rw [recB_len]; decide
theorem on_ok : Okr onR ∧ (∀ r ∈ onR, ∀ x ∈ r, x < 256) ∧ (recB onR).length = 14 := by
  refine ⟨by unfold Okr; decide, by decide, ?_⟩
  rw [recB_len]; decide

theorem rowK_last {G : Nat → Prop} {w : World} {b c : Nat} {fr : Nat × Nat} (h1 : w.heap[b]? = some (.cells #[.int .u8 108, .int .u8 97, .int .u8 115, .int .u8 116] 5 fr)) (h2 : w.heap[c]? = some (.cells #[.slice (some ⟨b, 0, none⟩) 4 4, .slice none 0 0] 38 (0, 0))) (g1 : G b) (g2 : G c) : RowK G w (.slice (some ⟨c, 0, none⟩) 2 2) lastR := fun w' hk => by
  have k1 := (hk _ g1).trans h1
  have k2 := (hk _ g2).trans h2
  refine ⟨_, 2, rfl, fun i hi => ?_⟩
  match i, hi with
  | 0, _ => exact ⟨c, _, rfl, by rw [cell_of_row _ _ _ _ _ _ k2]; rfl, isBy_cells (bs := [108, 97, 115, 116]) k1⟩
  | 1, _ => exact ⟨c, .slice none 0 0, rfl, by rw [cell_of_row _ _ _ _ _ _ k2]; rfl, .inl (.inl ⟨rfl, rfl⟩)⟩

theorem rowK_on {G : Nat → Prop} {w : World} {b c : Nat} {fr : Nat × Nat} (h1 : w.heap[b]? = some (.cells #[.int .u8 111, .int .u8 110] 5 fr)) (h2 : w.heap[c]? = some (.cells #[.slice (some ⟨b, 0, none⟩) 2 2] 38 (0, 0))) (g1 : G b) (g2 : G c) : RowK G w (.slice (some ⟨c, 0, none⟩) 1 1) onR := fun w' hk => by
  have k1 := (hk _ g1).trans h1
  have k2 := (hk _ g2).trans h2
  refine ⟨_, 1, rfl, fun i hi => ?_⟩
  match i, hi with
  | 0, _ => exact ⟨c, _, rfl, by rw [cell_of_row _ _ _ _ _ _ k2]; rfl, isBy_cells (bs := [111, 110]) k1⟩

theorem getD_app {α : Type} (l : List α) (x d : α) (i : Nat) (hi : i < l.length) : (l ++ [x]).getD i d = l.getD i d := by simp [List.getD, List.getElem?_append_left hi]
theorem getD_app_last {α : Type} (l : List α) (x d : α) : (l ++ [x]).getD l.length d = x := by simp [List.getD]

/-- One more record, in a row of one's own. -/
theorem recK_more {G : Nat → Prop} {B B0 : Nat} {w : World} {v u : Value} {vals : List Value} {rr : List (List (List Nat))} {rs : List (List Nat)} (ho : w.ownsRow B 35 1 v (rr.length + 1) (vals ++ [u])) (hv : ∀ k, v.ownBlock = some k → G k) (hl : vals.length = rr.length) (hr : ∀ i x, vals[i]? = some x → RowG G B0 w x (rr.getD i [])) (hu : RowK G w u rs) : RecK G w v (rr ++ [rs]) := fun w' hk => by
  refine recA_of (lo := B) (vals := vals ++ [u]) (by rw [List.length_append]; exact ownsRow_keep ho fun g hg => hk g (hv g hg)) (by simp [hl]) fun i x hx => ?_
  rcases Nat.lt_or_ge i vals.length with hi | hi
  · rw [List.getElem?_append_left hi] at hx
    rw [getD_app _ _ _ _ (by omega)]
    exact ((hr i x hx).keep fun k _ _ hg _ _ => ⟨hg, hk k hg⟩).a
  · rw [List.getElem?_append_right hi] at hx
    have hi0 : i - vals.length = 0 := by
      rcases Nat.eq_zero_or_pos (i - vals.length) with h0 | h0
      · exact h0
      · rw [List.getElem?_eq_none (by simp; omega)] at hx; simp at hx
    rw [hi0] at hx
    simp at hx
    subst hx
    have : i = rr.length := by omega
    subst this
    rw [getD_app_last]
    exact hu w' hk

/-- A record appended to records of one's own. -/
theorem recA_more {G : Nat → Prop} {B : Nat} {w w4 : World} {v v6 u : Value} {vals : List Value} {rr : List (List (List Nat))} {rs : List (List Nat)} {X : Obj} (h : RecG G B w v vals rr) (hu : RowA w4 u rs) (ho4 : w4.ownsRow B 35 1 v6 (rr.length + 1) (vals ++ [u])) (hg4 : (w.alloc X).grownBy w4 v.ownBlock) (hlt : ∀ k, G k → k < w.heap.size) : RecA w4 v6 (rr ++ [rs]) := by
  have hty : ∀ k cs t, G k → w.heap[k]? = some (.cells cs t (0, 0)) → t = 5 ∨ t = 38 → G k ∧ w4.heap[k]? = w.heap[k]? := fun k cs t hk hc ht => ⟨hk, by
    have hkl := hlt k hk
    refine (hg4.block k (by simp; omega) fun e => ?_).trans (Below.heap_alloc _ _ _ hkl)
    rcases h.own.2 with ⟨e1, _⟩ | ⟨g', cap, cur, e1, _, e3, _⟩
    · rw [e1] at e; simp [Value.ownBlock] at e
    · rw [e1] at e; simp [Value.ownBlock] at e; subst e; rw [hc] at e3; rcases ht with rfl | rfl <;> simp at e3⟩
  refine recA_of (lo := B) (vals := vals ++ [u]) (by rw [List.length_append]; exact ho4) (by simp [h.len]) fun i x hx => ?_
  have hl := h.len
  rcases Nat.lt_or_ge i vals.length with hi | hi
  · rw [List.getElem?_append_left hi] at hx
    rw [getD_app _ _ _ _ (by omega)]
    exact ((h.row i x hx).keep hty).a
  · rw [List.getElem?_append_right hi] at hx
    have hi0 : i - vals.length = 0 := by
      rcases Nat.eq_zero_or_pos (i - vals.length) with h0 | h0
      · exact h0
      · rw [List.getElem?_eq_none (by simp; omega)] at hx; simp at hx
    rw [hi0] at hx
    simp at hx
    subst hx
    have : i = rr.length := by omega
    subst this
    rw [getD_app_last]
    exact hu

/-- An append to a row of one's own where its guard says that it is wanted. -/
theorem wpList_appendOn {P : Program} {ops : Array Oper} {rest : List Oper} {o : Oper} {a : Act} {w : World} {Q : Exit → Act → World → Prop} (s x : Operand) (t : TypeId)
    (ho : o.op = .call { callee := .builtin .append, args := #[s, x], argTypes := #[t, t] }) (hw : Region.wanted o (yielded ops a.tmps) = true)
    (base : Nat) (e : TypeId) (i : TypeInfo) (z : Value) (size bytes : Nat) (ht : P.underlying t = some (.slice e)) (hi : P.info? e = some i) (hz : i.zero = some z)
    (hsize : i.size = size) (hby : i.bytes = bytes) (hzs : z.cells.size = size) (hsz : 0 < size)
    (v : Value) (n : Nat) (xs : List Value) (hs : a.eval s = v) (hown : w.ownsRow base e size v n xs)
    (ad : Addr) (m c : Nat) (news : List Value) (hx : a.eval x = .slice (some ad) m c) (hl : news.length = m * size) (hnews : ∀ j u, news[j]? = some u → w.cell? (ad.add j) = some u) (h1 : ∀ u ∈ news, u.oneCell' = true)
    (h63 : n + m ≤ maxLen) (hbytes : (n + m) * bytes ≤ 140737488355328) (hbase : base ≤ w.heap.size)
    (h : ∀ v' w', w'.ownsRow base e size v' (n + m) (xs ++ news) → w.grownBy w' v.ownBlock → (v' = .slice none 0 0 ↔ v = .slice none 0 0 ∧ m = 0) → (v'.ownBlock = v.ownBlock ∨ v'.ownBlock = some w.heap.size) → wpList P ops Q rest (a.put o.dst v') w') :
    wpList P ops Q (o :: rest) a w := by
  refine wpList_step fun K hK => ?_
  rw [if_pos hw]
  obtain ⟨v', w', hr, h2, h3, h4, h5⟩ := run_append_own_at (P := P) w base t o.type e i z size bytes ht hi hz hsize hby hzs hsz v n xs hown ad m c news hl hnews h1 h63 hbytes hbase
  unfold Oper.wp execOp
  simp only [ho, resolve, invoke, builtin, Sem.run_bind, Sem.run_pure, Result.andThen_ok, List.map_toArray, List.map_cons, List.map_nil, hs, hx, hr]
  exact hK _ _ (h v' w' h2 h3 h4 h5)

theorem below_drewN' (w : World) (n : Nat) : Below w.heap.size w (w.drewN n) := ⟨rfl, rfl, rfl, Nat.le_refl _, fun _ _ => rfl⟩

theorem one_more (n a : Nat) (h : n + 1 = a) (hn : n < 2) : IntKind.i64.wrap (1 + (n : Int)) = (a : Int) ∧ wrap64 (1 + (n : Int)) = (a : Int) ∧ (a = 1 ∨ a = 2) := by
  refine ⟨by rw [IntKind.wrap_i64]; omega, by unfold wrap64; omega, by omega⟩

/-- Open of a log's own file: what is told lies in new blocks. -/
theorem log_openF {W wr : World} {d l : Nat} {p : PS} {F : Nat → Prop} {ff : List (List (List Nat))} {A : Nat} (h : LogSt W wr d l p F ff A) (hT : TabC W) (hA : A ≤ 268435456) :
    Calls Tryd.prog 7 #[.pointer (some ⟨d, 0, none⟩), .string nmJ] wr fun e w' => ∃ l2 v, e = .returned (.tuple #[.pointer (some ⟨l2, 0, none⟩), v, .int .i64 0]) ∧ LogSt W w' d l p F ff A ∧ (∃ vals, RecG (fun k => wr.heap.size ≤ k ∧ k < w'.heap.size) W.heap.size w' v vals ff) ∧ Fr wr F w' F := by
  have h8 : 8 ≤ (headB ++ recsB ff).length := by rw [List.length_append]; show 8 ≤ 8 + _; omega
  have hgl : 0 < W.heap.size := World.block_lt_of_cell? _ _ (hT 0 (by decide))
  refine (open_full wr h.di nmJ h.off okJ (headB ++ recsB ff) A (by rw [h.con]; exact List.mem_singleton.2 rfl) h8 (by rw [h.alen]; exact hA) (List.take_left' rfl) ff (tk_file ff h.okr) (hT.below h.bel) (fun e => by have := h.di.ge _ e; omega)).mono ?_
  rintro e w' ⟨l2, v, rfl, k1, k2, k3, k4, k5⟩
  exact ⟨l2, v, rfl, h.fr k1 k4, k5.g h.bel.size fun k h1 h2 => ⟨h1, h2⟩, k4⟩

end Go.Proofs.YtgmahgfelbkoeaaDoor

/- Slices of bytes cut; what begins with what; rows and records as they lie. -/
import Derived.Test.YtgmahgfelbkoeaaDoorJ2G
namespace Go.Proofs.YtgmahgfelbkoeaaDoor
open Go.RowKit
set_option linter.unusedVariables false
set_option linter.unusedSimpArgs false

/-- Bytes that may be cut: their slice's room and its beginning fit. -/
def Cy (w : World) (p : Option Addr) (n c : Nat) (bs : List Nat) : Prop := IsBy w (.slice p n c) bs ∧ n = bs.length ∧ n ≤ c ∧ (p = none → c = 0)

theorem Cy.low {w w' : World} {B : Nat} {p : Option Addr} {n c : Nat} {bs : List Nat} (h : Cy w p n c bs) (ho : ∀ k, (Value.slice p n c).ownBlock = some k → k < B) (hb : ∀ k, k < B → w'.heap[k]? = w.heap[k]?) : Cy w' p n c bs := by
  refine ⟨?_, h.2⟩
  rcases h.1 with (e | ⟨g, o, cap, h1, h2⟩) | e
  · exact .inl (.inl e)
  · exact .inl (.inr ⟨g, o, cap, h1, fun i hi => by rw [World.cell?_of_block (w := w) (w' := w') (a := ⟨g, o + i, none⟩) (hb g (ho g (by rw [h1]; rfl)))]; exact h2 i hi⟩)
  · exact .inr e

theorem Cy.below {w w' : World} {p : Option Addr} {n c : Nat} {bs : List Nat} (h : Cy w p n c bs) (hb : Below w.heap.size w w') : Cy w' p n c bs := ⟨isBy_below h.1 hb, h.2⟩

theorem OB.cy {B : Nat} {w0 wr : World} {bs : List Nat} {v : Value} (h : OB B w0 bs v wr) : ∃ p c, v = .slice p bs.length c ∧ Cy wr p bs.length c bs := by
  obtain ⟨pv, cv, hv⟩ := h.slice
  have hby := h.by_
  rw [hv] at hby
  refine ⟨pv, cv, hv, hby, rfl, ?_⟩
  rcases h.own.2 with ⟨e1, e2⟩ | ⟨g, cap, cur, e1, _, _, e5, _⟩
  · rw [hv] at e1; simp at e1; omega
  · rw [hv] at e1; simp at e1; obtain ⟨e1, e2⟩ := e1; subst e1; subst e2; exact ⟨e5, by simp⟩

theorem cy_slice {w : World} {p : Option Addr} {n c : Nat} {bs : List Nat} (h : Cy w p n c bs) (l hh : Nat) (h1 : l ≤ hh) (h2 : hh ≤ n) : ∃ p', Value.slice p' (hh - l) (c - l) = Value.slice (if c = l then p else p.map (·.add (l * 1))) (hh - l) (c - l) ∧ Cy w p' (hh - l) (c - l) ((bs.take hh).drop l) ∧ ∀ k, (Value.slice p' (hh - l) (c - l)).ownBlock = some k → (Value.slice p n c).ownBlock = some k := by
  obtain ⟨hb, hn, hc, hp⟩ := h
  refine ⟨_, rfl, ⟨?_, by simp; omega, by omega, fun e => ?_⟩, fun k hk => ?_⟩
  · by_cases e0 : hh - l = 0
    · rw [e0]
      have en : (bs.take hh).drop l = [] := by apply List.eq_nil_of_length_eq_zero; simp; omega
      rw [en]
      cases hq : (if c = l then p else p.map (·.add (l * 1))) with
      | none =>
        have : c - l = 0 := by
          split at hq
          · omega
          · cases p with
            | none => rw [hp rfl]; omega
            | some a => simp at hq
        rw [this]; exact .inl (.inl ⟨rfl, rfl⟩)
      | some a => exact .inr ⟨a, _, rfl, rfl⟩
    · rcases hb with (⟨e1, e2⟩ | ⟨g, o, cap, e1, e2⟩) | ⟨ad, cap, e1, e2⟩
      · simp at e1; omega
      · simp at e1
        obtain ⟨rfl, rfl, rfl⟩ := e1
        rw [if_neg (by omega)]
        refine .inl (.inr ⟨g, o + l, c - l, ?_, fun i hi => ?_⟩)
        · simp [Addr.add]; omega
        · have hl : ((bs.take hh).drop l).length = hh - l := by simp; omega
          rw [hl] at hi
          have := e2 (l + i) (by omega)
          rw [show o + l + i = o + (l + i) from by omega, this]
          simp [List.getD, List.getElem?_drop, List.getElem?_take]
          rw [if_pos (by omega)]
      · simp at e1; rw [e2] at hn; simp at hn; omega
  · split at e
    · have := hp e; omega
    · cases p with
      | none => rw [hp rfl]; omega
      | some a => simp at e
  · cases p with
    | none => split at hk <;> simp [Value.ownBlock] at hk
    | some a =>
      split at hk
      · exact hk
      · have e : (a.add l).block = a.block := by unfold Addr.add; split <;> rfl
        simpa [Value.ownBlock, e] using hk

section
variable {w : World} {p : Option Addr} {n c : Nat} {bs : List Nat}

set_option maxRecDepth 100000 in
theorem cy_from (h : Cy w p n c bs) (l : Nat) (hl : l ≤ n) (hn : n ≤ 1000000000) : ∃ p', (∀ w', (Instr.slice 38 (.slice p n c) (some (.int .i64 (l : Int))) none none).run Tryd.prog w' = .ok (.slice p' (n - l) (c - l)) w') ∧ Cy w p' (n - l) (c - l) (bs.drop l) ∧ ∀ k, (Value.slice p' (n - l) (c - l)).ownBlock = some k → (Value.slice p n c).ownBlock = some k := by
  obtain ⟨p', e, hc, ho⟩ := cy_slice h l n hl (Nat.le_refl _)
  have en : bs.take n = bs := List.take_of_length_le (by rw [h.2.1]; exact Nat.le_refl _)
  rw [en] at hc
  refine ⟨p', fun w' => ?_, hc, ho⟩
  rw [e, run_slice_l (P := Tryd.prog) (w := w') (t := 38) (a := p) (len := n) (cap := c) (ht := Tryd.underlying38) .i64 (l : Int) (by omega) (by omega)]
  simp [Result.andThen, sliced, Tryd.sizeOf5, Program.elem, Tryd.underlying38]

set_option maxRecDepth 100000 in
theorem cy_to (h : Cy w p n c bs) (hh : Nat) (hl : hh ≤ n) (hn : n ≤ 1000000000) : ∃ p', (∀ w', (Instr.slice 38 (.slice p n c) none (some (.int .i64 (hh : Int))) none).run Tryd.prog w' = .ok (.slice p' hh c) w') ∧ Cy w p' hh c (bs.take hh) ∧ ∀ k, (Value.slice p' hh c).ownBlock = some k → (Value.slice p n c).ownBlock = some k := by
  obtain ⟨p', e, hc, ho⟩ := cy_slice h 0 hh (Nat.zero_le _) hl
  refine ⟨p', fun w' => ?_, by simpa using hc, ho⟩
  have e' : Value.slice p' hh c = _ := e
  rw [e', run_slice_h (P := Tryd.prog) (w := w') (t := 38) (a := p) (len := n) (cap := c) (ht := Tryd.underlying38) .i64 (hh : Int) (by omega) (by have := h.2.2.1; omega)]
  simp [Result.andThen, sliced, Tryd.sizeOf5, Program.elem, Tryd.underlying38]

set_option maxRecDepth 100000 in
theorem cy_part (h : Cy w p n c bs) (l hh : Nat) (h1 : l ≤ hh) (hl : hh ≤ n) (hn : n ≤ 1000000000) : ∃ p', (∀ w', (Instr.slice 38 (.slice p n c) (some (.int .i64 (l : Int))) (some (.int .i64 (hh : Int))) none).run Tryd.prog w' = .ok (.slice p' (hh - l) (c - l)) w') ∧ Cy w p' (hh - l) (c - l) ((bs.take hh).drop l) ∧ ∀ k, (Value.slice p' (hh - l) (c - l)).ownBlock = some k → (Value.slice p n c).ownBlock = some k := by
  obtain ⟨p', e, hc, ho⟩ := cy_slice h l hh h1 hl
  refine ⟨p', fun w' => ?_, hc, ho⟩
  rw [e, run_slice_lh (P := Tryd.prog) (w := w') (t := 38) (a := p) (len := n) (cap := c) (ht := Tryd.underlying38) .i64 .i64 (l : Int) (hh : Int) (by omega) (by omega) (by have := h.2.2.1; omega)]
  simp [Result.andThen, sliced, Tryd.sizeOf5, Program.elem, Tryd.underlying38]
end

theorem strOf_inj {a b : List Nat} (ha : ∀ n ∈ a, n < 256) (hb : ∀ n ∈ b, n < 256) : (strOf a == strOf b) = decide (a = b) := by
  by_cases e : a = b
  · rw [decide_eq_true e]; exact (MapKept.bytes_beq _ _).2 (by rw [e])
  · have : strOf a ≠ strOf b := fun h => e (by rw [← bytesN_strOf a ha, ← bytesN_strOf b hb, h])
    rw [decide_eq_false e]
    cases hx : (strOf a == strOf b) with
    | false => rfl
    | true => exact absurd ((MapKept.bytes_beq _ _).1 hx) this

set_option maxRecDepth 100000 in
theorem bequal_any (va vb : Value) (a b : List Nat) (w : World) (ha : IsBy w va a) (hb : IsBy w vb b) (ha2 : ∀ n ∈ a, n < 256) (hb2 : ∀ n ∈ b, n < 256) :
    Calls Tryd.prog 71 #[va, vb] w fun e w' => e = .returned (.bool (decide (a = b))) ∧ w' = w := by
  have h1 := convert_by w va a ha
  have h2 := convert_by w vb b hb
  have HE : Hid (((strOf a).toList == (strOf b).toList) = decide (a = b)) := by
    show _ = _
    rw [ByteArray.toList_eq, ByteArray.toList_eq]
    by_cases e : a = b
    · subst e; simp
    · rw [decide_eq_false e, beq_eq_false_iff_ne]
      intro h
      apply e
      rw [← bytesN_strOf a ha2, ← bytesN_strOf b hb2]
      unfold bytesN
      rw [h]
  obtain ⟨pa, ca, rfl, _⟩ := by_slice ha
  obtain ⟨pb, cb, rfl, _⟩ := by_slice hb
  obtain ⟨sa, hsa⟩ : ∃ s, strOf a = s := ⟨_, rfl⟩
  obtain ⟨sb, hsb⟩ : ∃ s, strOf b = s := ⟨_, rfl⟩
  rw [hsa] at h1 HE
  rw [hsb] at h2 HE
  clear ha hb ha2 hb2 hsa hsb
  go_enter Tryd.func71, Tryd.ntmps71
  go_wp2_with (simp only [h1, h2])
  go_ret
  exact ⟨by rw [← HE.out]; rfl, rfl⟩

set_option maxRecDepth 100000 in
theorem bprefix_any (pa : Option Addr) (na ca : Nat) (vb : Value) (a b : List Nat) (w : World) (ha : Cy w pa na ca a) (hb : IsBy w vb b) (ha2 : ∀ n ∈ a, n < 256) (hb2 : ∀ n ∈ b, n < 256) (hl : a.length ≤ 1000000000) (hl2 : b.length ≤ 1000000000) :
    Calls Tryd.prog 53 #[.slice pa na ca, vb] w fun e w' => e = .returned (.bool (decide (a.take b.length = b))) ∧ w' = w := by
  obtain ⟨pb, cb, rfl, _⟩ := by_slice hb
  obtain ⟨nb, hnb⟩ : ∃ nb, b.length = nb := ⟨_, rfl⟩
  have hna := ha.2.1
  by_cases hlt : nb ≤ na
  · have hlt' : (nb : Int) ≤ (na : Int) := by omega
    obtain ⟨p', hs, hc, _⟩ := cy_to ha nb hlt (by omega)
    have HE := hide (bequal_any _ _ (a.take nb) b w hc.1 hb (fun n hn => ha2 n (List.mem_of_mem_take hn)) hb2)
    rw [hnb] at HE ⊢
    clear ha hb ha2 hb2 hl hl2 hc hnb hna
    go_enter Tryd.func53, Tryd.ntmps53
    go_wp2_with (first | simp only [hs] | (go_at_call 71; refine HE.out.mono ?_; rintro e w' ⟨rfl, hw⟩; obtain rfl := hw))
    go_ret
    exact ⟨rfl, rfl⟩
  · have hlt' : ¬ (nb : Int) ≤ (na : Int) := by omega
    have HD : Hid (decide (a.take b.length = b) = false) := decide_eq_false fun e => by have := congrArg List.length e; simp at this; omega
    rw [HD.out]
    rw [hnb]
    clear ha hb ha2 hb2 hl hl2 hnb hna
    go_enter Tryd.func53, Tryd.ntmps53
    go_wp2_with fail
    go_ret
    exact ⟨rfl, rfl⟩

/-- Rows of bytes whose slices are these, all in blocks from lo on below hi. -/
def RowV (w : World) (lo hi : Nat) (vals : List Value) (rs : List (List Nat)) : Prop := vals.length = rs.length ∧ ∀ i v, vals[i]? = some v → IsBy w v (rs.getD i []) ∧ ∀ k, v.ownBlock = some k → (lo ≤ k ∧ k < hi) ∧ ∃ cs, w.heap[k]? = some (.cells cs 5 (0, 0))
def RowsAt (w : World) (lo hi : Nat) (v : Value) (rs : List (List Nat)) : Prop := ∃ vals, w.ownsRow lo 38 1 v rs.length vals ∧ (∀ k, v.ownBlock = some k → k < hi) ∧ RowV w lo hi vals rs
def RecV (w : World) (lo hi : Nat) (vals : List Value) (rr : List (List (List Nat))) : Prop := vals.length = rr.length ∧ ∀ i v, vals[i]? = some v → RowsAt w lo hi v (rr.getD i [])
def RecsAt (w : World) (lo hi : Nat) (v : Value) (rr : List (List (List Nat))) : Prop := ∃ vals, w.ownsRow lo 35 1 v rr.length vals ∧ (∀ k, v.ownBlock = some k → k < hi) ∧ RecV w lo hi vals rr

theorem isBy_keep {w w' : World} {v : Value} {bs : List Nat} (h : IsBy w v bs) (hk : ∀ k, v.ownBlock = some k → w'.heap[k]? = w.heap[k]?) : IsBy w' v bs := by
  rcases h with (h | ⟨g, o, cap, h1, h2⟩) | h
  · exact .inl (.inl h)
  · exact .inl (.inr ⟨g, o, cap, h1, fun i hi => by rw [World.cell?_of_block (w := w) (w' := w') (a := ⟨g, o + i, none⟩) (hk g (by rw [h1]; rfl))]; exact h2 i hi⟩)
  · exact .inr h

theorem RowV.keep {w w' : World} {lo hi lo' hi' : Nat} {vals : List Value} {rs : List (List Nat)} (h : RowV w lo hi vals rs) (hk : ∀ k cs t, lo ≤ k → k < hi → w.heap[k]? = some (.cells cs t (0, 0)) → t = 5 ∨ t = 38 → w'.heap[k]? = w.heap[k]?) (h1 : lo' ≤ lo) (h2 : hi ≤ hi') : RowV w' lo' hi' vals rs :=
  ⟨h.1, fun i v hv => by
    obtain ⟨e1, e2⟩ := h.2 i v hv
    have e3 : ∀ k, v.ownBlock = some k → w'.heap[k]? = w.heap[k]? := fun k e => by
      obtain ⟨⟨a1, a2⟩, cs, a3⟩ := e2 k e
      exact hk k cs _ a1 a2 a3 (.inl rfl)
    exact ⟨isBy_keep e1 e3, fun k e => ⟨⟨Nat.le_trans h1 (e2 k e).1.1, Nat.lt_of_lt_of_le (e2 k e).1.2 h2⟩, by obtain ⟨_, cs, a3⟩ := e2 k e; exact ⟨cs, (e3 k e).trans a3⟩⟩⟩⟩

theorem RowV.keep8 {w w' : World} {lo hi hi' : Nat} {vals : List Value} {rs : List (List Nat)} (h : RowV w lo hi vals rs) (hk : ∀ k cs, lo ≤ k → k < hi → w.heap[k]? = some (.cells cs 5 (0, 0)) → w'.heap[k]? = w.heap[k]?) (h2 : hi ≤ hi') : RowV w' lo hi' vals rs :=
  ⟨h.1, fun i v hv => by
    obtain ⟨e1, e2⟩ := h.2 i v hv
    have e3 : ∀ k, v.ownBlock = some k → w'.heap[k]? = w.heap[k]? := fun k e => by
      obtain ⟨⟨a1, a2⟩, cs, a3⟩ := e2 k e
      exact hk k cs a1 a2 a3
    exact ⟨isBy_keep e1 e3, fun k e => ⟨⟨(e2 k e).1.1, Nat.lt_of_lt_of_le (e2 k e).1.2 h2⟩, by obtain ⟨_, cs, a3⟩ := e2 k e; exact ⟨cs, (e3 k e).trans a3⟩⟩⟩⟩

theorem RowV.more {w : World} {lo hi : Nat} {vals : List Value} {rs : List (List Nat)} (h : RowV w lo hi vals rs) {v : Value} {r : List Nat} (hv : IsBy w v r ∧ ∀ k, v.ownBlock = some k → (lo ≤ k ∧ k < hi) ∧ ∃ cs, w.heap[k]? = some (.cells cs 5 (0, 0))) : RowV w lo hi (vals ++ [v]) (rs ++ [r]) := by
  refine ⟨by simp [h.1], fun i u hu => ?_⟩
  rcases Nat.lt_or_ge i vals.length with hi' | hi'
  · rw [List.getElem?_append_left hi'] at hu
    rw [show (rs ++ [r]).getD i [] = rs.getD i [] from by simp [List.getD, List.getElem?_append_left (by rw [← h.1]; exact hi')]]
    exact h.2 i u hu
  · rw [List.getElem?_append_right hi'] at hu
    have hi0 : i - vals.length = 0 := by
      rcases Nat.eq_zero_or_pos (i - vals.length) with h0 | h0
      · exact h0
      · rw [List.getElem?_eq_none (by simp; omega)] at hu; simp at hu
    rw [hi0] at hu
    simp at hu
    subst hu
    rw [show (rs ++ [r]).getD i [] = r from by
      have : i = rs.length := by rw [← h.1]; omega
      subst this
      simp [List.getD]]
    exact hv

theorem own_kept {w w' : World} {lo hi : Nat} {t : TypeId} {v : Value} {n : Nat} {vals : List Value} (h : w.ownsRow lo t 1 v n vals) (hb : ∀ k, v.ownBlock = some k → k < hi) (hk : ∀ k cs, lo ≤ k → k < hi → w.heap[k]? = some (.cells cs t (0, 0)) → w'.heap[k]? = w.heap[k]?) : w'.ownsRow lo t 1 v n vals :=
  ownsRow_keep h fun g hg => by
    rcases h.2 with ⟨e1, _⟩ | ⟨g', cap, cur, e1, e2, e3, _⟩
    · rw [e1] at hg; simp [Value.ownBlock] at hg
    · have : g' = g := by rw [e1] at hg; simpa [Value.ownBlock] using hg
      subst this
      exact hk g' cur e2 (hb g' hg) e3

theorem RowsAt.keep {w w' : World} {lo hi lo' hi' : Nat} {v : Value} {rs : List (List Nat)} (h : RowsAt w lo hi v rs) (hk : ∀ k cs t, lo ≤ k → k < hi → w.heap[k]? = some (.cells cs t (0, 0)) → t = 5 ∨ t = 38 → w'.heap[k]? = w.heap[k]?) (h1 : lo' ≤ lo) (h2 : hi ≤ hi') : RowsAt w' lo' hi' v rs := by
  obtain ⟨vals, e1, e2, e3⟩ := h
  exact ⟨vals, ownsRow_low (own_kept e1 e2 fun k cs a1 a2 a3 => hk k cs _ a1 a2 a3 (.inr rfl)) h1, fun k hv => Nat.lt_of_lt_of_le (e2 k hv) h2, e3.keep hk h1 h2⟩

theorem RecV.keep {w w' : World} {lo hi lo' hi' : Nat} {vals : List Value} {rr : List (List (List Nat))} (h : RecV w lo hi vals rr) (hk : ∀ k cs t, lo ≤ k → k < hi → w.heap[k]? = some (.cells cs t (0, 0)) → t = 5 ∨ t = 38 → w'.heap[k]? = w.heap[k]?) (h1 : lo' ≤ lo) (h2 : hi ≤ hi') : RecV w' lo' hi' vals rr := ⟨h.1, fun i v hv => (h.2 i v hv).keep hk h1 h2⟩

theorem RecsAt.keep {w w' : World} {lo hi lo' hi' : Nat} {v : Value} {rr : List (List (List Nat))} (h : RecsAt w lo hi v rr) (hk : ∀ k, lo ≤ k → k < hi → w'.heap[k]? = w.heap[k]?) (h1 : lo' ≤ lo) (h2 : hi ≤ hi') : RecsAt w' lo' hi' v rr := by
  obtain ⟨vals, e1, e2, e3⟩ := h
  exact ⟨vals, ownsRow_low (own_kept e1 e2 fun k cs a1 a2 _ => hk k a1 a2) h1, fun k hv => Nat.lt_of_lt_of_le (e2 k hv) h2, e3.keep (fun k _ _ a1 a2 _ _ => hk k a1 a2) h1 h2⟩

/-- One more record. -/
theorem RecsAt.more {w w2 : World} {lo hi : Nat} {v3 v5 : Value} {vals : List Value} {rr : List (List (List Nat))} {rows : List (List Nat)} (hv : RecV w lo hi vals rr) (ho : w2.ownsRow lo 35 1 v3 (rr.length + 1) (vals ++ [v5])) (hr : RowsAt w2 lo w2.heap.size v5 rows) (hh : hi ≤ w2.heap.size) (hk : ∀ k cs t, lo ≤ k → k < hi → w.heap[k]? = some (.cells cs t (0, 0)) → t = 5 ∨ t = 38 → w2.heap[k]? = w.heap[k]?) : RecsAt w2 lo w2.heap.size v3 (rr ++ [rows]) := by
  refine ⟨vals ++ [v5], by rw [List.length_append]; exact ho, fun k e => (ho.lt k e).2, by simp [hv.1], fun i u hu => ?_⟩
  rcases Nat.lt_or_ge i vals.length with hi' | hi'
  · rw [List.getElem?_append_left hi'] at hu
    have := (hv.2 i u hu).keep hk (Nat.le_refl _) hh
    rw [show (rr ++ [rows]).getD i [] = rr.getD i [] from by simp [List.getD, List.getElem?_append_left (by rw [← hv.1]; exact hi')]]
    exact this
  · rw [List.getElem?_append_right hi'] at hu
    have hi0 : i - vals.length = 0 := by
      rcases Nat.eq_zero_or_pos (i - vals.length) with h0 | h0
      · exact h0
      · rw [List.getElem?_eq_none (by simp; omega)] at hu; simp at hu
    rw [hi0] at hu
    simp at hu
    subst hu
    rw [show (rr ++ [rows]).getD i [] = rows from by
      have : i = rr.length := by rw [← hv.1]; omega
      subst this
      simp [List.getD]]
    exact hr

end Go.Proofs.YtgmahgfelbkoeaaDoor

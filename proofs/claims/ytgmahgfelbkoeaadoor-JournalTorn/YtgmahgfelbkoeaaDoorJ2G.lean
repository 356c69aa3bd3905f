/- A log begins; a record is appended. -/
import Derived.Test.YtgmahgfelbkoeaaDoorJ2F
import Derived.Lib.SmallJoins
namespace Go.Proofs.YtgmahgfelbkoeaaDoor
open Go.RowKit
set_option linter.unusedVariables false
set_option linter.unusedSimpArgs false

theorem Lg.set {w : World} {l d : Nat} {nm : ByteArray} {sz ct : Nat} (h : Lg w l d nm sz ct) (k : Nat) : Lg (w.setCell ⟨l, 2, none⟩ (.int .i64 (k : Int))) l d nm k ct := by
  unfold Lg at h ⊢; rw [heap_set_at h]; rfl
theorem Lg.setC {w : World} {l d : Nat} {nm : ByteArray} {sz ct : Nat} (h : Lg w l d nm sz ct) (k : Nat) : Lg (w.setCell ⟨l, 3, none⟩ (.int .i64 (k : Int))) l d nm sz k := by
  unfold Lg at h ⊢; rw [heap_set_at h]; rfl
theorem Lg.below {w w' : World} {l d : Nat} {nm : ByteArray} {sz ct : Nat} (h : Lg w l d nm sz ct) (hb : Below w.heap.size w w') : Lg w' l d nm sz ct := (hb.block l (heap_lt h)).trans h

/-- A store into a block that is not the disk's. -/
theorem Di.setCell {B : Nat} {w : World} {d : Nat} {p : PS} {F : Nat → Prop} (h : Di B w d p F) {a : Addr} (hn : ¬ F a.block) (v : Value) : Di B (w.setCell a v) d p F := h.keep fun k hk => Below.heap_setCell _ _ _ _ (fun e => hn (by rw [← e]; exact hk))

/-- As Fr, but for one block. -/
structure Fx (x : Nat) (w : World) (F : Nat → Prop) (w' : World) (F' : Nat → Prop) : Prop where
  os : w'.os = w.os
  tape : w'.tape = w.tape
  output : w'.output = w.output
  size : w.heap.size ≤ w'.heap.size
  block : ∀ k, k < w.heap.size → ¬ F k → ¬ F' k ∧ (k ≠ x → w'.heap[k]? = w.heap[k]?)

theorem Fr.fx {x : Nat} {w w' : World} {F F' : Nat → Prop} (h : Fr w F w' F') : Fx x w F w' F' := ⟨h.os, h.tape, h.output, h.size, fun k hk hn => ⟨(h.block k hk hn).1, fun _ => (h.block k hk hn).2⟩⟩
theorem Fx.trans {x : Nat} {a b c : World} {F G H : Nat → Prop} (h : Fx x a F b G) (k : Fx x b G c H) : Fx x a F c H :=
  ⟨k.os.trans h.os, k.tape.trans h.tape, k.output.trans h.output, Nat.le_trans h.size k.size, fun i hi hn =>
    ⟨(k.block i (Nat.lt_of_lt_of_le hi h.size) (h.block i hi hn).1).1, fun hx => ((k.block i (Nat.lt_of_lt_of_le hi h.size) (h.block i hi hn).1).2 hx).trans ((h.block i hi hn).2 hx)⟩⟩
theorem Fx.set {w : World} {F : Nat → Prop} (l i : Nat) (v : Value) : Fx l w F (w.setCell ⟨l, i, none⟩ v) F := ⟨rfl, rfl, rfl, by simp [World.setCell], fun k _ hn => ⟨hn, fun hx => Below.heap_setCell _ _ _ _ hx⟩⟩

theorem isBy_cells {w : World} {g cap : Nat} {bs : List Nat} {fr : Nat × Nat} (h : w.heap[g]? = some (.cells (bytesV bs).toArray 5 fr)) : IsBy w (.slice (some ⟨g, 0, none⟩) bs.length cap) bs := .inl (.inr ⟨g, 0, cap, rfl, fun i hi => by
  rw [Nat.zero_add, cell_of_row w g i _ _ fr h]
  simp [bytesV, hi, List.getD]⟩)
theorem isBy_head {w : World} {g : Nat} (h : w.heap[g]? = some (.cells #[.int .u8 70, .int .u8 65, .int .u8 84, .int .u8 72, .int .u8 79, .int .u8 77, .int .u8 74, .int .u8 49] 5 (8, 9))) : IsBy w (.slice (some ⟨g, 0, none⟩) 8 8) headB := isBy_cells (bs := headB) h

set_option maxRecDepth 100000 in
set_option maxHeartbeats 1000000 in
theorem begin0_ok {B : Nat} {l d : Nat} {p : PS} {F : Nat → Prop} {nm : ByteArray} {sz : Nat} (w : World) (h : Di B w d p F) (hg : Lg w l d nm sz 0) (hl : ¬ F l) (hoff : p.off = false) (harm : p.ain = 0) (hwr : p.wr ≤ 999999999) (hs : okN nm) (hc : p.con.has nm ∨ ((∀ y ∈ p.con, y.1 ≠ nm) ∧ p.con.length < 256)) (hr : Con.tot p.con + 8 ≤ p.room) :
    Calls Tryd.prog 36 #[.pointer (some ⟨l, 0, none⟩), .int .i64 0] w fun e w' => e = .returned (.int .i64 0) ∧ ∃ F', Di B w' d { p with con := Con.lay p.con nm headB, wr := p.wr + 2 } F' ∧ Lg w' l d nm 8 0 ∧ ¬ F' l ∧ Fx l w F w' F' := by
  have f2 := frozen_of hg 2
  have c2 := hg.cell 2 (.int .i64 (sz : Int)) rfl
  obtain ⟨w1, hw1⟩ : ∃ w1, w1 = w.setCell ⟨l, 2, none⟩ (.int .i64 8) := ⟨_, rfl⟩
  obtain ⟨w2, hw2⟩ : ∃ w2, w2 = w1.alloc (.cells #[.int .u8 70, .int .u8 65, .int .u8 84, .int .u8 72, .int .u8 79, .int .u8 77, .int .u8 74, .int .u8 49] 5 (8, 9)) := ⟨_, rfl⟩
  have hb2 : Below w1.heap.size w1 w2 := by rw [hw2]; exact (Below.refl _ _).alloc (Nat.le_refl _) _
  have hD1 : Di B w1 d p F := by rw [hw1]; exact h.setCell hl _
  have hD2 := hD1.below hb2
  have hL1 : Lg w1 l d nm 8 0 := by rw [hw1]; exact hg.set 8
  have hL2 := hL1.below hb2
  have hsz1 : w1.heap.size = w.heap.size := by rw [hw1]; simp [World.setCell]
  have HX : Hid (Fx l w F w2 F) := by
    refine Fx.trans (b := w1) (G := F) (by rw [hw1]; exact Fx.set l 2 _) (Fr.of_below hb2).fx
  have HLL : Hid (Calls Tryd.prog 24 #[.pointer (some ⟨l, 0, none⟩), .slice (some ⟨w1.heap.size, 0, none⟩) 8 8] w2 _) := llay_ok w2 hD2 hL2 hl hoff harm hwr hs hc (some ⟨w1.heap.size, 0, none⟩) 8 8 headB rfl (Nat.le_refl _) (by simp) (isBy_head (by rw [hw2]; exact heap_alloc_new w1 _)) (fun k hk => by simp [Value.ownBlock] at hk; subst hk; exact fun e => by have := h.lt _ e; omega) (by decide) hr
  have HLF : Hid (Lg w2 l d nm 8 0 ∧ ¬ F l ∧ l < w2.heap.size) := ⟨hL2, hl, heap_lt hL2⟩
  have hcv : (convert 38 38 (.slice (some ⟨w.heap.size, 0, none⟩) 8 8)).run Tryd.prog (w1.alloc (.cells #[.int .u8 70, .int .u8 65, .int .u8 84, .int .u8 72, .int .u8 79, .int .u8 77, .int .u8 74, .int .u8 49] 5)) = .ok (.slice (some ⟨w.heap.size, 0, none⟩) 8 8) w2 := by
    rw [hw2]; exact Go.Joins.run_convert_bytes_const_at (P := Tryd.prog) w1 38 5 #[.int .u8 70, .int .u8 65, .int .u8 84, .int .u8 72, .int .u8 79, .int .u8 77, .int .u8 74, .int .u8 49] 8 8 w.heap.size hsz1.symm Tryd.underlying38 (by kernel_rfl)
  rw [hsz1] at HLL
  rw [hw1] at hcv
  clear h hg hl hoff harm hwr hs hc hr hD1 hD2 hL1 hL2 hb2 hw1 hsz1 hw2
  go_enter Tryd.func36, Tryd.ntmps36
  go_wp2_with (go_at_call 24; refine HLL.out.mono ?_; rintro e w3 ⟨rfl, F3, hD3, hF3⟩; have H3 : Hid (Di B w3 d { p with con := Con.lay p.con nm headB, wr := p.wr + 2 } F3 ∧ Fr w2 F w3 F3) := ⟨hD3, hF3⟩; clear hD3 hF3)
  go_ret
  exact ⟨rfl, F3, H3.out.1, HLF.out.1.fr H3.out.2 HLF.out.2.1, (H3.out.2.block l HLF.out.2.2 HLF.out.2.1).1, HX.out.trans H3.out.2.fx⟩

set_option maxRecDepth 100000 in
set_option maxHeartbeats 1000000 in
theorem lappend_ok {B : Nat} {l d : Nat} {p : PS} {F : Nat → Prop} {nm : ByteArray} {sz ct : Nat} (w : World) (h : Di B w d p F) (hg : Lg w l d nm sz ct) (hl : ¬ F l) (hoff : p.off = false) (harm : p.ain = 0) (hwr : p.wr ≤ 999999999) (hs : okN nm) (hc : p.con.has nm) (pr : Option Addr) (m cap : Nat) (q : Nat → List Nat) (hq : PartsOf w pr m q) (hq2 : ∀ i, i < m → ∀ n ∈ q i, n < 256) (hm : m ≤ 4096) (hbl : (bodyP q m).length ≤ 4194304) (hr : Con.tot p.con + (recP q m).length ≤ p.room) (hsz : sz ≤ 1000000000) (hct : ct ≤ 1000000000) (hT : TabC w) :
    Calls Tryd.prog 11 #[.pointer (some ⟨l, 0, none⟩), .slice pr m cap] w fun e w' => e = .returned (.int .i64 0) ∧ ∃ F', Di B w' d { p with con := Con.lay p.con nm (recP q m), wr := p.wr + 2 } F' ∧ Lg w' l d nm (sz + (recP q m).length) (ct + 1) ∧ ¬ F' l ∧ Fx l w F w' F' := by
  have HFT := hide (fits_rows pr m cap q w hq (by omega) (by omega))
  have HRC := hide (record_any pr m cap q w hq hq2 hm hbl hT)
  have c4 := hg.cell 4 (.bool false) rfl
  have hdec : decide (m ≤ 4096 ∧ (bodyP q m).length ≤ 4194304) = true := by simp [hm, hbl]
  rw [hdec] at HFT
  obtain ⟨R, hR⟩ : ∃ R, recP q m = R := ⟨_, rfl⟩
  have hR2 : ∀ n ∈ R, n < 256 := by
    rw [← hR]; unfold recP
    intro n hn
    rw [List.mem_append, List.mem_append] at hn
    rcases hn with (hn | hn) | hn
    · exact four_lt _ n hn
    · exact four_lt _ n hn
    · exact bodyP_lt hq2 m (Nat.le_refl _) n hn
  rw [hR] at HRC hr ⊢
  have HLY : Hid (∀ w1 v, OB w.heap.size w R v w1 → Calls Tryd.prog 24 #[.pointer (some ⟨l, 0, none⟩), v] w1 fun e w' => e = .returned (.int .i64 0) ∧ ∃ F', Di B w' d { p with con := Con.lay p.con nm R, wr := p.wr + 2 } F' ∧ Fr w1 F w' F' ∧ Fr w F w' F' ∧ Lg w' l d nm sz ct ∧ ¬ F' l) := fun w1 v hO => by
    obtain ⟨pv, cv, hv⟩ := hO.slice
    have hbel : Below w.heap.size w w1 := hO.bel
    have hcap : R.length ≤ cv ∧ (pv = none → cv = 0) := by
      rcases hO.own.2 with ⟨e1, e2⟩ | ⟨g, cap, cur, e1, _, _, e5, _⟩
      · rw [hv] at e1; simp at e1; omega
      · rw [hv] at e1; simp at e1; obtain ⟨e1, e2⟩ := e1; subst e1; subst e2; exact ⟨e5, by simp⟩
    have hby := hO.by_
    have hfb : ∀ k, v.ownBlock = some k → ¬ F k := fun k hk e => by have := (hO.own.lt k hk).1; have := h.lt k e; omega
    rw [hv] at hby hfb ⊢
    refine (llay_ok w1 (h.below hbel) (hg.below hbel) hl hoff harm hwr hs (.inl hc) pv R.length cv R rfl hcap.1 hcap.2 hby hfb hR2 hr).mono ?_
    rintro e w2 ⟨rfl, F2, e1, e2⟩
    have hlt := heap_lt (hg.below hbel)
    exact ⟨rfl, F2, e1, e2, (Fr.of_below hbel).trans e2, (hg.below hbel).fr e2 hl, (e2.block l hlt hl).1⟩
  have hRl : R.length ≤ 268435456 := by have := h.rm; omega
  obtain ⟨RL, hRL⟩ : ∃ RL, R.length = RL := ⟨_, rfl⟩
  have HRL := hide hRL
  rw [hRL] at hRl ⊢
  clear h hg hl hoff harm hwr hs hc hr hq hq2 hm hbl hT hR hR2 hdec hRL
  go_enter Tryd.func11, Tryd.ntmps11
  go_wp2_with (first
    | (go_at_call 22; refine HFT.out.mono ?_; rintro e w0 ⟨rfl, hw0⟩; obtain rfl := hw0)
    | (go_at_call 23; refine HRC.out.mono ?_; rintro e w1 ⟨v1, rfl, hO1⟩; obtain ⟨pv, cv, hv⟩ := hO1.slice; rw [HRL.out] at hv; subst hv; have HO1 := hide hO1; clear hO1)
    | (go_at_call 24; refine (HLY.out _ _ HO1.out).mono ?_; rintro e w2 ⟨rfl, F2, hR⟩; have H2 := hide hR; clear hR; have d2 := H2.out.2.2.2.1.cell 2 (.int .i64 (sz : Int)) rfl; have g2 := frozen_of H2.out.2.2.2.1 2; have d3 := H2.out.2.2.2.1.cell 3 (.int .i64 (ct : Int)) rfl; have g3 := frozen_of H2.out.2.2.2.1 3))
  go_ret
  obtain ⟨e1, e2, e3, e4, e5⟩ := H2.out
  exact ⟨rfl, F2, (e1.setCell (a := ⟨l, 2, none⟩) e5 _).setCell (a := ⟨l, 3, none⟩) e5 _, (e4.set (sz + RL)).setC (ct + 1), e5, (e3.fx.trans (Fx.set l 2 _)).trans (Fx.set l 3 _)⟩

end Go.Proofs.YtgmahgfelbkoeaaDoor

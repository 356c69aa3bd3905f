/- Size, ReadAt, Names: what a disk tells. -/
import Derived.Test.YtlandfghodfjdaaGreatJ12M
/- Part of a slice of bytes. -/
namespace Go.Proofs.YtlandfghodfjdaaGreat
open Go.RowKit
open Go.MuLone (lock_free unlock_deferred run_callFunc_enter)
set_option linter.unusedVariables false
set_option linter.unusedSimpArgs false

def Cy (w : World) (p : Option Addr) (n c : Nat) (bs : List Nat) : Prop := IsBy w (.slice p n c) bs ∧ n = bs.length ∧ n ≤ c ∧ (p = none → c = 0)

theorem Cy.low {w w' : World} {B : Nat} {p : Option Addr} {n c : Nat} {bs : List Nat} (h : Cy w p n c bs) (ho : ∀ k, (Value.slice p n c).ownBlock = some k → k < B) (hb : ∀ k, k < B → w'.heap[k]? = w.heap[k]?) : Cy w' p n c bs := by
  refine ⟨?_, h.2⟩
  rcases h.1 with (e | ⟨g, o, cap, h1, h2⟩) | e
  · exact .inl (.inl e)
  · exact .inl (.inr ⟨g, o, cap, h1, fun i hi => by rw [World.cell?_of_block (w := w) (w' := w') (a := ⟨g, o + i, none⟩) (hb g (ho g (by rw [h1]; rfl)))]; exact h2 i hi⟩)
  · exact .inr e

theorem Cy.below {w w' : World} {p : Option Addr} {n c : Nat} {bs : List Nat} (h : Cy w p n c bs) (hb : Below w.heap.size w w') : Cy w' p n c bs := ⟨isBy_below h.1 hb, h.2⟩

theorem OB.cy {B : Nat} {w0 wr : World} {bs : List Nat} {v : Value} (h : OB B w0 bs v wr) : ∃ p c, v = .slice p bs.length c ∧ Cy wr p bs.length c bs := by
  obtain ⟨pv, cv, hv⟩ := ob_slice h
  have hby := h.by_
  rw [hv] at hby
  refine ⟨pv, cv, hv, hby, rfl, ?_⟩
  rcases h.own.2 with ⟨e1, e2⟩ | ⟨g, cap, cur, e1, _, _, e5, _⟩
  · rw [hv] at e1; simp at e1; omega
  · rw [hv] at e1; simp at e1; obtain ⟨e1, e2⟩ := e1; subst e1; subst e2; exact ⟨e5, by simp⟩

theorem cy_slice {w : World} {p : Option Addr} {n c : Nat} {bs : List Nat} (h : Cy w p n c bs) (l hh : Nat) (h1 : l ≤ hh) (h2 : hh ≤ n) : ∃ p', Value.slice p' (hh - l) (c - l) = Value.slice (if c = l then p else p.map (·.add (l * 1))) (hh - l) (c - l) ∧ Cy w p' (hh - l) (c - l) ((bs.take hh).drop l) ∧ ∀ k, (Value.slice p' (hh - l) (c - l)).ownBlock = some k → (Value.slice p n c).ownBlock = some k := by
  obtain ⟨hb, hn, hc, hp⟩ := h
  refine ⟨_, rfl, ⟨?_, by simp; omega, by omega, fun e => ?_⟩, fun k hk => ?_⟩
  · by_cases e0 : hh - l = 0
    · rw [e0]
      have en : (bs.take hh).drop l = [] := by apply List.eq_nil_of_length_eq_zero; simp; omega
      rw [en]
      cases hq : (if c = l then p else p.map (·.add (l * 1))) with
      | none =>
        have : c - l = 0 := by
          split at hq
          · omega
          · cases p with
            | none => rw [hp rfl]; omega
            | some a => simp at hq
        rw [this]; exact .inl (.inl ⟨rfl, rfl⟩)
      | some a => exact .inr ⟨a, _, rfl, rfl⟩
    · rcases hb with (⟨e1, e2⟩ | ⟨g, o, cap, e1, e2⟩) | ⟨ad, cap, e1, e2⟩
      · simp at e1; omega
      · simp at e1
        obtain ⟨rfl, rfl, rfl⟩ := e1
        rw [if_neg (by omega)]
        refine .inl (.inr ⟨g, o + l, c - l, ?_, fun i hi => ?_⟩)
        · simp [Addr.add]; omega
        · have hl : ((bs.take hh).drop l).length = hh - l := by simp; omega
          rw [hl] at hi
          have := e2 (l + i) (by omega)
          rw [show o + l + i = o + (l + i) from by omega, this]
          simp [List.getD, List.getElem?_drop, List.getElem?_take]
          rw [if_pos (by omega)]
      · simp at e1; rw [e2] at hn; simp at hn; omega
  · split at e
    · have := hp e; omega
    · cases p with
      | none => rw [hp rfl]; omega
      | some a => simp at e
  · cases p with
    | none => split at hk <;> simp [Value.ownBlock] at hk
    | some a =>
      split at hk
      · exact hk
      · have e : (a.add l).block = a.block := by unfold Addr.add; split <;> rfl
        simpa [Value.ownBlock, e] using hk

section
variable {w : World} {p : Option Addr} {n c : Nat} {bs : List Nat}

set_option maxRecDepth 100000 in
theorem cy_from (h : Cy w p n c bs) (l : Nat) (hl : l ≤ n) (hn : n ≤ 1000000000) : ∃ p', (∀ w', (Instr.slice 33 (.slice p n c) (some (.int .i64 (l : Int))) none none).run Tryz.prog w' = .ok (.slice p' (n - l) (c - l)) w') ∧ Cy w p' (n - l) (c - l) (bs.drop l) ∧ ∀ k, (Value.slice p' (n - l) (c - l)).ownBlock = some k → (Value.slice p n c).ownBlock = some k := by
  obtain ⟨p', e, hc, ho⟩ := cy_slice h l n hl (Nat.le_refl _)
  have en : bs.take n = bs := List.take_of_length_le (by rw [h.2.1]; exact Nat.le_refl _)
  rw [en] at hc
  refine ⟨p', fun w' => ?_, hc, ho⟩
  rw [e, run_slice_l (P := Tryz.prog) (w := w') (t := 33) (a := p) (len := n) (cap := c) (ht := Tryz.underlying33) .i64 (l : Int) (by omega) (by omega)]
  simp [Result.andThen, sliced, Tryz.sizeOf5, Program.elem, Tryz.underlying33]

set_option maxRecDepth 100000 in
theorem cy_to (h : Cy w p n c bs) (hh : Nat) (hl : hh ≤ n) (hn : n ≤ 1000000000) : ∃ p', (∀ w', (Instr.slice 33 (.slice p n c) none (some (.int .i64 (hh : Int))) none).run Tryz.prog w' = .ok (.slice p' hh c) w') ∧ Cy w p' hh c (bs.take hh) ∧ ∀ k, (Value.slice p' hh c).ownBlock = some k → (Value.slice p n c).ownBlock = some k := by
  obtain ⟨p', e, hc, ho⟩ := cy_slice h 0 hh (Nat.zero_le _) hl
  refine ⟨p', fun w' => ?_, by simpa using hc, ho⟩
  have e' : Value.slice p' hh c = _ := e
  rw [e', run_slice_h (P := Tryz.prog) (w := w') (t := 33) (a := p) (len := n) (cap := c) (ht := Tryz.underlying33) .i64 (hh : Int) (by omega) (by have := h.2.2.1; omega)]
  simp [Result.andThen, sliced, Tryz.sizeOf5, Program.elem, Tryz.underlying33]

set_option maxRecDepth 100000 in
theorem cy_part (h : Cy w p n c bs) (l hh : Nat) (h1 : l ≤ hh) (hl : hh ≤ n) (hn : n ≤ 1000000000) : ∃ p', (∀ w', (Instr.slice 33 (.slice p n c) (some (.int .i64 (l : Int))) (some (.int .i64 (hh : Int))) none).run Tryz.prog w' = .ok (.slice p' (hh - l) (c - l)) w') ∧ Cy w p' (hh - l) (c - l) ((bs.take hh).drop l) ∧ ∀ k, (Value.slice p' (hh - l) (c - l)).ownBlock = some k → (Value.slice p n c).ownBlock = some k := by
  obtain ⟨p', e, hc, ho⟩ := cy_slice h l hh h1 hl
  refine ⟨p', fun w' => ?_, hc, ho⟩
  rw [e, run_slice_lh (P := Tryz.prog) (w := w') (t := 33) (a := p) (len := n) (cap := c) (ht := Tryz.underlying33) .i64 .i64 (l : Int) (hh : Int) (by omega) (by omega) (by have := h.2.2.1; omega)]
  simp [Result.andThen, sliced, Tryz.sizeOf5, Program.elem, Tryz.underlying33]
end

end Go.Proofs.YtlandfghodfjdaaGreat

namespace Go.Proofs.YtlandfghodfjdaaGreat
open Go.RowKit
open Go.MuLone (lock_free unlock_deferred run_callFunc_enter)
set_option linter.unusedVariables false
set_option linter.unusedSimpArgs false

theorem Dk.len_le {B : Nat} {w : World} {lk : Int} {S : DS} (h : Dk B w lk S) {x : Fi} (hx : x ∈ S.L) : x.bs.length ≤ 268435456 := by
  have := Con.tot_upd (con_nodup h) (con_mem hx) [] 0
  have h4 := h.rm
  rw [tot_con] at h4
  have e : S.ps.con = S.L.map Fi.con := rfl
  rw [e] at this; simp at this; omega

set_option maxRecDepth 100000 in
theorem size_any {B : Nat} {S : DS} (w : World) (h : Dk B w 0 S) (hoff : S.off = false) (x : Fi) (hx : x ∈ S.L) (hs : okN x.nm) : Calls Tryz.prog 40 #[.pointer (some ⟨S.d, 0, none⟩), .string x.nm] w fun e w' => e = .returned (.tuple #[.int .i64 (x.bs.length : Int), .int .i64 0]) ∧ Dk B w' 0 S ∧ Fr w (Fp S) w' (Fp S) := by
  obtain ⟨p, cap, hv⟩ := h.fslice hx
  have HV := hide hv
  have l1 := h.cell 0 (.int .i32 0) rfl
  have l2 := frozen_of h.dk 0
  have HE : Hid (Dk B (w.setCell ⟨S.d, 0, none⟩ (.int .i32 1)) 1 S ∧ Fr w (Fp S) (w.setCell ⟨S.d, 0, none⟩ (.int .i32 1)) (Fp S)) := ⟨h.setLock 1, Fr.setCell (.inl rfl) _⟩
  have HFI : Hid (∀ w2, Dk B w2 1 S → Calls Tryz.prog 51 #[.pointer (some ⟨S.d, 0, none⟩), .string x.nm] w2 fun e w' => e = .returned (.tuple #[.pointer (some ⟨x.f, 0, none⟩), .int .i64 0]) ∧ Below w2.heap.size w2 w') := fun w2 h2 => find_ok w2 h2 hoff x hx hs
  clear h hs hv
  go_enter_defers Tryz.func40, Tryz.ntmps40
  go_wp2_with (first | (go_at_call 28; refine (lock_free muLib ⟨S.d, 0, none⟩ _ l1 l2).mono ?_; rintro e w2 ⟨rfl, hw2⟩; have H2 : Hid (Dk B w2 1 S ∧ Fr w (Fp S) w2 (Fp S)) := (by rw [hw2]; exact HE.out); clear hw2 l1 l2) | (go_at_call 51; refine (HFI.out _ H2.out.1).mono ?_; rintro e w3 ⟨rfl, hB3⟩; have H3 : Hid (Dk B w3 1 S ∧ Fr w (Fp S) w3 (Fp S)) := ⟨H2.out.1.below hB3, H2.out.2.trans (Fr.of_below hB3)⟩; have c0 : w3.cell? ⟨x.f, 0, none⟩ = some (.slice p x.bs.length cap) := (by rw [← HV.out]; exact H3.out.1.fcell hx); clear hB3))
  have HZ := hide (door_of H3.out.1 rfl)
  refine leaves_cons (f := 29) (args := #[.pointer (some ⟨S.d, 0, none⟩)]) (by simp) (by simp [go_sem]) ?_
  refine (unlock_deferred muLib ⟨S.d, 0, none⟩ .returning _ ?_ ?_).mono ?_
  · exact HZ.out.1
  · exact HZ.out.2.1
  rintro e u' w'' ⟨rfl, rfl, rfl⟩
  exact ⟨_, results_tmp2 rfl _ _ _, rfl, HZ.out.2.2.1, H3.out.2.trans HZ.out.2.2.2⟩

set_option maxRecDepth 100000 in
set_option maxHeartbeats 1000000 in
theorem readAt_any {B : Nat} {S : DS} (w : World) (h : Dk B w 0 S) (hoff : S.off = false) (x : Fi) (hx : x ∈ S.L) (hs : okN x.nm) (k m : Nat) (hkm : k + m ≤ x.bs.length) : Calls Tryz.prog 41 #[.pointer (some ⟨S.d, 0, none⟩), .string x.nm, .int .i64 (k : Int), .int .i64 (m : Int)] w fun e w' => ∃ v2, e = .returned (.tuple #[v2, .int .i64 0]) ∧ (Dk B w' 0 S ∧ Fr w (Fp S) w' (Fp S)) ∧ w'.ownsRow w.heap.size 5 1 v2 m (bytesV ((x.bs.drop k).take m)) ∧ ∀ g, v2.ownBlock = some g → ¬ Fp S g := by
  obtain ⟨p, cap, hv⟩ := h.fslice hx
  have HV := hide hv
  have hlen := h.len_le hx
  have l1 := h.cell 0 (.int .i32 0) rfl
  have l2 := frozen_of h.dk 0
  have HE : Hid (Dk B (w.setCell ⟨S.d, 0, none⟩ (.int .i32 1)) 1 S ∧ Fr w (Fp S) (w.setCell ⟨S.d, 0, none⟩ (.int .i32 1)) (Fp S)) := ⟨h.setLock 1, Fr.setCell (.inl rfl) _⟩
  have HFI : Hid (∀ w2, Dk B w2 1 S → Calls Tryz.prog 51 #[.pointer (some ⟨S.d, 0, none⟩), .string x.nm] w2 fun e w' => e = .returned (.tuple #[.pointer (some ⟨x.f, 0, none⟩), .int .i64 0]) ∧ Below w2.heap.size w2 w') := fun w2 h2 => find_ok w2 h2 hoff x hx hs
  obtain ⟨N, hN⟩ : ∃ N, x.bs.length = N := ⟨_, rfl⟩
  have HN := hide hN
  have HP : Hid (∃ q : Option Addr, (∀ w', (Instr.slice 33 (.slice p N cap) (some (.int .i64 (k : Int))) (some (.int .i64 ((k + m : Nat) : Int))) none).run Tryz.prog w' = .ok (.slice q m (cap - k)) w') ∧ ∀ w3, Dk B w3 1 S → Calls Tryz.prog 31 #[.slice q m (cap - k)] w3 fun e w' => ∃ v2, e = .returned v2 ∧ OB w3.heap.size w3 ((x.bs.drop k).take m) v2 w') := by
    have hcap : N ≤ cap ∧ (p = none → cap = 0) := by
      have ho := h.ow x hx
      rw [hv] at ho
      rcases ho.2 with ⟨e1, e2⟩ | ⟨g, c', cur, e1, _, _, e3, _⟩
      · simp only [Value.slice.injEq] at e1
        exact ⟨by omega, fun _ => e1.2.2⟩
      · simp only [Value.slice.injEq] at e1
        refine ⟨?_, fun e => ?_⟩
        · rw [e1.2.2, ← hN]; exact e3
        · rw [e1.1] at e; cases e
    have hby : ∀ w3, Dk B w3 1 S → Cy w3 p N cap x.bs := fun w3 h3 => by
      have ho := h3.ow x hx
      rw [hv] at ho
      have := OB.by_ ⟨ho, Below.refl B w3, h3.lt⟩
      rw [hN] at this
      exact ⟨this, hN.symm, hcap.1, hcap.2⟩
    have e : (x.bs.take (k + m)).drop k = (x.bs.drop k).take m := by rw [List.drop_take, Nat.add_sub_cancel_left]
    have e2 : k + m - k = m := by omega
    refine ⟨if cap = k then p else p.map (·.add (k * 1)), fun w' => ?_, fun w3 h3 => ?_⟩
    · have := run_slice_lh (P := Tryz.prog) (w := w') (t := 33) (a := p) (len := N) (cap := cap) (ht := Tryz.underlying33) .i64 .i64 (k : Int) ((k + m : Nat) : Int) (by omega) (by omega) (by omega)
      rw [this]
      simp [Result.andThen, sliced, Tryz.sizeOf5, Program.elem, Tryz.underlying33]
      omega
    · obtain ⟨q, e3, hc, _⟩ := cy_slice (hby w3 h3) k (k + m) (by omega) (by omega)
      rw [e, e2] at hc
      rw [e2] at e3
      rw [← e3]
      have hl : ((x.bs.drop k).take m).length = m := hc.2.1.symm
      exact bclone_any _ _ w3 hc.1 (by omega)
  obtain ⟨q, hq1, hq2⟩ := HP.out
  have HC := hide hq2
  have ek : ((k + m : Nat) : Int) = (k : Int) + (m : Int) := by omega
  rw [ek] at hq1
  have hq1' : ∀ w', (Instr.sliceAt 33 (.slice p N cap) (some (.int .i64 (k : Int))) (some (.int .i64 ((k : Int) + (m : Int)))) none).run Tryz.prog w' = .ok (.slice q m (cap - k)) w' := fun w' => by rw [run_sliceAt_slice (P := Tryz.prog) (t := 33) (h := Tryz.underlying33)]; exact hq1 w'
  have k1 : ¬ (k : Int) < 0 := by omega
  have k2 : ¬ (m : Int) < 0 := by omega
  have k3 : ¬ (N : Int) - (k : Int) < (m : Int) := by omega
  rw [hN] at hkm hlen
  clear h hs hv HP hq2 ek hN
  go_enter_defers Tryz.func41, Tryz.ntmps41
  go_wp2_with (first | (go_at_call 28; refine (lock_free muLib ⟨S.d, 0, none⟩ _ l1 l2).mono ?_; rintro e w2 ⟨rfl, hw2⟩; have H2 : Hid (Dk B w2 1 S ∧ Fr w (Fp S) w2 (Fp S)) := (by rw [hw2]; exact HE.out); clear hw2 l1 l2) | (go_at_call 51; refine (HFI.out _ H2.out.1).mono ?_; rintro e w3 ⟨rfl, hB3⟩; have H3 : Hid (Dk B w3 1 S ∧ Fr w (Fp S) w3 (Fp S)) := ⟨H2.out.1.below hB3, H2.out.2.trans (Fr.of_below hB3)⟩; have c0 : w3.cell? ⟨x.f, 0, none⟩ = some (.slice p N cap) := (by rw [← HN.out, ← HV.out]; exact H3.out.1.fcell hx); clear hB3) | (go_at_call 31; refine (HC.out _ H3.out.1).mono ?_; rintro e w4 ⟨v2, rfl, hO⟩; have H4 : Hid (OB w3.heap.size w3 ((x.bs.drop k).take m) v2 w4) := hO; clear hO))
  have hD := H3.out.1.below H4.out.bel
  have HZ := hide (door_of hD rfl)
  have HB : Hid (∀ k, v2.ownBlock = some k → w3.heap.size ≤ k ∧ k < w4.heap.size ∧ k ≠ S.d) := fun k hk => ⟨(H4.out.own.lt k hk).1, (H4.out.own.lt k hk).2, fun e => by have := (H4.out.own.lt k hk).1; have := heap_lt H3.out.1.dk; omega⟩
  refine leaves_cons (f := 29) (args := #[.pointer (some ⟨S.d, 0, none⟩)]) (by simp) (by simp [go_sem]) ?_
  refine (unlock_deferred muLib ⟨S.d, 0, none⟩ .returning _ ?_ ?_).mono ?_
  · exact HZ.out.1
  · exact HZ.out.2.1
  rintro e u' w'' ⟨rfl, rfl, rfl⟩
  refine ⟨_, results_tmp2 rfl _ _ _, _, rfl, ⟨HZ.out.2.2.1, (H3.out.2.trans (Fr.of_below H4.out.bel)).trans HZ.out.2.2.2⟩, ⟨?_, ?_⟩, fun k hk e => by have := (HB.out k hk).1; have := H3.out.1.fpLt k e; omega⟩
  · have := H4.out.own.1
    have hl : ((x.bs.drop k).take m).length = m := by rw [List.length_take, List.length_drop, HN.out]; omega
    rw [hl] at this
    exact this
  have hl : ((x.bs.drop k).take m).length = m := by rw [List.length_take, List.length_drop, HN.out]; omega
  have ho : (w4.setCell ⟨S.d, 0, none⟩ (.int .i32 0)).ownsRow w3.heap.size 5 1 v2 ((x.bs.drop k).take m).length (bytesV ((x.bs.drop k).take m)) := ownsRow_keep H4.out.own fun g hg => Below.heap_setCell _ _ _ _ (fun e => (HB.out g hg).2.2 e)
  rw [hl] at ho
  rcases ho.2 with e | ⟨g, cap, cur, e1, e2, e3⟩
  · exact .inl e
  · exact .inr ⟨g, cap, cur, e1, Nat.le_trans (H3.out.2.size) e2, e3⟩

set_option maxRecDepth 100000 in
set_option maxHeartbeats 1000000 in
theorem namesOf_any {B : Nat} {S : DS} (w : World) (h : Dk B w 0 S) (hoff : S.off = false) (hN : ∀ x ∈ S.L, x.nm.size ≤ maxLen) : Calls Tryz.prog 39 #[.pointer (some ⟨S.d, 0, none⟩)] w fun e w' => ∃ (v : Value) (ns : List ByteArray), e = .returned (.tuple #[v, .int .i64 0]) ∧ (ns.Perm (S.L.map (·.nm)) ∧ inOrder ns) ∧ w'.ownsRow w.heap.size 9 1 v ns.length (ns.map Value.string) ∧ (∀ g, v.ownBlock = some g → ¬ Fp S g) ∧ Dk B w' 0 S ∧ Fr w (Fp S) w' (Fp S) := by
  have HNA : Hid (∀ w2, Dk B w2 1 S → Calls Tryz.prog 30 #[.pointer (some ⟨S.d, 0, none⟩)] w2 fun e w' => ∃ (v : Value) (ns : List ByteArray), e = .returned v ∧ ns.Perm (S.L.map (·.nm)) ∧ inOrder ns ∧ w'.ownsRow w2.heap.size 9 1 v ns.length (ns.map Value.string) ∧ Below w2.heap.size w2 w') := fun w2 h2 => names2_any h2 hN
  have l1 := h.cell 0 (.int .i32 0) rfl
  have l2 := frozen_of h.dk 0
  have HE : Hid (Dk B (w.setCell ⟨S.d, 0, none⟩ (.int .i32 1)) 1 S ∧ Fr w (Fp S) (w.setCell ⟨S.d, 0, none⟩ (.int .i32 1)) (Fp S)) := ⟨h.setLock 1, Fr.setCell (.inl rfl) _⟩
  have ho7 := hide hoff
  clear h
  go_enter_defers Tryz.func39, Tryz.ntmps39
  go_wp2_with (first | (go_at_call 28; refine (lock_free muLib ⟨S.d, 0, none⟩ _ l1 l2).mono ?_; rintro e w2 ⟨rfl, hw2⟩; have H2 : Hid (Dk B w2 1 S ∧ Fr w (Fp S) w2 (Fp S)) := (by rw [hw2]; exact HE.out); have c7 := H2.out.1.cell 4 (.bool S.off) rfl; rw [ho7.out] at c7; clear hw2 l1 l2) | (go_at_call 30; refine (HNA.out _ H2.out.1).mono ?_; rintro e w3 ⟨v, ns, rfl, hp, hi, hr, hb⟩; have H3 := hide (And.intro hp (And.intro hi (And.intro hr hb))); clear hp hi hr hb))
  have hD := H2.out.1.below H3.out.2.2.2
  have HZ := hide (door_of hD rfl)
  have HB : Hid (∀ k, v.ownBlock = some k → w2.heap.size ≤ k ∧ k < w3.heap.size ∧ k ≠ S.d) := fun k hk => ⟨(H3.out.2.2.1.lt k hk).1, (H3.out.2.2.1.lt k hk).2, fun e => by have := (H3.out.2.2.1.lt k hk).1; have := heap_lt H2.out.1.dk; omega⟩
  refine leaves_cons (f := 29) (args := #[.pointer (some ⟨S.d, 0, none⟩)]) (by simp) (by simp [go_sem]) ?_
  refine (unlock_deferred muLib ⟨S.d, 0, none⟩ .returning _ ?_ ?_).mono ?_
  · exact HZ.out.1
  · exact HZ.out.2.1
  rintro e u' w'' ⟨rfl, rfl, rfl⟩
  exact ⟨_, results_tmp2 rfl _ _ _, _, _, rfl, ⟨H3.out.1, H3.out.2.1⟩, own_low (ownsRow_keep H3.out.2.2.1 fun g hg => Below.heap_setCell _ _ _ _ (fun e => (HB.out g hg).2.2 e)) H2.out.2.size, fun k hk e => (by have := (HB.out k hk).1; have := H2.out.1.fpLt k e; omega), HZ.out.2.2.1, (H2.out.2.trans (Fr.of_below H3.out.2.2.2)).trans HZ.out.2.2.2⟩

end Go.Proofs.YtlandfghodfjdaaGreat

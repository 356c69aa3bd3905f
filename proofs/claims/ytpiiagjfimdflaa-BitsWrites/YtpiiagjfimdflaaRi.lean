/- BitsReads: what the two Readers and the two of the document hold between the steps. -/
import Derived.Test.YtpiiagjfimdflaaRh
import Derived.Test.YtpiiagjfimdflaaRg
namespace Go.Proofs.Ytpiiagjfimdflaa
open Go.RowKit
open M
set_option linter.unusedVariables false

theorem i64_and1 (n : Int) : bits .and .i64 n 1 = n % 2 := by
  have h1 : (BitVec.ofInt 64 1).toNat = 2 ^ 1 - 1 := by decide
  have key : (BitVec.ofInt 64 n &&& BitVec.ofInt 64 1).toNat = (n % ((2 ^ 64 : Nat) : Int)).toNat % 2 ^ 1 := by
    rw [BitVec.toNat_and, BitVec.toNat_ofInt, h1, Nat.and_two_pow_sub_one_eq_mod]
  show IntKind.i64.wrap ((BitVec.ofInt 64 n &&& BitVec.ofInt 64 1).toNat : Nat) = n % 2
  rw [key, IntKind.wrap_i64]
  omega

theorem endE_eq (s : ByteArray) (a : Nat) (e : Int) : endE s a e = endL ((rb s).drop a) e := by
  unfold endE endL; rw [rb_len]

theorem pleft {w : World} {R V hi : Nat} {s : ByteArray} {a : Nat} {e : Int} (h : Pair w R V hi s a e) :
    Calls Try.prog 21 #[.pointer (some ⟨R, 0, none⟩)] w fun q w' => q = .returned (.int .i64 (((rb s).drop a).length : Int)) ∧ ∃ m, w' = w.drewN m := by
  have := rleft_any R 0 s a e w h.rd
  rwa [← rb_len] at this
theorem pvleft {w : World} {R V hi : Nat} {s : ByteArray} {a : Nat} {e : Int} (h : Pair w R V hi s a e) :
    Calls Try.prog 22 #[.pointer (some ⟨V, 0, none⟩)] w fun q w' => q = .returned (.int .i64 (((rb s).drop a).length : Int)) ∧ w' = w := vleft_any V hi _ e w h.rr
theorem pend {w : World} {R V hi : Nat} {s : ByteArray} {a : Nat} {e : Int} (h : Pair w R V hi s a e) :
    Calls Try.prog 24 #[.pointer (some ⟨R, 0, none⟩)] w fun q w' => q = .returned (.int .i64 (endL ((rb s).drop a) e)) ∧ ∃ m, w' = w.drewN m := by
  have := rend_any R 0 s a e w h.rd
  rwa [endE_eq] at this
theorem pvend {w : World} {R V hi : Nat} {s : ByteArray} {a : Nat} {e : Int} (h : Pair w R V hi s a e) :
    Calls Try.prog 25 #[.pointer (some ⟨V, 0, none⟩)] w fun q w' => q = .returned (.int .i64 (endL ((rb s).drop a) e)) ∧ w' = w := vend_any V hi _ e w h.rr

/-- Two cells that may be written. -/
structure At2 (w : World) (b : Nat) (x0 x1 : Value) : Prop where
  c0 : w.cell? ⟨b, 0, none⟩ = some x0
  c1 : w.cell? ⟨b, 1, none⟩ = some x1
  f0 : w.frozen? ⟨b, 0, none⟩ = false
  f1 : w.frozen? ⟨b, 1, none⟩ = false

theorem At2.keep {w w' : World} {b : Nat} {x0 x1 : Value} (h : At2 w b x0 x1) (hb : w'.heap[b]? = w.heap[b]?) : At2 w' b x0 x1 := by
  refine ⟨?_, ?_, ?_, ?_⟩
  · rw [World.cell?_of_block (w := w) hb]; exact h.c0
  · rw [World.cell?_of_block (w := w) hb]; exact h.c1
  · rw [World.frozen?_of_block (w := w) (w' := w') (a := ⟨b, 0, none⟩) hb]; exact h.f0
  · rw [World.frozen?_of_block (w := w) (w' := w') (a := ⟨b, 1, none⟩) hb]; exact h.f1

theorem At2.set0 {w : World} {b : Nat} {x0 x1 : Value} (h : At2 w b x0 x1) (v : Value) : At2 (w.setCell ⟨b, 0, none⟩ v) b v x1 := by
  refine ⟨cell_setCell_eq _ _ _ _ _ h.c0, ?_, ?_, ?_⟩
  · rw [cell_setCell_ne _ _ _ _ _ (by omega)]; exact h.c1
  · rw [frozen_setCell]; exact h.f0
  · rw [frozen_setCell]; exact h.f1

theorem At2.set1 {w : World} {b : Nat} {x0 x1 : Value} (h : At2 w b x0 x1) (v : Value) : At2 (w.setCell ⟨b, 1, none⟩ v) b x0 v := by
  refine ⟨?_, cell_setCell_eq _ _ _ _ _ h.c1, ?_, ?_⟩
  · rw [cell_setCell_ne _ _ _ _ _ (by omega)]; exact h.c0
  · rw [frozen_setCell]; exact h.f0
  · rw [frozen_setCell]; exact h.f1

theorem At2.lt {w : World} {b : Nat} {x0 x1 : Value} (h : At2 w b x0 x1) : b < w.heap.size := block_lt_of_cell h.c0

theorem Lent.keep {w w' : World} {base g cap : Nat} {bs : List Nat} (h : Lent w base g cap bs) (hb : w'.heap[g]? = w.heap[g]?) : Lent w' base g cap bs :=
  ownsRow_keep h (fun g' hg => by simp only [Value.ownBlock, Option.some.injEq] at hg; subst hg; exact hb)

theorem Lent.other {w w' : World} {base g cap : Nat} {bs : List Nat} (h : Lent w base g cap bs) {b lo hi : Nat} (ho : Only b lo hi w w') (hne : g ≠ b) : Lent w' base g cap bs :=
  h.keep (ho.block g h.lies.2.2.1 hne)

theorem Rr.other {w w' : World} {V h : Nat} {l : List Bool} {e : Int} (hr : Rr w V h l e) (hh : h ≤ w.heap.size) {b lo hi : Nat} (ho : Only b lo hi w w') (hne : b < V ∨ h ≤ b) : Rr w' V h l e :=
  hr.keep (fun k h1 h2 => ho.block k (by omega) (by omega))

theorem Rr.under {w w' : World} {V h : Nat} {l : List Bool} {e : Int} (hr : Rr w V h l e) (hh : h ≤ w.heap.size) (hB : Below w.heap.size w w') : Rr w' V h l e :=
  hr.keep (fun k h1 h2 => hB.block k (by omega))

theorem Two.over {R V b lo hi : Nat} {w w1 w2 : World} (h : Two R V w w1) (ho : Only b lo hi w1 w2) (hb : w.heap.size ≤ b) : Two R V w w2 :=
  ⟨ho.os.trans h.os, ho.tape.trans h.tape, ho.output.trans h.output, Nat.le_trans h.size ho.size, fun k hk a c => (ho.block k (Nat.lt_of_lt_of_le hk h.size) (by omega)).trans (h.block k hk a c)⟩

theorem Two.more {R V : Nat} {w w1 w2 : World} (h : Two R V w w1) (hB : Below w1.heap.size w1 w2) : Two R V w w2 := h.trans (Two.old hB)

/-- One of the two Readers is made: what holds behind it. -/
theorem made {N n g cap : Nat} {B : List Nat} {wr w1 w2 w3 w4 w5 w6 w7 : World} (hz : N + 3 ≤ wr.heap.size) (h256 : ∀ n ∈ B, n < 256) (B1 : Below wr.heap.size wr w1) (L1 : Lent w1 wr.heap.size g cap B)
    (R2 : Rd w2 w1.heap.size 0 (strOf B) 0 0) (B2 : Below w1.heap.size w1 w2) (O3 : Only (N + 1) 0 2 w2 w3) (R4 : Rr w4 w3.heap.size w4.heap.size (rbits B) 0) (B4 : Below w3.heap.size w3 w4) (O5 : Only (N + 2) 0 2 w4 w5)
    (B6 : Below w5.heap.size w5 w6) (O7 : Only g 0 n w6 w7) :
    Two (N + 1) (N + 2) wr w7 ∧ Pair w7 w1.heap.size w3.heap.size w4.heap.size (strOf B) 0 0 ∧ w7.heap[N + 1]? = w3.heap[N + 1]? ∧ w7.heap[N + 2]? = w5.heap[N + 2]? ∧ wr.heap.size ≤ w1.heap.size := by
  obtain ⟨_, hg, hg1, _⟩ := L1.lies
  have z2 : w1.heap.size < w2.heap.size := block_lt_of_cell R2.text
  have z1 := B1.size
  have z3 := O3.size
  have z4 := R4.lt
  have z5 := O5.size
  have z6 := B6.size
  have z7 := O7.size
  refine ⟨?_, ⟨?_, ?_, by omega, by omega⟩, ?_, ?_, z1⟩
  · exact ((((((Two.old B1).more B2).trans (Two.first O3)).more B4).trans (Two.second O5)).more B6).over O7 hg
  · exact ((((R2.other O3 (by omega)).below B4 (by omega)).other O5 (by omega)).below B6 (by omega)).other O7 (by omega)
  · rw [rb_strOf B h256, List.drop_zero]
    exact ((R4.other (Nat.le_refl _) O5 (by omega)).under (by omega) B6).other (by omega) O7 (by omega)
  · rw [O7.block _ (by omega) (by omega), B6.block _ (by omega), O5.block _ (by omega) (by omega), B4.block _ (by omega)]
  · rw [O7.block _ (by omega) (by omega), B6.block _ (by omega)]

/-- The argument in block N, and all that was there as it was. -/
structure Com (w wr : World) (A0 A1 A2 : Value) : Prop where
  c0 : wr.cell? ⟨w.heap.size, 0, none⟩ = some A0
  c1 : wr.cell? ⟨w.heap.size, 1, none⟩ = some A1
  c2 : wr.cell? ⟨w.heap.size, 2, none⟩ = some A2
  below : Below w.heap.size w wr

theorem Com.two {w wr wr' : World} {A0 A1 A2 : Value} (h : Com w wr A0 A1 A2) {R V : Nat} (hT : Two R V wr wr') (hR : w.heap.size < R) (hV : w.heap.size < V) : Com w wr' A0 A1 A2 := by
  have hb := hT.block w.heap.size (block_lt_of_cell h.c0) (by omega) (by omega)
  refine ⟨?_, ?_, ?_, h.below.trans (hT.below (by omega) (by omega) (by have := block_lt_of_cell h.c0; exact Nat.le_of_lt this))⟩
  · rw [World.cell?_of_block (w := wr) hb]; exact h.c0
  · rw [World.cell?_of_block (w := wr) hb]; exact h.c1
  · rw [World.cell?_of_block (w := wr) hb]; exact h.c2

def pt (b : Nat) : Value := .pointer (some ⟨b, 0, none⟩)

def St0 (w : World) (A0 A1 A2 : Value) (wr : World) : Prop :=
  Com w wr A0 A1 A2 ∧ At2 wr (w.heap.size + 1) (.pointer none) (.pointer none) ∧ At2 wr (w.heap.size + 2) (.pointer none) (.pointer none) ∧ w.heap.size + 3 ≤ wr.heap.size

def St1 (w : World) (A0 A1 A2 : Value) (s0 : ByteArray) (wr : World) : Prop :=
  ∃ R0 V0 h0, Com w wr A0 A1 A2 ∧ At2 wr (w.heap.size + 1) (pt R0) (.pointer none) ∧ At2 wr (w.heap.size + 2) (pt V0) (.pointer none) ∧ w.heap.size + 3 ≤ R0 ∧ Pair wr R0 V0 h0 s0 0 0

def St2 (w : World) (A0 A1 A2 : Value) (s0 s1 : ByteArray) (R0 V0 h0 R1 V1 h1 : Nat) (wr : World) : Prop :=
  Com w wr A0 A1 A2 ∧ At2 wr (w.heap.size + 1) (pt R0) (pt R1) ∧ At2 wr (w.heap.size + 2) (pt V0) (pt V1) ∧ w.heap.size + 3 ≤ R0 ∧ h0 ≤ R1 ∧ (∃ a e, Pair wr R0 V0 h0 s0 a e) ∧ ∃ a e, Pair wr R1 V1 h1 s1 a e

theorem Pair.two {w w' : World} {R V h : Nat} {s : ByteArray} {a : Nat} {e : Int} (hp : Pair w R V h s a e) {R' V' : Nat} (hT : Two R' V' w w') (h1 : R' < R ∨ h ≤ R') (h2 : V' < R ∨ h ≤ V') : Pair w' R V h s a e :=
  hp.keep hT.size (fun k h3 h4 => hT.block k (by have := hp.hi; omega) (by omega) (by omega))

/-- A number is taken from the first Readers, or from the second. -/
theorem St2.step0 {w : World} {A0 A1 A2 : Value} {s0 s1 : ByteArray} {R0 V0 h0 R1 V1 h1 : Nat} {wr wr' : World} (h : St2 w A0 A1 A2 s0 s1 R0 V0 h0 R1 V1 h1 wr) {a : Nat} {e : Int} (hp : Pair wr' R0 V0 h0 s0 a e) (hT : Two R0 V0 wr wr') : St2 w A0 A1 A2 s0 s1 R0 V0 h0 R1 V1 h1 wr' := by
  obtain ⟨hC, a1, a2, z, z2, ⟨b0, c0, p0⟩, ⟨b1, c1, p1⟩⟩ := h
  have k1 := p0.lt
  have k2 := p0.rr.lt
  have l1 := a1.lt
  have l2 := a2.lt
  exact ⟨hC.two hT (by omega) (by omega), a1.keep (hT.block _ l1 (by omega) (by omega)), a2.keep (hT.block _ l2 (by omega) (by omega)), z, z2, ⟨a, e, hp⟩, ⟨b1, c1, p1.two hT (by omega) (by omega)⟩⟩

theorem St2.step1 {w : World} {A0 A1 A2 : Value} {s0 s1 : ByteArray} {R0 V0 h0 R1 V1 h1 : Nat} {wr wr' : World} (h : St2 w A0 A1 A2 s0 s1 R0 V0 h0 R1 V1 h1 wr) {a : Nat} {e : Int} (hp : Pair wr' R1 V1 h1 s1 a e) (hT : Two R1 V1 wr wr') : St2 w A0 A1 A2 s0 s1 R0 V0 h0 R1 V1 h1 wr' := by
  obtain ⟨hC, a1, a2, z, z2, ⟨b0, c0, p0⟩, ⟨b1, c1, p1⟩⟩ := h
  have k1 := p0.lt
  have k2 := p0.rr.lt
  have k3 := p1.lt
  have l1 := a1.lt
  have l2 := a2.lt
  exact ⟨hC.two hT (by omega) (by omega), a1.keep (hT.block _ l1 (by omega) (by omega)), a2.keep (hT.block _ l2 (by omega) (by omega)), z, z2, ⟨b0, c0, p0.two hT (by omega) (by omega)⟩, ⟨a, e, hp⟩⟩

end Go.Proofs.Ytpiiagjfimdflaa

/- The law's Book, of lists of any kinds: what it holds of one kind (KSt), what all kinds share (Com), what may change (Chg), and what keeps it. -/
import Derived.Test.YtnjcedlbdjidiaaGreatDoorP1A
import Derived.Deep.AppendLies
import Derived.Test.YtnjcedlbdjidiaaGreatDoorB1T
import Derived.OwnWalk
/- The document's own Writer (package fathomref1), in memory: its bits, its first refusal; and the contracts of its put, refuse, Bit, Bits, Unary, Var, Zig. -/
namespace Go.Proofs.YtnjcedlbdjidiaaGreatDoor
open Go.RowKit
open M
set_option linter.unusedVariables false

/-- A bit as a byte. -/
def bitV (b : Bool) : Value := .int .u8 (if b then 1 else 0)

/-- The Writer at off of block b has the bits l; its first refusal is e; its bits' row is r. -/
structure Rw (w : World) (b off : Nat) (r : Option Nat) (l : List Bool) (e : Int) : Prop where
  row : ∃ v, w.cell? ⟨b, off, none⟩ = some v ∧ w.ownsRow 0 5 1 v l.length (l.map bitV) ∧ v.ownBlock = r ∧ (l = [] → v = .slice none 0 0)
  err : w.cell? ⟨b, off + 1, none⟩ = some (.int .i64 e)
  fz : ∀ j, j < 2 → w.frozen? ⟨b, off + j, none⟩ = false
  apart : ∀ g, r = some g → g ≠ b ∧ g < w.heap.size

/-- Of what was there only the cells from lo to hi of block b, and block r, may have turned. -/
structure OnlyR (b lo hi : Nat) (r : Option Nat) (w w' : World) : Prop where
  os : w'.os = w.os
  tape : w'.tape = w.tape
  output : w'.output = w.output
  size : w.heap.size ≤ w'.heap.size
  block : ∀ k, k < w.heap.size → k ≠ b → some k ≠ r → w'.heap[k]? = w.heap[k]?
  cell : ∀ j, (j < lo ∨ hi ≤ j) → w'.cell? ⟨b, j, none⟩ = w.cell? ⟨b, j, none⟩
  frozen : ∀ j, w'.frozen? ⟨b, j, none⟩ = w.frozen? ⟨b, j, none⟩

/-- The row behind a step: the same, or a new one. -/
def RowStep (w : World) (r r' : Option Nat) : Prop := r' = r ∨ ∃ g, r' = some g ∧ w.heap.size ≤ g

theorem OnlyR.refl (b lo hi : Nat) (r : Option Nat) (w : World) : OnlyR b lo hi r w w := ⟨rfl, rfl, rfl, Nat.le_refl _, fun _ _ _ _ => rfl, fun _ _ => rfl, fun _ => rfl⟩

theorem OnlyR.trans {b lo hi : Nat} {r r' : Option Nat} {u v w : World} (h : OnlyR b lo hi r u v) (hs : RowStep u r r') (k : OnlyR b lo hi r' v w) : OnlyR b lo hi r u w :=
  ⟨k.os.trans h.os, k.tape.trans h.tape, k.output.trans h.output, Nat.le_trans h.size k.size,
   fun i hi hb hr => (k.block i (Nat.lt_of_lt_of_le hi h.size) hb (by
     rcases hs with rfl | ⟨g, rfl, hg⟩
     · exact hr
     · intro e; simp only [Option.some.injEq] at e; omega)).trans (h.block i hi hb hr), fun j hj => (k.cell j hj).trans (h.cell j hj), fun j => (k.frozen j).trans (h.frozen j)⟩

theorem RowStep.trans {u v : World} {r r' r'' : Option Nat} (h : RowStep u r r') (hs : u.heap.size ≤ v.heap.size) (k : RowStep v r' r'') : RowStep u r r'' := by
  rcases k with rfl | ⟨g, rfl, hg⟩
  · exact h
  · exact .inr ⟨g, rfl, by omega⟩

theorem cell_new1 (w : World) (x : Value) (t : TypeId) (j : Nat) (u : Value) (h : ([x] : List Value)[j]? = some u) : (w.alloc (.cells #[x] t)).cell? ((⟨w.heap.size, 0, none⟩ : Addr).add j) = some u := by
  match j, h with
  | 0, h => simp at h; subst h; rw [Addr.add_mid, cell_of_row _ _ _ _ _ _ (heap_alloc_new _ _)]; rfl

theorem Rw.step {w w1 w2 : World} {b off : Nat} {r : Option Nat} {l : List Bool} {x : Bool} {xb : Int} {g cap : Nat} (h : Rw w b off r l 0) (hx : bitV x = .int .u8 xb)
    (ho : w1.ownsRow 0 5 1 (.slice (some ⟨g, 0, none⟩) (l.length + 1) cap) (l.length + 1) (l.map bitV ++ [bitV x])) (hg : (w.alloc (.cells #[.int .u8 xb] 5)).grownBy w1 r) (hat : r = some g ∨ g = w.heap.size + 1) (hlt : g < w1.heap.size)
    (hw2 : w2 = w1.setCell ⟨b, off, none⟩ (.slice (some ⟨g, 0, none⟩) (l.length + 1) cap)) :
    ∃ r', Rw w2 b off r' (l ++ [x]) 0 ∧ RowStep w r r' ∧ OnlyR b off (off + 2) r w w2 := by
  obtain ⟨v, hv, hown, hr, hnil⟩ := h.row
  have hbs : b < w.heap.size := block_lt_of_cell hv
  have hsz : (w.alloc (.cells #[.int .u8 xb] 5)).heap.size = w.heap.size + 1 := by simp
  have hrb : some b ≠ r := by
    intro e
    exact (h.apart b e.symm).1 rfl
  have hbl : ∀ k, k < w.heap.size → some k ≠ r → w1.heap[k]? = w.heap[k]? := fun k hk hr' => (hg.block k (by omega) hr').trans (Below.heap_alloc _ _ _ hk)
  have hcb : ∀ j, w1.cell? ⟨b, j, none⟩ = w.cell? ⟨b, j, none⟩ := fun j => World.cell?_of_block (w := w) (hbl b hbs hrb)
  have hfb : ∀ j, w1.frozen? ⟨b, j, none⟩ = w.frozen? ⟨b, j, none⟩ := fun j => World.frozen?_of_block (w := w) (hbl b hbs hrb)
  have hgb : g ≠ b := by
    rcases hat with h1 | h1
    · exact (h.apart g h1).1
    · omega
  have hs2 : w2.heap.size = w1.heap.size := by rw [hw2]; simp [World.setCell]
  have h2b : ∀ k, k ≠ b → w2.heap[k]? = w1.heap[k]? := fun k hk => by rw [hw2]; exact Below.heap_setCell _ _ _ _ hk
  refine ⟨some g, ⟨⟨.slice (some ⟨g, 0, none⟩) (l.length + 1) cap, ?_, ?_, rfl, fun h0 => ?_⟩, ?_, fun j hj => ?_, fun g' hg' => ?_⟩, ?_, ?_⟩
  · rw [hw2]; exact cell_setCell_eq _ _ _ _ v ((hcb off).trans hv)
  · rw [List.length_append, List.map_append]
    obtain ⟨h1, h2⟩ := ho
    refine ⟨h1, ?_⟩
    rcases h2 with ⟨h3, _⟩ | ⟨g3, c3, cur, h3, h4, h5, h6⟩
    · cases h3
    · have e3 : g3 = g := by simp only [Value.slice.injEq, Option.some.injEq, Addr.mk.injEq] at h3; exact h3.1.1.symm
      subst e3
      exact .inr ⟨g3, c3, cur, h3, h4, (h2b g3 hgb).trans h5, h6⟩
  · simp at h0
  · rw [hw2, cell_setCell_ne _ _ _ _ _ (by omega), hcb]; exact h.err
  · rw [hw2, frozen_setCell, hfb]; exact h.fz j hj
  · simp only [Option.some.injEq] at hg'; subst hg'; exact ⟨hgb, by omega⟩
  · rcases hat with h1 | h1
    · exact .inl h1.symm
    · exact .inr ⟨g, rfl, by omega⟩
  · refine ⟨?_, ?_, ?_, ?_, fun k hk hkb hkr => ?_, fun j hj => ?_, fun j => ?_⟩
    · rw [hw2]; exact hg.os
    · rw [hw2]; exact hg.tape
    · rw [hw2]; exact hg.output
    · have := hg.size; omega
    · rw [h2b k hkb, hbl k hk hkr]
    · rw [hw2, cell_setCell_ne _ _ _ _ _ (by omega), hcb]
    · rw [hw2, frozen_setCell, hfb]

set_option maxRecDepth 100000 in
set_option maxHeartbeats 1000000 in
theorem refput_any (b off : Nat) (r : Option Nat) (l : List Bool) (x : Bool) (xb : Int) (w : World) (hx : bitV x = .int .u8 xb) (h : Rw w b off r l 0) (hlen : l.length < 100000000) :
    Calls Tryz.prog 129 #[.pointer (some ⟨b, off, none⟩), .int .u8 xb] w fun e w' => e = .returned (.tuple #[]) ∧ ∃ r', Rw w' b off r' (l ++ [x]) 0 ∧ RowStep w r r' ∧ OnlyR b off (off + 2) r w w' := by
  obtain ⟨v, hv, hown, hr, hnil⟩ := h.row
  have he := h.err
  have hf0 := h.fz 0 (by omega)
  rw [Nat.add_zero] at hf0
  have hbs : b < w.heap.size := block_lt_of_cell hv
  have hrb : some b ≠ r := by
    intro e
    exact (h.apart b e.symm).1 rfl
  have HR : Hid (some b ≠ r) := hrb
  have Hr : Hid (v.ownBlock = r) := hr
  have Hx : Hid (bitV x = .int .u8 xb) := hx
  clear hx hr hrb hnil
  have hz : (Tryz.prog.info? 5).bind (·.zero) = some (.int .u8 0) := by kernel_rfl
  have hs : (Tryz.prog.info? 5).map (·.size) = some 1 := by kernel_rfl
  have hb : (Tryz.prog.info? 5).map (·.bytes) = some 1 := by kernel_rfl
  cases hi : Tryz.prog.info? 5 with
  | none => simp [hi] at hs
  | some i =>
    simp only [hi, Option.bind_some, Option.map_some, Option.some.injEq] at hz hs hb
    have Hi : Hid (Tryz.prog.info? 5 = some i ∧ i.zero = some (.int .u8 0) ∧ i.size = 1 ∧ i.bytes = 1) := ⟨hi, hz, hs, hb⟩
    clear hi hz hs hb
    go_enter Tryz.func129, Tryz.ntmps129
    go_wp2_with (at_builtin; refine wpList_append_lies _ rfl _ _ 59 rfl 0 5 i (.int .u8 0) 1 1 Tryz.underlying59 Hi.out.1 Hi.out.2.1 Hi.out.2.2.1 Hi.out.2.2.2 rfl (by decide) v l.length (l.map bitV) rfl ?c1 ⟨w.heap.size, 0, none⟩ 1 1 [bitV x] rfl rfl ?c2 ?c3 (by decide) ?c4 ?c5 (Nat.zero_le _) _ rfl ?c6)
    case c1 => exact hown.alloc _
    case c2 => intro j u hj; rw [Hx.out] at hj; exact cell_new1 w _ 5 j u hj
    case c3 => intro u hu; simp at hu; subst hu; rfl
    case c4 => unfold maxLen; omega
    case c5 => omega
    case c6 =>
      intro g cap w1 ho hg hat hlt
      rw [Hr.out] at hg hat
      have hcb : w1.cell? ⟨b, off, none⟩ = some v := by
        rw [World.cell?_of_block (w := w) ((hg.block b (by simp; omega) HR.out).trans (Below.heap_alloc _ _ _ hbs))]; exact hv
      have hfb : w1.frozen? ⟨b, off, none⟩ = false := by
        rw [World.frozen?_of_block (w := w) ((hg.block b (by simp; omega) HR.out).trans (Below.heap_alloc _ _ _ hbs))]; exact hf0
      have Hfin := Rw.step h Hx.out ho hg hat hlt rfl
      have HF : Hid (∃ r', Rw (w1.setCell ⟨b, off, none⟩ (.slice (some ⟨g, 0, none⟩) (l.length + 1) cap)) b off r' (l ++ [x]) 0 ∧ RowStep w r r' ∧ OnlyR b off (off + 2) r w (w1.setCell ⟨b, off, none⟩ (.slice (some ⟨g, 0, none⟩) (l.length + 1) cap))) := Hfin
      clear Hfin hg hat ho hown hv
      go_wp2
      go_end0
      exact ⟨rfl, HF.out⟩

end Go.Proofs.YtnjcedlbdjidiaaGreatDoor

/- Rows of one's own, what keeps them; bytes as they lie. -/
namespace Go.Proofs.YtnjcedlbdjidiaaGreatDoor
open Go.RowKit
open M
set_option linter.unusedVariables false

theorem ownsRow_keep {w w' : World} {base : Nat} {t : TypeId} {size : Nat} {v : Value} {n : Nat} {xs : List Value} (h : w.ownsRow base t size v n xs) (hk : ∀ g, v.ownBlock = some g → w'.heap[g]? = w.heap[g]?) : w'.ownsRow base t size v n xs := by
  obtain ⟨h1, h2⟩ := h
  refine ⟨h1, ?_⟩
  rcases h2 with h2 | ⟨g, cap, cur, rfl, h4, h5, h6⟩
  · exact .inl h2
  · exact .inr ⟨g, cap, cur, rfl, h4, (hk g rfl).trans h5, h6⟩

theorem Rw.lt {w : World} {c o : Nat} {r : Option Nat} {l : List Bool} {e : Int} (h : Rw w c o r l e) : c < w.heap.size := block_lt_of_cell h.err

theorem Rw.keep {w w' : World} {c o : Nat} {r : Option Nat} {l : List Bool} {e : Int} (h : Rw w c o r l e) (hs : w.heap.size ≤ w'.heap.size) (hc : w'.heap[c]? = w.heap[c]?) (hr : ∀ g, r = some g → w'.heap[g]? = w.heap[g]?) : Rw w' c o r l e := by
  obtain ⟨v, h1, h2, h3, h4⟩ := h.row
  refine ⟨⟨v, ?_, ownsRow_keep h2 (fun g hg => hr g (h3 ▸ hg)), h3, h4⟩, ?_, fun j hj => ?_, fun g hg => ⟨(h.apart g hg).1, Nat.lt_of_lt_of_le (h.apart g hg).2 hs⟩⟩
  · rw [World.cell?_of_block (w := w) hc]; exact h1
  · rw [World.cell?_of_block (w := w) hc]; exact h.err
  · rw [World.frozen?_of_block (w := w) (w' := w') (a := ⟨c, o + j, none⟩) hc]; exact h.fz j hj

theorem IsBytes.news {w : World} {ad : Addr} {n c : Nat} {bs : List Nat} (h : IsBytes w (.slice (some ad) n c) bs) : n = bs.length ∧ ∀ j u, (bytesV bs)[j]? = some u → w.cell? (ad.add j) = some u := by
  rcases h with ⟨h, _⟩ | ⟨g, o, cap, h, h2⟩
  · simp at h
  · simp only [Value.slice.injEq, Option.some.injEq] at h
    obtain ⟨rfl, rfl, rfl⟩ := h
    refine ⟨rfl, fun j u hj => ?_⟩
    have hjl : j < bs.length := by
      rcases Nat.lt_or_ge j bs.length with h | h
      · exact h
      · rw [List.getElem?_eq_none (by simpa [bytesV] using h)] at hj; simp at hj
    rw [Addr.add_mid, h2 j hjl, ← hj]
    simp [bytesV, hjl]

theorem grown_below {w w' : World} {row : Option Nat} {B : Nat} (hg : w.grownBy w' row) (hr : ∀ g, row = some g → B ≤ g) (hB : B ≤ w.heap.size) : Below B w w' :=
  ⟨hg.os, hg.tape, hg.output, hg.size, fun k hk => hg.block k (by omega) (fun e => by have := hr k e.symm; omega)⟩

theorem bytesV_cell (bs : List Nat) : ∀ u ∈ bytesV bs, u.oneCell' = true := by
  intro u hu
  simp only [bytesV, List.mem_map] at hu
  obtain ⟨n, _, rfl⟩ := hu
  rfl

end Go.Proofs.YtnjcedlbdjidiaaGreatDoor

namespace Go.Proofs.YtnjcedlbdjidiaaGreatDoor
open Go.RowKit
open M
set_option linter.unusedVariables false

/-- A kind of lists: its place in the Book, the element's type, the list's type, the mark of list m at place k. -/
structure Kd where
  c : Nat
  te : TypeId
  tl : TypeId
  mv : Nat → Nat → Value

/-- The marks of list m, n long. -/
def Kd.marks (K : Kd) (m n : Nat) : List Value := (List.range n).map (K.mv m)
@[simp] theorem Kd.marks_length (K : Kd) (m n : Nat) : (K.marks m n).length = n := by simp [Kd.marks]
theorem Kd.marks_succ (K : Kd) (m n : Nat) : K.marks m (n + 1) = K.marks m n ++ [K.mv m n] := by simp [Kd.marks, List.range_succ]
theorem Kd.marks_get (K : Kd) (m n j : Nat) (h : j < n) : (K.marks m n)[j]? = some (K.mv m j) := by simp [Kd.marks, h]

/-- A list that is kept: its value, its length, its number. -/
structure Ent where
  v : Value
  n : Nat
  m : Nat

def EOk (K : Kd) (w : World) (base : Nat) (e : Ent) : Prop := w.ownsRow base K.te 1 e.v e.n (K.marks e.m e.n) ∧ e.n ≤ 100000 ∧ e.m ≤ 1000000

/-- The numbers of lists, as cells. -/
def numsV (E : List Ent) : List Value := E.map fun e => Value.int .i64 (e.m : Int)

/-- What the Book holds of one kind. -/
structure KSt (K : Kd) (w : World) (NB base : Nat) (rb ro : Option Nat) (E : List Ent) (A : Nat) : Prop where
  rows : ∃ vb, w.cell? ⟨NB, 3 * K.c, none⟩ = some vb ∧ w.ownsRow base K.tl 1 vb E.length (E.map Ent.v) ∧ vb.ownBlock = rb
  nums : ∃ vo, w.cell? ⟨NB, 3 * K.c + 1, none⟩ = some vo ∧ w.ownsRow base 3 1 vo E.length (numsV E) ∧ vo.ownBlock = ro
  at_ : w.cell? ⟨NB, 3 * K.c + 2, none⟩ = some (.int .i64 (A : Int))
  fz : ∀ i, i < 3 → w.frozen? ⟨NB, 3 * K.c + i, none⟩ = false
  ok : ∀ e ∈ E, EOk K w base e
  le : A ≤ E.length ∧ NB < base ∧ (E = [] → rb = none ∧ ro = none)

/-- What all kinds share: the turn, the turn at which all had grown, the measure. -/
structure Com (w : World) (NB T D U : Nat) : Prop where
  turn : w.cell? ⟨NB, 69, none⟩ = some (.int .i64 (T : Int))
  done : w.cell? ⟨NB, 70, none⟩ = some (.int .i64 (D : Int))
  used : w.cell? ⟨NB, 71, none⟩ = some (.int .i64 (U : Int))
  fz : ∀ i, 69 ≤ i → i < 72 → w.frozen? ⟨NB, i, none⟩ = false
  le : D ≤ T ∧ U ≤ 16777216

/-- Only blocks of S, and new ones, may have changed. -/
structure Chg (S : Nat → Prop) (w w' : World) : Prop where
  os : w'.os = w.os
  tape : w'.tape = w.tape
  output : w'.output = w.output
  size : w.heap.size ≤ w'.heap.size
  block : ∀ k, k < w.heap.size → ¬ S k → w'.heap[k]? = w.heap[k]?

theorem Chg.refl (S : Nat → Prop) (w : World) : Chg S w w := ⟨rfl, rfl, rfl, Nat.le_refl _, fun _ _ _ => rfl⟩
theorem Chg.mono {S S' : Nat → Prop} {w w' : World} (h : Chg S w w') (hs : ∀ k, k < w.heap.size → S k → S' k) : Chg S' w w' := ⟨h.os, h.tape, h.output, h.size, fun k hk hn => h.block k hk (fun h => hn (hs k hk h))⟩
theorem Chg.trans {S : Nat → Prop} {u v w : World} (h : Chg S u v) (k : Chg (fun i => S i ∨ u.heap.size ≤ i) v w) : Chg S u w :=
  ⟨k.os.trans h.os, k.tape.trans h.tape, k.output.trans h.output, Nat.le_trans h.size k.size, fun i hi hn => (k.block i (Nat.lt_of_lt_of_le hi h.size) (fun hh => by rcases hh with hh | hh; exact hn hh; omega)).trans (h.block i hi hn)⟩
theorem Chg.trans' {S : Nat → Prop} {u v w : World} (h : Chg S u v) (k : Chg S v w) : Chg S u w := h.trans (k.mono fun _ _ h => .inl h)
theorem Chg.below {S : Nat → Prop} {w w' : World} (h : Below w.heap.size w w') : Chg S w w' := ⟨h.os, h.tape, h.output, h.size, fun k hk _ => h.block k hk⟩
theorem Chg.only {S : Nat → Prop} {b lo hi : Nat} {w w' : World} (h : Only b lo hi w w') (hb : S b) : Chg S w w' := ⟨h.os, h.tape, h.output, h.size, fun k hk hn => h.block k hk (fun e => hn (e ▸ hb))⟩
theorem Chg.set {S : Nat → Prop} (w : World) (b i : Nat) (v : Value) (hb : S b) : Chg S w (w.setCell ⟨b, i, none⟩ v) := Chg.only ((Only.refl b i (i + 1) w).setCell i (by omega) (by omega) v) hb
theorem Chg.grown {S : Nat → Prop} {w w' : World} {row : Option Nat} (h : w.grownBy w' row) (hr : ∀ g, row = some g → S g) : Chg S w w' := ⟨h.os, h.tape, h.output, h.size, fun k hk hn => h.block k hk (fun e => hn (hr k e.symm))⟩
theorem Chg.drewN {S : Nat → Prop} (w : World) (m : Nat) : Chg S w (w.drewN m) := ⟨rfl, rfl, rfl, Nat.le_refl _, fun _ _ _ => rfl⟩
theorem Chg.toBelow {S : Nat → Prop} {w w' : World} {B : Nat} (h : Chg S w w') (hB : B ≤ w.heap.size) (hs : ∀ k, k < B → ¬ S k) : Below B w w' := ⟨h.os, h.tape, h.output, h.size, fun k hk => h.block k (by omega) (hs k hk)⟩

theorem cell_chg {S : Nat → Prop} {w w' : World} {b i : Nat} {v : Value} (h : w.cell? ⟨b, i, none⟩ = some v) (hc : Chg S w w') (hs : ¬ S b) : w'.cell? ⟨b, i, none⟩ = some v := by
  rw [World.cell?_of_block (hc.block b (block_lt_of_cell h) hs)]; exact h
theorem ownsRow_chg {S : Nat → Prop} {w w' : World} {base : Nat} {t : TypeId} {v : Value} {n : Nat} {xs : List Value} (h : w.ownsRow base t 1 v n xs) (hc : Chg S w w') (hs : ∀ g, v.ownBlock = some g → ¬ S g) : w'.ownsRow base t 1 v n xs :=
  ownsRow_keep h fun g hg => hc.block g (h.lt g hg).2 (hs g hg)

/-- Rows of unlike types lie in unlike blocks. -/
theorem rows_ne {w : World} {b1 b2 : Nat} {t1 t2 : TypeId} {v1 v2 : Value} {n1 n2 : Nat} {x1 x2 : List Value} (h1 : w.ownsRow b1 t1 1 v1 n1 x1) (h2 : w.ownsRow b2 t2 1 v2 n2 x2) (hne : t1 ≠ t2) {g : Nat} (hg : v1.ownBlock = some g) : v2.ownBlock ≠ some g := by
  intro hg2
  rcases h1.2 with ⟨rfl, _⟩ | ⟨g1, c1, cur1, rfl, _, e1, _⟩
  · simp [Value.ownBlock] at hg
  rcases h2.2 with ⟨rfl, _⟩ | ⟨g2, c2, cur2, rfl, _, e2, _⟩
  · simp [Value.ownBlock] at hg2
  simp only [Value.ownBlock, Option.some.injEq] at hg hg2
  subst hg
  subst hg2
  rw [e1] at e2
  simp only [Option.some.injEq, Obj.cells.injEq] at e2
  exact hne e2.2.1

theorem row_ge {w : World} {base : Nat} {t : TypeId} {v : Value} {n : Nat} {xs : List Value} (h : w.ownsRow base t 1 v n xs) {g : Nat} (hg : v.ownBlock = some g) : base ≤ g ∧ g < w.heap.size := h.lt g hg
theorem ownsRow_setOther {w : World} {base : Nat} {t : TypeId} {v : Value} {n : Nat} {xs : List Value} (h : w.ownsRow base t 1 v n xs) (b i : Nat) (x : Value) (hb : b < base) : (w.setCell ⟨b, i, none⟩ x).ownsRow base t 1 v n xs :=
  ownsRow_chg h (Chg.set (S := fun k => k = b) _ _ _ _ rfl) (fun g hg e => by have := (h.lt g hg).1; omega)

/-- What a row looks like. -/
theorem row_form {w : World} {base : Nat} {t : TypeId} {v : Value} {n : Nat} {xs : List Value} (h : w.ownsRow base t 1 v n xs) :
    ∃ p cap, v = .slice p n cap ∧ n ≤ cap ∧ (p = none → cap = 0) ∧ ∀ g, v.ownBlock = some g → p = some ⟨g, 0, none⟩ ∧ base ≤ g ∧ g < w.heap.size ∧ ∀ (i : Nat) x, xs[i]? = some x → w.cell? ⟨g, i, none⟩ = some x := by
  obtain ⟨h1, h2⟩ := h
  rcases h2 with ⟨rfl, rfl⟩ | ⟨g, cap, cur, rfl, h4, h5, h6, _, h7, h8⟩
  · exact ⟨none, 0, rfl, by omega, fun _ => rfl, fun g hg => by simp [Value.ownBlock] at hg⟩
  · refine ⟨_, cap, rfl, h6, fun h => by simp at h, fun g' hg => ?_⟩
    simp only [Value.ownBlock, Option.some.injEq] at hg
    subst hg
    refine ⟨rfl, h4, ?_, fun i x hx => ?_⟩
    · rcases Nat.lt_or_ge g w.heap.size with hlt | hge
      · exact hlt
      · rw [Array.getElem?_eq_none hge] at h5; cases h5
    · rw [cell_of_row _ _ _ _ _ _ h5, ← Array.getElem?_toList]
      rw [← h8] at hx
      have hi : i < n * 1 := by
        rcases Nat.lt_or_ge i (n * 1) with hlt | hge
        · exact hlt
        · rw [List.getElem?_eq_none (by rw [List.length_take]; omega)] at hx; cases hx
      rwa [List.getElem?_take_of_lt hi] at hx

theorem row_at {w : World} {base : Nat} {t : TypeId} {v : Value} {n : Nat} {xs : List Value} (h : w.ownsRow base t 1 v n xs) {p : Option Addr} {cap : Nat} (hv : v = .slice p n cap) (hn : 0 < n) :
    ∃ g, p = some ⟨g, 0, none⟩ ∧ base ≤ g ∧ g < w.heap.size ∧ ∀ (i : Nat) x, xs[i]? = some x → w.cell? ⟨g, i, none⟩ = some x := by
  obtain ⟨p2, cap2, hv2, _, hp, h4⟩ := row_form h
  rw [hv] at hv2
  simp only [Value.slice.injEq] at hv2
  obtain ⟨rfl, _, rfl⟩ := hv2
  cases p with
  | none => have := hp rfl; rcases h.2 with ⟨_, h0⟩ | ⟨g, c, cur, e, _⟩
            · omega
            · rw [hv] at e; simp at e
  | some a =>
    obtain ⟨h5, h6, h7, h8⟩ := h4 a.block (by rw [hv]; rfl)
    exact ⟨a.block, h5, h6, h7, h8⟩

/-- The Book's own blocks of a kind. -/
def BkB (rb ro : Option Nat) (E : List Ent) (k : Nat) : Prop := rb = some k ∨ ro = some k ∨ ∃ e ∈ E, e.v.ownBlock = some k

/-- Another thing changes: its cells of the Book stay, and so do its blocks. -/
theorem KSt.keep {K : Kd} {S : Nat → Prop} {w w' : World} {NB base : Nat} {rb ro : Option Nat} {E : List Ent} {A : Nat} (h : KSt K w NB base rb ro E A) (hc : Chg S w w') (hs : ∀ k, BkB rb ro E k → ¬ S k)
    (hn : ∀ i, i < 3 → w'.cell? ⟨NB, 3 * K.c + i, none⟩ = w.cell? ⟨NB, 3 * K.c + i, none⟩ ∧ w'.frozen? ⟨NB, 3 * K.c + i, none⟩ = w.frozen? ⟨NB, 3 * K.c + i, none⟩) : KSt K w' NB base rb ro E A := by
  obtain ⟨vb, b1, b2, b3⟩ := h.rows
  obtain ⟨vo, o1, o2, o3⟩ := h.nums
  exact ⟨⟨vb, by have := (hn 0 (by omega)).1; rw [Nat.add_zero] at this; rw [this]; exact b1, ownsRow_chg b2 hc (fun g hg => hs g (.inl (b3 ▸ hg))), b3⟩, ⟨vo, by rw [(hn 1 (by omega)).1]; exact o1, ownsRow_chg o2 hc (fun g hg => hs g (.inr (.inl (o3 ▸ hg)))), o3⟩,
    by rw [(hn 2 (by omega)).1]; exact h.at_, fun i hi => by rw [(hn i hi).2]; exact h.fz i hi, fun e he => ⟨ownsRow_chg (h.ok e he).1 hc (fun g hg => hs g (.inr (.inr ⟨e, he, hg⟩))), (h.ok e he).2⟩, h.le⟩

theorem KSt.drewN {K : Kd} {w : World} {NB base : Nat} {rb ro : Option Nat} {E : List Ent} {A : Nat} (h : KSt K w NB base rb ro E A) (m : Nat) : KSt K (w.drewN m) NB base rb ro E A :=
  h.keep (Chg.drewN (S := fun _ => False) w m) (fun _ _ hh => hh) (fun _ _ => ⟨rfl, rfl⟩)

/-- A cell of the Book that is none of its own is laid. -/
theorem KSt.setNB {K : Kd} {w : World} {NB base : Nat} {rb ro : Option Nat} {E : List Ent} {A : Nat} (h : KSt K w NB base rb ro E A) (i : Nat) (v : Value) (hi : i < 3 * K.c ∨ 3 * K.c + 3 ≤ i) : KSt K (w.setCell ⟨NB, i, none⟩ v) NB base rb ro E A := by
  refine h.keep (Chg.set (S := fun k => k = NB) _ _ _ _ rfl) (fun k hk e => ?_) (fun j hj => ⟨cell_setCell_ne _ _ _ _ _ (by omega), frozen_setCell _ _ _ _⟩)
  obtain ⟨vb, b1, b2, b3⟩ := h.rows
  obtain ⟨vo, o1, o2, o3⟩ := h.nums
  have hN := h.le.2.1
  rcases hk with hk | hk | ⟨e', he, hk⟩
  · have := (row_ge b2 (b3.trans hk)).1; omega
  · have := (row_ge o2 (o3.trans hk)).1; omega
  · have := (row_ge (h.ok e' he).1 hk).1; omega

theorem Com.keep {w w' : World} {NB T D U : Nat} (h : Com w NB T D U) (hn : ∀ i, 69 ≤ i → i < 72 → w'.cell? ⟨NB, i, none⟩ = w.cell? ⟨NB, i, none⟩ ∧ w'.frozen? ⟨NB, i, none⟩ = w.frozen? ⟨NB, i, none⟩) : Com w' NB T D U :=
  ⟨by rw [(hn 69 (by omega) (by omega)).1]; exact h.turn, by rw [(hn 70 (by omega) (by omega)).1]; exact h.done, by rw [(hn 71 (by omega) (by omega)).1]; exact h.used, fun i h1 h2 => by rw [(hn i h1 h2).2]; exact h.fz i h1 h2, h.le⟩
theorem Com.chg {S : Nat → Prop} {w w' : World} {NB T D U : Nat} (h : Com w NB T D U) (hc : Chg S w w') (hs : ¬ S NB) : Com w' NB T D U := by
  have e := hc.block NB (block_lt_of_cell h.turn) hs
  exact h.keep fun i _ _ => ⟨World.cell?_of_block e, World.frozen?_of_block (w := w) (w' := w') (a := ⟨NB, i, none⟩) e⟩
theorem Com.setT {w : World} {NB T D U : Nat} (h : Com w NB T D U) (T' : Nat) (hT : D ≤ T') : Com (w.setCell ⟨NB, 69, none⟩ (.int .i64 (T' : Int))) NB T' D U :=
  ⟨cell_setCell_eq _ _ _ _ _ h.turn, by rw [cell_setCell_ne _ _ _ _ _ (by omega)]; exact h.done, by rw [cell_setCell_ne _ _ _ _ _ (by omega)]; exact h.used, fun i h1 h2 => by rw [frozen_setCell]; exact h.fz i h1 h2, hT, h.le.2⟩
theorem Com.setU {w : World} {NB T D U : Nat} (h : Com w NB T D U) (U' : Nat) (hU : U' ≤ 16777216) : Com (w.setCell ⟨NB, 71, none⟩ (.int .i64 (U' : Int))) NB T D U' :=
  ⟨by rw [cell_setCell_ne _ _ _ _ _ (by omega)]; exact h.turn, by rw [cell_setCell_ne _ _ _ _ _ (by omega)]; exact h.done, cell_setCell_eq _ _ _ _ _ h.used, fun i h1 h2 => by rw [frozen_setCell]; exact h.fz i h1 h2, h.le.1, hU⟩
theorem Com.setD {w : World} {NB T D U : Nat} (h : Com w NB T D U) : Com (w.setCell ⟨NB, 70, none⟩ (.int .i64 (T : Int))) NB T T U :=
  ⟨by rw [cell_setCell_ne _ _ _ _ _ (by omega)]; exact h.turn, cell_setCell_eq _ _ _ _ _ h.done, by rw [cell_setCell_ne _ _ _ _ _ (by omega)]; exact h.used, fun i h1 h2 => by rw [frozen_setCell]; exact h.fz i h1 h2, Nat.le_refl _, h.le.2⟩
theorem Com.setNB {w : World} {NB T D U : Nat} (h : Com w NB T D U) (i : Nat) (v : Value) (hi : i < 69) : Com (w.setCell ⟨NB, i, none⟩ v) NB T D U :=
  h.keep fun j h1 h2 => ⟨cell_setCell_ne _ _ _ _ _ (by omega), frozen_setCell _ _ _ _⟩

/-- A row's block stays, or is a new one. -/
def RStep (w : World) (r r' : Option Nat) : Prop := r' = r ∨ ∃ g, r' = some g ∧ w.heap.size ≤ g
theorem RStep.trans {w w1 : World} {a b c : Option Nat} (h : RStep w a b) (hs : w.heap.size ≤ w1.heap.size) (k : RStep w1 b c) : RStep w a c := by
  rcases k with rfl | ⟨g, rfl, hg⟩
  · exact h
  · exact .inr ⟨g, rfl, by omega⟩

/-- The cells of the Book but those of a kind's two rows stay. -/
def NbKeep (K : Kd) (NB : Nat) (w w' : World) : Prop := ∀ j, j ≠ 3 * K.c → j ≠ 3 * K.c + 1 → w'.cell? ⟨NB, j, none⟩ = w.cell? ⟨NB, j, none⟩
/-- What is frozen of the Book stays so. -/
def NbFz (NB : Nat) (w w' : World) : Prop := ∀ j, w'.frozen? ⟨NB, j, none⟩ = w.frozen? ⟨NB, j, none⟩

/-- A list is added: both rows have grown. -/
theorem KSt.add {K : Kd} {wC wD wE wF wG : World} {NB base : Nat} {rb ro : Option Nat} {E : List Ent} {A : Nat} (h : KSt K wC NB base rb ro E A) (hK1 : K.tl ≠ 3) (hK2 : K.te ≠ K.tl) (hK3 : K.te ≠ 3) (e : Ent) (he : EOk K wC base e) {vb' vo' : Value} {c1 c2 : Obj}
    (o1 : wD.ownsRow base K.tl 1 vb' (E.length + 1) (E.map Ent.v ++ [e.v])) (g1 : (wC.alloc c1).grownBy wD rb) (a1 : rb = vb'.ownBlock ∨ vb'.ownBlock = some (wC.heap.size + 1)) (hE : wE = wD.setCell ⟨NB, 3 * K.c, none⟩ vb')
    (o2 : wF.ownsRow base 3 1 vo' (E.length + 1) (numsV E ++ [.int .i64 (e.m : Int)])) (g2 : (wE.alloc c2).grownBy wF ro) (a2 : ro = vo'.ownBlock ∨ vo'.ownBlock = some (wE.heap.size + 1)) (hG : wG = wF.setCell ⟨NB, 3 * K.c + 1, none⟩ vo') :
    KSt K wG NB base vb'.ownBlock vo'.ownBlock (E ++ [e]) A ∧ RStep wC rb vb'.ownBlock ∧ RStep wC ro vo'.ownBlock ∧ Chg (fun k => k = NB ∨ rb = some k ∨ ro = some k) wC wG ∧ NbKeep K NB wC wG ∧ NbFz NB wC wG := by
  obtain ⟨vb, b1, b2, b3⟩ := h.rows
  obtain ⟨vo, q1, q2, q3⟩ := h.nums
  have hb := h.le.2.1
  have hNB : NB < wC.heap.size := block_lt_of_cell b1
  have hA := h.le.1
  have nrb : rb ≠ some NB := fun hh => by have := (row_ge b2 (b3.trans hh)).1; omega
  have nro : ro ≠ some NB := fun hh => by have := (row_ge q2 (q3.trans hh)).1; omega
  have C1 : Chg (fun k => rb = some k) wC wD := (Chg.below ((Below.refl _ _).alloc (Nat.le_refl _) _)).trans' (Chg.grown g1 fun g hg => hg)
  have C2 : Chg (fun k => k = NB) wD wE := by rw [hE]; exact Chg.set _ _ _ _ rfl
  have C3 : Chg (fun k => ro = some k) wE wF := (Chg.below ((Below.refl _ _).alloc (Nat.le_refl _) _)).trans' (Chg.grown g2 fun g hg => hg)
  have C4 : Chg (fun k => k = NB) wF wG := by rw [hG]; exact Chg.set _ _ _ _ rfl
  have zD : wC.heap.size ≤ wD.heap.size := C1.size
  have q2D : wD.ownsRow base 3 1 vo E.length (numsV E) := ownsRow_chg q2 C1 (fun g hg hh => rows_ne q2 b2 (Ne.symm hK1) hg (b3.trans hh))
  have q2E : wE.ownsRow base 3 1 vo E.length (numsV E) := ownsRow_chg q2D C2 (fun g hg hh => by have := (row_ge q2D hg).1; omega)
  have o1E : wE.ownsRow base K.tl 1 vb' (E.length + 1) (E.map Ent.v ++ [e.v]) := ownsRow_chg o1 C2 (fun g hg hh => by have := (row_ge o1 hg).1; omega)
  have o1F : wF.ownsRow base K.tl 1 vb' (E.length + 1) (E.map Ent.v ++ [e.v]) := ownsRow_chg o1E C3 (fun g hg hh => rows_ne o1E q2E hK1 hg (q3.trans hh))
  have o1G : wG.ownsRow base K.tl 1 vb' (E.length + 1) (E.map Ent.v ++ [e.v]) := ownsRow_chg o1F C4 (fun g hg hh => by have := (row_ge o1F hg).1; omega)
  have o2G : wG.ownsRow base 3 1 vo' (E.length + 1) (numsV E ++ [.int .i64 (e.m : Int)]) := ownsRow_chg o2 C4 (fun g hg hh => by have := (row_ge o2 hg).1; omega)
  have ent : ∀ e', EOk K wC base e' → EOk K wG base e' := fun e' ⟨k1, k2, k3⟩ => by
    have r1 := ownsRow_chg k1 C1 (fun g hg hh => rows_ne k1 b2 hK2 hg (b3.trans hh))
    have r2 := ownsRow_chg r1 C2 (fun g hg hh => by have := (row_ge r1 hg).1; omega)
    have r3 := ownsRow_chg r2 C3 (fun g hg hh => rows_ne r2 q2E hK3 hg (q3.trans hh))
    exact ⟨ownsRow_chg r3 C4 (fun g hg hh => by have := (row_ge r3 hg).1; omega), k2, k3⟩
  have e1 : wD.heap[NB]? = wC.heap[NB]? := C1.block NB hNB nrb
  have e3 : wF.heap[NB]? = wE.heap[NB]? := C3.block NB (by have := C2.size; omega) nro
  have cNB : ∀ j, j ≠ 3 * K.c → j ≠ 3 * K.c + 1 → wG.cell? ⟨NB, j, none⟩ = wC.cell? ⟨NB, j, none⟩ := fun j h0 h1 => by
    rw [hG, cell_setCell_ne _ _ _ _ _ h1, World.cell?_of_block (w := wE) e3, hE, cell_setCell_ne _ _ _ _ _ h0, World.cell?_of_block (w := wC) e1]
  have fNB : ∀ j, wG.frozen? ⟨NB, j, none⟩ = wC.frozen? ⟨NB, j, none⟩ := fun j => by
    have r1 : wD.frozen? ⟨NB, j, none⟩ = wC.frozen? ⟨NB, j, none⟩ := World.frozen?_of_block (w := wC) e1
    have r3 : wF.frozen? ⟨NB, j, none⟩ = wE.frozen? ⟨NB, j, none⟩ := World.frozen?_of_block (w := wE) e3
    rw [hG, frozen_setCell, r3, hE, frozen_setCell, r1]
  have cb : wG.cell? ⟨NB, 3 * K.c, none⟩ = some vb' := by
    have r1 : wE.cell? ⟨NB, 3 * K.c, none⟩ = some vb' := by rw [hE]; exact cell_setCell_eq _ _ _ _ _ (cell_chg b1 C1 nrb)
    rw [hG, cell_setCell_ne _ _ _ _ _ (by omega)]; exact cell_chg r1 C3 nro
  have co : wG.cell? ⟨NB, 3 * K.c + 1, none⟩ = some vo' := by
    have r0 := cell_chg q1 C1 nrb
    have r1 : wE.cell? ⟨NB, 3 * K.c + 1, none⟩ = some vo := by rw [hE, cell_setCell_ne _ _ _ _ _ (by omega)]; exact r0
    rw [hG]; exact cell_setCell_eq _ _ _ _ _ (cell_chg r1 C3 nro)
  refine ⟨⟨⟨vb', cb, by simpa using o1G, rfl⟩, ⟨vo', co, by simpa [numsV] using o2G, rfl⟩, by rw [cNB _ (by omega) (by omega)]; exact h.at_, fun i hi => by rw [fNB]; exact h.fz i hi, fun e' he' => ?_, by simp; omega, hb, fun h0 => by simp at h0⟩, ?_, ?_, ?_, cNB, fNB⟩
  · simp only [List.mem_append, List.mem_singleton] at he'
    rcases he' with he' | rfl
    · exact ent e' (h.ok e' he')
    · exact ent e' he
  · rcases a1 with a1 | a1
    · exact .inl a1.symm
    · exact .inr ⟨_, a1, by omega⟩
  · rcases a2 with a2 | a2
    · exact .inl a2.symm
    · exact .inr ⟨_, a2, by have := C2.size; omega⟩
  · exact (((C1.mono fun k _ hk => .inr (.inl hk)).trans' (C2.mono fun k _ hk => .inl hk)).trans' (C3.mono fun k _ hk => .inr (.inr hk))).trans' (C4.mono fun k _ hk => .inl hk)

theorem ownsRow_put {w : World} {base : Nat} {t : TypeId} {n : Nat} {xs : List Value} {g cap : Nat} (h : w.ownsRow base t 1 (.slice (some ⟨g, 0, none⟩) n cap) n xs) (q : Nat) (x : Value) (hq : q < n) :
    (w.setCell ⟨g, q, none⟩ x).ownsRow base t 1 (.slice (some ⟨g, 0, none⟩) n cap) n (xs.set q x) := by
  obtain ⟨h1, h2⟩ := h
  refine ⟨by simpa using h1, ?_⟩
  rcases h2 with ⟨h2, _⟩ | ⟨g', cap', cur, h0, h4, h5, h6, h6b, h7, h8⟩
  · simp at h2
  · simp only [Value.slice.injEq, Option.some.injEq, Addr.mk.injEq] at h0
    obtain ⟨⟨rfl, _⟩, _, rfl⟩ := h0
    refine .inr ⟨g, cap, cur.setIfInBounds q x, rfl, h4, ?_, h6, h6b, by simpa using h7, ?_⟩
    · simp only [World.setCell, Array.getElem?_modify, h5]
      simp
    · rw [← h8]
      simp [List.take_set]


/-- A list is written full, one by one. -/
theorem fill_step {K : Kd} {w : World} {base g n cap m i : Nat} {xs : List Value} (h : w.ownsRow base K.te 1 (.slice (some ⟨g, 0, none⟩) n cap) n (K.marks m i ++ xs.drop i)) (hi : i < n) (hx : xs.length = n) :
    (w.setCell ⟨g, i, none⟩ (K.mv m i)).ownsRow base K.te 1 (.slice (some ⟨g, 0, none⟩) n cap) n (K.marks m (i + 1) ++ xs.drop (i + 1)) := by
  have h1 := ownsRow_put h i (K.mv m i) hi
  have e : (K.marks m i ++ xs.drop i).set i (K.mv m i) = K.marks m (i + 1) ++ xs.drop (i + 1) := by
    rw [List.set_append_right _ _ (by simp), Kd.marks_length, Nat.sub_self, Kd.marks_succ, List.append_assoc]
    congr 1
    rw [List.drop_eq_getElem_cons (by omega)]
    rfl
  rw [e] at h1
  exact h1

theorem row_store {w : World} {base : Nat} {t : TypeId} {n cap : Nat} {xs : List Value} {g : Nat} (h : w.ownsRow base t 1 (.slice (some ⟨g, 0, none⟩) n cap) n xs) (i : Nat) (hi : i < n) : (∃ y, w.cell? ⟨g, i, none⟩ = some y) ∧ w.frozen? ⟨g, i, none⟩ = false := by
  obtain ⟨h1, h2⟩ := h
  rcases h2 with ⟨h2, _⟩ | ⟨g', cap', cur, h0, h4, h5, h6, h6b, h7, h8⟩
  · simp at h2
  · simp only [Value.slice.injEq, Option.some.injEq, Addr.mk.injEq] at h0
    obtain ⟨⟨rfl, _⟩, _, rfl⟩ := h0
    refine ⟨?_, frozen_of_row _ _ _ _ _ h5⟩
    rw [cell_of_row _ _ _ _ _ _ h5]
    exact ⟨_, Array.getElem?_eq_getElem (by omega)⟩

/-- Behind a list that was taken. -/
def AddPost (K : Kd) (w : World) (NB base : Nat) (rb ro : Option Nat) (E : List Ent) (A T D : Nat) (e : Ent) (w' : World) : Prop :=
  ∃ rb' ro' E' U', KSt K w' NB base rb' ro' E' A ∧ Com w' NB (T + 1) D U' ∧ (E' = E ∨ E' = E ++ [e]) ∧ RStep w rb rb' ∧ RStep w ro ro' ∧ Chg (fun k => k = NB ∨ rb = some k ∨ ro = some k ∨ e.v.ownBlock = some k) w w' ∧
    (∀ j, j ≠ 3 * K.c → j ≠ 3 * K.c + 1 → j ≠ 69 → j ≠ 71 → w'.cell? ⟨NB, j, none⟩ = w.cell? ⟨NB, j, none⟩) ∧ NbFz NB w w'

/-- What stands when the list is written full. -/
structure FullSt (K : Kd) (w : World) (NB base : Nat) (rb ro : Option Nat) (E : List Ent) (A T1 D U n : Nat) (p : Option Addr) (wr : World) : Prop where
  st : KSt K wr NB base rb ro E A
  com : Com wr NB T1 D U
  row : wr.ownsRow base K.te 1 (.slice p n n) n (K.marks T1 n)
  chg : Chg (fun k => k = NB ∨ rb = some k ∨ ro = some k ∨ (Value.slice p n n).ownBlock = some k) w wr
  cells : ∀ j, j ≠ 3 * K.c → j ≠ 3 * K.c + 1 → j ≠ 69 → j ≠ 71 → wr.cell? ⟨NB, j, none⟩ = w.cell? ⟨NB, j, none⟩
  fz : NbFz NB w wr

theorem FullSt.of {K : Kd} {w wr : World} {NB base : Nat} {rb ro : Option Nat} {E : List Ent} {A T T1 D U n : Nat} {p : Option Addr} {xs : List Value} (h : KSt K w NB base rb ro E A) (hC : Com w NB T D U) (hK1 : K.te ≠ K.tl) (hK2 : K.te ≠ 3) (hc : K.c < 23) (hT : T ≤ T1)
    (hv : w.ownsRow base K.te 1 (.slice p n n) n xs) (hap : ∀ e ∈ E, ∀ g, (Value.slice p n n).ownBlock = some g → e.v.ownBlock ≠ some g)
    (row : wr.ownsRow base K.te 1 (.slice p n n) n (K.marks T1 n)) (CB : Chg (fun k => (Value.slice p n n).ownBlock = some k) (w.setCell ⟨NB, 69, none⟩ (.int .i64 (T1 : Int))) wr) : FullSt K w NB base rb ro E A T1 D U n p wr := by
  have hN := h.le.2.1
  have nNB : (Value.slice p n n).ownBlock ≠ some NB := fun hh => by have := (row_ge hv hh).1; omega
  have hNB : NB < w.heap.size := block_lt_of_cell hC.turn
  have zA : (w.setCell ⟨NB, 69, none⟩ (.int .i64 (T1 : Int))).heap.size = w.heap.size := by simp [World.setCell]
  have eB := CB.block NB (by omega) nNB
  have cA : Chg (fun k => k = NB) w (w.setCell ⟨NB, 69, none⟩ (.int .i64 (T1 : Int))) := Chg.set _ _ _ _ rfl
  obtain ⟨vb, b1, b2, b3⟩ := h.rows
  obtain ⟨vo, o1, o2, o3⟩ := h.nums
  refine ⟨(h.setNB 69 _ (by omega)).keep CB (fun k hk hh => ?_) (fun i _ => ⟨World.cell?_of_block eB, World.frozen?_of_block (a := ⟨NB, _, none⟩) eB⟩), (hC.setT T1 (by have := hC.le.1; omega)).chg CB nNB, row,
    (cA.mono fun k _ hk => .inl hk).trans' (CB.mono fun k _ hk => .inr (.inr (.inr hk))), fun j _ _ h69 _ => by rw [World.cell?_of_block eB, cell_setCell_ne _ _ _ _ _ h69], fun j => by rw [World.frozen?_of_block (a := ⟨NB, j, none⟩) eB, frozen_setCell]⟩
  rcases hk with hk | hk | ⟨e, he, hk⟩
  · exact rows_ne hv b2 hK1 hh (b3.trans hk)
  · exact rows_ne hv o2 hK2 hh (o3.trans hk)
  · exact hap e he k hh hk

/-- There is no room. -/
theorem FullSt.no {K : Kd} {w wr : World} {NB base : Nat} {rb ro : Option Nat} {E : List Ent} {A T D U n : Nat} {p : Option Addr} (h : FullSt K w NB base rb ro E A (T + 1) D U n p wr) : AddPost K w NB base rb ro E A T D ⟨.slice p n n, n, T + 1⟩ wr :=
  ⟨rb, ro, E, U, h.st, h.com, .inl rfl, .inl rfl, .inl rfl, h.chg, h.cells, h.fz⟩

/-- The measure is laid. -/
theorem FullSt.setU {K : Kd} {w wr : World} {NB base : Nat} {rb ro : Option Nat} {E : List Ent} {A T1 D U n : Nat} {p : Option Addr} (h : FullSt K w NB base rb ro E A T1 D U n p wr) (hc : K.c < 23) (U' : Nat) (hU : U' ≤ 16777216) : FullSt K w NB base rb ro E A T1 D U' n p (wr.setCell ⟨NB, 71, none⟩ (.int .i64 (U' : Int))) :=
  ⟨h.st.setNB 71 _ (by omega), h.com.setU U' hU, ownsRow_setOther h.row _ _ _ h.st.le.2.1, h.chg.trans' (Chg.set _ _ _ _ (.inl rfl)), fun j h0 h1 h2 h3 => by rw [cell_setCell_ne _ _ _ _ _ h3]; exact h.cells j h0 h1 h2 h3, fun j => by rw [frozen_setCell]; exact h.fz j⟩

/-- It is added. -/
theorem FullSt.added {K : Kd} {w wC wD wE wF wG : World} {NB base : Nat} {rb ro : Option Nat} {E : List Ent} {A T D U n : Nat} {p : Option Addr} (h : FullSt K w NB base rb ro E A (T + 1) D U n p wC) (hK1 : K.tl ≠ 3) (hK2 : K.te ≠ K.tl) (hK3 : K.te ≠ 3) (hc : K.c < 23) (hn : n ≤ 100000) (hT : T + 1 ≤ 1000000) {vb' vo' : Value} {c1 c2 : Obj}
    (o1 : wD.ownsRow base K.tl 1 vb' (E.length + 1) (E.map Ent.v ++ [.slice p n n])) (g1 : (wC.alloc c1).grownBy wD rb) (a1 : rb = vb'.ownBlock ∨ vb'.ownBlock = some (wC.heap.size + 1)) (hE : wE = wD.setCell ⟨NB, 3 * K.c, none⟩ vb')
    (o2 : wF.ownsRow base 3 1 vo' (E.length + 1) (numsV E ++ [.int .i64 ((T + 1 : Nat) : Int)])) (g2 : (wE.alloc c2).grownBy wF ro) (a2 : ro = vo'.ownBlock ∨ vo'.ownBlock = some (wE.heap.size + 1)) (hG : wG = wF.setCell ⟨NB, 3 * K.c + 1, none⟩ vo') :
    AddPost K w NB base rb ro E A T D ⟨.slice p n n, n, T + 1⟩ wG := by
  obtain ⟨k1, k2, k3, k4, k5, k6⟩ := h.st.add hK1 hK2 hK3 ⟨.slice p n n, n, T + 1⟩ ⟨h.row, hn, hT⟩ o1 g1 a1 hE o2 g2 a2 hG
  refine ⟨_, _, _, U, k1, h.com.keep (fun i h1 h2 => ⟨k5 i (by omega) (by omega), k6 i⟩), .inr rfl, ?_, ?_, h.chg.trans' (k4.mono fun k _ hk => by rcases hk with hk | hk | hk; exact .inl hk; exact .inr (.inl hk); exact .inr (.inr (.inl hk))),
    fun j h0 h1 h2 h3 => (k5 j h0 h1).trans (h.cells j h0 h1 h2 h3), fun j => (k6 j).trans (h.fz j)⟩
  · rcases k2 with k2 | ⟨g, k2, k7⟩
    · exact .inl k2
    · exact .inr ⟨g, k2, Nat.le_trans h.chg.size k7⟩
  · rcases k3 with k3 | ⟨g, k3, k7⟩
    · exact .inl k3
    · exact .inr ⟨g, k3, Nat.le_trans h.chg.size k7⟩

end Go.Proofs.YtnjcedlbdjidiaaGreatDoor

/- Rows of one's own, what keeps them; bytes as they lie. -/
import Derived.Test.YtangjkhflgkkdaaGreatB1H
import Derived.Deep.AppendLies
import Derived.Test.YtangjkhflgkkdaaGreatT1H
import Derived.OwnWalk
/- The document's own Writer (package fathomref1), in memory: its bits, its first refusal; and the contracts of its put, refuse, Bit, Bits, Unary, Var, Zig. -/
namespace Go.Proofs.YtangjkhflgkkdaaGreat
open Go.RowKit
open M
set_option linter.unusedVariables false

/-- A bit as a byte. -/
def bitV (b : Bool) : Value := .int .u8 (if b then 1 else 0)

/-- The Writer at off of block b has the bits l; its first refusal is e; its bits' row is r. -/
structure Rw (w : World) (b off : Nat) (r : Option Nat) (l : List Bool) (e : Int) : Prop where
  row : ∃ v, w.cell? ⟨b, off, none⟩ = some v ∧ w.ownsRow 0 5 1 v l.length (l.map bitV) ∧ v.ownBlock = r ∧ (l = [] → v = .slice none 0 0)
  err : w.cell? ⟨b, off + 1, none⟩ = some (.int .i64 e)
  fz : ∀ j, j < 2 → w.frozen? ⟨b, off + j, none⟩ = false
  apart : ∀ g, r = some g → g ≠ b ∧ g < w.heap.size

/-- Of what was there only the cells from lo to hi of block b, and block r, may have turned. -/
structure OnlyR (b lo hi : Nat) (r : Option Nat) (w w' : World) : Prop where
  os : w'.os = w.os
  tape : w'.tape = w.tape
  output : w'.output = w.output
  size : w.heap.size ≤ w'.heap.size
  block : ∀ k, k < w.heap.size → k ≠ b → some k ≠ r → w'.heap[k]? = w.heap[k]?
  cell : ∀ j, (j < lo ∨ hi ≤ j) → w'.cell? ⟨b, j, none⟩ = w.cell? ⟨b, j, none⟩
  frozen : ∀ j, w'.frozen? ⟨b, j, none⟩ = w.frozen? ⟨b, j, none⟩

/-- The row behind a step: the same, or a new one. -/
def RowStep (w : World) (r r' : Option Nat) : Prop := r' = r ∨ ∃ g, r' = some g ∧ w.heap.size ≤ g

theorem OnlyR.refl (b lo hi : Nat) (r : Option Nat) (w : World) : OnlyR b lo hi r w w := ⟨rfl, rfl, rfl, Nat.le_refl _, fun _ _ _ _ => rfl, fun _ _ => rfl, fun _ => rfl⟩

theorem OnlyR.trans {b lo hi : Nat} {r r' : Option Nat} {u v w : World} (h : OnlyR b lo hi r u v) (hs : RowStep u r r') (k : OnlyR b lo hi r' v w) : OnlyR b lo hi r u w :=
  ⟨k.os.trans h.os, k.tape.trans h.tape, k.output.trans h.output, Nat.le_trans h.size k.size,
   fun i hi hb hr => (k.block i (Nat.lt_of_lt_of_le hi h.size) hb (by
     rcases hs with rfl | ⟨g, rfl, hg⟩
     · exact hr
     · intro e; simp only [Option.some.injEq] at e; omega)).trans (h.block i hi hb hr), fun j hj => (k.cell j hj).trans (h.cell j hj), fun j => (k.frozen j).trans (h.frozen j)⟩

theorem RowStep.trans {u v : World} {r r' r'' : Option Nat} (h : RowStep u r r') (hs : u.heap.size ≤ v.heap.size) (k : RowStep v r' r'') : RowStep u r r'' := by
  rcases k with rfl | ⟨g, rfl, hg⟩
  · exact h
  · exact .inr ⟨g, rfl, by omega⟩

theorem cell_new1 (w : World) (x : Value) (t : TypeId) (j : Nat) (u : Value) (h : ([x] : List Value)[j]? = some u) : (w.alloc (.cells #[x] t)).cell? ((⟨w.heap.size, 0, none⟩ : Addr).add j) = some u := by
  match j, h with
  | 0, h => simp at h; subst h; rw [Addr.add_mid, cell_of_row _ _ _ _ _ _ (heap_alloc_new _ _)]; rfl

theorem Rw.step {w w1 w2 : World} {b off : Nat} {r : Option Nat} {l : List Bool} {x : Bool} {xb : Int} {g cap : Nat} (h : Rw w b off r l 0) (hx : bitV x = .int .u8 xb)
    (ho : w1.ownsRow 0 5 1 (.slice (some ⟨g, 0, none⟩) (l.length + 1) cap) (l.length + 1) (l.map bitV ++ [bitV x])) (hg : (w.alloc (.cells #[.int .u8 xb] 5)).grownBy w1 r) (hat : r = some g ∨ g = w.heap.size + 1) (hlt : g < w1.heap.size)
    (hw2 : w2 = w1.setCell ⟨b, off, none⟩ (.slice (some ⟨g, 0, none⟩) (l.length + 1) cap)) :
    ∃ r', Rw w2 b off r' (l ++ [x]) 0 ∧ RowStep w r r' ∧ OnlyR b off (off + 2) r w w2 := by
  obtain ⟨v, hv, hown, hr, hnil⟩ := h.row
  have hbs : b < w.heap.size := block_lt_of_cell hv
  have hsz : (w.alloc (.cells #[.int .u8 xb] 5)).heap.size = w.heap.size + 1 := by simp
  have hrb : some b ≠ r := by
    intro e
    exact (h.apart b e.symm).1 rfl
  have hbl : ∀ k, k < w.heap.size → some k ≠ r → w1.heap[k]? = w.heap[k]? := fun k hk hr' => (hg.block k (by omega) hr').trans (Below.heap_alloc _ _ _ hk)
  have hcb : ∀ j, w1.cell? ⟨b, j, none⟩ = w.cell? ⟨b, j, none⟩ := fun j => World.cell?_of_block (w := w) (hbl b hbs hrb)
  have hfb : ∀ j, w1.frozen? ⟨b, j, none⟩ = w.frozen? ⟨b, j, none⟩ := fun j => World.frozen?_of_block (w := w) (hbl b hbs hrb)
  have hgb : g ≠ b := by
    rcases hat with h1 | h1
    · exact (h.apart g h1).1
    · omega
  have hs2 : w2.heap.size = w1.heap.size := by rw [hw2]; simp [World.setCell]
  have h2b : ∀ k, k ≠ b → w2.heap[k]? = w1.heap[k]? := fun k hk => by rw [hw2]; exact Below.heap_setCell _ _ _ _ hk
  refine ⟨some g, ⟨⟨.slice (some ⟨g, 0, none⟩) (l.length + 1) cap, ?_, ?_, rfl, fun h0 => ?_⟩, ?_, fun j hj => ?_, fun g' hg' => ?_⟩, ?_, ?_⟩
  · rw [hw2]; exact cell_setCell_eq _ _ _ _ v ((hcb off).trans hv)
  · rw [List.length_append, List.map_append]
    obtain ⟨h1, h2⟩ := ho
    refine ⟨h1, ?_⟩
    rcases h2 with ⟨h3, _⟩ | ⟨g3, c3, cur, h3, h4, h5, h6⟩
    · cases h3
    · have e3 : g3 = g := by simp only [Value.slice.injEq, Option.some.injEq, Addr.mk.injEq] at h3; exact h3.1.1.symm
      subst e3
      exact .inr ⟨g3, c3, cur, h3, h4, (h2b g3 hgb).trans h5, h6⟩
  · simp at h0
  · rw [hw2, cell_setCell_ne _ _ _ _ _ (by omega), hcb]; exact h.err
  · rw [hw2, frozen_setCell, hfb]; exact h.fz j hj
  · simp only [Option.some.injEq] at hg'; subst hg'; exact ⟨hgb, by omega⟩
  · rcases hat with h1 | h1
    · exact .inl h1.symm
    · exact .inr ⟨g, rfl, by omega⟩
  · refine ⟨?_, ?_, ?_, ?_, fun k hk hkb hkr => ?_, fun j hj => ?_, fun j => ?_⟩
    · rw [hw2]; exact hg.os
    · rw [hw2]; exact hg.tape
    · rw [hw2]; exact hg.output
    · have := hg.size; omega
    · rw [h2b k hkb, hbl k hk hkr]
    · rw [hw2, cell_setCell_ne _ _ _ _ _ (by omega), hcb]
    · rw [hw2, frozen_setCell, hfb]

set_option maxRecDepth 100000 in
set_option maxHeartbeats 1000000 in
theorem refput_any (b off : Nat) (r : Option Nat) (l : List Bool) (x : Bool) (xb : Int) (w : World) (hx : bitV x = .int .u8 xb) (h : Rw w b off r l 0) (hlen : l.length < 100000000) :
    Calls Tryz.prog 82 #[.pointer (some ⟨b, off, none⟩), .int .u8 xb] w fun e w' => e = .returned (.tuple #[]) ∧ ∃ r', Rw w' b off r' (l ++ [x]) 0 ∧ RowStep w r r' ∧ OnlyR b off (off + 2) r w w' := by
  obtain ⟨v, hv, hown, hr, hnil⟩ := h.row
  have he := h.err
  have hf0 := h.fz 0 (by omega)
  rw [Nat.add_zero] at hf0
  have hbs : b < w.heap.size := block_lt_of_cell hv
  have hrb : some b ≠ r := by
    intro e
    exact (h.apart b e.symm).1 rfl
  have HR : Hid (some b ≠ r) := hrb
  have Hr : Hid (v.ownBlock = r) := hr
  have Hx : Hid (bitV x = .int .u8 xb) := hx
  clear hx hr hrb hnil
  have hz : (Tryz.prog.info? 5).bind (·.zero) = some (.int .u8 0) := by kernel_rfl
  have hs : (Tryz.prog.info? 5).map (·.size) = some 1 := by kernel_rfl
  have hb : (Tryz.prog.info? 5).map (·.bytes) = some 1 := by kernel_rfl
  cases hi : Tryz.prog.info? 5 with
  | none => simp [hi] at hs
  | some i =>
    simp only [hi, Option.bind_some, Option.map_some, Option.some.injEq] at hz hs hb
    have Hi : Hid (Tryz.prog.info? 5 = some i ∧ i.zero = some (.int .u8 0) ∧ i.size = 1 ∧ i.bytes = 1) := ⟨hi, hz, hs, hb⟩
    clear hi hz hs hb
    go_enter Tryz.func82, Tryz.ntmps82
    go_wp2_with (at_builtin; refine wpList_append_lies _ rfl _ _ 57 rfl 0 5 i (.int .u8 0) 1 1 Tryz.underlying57 Hi.out.1 Hi.out.2.1 Hi.out.2.2.1 Hi.out.2.2.2 rfl (by decide) v l.length (l.map bitV) rfl ?c1 ⟨w.heap.size, 0, none⟩ 1 1 [bitV x] rfl rfl ?c2 ?c3 (by decide) ?c4 ?c5 (Nat.zero_le _) _ rfl ?c6)
    case c1 => exact hown.alloc _
    case c2 => intro j u hj; rw [Hx.out] at hj; exact cell_new1 w _ 5 j u hj
    case c3 => intro u hu; simp at hu; subst hu; rfl
    case c4 => unfold maxLen; omega
    case c5 => omega
    case c6 =>
      intro g cap w1 ho hg hat hlt
      rw [Hr.out] at hg hat
      have hcb : w1.cell? ⟨b, off, none⟩ = some v := by
        rw [World.cell?_of_block (w := w) ((hg.block b (by simp; omega) HR.out).trans (Below.heap_alloc _ _ _ hbs))]; exact hv
      have hfb : w1.frozen? ⟨b, off, none⟩ = false := by
        rw [World.frozen?_of_block (w := w) ((hg.block b (by simp; omega) HR.out).trans (Below.heap_alloc _ _ _ hbs))]; exact hf0
      have Hfin := Rw.step h Hx.out ho hg hat hlt rfl
      have HF : Hid (∃ r', Rw (w1.setCell ⟨b, off, none⟩ (.slice (some ⟨g, 0, none⟩) (l.length + 1) cap)) b off r' (l ++ [x]) 0 ∧ RowStep w r r' ∧ OnlyR b off (off + 2) r w (w1.setCell ⟨b, off, none⟩ (.slice (some ⟨g, 0, none⟩) (l.length + 1) cap))) := Hfin
      clear Hfin hg hat ho hown hv
      go_wp2
      go_end0
      exact ⟨rfl, HF.out⟩

end Go.Proofs.YtangjkhflgkkdaaGreat

namespace Go.Proofs.YtangjkhflgkkdaaGreat
open Go.RowKit
open M
set_option linter.unusedVariables false

theorem ownsRow_keep {w w' : World} {base : Nat} {t : TypeId} {size : Nat} {v : Value} {n : Nat} {xs : List Value} (h : w.ownsRow base t size v n xs) (hk : ∀ g, v.ownBlock = some g → w'.heap[g]? = w.heap[g]?) : w'.ownsRow base t size v n xs := by
  obtain ⟨h1, h2⟩ := h
  refine ⟨h1, ?_⟩
  rcases h2 with h2 | ⟨g, cap, cur, rfl, h4, h5, h6⟩
  · exact .inl h2
  · exact .inr ⟨g, cap, cur, rfl, h4, (hk g rfl).trans h5, h6⟩

theorem Rw.lt {w : World} {c o : Nat} {r : Option Nat} {l : List Bool} {e : Int} (h : Rw w c o r l e) : c < w.heap.size := block_lt_of_cell h.err

theorem Rw.keep {w w' : World} {c o : Nat} {r : Option Nat} {l : List Bool} {e : Int} (h : Rw w c o r l e) (hs : w.heap.size ≤ w'.heap.size) (hc : w'.heap[c]? = w.heap[c]?) (hr : ∀ g, r = some g → w'.heap[g]? = w.heap[g]?) : Rw w' c o r l e := by
  obtain ⟨v, h1, h2, h3, h4⟩ := h.row
  refine ⟨⟨v, ?_, ownsRow_keep h2 (fun g hg => hr g (h3 ▸ hg)), h3, h4⟩, ?_, fun j hj => ?_, fun g hg => ⟨(h.apart g hg).1, Nat.lt_of_lt_of_le (h.apart g hg).2 hs⟩⟩
  · rw [World.cell?_of_block (w := w) hc]; exact h1
  · rw [World.cell?_of_block (w := w) hc]; exact h.err
  · rw [World.frozen?_of_block (w := w) (w' := w') (a := ⟨c, o + j, none⟩) hc]; exact h.fz j hj

theorem IsBytes.news {w : World} {ad : Addr} {n c : Nat} {bs : List Nat} (h : IsBytes w (.slice (some ad) n c) bs) : n = bs.length ∧ ∀ j u, (bytesV bs)[j]? = some u → w.cell? (ad.add j) = some u := by
  rcases h with ⟨h, _⟩ | ⟨g, o, cap, h, h2⟩
  · simp at h
  · simp only [Value.slice.injEq, Option.some.injEq] at h
    obtain ⟨rfl, rfl, rfl⟩ := h
    refine ⟨rfl, fun j u hj => ?_⟩
    have hjl : j < bs.length := by
      rcases Nat.lt_or_ge j bs.length with h | h
      · exact h
      · rw [List.getElem?_eq_none (by simpa [bytesV] using h)] at hj; simp at hj
    rw [Addr.add_mid, h2 j hjl, ← hj]
    simp [bytesV, hjl]

theorem grown_below {w w' : World} {row : Option Nat} {B : Nat} (hg : w.grownBy w' row) (hr : ∀ g, row = some g → B ≤ g) (hB : B ≤ w.heap.size) : Below B w w' :=
  ⟨hg.os, hg.tape, hg.output, hg.size, fun k hk => hg.block k (by omega) (fun e => by have := hr k e.symm; omega)⟩

theorem bytesV_cell (bs : List Nat) : ∀ u ∈ bytesV bs, u.oneCell' = true := by
  intro u hu
  simp only [bytesV, List.mem_map] at hu
  obtain ⟨n, _, rfl⟩ := hu
  rfl

end Go.Proofs.YtangjkhflgkkdaaGreat

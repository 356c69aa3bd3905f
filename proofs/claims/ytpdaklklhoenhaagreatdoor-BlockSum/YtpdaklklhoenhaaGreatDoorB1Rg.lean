/- The law's Lend, Intact, Over. -/
import Derived.Test.YtpdaklklhoenhaaGreatDoorT1A
import Derived.Deep.AppendLies
import Derived.Test.YtpdaklklhoenhaaGreatDoorC1M
import Derived.OwnWalk
import Derived.Laws.AppendOwnNone
/- The document's own Writer (package fathomref1), in memory: its bits, its first refusal; and the contracts of its put, refuse, Bit, Bits, Unary, Var, Zig. -/
namespace Go.Proofs.YtpdaklklhoenhaaGreatDoor
open Go.RowKit
open M
set_option linter.unusedVariables false

/-- A bit as a byte. -/
def bitV (b : Bool) : Value := .int .u8 (if b then 1 else 0)

/-- The Writer at off of block b has the bits l; its first refusal is e; its bits' row is r. -/
structure Rw (w : World) (b off : Nat) (r : Option Nat) (l : List Bool) (e : Int) : Prop where
  row : ∃ v, w.cell? ⟨b, off, none⟩ = some v ∧ w.ownsRow 0 5 1 v l.length (l.map bitV) ∧ v.ownBlock = r ∧ (l = [] → v = .slice none 0 0)
  err : w.cell? ⟨b, off + 1, none⟩ = some (.int .i64 e)
  fz : ∀ j, j < 2 → w.frozen? ⟨b, off + j, none⟩ = false
  apart : ∀ g, r = some g → g ≠ b ∧ g < w.heap.size

/-- Of what was there only the cells from lo to hi of block b, and block r, may have turned. -/
structure OnlyR (b lo hi : Nat) (r : Option Nat) (w w' : World) : Prop where
  os : w'.os = w.os
  tape : w'.tape = w.tape
  output : w'.output = w.output
  size : w.heap.size ≤ w'.heap.size
  block : ∀ k, k < w.heap.size → k ≠ b → some k ≠ r → w'.heap[k]? = w.heap[k]?
  cell : ∀ j, (j < lo ∨ hi ≤ j) → w'.cell? ⟨b, j, none⟩ = w.cell? ⟨b, j, none⟩
  frozen : ∀ j, w'.frozen? ⟨b, j, none⟩ = w.frozen? ⟨b, j, none⟩

/-- The row behind a step: the same, or a new one. -/
def RowStep (w : World) (r r' : Option Nat) : Prop := r' = r ∨ ∃ g, r' = some g ∧ w.heap.size ≤ g

theorem OnlyR.refl (b lo hi : Nat) (r : Option Nat) (w : World) : OnlyR b lo hi r w w := ⟨rfl, rfl, rfl, Nat.le_refl _, fun _ _ _ _ => rfl, fun _ _ => rfl, fun _ => rfl⟩

theorem OnlyR.trans {b lo hi : Nat} {r r' : Option Nat} {u v w : World} (h : OnlyR b lo hi r u v) (hs : RowStep u r r') (k : OnlyR b lo hi r' v w) : OnlyR b lo hi r u w :=
  ⟨k.os.trans h.os, k.tape.trans h.tape, k.output.trans h.output, Nat.le_trans h.size k.size,
   fun i hi hb hr => (k.block i (Nat.lt_of_lt_of_le hi h.size) hb (by
     rcases hs with rfl | ⟨g, rfl, hg⟩
     · exact hr
     · intro e; simp only [Option.some.injEq] at e; omega)).trans (h.block i hi hb hr), fun j hj => (k.cell j hj).trans (h.cell j hj), fun j => (k.frozen j).trans (h.frozen j)⟩

theorem RowStep.trans {u v : World} {r r' r'' : Option Nat} (h : RowStep u r r') (hs : u.heap.size ≤ v.heap.size) (k : RowStep v r' r'') : RowStep u r r'' := by
  rcases k with rfl | ⟨g, rfl, hg⟩
  · exact h
  · exact .inr ⟨g, rfl, by omega⟩

theorem cell_new1 (w : World) (x : Value) (t : TypeId) (j : Nat) (u : Value) (h : ([x] : List Value)[j]? = some u) : (w.alloc (.cells #[x] t)).cell? ((⟨w.heap.size, 0, none⟩ : Addr).add j) = some u := by
  match j, h with
  | 0, h => simp at h; subst h; rw [Addr.add_mid, cell_of_row _ _ _ _ _ _ (heap_alloc_new _ _)]; rfl

theorem Rw.step {w w1 w2 : World} {b off : Nat} {r : Option Nat} {l : List Bool} {x : Bool} {xb : Int} {g cap : Nat} (h : Rw w b off r l 0) (hx : bitV x = .int .u8 xb)
    (ho : w1.ownsRow 0 5 1 (.slice (some ⟨g, 0, none⟩) (l.length + 1) cap) (l.length + 1) (l.map bitV ++ [bitV x])) (hg : (w.alloc (.cells #[.int .u8 xb] 5)).grownBy w1 r) (hat : r = some g ∨ g = w.heap.size + 1) (hlt : g < w1.heap.size)
    (hw2 : w2 = w1.setCell ⟨b, off, none⟩ (.slice (some ⟨g, 0, none⟩) (l.length + 1) cap)) :
    ∃ r', Rw w2 b off r' (l ++ [x]) 0 ∧ RowStep w r r' ∧ OnlyR b off (off + 2) r w w2 := by
  obtain ⟨v, hv, hown, hr, hnil⟩ := h.row
  have hbs : b < w.heap.size := block_lt_of_cell hv
  have hsz : (w.alloc (.cells #[.int .u8 xb] 5)).heap.size = w.heap.size + 1 := by simp
  have hrb : some b ≠ r := by
    intro e
    exact (h.apart b e.symm).1 rfl
  have hbl : ∀ k, k < w.heap.size → some k ≠ r → w1.heap[k]? = w.heap[k]? := fun k hk hr' => (hg.block k (by omega) hr').trans (Below.heap_alloc _ _ _ hk)
  have hcb : ∀ j, w1.cell? ⟨b, j, none⟩ = w.cell? ⟨b, j, none⟩ := fun j => World.cell?_of_block (w := w) (hbl b hbs hrb)
  have hfb : ∀ j, w1.frozen? ⟨b, j, none⟩ = w.frozen? ⟨b, j, none⟩ := fun j => World.frozen?_of_block (w := w) (hbl b hbs hrb)
  have hgb : g ≠ b := by
    rcases hat with h1 | h1
    · exact (h.apart g h1).1
    · omega
  have hs2 : w2.heap.size = w1.heap.size := by rw [hw2]; simp [World.setCell]
  have h2b : ∀ k, k ≠ b → w2.heap[k]? = w1.heap[k]? := fun k hk => by rw [hw2]; exact Below.heap_setCell _ _ _ _ hk
  refine ⟨some g, ⟨⟨.slice (some ⟨g, 0, none⟩) (l.length + 1) cap, ?_, ?_, rfl, fun h0 => ?_⟩, ?_, fun j hj => ?_, fun g' hg' => ?_⟩, ?_, ?_⟩
  · rw [hw2]; exact cell_setCell_eq _ _ _ _ v ((hcb off).trans hv)
  · rw [List.length_append, List.map_append]
    obtain ⟨h1, h2⟩ := ho
    refine ⟨h1, ?_⟩
    rcases h2 with ⟨h3, _⟩ | ⟨g3, c3, cur, h3, h4, h5, h6⟩
    · cases h3
    · have e3 : g3 = g := by simp only [Value.slice.injEq, Option.some.injEq, Addr.mk.injEq] at h3; exact h3.1.1.symm
      subst e3
      exact .inr ⟨g3, c3, cur, h3, h4, (h2b g3 hgb).trans h5, h6⟩
  · simp at h0
  · rw [hw2, cell_setCell_ne _ _ _ _ _ (by omega), hcb]; exact h.err
  · rw [hw2, frozen_setCell, hfb]; exact h.fz j hj
  · simp only [Option.some.injEq] at hg'; subst hg'; exact ⟨hgb, by omega⟩
  · rcases hat with h1 | h1
    · exact .inl h1.symm
    · exact .inr ⟨g, rfl, by omega⟩
  · refine ⟨?_, ?_, ?_, ?_, fun k hk hkb hkr => ?_, fun j hj => ?_, fun j => ?_⟩
    · rw [hw2]; exact hg.os
    · rw [hw2]; exact hg.tape
    · rw [hw2]; exact hg.output
    · have := hg.size; omega
    · rw [h2b k hkb, hbl k hk hkr]
    · rw [hw2, cell_setCell_ne _ _ _ _ _ (by omega), hcb]
    · rw [hw2, frozen_setCell, hfb]


end Go.Proofs.YtpdaklklhoenhaaGreatDoor

/- Rows of one's own, what keeps them; bytes as they lie. -/
namespace Go.Proofs.YtpdaklklhoenhaaGreatDoor
open Go.RowKit
open M
set_option linter.unusedVariables false

theorem ownsRow_keep {w w' : World} {base : Nat} {t : TypeId} {size : Nat} {v : Value} {n : Nat} {xs : List Value} (h : w.ownsRow base t size v n xs) (hk : ∀ g, v.ownBlock = some g → w'.heap[g]? = w.heap[g]?) : w'.ownsRow base t size v n xs := by
  obtain ⟨h1, h2⟩ := h
  refine ⟨h1, ?_⟩
  rcases h2 with h2 | ⟨g, cap, cur, rfl, h4, h5, h6⟩
  · exact .inl h2
  · exact .inr ⟨g, cap, cur, rfl, h4, (hk g rfl).trans h5, h6⟩

theorem Rw.lt {w : World} {c o : Nat} {r : Option Nat} {l : List Bool} {e : Int} (h : Rw w c o r l e) : c < w.heap.size := block_lt_of_cell h.err

theorem Rw.keep {w w' : World} {c o : Nat} {r : Option Nat} {l : List Bool} {e : Int} (h : Rw w c o r l e) (hs : w.heap.size ≤ w'.heap.size) (hc : w'.heap[c]? = w.heap[c]?) (hr : ∀ g, r = some g → w'.heap[g]? = w.heap[g]?) : Rw w' c o r l e := by
  obtain ⟨v, h1, h2, h3, h4⟩ := h.row
  refine ⟨⟨v, ?_, ownsRow_keep h2 (fun g hg => hr g (h3 ▸ hg)), h3, h4⟩, ?_, fun j hj => ?_, fun g hg => ⟨(h.apart g hg).1, Nat.lt_of_lt_of_le (h.apart g hg).2 hs⟩⟩
  · rw [World.cell?_of_block (w := w) hc]; exact h1
  · rw [World.cell?_of_block (w := w) hc]; exact h.err
  · rw [World.frozen?_of_block (w := w) (w' := w') (a := ⟨c, o + j, none⟩) hc]; exact h.fz j hj

theorem IsBytes.news {w : World} {ad : Addr} {n c : Nat} {bs : List Nat} (h : IsBytes w (.slice (some ad) n c) bs) : n = bs.length ∧ ∀ j u, (bytesV bs)[j]? = some u → w.cell? (ad.add j) = some u := by
  rcases h with ⟨h, _⟩ | ⟨g, o, cap, h, h2⟩
  · simp at h
  · simp only [Value.slice.injEq, Option.some.injEq] at h
    obtain ⟨rfl, rfl, rfl⟩ := h
    refine ⟨rfl, fun j u hj => ?_⟩
    have hjl : j < bs.length := by
      rcases Nat.lt_or_ge j bs.length with h | h
      · exact h
      · rw [List.getElem?_eq_none (by simpa [bytesV] using h)] at hj; simp at hj
    rw [Addr.add_mid, h2 j hjl, ← hj]
    simp [bytesV, hjl]

theorem grown_below {w w' : World} {row : Option Nat} {B : Nat} (hg : w.grownBy w' row) (hr : ∀ g, row = some g → B ≤ g) (hB : B ≤ w.heap.size) : Below B w w' :=
  ⟨hg.os, hg.tape, hg.output, hg.size, fun k hk => hg.block k (by omega) (fun e => by have := hr k e.symm; omega)⟩

theorem bytesV_cell (bs : List Nat) : ∀ u ∈ bytesV bs, u.oneCell' = true := by
  intro u hu
  simp only [bytesV, List.mem_map] at hu
  obtain ⟨n, _, rfl⟩ := hu
  rfl

end Go.Proofs.YtpdaklklhoenhaaGreatDoor

namespace Go.Proofs.YtpdaklklhoenhaaGreatDoor
open Go.RowKit
open M
set_option linter.unusedVariables false

/-- The first k marks. -/
def marksN (k : Nat) : List Nat := (List.range k).map fun i => 165 - i

@[simp] theorem marksN_length (k : Nat) : (marksN k).length = k := by simp [marksN]

theorem marksN_succ (k : Nat) : marksN (k + 1) = marksN k ++ [165 - k] := by simp [marksN, List.range_succ]

theorem mark_any (i : Nat) (w : World) (h : i ≤ 70) : Calls Tryz.prog 25 #[.int .i64 i] w fun e w' => e = .returned (.int .u8 ((165 - i : Nat) : Int)) ∧ w' = w := by
  go_enter Tryz.func25, Tryz.ntmps25
  go_wp2
  go_ret
  refine ⟨?_, rfl⟩
  show Ending.returned (.int .u8 _) = _
  congr 2
  omega

theorem info5 : ∃ i5, Tryz.prog.info? 5 = some i5 ∧ i5.zero = some (.int .u8 0) ∧ i5.size = 1 ∧ i5.bytes = 1 := by
  have hz : (Tryz.prog.info? 5).bind (·.zero) = some (.int .u8 0) := by kernel_rfl
  have hs : (Tryz.prog.info? 5).map (·.size) = some 1 := by kernel_rfl
  have hb : (Tryz.prog.info? 5).map (·.bytes) = some 1 := by kernel_rfl
  cases hi : Tryz.prog.info? 5 with
  | none => simp [hi] at hs
  | some i5 =>
    simp only [hi, Option.bind_some, Option.map_some, Option.some.injEq] at hz hs hb
    exact ⟨i5, rfl, hz, hs, hb⟩

/-- Bytes that are lent: in a block of their own, the marks behind them. -/
def Lent (w : World) (base g cap : Nat) (bs : List Nat) : Prop := w.ownsRow base 5 1 (.slice (some ⟨g, 0, none⟩) (bs.length + 70) cap) (bs.length + 70) (bytesV (bs ++ marksN 70))

/-- Behind i marks. -/
def LendSt (w : World) (bs : List Nat) (i : Nat) (v : Value) (wr : World) : Prop :=
  wr.ownsRow w.heap.size 5 1 v (bs.length + i) (bytesV (bs ++ marksN i)) ∧ Below w.heap.size w wr ∧ w.heap.size < wr.heap.size

set_option maxRecDepth 100000 in
set_option maxHeartbeats 4000000 in
theorem lend_some (ad : Addr) (n cap0 : Nat) (bs : List Nat) (w : World) (hn : n = bs.length) (hn2 : n ≤ 1000000) (hnews : ∀ j u, (bytesV bs)[j]? = some u → w.cell? (ad.add j) = some u) :
    Calls Tryz.prog 7 #[.slice (some ad) n cap0] w fun e w' => ∃ g cap, e = .returned (.slice (some ⟨g, 0, none⟩) n cap) ∧ Lent w' w.heap.size g cap bs ∧ Below w.heap.size w w' := by
  obtain ⟨i5, hi5⟩ := info5
  have Hi : Hid (Tryz.prog.info? 5 = some i5 ∧ i5.zero = some (.int .u8 0) ∧ i5.size = 1 ∧ i5.bytes = 1) := hi5
  have Hn : Hid (n = bs.length) := hn
  have HN : Hid (∀ j u, (bytesV bs)[j]? = some u → w.cell? (ad.add j) = some u) := hnews
  clear hi5 hn hnews
  obtain ⟨n70, hn70⟩ : ∃ n70 : Nat, (n : Int) + 70 = (n70 : Int) := ⟨n + 70, by omega⟩
  go_enter Tryz.func7, Tryz.ntmps7
  go_wp2_with (at_make; refine wpList_make_own _ rfl _ _ _ rfl w.heap.size 5 i5 (.int .u8 0) 1 Tryz.underlying23 Hi.out.1 Hi.out.2.1 Hi.out.2.2.1 .i64 .i64 (n70 : Int) n70 rfl (by simp [Act.eval]) rfl (by rw [Hi.out.2.2.2]; omega) (by unfold maxLen; omega) (Nat.le_refl _) ?_)
  intro w1 ho1 hg1
  have B1 : Below w.heap.size w w1 := grown_below hg1 (fun g hg => by simp at hg) (Nat.le_refl _)
  have z1 : w.heap.size < w1.heap.size := (ho1.lt w.heap.size rfl).2
  have HO1 : Hid (w1.ownsRow w.heap.size 5 1 (.slice (some ⟨w.heap.size, 0, none⟩) 0 n70) 0 [] ∧ Below w.heap.size w w1) := ⟨ho1, B1⟩
  clear ho1 hg1 B1
  go_wp2_with (at_builtin; refine wpList_append_own _ rfl _ _ _ rfl w.heap.size 5 i5 (.int .u8 0) 1 1 Tryz.underlying23 Hi.out.1 Hi.out.2.1 Hi.out.2.2.1 Hi.out.2.2.2 rfl (by decide) (.slice (some ⟨w.heap.size, 0, none⟩) 0 n70) 0 [] rfl HO1.out.1 ad n cap0 (bytesV bs) rfl ?c2 ?c3 (bytesV_cell bs) ?c4 ?c5 ?c7 ?c6)
  case c2 => rw [Nat.mul_one, Hn.out]; simp
  case c3 => intro j u hj; have h := HN.out j u hj; rw [HO1.out.2.cell (block_lt_of_cell h)]; exact h
  case c4 => unfold maxLen; omega
  case c5 => omega
  case c7 => omega
  case c6 =>
    intro v2 w2 ho2 hg2 _
    have B2 : Below w.heap.size w1 w2 := grown_below hg2 (fun g hg => by simp [Value.ownBlock] at hg; omega) (by omega)
    have HS2 : Hid (LendSt w bs 0 v2 w2) := ⟨by simpa [marksN, Hn.out] using ho2, HO1.out.2.trans B2, Nat.lt_of_lt_of_le z1 B2.size⟩
    clear ho2 hg2 B2 HO1 HN z1
    go_wp2_with fail
    go_loopw [3, 4] (fun t3 t4 wr => ∃ i : Nat, i ≤ 70 ∧ t4 = .int .i64 i ∧ Hid (LendSt w bs i t3 wr)) (fun _ t4 _ => 70 - (intOf t4).toNat)
    case atStart => exact ⟨0, by omega, rfl, HS2⟩
    case round =>
      obtain ⟨i, hi, rfl, HS⟩ := hrel
      by_cases hlt : i < 70
      · have hlt' : (i : Int) < 70 := by omega
        go_wp2_with fail
        refine (mark_any i wr (by omega)).mono ?_
        rintro e w3 ⟨rfl, rfl⟩
        go_wp2_with (at_builtin; refine wpList_append_lies _ rfl _ _ _ rfl w.heap.size 5 i5 (.int .u8 0) 1 1 Tryz.underlying23 Hi.out.1 Hi.out.2.1 Hi.out.2.2.1 Hi.out.2.2.2 rfl (by decide) _ (bs.length + i) (bytesV (bs ++ marksN i)) rfl (HS.out.1.alloc _) ⟨w3.heap.size, 0, none⟩ 1 1 [.int .u8 ((165 - i : Nat) : Int)] rfl rfl ?d2 ?d3 (by decide) ?d4 ?d5 ?d7 _ rfl ?d6)
        case d2 => intro j u hj; exact cell_new1 w3 _ 5 j u hj
        case d3 => intro u hu; simp at hu; subst hu; rfl
        case d4 => have := Hn.out; unfold maxLen; omega
        case d5 => have := Hn.out; omega
        case d7 => have := HS.out.2.2; simp; omega
        case d6 =>
          intro g cap w4 ho4 hg4 hat4 hlt4
          have B4 : Below w.heap.size w3 w4 := ((Below.refl _ _).alloc (by have := HS.out.2.2; omega) _).trans (grown_below hg4 (fun g hg => (HS.out.1.lt g hg).1) (by have := HS.out.2.2; simp; omega))
          have HS4 : Hid (LendSt w bs (i + 1) (.slice (some ⟨g, 0, none⟩) (bs.length + i + 1) cap) w4) := by
            refine ⟨?_, HS.out.2.1.trans B4, Nat.lt_of_lt_of_le HS.out.2.2 B4.size⟩
            rw [marksN_succ, ← List.append_assoc]
            simpa [bytesV, Nat.add_assoc] using ho4
          clear ho4 hg4 hat4 hlt4 B4 HS
          go_wp2_with fail
          go_roundw
          case rel => exact ⟨i + 1, by omega, by go_num, HS4⟩
          case measure => simp [intOf]; omega
      · have hi70 : i = 70 := by omega
        subst hi70
        obtain ⟨g, cap, hv, hg, hgs⟩ := HS.out.1.form (by omega)
        have hcap : bs.length + 70 ≤ cap := by
          rcases HS.out.1.2 with ⟨h, _⟩ | ⟨g', cap', cur, h, _, _, h2, _⟩
          · rw [hv] at h; simp at h
          · rw [hv] at h; simp only [Value.slice.injEq] at h; omega
        have hnc : n ≤ cap := by have := Hn.out; omega
        have HF : Hid (Lent wr w.heap.size g cap bs ∧ Below w.heap.size w wr) := ⟨by have := HS.out.1; rw [hv] at this; exact this, HS.out.2.1⟩
        clear HS
        subst hv
        go_wp2_with fail
        go_ret
        exact ⟨g, cap, rfl, HF.out⟩

set_option maxRecDepth 100000 in
set_option maxHeartbeats 4000000 in
theorem lend_none (bs : List Nat) (w : World) (hn : 0 = bs.length) :
    Calls Tryz.prog 7 #[.slice none 0 0] w fun e w' => ∃ g cap, e = .returned (.slice (some ⟨g, 0, none⟩) 0 cap) ∧ Lent w' w.heap.size g cap bs ∧ Below w.heap.size w w' := by
  obtain ⟨i5, hi5⟩ := info5
  have Hi : Hid (Tryz.prog.info? 5 = some i5 ∧ i5.zero = some (.int .u8 0) ∧ i5.size = 1 ∧ i5.bytes = 1) := hi5
  have Hn : Hid (0 = bs.length) := hn
  clear hi5 hn
  go_enter Tryz.func7, Tryz.ntmps7
  go_wp2_with (at_make; refine wpList_make_own _ rfl _ _ _ rfl w.heap.size 5 i5 (.int .u8 0) 1 Tryz.underlying23 Hi.out.1 Hi.out.2.1 Hi.out.2.2.1 .i64 .i64 (70 : Int) 70 rfl (by simp [Act.eval]) rfl (by rw [Hi.out.2.2.2]; omega) (by unfold maxLen; omega) (Nat.le_refl _) ?_)
  intro w1 ho1 hg1
  have B1 : Below w.heap.size w w1 := grown_below hg1 (fun g hg => by simp at hg) (Nat.le_refl _)
  have z1 : w.heap.size < w1.heap.size := (ho1.lt w.heap.size rfl).2
  have HO1 : Hid (w1.ownsRow w.heap.size 5 1 (.slice (some ⟨w.heap.size, 0, none⟩) 0 70) 0 [] ∧ Below w.heap.size w w1) := ⟨ho1, B1⟩
  clear ho1 hg1 B1
  go_wp2_with (at_builtin; refine wpList_append_own_none rfl _ _ _ rfl w.heap.size 5 i5 1 Tryz.underlying23 Hi.out.1 (.slice (some ⟨w.heap.size, 0, none⟩) 0 70) 0 [] rfl HO1.out.1 rfl ?c6)
  have HS2 : Hid (LendSt w bs 0 (.slice (some ⟨w.heap.size, 0, none⟩) 0 70) w1) := ⟨by rw [List.length_eq_zero_iff.1 Hn.out.symm]; simpa [marksN, bytesV] using HO1.out.1, HO1.out.2, z1⟩
  clear HO1 z1
  go_loopw [3, 4] (fun t3 t4 wr => ∃ i : Nat, i ≤ 70 ∧ t4 = .int .i64 i ∧ Hid (LendSt w bs i t3 wr)) (fun _ t4 _ => 70 - (intOf t4).toNat)
  case atStart => exact ⟨0, by omega, rfl, HS2⟩
  case round =>
    obtain ⟨i, hi, rfl, HS⟩ := hrel
    by_cases hlt : i < 70
    · have hlt' : (i : Int) < 70 := by omega
      go_wp2_with fail
      refine (mark_any i wr (by omega)).mono ?_
      rintro e w3 ⟨rfl, rfl⟩
      go_wp2_with (at_builtin; refine wpList_append_lies _ rfl _ _ _ rfl w.heap.size 5 i5 (.int .u8 0) 1 1 Tryz.underlying23 Hi.out.1 Hi.out.2.1 Hi.out.2.2.1 Hi.out.2.2.2 rfl (by decide) _ (bs.length + i) (bytesV (bs ++ marksN i)) rfl (HS.out.1.alloc _) ⟨w3.heap.size, 0, none⟩ 1 1 [.int .u8 ((165 - i : Nat) : Int)] rfl rfl ?d2 ?d3 (by decide) ?d4 ?d5 ?d7 _ rfl ?d6)
      case d2 => intro j u hj; exact cell_new1 w3 _ 5 j u hj
      case d3 => intro u hu; simp at hu; subst hu; rfl
      case d4 => have := Hn.out; unfold maxLen; omega
      case d5 => have := Hn.out; omega
      case d7 => have := HS.out.2.2; simp; omega
      case d6 =>
        intro g cap w4 ho4 hg4 hat4 hlt4
        have B4 : Below w.heap.size w3 w4 := ((Below.refl _ _).alloc (by have := HS.out.2.2; omega) _).trans (grown_below hg4 (fun g hg => (HS.out.1.lt g hg).1) (by have := HS.out.2.2; simp; omega))
        have HS4 : Hid (LendSt w bs (i + 1) (.slice (some ⟨g, 0, none⟩) (bs.length + i + 1) cap) w4) := by
          refine ⟨?_, HS.out.2.1.trans B4, Nat.lt_of_lt_of_le HS.out.2.2 B4.size⟩
          rw [marksN_succ, ← List.append_assoc]
          simpa [bytesV, Nat.add_assoc] using ho4
        clear ho4 hg4 hat4 hlt4 B4 HS
        go_wp2_with fail
        go_roundw
        case rel => exact ⟨i + 1, by omega, by go_num, HS4⟩
        case measure => simp [intOf]; omega
    · have hi70 : i = 70 := by omega
      subst hi70
      obtain ⟨g, cap, hv, hg, hgs⟩ := HS.out.1.form (by omega)
      have hcap : bs.length + 70 ≤ cap := by
        rcases HS.out.1.2 with ⟨h, _⟩ | ⟨g', cap', cur, h, _, _, h2, _⟩
        · rw [hv] at h; simp at h
        · rw [hv] at h; simp only [Value.slice.injEq] at h; omega
      have hnc : 0 ≤ cap := by omega
      have HF : Hid (Lent wr w.heap.size g cap bs ∧ Below w.heap.size w wr) := ⟨by have := HS.out.1; rw [hv] at this; exact this, HS.out.2.1⟩
      clear HS
      subst hv
      go_wp2_with fail
      go_ret
      exact ⟨g, cap, rfl, HF.out⟩

theorem lend_any (v : Value) (bs : List Nat) (w : World) (h : IsBy w v bs) (hn2 : bs.length ≤ 1000000) :
    Calls Tryz.prog 7 #[v] w fun e w' => ∃ g cap, e = .returned (.slice (some ⟨g, 0, none⟩) bs.length cap) ∧ Lent w' w.heap.size g cap bs ∧ Below w.heap.size w w' := by
  rcases h with h | ⟨ad, cap, rfl, rfl⟩
  · have h' := h
    rcases h with ⟨rfl, rfl⟩ | ⟨g, o, cap, rfl, hc⟩
    · exact lend_none [] w rfl
    · exact lend_some ⟨g, o, none⟩ bs.length cap bs w rfl hn2 h'.news.2
  · exact lend_some ad 0 cap [] w rfl (by omega) (fun j u hj => by simp [bytesV] at hj)

theorem Lent.lies {w : World} {base g cap : Nat} {bs : List Nat} (h : Lent w base g cap bs) : bs.length + 70 ≤ cap ∧ base ≤ g ∧ g < w.heap.size ∧ ∃ cur : Array Value, w.heap[g]? = some (.cells cur 5 (0, 0)) ∧ ∀ (i : Nat) (u : Value), (bytesV (bs ++ marksN 70))[i]? = some u → cur[i]? = some u := by
  obtain ⟨h1, h2⟩ := h
  rcases h2 with ⟨h2, _⟩ | ⟨g', cap', cur, h0, h4, h5, h6, _, h7, h8⟩
  · simp at h2
  · simp only [Value.slice.injEq, Option.some.injEq, Addr.mk.injEq] at h0
    obtain ⟨⟨rfl, _⟩, _, rfl⟩ := h0
    refine ⟨h6, h4, ?_, cur, h5, fun i u hu => ?_⟩
    · rcases Nat.lt_or_ge g w.heap.size with hlt | hge
      · exact hlt
      · rw [Array.getElem?_eq_none hge] at h5; cases h5
    · rw [← h8] at hu
      rw [← Array.getElem?_toList]
      have hi : i < (bs.length + 70) * 1 := by
        rcases Nat.lt_or_ge i ((bs.length + 70) * 1) with hlt | hge
        · exact hlt
        · rw [List.getElem?_eq_none (by rw [List.length_take]; omega)] at hu; cases hu
      rwa [List.getElem?_take_of_lt hi] at hu

theorem Lent.byte {w : World} {base g cap : Nat} {bs : List Nat} (h : Lent w base g cap bs) (i : Nat) (hi : i < bs.length) : w.cell? ⟨g, i, none⟩ = some (.int .u8 (bs.getD i 0 : Nat)) := by
  obtain ⟨_, _, _, cur, h1, h2⟩ := h.lies
  rw [cell_of_row _ _ _ _ _ _ h1]
  apply h2
  unfold bytesV
  rw [List.map_append, List.getElem?_append_left (by simpa using hi), List.getElem?_map, List.getD_eq_getElem?_getD, List.getElem?_eq_getElem hi]
  rfl

theorem Lent.mark {w : World} {base g cap : Nat} {bs : List Nat} (h : Lent w base g cap bs) (i : Nat) (hi : i < 70) : w.cell? ⟨g, bs.length + i, none⟩ = some (.int .u8 ((165 - i : Nat) : Int)) := by
  obtain ⟨_, _, _, cur, h1, h2⟩ := h.lies
  rw [cell_of_row _ _ _ _ _ _ h1]
  apply h2
  simp [bytesV, marksN, hi]

theorem Lent.free {w : World} {base g cap : Nat} {bs : List Nat} (h : Lent w base g cap bs) (i : Nat) : w.frozen? ⟨g, i, none⟩ = false := by
  obtain ⟨_, _, _, cur, h1, h2⟩ := h.lies
  exact frozen_of_row _ _ _ _ _ h1

theorem Lent.bytes {w : World} {base g cap : Nat} {bs : List Nat} (h : Lent w base g cap bs) : IsBytes w (.slice (some ⟨g, 0, none⟩) bs.length cap) bs :=
  .inr ⟨g, 0, cap, rfl, fun i hi => by rw [Nat.zero_add]; exact h.byte i hi⟩

theorem Lent.below {w w' : World} {base g cap : Nat} {bs : List Nat} (h : Lent w base g cap bs) (hB : Below w.heap.size w w') : Lent w' base g cap bs :=
  ownsRow_keep h (fun g' hg => hB.block g' (by simp only [Value.ownBlock, Option.some.injEq] at hg; subst hg; exact h.lies.2.2.1))

set_option maxRecDepth 100000 in
set_option maxHeartbeats 4000000 in
theorem intact_any (base g cap n : Nat) (v : Value) (bs : List Nat) (w : World) (hn : n = bs.length) (hn2 : n ≤ 1000000) (hL : Lent w base g cap bs) (hv : IsBy w v bs) :
    Calls Tryz.prog 10 #[.slice (some ⟨g, 0, none⟩) n cap, v] w fun e w' => e = .returned (.bool true) ∧ ∃ m, w' = w.drewN m := by
  have hc1 := convert_bytes w (.slice (some ⟨g, 0, none⟩) bs.length cap) bs hL.bytes
  have hc2 := convert_by w v bs hv
  rw [← hn] at hc1
  have hcap : n + 70 ≤ cap := by rw [hn]; exact hL.lies.1
  obtain ⟨n70, hn70⟩ : ∃ n70 : Nat, (n : Int) + 70 = (n70 : Int) := ⟨n + 70, by omega⟩
  have hn7 : n70 ≤ cap := by omega
  have HL : Hid (∀ i, i < 70 → w.cell? ⟨g, n + i, none⟩ = some (.int .u8 ((165 - i : Nat) : Int))) := fun i hi => by rw [hn]; exact hL.mark i hi
  clear hL hv hn
  generalize strOf bs = s at *
  go_enter Tryz.func10, Tryz.ntmps10
  go_wp2_with fail
  go_loopw [6] (fun t6 wr => ∃ i : Nat, i ≤ 70 ∧ t6 = .int .i64 i ∧ Hid (∃ m, wr = w.drewN m)) (fun t6 _ => 70 - (intOf t6).toNat)
  case atStart => exact ⟨0, by omega, rfl, ⟨0, rfl⟩⟩
  case round =>
    obtain ⟨i, hi, rfl, Hm⟩ := hrel
    by_cases hlt : i < 70
    · have hlt' : (i : Int) < 70 := by omega
      obtain ⟨k, hk⟩ : ∃ k : Nat, IntKind.i64.wrap ((n : Int) + (i : Int)) = (k : Int) := ⟨n + i, by rw [IntKind.wrap_i64]; omega⟩
      have hk' : k = n + i := by rw [IntKind.wrap_i64] at hk; omega
      have hkn : k < n70 := by omega
      have hki : (k : Int) < (n70 : Int) := by omega
      have hc : wr.cell? ⟨g, k, none⟩ = some (.int .u8 ((165 - i : Nat) : Int)) := by
        obtain ⟨m, rfl⟩ := Hm.out
        rw [hk']; exact HL.out i hlt
      have hmk := fun w => mark_any i w (by omega)
      have HM : Hid (∀ w, Calls Tryz.prog 25 #[.int .i64 i] w fun e w' => e = .returned (.int .u8 ((165 - i : Nat) : Int)) ∧ w' = w) := hmk
      clear hmk hk'
      generalize 165 - i = y at *
      go_wp2_with fail
      go_quiet ((go_at_call 25; exact Calls.quiet_of_same (HM.out _)))
      go_wp2_with fail
      refine ⟨⟨i + 1, by omega, by go_num, ?_⟩, by simp [intOf]; omega⟩
      obtain ⟨m, rfl⟩ := Hm.out
      exact ⟨m + nq, World.drewN_drewN _ _ _⟩
    · go_wp2_with fail
      go_ret
      exact ⟨rfl, Hm.out⟩


end Go.Proofs.YtpdaklklhoenhaaGreatDoor

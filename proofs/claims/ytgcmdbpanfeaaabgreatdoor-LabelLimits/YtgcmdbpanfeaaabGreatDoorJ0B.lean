/- Bytes as they lie, rows of one's own, the checksum. -/
import Derived.Test.YtgcmdbpanfeaaabGreatDoorB1M
import Derived.Test.YtgcmdbpanfeaaabGreatDoorD1M
import Derived.Test.YtgcmdbpanfeaaabGreatDoorProg
import Derived.WalkKit
import Derived.WalkSpells
import Derived.WalkLawsBesides
import Derived.Deep.QuietTactic
import Derived.BigQuiet
import Derived.BigRegion
import Derived.Deep.MidRow
import Derived.Deep.RegionHeldLaw
import Derived.Laws.BytesArg
import Derived.WalkMore
import Derived.Laws.CopyOwn
import Derived.Deep.RegionLaw
import Derived.Deep.RegionHeld3
import Derived.Laws.BitsAllLaws
import Derived.OwnWalk
import Derived.Laws.AppendOwnNone
import Derived.Deep.OwnRows
import Derived.Deep.AppendLies
namespace Go.Proofs.YtgcmdbpanfeaaabGreatDoor
open Go.RowKit
open M
set_option linter.unusedVariables false
set_option linter.unusedSimpArgs false

theorem cell_setCell_ne (w : World) (b i j : Nat) (v : Value) (h : j ≠ i) : (w.setCell ⟨b, i, none⟩ v).cell? ⟨b, j, none⟩ = w.cell? ⟨b, j, none⟩ := by
  simp only [World.cell?, World.setCell, Array.getElem?_modify]
  simp only [if_true]
  cases w.heap[b]? with
  | none => rfl
  | some o => cases o <;> simp
              rw [Array.getElem?_setIfInBounds_ne (by omega)]

theorem cell_setCell_eq (w : World) (b i : Nat) (v u : Value) (h : w.cell? ⟨b, i, none⟩ = some u) : (w.setCell ⟨b, i, none⟩ v).cell? ⟨b, i, none⟩ = some v := by
  simp only [World.cell?, World.setCell, Array.getElem?_modify] at h ⊢
  simp only [if_true]
  cases hb : w.heap[b]? with
  | none => simp [hb] at h
  | some o => cases o <;> simp [hb] at h ⊢
              rename_i c e f
              have hi : i < c.size := by
                rcases Nat.lt_or_ge i c.size with h1 | h1
                · exact h1
                · simp [h1] at h
              simp [hi]

theorem frozen_setCell (w : World) (a : Addr) (v : Value) (p : Addr) : (w.setCell a v).frozen? p = w.frozen? p := by
  simp only [World.frozen?, World.setCell, Array.getElem?_modify]
  by_cases h : a.block = p.block
  · rw [if_pos h]
    cases w.heap[p.block]? with
    | none => rfl
    | some o => cases o <;> simp
  · rw [if_neg h]

/-- The numbers of a text's bytes. -/
def bytesN (s : ByteArray) : List Nat := s.data.toList.map UInt8.toNat

@[simp] theorem bytesN_length (s : ByteArray) : (bytesN s).length = s.size := by simp [bytesN]

/-- The slice v holds the bytes bs. -/
def IsBytes (w : World) (v : Value) (bs : List Nat) : Prop :=
  (v = .slice none 0 0 ∧ bs = []) ∨ ∃ g o cap, v = .slice (some ⟨g, o, none⟩) bs.length cap ∧ ∀ i, i < bs.length → w.cell? ⟨g, o + i, none⟩ = some (.int .u8 (bs.getD i 0 : Nat))

/-- The text of these bytes. -/
def strOf (bs : List Nat) : ByteArray := strOfNums (bs.map fun (n : Nat) => (n : Int))

theorem bytesN_strOf (bs : List Nat) (h : ∀ n ∈ bs, n < 256) : bytesN (strOf bs) = bs := by
  unfold bytesN strOf
  rw [strOfNums_data, List.map_map, List.map_map]
  conv => rhs; rw [← List.map_id bs]
  apply List.map_congr_left
  intro n hn
  have := h n hn
  simp; omega

@[simp] theorem strOf_size (bs : List Nat) : (strOf bs).size = bs.length := by simp [strOf, strOfNums_size]

theorem convert_bytes (w : World) (v : Value) (bs : List Nat) (h : IsBytes w v bs) : (convert 42 9 v).run Tryz.prog w = .ok (.string (strOf bs)) w := by
  rcases h with ⟨rfl, rfl⟩ | ⟨g, o, cap, rfl, hc⟩
  · rw [run_convert_bytes_nil w 42 5 Tryz.underlying42 Tryz.underlying5 0 0 9 Tryz.underlying9]; rfl
  · exact run_convert_bytes_arg w 42 5 Tryz.underlying42 Tryz.underlying5 g o bs.length cap (bs.map fun (n : Nat) => (n : Int)) (by simp) (fun i hi => by rw [hc i hi]; simp [List.getD, hi]) 9 Tryz.underlying9

/-- Bytes as values. -/
def bytesV (bs : List Nat) : List Value := bs.map fun (n : Nat) => Value.int .u8 (n : Int)

@[simp] theorem bytesV_length (bs : List Nat) : (bytesV bs).length = bs.length := by simp [bytesV]

theorem make_bytes (c : Nat) (h : c ≤ 281474976710656) (w : World) :
    (Instr.makeSlice 42 (.int .i64 (c : Int)) (.int .i64 (c : Int))).run Tryz.prog w = .ok (.slice (some ⟨w.heap.size, 0, none⟩) c c) (w.alloc (.cells (List.replicate c (Value.int .u8 0)).toArray 5)) := by
  have hz : (Tryz.prog.info? 5).bind (·.zero) = some (.int .u8 0) := by kernel_rfl
  have hs : (Tryz.prog.info? 5).map (·.size) = some 1 := by kernel_rfl
  have hb : (Tryz.prog.info? 5).map (·.bytes) = some 1 := by kernel_rfl
  cases hi : Tryz.prog.info? 5 with
  | none => simp [hi] at hs
  | some i =>
    simp only [hi, Option.bind_some, Option.map_some, Option.some.injEq] at hz hs hb
    rw [run_make w 42 5 i _ Tryz.underlying42 hi hz .i64 .i64 (c : Int) (c : Int) (by omega) (by omega) (by rw [hb]; omega) (by omega)]
    have e : madeCells (Value.int .u8 0).cells ((c : Int).toNat * i.size) = (List.replicate c (Value.int .u8 0)).toArray := by
      rw [hs]
      apply Array.ext
      · simp [madeCells]
      · intro j h1 h2
        simp [madeCells, Value.cells, Nat.mod_one]
    rw [e]; simp

theorem isBytes_row {w : World} {g : Nat} {bs : List Nat} {cap : Nat} (h : w.heap[g]? = some (.cells (bytesV bs).toArray 5 (0, 0))) : IsBytes w (.slice (some ⟨g, 0, none⟩) bs.length cap) bs := by
  refine .inr ⟨g, 0, cap, rfl, fun i hi => ?_⟩
  rw [cell_of_row _ _ _ _ _ _ h]
  simp [bytesV, hi]

theorem new_kept {w : World} {o : Obj} {k : Nat} (h : w.heap[k]? = some o) (p : Obj) : (w.alloc p).heap[k]? = some o := by
  have hk : k < w.heap.size := by
    rcases Nat.lt_or_ge k w.heap.size with h1 | h1
    · exact h1
    · rw [Array.getElem?_eq_none h1] at h; cases h
  rw [Below.heap_alloc _ _ _ hk]; exact h

theorem isBytes_below {w w' : World} {v : Value} {bs : List Nat} (h : IsBytes w v bs) (hB : Below w.heap.size w w') : IsBytes w' v bs := by
  rcases h with h | ⟨g, o, cap, hv, hc⟩
  · exact .inl h
  · exact .inr ⟨g, o, cap, hv, fun i hi => by rw [hB.cell (p := ⟨g, o + i, none⟩) (block_lt_of_cell (hc i hi))]; exact hc i hi⟩

theorem size_lt_of_row {w : World} {g : Nat} {o : Obj} (h : w.heap[g]? = some o) : g < w.heap.size := by
  rcases Nat.lt_or_ge g w.heap.size with h1 | h1
  · exact h1
  · rw [Array.getElem?_eq_none h1] at h; cases h

/-- As IsBytes; or a slice of none, wherever it lies. -/
def IsBy (w : World) (v : Value) (bs : List Nat) : Prop := IsBytes w v bs ∨ ∃ ad cap, v = .slice (some ad) 0 cap ∧ bs = []

theorem convert_by (w : World) (v : Value) (bs : List Nat) (h : IsBy w v bs) : (convert 42 9 v).run Tryz.prog w = .ok (.string (strOf bs)) w := by
  rcases h with h | ⟨ad, cap, rfl, rfl⟩
  · exact convert_bytes w v bs h
  · rw [run_convert_bytes_string w 42 9 5 _ 0 cap Tryz.underlying42 Tryz.underlying5 Tryz.underlying9, run_bytesToString w ad 0 cap [] (by simp [loadCells, loadCellsFrom])]; rfl

theorem isBy_below {w w' : World} {v : Value} {bs : List Nat} (h : IsBy w v bs) (hB : Below w.heap.size w w') : IsBy w' v bs := by
  rcases h with h | h
  · exact .inl (isBytes_below h hB)
  · exact .inr h

theorem hide {p : Prop} (h : p) : Hid p := h

theorem n_not (n a : Nat) (h : a < 2 ^ n) : (2 ^ n - 1) ^^^ a = 2 ^ n - 1 - a := by
  refine Nat.eq_of_testBit_eq fun i => ?_
  rw [show 2 ^ n - 1 - a = 2 ^ n - (a + 1) by omega, Nat.testBit_two_pow_sub_succ h, Nat.testBit_xor, Nat.testBit_two_pow_sub_one]
  by_cases hi : i < n
  · simp [hi]
  · have : a.testBit i = false := Nat.testBit_lt_two_pow (Nat.lt_of_lt_of_le h (Nat.pow_le_pow_right (by omega) (by omega)))
    simp [hi, this]

theorem b32_not (b : Nat) (hb : b < 4294967296) : bits BinOp.xor IntKind.u32 IntKind.u32.max (b : Int) = ((4294967295 - b : Nat) : Int) := by
  have := u32_xor_nat 4294967295 b (by omega) hb
  rw [show 4294967295 ^^^ b = 4294967295 - b from n_not 32 b hb] at this; exact this


theorem by_slice {w : World} {v : Value} {bs : List Nat} (h : IsBy w v bs) : ∃ p cap, v = .slice p bs.length cap ∧ ∀ i, i < bs.length → ∃ b o, p = some ⟨b, o, none⟩ ∧ w.cell? ⟨b, o + i, none⟩ = some (.int .u8 ((bs.getD i 0 : Nat) : Int)) := by
  rcases h with (⟨h1, h2⟩ | ⟨g, o, cap, h1, h2⟩) | ⟨ad, cap, h1, h2⟩
  · exact ⟨none, 0, by rw [h1, h2]; rfl, fun i hi => by rw [h2] at hi; simp at hi⟩
  · exact ⟨_, cap, h1, fun i hi => ⟨g, o, rfl, h2 i hi⟩⟩
  · exact ⟨some ad, cap, by rw [h1, h2]; rfl, fun i hi => by rw [h2] at hi; simp at hi⟩

theorem getD_lt {bs : List Nat} (hb : ∀ n ∈ bs, n < 256) (i : Nat) (hi : i < bs.length) : bs.getD i 0 < 256 := hb _ (by rw [List.getD_eq_getElem?_getD, List.getElem?_eq_getElem hi]; exact List.getElem_mem hi)

theorem and15 (x : Nat) (hx : x < 4294967296) : bits BinOp.and IntKind.u32 (x : Int) 15 = ((x % 16 : Nat) : Int) := by
  have h := u32_and_nat x 15 hx (by omega)
  have e : x &&& 15 = x % 16 := Nat.and_two_pow_sub_one_eq_mod x 4
  rw [e] at h
  exact h


theorem ownsRow_keep {w w' : World} {base : Nat} {t : TypeId} {size : Nat} {v : Value} {n : Nat} {xs : List Value} (h : w.ownsRow base t size v n xs) (hk : ∀ g, v.ownBlock = some g → w'.heap[g]? = w.heap[g]?) : w'.ownsRow base t size v n xs := by
  obtain ⟨h1, h2⟩ := h
  refine ⟨h1, ?_⟩
  rcases h2 with h2 | ⟨g, cap, cur, rfl, h4, h5, h6⟩
  · exact .inl h2
  · exact .inr ⟨g, cap, cur, rfl, h4, (hk g rfl).trans h5, h6⟩

theorem IsBytes.news {w : World} {ad : Addr} {n c : Nat} {bs : List Nat} (h : IsBytes w (.slice (some ad) n c) bs) : n = bs.length ∧ ∀ j u, (bytesV bs)[j]? = some u → w.cell? (ad.add j) = some u := by
  rcases h with ⟨h, _⟩ | ⟨g, o, cap, h, h2⟩
  · simp at h
  · simp only [Value.slice.injEq, Option.some.injEq] at h
    obtain ⟨rfl, rfl, rfl⟩ := h
    refine ⟨rfl, fun j u hj => ?_⟩
    have hjl : j < bs.length := by
      rcases Nat.lt_or_ge j bs.length with h | h
      · exact h
      · rw [List.getElem?_eq_none (by simpa [bytesV] using h)] at hj; simp at hj
    rw [Addr.add_mid, h2 j hjl, ← hj]
    simp [bytesV, hjl]

theorem grown_below {w w' : World} {row : Option Nat} {B : Nat} (hg : w.grownBy w' row) (hr : ∀ g, row = some g → B ≤ g) (hB : B ≤ w.heap.size) : Below B w w' :=
  ⟨hg.os, hg.tape, hg.output, hg.size, fun k hk => hg.block k (by omega) (fun e => by have := hr k e.symm; omega)⟩

theorem bytesV_cell (bs : List Nat) : ∀ u ∈ bytesV bs, u.oneCell' = true := by
  intro u hu
  simp only [bytesV, List.mem_map] at hu
  obtain ⟨n, _, rfl⟩ := hu
  rfl

theorem info5 : ∃ i5, Tryz.prog.info? 5 = some i5 ∧ i5.zero = some (.int .u8 0) ∧ i5.size = 1 ∧ i5.bytes = 1 := by
  have hz : (Tryz.prog.info? 5).bind (·.zero) = some (.int .u8 0) := by kernel_rfl
  have hs : (Tryz.prog.info? 5).map (·.size) = some 1 := by kernel_rfl
  have hb : (Tryz.prog.info? 5).map (·.bytes) = some 1 := by kernel_rfl
  cases hi : Tryz.prog.info? 5 with
  | none => simp [hi] at hs
  | some i5 =>
    simp only [hi, Option.bind_some, Option.map_some, Option.some.injEq] at hz hs hb
    exact ⟨i5, rfl, hz, hs, hb⟩

/-- Bytes of one's own, from block B on. -/
structure OB (B : Nat) (w0 : World) (bs : List Nat) (v : Value) (wr : World) : Prop where
  own : wr.ownsRow B 5 1 v bs.length (bytesV bs)
  bel : Below B w0 wr
  le : B ≤ w0.heap.size

theorem OB.nil (w : World) : OB w.heap.size w [] (.slice none 0 0) w := ⟨World.ownsRow_nil _ _ _ _, Below.refl _ _, Nat.le_refl _⟩

theorem OB.below {B : Nat} {w0 wr w2 : World} {bs : List Nat} {v : Value} (h : OB B w0 bs v wr) (hB : Below wr.heap.size wr w2) : OB B w0 bs v w2 :=
  ⟨ownsRow_keep h.own fun g hg => hB.block g (h.own.lt g hg).2, h.bel.trans (hB.mono (Nat.le_trans h.le h.bel.size)), h.le⟩

theorem OB.by_ {B : Nat} {w0 wr : World} {bs : List Nat} {v : Value} (h : OB B w0 bs v wr) : IsBy wr v bs := by
  rcases h.own.2 with ⟨h1, h2⟩ | ⟨g, cap, cur, h1, hb, hg, hc, hm, hs, ht⟩
  · exact .inl (.inl ⟨h1, List.length_eq_zero_iff.1 h2⟩)
  · refine .inl (.inr ⟨g, 0, cap, h1, fun i hi => ?_⟩)
    have e : (bytesV bs)[i]? = some (.int .u8 ((bs.getD i 0 : Nat) : Int)) := by simp [bytesV, List.getD, hi]
    rw [Nat.zero_add, cell_of_row wr g i cur _ (0, 0) hg, ← e, ← ht, List.getElem?_take, if_pos (by omega)]
    simp

theorem bytesV_app (a b : List Nat) : bytesV (a ++ b) = bytesV a ++ bytesV b := by simp [bytesV]

theorem OB.more {B : Nat} {w0 wr w4 : World} {bs cs : List Nat} {v v2 : Value} (h : OB B w0 bs v wr) (ho : w4.ownsRow B 5 1 v2 (bs.length + cs.length) (bytesV bs ++ bytesV cs)) (hg : wr.grownBy w4 v.ownBlock) : OB B w0 (bs ++ cs) v2 w4 :=
  ⟨by rw [List.length_append, bytesV_app]; exact ho, h.bel.trans (grown_below hg (fun g hg => (h.own.lt g hg).1) (Nat.le_trans h.le h.bel.size)), h.le⟩

/-- How bytes that are appended lie. -/
theorem by_news {w : World} {v : Value} {bs : List Nat} (h : IsBy w v bs) : (v = .slice none 0 0 ∧ bs = []) ∨ ∃ ad cap, v = .slice (some ad) bs.length cap ∧ ∀ j u, (bytesV bs)[j]? = some u → w.cell? (ad.add j) = some u := by
  rcases h with h | ⟨ad, cap, rfl, rfl⟩
  · have h' := h
    rcases h with ⟨rfl, rfl⟩ | ⟨g, o, cap, rfl, hc⟩
    · exact .inl ⟨rfl, rfl⟩
    · exact .inr ⟨_, _, rfl, h'.news.2⟩
  · exact .inr ⟨ad, cap, rfl, fun j u hj => by simp [bytesV] at hj⟩


end Go.Proofs.YtgcmdbpanfeaaabGreatDoor

/- Names of files; why nothing may be asked; a file that is there; whether bytes have room. -/
import Derived.Test.YtlandfghodfjdaaGreatJ0L
import Derived.Maps.RangeRun
import Derived.MapKept
import Derived.Laws.Externs
import Derived.Lib.Strings
import Derived.Lib.Walk
import Derived.Lib.BufferWrite
import Derived.Lib.UnsafeStr
import Derived.Lib.Hide
import Derived.Laws.MakeOwn
/- A disk in memory: its cells, its map of files, each file's bytes; what a call may change. -/
namespace Go.Proofs.YtlandfghodfjdaaGreat
open Go.RowKit
set_option linter.unusedVariables false
set_option linter.unusedSimpArgs false

/-- A file on a disk: its name, its block, its slice, its bytes, how many are sure, its stamp in the map. -/
structure Fi where
  nm : ByteArray
  f : Nat
  v : Value
  bs : List Nat
  su : Nat
  born : Nat

def Fi.ent (x : Fi) : MapEntry := { key := .string x.nm, val := .pointer (some ⟨x.f, 0, none⟩), born := x.born }

/-- A disk: its block, its map's, its files, the map's clock, its room, whether it is off, what is armed, how many writes. -/
structure DS where
  d : Nat
  m : Nat
  L : List Fi
  clock : Nat
  room : Nat
  off : Bool
  ain : Nat
  keep : Int
  lose : Int
  wr : Nat

def DS.cells (S : DS) (lk : Int) : Array Value := #[.int .i32 lk, .int .u32 0, .int .i64 (S.room : Int), .map (some S.m), .bool S.off, .int .i64 (S.ain : Int), .int .i64 S.keep, .int .i64 S.lose, .int .i64 (S.wr : Int)]

/-- How many bytes files have. -/
def tot : List Fi → Nat
  | [] => 0
  | x :: l => x.bs.length + tot l

structure Dk (B : Nat) (w : World) (lk : Int) (S : DS) : Prop where
  dk : w.heap[S.d]? = some (.cells (S.cells lk) 68 (0, 0))
  mp : w.heap[S.m]? = some (.map (S.L.map Fi.ent).toArray S.clock)
  fl : ∀ x ∈ S.L, w.heap[x.f]? = some (.cells #[x.v, .int .i64 (x.su : Int)] 79 (0, 0))
  ow : ∀ x ∈ S.L, w.ownsRow B 5 1 x.v x.bs.length (bytesV x.bs)
  nd : (S.L.map (·.nm)).Nodup
  bn : (S.L.map (·.born)).Nodup
  fn : (S.L.map (·.f)).Nodup
  bl : ∀ x ∈ S.L, x.born < S.clock
  ap : S.L.Pairwise (fun x y => ∀ g, x.v.ownBlock = some g → y.v.ownBlock ≠ some g)
  bd : B ≤ S.d ∧ B ≤ S.m ∧ ∀ x ∈ S.L, B ≤ x.f
  by_ : ∀ x ∈ S.L, ∀ n ∈ x.bs, n < 256
  rm : tot S.L ≤ S.room ∧ S.room ≤ 268435456
  su : ∀ x ∈ S.L, x.su ≤ x.bs.length
  ct : S.L.length ≤ 256

/-- The blocks of a disk. -/
def Fp (S : DS) (k : Nat) : Prop := k = S.d ∨ k = S.m ∨ ∃ x ∈ S.L, k = x.f ∨ x.v.ownBlock = some k

/-- From a world and its disk's blocks to another: of what was there and not the disk's nothing has changed, and it isn't the disk's now. -/
structure Fr (w : World) (F : Nat → Prop) (w' : World) (F' : Nat → Prop) : Prop where
  os : w'.os = w.os
  tape : w'.tape = w.tape
  output : w'.output = w.output
  size : w.heap.size ≤ w'.heap.size
  block : ∀ k, k < w.heap.size → ¬ F k → ¬ F' k ∧ w'.heap[k]? = w.heap[k]?

theorem Fr.refl (w : World) (F : Nat → Prop) : Fr w F w F := ⟨rfl, rfl, rfl, Nat.le_refl _, fun _ _ h => ⟨h, rfl⟩⟩

theorem Fr.trans {a b c : World} {F G H : Nat → Prop} (h : Fr a F b G) (k : Fr b G c H) : Fr a F c H :=
  ⟨k.os.trans h.os, k.tape.trans h.tape, k.output.trans h.output, Nat.le_trans h.size k.size, fun i hi hn =>
    ⟨(k.block i (Nat.lt_of_lt_of_le hi h.size) (h.block i hi hn).1).1, (k.block i (Nat.lt_of_lt_of_le hi h.size) (h.block i hi hn).1).2.trans (h.block i hi hn).2⟩⟩

theorem Fr.of_below {w w' : World} {F : Nat → Prop} (h : Below w.heap.size w w') : Fr w F w' F := ⟨h.os, h.tape, h.output, h.size, fun k hk hn => ⟨hn, h.block k hk⟩⟩

theorem Fr.below {B : Nat} {w w' : World} {F F' : Nat → Prop} (h : Fr w F w' F') (hF : ∀ k, F k → B ≤ k) (hB : B ≤ w.heap.size) : Below B w w' :=
  ⟨h.os, h.tape, h.output, h.size, fun k hk => (h.block k (by omega) (fun e => by have := hF k e; omega)).2⟩

theorem heap_lt {w : World} {g : Nat} {o : Obj} (h : w.heap[g]? = some o) : g < w.heap.size := size_lt_of_row h

theorem Dk.fpB {B : Nat} {w : World} {lk : Int} {S : DS} (h : Dk B w lk S) : ∀ k, Fp S k → B ≤ k := by
  rintro k (rfl | rfl | ⟨x, hx, rfl | hg⟩)
  · exact h.bd.1
  · exact h.bd.2.1
  · exact h.bd.2.2 x hx
  · exact ((h.ow x hx).lt k hg).1

theorem Dk.fpLt {B : Nat} {w : World} {lk : Int} {S : DS} (h : Dk B w lk S) : ∀ k, Fp S k → k < w.heap.size := by
  rintro k (rfl | rfl | ⟨x, hx, rfl | hg⟩)
  · exact heap_lt h.dk
  · exact heap_lt h.mp
  · exact heap_lt (h.fl x hx)
  · exact ((h.ow x hx).lt k hg).2

theorem Dk.keep {B : Nat} {w w' : World} {lk : Int} {S : DS} (h : Dk B w lk S) (hk : ∀ k, Fp S k → w'.heap[k]? = w.heap[k]?) : Dk B w' lk S :=
  { h with
    dk := (hk _ (.inl rfl)).trans h.dk
    mp := (hk _ (.inr (.inl rfl))).trans h.mp
    fl := fun x hx => (hk _ (.inr (.inr ⟨x, hx, .inl rfl⟩))).trans (h.fl x hx)
    ow := fun x hx => ownsRow_keep (h.ow x hx) fun g hg => hk g (.inr (.inr ⟨x, hx, .inr hg⟩)) }

theorem Dk.below {B : Nat} {w w' : World} {lk : Int} {S : DS} (h : Dk B w lk S) (hb : Below w.heap.size w w') : Dk B w' lk S := h.keep fun k hk => hb.block k (h.fpLt k hk)

theorem Dk.lt {B : Nat} {w : World} {lk : Int} {S : DS} (h : Dk B w lk S) : B ≤ w.heap.size := Nat.le_trans h.bd.1 (Nat.le_of_lt (heap_lt h.dk))

/-- The disk's own cells are set. -/
theorem Dk.set {B : Nat} {w w' : World} {lk lk' : Int} {S S' : DS} (h : Dk B w lk S) (h' : w'.heap[S.d]? = some (.cells (S'.cells lk') 68 (0, 0))) (ho : ∀ k, k ≠ S.d → w'.heap[k]? = w.heap[k]?)
    (e : S' = { S with off := S'.off, ain := S'.ain, keep := S'.keep, lose := S'.lose, wr := S'.wr }) : Dk B w' lk' S' := by
  have hm : S.m ≠ S.d := fun e => by have := h.mp; rw [e, h.dk] at this; simp at this
  have hf : ∀ x ∈ S.L, x.f ≠ S.d := fun x hx e => by
    have := h.fl x hx; rw [e, h.dk] at this; simp at this
  have hg : ∀ x ∈ S.L, ∀ g, x.v.ownBlock = some g → g ≠ S.d := fun x hx g hg e => by
    rcases (h.ow x hx).2 with ⟨e1, _⟩ | ⟨g', cap, cur, e1, _, hh, _⟩
    · rw [e1] at hg; simp [Value.ownBlock] at hg
    · rw [e1] at hg; simp [Value.ownBlock] at hg; subst hg; rw [e, h.dk] at hh; simp at hh
  rw [e] at h' ⊢
  exact { h with
    dk := h'
    mp := (ho _ hm).trans h.mp
    fl := fun x hx => (ho _ (hf x hx)).trans (h.fl x hx)
    ow := fun x hx => ownsRow_keep (h.ow x hx) fun g hg' => ho g (hg x hx g hg') }

theorem heap_set_at {w : World} {b i : Nat} {cs : Array Value} {T : TypeId} {fr : Nat × Nat} (hb : w.heap[b]? = some (.cells cs T fr)) (v : Value) :
    (w.setCell ⟨b, i, none⟩ v).heap[b]? = some (.cells (cs.setIfInBounds i v) T fr) := by
  simp [World.setCell, Array.getElem?_modify, hb]

theorem Fr.setCell {w : World} {F : Nat → Prop} {a : Addr} (h : F a.block) (v : Value) : Fr w F (w.setCell a v) F :=
  ⟨rfl, rfl, rfl, by simp [World.setCell], fun k _ hn => ⟨hn, Below.heap_setCell _ _ _ _ (fun e => hn (by rw [e]; exact h))⟩⟩

theorem Dk.cell {B : Nat} {w : World} {lk : Int} {S : DS} (h : Dk B w lk S) (i : Nat) (v : Value) (hi : (S.cells lk)[i]? = some v) : w.cell? ⟨S.d, i, none⟩ = some v := by
  rw [cell_of_row w S.d i _ _ (0, 0) h.dk]; exact hi

theorem frozen_of {w : World} {b : Nat} {cs : Array Value} {T : TypeId} (h : w.heap[b]? = some (.cells cs T (0, 0))) (i : Nat) : w.frozen? ⟨b, i, none⟩ = false := by
  simp [World.frozen?, h]

/-- Only the disk's lock, in one cell. -/
theorem Dk.setLock {B : Nat} {w : World} {lk : Int} {S : DS} (h : Dk B w lk S) (n : Int) : Dk B (w.setCell ⟨S.d, 0, none⟩ (.int .i32 n)) n S :=
  h.set (S' := S) (by rw [heap_set_at h.dk]; rfl) (fun k hk => Below.heap_setCell _ _ _ _ hk) rfl

theorem Dk.setWr {B : Nat} {w : World} {lk : Int} {S : DS} (h : Dk B w lk S) (n : Nat) : Dk B (w.setCell ⟨S.d, 8, none⟩ (.int .i64 (n : Int))) lk { S with wr := n } :=
  h.set (S' := { S with wr := n }) (by rw [heap_set_at h.dk]; rfl) (fun k hk => Below.heap_setCell _ _ _ _ hk) rfl

theorem ent_inj {L : List Fi} (hn : (L.map (·.nm)).Nodup) {x y : Fi} (hx : x ∈ L) (hy : y ∈ L) (h : x.nm = y.nm) : x = y := by
  induction L with
  | nil => simp at hx
  | cons a t ih =>
    rw [List.map_cons, List.nodup_cons] at hn
    rcases List.mem_cons.1 hx with rfl | hx' <;> rcases List.mem_cons.1 hy with rfl | hy'
    · rfl
    · exact absurd (List.mem_map.2 ⟨y, hy', h.symm⟩) hn.1
    · exact absurd (List.mem_map.2 ⟨x, hx', h⟩) hn.1
    · exact ih hn.2 hx' hy'

theorem ent_keys (L : List Fi) : ∀ x ∈ L.map Fi.ent, MapKept.IsKey .string x.key := by
  intro e he
  obtain ⟨x, _, rfl⟩ := List.mem_map.1 he
  simp [Fi.ent, MapKept.IsKey]

theorem find_in {L : List Fi} (hn : (L.map (·.nm)).Nodup) {x : Fi} (hx : x ∈ L) : ∃ i, Instr.findNow .string (.string x.nm) (L.map Fi.ent) 0 = some (some (i, .pointer (some ⟨x.f, 0, none⟩))) := by
  rcases MapKept.findNow_spec (d := .string) (k := .string x.nm) (by simp [MapKept.IsKey]) (L.map Fi.ent) 0 (ent_keys L) with ⟨_, h2⟩ | ⟨j, e, h1, h2, h3⟩
  · exact absurd rfl (h2 x.ent (List.mem_map.2 ⟨x, hx, rfl⟩))
  · obtain ⟨y, hy, rfl⟩ := List.mem_map.1 (List.mem_of_getElem? h2)
    have : y.nm = x.nm := by simpa [Fi.ent] using h3
    rw [ent_inj hn hy hx this] at h1
    exact ⟨0 + j, h1⟩

theorem find_out {L : List Fi} {nm : ByteArray} (hn : ∀ x ∈ L, x.nm ≠ nm) : Instr.findNow .string (.string nm) (L.map Fi.ent) 0 = some none := by
  rcases MapKept.findNow_spec (d := .string) (k := .string nm) (by simp [MapKept.IsKey]) (L.map Fi.ent) 0 (ent_keys L) with ⟨h1, _⟩ | ⟨j, e, h1, h2, h3⟩
  · exact h1
  · obtain ⟨y, hy, rfl⟩ := List.mem_map.1 (List.mem_of_getElem? h2)
    exact absurd (by simpa [Fi.ent] using h3) (hn y hy)

section
variable {B : Nat} {w : World} {lk : Int} {S : DS}

theorem Dk.look (h : Dk B w lk S) {x : Fi} (hx : x ∈ S.L) : (Instr.lookup 57 (.map (some S.m)) (.string x.nm) false).run Tryz.prog w = .ok (.pointer (some ⟨x.f, 0, none⟩)) w := by
  obtain ⟨i, hi⟩ := find_in h.nd hx
  have hc : ∀ b, (Instr.checkKey b 10000 9 (.string x.nm)).run Tryz.prog w = .ok () w := fun b => MapKept.run_checkKey Tryz.underlying9 (by simp [MapKept.IsKey]) b 9999
  have hf : Instr.findNow .string (.string x.nm) (S.L.map Fi.ent) 0 = some (some (i, .pointer (some ⟨x.f, 0, none⟩))) := hi
  simp [Instr.lookup, run_underlying Tryz.underlying57, MapKept.run_getObj_map h.mp, hc, MapKept.run_findKey Tryz.underlying9 hf, Result.andThen]

theorem Dk.lookNo (h : Dk B w lk S) {nm : ByteArray} (hx : ∀ x ∈ S.L, x.nm ≠ nm) : (Instr.lookup 57 (.map (some S.m)) (.string nm) false).run Tryz.prog w = .ok (.pointer none) w := by
  have hc : ∀ b, (Instr.checkKey b 10000 9 (.string nm)).run Tryz.prog w = .ok () w := fun b => MapKept.run_checkKey Tryz.underlying9 (by simp [MapKept.IsKey]) b 9999
  have hf : Instr.findNow .string (.string nm) (S.L.map Fi.ent) 0 = some none := find_out hx
  simp [Instr.lookup, run_underlying Tryz.underlying57, MapKept.run_getObj_map h.mp, hc, MapKept.run_findKey Tryz.underlying9 hf, Result.andThen, Tryz.zeroValue80]

theorem Dk.len (h : Dk B w lk S) (ty : TypeId) : (Builtin.len_ #[57] ty #[.map (some S.m)]).run Tryz.prog w = .ok (.int .i64 (S.L.length : Int)) w := by
  simp [Builtin.len_, run_underlying Tryz.underlying57, MapKept.run_getObj_map h.mp, Result.andThen, goInt]

theorem Dk.put (h : Dk B w lk S) {nm : ByteArray} (hx : ∀ x ∈ S.L, x.nm ≠ nm) (f : Nat) :
    (Instr.mapUpdate 57 (.map (some S.m)) (.string nm) (.pointer (some ⟨f, 0, none⟩))).run Tryz.prog w = .ok () { w with heap := w.heap.setIfInBounds S.m (.map ((S.L.map Fi.ent).toArray.push { key := .string nm, val := .pointer (some ⟨f, 0, none⟩), born := S.clock }) (S.clock + 1)) } := by
  have hc : (Instr.checkKey false 10000 9 (.string nm)).run Tryz.prog w = .ok () w := MapKept.run_checkKey Tryz.underlying9 (by simp [MapKept.IsKey]) false 9999
  have hf : Instr.findNow .string (.string nm) (S.L.map Fi.ent) 0 = some none := find_out hx
  simp [Instr.mapUpdate, run_underlying Tryz.underlying57, MapKept.run_getObj_map h.mp, hc, MapKept.run_findKey Tryz.underlying9 hf, MapKept.run_setObj_map _ h.mp, Result.andThen]
end

end Go.Proofs.YtlandfghodfjdaaGreat

namespace Go.Proofs.YtlandfghodfjdaaGreat
open Go.RowKit
set_option linter.unusedVariables false
set_option linter.unusedSimpArgs false

set_option maxRecDepth 100000 in
theorem sindex_any (s : ByteArray) (c : Int) (w : World) : Calls Tryz.prog 63 #[.string s, .int .u8 c] w fun e w' => e = .returned (.int .i64 (firstIdx s c.toNat.toUInt8)) ∧ w' = w := by
  go_enter Tryz.func63, Tryz.ntmps63
  go_wp2
  rw [run_callFunc_extern Tryz.func92 (by kernel_rfl) (by kernel_rfl) (by kernel_rfl) (e := Extern.BytealgIndexByte.indexByte) (by kernel_rfl), run_indexByte_string]
  simp only [Result.andThen]
  rw [Oper.upon_value]
  go_wp2
  go_ret
  exact ⟨rfl, rfl⟩

def letters : ByteArray := { data := #[97, 98, 99, 100, 101, 102, 103, 104, 105, 106, 107, 108, 109, 110, 111, 112, 113, 114, 115, 116, 117, 118, 119, 120, 121, 122, 48, 49, 50, 51, 52, 53, 54, 55, 56, 57, 46, 45, 95] }

/-- What may be a file's name. -/
def okN (s : ByteArray) : Prop := 1 ≤ s.size ∧ s.size ≤ 64 ∧ ∀ (i : Nat) (h : i < s.size), 0 ≤ firstIdx letters (s[i]'h)

set_option maxRecDepth 100000 in
theorem mayBe_ok (s : ByteArray) (w : World) (hs : okN s) : Calls Tryz.prog 43 #[.string s] w fun e w' => e = .returned (.bool true) ∧ w' = w := by
  obtain ⟨L, hL⟩ : ∃ L, s.size = L := ⟨_, rfl⟩
  obtain ⟨h1, h2, h3⟩ := hs
  rw [hL] at h1 h2
  have H3 := hide h3
  clear h3
  have hl1 : ¬ (L : Int) < 1 := by omega
  have hl2 : ¬ (64 : Int) < (L : Int) := by omega
  go_enter Tryz.func43, Tryz.ntmps43
  go_wp2_with fail
  go_loop [14] (fun t => ∃ i : Nat, i ≤ L ∧ t = .int .i64 i) (fun t => L - (intOf t).toNat)
  case atStart => exact ⟨0, by omega, rfl⟩
  case round =>
    obtain ⟨i, hi, rfl⟩ := hrel
    by_cases hlt : i < L
    · have hlt' : (i : Int) < (L : Int) := by omega
      have hin : i < s.size := by omega
      have h0 := H3.out i hin
      obtain ⟨x, hx⟩ : ∃ x, (s[i]'hin).toNat = x := ⟨_, rfl⟩
      have hx2 : ((x : Int).toNat).toUInt8 = s[i]'hin := by rw [← hx]; simp
      obtain ⟨r, hr⟩ : ∃ r, firstIdx letters ((x : Int).toNat).toUInt8 = r := ⟨_, rfl⟩
      have hr0 : ¬ r < 0 := by rw [← hr, hx2]; omega
      go_wp2_with (go_at_call 63; refine (sindex_any letters (x : Int) _).mono ?_; rintro e w' ⟨rfl, rfl⟩; simp only [hr])
      go_round
      case rel => exact ⟨i + 1, by omega, by go_num⟩
      case measure => simp [intOf]; omega
    · have hlt' : ¬ (i : Int) < (L : Int) := by omega
      go_wp2_with fail
      go_ret
      exact ⟨rfl, rfl⟩

set_option maxRecDepth 100000 in
theorem refusal_ok {B : Nat} {S : DS} {lk : Int} (w : World) (h : Dk B w lk S) (hoff : S.off = false) (s : ByteArray) (hs : okN s) (g : Nat) (hg : w.cell? ⟨g, 0, none⟩ = some (.string s)) :
    Calls Tryz.prog 48 #[.pointer (some ⟨S.d, 0, none⟩), .slice (some ⟨g, 0, none⟩) 1 1] w fun e w' => e = .returned (.int .i64 0) ∧ w' = w := by
  have c4 := h.cell 4 (.bool false) (by rw [← hoff]; rfl)
  have HS := hide hs
  clear hs h
  go_enter Tryz.func48, Tryz.ntmps48
  go_wp2_with fail
  refine wp_loop_rounds 2 ?_
  rw [rounds_succ]
  go_wp2_with (go_at_call 43; refine (mayBe_ok s _ HS.out).mono ?_; rintro e w' ⟨rfl, rfl⟩)
  rw [rounds_succ]
  go_wp2_with fail
  go_ret
  exact ⟨rfl, rfl⟩

set_option maxRecDepth 100000 in
theorem find_ok {B : Nat} {S : DS} {lk : Int} (w : World) (h : Dk B w lk S) (hoff : S.off = false) (x : Fi) (hx : x ∈ S.L) (hs : okN x.nm) :
    Calls Tryz.prog 51 #[.pointer (some ⟨S.d, 0, none⟩), .string x.nm] w fun e w' => e = .returned (.tuple #[.pointer (some ⟨x.f, 0, none⟩), .int .i64 0]) ∧ Below w.heap.size w w' := by
  have HS := hide hs
  have hb : Below w.heap.size w (w.alloc (.cells #[.string x.nm] 9 (0, 0))) := (Below.refl _ _).alloc (Nat.le_refl _) _
  have h1 := h.below hb
  have hlk := h1.look hx
  have c3 := h1.cell 3 (.map (some S.m)) rfl
  have H1 := hide h1
  have HB := hide hb
  clear hs h h1 hb
  go_enter Tryz.func51, Tryz.ntmps51
  go_wp2_with (go_at_call 48; refine (refusal_ok _ H1.out hoff x.nm HS.out w.heap.size (by simp)).mono ?_; rintro e w' ⟨rfl, rfl⟩)
  go_ret2
  exact ⟨rfl, HB.out⟩

set_option maxRecDepth 100000 in
theorem find_no {B : Nat} {S : DS} {lk : Int} (w : World) (h : Dk B w lk S) (hoff : S.off = false) (nm : ByteArray) (hx : ∀ x ∈ S.L, x.nm ≠ nm) (hs : okN nm) :
    Calls Tryz.prog 51 #[.pointer (some ⟨S.d, 0, none⟩), .string nm] w fun e w' => e = .returned (.tuple #[.pointer none, .int .i64 102]) ∧ Below w.heap.size w w' := by
  have HS := hide hs
  have hb : Below w.heap.size w (w.alloc (.cells #[.string nm] 9 (0, 0))) := (Below.refl _ _).alloc (Nat.le_refl _) _
  have h1 := h.below hb
  have hlk := h1.lookNo hx
  have c3 := h1.cell 3 (.map (some S.m)) rfl
  have H1 := hide h1
  have HB := hide hb
  clear hs h h1 hb hx
  go_enter Tryz.func51, Tryz.ntmps51
  go_wp2_with (go_at_call 48; refine (refusal_ok _ H1.out hoff nm HS.out w.heap.size (by simp)).mono ?_; rintro e w' ⟨rfl, rfl⟩)
  go_ret2
  exact ⟨rfl, HB.out⟩

set_option maxHeartbeats 4000000 in
set_option maxRecDepth 100000 in
theorem sclone_any (s : ByteArray) (w : World) (hlim : s.size ≤ 1000000000) : Calls Tryz.prog 78 #[.string s] w fun e w' => e = .returned (.string s) ∧ Below w.heap.size w w' := by
  by_cases h0 : s.size = 0
  · have hs : s = ⟨#[]⟩ := by
      apply ByteArray.ext
      exact Array.eq_empty_of_size_eq_zero h0
    subst hs
    go_enter Tryz.func78, Tryz.ntmps78
    go_wp2
    go_ret
    exact ⟨rfl, Below.refl _ _⟩
  · obtain ⟨i0, hi, hz0, hz1, hz2⟩ := info5
    have hinfo : (Tryz.prog.info? 5).map (·.size) = some 1 := by rw [hi]; simp [hz1]
    have hco : Tryz.prog.cellsOf 5 = 1 := by simp [Program.cellsOf, hi, hz1]
    obtain ⟨M, hM⟩ : ∃ M, M = madeCells (Value.int .u8 0).cells (((s.size : Nat) : Int).toNat * i0.size) := ⟨_, rfl⟩
    have hMs : M.size = s.size := by rw [hM, size_madeCells, hz1]; simp
    have hmk : ∀ W : World, (Instr.makeSlice 33 (.int .i64 (s.size : Int)) (.int .i64 (s.size : Int))).run Tryz.prog W = .ok (.slice (some ⟨W.heap.size, 0, none⟩) s.size s.size) (W.alloc (.cells M 5)) := fun W => by
      have h := run_make (P := Tryz.prog) W 33 5 i0 (.int .u8 0) Tryz.underlying33 hi hz0 .i64 .i64 (s.size : Int) (s.size : Int) (by omega) (by omega) (by rw [hz2]; omega) (by omega)
      rw [← hM] at h
      simpa using h
    clear hM
    have hcp := Lib.run_copy_row_string (P := Tryz.prog) (w.alloc (.cells M 5)) 33 9 3 5 w.heap.size 0 s.size s.size s M 5 Tryz.underlying33 hinfo (heap_alloc_new w _) (Nat.le_refl _) (by omega)
    obtain ⟨Y, hY⟩ : ∃ Y, Y = (M.toList.take 0 ++ Lib.byteCells s.data.toList ++ M.toList.drop (0 + s.size)).toArray := ⟨_, rfl⟩
    rw [← hY] at hcp
    have hYl : Y.toList = Lib.byteCells s.data.toList := by
      rw [hY, List.toList_toArray, List.take_zero, List.nil_append, List.drop_of_length_le (by rw [Array.length_toList]; omega), List.append_nil]
    have hYs : Y.size = s.size := by rw [← Array.length_toList, hYl, Lib.byteCells_length, ← Lib.size_eq]
    have hgY : ((w.alloc (.cells M 5)).setRow w.heap.size Y).heap[w.heap.size]? = some (.cells Y 5 (0, 0)) := setRow_heap _ _ M _ 5 (0, 0) (heap_alloc_new w _)
    have hne : s.data.toList ≠ [] := fun e => h0 (by rw [Lib.size_eq, e]; rfl)
    have hUS := Lib.run_unsafeString_row (P := Tryz.prog) ((w.alloc (.cells M 5)).setRow w.heap.size Y) 139 3 9 5 Tryz.underlying139 hco w.heap.size Y.size (by unfold World.shape?; rw [hgY]) s.data.toList hne (by rw [← Lib.size_eq]; omega) (by rw [← Lib.size_eq]; omega)
      (fun j x hx => Lib.cells_of_row hgY Y.size j _ (by rw [List.take_of_length_le (by rw [Array.length_toList]; exact Nat.le_refl _), hYl]; simp [Lib.byteCells, hx]))
    rw [← Lib.size_eq] at hUS
    clear hY
    go_enter Tryz.func78, Tryz.ntmps78
    go_wp2
    go_ret
    have hb1 : Below w.heap.size w (w.alloc (.cells M 5)) := (Below.refl _ w).alloc (Nat.le_refl _) _
    have hb2 : Below w.heap.size (w.alloc (.cells M 5)) ((w.alloc (.cells M 5)).setRow w.heap.size Y) := ⟨rfl, rfl, rfl, by simp, fun k hk => setRow_other _ _ _ _ (by omega)⟩
    exact ⟨rfl, Lib.below_freeze (hb1.trans hb2) (p := ⟨w.heap.size, 0, none⟩) (Nat.le_refl _) _⟩

end Go.Proofs.YtlandfghodfjdaaGreat

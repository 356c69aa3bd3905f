/- A disk in memory: its cells, its map of files, each file's bytes; what a call may change. -/
import Derived.Test.YtiblnkiecpcdpaaJ0B
import Derived.Test.YtiblnkiecpcdpaaJ0L
import Derived.Maps.RangeRun
import Derived.MapKept
namespace Go.Proofs.Ytiblnkiecpcdpaa
open Go.RowKit
set_option linter.unusedVariables false
set_option linter.unusedSimpArgs false

/-- A file on a disk: its name, its block, its slice, its bytes, how many are sure, its stamp in the map. -/
structure Fi where
  nm : ByteArray
  f : Nat
  v : Value
  bs : List Nat
  su : Nat
  born : Nat

def Fi.ent (x : Fi) : MapEntry := { key := .string x.nm, val := .pointer (some ⟨x.f, 0, none⟩), born := x.born }

/-- A disk: its block, its map's, its files, the map's clock, its room, whether it is off, what is armed, how many writes. -/
structure DS where
  d : Nat
  m : Nat
  L : List Fi
  clock : Nat
  room : Nat
  off : Bool
  ain : Nat
  keep : Int
  lose : Int
  wr : Nat

def DS.cells (S : DS) (lk : Int) : Array Value := #[.int .i32 lk, .int .u32 0, .int .i64 (S.room : Int), .map (some S.m), .bool S.off, .int .i64 (S.ain : Int), .int .i64 S.keep, .int .i64 S.lose, .int .i64 (S.wr : Int)]

/-- How many bytes files have. -/
def tot : List Fi → Nat
  | [] => 0
  | x :: l => x.bs.length + tot l

structure Dk (B : Nat) (w : World) (lk : Int) (S : DS) : Prop where
  dk : w.heap[S.d]? = some (.cells (S.cells lk) 74 (0, 0))
  mp : w.heap[S.m]? = some (.map (S.L.map Fi.ent).toArray S.clock)
  fl : ∀ x ∈ S.L, w.heap[x.f]? = some (.cells #[x.v, .int .i64 (x.su : Int)] 83 (0, 0))
  ow : ∀ x ∈ S.L, w.ownsRow B 5 1 x.v x.bs.length (bytesV x.bs)
  nd : (S.L.map (·.nm)).Nodup
  bn : (S.L.map (·.born)).Nodup
  fn : (S.L.map (·.f)).Nodup
  bl : ∀ x ∈ S.L, x.born < S.clock
  ap : S.L.Pairwise (fun x y => ∀ g, x.v.ownBlock = some g → y.v.ownBlock ≠ some g)
  bd : B ≤ S.d ∧ B ≤ S.m ∧ ∀ x ∈ S.L, B ≤ x.f
  by_ : ∀ x ∈ S.L, ∀ n ∈ x.bs, n < 256
  rm : tot S.L ≤ S.room ∧ S.room ≤ 268435456
  su : ∀ x ∈ S.L, x.su ≤ x.bs.length
  ct : S.L.length ≤ 256

/-- The blocks of a disk. -/
def Fp (S : DS) (k : Nat) : Prop := k = S.d ∨ k = S.m ∨ ∃ x ∈ S.L, k = x.f ∨ x.v.ownBlock = some k

/-- From a world and its disk's blocks to another: of what was there and not the disk's nothing has changed, and it isn't the disk's now. -/
structure Fr (w : World) (F : Nat → Prop) (w' : World) (F' : Nat → Prop) : Prop where
  os : w'.os = w.os
  tape : w'.tape = w.tape
  output : w'.output = w.output
  size : w.heap.size ≤ w'.heap.size
  block : ∀ k, k < w.heap.size → ¬ F k → ¬ F' k ∧ w'.heap[k]? = w.heap[k]?

theorem Fr.refl (w : World) (F : Nat → Prop) : Fr w F w F := ⟨rfl, rfl, rfl, Nat.le_refl _, fun _ _ h => ⟨h, rfl⟩⟩

theorem Fr.trans {a b c : World} {F G H : Nat → Prop} (h : Fr a F b G) (k : Fr b G c H) : Fr a F c H :=
  ⟨k.os.trans h.os, k.tape.trans h.tape, k.output.trans h.output, Nat.le_trans h.size k.size, fun i hi hn =>
    ⟨(k.block i (Nat.lt_of_lt_of_le hi h.size) (h.block i hi hn).1).1, (k.block i (Nat.lt_of_lt_of_le hi h.size) (h.block i hi hn).1).2.trans (h.block i hi hn).2⟩⟩

theorem Fr.of_below {w w' : World} {F : Nat → Prop} (h : Below w.heap.size w w') : Fr w F w' F := ⟨h.os, h.tape, h.output, h.size, fun k hk hn => ⟨hn, h.block k hk⟩⟩

theorem Fr.below {B : Nat} {w w' : World} {F F' : Nat → Prop} (h : Fr w F w' F') (hF : ∀ k, F k → B ≤ k) (hB : B ≤ w.heap.size) : Below B w w' :=
  ⟨h.os, h.tape, h.output, h.size, fun k hk => (h.block k (by omega) (fun e => by have := hF k e; omega)).2⟩

theorem heap_lt {w : World} {g : Nat} {o : Obj} (h : w.heap[g]? = some o) : g < w.heap.size := size_lt_of_row h

theorem Dk.fpB {B : Nat} {w : World} {lk : Int} {S : DS} (h : Dk B w lk S) : ∀ k, Fp S k → B ≤ k := by
  rintro k (rfl | rfl | ⟨x, hx, rfl | hg⟩)
  · exact h.bd.1
  · exact h.bd.2.1
  · exact h.bd.2.2 x hx
  · exact ((h.ow x hx).lt k hg).1

theorem Dk.fpLt {B : Nat} {w : World} {lk : Int} {S : DS} (h : Dk B w lk S) : ∀ k, Fp S k → k < w.heap.size := by
  rintro k (rfl | rfl | ⟨x, hx, rfl | hg⟩)
  · exact heap_lt h.dk
  · exact heap_lt h.mp
  · exact heap_lt (h.fl x hx)
  · exact ((h.ow x hx).lt k hg).2

theorem Dk.keep {B : Nat} {w w' : World} {lk : Int} {S : DS} (h : Dk B w lk S) (hk : ∀ k, Fp S k → w'.heap[k]? = w.heap[k]?) : Dk B w' lk S :=
  { h with
    dk := (hk _ (.inl rfl)).trans h.dk
    mp := (hk _ (.inr (.inl rfl))).trans h.mp
    fl := fun x hx => (hk _ (.inr (.inr ⟨x, hx, .inl rfl⟩))).trans (h.fl x hx)
    ow := fun x hx => ownsRow_keep (h.ow x hx) fun g hg => hk g (.inr (.inr ⟨x, hx, .inr hg⟩)) }

theorem Dk.below {B : Nat} {w w' : World} {lk : Int} {S : DS} (h : Dk B w lk S) (hb : Below w.heap.size w w') : Dk B w' lk S := h.keep fun k hk => hb.block k (h.fpLt k hk)

theorem Dk.lt {B : Nat} {w : World} {lk : Int} {S : DS} (h : Dk B w lk S) : B ≤ w.heap.size := Nat.le_trans h.bd.1 (Nat.le_of_lt (heap_lt h.dk))

/-- The disk's own cells are set. -/
theorem Dk.set {B : Nat} {w w' : World} {lk lk' : Int} {S S' : DS} (h : Dk B w lk S) (h' : w'.heap[S.d]? = some (.cells (S'.cells lk') 74 (0, 0))) (ho : ∀ k, k ≠ S.d → w'.heap[k]? = w.heap[k]?)
    (e : S' = { S with off := S'.off, ain := S'.ain, keep := S'.keep, lose := S'.lose, wr := S'.wr }) : Dk B w' lk' S' := by
  have hm : S.m ≠ S.d := fun e => by have := h.mp; rw [e, h.dk] at this; simp at this
  have hf : ∀ x ∈ S.L, x.f ≠ S.d := fun x hx e => by
    have := h.fl x hx; rw [e, h.dk] at this; simp at this
  have hg : ∀ x ∈ S.L, ∀ g, x.v.ownBlock = some g → g ≠ S.d := fun x hx g hg e => by
    rcases (h.ow x hx).2 with ⟨e1, _⟩ | ⟨g', cap, cur, e1, _, hh, _⟩
    · rw [e1] at hg; simp [Value.ownBlock] at hg
    · rw [e1] at hg; simp [Value.ownBlock] at hg; subst hg; rw [e, h.dk] at hh; simp at hh
  rw [e] at h' ⊢
  exact { h with
    dk := h'
    mp := (ho _ hm).trans h.mp
    fl := fun x hx => (ho _ (hf x hx)).trans (h.fl x hx)
    ow := fun x hx => ownsRow_keep (h.ow x hx) fun g hg' => ho g (hg x hx g hg') }

theorem heap_set_at {w : World} {b i : Nat} {cs : Array Value} {T : TypeId} {fr : Nat × Nat} (hb : w.heap[b]? = some (.cells cs T fr)) (v : Value) :
    (w.setCell ⟨b, i, none⟩ v).heap[b]? = some (.cells (cs.setIfInBounds i v) T fr) := by
  simp [World.setCell, Array.getElem?_modify, hb]

theorem Fr.setCell {w : World} {F : Nat → Prop} {a : Addr} (h : F a.block) (v : Value) : Fr w F (w.setCell a v) F :=
  ⟨rfl, rfl, rfl, by simp [World.setCell], fun k _ hn => ⟨hn, Below.heap_setCell _ _ _ _ (fun e => hn (by rw [e]; exact h))⟩⟩

theorem Dk.cell {B : Nat} {w : World} {lk : Int} {S : DS} (h : Dk B w lk S) (i : Nat) (v : Value) (hi : (S.cells lk)[i]? = some v) : w.cell? ⟨S.d, i, none⟩ = some v := by
  rw [cell_of_row w S.d i _ _ (0, 0) h.dk]; exact hi

theorem frozen_of {w : World} {b : Nat} {cs : Array Value} {T : TypeId} (h : w.heap[b]? = some (.cells cs T (0, 0))) (i : Nat) : w.frozen? ⟨b, i, none⟩ = false := by
  simp [World.frozen?, h]

/-- Only the disk's lock, in one cell. -/
theorem Dk.setLock {B : Nat} {w : World} {lk : Int} {S : DS} (h : Dk B w lk S) (n : Int) : Dk B (w.setCell ⟨S.d, 0, none⟩ (.int .i32 n)) n S :=
  h.set (S' := S) (by rw [heap_set_at h.dk]; rfl) (fun k hk => Below.heap_setCell _ _ _ _ hk) rfl

theorem Dk.setWr {B : Nat} {w : World} {lk : Int} {S : DS} (h : Dk B w lk S) (n : Nat) : Dk B (w.setCell ⟨S.d, 8, none⟩ (.int .i64 (n : Int))) lk { S with wr := n } :=
  h.set (S' := { S with wr := n }) (by rw [heap_set_at h.dk]; rfl) (fun k hk => Below.heap_setCell _ _ _ _ hk) rfl

theorem ent_inj {L : List Fi} (hn : (L.map (·.nm)).Nodup) {x y : Fi} (hx : x ∈ L) (hy : y ∈ L) (h : x.nm = y.nm) : x = y := by
  induction L with
  | nil => simp at hx
  | cons a t ih =>
    rw [List.map_cons, List.nodup_cons] at hn
    rcases List.mem_cons.1 hx with rfl | hx' <;> rcases List.mem_cons.1 hy with rfl | hy'
    · rfl
    · exact absurd (List.mem_map.2 ⟨y, hy', h.symm⟩) hn.1
    · exact absurd (List.mem_map.2 ⟨x, hx', h⟩) hn.1
    · exact ih hn.2 hx' hy'

theorem ent_keys (L : List Fi) : ∀ x ∈ L.map Fi.ent, MapKept.IsKey .string x.key := by
  intro e he
  obtain ⟨x, _, rfl⟩ := List.mem_map.1 he
  simp [Fi.ent, MapKept.IsKey]

theorem find_in {L : List Fi} (hn : (L.map (·.nm)).Nodup) {x : Fi} (hx : x ∈ L) : ∃ i, Instr.findNow .string (.string x.nm) (L.map Fi.ent) 0 = some (some (i, .pointer (some ⟨x.f, 0, none⟩))) := by
  rcases MapKept.findNow_spec (d := .string) (k := .string x.nm) (by simp [MapKept.IsKey]) (L.map Fi.ent) 0 (ent_keys L) with ⟨_, h2⟩ | ⟨j, e, h1, h2, h3⟩
  · exact absurd rfl (h2 x.ent (List.mem_map.2 ⟨x, hx, rfl⟩))
  · obtain ⟨y, hy, rfl⟩ := List.mem_map.1 (List.mem_of_getElem? h2)
    have : y.nm = x.nm := by simpa [Fi.ent] using h3
    rw [ent_inj hn hy hx this] at h1
    exact ⟨0 + j, h1⟩

theorem find_out {L : List Fi} {nm : ByteArray} (hn : ∀ x ∈ L, x.nm ≠ nm) : Instr.findNow .string (.string nm) (L.map Fi.ent) 0 = some none := by
  rcases MapKept.findNow_spec (d := .string) (k := .string nm) (by simp [MapKept.IsKey]) (L.map Fi.ent) 0 (ent_keys L) with ⟨h1, _⟩ | ⟨j, e, h1, h2, h3⟩
  · exact h1
  · obtain ⟨y, hy, rfl⟩ := List.mem_map.1 (List.mem_of_getElem? h2)
    exact absurd (by simpa [Fi.ent] using h3) (hn y hy)

section
variable {B : Nat} {w : World} {lk : Int} {S : DS}

theorem Dk.look (h : Dk B w lk S) {x : Fi} (hx : x ∈ S.L) : (Instr.lookup 63 (.map (some S.m)) (.string x.nm) false).run Try.prog w = .ok (.pointer (some ⟨x.f, 0, none⟩)) w := by
  obtain ⟨i, hi⟩ := find_in h.nd hx
  have hc : ∀ b, (Instr.checkKey b 10000 9 (.string x.nm)).run Try.prog w = .ok () w := fun b => MapKept.run_checkKey Try.underlying9 (by simp [MapKept.IsKey]) b 9999
  have hf : Instr.findNow .string (.string x.nm) (S.L.map Fi.ent) 0 = some (some (i, .pointer (some ⟨x.f, 0, none⟩))) := hi
  simp [Instr.lookup, run_underlying Try.underlying63, MapKept.run_getObj_map h.mp, hc, MapKept.run_findKey Try.underlying9 hf, Result.andThen]

theorem Dk.lookNo (h : Dk B w lk S) {nm : ByteArray} (hx : ∀ x ∈ S.L, x.nm ≠ nm) : (Instr.lookup 63 (.map (some S.m)) (.string nm) false).run Try.prog w = .ok (.pointer none) w := by
  have hc : ∀ b, (Instr.checkKey b 10000 9 (.string nm)).run Try.prog w = .ok () w := fun b => MapKept.run_checkKey Try.underlying9 (by simp [MapKept.IsKey]) b 9999
  have hf : Instr.findNow .string (.string nm) (S.L.map Fi.ent) 0 = some none := find_out hx
  simp [Instr.lookup, run_underlying Try.underlying63, MapKept.run_getObj_map h.mp, hc, MapKept.run_findKey Try.underlying9 hf, Result.andThen, Try.zeroValue84]

theorem Dk.len (h : Dk B w lk S) (ty : TypeId) : (Builtin.len_ #[63] ty #[.map (some S.m)]).run Try.prog w = .ok (.int .i64 (S.L.length : Int)) w := by
  simp [Builtin.len_, run_underlying Try.underlying63, MapKept.run_getObj_map h.mp, Result.andThen, goInt]

theorem Dk.put (h : Dk B w lk S) {nm : ByteArray} (hx : ∀ x ∈ S.L, x.nm ≠ nm) (f : Nat) :
    (Instr.mapUpdate 63 (.map (some S.m)) (.string nm) (.pointer (some ⟨f, 0, none⟩))).run Try.prog w = .ok () { w with heap := w.heap.setIfInBounds S.m (.map ((S.L.map Fi.ent).toArray.push { key := .string nm, val := .pointer (some ⟨f, 0, none⟩), born := S.clock }) (S.clock + 1)) } := by
  have hc : (Instr.checkKey false 10000 9 (.string nm)).run Try.prog w = .ok () w := MapKept.run_checkKey Try.underlying9 (by simp [MapKept.IsKey]) false 9999
  have hf : Instr.findNow .string (.string nm) (S.L.map Fi.ent) 0 = some none := find_out hx
  simp [Instr.mapUpdate, run_underlying Try.underlying63, MapKept.run_getObj_map h.mp, hc, MapKept.run_findKey Try.underlying9 hf, MapKept.run_setObj_map _ h.mp, Result.andThen]
end

end Go.Proofs.Ytiblnkiecpcdpaa

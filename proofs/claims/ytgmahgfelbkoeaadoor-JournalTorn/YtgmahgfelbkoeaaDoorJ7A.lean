/- laid: a disk with a log of records, and where each begins. -/
import Derived.Test.YtgmahgfelbkoeaaDoorJ4G
namespace Go.Proofs.YtgmahgfelbkoeaaDoor
open Go.RowKit
set_option linter.unusedVariables false
set_option linter.unusedSimpArgs false

theorem infoInt : ∃ i, Tryd.prog.info? 3 = some i ∧ i.zero = some (.int .i64 0) ∧ i.size = 1 ∧ i.bytes = 8 := by
  obtain ⟨i, h1, h2, h3, h4⟩ := info_parts (P := Tryd.prog) (e := 3) (z := .int .i64 0) (size := 1) (bytes := 8) (by kernel_rfl)
  exact ⟨i, h1, h2, h3, h4⟩

/-- Where each record begins. -/
def pl (rr : List (List (List Nat))) (i : Nat) : Nat := 8 + (recsB (rr.take i)).length
def plV (rr : List (List (List Nat))) : List Value := (List.range (rr.length + 1)).map fun i => .int .i64 ((pl rr i : Nat) : Int)
theorem plV_more (rr : List (List (List Nat))) (rs : List (List Nat)) : plV (rr ++ [rs]) = plV rr ++ [.int .i64 ((8 + (recsB (rr ++ [rs])).length : Nat) : Int)] := by
  unfold plV
  rw [List.length_append, List.length_singleton, List.range_succ, List.map_append]
  congr 1
  · apply List.map_congr_left
    intro i hi
    have hi' : i ≤ rr.length := by have := List.mem_range.1 hi; omega
    simp only [pl]
    rw [List.take_append_of_le_length hi']
  · simp only [pl, List.map_cons, List.map_nil]
    rw [List.take_of_length_le (by simp)]

/-- A block of the law's own that is not the one of the places. -/
def GP (B : Nat) (w : World) (F : Nat → Prop) (l : Nat) (v : Value) (k : Nat) : Prop := Gd B w F l k ∧ v.ownBlock ≠ some k
theorem gp_fx {B : Nat} {w w' : World} {F F' : Nat → Prop} {l : Nat} {v : Value} (h : Fx l w F w' F') : ∀ k, GP B w F l v k → GP B w' F' l v k ∧ w'.heap[k]? = w.heap[k]? := fun k hk => ⟨⟨(gd_fx h k hk.1).1, hk.2⟩, (gd_fx h k hk.1).2⟩
theorem gp_below {B : Nat} {w w' : World} {F : Nat → Prop} {l : Nat} {v : Value} (h : Below w.heap.size w w') : ∀ k, GP B w F l v k → GP B w' F l v k ∧ w'.heap[k]? = w.heap[k]? := fun k hk => ⟨⟨(gd_below h k hk.1).1, hk.2⟩, (gd_below h k hk.1).2⟩

structure LdSt (W wr : World) (d l n : Nat) (vw vp : Value) (A L k : Nat) (p : PS) (F : Nat → Prop) (vals : List Value) (rr : List (List (List Nat))) : Prop where
  log : LogSt W wr d l p F rr A
  want : RecG (GP W.heap.size wr F l vp) W.heap.size wr vw vals rr
  plc : wr.ownsRow W.heap.size 3 1 vp (rr.length + 1) (plV rr)
  plg : ∀ k, vp.ownBlock = some k → Gd W.heap.size wr F l k
  k1 : k ≤ 30
  k2 : k ≤ n
  a1 : A ≤ 8 + 8 * k + (32768 - L)
  l1 : L ≤ 32768
  wr1 : p.wr ≤ 2 + 2 * k
  len : rr.length ≤ k
  few : ∀ r ∈ rr, r.length ≤ 1000000 ∧ ∀ x ∈ r, x.length ≤ 140737488355328

theorem ownsRow_slice {w : World} {B : Nat} {e : TypeId} {v : Value} {n : Nat} {xs : List Value} (h : w.ownsRow B e 1 v n xs) (hn : 0 < n) : ∃ p c, v = .slice p n c := by
  rcases h.2 with ⟨_, e2⟩ | ⟨g', cap, cur, e1, _⟩
  · omega
  · exact ⟨_, _, e1⟩


end Go.Proofs.YtgmahgfelbkoeaaDoor

/- A row of values that is appended to (64 bits). -/
import Derived.Test.YtenhippcjnemcaaDoorP1O64
import Derived.Deep.AppendLies
import Derived.Deep.CutRange
import Derived.OwnWalk
namespace Go.Proofs.YtenhippcjnemcaaDoor
open Go.RowKit
open M
set_option linter.unusedVariables false

theorem info64 : ∃ i5, Tryd.prog.info? 39 = some i5 ∧ i5.zero = some (.int .u64 0) ∧ i5.size = 1 ∧ i5.bytes = 64 / 8 := by
  have hz : (Tryd.prog.info? 39).bind (·.zero) = some (.int .u64 0) := by kernel_rfl
  have hs : (Tryd.prog.info? 39).map (·.size) = some 1 := by kernel_rfl
  have hb : (Tryd.prog.info? 39).map (·.bytes) = some (64 / 8) := by kernel_rfl
  cases hi : Tryd.prog.info? 39 with
  | none => simp [hi] at hs
  | some i5 =>
    simp only [hi, Option.bind_some, Option.map_some, Option.some.injEq] at hz hs hb
    exact ⟨i5, rfl, hz, hs, hb⟩

/-- Values as cells. -/
def valsV64 (i : Nat) (f : Nat → Nat) : List Value := (List.range i).map fun j => .int .u64 (f j : Int)

theorem valsV64_succ (i : Nat) (f : Nat → Nat) : valsV64 (i + 1) f = valsV64 i f ++ [.int .u64 (f i : Int)] := by simp [valsV64, List.range_succ]

theorem grown_below64 {w w' : World} {row : Option Nat} {B : Nat} (hg : w.grownBy w' row) (hr : ∀ g, row = some g → B ≤ g) (hB : B ≤ w.heap.size) : Below B w w' :=
  ⟨hg.os, hg.tape, hg.output, hg.size, fun k hk => hg.block k (by omega) (fun e => by have := hr k e.symm; omega)⟩

/-- The slice v is a row of one's own, from block B on, of i values. -/
def USt64 (B : Nat) (w0 : World) (f : Nat → Nat) (i : Nat) (v : Value) (wr : World) : Prop := wr.ownsRow B 39 1 v i (valsV64 i f) ∧ Below B w0 wr ∧ B ≤ w0.heap.size

theorem USt64.nil (w : World) (f : Nat → Nat) : USt64 w.heap.size w f 0 (.slice none 0 0) w := ⟨⟨by simp [valsV64], .inl ⟨rfl, rfl⟩⟩, Below.refl _ _, Nat.le_refl _⟩

theorem USt64.next {B : Nat} {w0 wr w4 : World} {f : Nat → Nat} {i g cap : Nat} {v : Value} {t : Nat} (h : USt64 B w0 f i v wr) (ht : t = f i)
    (ho : w4.ownsRow B 39 1 (.slice (some ⟨g, 0, none⟩) (i + 1) cap) (i + 1) (valsV64 i f ++ [.int .u64 (t : Int)]))
    (hg : (wr.alloc (.cells #[.int .u64 (t : Int)] 39)).grownBy w4 v.ownBlock) : USt64 B w0 f (i + 1) (.slice (some ⟨g, 0, none⟩) (i + 1) cap) w4 := by
  subst ht
  have hs := h.2.1.size
  have h3 := h.2.2
  exact ⟨by rw [valsV64_succ]; exact ho, (h.2.1.alloc (Nat.le_trans h3 hs) _).trans (grown_below64 hg (fun g hg => (h.1.lt g hg).1) (by simp; omega)), h3⟩

theorem USt64.row {B : Nat} {w0 wr : World} {f : Nat → Nat} {i : Nat} {v : Value} (h : USt64 B w0 f i v wr) : ∃ ad cap, v = .slice ad i cap ∧ i ≤ cap ∧ URow64 wr ad i f := by
  rcases h.1.2 with ⟨h1, h2⟩ | ⟨g, cap2, cur, h1, hb, hg, hc2, hm2, hs, ht⟩
  · exact ⟨none, 0, by rw [h1, h2], by omega, by rw [h2]; exact URow64.nil _ _ _⟩
  · refine ⟨_, cap2, h1, hc2, fun _ => ⟨g, 0, rfl, fun j hj => ?_⟩⟩
    have e : (valsV64 i f)[j]? = some (.int .u64 (f j : Int)) := by simp [valsV64, hj]
    rw [Nat.zero_add, cell_of_row wr g j cur _ (0, 0) hg, ← e, ← ht, List.getElem?_take, if_pos (by omega)]
    simp

theorem USt64.congr {B : Nat} {w0 wr : World} {f f' : Nat → Nat} {i : Nat} {v : Value} (h : USt64 B w0 f i v wr) (e : ∀ j, j < i → f j = f' j) : USt64 B w0 f' i v wr := by
  have : valsV64 i f = valsV64 i f' := by
    unfold valsV64
    apply List.map_congr_left
    intro j hj
    rw [e j (List.mem_range.1 hj)]
  exact ⟨by rw [← this]; exact h.1, h.2⟩

end Go.Proofs.YtenhippcjnemcaaDoor

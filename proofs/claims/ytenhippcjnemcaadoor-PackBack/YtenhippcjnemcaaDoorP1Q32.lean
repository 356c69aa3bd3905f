/- A row of values that is appended to (32 bits). -/
import Derived.Test.YtenhippcjnemcaaDoorP1O32
import Derived.Deep.AppendLies
import Derived.Deep.CutRange
import Derived.OwnWalk
namespace Go.Proofs.YtenhippcjnemcaaDoor
open Go.RowKit
open M
set_option linter.unusedVariables false

theorem info32 : ∃ i5, Tryd.prog.info? 42 = some i5 ∧ i5.zero = some (.int .u32 0) ∧ i5.size = 1 ∧ i5.bytes = 32 / 8 := by
  have hz : (Tryd.prog.info? 42).bind (·.zero) = some (.int .u32 0) := by kernel_rfl
  have hs : (Tryd.prog.info? 42).map (·.size) = some 1 := by kernel_rfl
  have hb : (Tryd.prog.info? 42).map (·.bytes) = some (32 / 8) := by kernel_rfl
  cases hi : Tryd.prog.info? 42 with
  | none => simp [hi] at hs
  | some i5 =>
    simp only [hi, Option.bind_some, Option.map_some, Option.some.injEq] at hz hs hb
    exact ⟨i5, rfl, hz, hs, hb⟩

/-- Values as cells. -/
def valsV32 (i : Nat) (f : Nat → Nat) : List Value := (List.range i).map fun j => .int .u32 (f j : Int)

theorem valsV32_succ (i : Nat) (f : Nat → Nat) : valsV32 (i + 1) f = valsV32 i f ++ [.int .u32 (f i : Int)] := by simp [valsV32, List.range_succ]

theorem grown_below32 {w w' : World} {row : Option Nat} {B : Nat} (hg : w.grownBy w' row) (hr : ∀ g, row = some g → B ≤ g) (hB : B ≤ w.heap.size) : Below B w w' :=
  ⟨hg.os, hg.tape, hg.output, hg.size, fun k hk => hg.block k (by omega) (fun e => by have := hr k e.symm; omega)⟩

/-- The slice v is a row of one's own, from block B on, of i values. -/
def USt32 (B : Nat) (w0 : World) (f : Nat → Nat) (i : Nat) (v : Value) (wr : World) : Prop := wr.ownsRow B 42 1 v i (valsV32 i f) ∧ Below B w0 wr ∧ B ≤ w0.heap.size

theorem USt32.nil (w : World) (f : Nat → Nat) : USt32 w.heap.size w f 0 (.slice none 0 0) w := ⟨⟨by simp [valsV32], .inl ⟨rfl, rfl⟩⟩, Below.refl _ _, Nat.le_refl _⟩

theorem USt32.next {B : Nat} {w0 wr w4 : World} {f : Nat → Nat} {i g cap : Nat} {v : Value} {t : Nat} (h : USt32 B w0 f i v wr) (ht : t = f i)
    (ho : w4.ownsRow B 42 1 (.slice (some ⟨g, 0, none⟩) (i + 1) cap) (i + 1) (valsV32 i f ++ [.int .u32 (t : Int)]))
    (hg : (wr.alloc (.cells #[.int .u32 (t : Int)] 42)).grownBy w4 v.ownBlock) : USt32 B w0 f (i + 1) (.slice (some ⟨g, 0, none⟩) (i + 1) cap) w4 := by
  subst ht
  have hs := h.2.1.size
  have h3 := h.2.2
  exact ⟨by rw [valsV32_succ]; exact ho, (h.2.1.alloc (Nat.le_trans h3 hs) _).trans (grown_below32 hg (fun g hg => (h.1.lt g hg).1) (by simp; omega)), h3⟩

theorem USt32.row {B : Nat} {w0 wr : World} {f : Nat → Nat} {i : Nat} {v : Value} (h : USt32 B w0 f i v wr) : ∃ ad cap, v = .slice ad i cap ∧ i ≤ cap ∧ URow32 wr ad i f := by
  rcases h.1.2 with ⟨h1, h2⟩ | ⟨g, cap2, cur, h1, hb, hg, hc2, hm2, hs, ht⟩
  · exact ⟨none, 0, by rw [h1, h2], by omega, by rw [h2]; exact URow32.nil _ _ _⟩
  · refine ⟨_, cap2, h1, hc2, fun _ => ⟨g, 0, rfl, fun j hj => ?_⟩⟩
    have e : (valsV32 i f)[j]? = some (.int .u32 (f j : Int)) := by simp [valsV32, hj]
    rw [Nat.zero_add, cell_of_row wr g j cur _ (0, 0) hg, ← e, ← ht, List.getElem?_take, if_pos (by omega)]
    simp

theorem USt32.congr {B : Nat} {w0 wr : World} {f f' : Nat → Nat} {i : Nat} {v : Value} (h : USt32 B w0 f i v wr) (e : ∀ j, j < i → f j = f' j) : USt32 B w0 f' i v wr := by
  have : valsV32 i f = valsV32 i f' := by
    unfold valsV32
    apply List.map_congr_left
    intro j hj
    rw [e j (List.mem_range.1 hj)]
  exact ⟨by rw [← this]; exact h.1, h.2⟩

end Go.Proofs.YtenhippcjnemcaaDoor

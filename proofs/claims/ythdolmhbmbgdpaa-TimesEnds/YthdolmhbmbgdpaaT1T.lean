/- A row of times that is appended to. -/
import Derived.Test.YthdolmhbmbgdpaaT1P
import Derived.Deep.AppendLies
import Derived.Deep.CutRange
namespace Go.Proofs.Ythdolmhbmbgdpaa
open Go.RowKit
open M
set_option linter.unusedVariables false

theorem cell_new1 (w : World) (x : Value) (t : TypeId) (j : Nat) (u : Value) (h : ([x] : List Value)[j]? = some u) : (w.alloc (.cells #[x] t)).cell? ((⟨w.heap.size, 0, none⟩ : Addr).add j) = some u := by
  match j, h with
  | 0, h => simp at h; subst h; rw [show (⟨w.heap.size, 0, none⟩ : Addr).add 0 = ⟨w.heap.size, 0 + 0, none⟩ from by unfold Addr.add; split <;> simp_all, cell_of_row _ _ _ _ _ _ (heap_alloc_new _ _)]; rfl

theorem grown_below {w w' : World} {row : Option Nat} {B : Nat} (hg : w.grownBy w' row) (hr : ∀ g, row = some g → B ≤ g) (hB : B ≤ w.heap.size) : Below B w w' :=
  ⟨hg.os, hg.tape, hg.output, hg.size, fun k hk => hg.block k (by omega) (fun e => by have := hr k e.symm; omega)⟩

theorem info64 : ∃ i5, Try.prog.info? 2 = some i5 ∧ i5.zero = some (.int .i64 0) ∧ i5.size = 1 ∧ i5.bytes = 8 := by
  have hz : (Try.prog.info? 2).bind (·.zero) = some (.int .i64 0) := by kernel_rfl
  have hs : (Try.prog.info? 2).map (·.size) = some 1 := by kernel_rfl
  have hb : (Try.prog.info? 2).map (·.bytes) = some 8 := by kernel_rfl
  cases hi : Try.prog.info? 2 with
  | none => simp [hi] at hs
  | some i5 =>
    simp only [hi, Option.bind_some, Option.map_some, Option.some.injEq] at hz hs hb
    exact ⟨i5, rfl, hz, hs, hb⟩

/-- Times as values. -/
def timesV (i : Nat) (f : Nat → Int) : List Value := (List.range i).map fun j => .int .i64 (f j)

theorem timesV_succ (i : Nat) (f : Nat → Int) : timesV (i + 1) f = timesV i f ++ [.int .i64 (f i)] := by simp [timesV, List.range_succ]

/-- The slice v is a row of one's own, from block B on, of i times. -/
def TSt (B : Nat) (w0 : World) (f : Nat → Int) (i : Nat) (v : Value) (wr : World) : Prop := wr.ownsRow B 2 1 v i (timesV i f) ∧ Below B w0 wr ∧ B ≤ w0.heap.size

theorem TSt.nil (w : World) (f : Nat → Int) : TSt w.heap.size w f 0 (.slice none 0 0) w := ⟨⟨by simp [timesV], .inl ⟨rfl, rfl⟩⟩, Below.refl _ _, Nat.le_refl _⟩

theorem TSt.next {B : Nat} {w0 wr w4 : World} {f : Nat → Int} {i g cap : Nat} {v : Value} {t : Int} (h : TSt B w0 f i v wr) (ht : t = f i)
    (ho : w4.ownsRow B 2 1 (.slice (some ⟨g, 0, none⟩) (i + 1) cap) (i + 1) (timesV i f ++ [.int .i64 t]))
    (hg : (wr.alloc (.cells #[.int .i64 t] 2)).grownBy w4 v.ownBlock) : TSt B w0 f (i + 1) (.slice (some ⟨g, 0, none⟩) (i + 1) cap) w4 := by
  subst ht
  have hs := h.2.1.size
  have h3 := h.2.2
  exact ⟨by rw [timesV_succ]; exact ho, (h.2.1.alloc (Nat.le_trans h3 hs) _).trans (grown_below hg (fun g hg => (h.1.lt g hg).1) (by simp; omega)), h3⟩

theorem TSt.row {B : Nat} {w0 wr : World} {f : Nat → Int} {i : Nat} {v : Value} (h : TSt B w0 f i v wr) : ∃ ad cap, v = .slice ad i cap ∧ i ≤ cap ∧ TRow wr ad i f := by
  rcases h.1.2 with ⟨h1, h2⟩ | ⟨g, cap2, cur, h1, hb, hg, hc2, hm2, hs, ht⟩
  · exact ⟨none, 0, by rw [h1, h2], by omega, by rw [h2]; exact TRow.nil _ _ _⟩
  · refine ⟨_, cap2, h1, hc2, fun _ => ⟨g, 0, rfl, fun j hj => ?_⟩⟩
    have e : (timesV i f)[j]? = some (.int .i64 (f j)) := by simp [timesV, hj]
    rw [Nat.zero_add, cell_of_row wr g j cur _ (0, 0) hg, ← e, ← ht, List.getElem?_take, if_pos (by omega)]
    simp

theorem TSt.congr {B : Nat} {w0 wr : World} {f f' : Nat → Int} {i : Nat} {v : Value} (h : TSt B w0 f i v wr) (e : ∀ j, j < i → f j = f' j) : TSt B w0 f' i v wr := by
  have : timesV i f = timesV i f' := by
    unfold timesV
    apply List.map_congr_left
    intro j hj
    rw [e j (List.mem_range.1 hj)]
  exact ⟨by rw [← this]; exact h.1, h.2⟩

end Go.Proofs.Ythdolmhbmbgdpaa

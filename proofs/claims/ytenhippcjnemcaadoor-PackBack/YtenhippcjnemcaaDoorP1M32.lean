/- Values that are taken one by one (32 bits). -/
import Derived.Test.YtenhippcjnemcaaDoorP1K32
import Derived.Test.YtenhippcjnemcaaDoorP1H32
namespace Go.Proofs.YtenhippcjnemcaaDoor
open Go.RowKit
open M
set_option linter.unusedVariables false
set_option linter.unusedSimpArgs false

theorem make_vals32 (c : Nat) (h : c ≤ 4096) (w : World) :
    (Instr.makeSlice 30 (.int .i64 (c : Int)) (.int .i64 (c : Int))).run Tryd.prog w = .ok (.slice (some ⟨w.heap.size, 0, none⟩) c c) (w.alloc (.cells (Array.replicate c (Value.int .u32 0)) 42)) := by
  have hz : (Tryd.prog.info? 42).bind (·.zero) = some (.int .u32 0) := by kernel_rfl
  have hs : (Tryd.prog.info? 42).map (·.size) = some 1 := by kernel_rfl
  have hb : (Tryd.prog.info? 42).map (·.bytes) = some (32 / 8) := by kernel_rfl
  cases hi : Tryd.prog.info? 42 with
  | none => simp [hi] at hs
  | some i =>
    simp only [hi, Option.bind_some, Option.map_some, Option.some.injEq] at hz hs hb
    rw [run_make w 30 42 i _ Tryd.underlying30 hi hz .i64 .i64 (c : Int) (c : Int) (by omega) (by omega) (by rw [hb]; omega) (by omega)]
    have e : madeCells (Value.int .u32 0).cells ((c : Int).toNat * i.size) = Array.replicate c (Value.int .u32 0) := by
      rw [hs]
      apply Array.ext
      · simp [madeCells]
      · intro j h1 h2
        simp [madeCells, Value.cells, Nat.mod_one]
    rw [e]; simp

/-- A row of n values of one's own, of which the first k are laid. -/
structure UW32 (w : World) (g n k : Nat) (f : Nat → Nat) : Prop where
  cell : ∀ i, i < n → w.cell? ⟨g, i, none⟩ = some (.int .u32 ((if i < k then f i else 0 : Nat) : Int))
  fz : ∀ i, w.frozen? ⟨g, i, none⟩ = false
  blk : ∃ cur : Array Value, w.heap[g]? = some (.cells cur 42 (0, 0)) ∧ cur.size = n

theorem UW32.new (w : World) (n : Nat) (f : Nat → Nat) : UW32 (w.alloc (.cells (Array.replicate n (Value.int .u32 0)) 42)) w.heap.size n 0 f := by
  have hn := heap_alloc_new w (.cells (Array.replicate n (Value.int .u32 0)) 42)
  refine ⟨fun i hi => ?_, fun i => frozen_of_row _ _ _ _ _ hn, _, hn, by simp⟩
  rw [cell_of_row _ _ _ _ _ _ hn]
  simp [hi]

theorem UW32.set {w : World} {g n k : Nat} {f : Nat → Nat} (h : UW32 w g n k f) (hk : k < n) (t : Nat) : UW32 (w.setCell ⟨g, k, none⟩ (.int .u32 (t : Int))) g n (k + 1) (fun i => if i = k then t else f i) := by
  refine ⟨fun i hi => ?_, fun i => by rw [frozen_setCell]; exact h.fz i, ?_⟩
  case refine_2 =>
    obtain ⟨cur, h1, h2⟩ := h.blk
    exact ⟨_, heap_setCell_same w g k cur _ _ h1, by simpa using h2⟩
  by_cases e : i = k
  · subst e
    rw [cell_setCell_eq _ _ _ _ _ (h.cell i hi)]; simp
  · rw [cell_setCell_ne _ _ _ _ _ e, h.cell i hi]
    by_cases h1 : i < k
    · simp [h1, e, show i < k + 1 from by omega]
    · simp [h1, show ¬ i < k + 1 from by omega]

theorem UW32.ofBlock {w w' : World} {g n k : Nat} {f : Nat → Nat} (h : UW32 w g n k f) (e : w'.heap[g]? = w.heap[g]?) : UW32 w' g n k f :=
  ⟨fun i hi => by rw [World.cell?_of_block (w := w) e]; exact h.cell i hi, fun i => by rw [World.frozen?_of_block (w := w) (w' := w') (a := ⟨g, i, none⟩) e]; exact h.fz i, by rw [e]; exact h.blk⟩

theorem UW32.congr {w : World} {g n k : Nat} {f f' : Nat → Nat} (h : UW32 w g n k f) (e : ∀ i, i < k → f i = f' i) : UW32 w g n k f' :=
  ⟨fun i hi => by rw [h.cell i hi]; by_cases h1 : i < k
                  · rw [if_pos h1, if_pos h1, e i h1]
                  · rw [if_neg h1, if_neg h1], h.fz, h.blk⟩

theorem UW32.urow {w : World} {g n : Nat} {f : Nat → Nat} (h : UW32 w g n n f) : URow32 w (some ⟨g, 0, none⟩) n f := fun _ =>
  ⟨g, 0, rfl, fun i hi => by rw [Nat.zero_add, h.cell i hi, if_pos hi]⟩

theorem Two32.setNew {b c : Nat} {u w : World} (h : Two32 b c u w) (g i : Nat) (hg : u.heap.size ≤ g) (v : Value) : Two32 b c u (w.setCell ⟨g, i, none⟩ v) :=
  ⟨h.os, h.tape, h.output, Nat.le_trans h.size (by simp [World.setCell]), fun k hk h1 h2 => by rw [Below.heap_setCell _ _ _ _ (show k ≠ g by omega)]; exact h.block k hk h1 h2⟩

/-- The bits begin with those of n values g. -/
def Begins32 (R : List Bool) (g : Nat → Nat) (n : Nat) : Prop := (∀ i, i < n → g i < 4294967296) ∧ ∃ r, R = cbn 32 5 g n ++ r

/-- What stands where k + 1 values have been taken. -/
structure Cn32 (w wr : World) (b c : Nat) (s : ByteArray) (g n k a : Nat) (e1 : Int) (f : Nat → Nat) : Prop where
  row : UW32 wr g n (k + 1) f
  rd : Rd wr b 0 s a e1
  col : Col32 wr c (f k) (win 32 5 f k).1 (win 32 5 f k).2
  two : Two32 b c w wr
  size : g < wr.heap.size
  rng : ∀ i, i < k + 1 → f i < 4294967296
  sound : e1 = 0 → (rb s).take a = cbn 32 5 f (k + 1)
  full : ∀ h, Begins32 (rb s) h n → e1 = 0 ∧ ∀ i, i < k + 1 → f i = h i

theorem xor_back32 (p x : Nat) : (p ^^^ x) ^^^ p = x := by rw [Nat.xor_comm p x, Nat.xor_assoc, Nat.xor_self, Nat.xor_zero]

/-- One value more. -/
theorem Cn32.next {w wr w2 : World} {b c : Nat} {s : ByteArray} {g n k a a' : Nat} {e1 e2 : Int} {f : Nat → Nat} (hk : k + 1 < n) (hg : w.heap.size ≤ g) (hgb : g ≠ b) (hgc : g ≠ c) (T : Cn32 w wr b c s g n k a e1 f) (x : Nat) (hx : x < 4294967296)
    (hR : Rd w2 b 0 s a' e2) (hO : Two32 b c wr w2) (hC : Col32 w2 c (f k ^^^ x) (nxt 32 5 ((win 32 5 f k).1, (win 32 5 f k).2) x).1 (nxt 32 5 ((win 32 5 f k).1, (win 32 5 f k).2) x).2)
    (hs : e2 = 0 → e1 = 0 ∧ (rb s).take a' = (rb s).take a ++ xb 32 5 (win 32 5 f k).1 (win 32 5 f k).2 x)
    (hf : e1 = 0 → ∀ y r, y < 4294967296 → (rb s).drop a = xb 32 5 (win 32 5 f k).1 (win 32 5 f k).2 y ++ r → x = y ∧ e2 = 0) :
    Cn32 w (w2.setCell ⟨g, k + 1, none⟩ (.int .u32 ((f k ^^^ x : Nat) : Int))) b c s g n (k + 1) a' e2 (fun i => if i = k + 1 then f k ^^^ x else f i) := by
  have hs2 := hO.size
  have hsz := T.size
  have ht : f k ^^^ x < 4294967296 := xor_lt 32 _ _ (T.rng k (by omega)) hx
  obtain ⟨F, hF⟩ : ∃ F : Nat → Nat, F = fun i => if i = k + 1 then f k ^^^ x else f i := ⟨_, rfl⟩
  have F1 : F (k + 1) = f k ^^^ x := by rw [hF]; simp
  have F2 : ∀ i, i ≤ k → F i = f i := fun i hi => by rw [hF]; simp; omega
  have ew : win 32 5 F k = win 32 5 f k := win_congr _ _ _ _ k (fun j hj => F2 j hj)
  have exx : F (k + 1) ^^^ F k = x := by rw [F1, F2 k (Nat.le_refl _)]; exact xor_back32 _ _
  have ez : xbf 32 5 F k = xb 32 5 (win 32 5 f k).1 (win 32 5 f k).2 x := by unfold xbf; rw [ew, exx]
  have en : win 32 5 F (k + 1) = nxt 32 5 ((win 32 5 f k).1, (win 32 5 f k).2) x := by simp only [win]; rw [ew, exx]
  have eb : cbn 32 5 F (k + 1) = cbn 32 5 f (k + 1) := cbn_congr _ _ _ _ _ fun i hi => F2 i (by omega)
  have hbk : (w2.setCell ⟨g, k + 1, none⟩ (.int .u32 ((f k ^^^ x : Nat) : Int))).heap[c]? = w2.heap[c]? := Below.heap_setCell _ _ _ _ (fun e => hgc e.symm)
  rw [← hF]
  refine ⟨?_, hR.setOther' g _ hgb _, ?_, (T.two.trans hO).setNew g _ hg _, by simp [World.setCell]; omega, fun i hi => ?_, fun he => ?_, ?_⟩
  · rw [hF]; exact (T.row.ofBlock (hO.block g T.size hgb hgc)).set hk (f k ^^^ x)
  · rw [F1, en]
    exact ⟨by rw [World.cell?_of_block (w := w2) hbk]; exact hC.ahead, by rw [World.cell?_of_block (w := w2) hbk]; exact hC.lead, by rw [World.cell?_of_block (w := w2) hbk]; exact hC.len, fun i => by rw [frozen_setCell]; exact hC.fz i⟩
  · by_cases e : i = k + 1
    · subst e; rw [F1]; exact ht
    · rw [F2 i (by omega)]; exact T.rng i (by omega)
  · obtain ⟨h1, h2⟩ := hs he
    rw [h2, T.sound h1, cbn_step, ez, eb]
  · intro h hB
    obtain ⟨h1, h2⟩ := T.full h hB
    obtain ⟨hr, r, hRR⟩ := hB
    obtain ⟨r1, h3⟩ := cbn_prefix 32 5 h (k + 2) n (by omega)
    rw [h3, cbn_step, List.append_assoc, List.append_assoc] at hRR
    have h4 : (rb s).take a = cbn 32 5 h (k + 1) := by rw [T.sound h1]; exact cbn_congr _ _ _ _ _ h2
    have h5 : (rb s).drop a = xbf 32 5 h k ++ (r1 ++ r) := by
      have := List.take_append_drop a (rb s)
      rw [h4] at this
      rw [hRR] at this ⊢
      exact List.append_cancel_left this
    have e5 : xbf 32 5 h k = xb 32 5 (win 32 5 f k).1 (win 32 5 f k).2 (h (k + 1) ^^^ h k) := by
      unfold xbf; rw [win_congr 32 5 f h k (fun j hj => h2 j (by omega))]
    rw [e5] at h5
    obtain ⟨h6, h7⟩ := hf h1 _ _ (xor_lt 32 _ _ (hr _ (by omega)) (hr _ (by omega))) h5
    refine ⟨h7, fun i hi => ?_⟩
    by_cases e : i = k + 1
    · subst e
      rw [F1, h6, h2 k (by omega), Nat.xor_comm (h (k + 1)), ← Nat.xor_assoc, Nat.xor_self, Nat.zero_xor]
    · rw [F2 i (by omega)]; exact h2 i (by omega)

/-- Bits that no value lays. -/
theorem Cn32.none {w wr : World} {b c : Nat} {s : ByteArray} {g n k a : Nat} {e1 : Int} {f : Nat → Nat} (hk : k + 1 < n) (T : Cn32 w wr b c s g n k a e1 f)
    (hf : e1 = 0 → ∀ y r, y < 4294967296 → (rb s).drop a = xb 32 5 (win 32 5 f k).1 (win 32 5 f k).2 y ++ r → False) : ¬ ∃ h, Begins32 (rb s) h n := by
  rintro ⟨h, hB⟩
  obtain ⟨h1, h2⟩ := T.full h hB
  obtain ⟨hr, r, hRR⟩ := hB
  obtain ⟨r1, h3⟩ := cbn_prefix 32 5 h (k + 2) n (by omega)
  rw [h3, cbn_step, List.append_assoc, List.append_assoc] at hRR
  have h4 : (rb s).take a = cbn 32 5 h (k + 1) := by rw [T.sound h1]; exact cbn_congr _ _ _ _ _ h2
  have h5 : (rb s).drop a = xbf 32 5 h k ++ (r1 ++ r) := by
    have := List.take_append_drop a (rb s)
    rw [h4] at this
    rw [hRR] at this ⊢
    exact List.append_cancel_left this
  have e5 : xbf 32 5 h k = xb 32 5 (win 32 5 f k).1 (win 32 5 f k).2 (h (k + 1) ^^^ h k) := by
    unfold xbf; rw [win_congr 32 5 f h k (fun j hj => h2 j (by omega))]
  rw [e5] at h5
  exact hf h1 _ _ (xor_lt 32 _ _ (hr _ (by omega)) (hr _ (by omega))) h5

/-- What takeAll tells. -/
def TakeAllEnd32 (w : World) (b : Nat) (s : ByteArray) (n : Nat) (e : Ending) (w' : World) : Prop :=
  (e = .returned (.tuple #[.slice none 0 0, .bool false]) ∧ Below b w w' ∧ ¬ ∃ h, Begins32 (rb s) h n) ∨
    ∃ (a : Nat) (e1 : Int) (f : Nat → Nat), e = .returned (.tuple #[.slice (some ⟨w.heap.size, 0, none⟩) n n, .bool true]) ∧ UW32 w' w.heap.size n n f ∧ Rd w' b 0 s a e1 ∧ Below b w w' ∧ (∀ i, i < n → f i < 4294967296) ∧
      (e1 = 0 → (rb s).take a = cbn 32 5 f n) ∧ (∀ h, Begins32 (rb s) h n → e1 = 0 ∧ ∀ i, i < n → f i = h i)

end Go.Proofs.YtenhippcjnemcaaDoor

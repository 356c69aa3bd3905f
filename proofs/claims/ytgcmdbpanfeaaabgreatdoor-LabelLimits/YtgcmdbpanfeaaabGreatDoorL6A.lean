/- A text of so many of one byte; is a list of one label a set? -/
import Derived.Test.YtgcmdbpanfeaaabGreatDoorL3I
namespace Go.Proofs.YtgcmdbpanfeaaabGreatDoor
open Go.RowKit
set_option linter.unusedVariables false
set_option linter.unusedSimpArgs false

/-- The row while it is laid. -/
def RpI (g n c : Nat) (w : World) (k : Nat) : Prop := ∃ cur : Array Value, w.heap[g]? = some (.cells cur 5 (0, 0)) ∧ cur.size = n ∧ ∀ j, j < k → cur[j]? = some (.int .u8 (c : Int))
theorem RpI.cell {g n c : Nat} {w : World} {k : Nat} (h : RpI g n c w k) (j : Nat) (hj : j < n) : ∃ u, w.cell? ⟨g, j, none⟩ = some u := by
  obtain ⟨cur, h1, h2, _⟩ := h
  exact ⟨cur[j]'(by omega), by rw [cell_of_row _ _ _ _ _ _ h1, Array.getElem?_eq_getElem (by omega)]⟩
theorem RpI.frozen {g n c : Nat} {w : World} {k : Nat} (h : RpI g n c w k) (j : Nat) : w.frozen? ⟨g, j, none⟩ = false := by
  obtain ⟨cur, h1, _⟩ := h
  simp [World.frozen?, h1]
theorem RpI.set {g n c : Nat} {w : World} {k : Nat} (h : RpI g n c w k) (hk : k < n) : RpI g n c (w.setCell ⟨g, k, none⟩ (.int .u8 (c : Int))) (k + 1) := by
  obtain ⟨cur, h1, h2, h3⟩ := h
  refine ⟨cur.setIfInBounds k (.int .u8 (c : Int)), by simp [World.setCell, Array.getElem?_modify, h1], by simp [h2], fun j hj => ?_⟩
  by_cases e : j = k
  · subst e; simp [h2, hk]
  · rw [Array.getElem?_setIfInBounds_ne (Ne.symm e)]; exact h3 j (by omega)
theorem RpI.is {g n c : Nat} {w : World} (h : RpI g n c w n) : IsBy w (.slice (some ⟨g, 0, none⟩) n n) (List.replicate n c) := by
  obtain ⟨cur, h1, h2, h3⟩ := h
  exact .inl (.inr ⟨g, 0, n, by simp, fun j hj => by
    have hj' : j < n := by simpa using hj
    rw [cell_of_row _ _ _ _ _ _ h1, Nat.zero_add, h3 j hj']
    simp [List.getD, hj']⟩)

set_option maxRecDepth 100000 in
theorem repeated_any (c n : Nat) (w : World) (hn : n ≤ 1000) : Calls Tryz.prog 17 #[.int .u8 (c : Int), .int .i64 (n : Int)] w fun e w' => e = .returned (.string (strOf (List.replicate n c))) ∧ Below w.heap.size w w' := by
  have HMk := hide (make_bytes n (by omega) w)
  have HB0 : Hid (Below w.heap.size w (w.alloc (.cells (List.replicate n (Value.int .u8 0)).toArray 5))) := (Below.refl _ _).alloc (Nat.le_refl _) _
  have HR0 : Hid (RpI w.heap.size n c (w.alloc (.cells (List.replicate n (Value.int .u8 0)).toArray 5)) 0) := ⟨_, heap_alloc_new w _, by simp, fun j hj => by omega⟩
  have hmk := HMk.out
  go_enter Tryz.func17, Tryz.ntmps17
  go_wp2
  clear hmk
  go_loopw [6] (fun t6 wr => ∃ i : Nat, i ≤ n ∧ t6 = .int .i64 i ∧ Hid (Below w.heap.size w wr ∧ RpI w.heap.size n c wr i)) (fun t6 _ => n - (intOf t6).toNat)
  case atStart => exact ⟨0, by omega, rfl, HB0.out, HR0.out⟩
  case round =>
    obtain ⟨i, hi, rfl, HI⟩ := hrel
    by_cases hlt : i < n
    · have hz : (i : Int) < (n : Int) := by omega
      obtain ⟨u, hu⟩ := HI.out.2.cell i hlt
      have hf := HI.out.2.frozen i
      have HI2 : Hid (Below w.heap.size w (wr.setCell ⟨w.heap.size, i, none⟩ (.int .u8 (c : Int))) ∧ RpI w.heap.size n c (wr.setCell ⟨w.heap.size, i, none⟩ (.int .u8 (c : Int))) (i + 1)) := ⟨HI.out.1.setCell (Nat.le_refl _) _, HI.out.2.set hlt⟩
      go_wp2_with fail
      go_roundw
      case rel => exact ⟨i + 1, by omega, by go_num, HI2.out⟩
      case measure => simp [intOf]; omega
    · have hz : ¬ (i : Int) < (n : Int) := by omega
      obtain rfl : i = n := by omega
      have hcv := convert_by wr _ _ HI.out.2.is
      go_wp2_with fail
      go_ret
      exact ⟨rfl, HI.out.1⟩

theorem row_one (w : World) (s v : ByteArray) : LR (w.alloc (.cells #[.string s, .string v] 34)) (some ⟨w.heap.size, 0, none⟩) [(s, v)] := by
  intro _
  refine ⟨w.heap.size, 0, rfl, fun i hi => ?_⟩
  have h := heap_alloc_new w (.cells #[.string s, .string v] 34)
  have hi1 : i < 1 := hi
  rw [cell_of_row _ _ _ _ _ _ h, cell_of_row _ _ _ _ _ _ h]
  match i, hi1 with
  | 0, _ => exact ⟨rfl, rfl⟩

theorem set_one {w : World} {s v : ByteArray} {e : Ending} {w' : World} (h : AnsSet w [(s, v)] e w') : ∃ u, e = .returned (.tuple #[u, .int .i64 (refL [] [(s, v)] : Nat)]) ∧ Below w.heap.size w w' := by
  unfold AnsSet at h
  by_cases h0 : refL [] [(s, v)] ≠ 0
  · rw [if_pos h0] at h
    exact ⟨_, h.1, h.2⟩
  · rw [if_neg h0] at h
    have hl : (flL [(s, v)]).length ≤ 1 := List.length_filter_le _ _
    rw [if_neg (by omega)] at h
    obtain ⟨u, h1, h2⟩ := h
    have e0 : refL [] [(s, v)] = 0 := Classical.byContradiction h0
    exact ⟨u, by rw [h1, e0]; rfl, h2.bel⟩

set_option maxRecDepth 100000 in
theorem one13_any (s v : ByteArray) (k : Nat) (w : World) (hs : s.size ≤ 1000000000 ∧ v.size ≤ 1000000000) (hT : UT w) (hk : refL [] [(s, v)] = k) : Calls Tryz.prog 16 #[.string s, .string v] w fun e w' => e = .returned (.int .i64 (k : Nat)) ∧ Below w.heap.size w w' := by
  obtain ⟨W, hW⟩ : ∃ W, w.alloc (.cells #[.string s, .string v] 34) = W := ⟨_, rfl⟩
  have HB0 : Hid (Below w.heap.size w W) := by rw [← hW]; exact hide ((Below.refl _ _).alloc (Nat.le_refl _) _)
  have HS : Hid (Calls Tryz.prog 6 #[.slice (some ⟨w.heap.size, 0, none⟩) 1 1] W fun e w' => ∃ u, e = .returned (.tuple #[u, .int .i64 (k : Nat)]) ∧ Below W.heap.size W w') := by
    have h := row_one w s v
    rw [hW] at h
    refine hide ((Set_any _ 1 1 [(s, v)] W h rfl (by decide) (by simpa using hs) (hT.below HB0.out)).mono fun e w' ha => ?_)
    have := set_one ha
    rw [hk] at this
    exact this
  clear hT hk
  go_enter Tryz.func16, Tryz.ntmps16
  go_wp2_with (first
    | (go_at_call 6; refine HS.out.mono ?_; rintro e w2 ⟨u, rfl, hb⟩; have HB := hide (HB0.out.trans (hb.mono HB0.out.size)); clear hb)
    | (go_at_call 8; refine (num13_any _ _).mono ?_; rintro e wn ⟨rfl, rfl⟩))
  go_ret
  exact ⟨rfl, HB.out⟩

end Go.Proofs.YtgcmdbpanfeaaabGreatDoor

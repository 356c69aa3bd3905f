/- A matcher that asks for one value. -/
import Derived.Test.YtgcmdbpanfeaaabGreatDoorL2B
import Derived.Test.YtgcmdbpanfeaaabGreatDoorL1B
namespace Go.Proofs.YtgcmdbpanfeaaabGreatDoor
open Go.RowKit
set_option linter.unusedVariables false
set_option linter.unusedSimpArgs false

/-- A matcher that asks for the value y of x. -/
def eqM (x y : ByteArray) : Value := .agg #[.int .i64 1, .string x, .string y, .slice none 0 0]

set_option maxRecDepth 100000 in
theorem qKind_eq (x y : ByteArray) (w : World) : Calls Tryz.prog 54 #[eqM x y] w fun e w' => e = .returned (.iface 123 (.string y)) ∧ Below w.heap.size w w' := by
  have ha : Below w.heap.size w (w.alloc (.cells #[.int .i64 1, .string x, .string y, .slice none 0 0] 54)) := (Below.refl _ _).alloc (Nat.le_refl _) _
  have HA := hide ha
  clear ha
  unfold eqM
  go_enter Tryz.func54, Tryz.ntmps54
  go_wp2_with fail
  go_ret
  exact ⟨rfl, HA.out⟩

theorem ahOne (v : ByteArray) (w : World) : (nilAhead 287 123 (.string v) "fathom/label.takes").run Tryz.prog w = .ok (some false) w := by kernel_rfl

theorem meOne (v : ByteArray) (w : World) : (method 287 123 (.string v) "fathom/label.takes").run Tryz.prog w = .ok (138, .string v) w := by kernel_rfl

theorem asOne (v : Value) (w : World) : (Instr.typeAssert (.iface 123 v) 73 103 true).run Tryz.prog w = .ok (.tuple #[.slice none 0 0, .bool false]) w := by kernel_rfl

set_option maxRecDepth 100000 in
theorem question_eq (x y : ByteArray) (w : World) (h1 : x.size ≤ 1000000000) (h2 : y.size ≤ 1000000000) (hx : nameOk (bytesN x) = true) (hT : UT w) :
    Calls Tryz.prog 35 #[eqM x y] w fun e w' => e = .returned (.tuple #[.iface 123 (.string y), .bool (valueOk (bytesN y))]) ∧ Below w.heap.size w w' := by
  have HT := hide hT
  obtain ⟨W, hW⟩ : ∃ W, w.alloc (.cells #[.int .i64 1, .string x, .string y, .slice none 0 0] 54) = W := ⟨_, rfl⟩
  have HB0 : Hid (Below w.heap.size w W ∧ w.heap.size < W.heap.size) := by rw [← hW]; exact ⟨(Below.refl _ _).alloc (Nat.le_refl _) _, by simp⟩
  have HF : Hid (∀ w', Below W.heap.size W w' → w'.cell? ⟨w.heap.size, 0, none⟩ = some (.int .i64 1) ∧ w'.cell? ⟨w.heap.size, 1, none⟩ = some (.string x) ∧ w'.cell? ⟨w.heap.size, 2, none⟩ = some (.string y) ∧ w'.cell? ⟨w.heap.size, 3, none⟩ = some (.slice none 0 0)) := by
    intro w' hb
    have hs := HB0.out.2
    rw [hb.cell (p := ⟨w.heap.size, 0, none⟩) hs, hb.cell (p := ⟨w.heap.size, 1, none⟩) hs, hb.cell (p := ⟨w.heap.size, 2, none⟩) hs, hb.cell (p := ⟨w.heap.size, 3, none⟩) hs, ← hW]
    simp
  have HQ := hide (fun w => qKind_eq x y w)
  have HNm := hide (fun w => isName_any x w (by omega))
  have HVl := hide (fun w h => isValue_any y w h (by omega))
  rw [hx] at HNm
  obtain ⟨VO, hVO⟩ : ∃ v, valueOk (bytesN y) = v := ⟨_, rfl⟩
  rw [hVO] at HVl ⊢
  obtain ⟨a0, a1, a2, a3⟩ := HF.out W (Below.refl _ _)
  have has := asOne (.string y)
  clear hT hVO hx
  unfold eqM
  go_enter Tryz.func35, Tryz.ntmps35
  go_wp2_with (first
    | (go_at_call 54; refine (HQ.out _).mono ?_; rintro e w2 ⟨rfl, hb⟩; have HB2 : Hid (Below W.heap.size W w2) := hb; obtain ⟨b0, b1, b2, b3⟩ := HF.out w2 HB2.out; clear hb)
    | (go_at_call 36; refine (HNm.out _).mono ?_; rintro e w3 ⟨rfl, rfl⟩)
    | (go_at_call 37; refine (HVl.out _ (HT.out.below (HB0.out.1.trans (HB2.out.mono (by have := HB0.out.2; omega))))).mono ?_; rintro e w4 ⟨rfl, hb⟩; have HB4 := hide (HB2.out.trans (hb.mono HB2.out.size)); clear hb))
  go_ret2
  exact ⟨rfl, HB0.out.1.trans (HB4.out.mono (Nat.le_of_lt HB0.out.2))⟩

set_option maxRecDepth 100000 in
theorem isThis_any (y v : ByteArray) (w : World) : Calls Tryz.prog 138 #[.string y, .string v] w fun e w' => e = .returned (.bool (decide (v = y))) ∧ w' = w := by
  have he := str_eq_iff v y
  go_enter Tryz.func138, Tryz.ntmps138
  go_wp2_with fail
  go_ret
  exact ⟨rfl, rfl⟩

set_option maxRecDepth 100000 in
set_option maxHeartbeats 1000000 in
theorem Match_eq (x y : ByteArray) (p : Option Addr) (n c : Nat) (L : List Lab) (w : World) (h : LR w p L) (hn : L.length = n) (hl : n ≤ 1000000000) (h1 : x.size ≤ 1000000000) (h2 : y.size ≤ 1000000000) (hx : nameOk (bytesN x) = true) (hy : valueOk (bytesN y) = true) (hT : UT w) :
    Calls Tryz.prog 26 #[eqM x y, .slice p n c] w fun e w' => e = .returned (.bool (decide (getL L x = y))) ∧ Below w.heap.size w w' := by
  obtain ⟨W, hW⟩ : ∃ W, w.alloc (.cells #[.int .i64 1, .string x, .string y, .slice none 0 0] 54) = W := ⟨_, rfl⟩
  have HB0 : Hid (Below w.heap.size w W ∧ w.heap.size < W.heap.size) := by rw [← hW]; exact ⟨(Below.refl _ _).alloc (Nat.le_refl _) _, by simp⟩
  have HF : Hid (∀ w', Below W.heap.size W w' → w'.cell? ⟨w.heap.size, 0, none⟩ = some (.int .i64 1) ∧ w'.cell? ⟨w.heap.size, 1, none⟩ = some (.string x) ∧ w'.cell? ⟨w.heap.size, 2, none⟩ = some (.string y) ∧ w'.cell? ⟨w.heap.size, 3, none⟩ = some (.slice none 0 0)) := by
    intro w' hb
    have hs := HB0.out.2
    rw [hb.cell (p := ⟨w.heap.size, 0, none⟩) hs, hb.cell (p := ⟨w.heap.size, 1, none⟩) hs, hb.cell (p := ⟨w.heap.size, 2, none⟩) hs, hb.cell (p := ⟨w.heap.size, 3, none⟩) hs, ← hW]
    simp
  have HQ : Hid (∀ w', Below w.heap.size w w' → Calls Tryz.prog 35 #[.agg #[.int .i64 1, .string x, .string y, .slice none 0 0]] w' fun e w2 => e = .returned (.tuple #[.iface 123 (.string y), .bool true]) ∧ Below w'.heap.size w' w2) := by
    intro w' hb
    have hq := question_eq x y w' h1 h2 hx (hT.below hb)
    rw [hy] at hq
    exact hq
  have HV : Hid (∀ w', Below w.heap.size w w' → Calls Tryz.prog 42 #[.slice p n c, .string x] w' fun e w2 => e = .returned (.string (getL L x)) ∧ Below w'.heap.size w' w2) := fun w' hb => valueOf_any p n c L x w' (h.below hb) hn hl
  obtain ⟨V, hV⟩ : ∃ V, getL L x = V := ⟨_, rfl⟩
  rw [hV] at HV ⊢
  have HI := hide (fun w => isThis_any y V w)
  obtain ⟨a0, a1, a2, a3⟩ := HF.out W (Below.refl _ _)
  have hah := ahOne y
  have hme := meOne y
  clear h hT hV hx hy
  unfold eqM
  go_enter Tryz.func26, Tryz.ntmps26
  go_wp2_with (go_at_call 35; refine (HQ.out _ HB0.out.1).mono ?_; rintro e w2 ⟨rfl, hb⟩; have HB2 : Hid (Below W.heap.size W w2) := hb; obtain ⟨b0, b1, b2, b3⟩ := HF.out w2 HB2.out; clear hb)
  have HBw : Hid (Below w.heap.size w w2) := HB0.out.1.trans (HB2.out.mono (Nat.le_of_lt HB0.out.2))
  go_region_with (first
    | (go_at_call 42; refine (HV.out _ HBw.out.drew).mono ?_; rintro e w3 ⟨rfl, hb⟩; have HB3 : Hid (Below w.heap.size w w3) := HBw.out.drew.trans (hb.mono HBw.out.drew.size); clear hb)
    | (go_at_call 138; refine (HI.out _).mono ?_; rintro e w4 ⟨rfl, rfl⟩))
  all_goals
    go_wp2_with fail
    go_ret
    exact ⟨rfl, HB3.out⟩

end Go.Proofs.YtgcmdbpanfeaaabGreatDoor

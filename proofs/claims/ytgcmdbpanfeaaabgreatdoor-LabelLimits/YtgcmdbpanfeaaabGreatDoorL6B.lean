/- A matcher of some words. -/
import Derived.Test.YtgcmdbpanfeaaabGreatDoorL2B
import Derived.Test.YtgcmdbpanfeaaabGreatDoorL1B
namespace Go.Proofs.YtgcmdbpanfeaaabGreatDoor
open Go.RowKit
set_option linter.unusedVariables false
set_option linter.unusedSimpArgs false

/-- n words lie where p is. -/
def Ws (w : World) (p : Option Addr) (n : Nat) (f : Nat → ByteArray) : Prop :=
  0 < n → ∃ b o, p = some ⟨b, o, none⟩ ∧ ∀ i, i < n → w.cell? ⟨b, o + i, none⟩ = some (.string (f i))

theorem Ws.below {w w' : World} {p : Option Addr} {n : Nat} {f : Nat → ByteArray} (h : Ws w p n f) (hB : Below w.heap.size w w') : Ws w' p n f := fun h0 => by
  obtain ⟨b, o, hp, hc⟩ := h h0
  exact ⟨b, o, hp, fun i hi => by rw [hB.cell (p := ⟨b, o + i, none⟩) (block_lt_of_cell (hc i hi))]; exact hc i hi⟩

/-- May these be a matcher's words? -/
def wordsOk (n : Nat) (f : Nat → ByteArray) : Bool := decide (0 < n ∧ n ≤ 64) && (List.range n).all fun i => valueOk (bytesN (f i))

theorem wordsOk_yes {n : Nat} {f : Nat → ByteArray} (h0 : 0 < n) (h1 : n ≤ 64) (h : ∀ i, i < n → valueOk (bytesN (f i)) = true) : wordsOk n f = true := by
  unfold wordsOk
  rw [decide_eq_true ⟨h0, h1⟩, Bool.true_and, List.all_eq_true]
  exact fun i hi => h i (List.mem_range.1 hi)

theorem wordsOk_no {n : Nat} {f : Nat → ByteArray} (i : Nat) (hi : i < n) (h : valueOk (bytesN (f i)) = false) : wordsOk n f = false := by
  unfold wordsOk
  rw [Bool.and_eq_false_iff]
  exact .inr (by rw [List.all_eq_false]; exact ⟨i, List.mem_range.2 hi, by simp [h]⟩)

set_option maxRecDepth 100000 in
set_option maxHeartbeats 1000000 in
theorem areWords_any (p : Option Addr) (n c : Nat) (f : Nat → ByteArray) (w : World) (h : Ws w p n f) (hn : n ≤ 9223372036854775807) (hs : ∀ i, i < n → (f i).size ≤ 1000000000) (hT : UT w) :
    Calls Tryz.prog 55 #[.slice p n c] w fun e w' => e = .returned (.bool (wordsOk n f)) ∧ Below w.heap.size w w' := by
  by_cases h0 : n = 0
  · subst h0
    go_enter Tryz.func55, Tryz.ntmps55
    go_wp2_with fail
    go_ret
    exact ⟨rfl, Below.refl _ _⟩
  have z0 : ¬ (n : Int) = 0 := by omega
  have q0 : ((n : Int) == 0) = false := by simp; omega
  by_cases h1 : 64 < n
  · have z1 : (64 : Int) < (n : Int) := by omega
    have e : wordsOk n f = false := by unfold wordsOk; rw [decide_eq_false (by omega)]; rfl
    rw [e]
    clear h hs
    go_enter Tryz.func55, Tryz.ntmps55
    go_wp2_with fail
    go_ret
    exact ⟨rfl, Below.refl _ _⟩
  have z1 : ¬ (64 : Int) < (n : Int) := by omega
  have HW := hide h
  have HS := hide hs
  have HT := hide hT
  have HB0 : Hid (Below w.heap.size w w) := Below.refl _ _
  obtain ⟨V, hV⟩ : ∃ V, wordsOk n f = V := ⟨_, rfl⟩
  have HV := hide hV
  rw [hV]
  clear h hs hT hV
  go_enter Tryz.func55, Tryz.ntmps55
  go_wp2_with fail
  go_loopw [15] (fun t15 wr => ∃ i : Nat, i ≤ n ∧ t15 = .int .i64 i ∧ Hid (Below w.heap.size w wr ∧ ∀ j, j < i → valueOk (bytesN (f j)) = true)) (fun t15 _ => n - (intOf t15).toNat)
  case atStart => exact ⟨0, by omega, rfl, HB0.out, fun j hj => by omega⟩
  case round =>
    obtain ⟨i, hi, rfl, HI⟩ := hrel
    by_cases hlt : i < n
    · have hz : (i : Int) < (n : Int) := by omega
      obtain ⟨b, o, rfl, hc⟩ := HW.out.below HI.out.1 (by omega)
      have ci := hc i hlt
      have HVl := hide (fun w h => isValue_any (f i) w h (by have := HS.out i hlt; omega))
      obtain ⟨O, hO⟩ : ∃ O, valueOk (bytesN (f i)) = O := ⟨_, rfl⟩
      have HO := hide hO
      rw [hO] at HVl
      obtain ⟨s, hs⟩ : ∃ s, f i = s := ⟨_, rfl⟩
      rw [hs] at ci HVl
      clear hc hO hs
      cases O with
      | true =>
        go_wp2_with (go_at_call 37; refine (HVl.out _ (HT.out.below HI.out.1)).mono ?_; rintro e w2 ⟨rfl, hb⟩; have HB2 := hide (HI.out.1.trans (hb.mono HI.out.1.size)); clear hb)
        go_roundw
        case rel =>
          refine ⟨i + 1, by omega, by go_num, HB2.out, fun j hj => ?_⟩
          by_cases e : j = i
          · rw [e]; exact HO.out
          · exact HI.out.2 j (by omega)
        case measure => simp [intOf]; omega
      | false =>
        have HN : Hid (V = false) := hide (by rw [← HV.out]; exact wordsOk_no i hlt HO.out)
        go_wp2_with (go_at_call 37; refine (HVl.out _ (HT.out.below HI.out.1)).mono ?_; rintro e w2 ⟨rfl, hb⟩; have HB2 := hide (HI.out.1.trans (hb.mono HI.out.1.size)); clear hb)
        go_ret
        exact ⟨by rw [HN.out]; rfl, HB2.out⟩
    · have hz : ¬ (i : Int) < (n : Int) := by omega
      have HN : Hid (V = true) := hide (by rw [← HV.out]; exact wordsOk_yes (by omega) (by omega) fun j hj => HI.out.2 j (by omega))
      go_wp2_with fail
      go_ret
      exact ⟨by rw [HN.out]; rfl, HI.out.1⟩

/-- A matcher that asks for one of some words. -/
def ofM (x : ByteArray) (p : Option Addr) (n c : Nat) : Value := .agg #[.int .i64 4, .string x, .string ⟨#[]⟩, .slice p n c]

set_option maxRecDepth 100000 in
theorem qKind_of (x : ByteArray) (p : Option Addr) (n c : Nat) (w : World) : Calls Tryz.prog 54 #[ofM x p n c] w fun e w' => e = .returned (.iface 103 (.slice p n c)) ∧ Below w.heap.size w w' := by
  have ha : Below w.heap.size w (w.alloc (.cells #[.int .i64 4, .string x, .string ⟨#[]⟩, .slice p n c] 54)) := (Below.refl _ _).alloc (Nat.le_refl _) _
  have HA := hide ha
  clear ha
  unfold ofM
  go_enter Tryz.func54, Tryz.ntmps54
  go_wp2_with fail
  go_ret
  exact ⟨rfl, HA.out⟩

theorem asOf (v : Value) (w : World) : (Instr.typeAssert (.iface 103 v) 73 103 true).run Tryz.prog w = .ok (.tuple #[v, .bool true]) w := by kernel_rfl

set_option maxRecDepth 100000 in
set_option maxHeartbeats 1000000 in
theorem question_of (x : ByteArray) (p : Option Addr) (n c : Nat) (f : Nat → ByteArray) (w : World) (h : Ws w p n f) (hn : n ≤ 9223372036854775807) (hs : ∀ i, i < n → (f i).size ≤ 1000000000) (h1 : x.size ≤ 1000000000) (hx : nameOk (bytesN x) = true) (hT : UT w) :
    Calls Tryz.prog 35 #[ofM x p n c] w fun e w' => e = .returned (.tuple #[.iface 103 (.slice p n c), .bool (wordsOk n f)]) ∧ Below w.heap.size w w' := by
  obtain ⟨W, hW⟩ : ∃ W, w.alloc (.cells #[.int .i64 4, .string x, .string ⟨#[]⟩, .slice p n c] 54) = W := ⟨_, rfl⟩
  have HB0 : Hid (Below w.heap.size w W ∧ w.heap.size < W.heap.size) := by rw [← hW]; exact ⟨(Below.refl _ _).alloc (Nat.le_refl _) _, by simp⟩
  have HF : Hid (∀ w', Below W.heap.size W w' → w'.cell? ⟨w.heap.size, 0, none⟩ = some (.int .i64 4) ∧ w'.cell? ⟨w.heap.size, 1, none⟩ = some (.string x) ∧ w'.cell? ⟨w.heap.size, 2, none⟩ = some (.string ⟨#[]⟩) ∧ w'.cell? ⟨w.heap.size, 3, none⟩ = some (.slice p n c)) := by
    intro w' hb
    have hs := HB0.out.2
    rw [hb.cell (p := ⟨w.heap.size, 0, none⟩) hs, hb.cell (p := ⟨w.heap.size, 1, none⟩) hs, hb.cell (p := ⟨w.heap.size, 2, none⟩) hs, hb.cell (p := ⟨w.heap.size, 3, none⟩) hs, ← hW]
    simp
  have HQ := hide (fun w => qKind_of x p n c w)
  have HNm := hide (fun w => isName_any x w (by omega))
  rw [hx] at HNm
  have HA : Hid (∀ w', Below w.heap.size w w' → Calls Tryz.prog 55 #[.slice p n c] w' fun e w2 => e = .returned (.bool (wordsOk n f)) ∧ Below w'.heap.size w' w2) := fun w' hb => areWords_any p n c f w' (h.below hb) hn hs (hT.below hb)
  obtain ⟨VO, hVO⟩ : ∃ v, wordsOk n f = v := ⟨_, rfl⟩
  rw [hVO] at HA ⊢
  obtain ⟨a0, a1, a2, a3⟩ := HF.out W (Below.refl _ _)
  have has := asOf (.slice p n c)
  clear hT hVO hx h hs
  unfold ofM
  go_enter Tryz.func35, Tryz.ntmps35
  go_wp2_with (first
    | (go_at_call 54; refine (HQ.out _).mono ?_; rintro e w2 ⟨rfl, hb⟩; have HB2 : Hid (Below W.heap.size W w2) := hb; obtain ⟨b0, b1, b2, b3⟩ := HF.out w2 HB2.out; clear hb)
    | (go_at_call 36; refine (HNm.out _).mono ?_; rintro e w3 ⟨rfl, rfl⟩)
    | (go_at_call 55; refine (HA.out _ (HB0.out.1.trans (HB2.out.mono (by have := HB0.out.2; omega)))).mono ?_; rintro e w4 ⟨rfl, hb⟩; have HB4 := hide (HB2.out.trans (hb.mono HB2.out.size)); clear hb))
  go_ret2
  exact ⟨rfl, HB0.out.1.trans (HB4.out.mono (Nat.le_of_lt HB0.out.2))⟩

set_option maxRecDepth 100000 in
theorem check_of (x : ByteArray) (p : Option Addr) (n c : Nat) (f : Nat → ByteArray) (w : World) (h : Ws w p n f) (hn : n ≤ 9223372036854775807) (hs : ∀ i, i < n → (f i).size ≤ 1000000000) (h1 : x.size ≤ 1000000000) (hx : nameOk (bytesN x) = true) (hT : UT w) :
    Calls Tryz.prog 20 #[ofM x p n c] w fun e w' => e = .returned (.int .i64 (if wordsOk n f = true then 0 else 135)) ∧ Below w.heap.size w w' := by
  obtain ⟨W, hW⟩ : ∃ W, w.alloc (.cells #[.int .i64 4, .string x, .string ⟨#[]⟩, .slice p n c] 54) = W := ⟨_, rfl⟩
  have HB0 : Hid (Below w.heap.size w W) := by rw [← hW]; exact hide ((Below.refl _ _).alloc (Nat.le_refl _) _)
  have hr : W.heap[w.heap.size]? = some (.cells #[.int .i64 4, .string x, .string ⟨#[]⟩, .slice p n c] 54) := by rw [← hW]; exact heap_alloc_new w _
  have a0 : W.cell? ⟨w.heap.size, 0, none⟩ = some (.int .i64 4) := by rw [cell_of_row W _ 0 _ _ (0, 0) hr]; rfl
  have a1 : W.cell? ⟨w.heap.size, 1, none⟩ = some (.string x) := by rw [cell_of_row W _ 1 _ _ (0, 0) hr]; rfl
  have a2 : W.cell? ⟨w.heap.size, 2, none⟩ = some (.string ⟨#[]⟩) := by rw [cell_of_row W _ 2 _ _ (0, 0) hr]; rfl
  have a3 : W.cell? ⟨w.heap.size, 3, none⟩ = some (.slice p n c) := by rw [cell_of_row W _ 3 _ _ (0, 0) hr]; rfl
  have HQ := hide (question_of x p n c f W (h.below HB0.out) hn hs h1 hx (hT.below HB0.out))
  obtain ⟨V, hV⟩ : ∃ V, wordsOk n f = V := ⟨_, rfl⟩
  rw [hV] at HQ ⊢
  clear h hs hx hT hV hr
  unfold ofM at HQ ⊢
  cases V with
  | true =>
    go_enter Tryz.func20, Tryz.ntmps20
    go_wp2_with (go_at_call 35; refine HQ.out.mono ?_; rintro e w2 ⟨rfl, hb⟩; have HB := hide (HB0.out.trans (hb.mono HB0.out.size)); clear hb)
    go_ret
    exact ⟨rfl, HB.out⟩
  | false =>
    go_enter Tryz.func20, Tryz.ntmps20
    go_wp2_with (go_at_call 35; refine HQ.out.mono ?_; rintro e w2 ⟨rfl, hb⟩; have HB := hide (HB0.out.trans (hb.mono HB0.out.size)); clear hb)
    go_ret
    exact ⟨rfl, HB.out⟩

end Go.Proofs.YtgcmdbpanfeaaabGreatDoor

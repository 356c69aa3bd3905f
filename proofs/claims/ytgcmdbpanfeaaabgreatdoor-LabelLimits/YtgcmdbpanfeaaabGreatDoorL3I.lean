/- The law's works. -/
import Derived.Test.YtgcmdbpanfeaaabGreatDoorL3H
namespace Go.Proofs.YtgcmdbpanfeaaabGreatDoor
open Go.RowKit
set_option linter.unusedVariables false
set_option linter.unusedSimpArgs false

set_option maxRecDepth 100000 in
theorem num13_any (c : Int) (w : World) : Calls Tryz.prog 8 #[.int .i64 c] w fun e w' => e = .returned (.int .i64 c) ∧ w' = w := by
  go_enter Tryz.func8, Tryz.ntmps8
  go_wp2
  go_ret
  exact ⟨rfl, rfl⟩

theorem strOf_key : strOf [97, 0, 121, 0, 1, 98, 0, 120, 0, 1] = ⟨#[97, 0, 121, 0, 1, 98, 0, 120, 0, 1]⟩ := by decide +kernel

theorem smallL : ∀ x ∈ [la, lb], x.1.size ≤ 1000000 ∧ x.2.size ≤ 1000000 := by decide +kernel
theorem smallL2 : ∀ x ∈ [la, lb], x.1.size ≤ 1000000000 ∧ x.2.size ≤ 1000000000 := by decide +kernel
theorem smallL3 : ∀ x ∈ [lb, la, lc], x.1.size ≤ 1000000000 ∧ x.2.size ≤ 1000000000 := by decide +kernel

theorem key_ex {w : World} {e : Ending} {w' : World} (h : AnsKey w (if setOk [la, lb] = true then some (keyL [la, lb]) else none) e w') : ∃ v, e = .returned (.tuple #[v, .int .i64 0]) ∧ OB w.heap.size w [97, 0, 121, 0, 1, 98, 0, 120, 0, 1] v w' := by
  rw [fact_set, if_pos rfl, fact_key] at h
  exact h

theorem row_three (w : World) : LR (w.alloc (.cells #[.string ⟨#[98]⟩, .string ⟨#[120]⟩, .string ⟨#[97]⟩, .string ⟨#[121]⟩, .string ⟨#[99]⟩, .string ⟨#[]⟩] 34)) (some ⟨w.heap.size, 0, none⟩) [lb, la, lc] := by
  intro _
  refine ⟨w.heap.size, 0, rfl, fun i hi => ?_⟩
  have h := heap_alloc_new w (.cells #[.string ⟨#[98]⟩, .string ⟨#[120]⟩, .string ⟨#[97]⟩, .string ⟨#[121]⟩, .string ⟨#[99]⟩, .string ⟨#[]⟩] 34)
  have hi3 : i < 3 := hi
  rw [cell_of_row _ _ _ _ _ _ h, cell_of_row _ _ _ _ _ _ h]
  match i, hi3 with
  | 0, _ => exact ⟨rfl, rfl⟩
  | 1, _ => exact ⟨rfl, rfl⟩
  | 2, _ => exact ⟨rfl, rfl⟩

theorem Row4.c {w : World} {k : Nat} {x y z u : Value} {t : TypeId} (h : w.heap[k]? = some (.cells #[x, y, z, u] t)) : w.cell? ⟨k, 0, none⟩ = some x ∧ w.cell? ⟨k, 1, none⟩ = some y ∧ w.cell? ⟨k, 2, none⟩ = some z ∧ w.cell? ⟨k, 3, none⟩ = some u :=
  ⟨by rw [cell_of_row w k 0 _ _ (0, 0) h]; rfl, by rw [cell_of_row w k 1 _ _ (0, 0) h]; rfl, by rw [cell_of_row w k 2 _ _ (0, 0) h]; rfl, by rw [cell_of_row w k 3 _ _ (0, 0) h]; rfl⟩

set_option maxRecDepth 100000 in
set_option maxHeartbeats 2000000 in
theorem works13_any (w : World) (hE : ES w) (hT : UT w) (hM : MX w) : Calls Tryz.prog 9 #[] w fun e w' => e = .returned (.bool true) ∧ Below w.heap.size w w' := by
  have HE := hide hE
  have HT := hide hT
  have HM := hide hM
  clear hE hT hM
  obtain ⟨W0, hW0⟩ : ∃ W0, w.alloc (.cells #[.string ⟨#[98]⟩, .string ⟨#[120]⟩, .string ⟨#[97]⟩, .string ⟨#[121]⟩, .string ⟨#[99]⟩, .string ⟨#[]⟩] 34) = W0 := ⟨_, rfl⟩
  have HB0 : Hid (Below w.heap.size w W0) := by rw [← hW0]; exact (Below.refl _ _).alloc (Nat.le_refl _) _
  have HS0 : Hid (Calls Tryz.prog 6 #[.slice (some ⟨w.heap.size, 0, none⟩) 3 3] W0 fun e w' => AnsSet W0 [lb, la, lc] e w') := by
    have h := row_three w
    rw [hW0] at h
    exact Set_any _ 3 3 [lb, la, lc] W0 h rfl (by decide) smallL3 (HT.out.below HB0.out)
  have HTx : Hid (∀ w' p c, LR w' p [la, lb] → UT w' → Calls Tryz.prog 18 #[.slice p 2 c] w' fun e w2 => e = .returned (.tuple #[.string ⟨#[123, 97, 61, 34, 121, 34, 44, 98, 61, 34, 120, 34, 125]⟩, .int .i64 0]) ∧ Below w'.heap.size w' w2) := by
    intro w' p c h ht
    have h2 := Text_any p 2 c [la, lb] w' h rfl (by decide) smallL ht
    rw [fact_set, if_pos rfl, fact_text] at h2
    exact h2
  have HKx : Hid (∀ w' p c, LR w' p [la, lb] → UT w' → MX w' → Calls Tryz.prog 19 #[.slice p 2 c] w' fun e w2 => AnsKey w' (if setOk [la, lb] = true then some (keyL [la, lb]) else none) e w2) :=
    fun w' p c h ht hm => Key_any p 2 c [la, lb] w' h rfl (by decide) smallL2 ht hm
  have HPx : Hid (∀ w', ES w' → UT w' → Calls Tryz.prog 12 #[.string ⟨#[123, 32, 98, 61, 34, 120, 34, 44, 32, 97, 32, 61, 32, 34, 121, 34, 32, 125]⟩] w' fun e w2 => ∃ v, e = .returned (.tuple #[v, .agg #[.int .i64 0, .int .i64 0]]) ∧ OL w'.heap.size w' [la, lb] v w2) := by
    intro w' he ht
    have hlt : 3 < w'.heap.size := by obtain ⟨ev, h1, _⟩ := he; exact block_lt_of_cell h1
    exact Parse_ex w' he ht ⟨by omega, by omega⟩
  have HM1 : Hid (∀ w' p c, LR w' p [la, lb] → UT w' → Calls Tryz.prog 26 #[.agg #[.int .i64 1, .string ⟨#[97]⟩, .string ⟨#[121]⟩, .slice none 0 0], .slice p 2 c] w' fun e w2 => e = .returned (.bool true) ∧ Below w'.heap.size w' w2) := by
    intro w' p c h ht
    have h2 := Match_eq ⟨#[97]⟩ ⟨#[121]⟩ p 2 c [la, lb] w' h rfl (by decide) (by decide) (by decide) fact_na fact_vy ht
    rw [fact_get, decide_eq_true rfl] at h2
    exact h2
  have HM2 : Hid (∀ w', UT w' → Calls Tryz.prog 26 #[.agg #[.int .i64 1, .string ⟨#[97]⟩, .string ⟨#[121]⟩, .slice none 0 0], .slice none 0 0] w' fun e w2 => e = .returned (.bool false) ∧ Below w'.heap.size w' w2) := by
    intro w' ht
    have h2 := Match_eq ⟨#[97]⟩ ⟨#[121]⟩ none 0 0 [] w' (fun h => by simp at h) rfl (by decide) (by decide) (by decide) fact_na fact_vy ht
    rw [show decide (getL [] ⟨#[97]⟩ = ⟨#[121]⟩) = false by decide +kernel] at h2
    exact h2
  have HEq : Hid (∀ w' p c q d, LR w' p [la, lb] → LR w' q [la, lb] → Calls Tryz.prog 27 #[.slice p 2 c, .slice q 2 d] w' fun e w2 => e = .returned (.bool true) ∧ Below w'.heap.size w' w2) := by
    intro w' p c q d h1 h2
    have h := Equal_any p 2 c [la, lb] q 2 d [la, lb] w' h1 h2 rfl rfl (by decide) (by decide)
    rw [decide_eq_true rfl] at h
    exact h
  go_enter Tryz.func9, Tryz.ntmps9
  go_wp2_with (first
    | (go_at_call 8; refine (num13_any _ _).mono ?_; rintro e wn ⟨rfl, rfl⟩)
    | (go_at_call 27; go_loud (refine (HEq.out _ _ _ _ _ H8.out.2.1 H8.out.1).mono ?_; rintro e w9 ⟨rfl, hb⟩; have H9 := hide (H8.out.2.2.trans (hb.mono H8.out.2.2.size)); clear hb))
    | (go_at_call 26; refine (HM2.out _ (HT.out.below H7.out.2.2.1)).mono ?_; go_loud (rintro e w8 ⟨rfl, hb⟩; have hf8 := (hb.block w5.heap.size (size_lt_of_row H7.out.2.2.2)).trans H7.out.2.2.2; have g0 := Row2.c0 hf8; have g1 := Row2.c1 hf8; have H8 := hide (And.intro (H7.out.1.below hb) (And.intro (H7.out.2.1.below hb) (H7.out.2.2.1.trans (hb.mono H7.out.2.2.1.size)))); clear hb hf8))
    | (go_at_call 26; go_loud (refine (HM1.out _ _ _ H6.out.2.1 (HT.out.below H6.out.2.2.1)).mono ?_; rintro e w7 ⟨rfl, hb⟩; have hm7 := (hb.block w3.heap.size (size_lt_of_row H6.out.2.2.2.1)).trans H6.out.2.2.2.1; have hf7 := (hb.block w5.heap.size (size_lt_of_row H6.out.2.2.2.2)).trans H6.out.2.2.2.2; obtain ⟨k0, k1, k2, k3⟩ := Row4.c hm7; have H7 := hide (And.intro (H6.out.1.below hb) (And.intro (H6.out.2.1.below hb) (And.intro (H6.out.2.2.1.trans (hb.mono H6.out.2.2.1.size)) hf7))); clear hb hm7 hf7))
    | (go_at_call 12; go_loud (refine (HPx.out _ (HE.out.below HB4.out) (HT.out.below HB4.out)).mono ?_; rintro e w5 ⟨v5, rfl, ho⟩; obtain ⟨p5, c5, rfl, hl5⟩ := ho.slice; have hb5 := ho.bel; have hm5 := hb5.block w3.heap.size (by simp); rw [heap_alloc_new] at hm5; have H5 := hide (And.intro hl5 (And.intro (H3.out.1.below ((Below.refl w3.heap.size w3).alloc (Nat.le_refl _) _ |>.trans (hb5.mono (by simp)))) (And.intro (HB4.out.trans (hb5.mono HB4.out.size)) (And.intro hm5 (H3.out.2.2.below ((Below.refl w3.heap.size w3).alloc (Nat.le_refl _) _ |>.trans (hb5.mono (by simp)))))))); have hb6 := (Below.refl w5.heap.size w5).alloc (Nat.le_refl _) (.cells #[.int .i64 0, .int .i64 0] 37); have hm6 := (hb6.block w3.heap.size (size_lt_of_row hm5)).trans hm5; have hf6 := heap_alloc_new w5 (.cells #[.int .i64 0, .int .i64 0] 37); obtain ⟨m0, m1, m2, m3⟩ := Row4.c hm6; have hcv := convert_by _ v3 _ (H5.out.2.2.2.2.below hb6).by_; rw [strOf_key] at hcv; have H6 := hide (And.intro (H5.out.1.below hb6) (And.intro (H5.out.2.1.below hb6) (And.intro (H5.out.2.2.1.trans (hb6.mono H5.out.2.2.1.size)) (And.intro hm6 hf6)))); clear ho hl5 hb5 hm5 hb6 hm6 hf6))
    | (go_at_call 19; go_loud (refine (HKx.out _ _ _ H2.out.1 (HT.out.below H2.out.2) (HM.out.below H2.out.2)).mono ?_; rintro e w3 ha; obtain ⟨v3, rfl, ho⟩ := key_ex ha; have hb := ho.bel; have H3 := hide (And.intro (H2.out.1.below hb) (And.intro (H2.out.2.trans (hb.mono H2.out.2.size)) ho)); have HB4 : Hid (Below w.heap.size w (w3.alloc (.cells #[.int .i64 1, .string ⟨#[97]⟩, .string ⟨#[121]⟩, .slice none 0 0] 54))) := H3.out.2.1.alloc H3.out.2.1.size _; clear ho hb ha))
    | (go_at_call 18; go_loud (refine (HTx.out _ _ _ H1.out.1 (HT.out.below H1.out.2)).mono ?_; rintro e w2 ⟨rfl, hb⟩; have H2 := hide (And.intro (H1.out.1.below hb) (H1.out.2.trans (hb.mono H1.out.2.size))); clear hb))
    | (go_at_call 6; go_loud (refine HS0.out.mono ?_; rintro e w1 ha; obtain ⟨v1, rfl, ho⟩ := set_ex3 ha; obtain ⟨p1, c1, rfl, hl⟩ := ho.slice; have H1 := hide (And.intro hl (HB0.out.trans (ho.bel.mono HB0.out.size))); clear ho hl ha)))
  go_ret
  exact ⟨rfl, H9.out⟩

end Go.Proofs.YtgcmdbpanfeaaabGreatDoor

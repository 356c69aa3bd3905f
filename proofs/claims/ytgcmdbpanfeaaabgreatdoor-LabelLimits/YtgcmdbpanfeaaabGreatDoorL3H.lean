/- Does a set have its form, its text, its key, and is it matched? The law's works. -/
import Derived.Test.YtgcmdbpanfeaaabGreatDoorL3G
import Derived.Test.YtgcmdbpanfeaaabGreatDoorL3A
import Derived.Test.YtgcmdbpanfeaaabGreatDoorL3B
import Derived.Test.YtgcmdbpanfeaaabGreatDoorL3D
namespace Go.Proofs.YtgcmdbpanfeaaabGreatDoor
open Go.RowKit
set_option linter.unusedVariables false
set_option linter.unusedSimpArgs false

def lc : Lab := (⟨#[99]⟩, ⟨#[]⟩)
theorem fact_ref0 : refL [] [lb, la, lc] = 0 := by decide +kernel
theorem fact_fl : flL [lb, la, lc] = [lb, la] := by decide +kernel
theorem fact_lt : ltOf cmpL la lb = true := by decide +kernel
theorem fact_sort : sortL [lb, la] = [la, lb] := by
  unfold sortL
  simp [List.mergeSort, List.MergeSort.Internal.splitInTwo, List.merge, fact_lt]
theorem fact_ref1 : refL [] [lb, la] = 0 := by decide +kernel
theorem fact_fl1 : flL [lb, la] = [lb, la] := by decide +kernel
theorem fact_set : setOk [la, lb] = true := by decide +kernel
theorem fact_text : textL [la, lb] = ⟨#[123, 97, 61, 34, 121, 34, 44, 98, 61, 34, 120, 34, 125]⟩ := by decide +kernel
theorem fact_key : keyL [la, lb] = [97, 0, 121, 0, 1, 98, 0, 120, 0, 1] := by decide +kernel
theorem fact_na : nameOk (bytesN ⟨#[97]⟩) = true := by decide +kernel
theorem fact_vy : valueOk (bytesN ⟨#[121]⟩) = true := by decide +kernel
theorem fact_get : getL [la, lb] ⟨#[97]⟩ = ⟨#[121]⟩ := by decide +kernel

theorem set_ex {w : World} {e : Ending} {w' : World} (h : AnsSet w [lb, la] e w') : ∃ v, e = .returned (.tuple #[v, .int .i64 0]) ∧ OL w.heap.size w [la, lb] v w' := by
  unfold AnsSet at h
  rw [fact_ref1, if_neg (by decide), fact_fl1, if_neg (by decide), fact_sort] at h
  exact h
theorem set_ex3 {w : World} {e : Ending} {w' : World} (h : AnsSet w [lb, la, lc] e w') : ∃ v, e = .returned (.tuple #[v, .int .i64 0]) ∧ OL w.heap.size w [la, lb] v w' := by
  unfold AnsSet at h
  rw [fact_ref0, if_neg (by decide), fact_fl, if_neg (by decide), fact_sort] at h
  exact h

theorem OL.rebase {B B2 : Nat} {w0 w wr : World} {L : List Lab} {v : Value} (h : OL B2 w0 L v wr) (hB : B ≤ B2) (hb : Below B w wr) (hw : B ≤ w.heap.size) : OL B w L v wr :=
  ⟨⟨h.own.1, h.own.2.imp id fun ⟨g, cap, cur, h1, h2, h3⟩ => ⟨g, cap, cur, h1, Nat.le_trans hB h2, h3⟩⟩, hb, hw⟩

theorem OL.set {B g o : Nat} {w0 wr : World} {L : List Lab} {v x : Value} (h : OL B w0 L v wr) (hB : B ≤ g) (hne : ∀ k, v.ownBlock = some k → k ≠ g) : OL B w0 L v (wr.setCell ⟨g, o, none⟩ x) :=
  ⟨ownsRow_keep h.own fun k hk => Below.heap_setCell wr ⟨g, o, none⟩ x k (hne k hk), h.bel.setCell hB _, h.le⟩

theorem results_tF {fn : Func} {p u : Tmp} (h : fn.results = #[.tmp u, .cell p 37]) (tmps : Array Value) (w : World) (g : Nat) (hp : tmps.getD p undef = .pointer (some ⟨g, 0, none⟩)) (x y : Value)
    (c0 : w.cell? ⟨g, 0, none⟩ = some x) (c1 : w.cell? ⟨g, 1, none⟩ = some y) : (results fn tmps).run Tryz.prog w = .ok (.tuple #[tmps.getD u undef, .agg #[x, y]]) w := by
  have hl : (loadVar 37 ⟨g, 0, none⟩).run Tryz.prog w = .ok (.agg #[x, y]) w := by
    go_simp
  have hp' : tmps[p]?.getD undef = .pointer (some ⟨g, 0, none⟩) := by simpa using hp
  simp [results, h, hp', asAddr, hl, Result.andThen]

set_option maxRecDepth 100000 in
set_option maxHeartbeats 1000000 in
theorem Parse_ex (w : World) (hE : ES w) (hT : UT w) (hg : w.heap.size ≠ 3 ∧ w.heap.size + 1 ≠ 3) : Calls Tryz.prog 12 #[.string ⟨#[123, 32, 98, 61, 34, 120, 34, 44, 32, 97, 32, 61, 32, 34, 121, 34, 32, 125]⟩] w fun e w' =>
    ∃ v, e = .returned (.tuple #[v, .agg #[.int .i64 0, .int .i64 0]]) ∧ OL w.heap.size w [la, lb] v w' := by
  obtain ⟨W, hW⟩ : ∃ W, (w.alloc (.cells #[.int .i64 0, .int .i64 0] 37)).alloc (.cells #[.string txt0, .int .i64 0] 64) = W := ⟨_, rfl⟩
  have HW : Hid (Below w.heap.size w W ∧ W.heap.size = w.heap.size + 2 ∧ RD W (w.heap.size + 1) txt0 0 ∧ W.heap[w.heap.size]? = some (.cells #[.int .i64 0, .int .i64 0] 37)) := by
    rw [← hW]
    refine ⟨((Below.refl _ _).alloc (Nat.le_refl _) _).alloc (by simp) _, by simp, ⟨heap_alloc2_new w _ _⟩, heap_alloc2_old w _ _⟩
  have HL : Hid (Calls Tryz.prog 30 #[.pointer (some ⟨w.heap.size + 1, 0, none⟩)] W fun e w' => ∃ v, e = .returned (.tuple #[v, .bool true]) ∧ OL W.heap.size w' [lb, la] v w' ∧ RD w' (w.heap.size + 1) txt0 18 ∧ Ch (w.heap.size + 1) W w') := labels_ex _ W HW.out.2.2.1 (hE.below HW.out.1) hg.2
  have HT := hide hT
  have htx : txt0 = ⟨#[123, 32, 98, 61, 34, 120, 34, 44, 32, 97, 32, 61, 32, 34, 121, 34, 32, 125]⟩ := rfl
  rw [htx] at hW
  have HL2 : Hid (Calls Tryz.prog 30 #[.pointer (some ⟨w.heap.size + 1, 0, none⟩)] ((w.alloc (.cells #[.int .i64 0, .int .i64 0] 37)).alloc (.cells #[.string ⟨#[123, 32, 98, 61, 34, 120, 34, 44, 32, 97, 32, 61, 32, 34, 121, 34, 32, 125]⟩, .int .i64 0] 64)) fun e w' => ∃ v, e = .returned (.tuple #[v, .bool true]) ∧ OL W.heap.size w' [lb, la] v w' ∧ RD w' (w.heap.size + 1) txt0 18 ∧ Ch (w.heap.size + 1) W w') := by rw [hW]; exact HL.out
  have HWW := hide hW
  clear htx hE hT hW HL
  have HFl : Hid (∀ w2 w3, Ch (w.heap.size + 1) W w2 → Below w2.heap.size w2 w3 → w3.heap[w.heap.size]? = some (.cells #[.int .i64 0, .int .i64 0] 37) ∧ Below w.heap.size w w3) := by
    intro w2 w3 hc hb
    have h2 := HW.out.2.1
    have hs := hc.size
    refine ⟨?_, (HW.out.1.trans (hc.below (by omega) (by omega))).trans (hb.mono (by omega))⟩
    rw [hb.block _ (by omega), hc.blk _ (by omega) (by omega)]
    exact HW.out.2.2.2
  go_enter Tryz.func12, Tryz.ntmps12
  go_wp2_with (first
    | (go_at_call 6; refine HS2.out.mono ?_; rintro e w3 ha; obtain ⟨v3, rfl, ho⟩ := set_ex ha; have hf := HFl.out _ _ HC2.out ho.bel; have d0 := Row2.c0 hf.1; have d1 := Row2.c1 hf.1; have z0 := Row2.f hf.1 0; have z1 := Row2.f hf.1 1; have HO3 := hide (OL.rebase (B := w.heap.size) ho (by have := HC2.out.size; have := HW.out.2.1; omega) hf.2 (Nat.le_refl _)); have HOb := hide (fun k hk => (ho.own.lt k hk).1); clear ho ha hf)
    | (go_at_call 30; refine HL2.out.mono ?_; rintro e w2 ⟨v, rfl, ho, hr, hch⟩; obtain ⟨p, c, rfl, hlr⟩ := ho.slice; have HC2 := hide hch; have HS2 := hide (Set_any p 2 c [lb, la] w2 hlr rfl (by decide) (by decide +kernel) (HT.out.below (HW.out.1.trans (hch.below (B := w.heap.size) (by omega) (by rw [HW.out.2.1]; omega))))); clear ho hr hch hlr))
  have hW2 := HW.out.2.1
  have hC2 := HC2.out.size
  refine ⟨rfl, _, results_tF rfl _ _ w.heap.size rfl (.int .i64 0) (.int .i64 0) ?_ ?_, _, rfl, ?_⟩
  · rw [cell_setCell_ne _ _ _ _ _ (by decide), cell_setCell_eq _ _ _ _ _ d0]
  · rw [cell_setCell_eq _ _ _ _ (.int .i64 0) (by rw [cell_setCell_ne _ _ _ _ _ (by decide)]; exact d1)]
  · exact (HO3.out.set (Nat.le_refl _) (fun k hk => by have := HOb.out k hk; omega)).set (Nat.le_refl _) (fun k hk => by have := HOb.out k hk; omega)

end Go.Proofs.YtgcmdbpanfeaaabGreatDoor

/- A torn Append, a torn Clear. -/
import Derived.Test.YtgmahgfelbkoeaaDoorJ11E
namespace Go.Proofs.YtgmahgfelbkoeaaDoor
open Go.RowKit
set_option linter.unusedVariables false
set_option linter.unusedSimpArgs false

set_option maxRecDepth 100000 in
set_option maxHeartbeats 1000000 in
theorem lappend_torn {B : Nat} {l d : Nat} {p : PS} {F : Nat → Prop} {nm : ByteArray} {sz ct : Nat} (w : World) (h : Di B w d p F) (hg : Lg w l d nm sz ct) (hl : ¬ F l) (hoff : p.off = false) (hA : p.arms) (h1 : p.ain = 1 ∨ p.ain = 2) (hwr : p.wr ≤ 999999999) (hs : okN nm) (hc : p.con.has nm) (pr : Option Addr) (m cap : Nat) (q : Nat → List Nat) (hq : PartsOf w pr m q) (hq2 : ∀ i, i < m → ∀ n ∈ q i, n < 256) (hm : m ≤ 4096) (hbl : (bodyP q m).length ≤ 4194304) (hr : Con.tot p.con + (recP q m).length ≤ p.room) (hsz : sz ≤ 1000000000) (hct : ct ≤ 1000000000) (hT : TabC w) :
    Calls Tryd.prog 11 #[.pointer (some ⟨l, 0, none⟩), .slice pr m cap] w fun e w' => e = .returned (.int .i64 104) ∧ ∃ F', Di B w' d (p.laidT nm (recP q m)) F' ∧ LgO w' l d nm sz ct ∧ ¬ F' l ∧ Fx l w F w' F' := by
  have HFT := hide (fits_rows pr m cap q w hq (by omega) (by omega))
  have HRC := hide (record_any pr m cap q w hq hq2 hm hbl hT)
  have c4 := hg.cell 4 (.bool false) rfl
  have hdec : decide (m ≤ 4096 ∧ (bodyP q m).length ≤ 4194304) = true := by simp [hm, hbl]
  rw [hdec] at HFT
  obtain ⟨R, hR⟩ : ∃ R, recP q m = R := ⟨_, rfl⟩
  have hR2 : ∀ n ∈ R, n < 256 := by
    rw [← hR]; unfold recP
    intro n hn
    rw [List.mem_append, List.mem_append] at hn
    rcases hn with (hn | hn) | hn
    · exact four_lt _ n hn
    · exact four_lt _ n hn
    · exact bodyP_lt hq2 m (Nat.le_refl _) n hn
  rw [hR] at HRC hr ⊢
  have HLY : Hid (∀ w1 v, OB w.heap.size w R v w1 → Calls Tryd.prog 24 #[.pointer (some ⟨l, 0, none⟩), v] w1 fun e w' => e = .returned (.int .i64 104) ∧ ∃ F', Di B w' d (p.laidT nm R) F' ∧ Fr w1 F w' F' ∧ Fr w F w' F' ∧ Lg w' l d nm sz ct ∧ ¬ F' l) := fun w1 v hO => by
    obtain ⟨pv, cv, hv⟩ := hO.slice
    have hbel : Below w.heap.size w w1 := hO.bel
    have hcap : R.length ≤ cv ∧ (pv = none → cv = 0) := by
      rcases hO.own.2 with ⟨e1, e2⟩ | ⟨g, cap, cur, e1, _, _, e5, _⟩
      · rw [hv] at e1; simp at e1; omega
      · rw [hv] at e1; simp at e1; obtain ⟨e1, e2⟩ := e1; subst e1; subst e2; exact ⟨e5, by simp⟩
    have hby := hO.by_
    have hfb : ∀ k, v.ownBlock = some k → ¬ F k := fun k hk e => by have := (hO.own.lt k hk).1; have := h.lt k e; omega
    rw [hv] at hby hfb ⊢
    refine (llay_torn w1 (h.below hbel) (hg.below hbel) hl hoff hA hwr hs (.inl hc) pv R.length cv R rfl hcap.1 hcap.2 hby hfb hR2 hr h1).mono ?_
    rintro e w2 ⟨rfl, F2, e1, e2⟩
    have hlt := heap_lt (hg.below hbel)
    exact ⟨rfl, F2, e1, e2, (Fr.of_below hbel).trans e2, (hg.below hbel).fr e2 hl, (e2.block l hlt hl).1⟩
  have hRl : R.length ≤ 268435456 := by have := h.rm; omega
  obtain ⟨RL, hRL⟩ : ∃ RL, R.length = RL := ⟨_, rfl⟩
  have HRL := hide hRL
  rw [hRL] at hRl
  clear h hg hl hoff hA h1 hwr hs hc hr hq hq2 hm hbl hT hR hR2 hdec hRL
  go_enter Tryd.func11, Tryd.ntmps11
  go_wp2_with (first
    | (go_at_call 22; refine HFT.out.mono ?_; rintro e w0 ⟨rfl, hw0⟩; obtain rfl := hw0)
    | (go_at_call 23; refine HRC.out.mono ?_; rintro e w1 ⟨v1, rfl, hO1⟩; obtain ⟨pv, cv, hv⟩ := hO1.slice; rw [HRL.out] at hv; subst hv; have HO1 := hide hO1; clear hO1)
    | (go_at_call 24; refine (HLY.out _ _ HO1.out).mono ?_; rintro e w2 ⟨rfl, F2, hR⟩; have H2 := hide hR; clear hR)
    | (go_at_call 25; refine (lend_any _ H2.out.2.2.2.1 104).mono ?_; rintro e w3 ⟨rfl, hw3⟩; have HW3 := hide hw3; clear hw3))
  go_ret
  obtain ⟨e1, e2, e3, e4, e5⟩ := H2.out
  obtain rfl := HW3.out
  exact ⟨rfl, F2, e1.setCell (a := ⟨l, 4, none⟩) e5 _, e4.off, e5, e3.fx.trans (Fx.set l 4 _)⟩

set_option maxRecDepth 100000 in
set_option maxHeartbeats 1000000 in
theorem lclear_torn {B : Nat} {l d : Nat} {p : PS} {F : Nat → Prop} {nm : ByteArray} {sz ct : Nat} (w : World) (h : Di B w d p F) (hg : Lg w l d nm sz ct) (hl : ¬ F l) (hoff : p.off = false) (hA : p.arms) (h1 : p.ain = 1) (hwr : p.wr ≤ 1000000000) (hs : okN nm) (bs : List Nat) (su : Nat) (hc : (nm, bs, su) ∈ p.con) (h8 : 8 ≤ bs.length) :
    Calls Tryd.prog 13 #[.pointer (some ⟨l, 0, none⟩)] w fun e w' => e = .returned (.int .i64 104) ∧ ∃ F', Di B w' d (p.wrote (cutF nm 8)) F' ∧ LgO w' l d nm sz ct ∧ ¬ F' l ∧ Fx l w F w' F' := by
  have HA : Hid (Calls Tryd.prog 28 #[.pointer (some ⟨d, 0, none⟩), .string nm, .int .i64 8] w.drew _) := di_cutW w.drew h.drew hoff hA hwr nm hs bs su hc 8 h8
  rw [PS.code_torn h1] at HA
  have HG := hide hg
  have HL := hide hl
  have HLT := hide (heap_lt hg)
  have q1 : w.drew.cell? ⟨l, 0, none⟩ = some (.pointer (some ⟨d, 0, none⟩)) := hg.cell 0 _ rfl
  have q2 : w.drew.cell? ⟨l, 1, none⟩ = some (.string nm) := hg.cell 1 _ rfl
  have q0 : w.cell? ⟨l, 4, none⟩ = some (.bool false) := hg.cell 4 _ rfl
  clear h hg hl hs hc hoff hA h1 hwr h8
  go_enter Tryd.func13, Tryd.ntmps13
  go_upto_region 3 with fail
  refine wp_region_held_drew (S := fun w' => w'.cell? ⟨l, 0, none⟩ = some (.pointer (some ⟨d, 0, none⟩)) ∧ w'.cell? ⟨l, 1, none⟩ = some (.string nm)) (by kernel_rfl) ⟨q1, q2⟩ (fun hHeld => ?_)
  refine wpAnyH_take (i := 0) (v := ?_) rfl (by kernel_rfl) (by kernel_rfl) (by kernel_rfl) (fun _ _ _ h => h) (Or.inl ⟨by rfl, ?_⟩) hHeld ?_
  rotate_left
  · (intro wq hSw; (try dsimp only at hSw); (try obtain ⟨s0, s1⟩ := hSw); (go_simp <;> with_reducible rfl))
  try simp only [Act.put, List.getElem_toArray, List.getElem_cons_zero, List.getElem_cons_succ, List.setIfInBounds_toArray, List.set_cons_zero, List.set_cons_succ]
  refine wpAnyH_take (i := 1) (v := ?_) rfl (by kernel_rfl) (by kernel_rfl) (by kernel_rfl) (fun _ _ _ h => h) (Or.inl ⟨by rfl, ?_⟩) hHeld ?_
  rotate_left
  · (intro wq hSw; (try dsimp only at hSw); (try obtain ⟨s0, s1⟩ := hSw); (go_simp <;> with_reducible rfl))
  try simp only [Act.put, List.getElem_toArray, List.getElem_cons_zero, List.getElem_cons_succ, List.setIfInBounds_toArray, List.set_cons_zero, List.set_cons_succ]
  refine wpAnyH_take (i := 2) (v := ?_) rfl (by kernel_rfl) (by kernel_rfl) (by kernel_rfl) (fun _ _ _ h => h) (Or.inl ⟨by rfl, ?_⟩) hHeld ?_
  rotate_left
  · (intro wq hSw; (try dsimp only at hSw); (try obtain ⟨s0, s1⟩ := hSw); (go_simp <;> with_reducible rfl))
  try simp only [Act.put, List.getElem_toArray, List.getElem_cons_zero, List.getElem_cons_succ, List.setIfInBounds_toArray, List.set_cons_zero, List.set_cons_succ]
  refine wpAnyH_take (i := 3) (v := ?_) rfl (by kernel_rfl) (by kernel_rfl) (by kernel_rfl) (fun _ _ _ h => h) (Or.inl ⟨by rfl, ?_⟩) hHeld ?_
  rotate_left
  · (intro wq hSw; (try dsimp only at hSw); (try obtain ⟨s0, s1⟩ := hSw); (go_simp <;> with_reducible rfl))
  try simp only [Act.put, List.getElem_toArray, List.getElem_cons_zero, List.getElem_cons_succ, List.setIfInBounds_toArray, List.set_cons_zero, List.set_cons_succ]
  refine wpAnyH_take (i := 4) (v := ?_) rfl (by kernel_rfl) (by kernel_rfl) (by kernel_rfl) (fun _ _ _ h => h) (Or.inl ⟨by rfl, ?_⟩) hHeld ?_
  rotate_left
  · (intro wq hSw; (try dsimp only at hSw); (try obtain ⟨s0, s1⟩ := hSw); (go_simp <;> with_reducible rfl))
  try simp only [Act.put, List.getElem_toArray, List.getElem_cons_zero, List.getElem_cons_succ, List.setIfInBounds_toArray, List.set_cons_zero, List.set_cons_succ]
  refine wpAnyH_take (i := 5) (v := ?_) rfl (by kernel_rfl) (by kernel_rfl) (by kernel_rfl) (fun _ _ _ h => h) (Or.inl ⟨by rfl, ?_⟩) hHeld ?_
  rotate_left
  · (intro wq hSw; (try dsimp only at hSw); (try obtain ⟨s0, s1⟩ := hSw); (go_simp <;> with_reducible rfl))
  try simp only [Act.put, List.getElem_toArray, List.getElem_cons_zero, List.getElem_cons_succ, List.setIfInBounds_toArray, List.set_cons_zero, List.set_cons_succ]
  refine wpAnyH_take (i := 6) (v := ?_) rfl (by kernel_rfl) (by kernel_rfl) (by kernel_rfl) (fun _ _ _ h => h) (Or.inl ⟨by rfl, ?_⟩) hHeld ?_
  rotate_left
  · (intro wq hSw; (try dsimp only at hSw); (try obtain ⟨s0, s1⟩ := hSw); (go_simp <;> with_reducible rfl))
  try simp only [Act.put, List.getElem_toArray, List.getElem_cons_zero, List.getElem_cons_succ, List.setIfInBounds_toArray, List.set_cons_zero, List.set_cons_succ]
  refine wpAnyH_take (i := 7) (v := ?_) rfl (by kernel_rfl) (by kernel_rfl) (by kernel_rfl) (fun _ _ _ h => h) (Or.inl ⟨by rfl, ?_⟩) hHeld ?_
  rotate_left
  · (intro wq hSw; (try dsimp only at hSw); (try obtain ⟨s0, s1⟩ := hSw); (go_simp <;> with_reducible rfl))
  try simp only [Act.put, List.getElem_toArray, List.getElem_cons_zero, List.getElem_cons_succ, List.setIfInBounds_toArray, List.set_cons_zero, List.set_cons_succ]
  refine wpAnyH_ready (rs := [8]) (by kernel_rfl) (by simp) ?_
  refine AllReadyH.cons rfl (fun K hK => ?_) AllReadyH.nil
  go_simp
  refine HA.out.mono ?_
  rintro _ w1 ⟨rfl, F1, hD1, hF1⟩
  have H1 : Hid (Di B w1 d (p.wrote (cutF nm 8)) F1 ∧ Fr w F w1 F1) := ⟨hD1, hF1.drew⟩
  clear hD1 hF1
  have HG1 : Hid (Lg w1 l d nm sz ct ∧ ¬ F1 l) := ⟨HG.out.fr H1.out.2 HL.out, (H1.out.2.block l HLT.out HL.out).1⟩
  have r1 : w1.cell? ⟨l, 0, none⟩ = some (.pointer (some ⟨d, 0, none⟩)) := HG1.out.1.cell 0 _ rfl
  have r2 : w1.cell? ⟨l, 1, none⟩ = some (.string nm) := HG1.out.1.cell 1 _ rfl
  have t1 : w1.drew.cell? ⟨l, 0, none⟩ = some (.pointer (some ⟨d, 0, none⟩)) := r1
  have t2 : w1.drew.cell? ⟨l, 1, none⟩ = some (.string nm) := r2
  have d2 := HG1.out.1.cell 2 (.int .i64 (sz : Int)) rfl
  have g2 := frozen_of HG1.out.1 2
  have d3 := HG1.out.1.cell 3 (.int .i64 (ct : Int)) rfl
  have g3 := frozen_of HG1.out.1 3
  refine hK.out _ _ ⟨r1, r2⟩ (fun hHeld => ?_)
  clear hK K
  try simp only [Act.put, List.getElem_toArray, List.getElem_cons_zero, List.getElem_cons_succ, List.setIfInBounds_toArray, List.set_cons_zero, List.set_cons_succ]
  refine wpAnyH_take (i := 9) (v := ?_) rfl (by kernel_rfl) (by kernel_rfl) (by kernel_rfl) (fun _ _ _ h => h) (Or.inl ⟨by rfl, ?_⟩) hHeld ?_
  rotate_left
  · (intro wq hSw; (try dsimp only at hSw); (try obtain ⟨s0, s1⟩ := hSw); (go_simp <;> with_reducible rfl))
  try simp only [Act.put, List.getElem_toArray, List.getElem_cons_zero, List.getElem_cons_succ, List.setIfInBounds_toArray, List.set_cons_zero, List.set_cons_succ]
  refine wpAnyH_done (by kernel_rfl) ?_ _
  go_wp2_with (go_at_call 25; refine (lend_any _ HG1.out.1 104).mono ?_; rintro e w3 ⟨rfl, hw3⟩; have HW3 := hide hw3; clear hw3)
  go_ret
  obtain rfl := HW3.out
  exact ⟨rfl, F1, H1.out.1.setCell (a := ⟨l, 4, none⟩) HG1.out.2 _, HG1.out.1.off, HG1.out.2, H1.out.2.fx.trans (Fx.set l 4 _)⟩

set_option maxRecDepth 100000 in
set_option maxHeartbeats 1000000 in
theorem lclear_more {B : Nat} {l d : Nat} {p : PS} {F : Nat → Prop} {nm : ByteArray} {sz ct : Nat} (w : World) (h : Di B w d p F) (hg : Lg w l d nm sz ct) (hl : ¬ F l) (hoff : p.off = false) (hA : p.arms) (h1 : p.ain ≠ 1) (hwr : p.wr ≤ 1000000000) (hs : okN nm) (bs : List Nat) (su : Nat) (hc : (nm, bs, su) ∈ p.con) (h8 : 8 ≤ bs.length) :
    Calls Tryd.prog 13 #[.pointer (some ⟨l, 0, none⟩)] w fun e w' => e = .returned (.int .i64 0) ∧ ∃ F', Di B w' d (p.wrote (cutF nm 8)) F' ∧ Lg w' l d nm 8 0 ∧ ¬ F' l ∧ Fx l w F w' F' := by
  have HA : Hid (Calls Tryd.prog 28 #[.pointer (some ⟨d, 0, none⟩), .string nm, .int .i64 8] w.drew _) := di_cutW w.drew h.drew hoff hA hwr nm hs bs su hc 8 h8
  rw [PS.code_more h1] at HA
  have HG := hide hg
  have HL := hide hl
  have HLT := hide (heap_lt hg)
  have q1 : w.drew.cell? ⟨l, 0, none⟩ = some (.pointer (some ⟨d, 0, none⟩)) := hg.cell 0 _ rfl
  have q2 : w.drew.cell? ⟨l, 1, none⟩ = some (.string nm) := hg.cell 1 _ rfl
  have q0 : w.cell? ⟨l, 4, none⟩ = some (.bool false) := hg.cell 4 _ rfl
  clear h hg hl hs hc hoff hA h1 hwr h8
  go_enter Tryd.func13, Tryd.ntmps13
  go_upto_region 3 with fail
  refine wp_region_held_drew (S := fun w' => w'.cell? ⟨l, 0, none⟩ = some (.pointer (some ⟨d, 0, none⟩)) ∧ w'.cell? ⟨l, 1, none⟩ = some (.string nm)) (by kernel_rfl) ⟨q1, q2⟩ (fun hHeld => ?_)
  refine wpAnyH_take (i := 0) (v := ?_) rfl (by kernel_rfl) (by kernel_rfl) (by kernel_rfl) (fun _ _ _ h => h) (Or.inl ⟨by rfl, ?_⟩) hHeld ?_
  rotate_left
  · (intro wq hSw; (try dsimp only at hSw); (try obtain ⟨s0, s1⟩ := hSw); (go_simp <;> with_reducible rfl))
  try simp only [Act.put, List.getElem_toArray, List.getElem_cons_zero, List.getElem_cons_succ, List.setIfInBounds_toArray, List.set_cons_zero, List.set_cons_succ]
  refine wpAnyH_take (i := 1) (v := ?_) rfl (by kernel_rfl) (by kernel_rfl) (by kernel_rfl) (fun _ _ _ h => h) (Or.inl ⟨by rfl, ?_⟩) hHeld ?_
  rotate_left
  · (intro wq hSw; (try dsimp only at hSw); (try obtain ⟨s0, s1⟩ := hSw); (go_simp <;> with_reducible rfl))
  try simp only [Act.put, List.getElem_toArray, List.getElem_cons_zero, List.getElem_cons_succ, List.setIfInBounds_toArray, List.set_cons_zero, List.set_cons_succ]
  refine wpAnyH_take (i := 2) (v := ?_) rfl (by kernel_rfl) (by kernel_rfl) (by kernel_rfl) (fun _ _ _ h => h) (Or.inl ⟨by rfl, ?_⟩) hHeld ?_
  rotate_left
  · (intro wq hSw; (try dsimp only at hSw); (try obtain ⟨s0, s1⟩ := hSw); (go_simp <;> with_reducible rfl))
  try simp only [Act.put, List.getElem_toArray, List.getElem_cons_zero, List.getElem_cons_succ, List.setIfInBounds_toArray, List.set_cons_zero, List.set_cons_succ]
  refine wpAnyH_take (i := 3) (v := ?_) rfl (by kernel_rfl) (by kernel_rfl) (by kernel_rfl) (fun _ _ _ h => h) (Or.inl ⟨by rfl, ?_⟩) hHeld ?_
  rotate_left
  · (intro wq hSw; (try dsimp only at hSw); (try obtain ⟨s0, s1⟩ := hSw); (go_simp <;> with_reducible rfl))
  try simp only [Act.put, List.getElem_toArray, List.getElem_cons_zero, List.getElem_cons_succ, List.setIfInBounds_toArray, List.set_cons_zero, List.set_cons_succ]
  refine wpAnyH_take (i := 4) (v := ?_) rfl (by kernel_rfl) (by kernel_rfl) (by kernel_rfl) (fun _ _ _ h => h) (Or.inl ⟨by rfl, ?_⟩) hHeld ?_
  rotate_left
  · (intro wq hSw; (try dsimp only at hSw); (try obtain ⟨s0, s1⟩ := hSw); (go_simp <;> with_reducible rfl))
  try simp only [Act.put, List.getElem_toArray, List.getElem_cons_zero, List.getElem_cons_succ, List.setIfInBounds_toArray, List.set_cons_zero, List.set_cons_succ]
  refine wpAnyH_take (i := 5) (v := ?_) rfl (by kernel_rfl) (by kernel_rfl) (by kernel_rfl) (fun _ _ _ h => h) (Or.inl ⟨by rfl, ?_⟩) hHeld ?_
  rotate_left
  · (intro wq hSw; (try dsimp only at hSw); (try obtain ⟨s0, s1⟩ := hSw); (go_simp <;> with_reducible rfl))
  try simp only [Act.put, List.getElem_toArray, List.getElem_cons_zero, List.getElem_cons_succ, List.setIfInBounds_toArray, List.set_cons_zero, List.set_cons_succ]
  refine wpAnyH_take (i := 6) (v := ?_) rfl (by kernel_rfl) (by kernel_rfl) (by kernel_rfl) (fun _ _ _ h => h) (Or.inl ⟨by rfl, ?_⟩) hHeld ?_
  rotate_left
  · (intro wq hSw; (try dsimp only at hSw); (try obtain ⟨s0, s1⟩ := hSw); (go_simp <;> with_reducible rfl))
  try simp only [Act.put, List.getElem_toArray, List.getElem_cons_zero, List.getElem_cons_succ, List.setIfInBounds_toArray, List.set_cons_zero, List.set_cons_succ]
  refine wpAnyH_take (i := 7) (v := ?_) rfl (by kernel_rfl) (by kernel_rfl) (by kernel_rfl) (fun _ _ _ h => h) (Or.inl ⟨by rfl, ?_⟩) hHeld ?_
  rotate_left
  · (intro wq hSw; (try dsimp only at hSw); (try obtain ⟨s0, s1⟩ := hSw); (go_simp <;> with_reducible rfl))
  try simp only [Act.put, List.getElem_toArray, List.getElem_cons_zero, List.getElem_cons_succ, List.setIfInBounds_toArray, List.set_cons_zero, List.set_cons_succ]
  refine wpAnyH_ready (rs := [8]) (by kernel_rfl) (by simp) ?_
  refine AllReadyH.cons rfl (fun K hK => ?_) AllReadyH.nil
  go_simp
  refine HA.out.mono ?_
  rintro _ w1 ⟨rfl, F1, hD1, hF1⟩
  have H1 : Hid (Di B w1 d (p.wrote (cutF nm 8)) F1 ∧ Fr w F w1 F1) := ⟨hD1, hF1.drew⟩
  clear hD1 hF1
  have HG1 : Hid (Lg w1 l d nm sz ct ∧ ¬ F1 l) := ⟨HG.out.fr H1.out.2 HL.out, (H1.out.2.block l HLT.out HL.out).1⟩
  have r1 : w1.cell? ⟨l, 0, none⟩ = some (.pointer (some ⟨d, 0, none⟩)) := HG1.out.1.cell 0 _ rfl
  have r2 : w1.cell? ⟨l, 1, none⟩ = some (.string nm) := HG1.out.1.cell 1 _ rfl
  have t1 : w1.drew.cell? ⟨l, 0, none⟩ = some (.pointer (some ⟨d, 0, none⟩)) := r1
  have t2 : w1.drew.cell? ⟨l, 1, none⟩ = some (.string nm) := r2
  have d2 := HG1.out.1.cell 2 (.int .i64 (sz : Int)) rfl
  have g2 := frozen_of HG1.out.1 2
  have d3 := HG1.out.1.cell 3 (.int .i64 (ct : Int)) rfl
  have g3 := frozen_of HG1.out.1 3
  refine hK.out _ _ ⟨r1, r2⟩ (fun hHeld => ?_)
  clear hK K
  try simp only [Act.put, List.getElem_toArray, List.getElem_cons_zero, List.getElem_cons_succ, List.setIfInBounds_toArray, List.set_cons_zero, List.set_cons_succ]
  refine wpAnyH_take (i := 9) (v := ?_) rfl (by kernel_rfl) (by kernel_rfl) (by kernel_rfl) (fun _ _ _ h => h) (Or.inl ⟨by rfl, ?_⟩) hHeld ?_
  rotate_left
  · (intro wq hSw; (try dsimp only at hSw); (try obtain ⟨s0, s1⟩ := hSw); (go_simp <;> with_reducible rfl))
  try simp only [Act.put, List.getElem_toArray, List.getElem_cons_zero, List.getElem_cons_succ, List.setIfInBounds_toArray, List.set_cons_zero, List.set_cons_succ]
  refine wpAnyH_done (by kernel_rfl) ?_ _
  go_wp2_with fail
  go_ret
  exact ⟨rfl, F1, (H1.out.1.setCell (a := ⟨l, 2, none⟩) HG1.out.2 _).setCell (a := ⟨l, 3, none⟩) HG1.out.2 _, (HG1.out.1.set 8).setC 0, HG1.out.2, (H1.out.2.fx.trans (Fx.set l 2 _)).trans (Fx.set l 3 _)⟩

end Go.Proofs.YtgmahgfelbkoeaaDoor

/- Append. -/
import Derived.Test.YtiblnkiecpcdpaaJ1G
namespace Go.Proofs.Ytiblnkiecpcdpaa
open Go.RowKit
open Go.MuLone (lock_free unlock_deferred run_callFunc_enter)
set_option linter.unusedVariables false
set_option linter.unusedSimpArgs false

theorem lay_any {B : Nat} {S : DS} {lk : Int} (w : World) (h : Dk B w lk S) (nm : ByteArray) (hs : nm.size ≤ 1000) (hc : (∃ x ∈ S.L, x.nm = nm) ∨ ((∀ x ∈ S.L, x.nm ≠ nm) ∧ S.L.length < 256)) (vb : Value) (bs : List Nat) (hb : IsBy w vb bs) (hbb : ∀ n ∈ bs, n < 256) (hr : tot S.L + bs.length ≤ S.room) :
    Calls Try.prog 43 #[.pointer (some ⟨S.d, 0, none⟩), .string nm, vb] w fun e w' => e = .returned (.tuple #[]) ∧ ∃ S' : DS, S'.d = S.d ∧ S'.ps = { S.ps with con := Con.app S.ps.con nm bs } ∧ Dk B w' lk S' ∧ Fr w (Fp S) w' (Fp S') := by
  rcases hc with ⟨x, hx, rfl⟩ | ⟨hx, hl⟩
  · exact lay_old w h x hx vb bs hb hbb hr
  · exact lay_new w h nm hx hs hl vb bs hb hbb hr

theorem Fr.drew {w w' : World} {F F' : Nat → Prop} (h : Fr w.drew F w' F') : Fr w F w' F' := ⟨h.os, h.tape, h.output, h.size, h.block⟩
theorem Fr.cell {w w' : World} {F F' : Nat → Prop} (h : Fr w F w' F') {a : Addr} (hn : ¬ F a.block) {v : Value} (hc : w.cell? a = some v) : w'.cell? a = some v := by
  rw [World.cell?_of_block (w := w) (w' := w') (a := a) (h.block _ (World.block_lt_of_cell? w a hc) hn).2]; exact hc
theorem Dk.drew {B : Nat} {w : World} {lk : Int} {S : DS} (h : Dk B w lk S) : Dk B w.drew lk S := h.keep fun _ _ => rfl
theorem isBy_heap {w w' : World} {v : Value} {bs : List Nat} (h : IsBy w v bs) (hw : w'.heap = w.heap) : IsBy w' v bs := by
  rcases h with (h | ⟨g, o, cap, h1, h2⟩) | h
  · exact .inl (.inl h)
  · exact .inl (.inr ⟨g, o, cap, h1, fun i hi => by rw [World.cell?_of_block (w := w) (w' := w') (a := ⟨g, o + i, none⟩) (by rw [hw])]; exact h2 i hi⟩)
  · exact .inr h

set_option maxRecDepth 100000 in
set_option maxHeartbeats 1000000 in
theorem appendC_any {B : Nat} {S : DS} {lk : Int} (w : World) (h : Dk B w lk S) (nm : ByteArray) (hs : nm.size ≤ 1000) (hc : (∃ x ∈ S.L, x.nm = nm) ∨ ((∀ x ∈ S.L, x.nm ≠ nm) ∧ S.L.length < 256)) (p : Option Addr) (n cb : Nat) (bs : List Nat) (hnb : n = bs.length) (hn0 : n ≤ 1000000000) (hnc : n ≤ cb) (hp : p = none → cb = 0) (hb : IsBy w (.slice p n cb) bs) (hbb : ∀ n ∈ bs, n < 256) (hr : tot S.L + bs.length ≤ S.room) (g1 g2 g3 : Nat) (n1 : ¬ Fp S g1) (n2 : ¬ Fp S g2) (n3 : ¬ Fp S g3)
    (c1 : w.cell? ⟨g1, 0, none⟩ = some (.pointer (some ⟨S.d, 0, none⟩))) (c2 : w.cell? ⟨g2, 0, none⟩ = some (.string nm)) (c3 : w.cell? ⟨g3, 0, none⟩ = some (.slice p n cb)) :
    Calls Try.prog 42 #[.int .i64 9223372036854775807, .pointer (some ⟨g1, 0, none⟩), .pointer (some ⟨g2, 0, none⟩), .pointer (some ⟨g3, 0, none⟩)] w fun e w' => e = .returned (.tuple #[]) ∧ ∃ S' : DS, S'.d = S.d ∧ S'.ps = { S.ps with con := Con.app S.ps.con nm bs } ∧ Dk B w' lk S' ∧ Fr w (Fp S) w' (Fp S') := by
  have HL : Hid (Calls Try.prog 43 #[.pointer (some ⟨S.d, 0, none⟩), .string nm, .slice p n cb] w.drew _) := lay_any w.drew h.drew nm hs hc (.slice p n cb) bs (isBy_heap hb rfl) hbb hr
  have d1 : w.drew.cell? ⟨g1, 0, none⟩ = some (.pointer (some ⟨S.d, 0, none⟩)) := c1
  have d2 : w.drew.cell? ⟨g2, 0, none⟩ = some (.string nm) := c2
  have d3 : w.drew.cell? ⟨g3, 0, none⟩ = some (.slice p n cb) := c3
  have hmn : ¬ (9223372036854775807 : Int) < (n : Int) := by omega
  have hmn2 : (n : Int) ≤ 9223372036854775807 := by omega
  clear h hb hbb hr hc hnb
  go_enter Try.func42, Try.ntmps42
  rcases p with _ | ad
  · obtain rfl := hp rfl
    obtain rfl : n = 0 := by omega
    have hmin : min (9223372036854775807 : Int) 0 = 0 := by decide
    have hif : (if ((0 : Nat) : Int) < 9223372036854775807 then ((0 : Nat) : Int) else 9223372036854775807) = 0 := by decide
    have hif1 : (if (0 : Int) < 9223372036854775807 then (0 : Int) else 9223372036854775807) = 0 := by decide
    refine wp_region_held_drew (S := fun w' => w'.cell? ⟨g1, 0, none⟩ = some (.pointer (some ⟨S.d, 0, none⟩)) ∧ w'.cell? ⟨g2, 0, none⟩ = some (.string nm) ∧ w'.cell? ⟨g3, 0, none⟩ = some (.slice none 0 0)) (by kernel_rfl) ⟨d1, d2, d3⟩ (fun hHeld => ?_)
    refine wpAnyH_take (i := 0) (v := ?_) rfl (by kernel_rfl) (by kernel_rfl) (by kernel_rfl) (fun _ _ _ h => h) (Or.inl ⟨by rfl, ?_⟩) hHeld ?_
    rotate_left
    · (intro wq hSw; (try dsimp only at hSw); (try obtain ⟨s0, s1, s2⟩ := hSw); (go_simp <;> with_reducible rfl))
    try simp only [Act.put, List.getElem_toArray, List.getElem_cons_zero, List.getElem_cons_succ, List.setIfInBounds_toArray, List.set_cons_zero, List.set_cons_succ]
    refine wpAnyH_take (i := 1) (v := ?_) rfl (by kernel_rfl) (by kernel_rfl) (by kernel_rfl) (fun _ _ _ h => h) (Or.inl ⟨by rfl, ?_⟩) hHeld ?_
    rotate_left
    · (intro wq hSw; (try dsimp only at hSw); (try obtain ⟨s0, s1, s2⟩ := hSw); (go_simp <;> with_reducible rfl))
    try simp only [Act.put, List.getElem_toArray, List.getElem_cons_zero, List.getElem_cons_succ, List.setIfInBounds_toArray, List.set_cons_zero, List.set_cons_succ]
    refine wpAnyH_take (i := 2) (v := ?_) rfl (by kernel_rfl) (by kernel_rfl) (by kernel_rfl) (fun _ _ _ h => h) (Or.inl ⟨by rfl, ?_⟩) hHeld ?_
    rotate_left
    · (intro wq hSw; (try dsimp only at hSw); (try obtain ⟨s0, s1, s2⟩ := hSw); (go_simp <;> with_reducible rfl))
    try simp only [Act.put, List.getElem_toArray, List.getElem_cons_zero, List.getElem_cons_succ, List.setIfInBounds_toArray, List.set_cons_zero, List.set_cons_succ]
    refine wpAnyH_take (i := 3) (v := ?_) rfl (by kernel_rfl) (by kernel_rfl) (by kernel_rfl) (fun _ _ _ h => h) (Or.inl ⟨by rfl, ?_⟩) hHeld ?_
    rotate_left
    · (intro wq hSw; (try dsimp only at hSw); (try obtain ⟨s0, s1, s2⟩ := hSw); (go_simp <;> with_reducible rfl))
    try simp only [Act.put, List.getElem_toArray, List.getElem_cons_zero, List.getElem_cons_succ, List.setIfInBounds_toArray, List.set_cons_zero, List.set_cons_succ]
    refine wpAnyH_take (i := 4) (v := ?_) rfl (by kernel_rfl) (by kernel_rfl) (by kernel_rfl) (fun _ _ _ h => h) (Or.inl ⟨by rfl, ?_⟩) hHeld ?_
    rotate_left
    · (intro wq hSw; (try dsimp only at hSw); (try obtain ⟨s0, s1, s2⟩ := hSw); (go_simp <;> with_reducible rfl))
    try simp only [Act.put, List.getElem_toArray, List.getElem_cons_zero, List.getElem_cons_succ, List.setIfInBounds_toArray, List.set_cons_zero, List.set_cons_succ]
    refine wpAnyH_take (i := 5) (v := ?_) rfl (by kernel_rfl) (by kernel_rfl) (by kernel_rfl) (fun _ _ _ h => h) (Or.inl ⟨by rfl, ?_⟩) hHeld ?_
    rotate_left
    · (intro wq hSw; (try dsimp only at hSw); (try obtain ⟨s0, s1, s2⟩ := hSw); (go_simp <;> with_reducible rfl))
    try simp only [Act.put, List.getElem_toArray, List.getElem_cons_zero, List.getElem_cons_succ, List.setIfInBounds_toArray, List.set_cons_zero, List.set_cons_succ]
    refine wpAnyH_take (i := 6) (v := ?_) rfl (by kernel_rfl) (by kernel_rfl) (by kernel_rfl) (fun _ _ _ h => h) (Or.inl ⟨by rfl, ?_⟩) hHeld ?_
    rotate_left
    · (intro wq hSw; (try dsimp only at hSw); (try obtain ⟨s0, s1, s2⟩ := hSw); (go_simp <;> with_reducible rfl))
    try simp only [Act.put, List.getElem_toArray, List.getElem_cons_zero, List.getElem_cons_succ, List.setIfInBounds_toArray, List.set_cons_zero, List.set_cons_succ]
    refine wpAnyH_take (i := 7) (v := ?_) rfl (by kernel_rfl) (by kernel_rfl) (by kernel_rfl) (fun _ _ _ h => h) (Or.inl ⟨by rfl, ?_⟩) hHeld ?_
    rotate_left
    · (intro wq hSw; (try dsimp only at hSw); (try obtain ⟨s0, s1, s2⟩ := hSw); (go_simp <;> with_reducible rfl))
    try simp only [Act.put, List.getElem_toArray, List.getElem_cons_zero, List.getElem_cons_succ, List.setIfInBounds_toArray, List.set_cons_zero, List.set_cons_succ]
    refine wpAnyH_ready (rs := [8]) (by kernel_rfl) (by simp) ?_
    refine AllReadyH.cons rfl (fun K hK => ?_) AllReadyH.nil
    go_simp
    refine HL.out.mono ?_
    rintro _ w1 ⟨rfl, hR⟩
    have HR2 := hide hR
    clear hR
    refine hK.out _ _ (by obtain ⟨S1, e1, e2, e3, e4⟩ := HR2.out; exact ⟨e4.cell n1 d1, e4.cell n2 d2, e4.cell n3 d3⟩) (fun hHeld => ?_)
    clear hK K
    try simp only [Act.put, List.getElem_toArray, List.getElem_cons_zero, List.getElem_cons_succ, List.setIfInBounds_toArray, List.set_cons_zero, List.set_cons_succ]
    refine wpAnyH_done (by kernel_rfl) ?_ _
    go_end0
    obtain ⟨S', e1, e2, e3, e4⟩ := HR2.out
    exact ⟨rfl, S', e1, e2, e3, e4.drew⟩
  · have hnc' : (n : Int) ≤ (cb : Int) := by omega
    have hmin : min (9223372036854775807 : Int) (n : Int) = (n : Int) := by omega
    have hif : (if (n : Int) < 9223372036854775807 then (n : Int) else 9223372036854775807) = (n : Int) := if_pos (by omega)
    have hif1 := hif
    refine wp_region_held_drew (S := fun w' => w'.cell? ⟨g1, 0, none⟩ = some (.pointer (some ⟨S.d, 0, none⟩)) ∧ w'.cell? ⟨g2, 0, none⟩ = some (.string nm) ∧ w'.cell? ⟨g3, 0, none⟩ = some (.slice (some ad) n cb)) (by kernel_rfl) ⟨d1, d2, d3⟩ (fun hHeld => ?_)
    refine wpAnyH_take (i := 0) (v := ?_) rfl (by kernel_rfl) (by kernel_rfl) (by kernel_rfl) (fun _ _ _ h => h) (Or.inl ⟨by rfl, ?_⟩) hHeld ?_
    rotate_left
    · (intro wq hSw; (try dsimp only at hSw); (try obtain ⟨s0, s1, s2⟩ := hSw); (go_simp <;> with_reducible rfl))
    try simp only [Act.put, List.getElem_toArray, List.getElem_cons_zero, List.getElem_cons_succ, List.setIfInBounds_toArray, List.set_cons_zero, List.set_cons_succ]
    refine wpAnyH_take (i := 1) (v := ?_) rfl (by kernel_rfl) (by kernel_rfl) (by kernel_rfl) (fun _ _ _ h => h) (Or.inl ⟨by rfl, ?_⟩) hHeld ?_
    rotate_left
    · (intro wq hSw; (try dsimp only at hSw); (try obtain ⟨s0, s1, s2⟩ := hSw); (go_simp <;> with_reducible rfl))
    try simp only [Act.put, List.getElem_toArray, List.getElem_cons_zero, List.getElem_cons_succ, List.setIfInBounds_toArray, List.set_cons_zero, List.set_cons_succ]
    refine wpAnyH_take (i := 2) (v := ?_) rfl (by kernel_rfl) (by kernel_rfl) (by kernel_rfl) (fun _ _ _ h => h) (Or.inl ⟨by rfl, ?_⟩) hHeld ?_
    rotate_left
    · (intro wq hSw; (try dsimp only at hSw); (try obtain ⟨s0, s1, s2⟩ := hSw); (go_simp <;> with_reducible rfl))
    try simp only [Act.put, List.getElem_toArray, List.getElem_cons_zero, List.getElem_cons_succ, List.setIfInBounds_toArray, List.set_cons_zero, List.set_cons_succ]
    refine wpAnyH_take (i := 3) (v := ?_) rfl (by kernel_rfl) (by kernel_rfl) (by kernel_rfl) (fun _ _ _ h => h) (Or.inl ⟨by rfl, ?_⟩) hHeld ?_
    rotate_left
    · (intro wq hSw; (try dsimp only at hSw); (try obtain ⟨s0, s1, s2⟩ := hSw); (go_simp <;> with_reducible rfl))
    try simp only [Act.put, List.getElem_toArray, List.getElem_cons_zero, List.getElem_cons_succ, List.setIfInBounds_toArray, List.set_cons_zero, List.set_cons_succ]
    refine wpAnyH_take (i := 4) (v := ?_) rfl (by kernel_rfl) (by kernel_rfl) (by kernel_rfl) (fun _ _ _ h => h) (Or.inl ⟨by rfl, ?_⟩) hHeld ?_
    rotate_left
    · (intro wq hSw; (try dsimp only at hSw); (try obtain ⟨s0, s1, s2⟩ := hSw); (go_simp <;> with_reducible rfl))
    try simp only [Act.put, List.getElem_toArray, List.getElem_cons_zero, List.getElem_cons_succ, List.setIfInBounds_toArray, List.set_cons_zero, List.set_cons_succ]
    refine wpAnyH_take (i := 5) (v := ?_) rfl (by kernel_rfl) (by kernel_rfl) (by kernel_rfl) (fun _ _ _ h => h) (Or.inl ⟨by rfl, ?_⟩) hHeld ?_
    rotate_left
    · (intro wq hSw; (try dsimp only at hSw); (try obtain ⟨s0, s1, s2⟩ := hSw); (go_simp <;> with_reducible rfl))
    try simp only [Act.put, List.getElem_toArray, List.getElem_cons_zero, List.getElem_cons_succ, List.setIfInBounds_toArray, List.set_cons_zero, List.set_cons_succ]
    refine wpAnyH_take (i := 6) (v := ?_) rfl (by kernel_rfl) (by kernel_rfl) (by kernel_rfl) (fun _ _ _ h => h) (Or.inl ⟨by rfl, ?_⟩) hHeld ?_
    rotate_left
    · (intro wq hSw; (try dsimp only at hSw); (try obtain ⟨s0, s1, s2⟩ := hSw); (go_simp <;> with_reducible rfl))
    try simp only [Act.put, List.getElem_toArray, List.getElem_cons_zero, List.getElem_cons_succ, List.setIfInBounds_toArray, List.set_cons_zero, List.set_cons_succ]
    refine wpAnyH_take (i := 7) (v := ?_) rfl (by kernel_rfl) (by kernel_rfl) (by kernel_rfl) (fun _ _ _ h => h) (Or.inl ⟨by rfl, ?_⟩) hHeld ?_
    rotate_left
    · (intro wq hSw; (try dsimp only at hSw); (try obtain ⟨s0, s1, s2⟩ := hSw); (go_simp <;> with_reducible rfl))
    try simp only [Act.put, List.getElem_toArray, List.getElem_cons_zero, List.getElem_cons_succ, List.setIfInBounds_toArray, List.set_cons_zero, List.set_cons_succ]
    refine wpAnyH_ready (rs := [8]) (by kernel_rfl) (by simp) ?_
    refine AllReadyH.cons rfl (fun K hK => ?_) AllReadyH.nil
    go_simp
    refine HL.out.mono ?_
    rintro _ w1 ⟨rfl, hR⟩
    have HR2 := hide hR
    clear hR
    refine hK.out _ _ (by obtain ⟨S1, e1, e2, e3, e4⟩ := HR2.out; exact ⟨e4.cell n1 d1, e4.cell n2 d2, e4.cell n3 d3⟩) (fun hHeld => ?_)
    clear hK K
    try simp only [Act.put, List.getElem_toArray, List.getElem_cons_zero, List.getElem_cons_succ, List.setIfInBounds_toArray, List.set_cons_zero, List.set_cons_succ]
    refine wpAnyH_done (by kernel_rfl) ?_ _
    go_end0
    obtain ⟨S', e1, e2, e3, e4⟩ := HR2.out
    exact ⟨rfl, S', e1, e2, e3, e4.drew⟩

end Go.Proofs.Ytiblnkiecpcdpaa

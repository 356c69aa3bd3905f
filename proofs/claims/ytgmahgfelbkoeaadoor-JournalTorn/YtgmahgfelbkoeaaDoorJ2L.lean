/- A log is opened of a file that is there. -/
import Derived.Test.YtgmahgfelbkoeaaDoorJ2K
namespace Go.Proofs.YtgmahgfelbkoeaaDoor
open Go.RowKit
set_option linter.unusedVariables false
set_option linter.unusedSimpArgs false

set_option maxRecDepth 100000 in
set_option maxHeartbeats 8000000 in
theorem opened_full {B : Nat} {l d : Nat} {p : PS} {F : Nat → Prop} {nm : ByteArray} (w : World) (h : Di B w d p F) (hg : Lg w l d nm 0 0) (hl : ¬ F l) (hoff : p.off = false) (hs : okN nm) (bs : List Nat) (su : Nat) (hc : (nm, bs, su) ∈ p.con) (h8 : 8 ≤ bs.length) (hlb : bs.length ≤ 268435456) (hpre : bs.take 8 = headB) (rr : List (List (List Nat))) (htk : tkRecs (bs.length + 1) (bs.drop 8) [] = some (rr, 0)) (hT : TabC w) (hTF : ¬ F 0 ∧ 0 ≠ l) :
    Calls Tryd.prog 19 #[.pointer (some ⟨l, 0, none⟩)] w fun e w' => ∃ v, e = .returned (.tuple #[.pointer (some ⟨l, 0, none⟩), v, .int .i64 0]) ∧ Di B w' d p F ∧ Lg w' l d nm bs.length rr.length ∧ Fx l w F w' F ∧ RecsAt w' w.heap.size w'.heap.size v rr := by
  have hmf : ∀ (fn : Fn) (first cap : Array Value) (w : World), (Instr.makeFunc fn first cap).run Tryd.prog w = .ok (.func fn first cap) w := fun _ _ _ _ => rfl
  have HST := hide (op_start h hg hl)
  have HRD : Hid (∀ w1 F1, Di B w1 d p F1 → Calls Tryd.prog 34 #[.pointer (some ⟨d, 0, none⟩), .string nm] w1 _) := fun w1 F1 h1 => di_read w1 h1 hoff nm hs bs su hc
  have HTK : Hid (∀ w1 p1 c1, Cy w1 p1 bs.length c1 bs → (∀ n ∈ bs, n < 256) → TabC w1 → Calls Tryd.prog 37 #[.slice p1 bs.length c1] w1 fun e w' => ∃ v, e = .returned (.tuple #[v, .int .i64 (bs.length : Int), .int .i64 0]) ∧ Below w1.heap.size w1 w' ∧ RecsAt w' w1.heap.size w'.heap.size v rr) := fun w1 p1 c1 h1 h2 h3 => by
    refine (taken_ok p1 bs.length c1 bs w1 h1 h2 hlb h3 hpre).mono ?_
    rintro e w' ⟨hB, hm⟩
    rw [htk] at hm
    obtain ⟨v, rfl, hv⟩ := hm
    exact ⟨v, rfl, hB, hv⟩
  have HT : Hid (∀ w1 F1, Fx l w F w1 F1 → TabC w1) := fun w1 F1 hf j hj => by
    rw [World.cell?_of_block (w := w) (w' := w1) (a := ⟨0, j, none⟩) ((hf.block _ (World.block_lt_of_cell? _ _ (hT j hj)) hTF.1).2 hTF.2)]; exact hT j hj
  have HFX : Hid (l < w.heap.size) := heap_lt hg
  obtain ⟨N, hN⟩ : ∃ N, bs.length = N := ⟨_, rfl⟩
  have HN := hide hN
  rw [hN] at h8 hlb HTK ⊢
  obtain ⟨nr, hnr⟩ : ∃ nr, rr.length = nr := ⟨_, rfl⟩
  have HNR := hide hnr
  rw [hnr]
  obtain ⟨b1, e1⟩ : ∃ b1, w.heap.size = b1 := ⟨_, rfl⟩
  obtain ⟨b2, e2⟩ : ∃ b2, b1 + 1 = b2 := ⟨_, rfl⟩
  obtain ⟨b3, e3⟩ : ∃ b3, b2 + 1 = b3 := ⟨_, rfl⟩
  rw [e1, e2, e3] at HST
  have E1 := hide e1
  have E2 := hide e2
  have E3 := hide e3
  clear e1 e2 e3
  clear h hg hl hoff hs hc hT hTF hpre htk hN hnr
  go_enter_defers Tryd.func19, Tryd.ntmps19
  go_upto_region 3 with fail
  rw [E1.out, E2.out, E3.out]
  obtain ⟨wa, hwa⟩ : ∃ wa, (((w.alloc (.cells #[.pointer (some ⟨l, 0, none⟩)] 31)).alloc (.cells #[.slice none 0 0] 22)).alloc (.cells #[.int .i64 0] 26)) = wa := ⟨_, rfl⟩
  have HWA : Hid (Below w.heap.size w wa ∧ b1 < wa.heap.size ∧ b2 < wa.heap.size ∧ b3 < wa.heap.size ∧ w.heap.size = b1) := by
    rw [← hwa]; exact ⟨(((Below.refl _ _).alloc (Nat.le_refl _) _).alloc (by simp) _).alloc (by simp; omega) _, by have := E1.out; simp; omega, by have := E1.out; have := E2.out; simp; omega, by have := E1.out; have := E2.out; have := E3.out; simp; omega, E1.out⟩
  rw [hwa] at HST
  rw [hwa]
  clear hwa E1 E2 E3
  have q1 : wa.drew.cell? ⟨b1, 0, none⟩ = some (.pointer (some ⟨l, 0, none⟩)) := HST.out.bx.c1
  have q2 : wa.drew.cell? ⟨l, 0, none⟩ = some (.pointer (some ⟨d, 0, none⟩)) := HST.out.lg.cell 0 _ rfl
  have q3 : wa.drew.cell? ⟨l, 1, none⟩ = some (.string nm) := HST.out.lg.cell 1 _ rfl
  refine wp_region_noPanic ?_
  refine wp_region_held_drew (S := fun w' => w'.cell? ⟨b1, 0, none⟩ = some (.pointer (some ⟨l, 0, none⟩)) ∧ w'.cell? ⟨l, 0, none⟩ = some (.pointer (some ⟨d, 0, none⟩)) ∧ w'.cell? ⟨l, 1, none⟩ = some (.string nm)) (by kernel_rfl) ⟨q1, q2, q3⟩ (fun hHeld => ?_)
  refine wpAnyH_take (i := 0) (v := ?_) rfl (by kernel_rfl) (by kernel_rfl) (by kernel_rfl) (fun _ _ _ h => h) (Or.inl ⟨by rfl, ?_⟩) hHeld ?_
  rotate_left
  · (intro wq hSw; (try dsimp only at hSw); (try obtain ⟨s0, s1, s2⟩ := hSw); (go_simp <;> with_reducible rfl))
  try simp only [Act.put, List.getElem_toArray, List.getElem_cons_zero, List.getElem_cons_succ, List.setIfInBounds_toArray, List.set_cons_zero, List.set_cons_succ]
  refine wpAnyH_take (i := 1) (v := ?_) rfl (by kernel_rfl) (by kernel_rfl) (by kernel_rfl) (fun _ _ _ h => h) (Or.inl ⟨by rfl, ?_⟩) hHeld ?_
  rotate_left
  · (intro wq hSw; (try dsimp only at hSw); (try obtain ⟨s0, s1, s2⟩ := hSw); (go_simp <;> with_reducible rfl))
  try simp only [Act.put, List.getElem_toArray, List.getElem_cons_zero, List.getElem_cons_succ, List.setIfInBounds_toArray, List.set_cons_zero, List.set_cons_succ]
  refine wpAnyH_take (i := 2) (v := ?_) rfl (by kernel_rfl) (by kernel_rfl) (by kernel_rfl) (fun _ _ _ h => h) (Or.inl ⟨by rfl, ?_⟩) hHeld ?_
  rotate_left
  · (intro wq hSw; (try dsimp only at hSw); (try obtain ⟨s0, s1, s2⟩ := hSw); (go_simp <;> with_reducible rfl))
  try simp only [Act.put, List.getElem_toArray, List.getElem_cons_zero, List.getElem_cons_succ, List.setIfInBounds_toArray, List.set_cons_zero, List.set_cons_succ]
  refine wpAnyH_take (i := 3) (v := ?_) rfl (by kernel_rfl) (by kernel_rfl) (by kernel_rfl) (fun _ _ _ h => h) (Or.inl ⟨by rfl, ?_⟩) hHeld ?_
  rotate_left
  · (intro wq hSw; (try dsimp only at hSw); (try obtain ⟨s0, s1, s2⟩ := hSw); (go_simp <;> with_reducible rfl))
  try simp only [Act.put, List.getElem_toArray, List.getElem_cons_zero, List.getElem_cons_succ, List.setIfInBounds_toArray, List.set_cons_zero, List.set_cons_succ]
  refine wpAnyH_take (i := 4) (v := ?_) rfl (by kernel_rfl) (by kernel_rfl) (by kernel_rfl) (fun _ _ _ h => h) (Or.inl ⟨by rfl, ?_⟩) hHeld ?_
  rotate_left
  · (intro wq hSw; (try dsimp only at hSw); (try obtain ⟨s0, s1, s2⟩ := hSw); (go_simp <;> with_reducible rfl))
  try simp only [Act.put, List.getElem_toArray, List.getElem_cons_zero, List.getElem_cons_succ, List.setIfInBounds_toArray, List.set_cons_zero, List.set_cons_succ]
  refine wpAnyH_take (i := 5) (v := ?_) rfl (by kernel_rfl) (by kernel_rfl) (by kernel_rfl) (fun _ _ _ h => h) (Or.inl ⟨by rfl, ?_⟩) hHeld ?_
  rotate_left
  · (intro wq hSw; (try dsimp only at hSw); (try obtain ⟨s0, s1, s2⟩ := hSw); (go_simp <;> with_reducible rfl))
  try simp only [Act.put, List.getElem_toArray, List.getElem_cons_zero, List.getElem_cons_succ, List.setIfInBounds_toArray, List.set_cons_zero, List.set_cons_succ]
  refine wpAnyH_take (i := 6) (v := ?_) rfl (by kernel_rfl) (by kernel_rfl) (by kernel_rfl) (fun _ _ _ h => h) (Or.inl ⟨by rfl, ?_⟩) hHeld ?_
  rotate_left
  · (intro wq hSw; (try dsimp only at hSw); (try obtain ⟨s0, s1, s2⟩ := hSw); (go_simp <;> with_reducible rfl))
  try simp only [Act.put, List.getElem_toArray, List.getElem_cons_zero, List.getElem_cons_succ, List.setIfInBounds_toArray, List.set_cons_zero, List.set_cons_succ]
  refine wpAnyH_take (i := 7) (v := ?_) rfl (by kernel_rfl) (by kernel_rfl) (by kernel_rfl) (fun _ _ _ h => h) (Or.inl ⟨by rfl, ?_⟩) hHeld ?_
  rotate_left
  · (intro wq hSw; (try dsimp only at hSw); (try obtain ⟨s0, s1, s2⟩ := hSw); (go_simp <;> with_reducible rfl))
  try simp only [Act.put, List.getElem_toArray, List.getElem_cons_zero, List.getElem_cons_succ, List.setIfInBounds_toArray, List.set_cons_zero, List.set_cons_succ]
  refine wpAnyH_ready (rs := [8]) (by kernel_rfl) (by simp) ?_
  refine AllReadyH.cons rfl (fun K hK => ?_) AllReadyH.nil
  go_simp
  refine (HRD.out _ F HST.out.drew.di).mono ?_
  rintro _ wb ⟨v2, rfl, ⟨hDb, hFb⟩, hown, hnf, hlt⟩
  have HSB := hide (HST.out.drew.fr hFb hDb)
  have HOB : Hid (OB wa.heap.size wb bs v2 wb) := ⟨hown, Below.refl _ _, hFb.size⟩
  have HLB := hide hlt
  obtain ⟨pv, cv, hv, hcy⟩ := HOB.out.cy
  rw [HN.out] at hv hcy
  subst hv
  have HCY := hide hcy
  clear hDb hFb hown hnf hlt hcy
  have r1 := HSB.out.bx.c1
  have r2 := HSB.out.lg.cell 0 _ rfl
  have r3 := HSB.out.lg.cell 1 _ rfl
  have d3 := HSB.out.bx.c3
  have g3 := frozen_of HSB.out.bx.h3 0
  refine hK.out _ _ ⟨r1, r2, r3⟩ (fun hHeld => ?_)
  clear hK K
  try simp only [Act.put, List.getElem_toArray, List.getElem_cons_zero, List.getElem_cons_succ, List.setIfInBounds_toArray, List.set_cons_zero, List.set_cons_succ]
  refine wpAnyH_take (i := 9) (v := ?_) rfl (by kernel_rfl) (by kernel_rfl) (by kernel_rfl) (fun _ _ _ h => h) (Or.inl ⟨by rfl, ?_⟩) hHeld ?_
  rotate_left
  · (intro wq hSw; (try dsimp only at hSw); (try obtain ⟨s0, s1, s2⟩ := hSw); (go_simp <;> with_reducible rfl))
  try simp only [Act.put, List.getElem_toArray, List.getElem_cons_zero, List.getElem_cons_succ, List.setIfInBounds_toArray, List.set_cons_zero, List.set_cons_succ]
  refine wpAnyH_take (i := 10) (v := ?_) rfl (by kernel_rfl) (by kernel_rfl) (by kernel_rfl) (fun _ _ _ h => h) (Or.inl ⟨by rfl, ?_⟩) hHeld ?_
  rotate_left
  · (intro wq hSw; (try dsimp only at hSw); (try obtain ⟨s0, s1, s2⟩ := hSw); (go_simp <;> with_reducible rfl))
  try simp only [Act.put, List.getElem_toArray, List.getElem_cons_zero, List.getElem_cons_succ, List.setIfInBounds_toArray, List.set_cons_zero, List.set_cons_succ]
  refine wpAnyH_take (i := 11) (v := ?_) rfl (by kernel_rfl) (by kernel_rfl) (by kernel_rfl) (fun _ _ _ h => h) (Or.inl ⟨by rfl, ?_⟩) hHeld ?_
  rotate_left
  · (intro wq hSw; (try dsimp only at hSw); (try obtain ⟨s0, s1, s2⟩ := hSw); (go_simp <;> with_reducible rfl))
  try simp only [Act.put, List.getElem_toArray, List.getElem_cons_zero, List.getElem_cons_succ, List.setIfInBounds_toArray, List.set_cons_zero, List.set_cons_succ]
  refine wpAnyH_take (i := 12) (v := ?_) rfl (by kernel_rfl) (by kernel_rfl) (by kernel_rfl) (fun _ _ _ h => h) (Or.inl ⟨by rfl, ?_⟩) hHeld ?_
  rotate_left
  · (intro wq hSw; (try dsimp only at hSw); (try obtain ⟨s0, s1, s2⟩ := hSw); (go_simp <;> with_reducible rfl))
  try simp only [Act.put, List.getElem_toArray, List.getElem_cons_zero, List.getElem_cons_succ, List.setIfInBounds_toArray, List.set_cons_zero, List.set_cons_succ]
  refine wpAnyH_ready (rs := [13]) (by kernel_rfl) (by simp) ?_
  refine AllReadyH.cons rfl (fun K hK => ?_) AllReadyH.nil
  go_simp
  obtain ⟨wc, hwc⟩ : ∃ wc, wb.setCell ⟨b3, 0, none⟩ (.int .i64 0) = wc := ⟨_, rfl⟩
  have HSC := hide (HSB.out.set3 (.int .i64 0))
  have HWC := hide hwc
  rw [hwc] at HSC
  rw [hwc]
  clear hwc r1 r2 r3 d3 g3 q1 q2 q3
  have r1 := HSC.out.bx.c1
  have r2 := HSC.out.lg.cell 0 _ rfl
  have r3 := HSC.out.lg.cell 1 _ rfl
  have d3 := HSC.out.bx.c3
  refine hK.out _ _ ⟨r1, r2, r3⟩ (fun hHeld => ?_)
  clear hK K
  try simp only [Act.put, List.getElem_toArray, List.getElem_cons_zero, List.getElem_cons_succ, List.setIfInBounds_toArray, List.set_cons_zero, List.set_cons_succ]
  refine wpAnyH_done (by kernel_rfl) ?_ _
  refine NoPanic.normal ?_
  have HCC : Hid (Cy wc pv N cv bs) := by
    have hb := HOB.out.own
    have hge : ∀ k, (Value.slice pv N cv).ownBlock = some k → k ≠ b3 := fun k hk => by have := (hb.lt k hk).1; have := HWA.out; omega
    refine ⟨isBy_keep HCY.out.1 fun k hk => ?_, HCY.out.2⟩
    have e := HWC.out
    rw [← e]
    exact Below.heap_setCell _ _ _ _ (hge k hk)
  have HTC := hide (HT.out _ _ HSC.out.fx)
  obtain ⟨LO, hLO⟩ : ∃ LO, wc.heap.size = LO := ⟨_, rfl⟩
  have HLT : Hid (b1 < LO ∧ b2 < LO ∧ b3 < LO ∧ l < LO ∧ w.heap.size ≤ LO) := by rw [← hLO]; exact ⟨heap_lt HSC.out.bx.h1, heap_lt HSC.out.bx.h2, heap_lt HSC.out.bx.h3, heap_lt HSC.out.lg, HSC.out.fx.size⟩
  have HLO := hide hLO
  have hN8 : ¬ (N : Int) < 8 := by omega
  clear hLO
  go_upto_region 8 with fail
  have q1 : wc.drew.cell? ⟨b1, 0, none⟩ = some (.pointer (some ⟨l, 0, none⟩)) := HSC.out.bx.c1
  refine wp_region_noPanic ?_
  refine wp_region_held_drew (S := fun w' => w'.cell? ⟨b1, 0, none⟩ = some (.pointer (some ⟨l, 0, none⟩))) (by kernel_rfl) q1 (fun hHeld => ?_)
  refine wpAnyH_take (i := 0) (v := ?_) rfl (by kernel_rfl) (by kernel_rfl) (by kernel_rfl) (fun _ _ _ h => h) (Or.inl ⟨by rfl, ?_⟩) hHeld ?_
  rotate_left
  · (intro wq hSw; (try dsimp only at hSw); (try obtain s0 := hSw); (go_simp <;> with_reducible rfl))
  try simp only [Act.put, List.getElem_toArray, List.getElem_cons_zero, List.getElem_cons_succ, List.setIfInBounds_toArray, List.set_cons_zero, List.set_cons_succ]
  refine wpAnyH_take (i := 1) (v := ?_) rfl (by kernel_rfl) (by kernel_rfl) (by kernel_rfl) (fun _ _ _ h => h) (Or.inl ⟨by rfl, ?_⟩) hHeld ?_
  rotate_left
  · (intro wq hSw; (try dsimp only at hSw); (try obtain s0 := hSw); (go_simp <;> with_reducible rfl))
  try simp only [Act.put, List.getElem_toArray, List.getElem_cons_zero, List.getElem_cons_succ, List.setIfInBounds_toArray, List.set_cons_zero, List.set_cons_succ]
  refine wpAnyH_ready (rs := [2]) (by kernel_rfl) (by simp) ?_
  refine AllReadyH.cons rfl (fun K hK => ?_) AllReadyH.nil
  go_simp
  refine (HTK.out wc.drew pv cv ⟨isBy_heap HCC.out.1 rfl, HCC.out.2⟩ HLB.out (fun j hj => HTC.out j hj)).mono ?_
  rintro _ wd ⟨vr, rfl, hBd, hRd⟩
  obtain ⟨pr, cr, hvr⟩ : ∃ pr cr, vr = .slice pr nr cr := by
    obtain ⟨vals, ho, _⟩ := hRd
    rw [HNR.out] at ho
    rcases ho.2 with ⟨e1, e2⟩ | ⟨g, cap, cur, e1, _⟩
    · exact ⟨none, 0, by rw [e1, e2]⟩
    · exact ⟨_, cap, e1⟩
  subst hvr
  have HSd := hide (HSC.out.drew.fr (Fr.of_below hBd) (HSC.out.drew.di.below hBd))
  have HRd : Hid (RecsAt wd LO wd.heap.size (.slice pr nr cr) rr ∧ wd.heap.size = wd.heap.size) := ⟨by rw [← HLO.out]; exact hRd, rfl⟩
  clear hBd hRd
  have z1d := HSd.out.bx.c1
  have z2d := HSd.out.bx.c2
  have z3d := HSd.out.bx.c3
  have y1d := frozen_of HSd.out.bx.h1 0
  have y2d := frozen_of HSd.out.bx.h2 0
  have y3d := frozen_of HSd.out.bx.h3 0
  have x2d := HSd.out.lg.cell 2 _ rfl
  have x3d := HSd.out.lg.cell 3 _ rfl
  have u2d := frozen_of HSd.out.lg 2
  have u3d := frozen_of HSd.out.lg 3
  refine hK.out _ _ z1d (fun hHeld => ?_)
  clear hK K
  try simp only [Act.put, List.getElem_toArray, List.getElem_cons_zero, List.getElem_cons_succ, List.setIfInBounds_toArray, List.set_cons_zero, List.set_cons_succ]
  refine wpAnyH_take (i := 3) (v := ?_) rfl (by kernel_rfl) (by kernel_rfl) (by kernel_rfl) (fun _ _ _ h => h) (Or.inl ⟨by rfl, ?_⟩) hHeld ?_
  rotate_left
  · (intro wq hSw; (try dsimp only at hSw); (try obtain s0 := hSw); (go_simp <;> with_reducible rfl))
  try simp only [Act.put, List.getElem_toArray, List.getElem_cons_zero, List.getElem_cons_succ, List.setIfInBounds_toArray, List.set_cons_zero, List.set_cons_succ]
  refine wpAnyH_take (i := 4) (v := ?_) rfl (by kernel_rfl) (by kernel_rfl) (by kernel_rfl) (fun _ _ _ h => h) (Or.inl ⟨by rfl, ?_⟩) hHeld ?_
  rotate_left
  · (intro wq hSw; (try dsimp only at hSw); (try obtain s0 := hSw); (go_simp <;> with_reducible rfl))
  try simp only [Act.put, List.getElem_toArray, List.getElem_cons_zero, List.getElem_cons_succ, List.setIfInBounds_toArray, List.set_cons_zero, List.set_cons_succ]
  refine wpAnyH_take (i := 5) (v := ?_) rfl (by kernel_rfl) (by kernel_rfl) (by kernel_rfl) (fun _ _ _ h => h) (Or.inl ⟨by rfl, ?_⟩) hHeld ?_
  rotate_left
  · (intro wq hSw; (try dsimp only at hSw); (try obtain s0 := hSw); (go_simp <;> with_reducible rfl))
  try simp only [Act.put, List.getElem_toArray, List.getElem_cons_zero, List.getElem_cons_succ, List.setIfInBounds_toArray, List.set_cons_zero, List.set_cons_succ]
  refine wpAnyH_take (i := 6) (v := ?_) rfl (by kernel_rfl) (by kernel_rfl) (by kernel_rfl) (fun _ _ _ h => h) (Or.inl ⟨by rfl, ?_⟩) hHeld ?_
  rotate_left
  · (intro wq hSw; (try dsimp only at hSw); (try obtain s0 := hSw); (go_simp <;> with_reducible rfl))
  try simp only [Act.put, List.getElem_toArray, List.getElem_cons_zero, List.getElem_cons_succ, List.setIfInBounds_toArray, List.set_cons_zero, List.set_cons_succ]
  refine wpAnyH_ready (rs := [7]) (by kernel_rfl) (by simp) ?_
  refine AllReadyH.cons rfl (fun K hK => ?_) AllReadyH.nil
  go_simp
  obtain ⟨we, hwe⟩ : ∃ we, wd.setCell ⟨b2, 0, none⟩ (.slice pr nr cr) = we := ⟨_, rfl⟩
  have HSe := hide (HSd.out.set2 (.slice pr nr cr))
  have HRe : Hid (RecsAt we LO wd.heap.size (.slice pr nr cr) rr ∧ wd.heap.size = we.heap.size) := by
    rw [← hwe]
    exact ⟨HRd.out.1.keep (fun k h1 h2 => Below.heap_setCell _ _ _ _ (fun e => by have e' : k = b2 := e; have := HLT.out; omega)) (Nat.le_refl _) (Nat.le_refl _), by rw [HRd.out.2]; simp [World.setCell]⟩
  rw [hwe] at HSe
  rw [hwe]
  clear hwe
  have z1e := HSe.out.bx.c1
  have z2e := HSe.out.bx.c2
  have z3e := HSe.out.bx.c3
  have y1e := frozen_of HSe.out.bx.h1 0
  have y2e := frozen_of HSe.out.bx.h2 0
  have y3e := frozen_of HSe.out.bx.h3 0
  have x2e := HSe.out.lg.cell 2 _ rfl
  have x3e := HSe.out.lg.cell 3 _ rfl
  have u2e := frozen_of HSe.out.lg 2
  have u3e := frozen_of HSe.out.lg 3
  refine hK.out _ _ z1e (fun hHeld => ?_)
  clear hK K
  try simp only [Act.put, List.getElem_toArray, List.getElem_cons_zero, List.getElem_cons_succ, List.setIfInBounds_toArray, List.set_cons_zero, List.set_cons_succ]
  refine wpAnyH_take (i := 8) (v := ?_) rfl (by kernel_rfl) (by kernel_rfl) (by kernel_rfl) (fun _ _ _ h => h) (Or.inl ⟨by rfl, ?_⟩) hHeld ?_
  rotate_left
  · (intro wq hSw; (try dsimp only at hSw); (try obtain s0 := hSw); (go_simp <;> with_reducible rfl))
  try simp only [Act.put, List.getElem_toArray, List.getElem_cons_zero, List.getElem_cons_succ, List.setIfInBounds_toArray, List.set_cons_zero, List.set_cons_succ]
  refine wpAnyH_take (i := 9) (v := ?_) rfl (by kernel_rfl) (by kernel_rfl) (by kernel_rfl) (fun _ _ _ h => h) (Or.inl ⟨by rfl, ?_⟩) hHeld ?_
  rotate_left
  · (intro wq hSw; (try dsimp only at hSw); (try obtain s0 := hSw); (go_simp <;> with_reducible rfl))
  try simp only [Act.put, List.getElem_toArray, List.getElem_cons_zero, List.getElem_cons_succ, List.setIfInBounds_toArray, List.set_cons_zero, List.set_cons_succ]
  refine wpAnyH_ready (rs := [10]) (by kernel_rfl) (by simp) ?_
  refine AllReadyH.cons rfl (fun K hK => ?_) AllReadyH.nil
  go_simp
  obtain ⟨wf, hwf⟩ : ∃ wf, we.setCell ⟨l, 2, none⟩ (.int .i64 (N : Int)) = wf := ⟨_, rfl⟩
  have HSf := hide (HSe.out.setS N)
  have HRf : Hid (RecsAt wf LO wd.heap.size (.slice pr nr cr) rr ∧ wd.heap.size = wf.heap.size) := by
    rw [← hwf]
    exact ⟨HRe.out.1.keep (fun k h1 h2 => Below.heap_setCell _ _ _ _ (fun e => by have e' : k = l := e; have := HLT.out; omega)) (Nat.le_refl _) (Nat.le_refl _), by rw [HRe.out.2]; simp [World.setCell]⟩
  rw [hwf] at HSf
  rw [hwf]
  clear hwf
  have z1f := HSf.out.bx.c1
  have z2f := HSf.out.bx.c2
  have z3f := HSf.out.bx.c3
  have y1f := frozen_of HSf.out.bx.h1 0
  have y2f := frozen_of HSf.out.bx.h2 0
  have y3f := frozen_of HSf.out.bx.h3 0
  have x2f := HSf.out.lg.cell 2 _ rfl
  have x3f := HSf.out.lg.cell 3 _ rfl
  have u2f := frozen_of HSf.out.lg 2
  have u3f := frozen_of HSf.out.lg 3
  refine hK.out _ _ z1f (fun hHeld => ?_)
  clear hK K
  try simp only [Act.put, List.getElem_toArray, List.getElem_cons_zero, List.getElem_cons_succ, List.setIfInBounds_toArray, List.set_cons_zero, List.set_cons_succ]
  refine wpAnyH_ready (rs := [11]) (by kernel_rfl) (by simp) ?_
  refine AllReadyH.cons rfl (fun K hK => ?_) AllReadyH.nil
  go_simp
  obtain ⟨wg, hwg⟩ : ∃ wg, wf.setCell ⟨b3, 0, none⟩ (.int .i64 0) = wg := ⟨_, rfl⟩
  have HSg := hide (HSf.out.set3 (.int .i64 0))
  have HRg : Hid (RecsAt wg LO wd.heap.size (.slice pr nr cr) rr ∧ wd.heap.size = wg.heap.size) := by
    rw [← hwg]
    exact ⟨HRf.out.1.keep (fun k h1 h2 => Below.heap_setCell _ _ _ _ (fun e => by have e' : k = b3 := e; have := HLT.out; omega)) (Nat.le_refl _) (Nat.le_refl _), by rw [HRf.out.2]; simp [World.setCell]⟩
  rw [hwg] at HSg
  rw [hwg]
  clear hwg
  have z1g := HSg.out.bx.c1
  have z2g := HSg.out.bx.c2
  have z3g := HSg.out.bx.c3
  have y1g := frozen_of HSg.out.bx.h1 0
  have y2g := frozen_of HSg.out.bx.h2 0
  have y3g := frozen_of HSg.out.bx.h3 0
  have x2g := HSg.out.lg.cell 2 _ rfl
  have x3g := HSg.out.lg.cell 3 _ rfl
  have u2g := frozen_of HSg.out.lg 2
  have u3g := frozen_of HSg.out.lg 3
  refine hK.out _ _ z1g (fun hHeld => ?_)
  clear hK K
  try simp only [Act.put, List.getElem_toArray, List.getElem_cons_zero, List.getElem_cons_succ, List.setIfInBounds_toArray, List.set_cons_zero, List.set_cons_succ]
  refine wpAnyH_done (by kernel_rfl) ?_ _
  refine NoPanic.normal ?_
  go_upto_region 10 with fail
  obtain ⟨wh, hwh⟩ : ∃ wh, wg.setCell ⟨l, 3, none⟩ (.int .i64 (nr : Int)) = wh := ⟨_, rfl⟩
  have HSh := hide (HSg.out.setK nr)
  have HRh : Hid (RecsAt wh LO wd.heap.size (.slice pr nr cr) rr ∧ wd.heap.size = wh.heap.size) := by
    rw [← hwh]
    exact ⟨HRg.out.1.keep (fun k h1 h2 => Below.heap_setCell _ _ _ _ (fun e => by have e' : k = l := e; have := HLT.out; omega)) (Nat.le_refl _) (Nat.le_refl _), by rw [HRg.out.2]; simp [World.setCell]⟩
  rw [hwh] at HSh
  rw [hwh]
  clear hwh
  have z1h := HSh.out.bx.c1
  have z2h := HSh.out.bx.c2
  have z3h := HSh.out.bx.c3
  have y1h := frozen_of HSh.out.bx.h1 0
  have y2h := frozen_of HSh.out.bx.h2 0
  have y3h := frozen_of HSh.out.bx.h3 0
  have x2h := HSh.out.lg.cell 2 _ rfl
  have x3h := HSh.out.lg.cell 3 _ rfl
  have u2h := frozen_of HSh.out.lg 2
  have u3h := frozen_of HSh.out.lg 3
  have hNN : ¬ (N : Int) < (N : Int) := by omega
  go_upto_region 12 with fail
  have q1 : wh.drew.cell? ⟨b1, 0, none⟩ = some (.pointer (some ⟨l, 0, none⟩)) := z1h
  have q2 : wh.drew.cell? ⟨b2, 0, none⟩ = some (.slice pr nr cr) := z2h
  have q3 : wh.drew.cell? ⟨b3, 0, none⟩ = some (.int .i64 0) := z3h
  obtain ⟨wk, hwk⟩ : ∃ wk, wh.drew = wk := ⟨_, rfl⟩
  have HSk := hide HSh.out.drew
  have HRk : Hid (RecsAt wk LO wd.heap.size (.slice pr nr cr) rr ∧ wd.heap.size = wk.heap.size) := by rw [← hwk]; exact ⟨HRh.out.1.keep (fun _ _ _ => rfl) (Nat.le_refl _) (Nat.le_refl _), HRh.out.2⟩
  rw [hwk] at HSk q1 q2 q3
  refine wp_region_noPanic ?_
  refine wp_region_held_drew (S := fun w' => w'.cell? ⟨b1, 0, none⟩ = some (.pointer (some ⟨l, 0, none⟩)) ∧ w'.cell? ⟨b2, 0, none⟩ = some (.slice pr nr cr) ∧ w'.cell? ⟨b3, 0, none⟩ = some (.int .i64 0)) (by kernel_rfl) ?_ (fun hHeld => ?_)
  · rw [hwk]; exact ⟨q1, q2, q3⟩
  rw [hwk] at hHeld ⊢
  clear hwk
  have z1k := HSk.out.bx.c1
  have z2k := HSk.out.bx.c2
  have z3k := HSk.out.bx.c3
  have y1k := frozen_of HSk.out.bx.h1 0
  have y2k := frozen_of HSk.out.bx.h2 0
  have y3k := frozen_of HSk.out.bx.h3 0
  have x2k := HSk.out.lg.cell 2 _ rfl
  have x3k := HSk.out.lg.cell 3 _ rfl
  have u2k := frozen_of HSk.out.lg 2
  have u3k := frozen_of HSk.out.lg 3
  refine wpAnyH_take (i := 0) (v := ?_) rfl (by kernel_rfl) (by kernel_rfl) (by kernel_rfl) (fun _ _ _ h => h) (Or.inl ⟨by rfl, ?_⟩) hHeld ?_
  rotate_left
  · (intro wq hSw; (try dsimp only at hSw); (try obtain ⟨s0, s1, s2⟩ := hSw); (go_simp <;> with_reducible rfl))
  try simp only [Act.put, List.getElem_toArray, List.getElem_cons_zero, List.getElem_cons_succ, List.setIfInBounds_toArray, List.set_cons_zero, List.set_cons_succ]
  refine wpAnyH_take (i := 1) (v := ?_) rfl (by kernel_rfl) (by kernel_rfl) (by kernel_rfl) (fun _ _ _ h => h) (Or.inl ⟨by rfl, ?_⟩) hHeld ?_
  rotate_left
  · (intro wq hSw; (try dsimp only at hSw); (try obtain ⟨s0, s1, s2⟩ := hSw); (go_simp <;> with_reducible rfl))
  try simp only [Act.put, List.getElem_toArray, List.getElem_cons_zero, List.getElem_cons_succ, List.setIfInBounds_toArray, List.set_cons_zero, List.set_cons_succ]
  refine wpAnyH_take (i := 2) (v := ?_) rfl (by kernel_rfl) (by kernel_rfl) (by kernel_rfl) (fun _ _ _ h => h) (Or.inl ⟨by rfl, ?_⟩) hHeld ?_
  rotate_left
  · (intro wq hSw; (try dsimp only at hSw); (try obtain ⟨s0, s1, s2⟩ := hSw); (go_simp <;> with_reducible rfl))
  try simp only [Act.put, List.getElem_toArray, List.getElem_cons_zero, List.getElem_cons_succ, List.setIfInBounds_toArray, List.set_cons_zero, List.set_cons_succ]
  refine wpAnyH_ready (rs := [3]) (by kernel_rfl) (by simp) ?_
  refine AllReadyH.cons rfl (fun K hK => ?_) AllReadyH.nil
  go_simp
  obtain ⟨wm, hwm⟩ : ∃ wm, wk.setCell ⟨b1, 0, none⟩ (.pointer (some ⟨l, 0, none⟩)) = wm := ⟨_, rfl⟩
  have HSm := hide (HSk.out.set1 (.pointer (some ⟨l, 0, none⟩)))
  have HRm : Hid (RecsAt wm LO wd.heap.size (.slice pr nr cr) rr ∧ wd.heap.size = wm.heap.size) := by
    rw [← hwm]
    exact ⟨HRk.out.1.keep (fun k h1 h2 => Below.heap_setCell _ _ _ _ (fun e => by have e' : k = b1 := e; have := HLT.out; omega)) (Nat.le_refl _) (Nat.le_refl _), by rw [HRk.out.2]; simp [World.setCell]⟩
  rw [hwm] at HSm
  rw [hwm]
  clear hwm
  have z1m := HSm.out.bx.c1
  have z2m := HSm.out.bx.c2
  have z3m := HSm.out.bx.c3
  have y1m := frozen_of HSm.out.bx.h1 0
  have y2m := frozen_of HSm.out.bx.h2 0
  have y3m := frozen_of HSm.out.bx.h3 0
  have x2m := HSm.out.lg.cell 2 _ rfl
  have x3m := HSm.out.lg.cell 3 _ rfl
  have u2m := frozen_of HSm.out.lg 2
  have u3m := frozen_of HSm.out.lg 3
  refine hK.out _ _ ⟨z1m, z2m, z3m⟩ (fun hHeld => ?_)
  clear hK K
  try simp only [Act.put, List.getElem_toArray, List.getElem_cons_zero, List.getElem_cons_succ, List.setIfInBounds_toArray, List.set_cons_zero, List.set_cons_succ]
  refine wpAnyH_ready (rs := [4]) (by kernel_rfl) (by simp) ?_
  refine AllReadyH.cons rfl (fun K hK => ?_) AllReadyH.nil
  go_simp
  obtain ⟨wn, hwn⟩ : ∃ wn, wm.setCell ⟨b2, 0, none⟩ (.slice pr nr cr) = wn := ⟨_, rfl⟩
  have HSn := hide (HSm.out.set2 (.slice pr nr cr))
  have HRn : Hid (RecsAt wn LO wd.heap.size (.slice pr nr cr) rr ∧ wd.heap.size = wn.heap.size) := by
    rw [← hwn]
    exact ⟨HRm.out.1.keep (fun k h1 h2 => Below.heap_setCell _ _ _ _ (fun e => by have e' : k = b2 := e; have := HLT.out; omega)) (Nat.le_refl _) (Nat.le_refl _), by rw [HRm.out.2]; simp [World.setCell]⟩
  rw [hwn] at HSn
  rw [hwn]
  clear hwn
  have z1n := HSn.out.bx.c1
  have z2n := HSn.out.bx.c2
  have z3n := HSn.out.bx.c3
  have y1n := frozen_of HSn.out.bx.h1 0
  have y2n := frozen_of HSn.out.bx.h2 0
  have y3n := frozen_of HSn.out.bx.h3 0
  have x2n := HSn.out.lg.cell 2 _ rfl
  have x3n := HSn.out.lg.cell 3 _ rfl
  have u2n := frozen_of HSn.out.lg 2
  have u3n := frozen_of HSn.out.lg 3
  refine hK.out _ _ ⟨z1n, z2n, z3n⟩ (fun hHeld => ?_)
  clear hK K
  try simp only [Act.put, List.getElem_toArray, List.getElem_cons_zero, List.getElem_cons_succ, List.setIfInBounds_toArray, List.set_cons_zero, List.set_cons_succ]
  refine wpAnyH_ready (rs := [5]) (by kernel_rfl) (by simp) ?_
  refine AllReadyH.cons rfl (fun K hK => ?_) AllReadyH.nil
  go_simp
  obtain ⟨wo, hwo⟩ : ∃ wo, wn.setCell ⟨b3, 0, none⟩ (.int .i64 0) = wo := ⟨_, rfl⟩
  have HSo := hide (HSn.out.set3 (.int .i64 0))
  have HRo : Hid (RecsAt wo LO wd.heap.size (.slice pr nr cr) rr ∧ wd.heap.size = wo.heap.size) := by
    rw [← hwo]
    exact ⟨HRn.out.1.keep (fun k h1 h2 => Below.heap_setCell _ _ _ _ (fun e => by have e' : k = b3 := e; have := HLT.out; omega)) (Nat.le_refl _) (Nat.le_refl _), by rw [HRn.out.2]; simp [World.setCell]⟩
  rw [hwo] at HSo
  rw [hwo]
  clear hwo
  have z1o := HSo.out.bx.c1
  have z2o := HSo.out.bx.c2
  have z3o := HSo.out.bx.c3
  have y1o := frozen_of HSo.out.bx.h1 0
  have y2o := frozen_of HSo.out.bx.h2 0
  have y3o := frozen_of HSo.out.bx.h3 0
  have x2o := HSo.out.lg.cell 2 _ rfl
  have x3o := HSo.out.lg.cell 3 _ rfl
  have u2o := frozen_of HSo.out.lg 2
  have u3o := frozen_of HSo.out.lg 3
  refine hK.out _ _ ⟨z1o, z2o, z3o⟩ (fun hHeld => ?_)
  clear hK K
  try simp only [Act.put, List.getElem_toArray, List.getElem_cons_zero, List.getElem_cons_succ, List.setIfInBounds_toArray, List.set_cons_zero, List.set_cons_succ]
  refine wpAnyH_done (by kernel_rfl) ?_ _
  refine NoPanic.normal ?_
  go_wp2_with fail
  refine leaves_cons (f := 33) (args := #[.pointer (some ⟨b3, 0, none⟩), .pointer (some ⟨b1, 0, none⟩), .pointer (some ⟨b2, 0, none⟩)]) (by simp) (by simp [go_sem]) ?_
  refine (openedC b3 b1 b2 .returning _ z3o).mono ?_
  rintro e u' w'' ⟨rfl, rfl, rfl⟩
  refine ⟨.tuple #[.pointer (some ⟨l, 0, none⟩), .slice pr nr cr, .int .i64 0], results3 (by rfl) _ b1 b2 b3 rfl rfl rfl _ z1o z2o z3o, .slice pr nr cr, rfl, HSo.out.di, HSo.out.lg, HSo.out.fx, ?_⟩
  rw [← HRo.out.2]
  exact HRo.out.1.keep (fun _ _ _ => rfl) HLT.out.2.2.2.2 (Nat.le_refl _)

end Go.Proofs.YtgmahgfelbkoeaaDoor

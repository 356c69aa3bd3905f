/- A name that may not be; how great a file is; an Append that is too long. -/
import Derived.Test.YtpecgmcalbojcaaDoorJ8A
import Derived.Test.YtpecgmcalbojcaaDoorJ4A
namespace Go.Proofs.YtpecgmcalbojcaaDoor
open Go.RowKit
set_option linter.unusedVariables false
set_option linter.unusedSimpArgs false
open Go.MuLone (lock_free unlock_deferred run_callFunc_enter)

theorem no74 : firstIdx letters ((74 : Int).toNat).toUInt8 = -1 := by decide +kernel

set_option maxRecDepth 100000 in
theorem mayBe_no (w : World) : Calls Tryd.prog 64 #[.string { data := #[74] }] w fun e w' => e = .returned (.bool false) ∧ w' = w := by
  have hn := no74
  go_enter Tryd.func64, Tryd.ntmps64
  go_wp2_with fail
  refine wp_loop_rounds 2 ?_
  rw [rounds_succ]
  go_wp2_with (go_at_call 82; refine (sindex_any letters (74 : Int) _).mono ?_; rintro e w' ⟨rfl, rfl⟩; simp only [hn])
  go_ret
  exact ⟨rfl, rfl⟩

set_option maxRecDepth 100000 in
theorem refusal_no {B : Nat} {S : DS} {lk : Int} (w : World) (h : Dk B w lk S) (hoff : S.off = false) (g : Nat) (hg : w.cell? ⟨g, 0, none⟩ = some (.string { data := #[74] })) :
    Calls Tryd.prog 46 #[.pointer (some ⟨S.d, 0, none⟩), .slice (some ⟨g, 0, none⟩) 1 1] w fun e w' => e = .returned (.int .i64 101) ∧ w' = w := by
  have c4 := h.cell 4 (.bool false) (by rw [← hoff]; rfl)
  clear h
  go_enter Tryd.func46, Tryd.ntmps46
  go_wp2_with fail
  refine wp_loop_rounds 2 ?_
  rw [rounds_succ]
  go_wp2_with (go_at_call 64; refine (mayBe_no _).mono ?_; rintro e w' ⟨rfl, rfl⟩)
  go_ret
  exact ⟨rfl, rfl⟩

set_option maxRecDepth 100000 in
theorem find_bad {B : Nat} {S : DS} {lk : Int} (w : World) (h : Dk B w lk S) (hoff : S.off = false) :
    Calls Tryd.prog 41 #[.pointer (some ⟨S.d, 0, none⟩), .string { data := #[74] }] w fun e w' => e = .returned (.tuple #[.pointer none, .int .i64 101]) ∧ Below w.heap.size w w' := by
  have hb : Below w.heap.size w (w.alloc (.cells #[.string { data := #[74] }] 9 (0, 0))) := (Below.refl _ _).alloc (Nat.le_refl _) _
  have H1 := hide (h.below hb)
  have HB := hide hb
  clear h hb
  go_enter Tryd.func41, Tryd.ntmps41
  go_wp2_with (go_at_call 46; refine (refusal_no _ H1.out hoff w.heap.size (by simp)).mono ?_; rintro e w' ⟨rfl, rfl⟩)
  go_ret2
  exact ⟨rfl, HB.out⟩

set_option maxRecDepth 100000 in
theorem read_bad {B : Nat} {S : DS} (w : World) (h : Dk B w 0 S) (hoff : S.off = false) : Calls Tryd.prog 24 #[.pointer (some ⟨S.d, 0, none⟩), .string { data := #[74] }] w fun e w' => e = .returned (.tuple #[.slice none 0 0, .int .i64 101]) ∧ Dk B w' 0 S ∧ Fr w (Fp S) w' (Fp S) := by
  have l1 := h.cell 0 (.int .i32 0) rfl
  have l2 := frozen_of h.dk 0
  have HE : Hid (Dk B (w.setCell ⟨S.d, 0, none⟩ (.int .i32 1)) 1 S ∧ Fr w (Fp S) (w.setCell ⟨S.d, 0, none⟩ (.int .i32 1)) (Fp S)) := ⟨h.setLock 1, Fr.setCell (.inl rfl) _⟩
  have HFI : Hid (∀ w2, Dk B w2 1 S → Calls Tryd.prog 41 #[.pointer (some ⟨S.d, 0, none⟩), .string { data := #[74] }] w2 fun e w' => e = .returned (.tuple #[.pointer none, .int .i64 101]) ∧ Below w2.heap.size w2 w') := fun w2 h2 => find_bad w2 h2 hoff
  clear h
  go_enter_defers Tryd.func24, Tryd.ntmps24
  go_wp2_with (first | (go_at_call 39; refine (lock_free muLib ⟨S.d, 0, none⟩ _ l1 l2).mono ?_; rintro e w2 ⟨rfl, hw2⟩; have H2 : Hid (Dk B w2 1 S ∧ Fr w (Fp S) w2 (Fp S)) := (by rw [hw2]; exact HE.out); clear hw2 l1 l2) | (go_at_call 41; refine (HFI.out _ H2.out.1).mono ?_; rintro e w3 ⟨rfl, hB3⟩; have H3 : Hid (Dk B w3 1 S ∧ Fr w (Fp S) w3 (Fp S)) := ⟨H2.out.1.below hB3, H2.out.2.trans (Fr.of_below hB3)⟩; clear hB3))
  have HZ := hide (door_of H3.out.1 rfl)
  refine leaves_cons (f := 40) (args := #[.pointer (some ⟨S.d, 0, none⟩)]) (by simp) (by simp [go_sem]) ?_
  refine (unlock_deferred muLib ⟨S.d, 0, none⟩ .returning _ ?_ ?_).mono ?_
  · exact HZ.out.1
  · exact HZ.out.2.1
  rintro e u' w'' ⟨rfl, rfl, rfl⟩
  exact ⟨_, results_tmp2 rfl _ _ _, rfl, HZ.out.2.2.1, H3.out.2.trans HZ.out.2.2.2⟩

set_option maxRecDepth 100000 in
theorem dsize_any {B : Nat} {S : DS} (w : World) (h : Dk B w 0 S) (hoff : S.off = false) (x : Fi) (hx : x ∈ S.L) (hs : okN x.nm) : Calls Tryd.prog 32 #[.pointer (some ⟨S.d, 0, none⟩), .string x.nm] w fun e w' => e = .returned (.tuple #[.int .i64 (x.bs.length : Int), .int .i64 0]) ∧ Dk B w' 0 S ∧ Fr w (Fp S) w' (Fp S) := by
  obtain ⟨p, cap, hv⟩ := h.fslice hx
  have HV := hide hv
  have l1 := h.cell 0 (.int .i32 0) rfl
  have l2 := frozen_of h.dk 0
  have HE : Hid (Dk B (w.setCell ⟨S.d, 0, none⟩ (.int .i32 1)) 1 S ∧ Fr w (Fp S) (w.setCell ⟨S.d, 0, none⟩ (.int .i32 1)) (Fp S)) := ⟨h.setLock 1, Fr.setCell (.inl rfl) _⟩
  have HFI : Hid (∀ w2, Dk B w2 1 S → Calls Tryd.prog 41 #[.pointer (some ⟨S.d, 0, none⟩), .string x.nm] w2 fun e w' => e = .returned (.tuple #[.pointer (some ⟨x.f, 0, none⟩), .int .i64 0]) ∧ Below w2.heap.size w2 w') := fun w2 h2 => find_ok w2 h2 hoff x hx hs
  clear h hs hv
  go_enter_defers Tryd.func32, Tryd.ntmps32
  go_wp2_with (first | (go_at_call 39; refine (lock_free muLib ⟨S.d, 0, none⟩ _ l1 l2).mono ?_; rintro e w2 ⟨rfl, hw2⟩; have H2 : Hid (Dk B w2 1 S ∧ Fr w (Fp S) w2 (Fp S)) := (by rw [hw2]; exact HE.out); clear hw2 l1 l2) | (go_at_call 41; refine (HFI.out _ H2.out.1).mono ?_; rintro e w3 ⟨rfl, hB3⟩; have H3 : Hid (Dk B w3 1 S ∧ Fr w (Fp S) w3 (Fp S)) := ⟨H2.out.1.below hB3, H2.out.2.trans (Fr.of_below hB3)⟩; have c1 := H3.out.1.fcell hx; rw [HV.out] at c1; clear hB3))
  have HZ := hide (door_of H3.out.1 rfl)
  refine leaves_cons (f := 40) (args := #[.pointer (some ⟨S.d, 0, none⟩)]) (by simp) (by simp [go_sem]) ?_
  refine (unlock_deferred muLib ⟨S.d, 0, none⟩ .returning _ ?_ ?_).mono ?_
  · exact HZ.out.1
  · exact HZ.out.2.1
  rintro e u' w'' ⟨rfl, rfl, rfl⟩
  exact ⟨_, results_tmp2 rfl _ _ _, rfl, HZ.out.2.2.1, H3.out.2.trans HZ.out.2.2.2⟩

theorem di_read_bad {B : Nat} {d : Nat} {p : PS} {F : Nat → Prop} (w : World) (h : Di B w d p F) (hoff : p.off = false) :
    Calls Tryd.prog 24 #[.pointer (some ⟨d, 0, none⟩), .string { data := #[74] }] w fun e w' => e = .returned (.tuple #[.slice none 0 0, .int .i64 101]) ∧ Di B w' d p F ∧ Fr w F w' F := by
  obtain ⟨S, rfl, rfl, rfl, h⟩ := h
  refine (read_bad w h hoff).mono ?_
  rintro e w' ⟨rfl, e1, e2⟩
  exact ⟨rfl, ⟨S, rfl, rfl, rfl, e1⟩, e2⟩

theorem di_size {B : Nat} {d : Nat} {p : PS} {F : Nat → Prop} (w : World) (h : Di B w d p F) (hoff : p.off = false) (nm : ByteArray) (hs : okN nm) (bs : List Nat) (su : Nat) (hc : (nm, bs, su) ∈ p.con) :
    Calls Tryd.prog 32 #[.pointer (some ⟨d, 0, none⟩), .string nm] w fun e w' => e = .returned (.tuple #[.int .i64 (bs.length : Int), .int .i64 0]) ∧ Di B w' d p F ∧ Fr w F w' F := by
  obtain ⟨S, rfl, rfl, rfl, h⟩ := h
  obtain ⟨x, hx, rfl, rfl, rfl⟩ := fi_of hc
  refine (dsize_any w h hoff x hx hs).mono ?_
  rintro e w' ⟨rfl, e1, e2⟩
  exact ⟨rfl, ⟨S, rfl, rfl, rfl, e1⟩, e2⟩

set_option maxRecDepth 100000 in
theorem openedC_name (g1 g2 g3 : Nat) (u : FrameMode) (w : World) {v2 v3 : Value} (hb : Bx w g2 g3 g1 v2 v3 (.int .i64 101)) :
    CallsD Tryd.prog 51 #[.pointer (some ⟨g1, 0, none⟩), .pointer (some ⟨g2, 0, none⟩), .pointer (some ⟨g3, 0, none⟩)] u w fun e u' w' => u' = u ∧ (e = .returned (.tuple #[]) ∧ w' = (w.setCell ⟨g2, 0, none⟩ (.pointer none)).setCell ⟨g3, 0, none⟩ (.slice none 0 0)) := by
  have c1 := hb.c3
  have c2 := hb.c1
  have f2 := frozen_of hb.h1 0
  have hb2 := hb.set1 (.pointer none)
  have c3 := hb2.c2
  have f3 := frozen_of hb2.h2 0
  clear hb hb2
  go_enter_d Tryd.func51, Tryd.ntmps51
  go_wp2
  go_end0
  exact ⟨rfl, rfl⟩

set_option maxRecDepth 100000 in
set_option maxHeartbeats 8000000 in
theorem opened_name {B : Nat} {l d : Nat} {p : PS} {F : Nat → Prop} (w : World) (h : Di B w d p F) (hg : Lg w l d { data := #[74] } 0 0) (hl : ¬ F l) (hoff : p.off = false) :
    Calls Tryd.prog 33 #[.pointer (some ⟨l, 0, none⟩)] w fun e w' => e = .returned (.tuple #[.pointer none, .slice none 0 0, .int .i64 101]) ∧ Di B w' d p F ∧ Fx l w F w' F := by
  have hmf : ∀ (fn : Fn) (first cap : Array Value) (w : World), (Instr.makeFunc fn first cap).run Tryd.prog w = .ok (.func fn first cap) w := fun _ _ _ _ => rfl
  obtain ⟨nm, hnm⟩ : ∃ nm : ByteArray, nm = { data := #[74] } := ⟨_, rfl⟩
  rw [← hnm] at hg
  have HST := hide (op_start h hg hl)
  have HRD : Hid (∀ w1 F1, Di B w1 d p F1 → Calls Tryd.prog 24 #[.pointer (some ⟨d, 0, none⟩), .string nm] w1 fun e w' => e = .returned (.tuple #[.slice none 0 0, .int .i64 101]) ∧ Di B w' d p F1 ∧ Fr w1 F1 w' F1) := fun w1 F1 h1 => by rw [hnm]; exact di_read_bad w1 h1 hoff
  obtain ⟨b1, e1⟩ : ∃ b1, w.heap.size = b1 := ⟨_, rfl⟩
  obtain ⟨b2, e2⟩ : ∃ b2, b1 + 1 = b2 := ⟨_, rfl⟩
  obtain ⟨b3, e3⟩ : ∃ b3, b2 + 1 = b3 := ⟨_, rfl⟩
  rw [e1, e2, e3] at HST
  have E1 := hide e1
  have E2 := hide e2
  have E3 := hide e3
  clear e1 e2 e3
  clear h hg hl hoff hnm
  go_enter_defers Tryd.func33, Tryd.ntmps33
  go_upto_region 3 with fail
  rw [E1.out, E2.out, E3.out]
  obtain ⟨wa, hwa⟩ : ∃ wa, (((w.alloc (.cells #[.pointer (some ⟨l, 0, none⟩)] 32)).alloc (.cells #[.slice none 0 0] 22)).alloc (.cells #[.int .i64 0] 27)) = wa := ⟨_, rfl⟩
  have HWA : Hid (Below w.heap.size w wa ∧ b1 < wa.heap.size ∧ b2 < wa.heap.size ∧ b3 < wa.heap.size ∧ w.heap.size = b1) := by
    rw [← hwa]; exact ⟨(((Below.refl _ _).alloc (Nat.le_refl _) _).alloc (by simp) _).alloc (by simp; omega) _, by have := E1.out; simp; omega, by have := E1.out; have := E2.out; simp; omega, by have := E1.out; have := E2.out; have := E3.out; simp; omega, E1.out⟩
  rw [hwa] at HST
  rw [hwa]
  clear hwa E1 E2 E3
  have q1 : wa.drew.cell? ⟨b1, 0, none⟩ = some (.pointer (some ⟨l, 0, none⟩)) := HST.out.bx.c1
  have q2 : wa.drew.cell? ⟨l, 0, none⟩ = some (.pointer (some ⟨d, 0, none⟩)) := HST.out.lg.cell 0 _ rfl
  have q3 : wa.drew.cell? ⟨l, 1, none⟩ = some (.string nm) := HST.out.lg.cell 1 _ rfl
  refine wp_region_noPanic ?_
  refine wp_region_held_drew (S := fun w' => w'.cell? ⟨b1, 0, none⟩ = some (.pointer (some ⟨l, 0, none⟩)) ∧ w'.cell? ⟨l, 0, none⟩ = some (.pointer (some ⟨d, 0, none⟩)) ∧ w'.cell? ⟨l, 1, none⟩ = some (.string nm)) (by kernel_rfl) ⟨q1, q2, q3⟩ (fun hHeld => ?_)
  refine wpAnyH_take (i := 0) (v := ?_) rfl (by kernel_rfl) (by kernel_rfl) (by kernel_rfl) (fun _ _ _ h => h) (Or.inl ⟨by rfl, ?_⟩) hHeld ?_
  rotate_left
  · (intro wq hSw; (try dsimp only at hSw); (try obtain ⟨s0, s1, s2⟩ := hSw); (go_simp <;> with_reducible rfl))
  try simp only [Act.put, List.getElem_toArray, List.getElem_cons_zero, List.getElem_cons_succ, List.setIfInBounds_toArray, List.set_cons_zero, List.set_cons_succ]
  refine wpAnyH_take (i := 1) (v := ?_) rfl (by kernel_rfl) (by kernel_rfl) (by kernel_rfl) (fun _ _ _ h => h) (Or.inl ⟨by rfl, ?_⟩) hHeld ?_
  rotate_left
  · (intro wq hSw; (try dsimp only at hSw); (try obtain ⟨s0, s1, s2⟩ := hSw); (go_simp <;> with_reducible rfl))
  try simp only [Act.put, List.getElem_toArray, List.getElem_cons_zero, List.getElem_cons_succ, List.setIfInBounds_toArray, List.set_cons_zero, List.set_cons_succ]
  refine wpAnyH_take (i := 2) (v := ?_) rfl (by kernel_rfl) (by kernel_rfl) (by kernel_rfl) (fun _ _ _ h => h) (Or.inl ⟨by rfl, ?_⟩) hHeld ?_
  rotate_left
  · (intro wq hSw; (try dsimp only at hSw); (try obtain ⟨s0, s1, s2⟩ := hSw); (go_simp <;> with_reducible rfl))
  try simp only [Act.put, List.getElem_toArray, List.getElem_cons_zero, List.getElem_cons_succ, List.setIfInBounds_toArray, List.set_cons_zero, List.set_cons_succ]
  refine wpAnyH_take (i := 3) (v := ?_) rfl (by kernel_rfl) (by kernel_rfl) (by kernel_rfl) (fun _ _ _ h => h) (Or.inl ⟨by rfl, ?_⟩) hHeld ?_
  rotate_left
  · (intro wq hSw; (try dsimp only at hSw); (try obtain ⟨s0, s1, s2⟩ := hSw); (go_simp <;> with_reducible rfl))
  try simp only [Act.put, List.getElem_toArray, List.getElem_cons_zero, List.getElem_cons_succ, List.setIfInBounds_toArray, List.set_cons_zero, List.set_cons_succ]
  refine wpAnyH_take (i := 4) (v := ?_) rfl (by kernel_rfl) (by kernel_rfl) (by kernel_rfl) (fun _ _ _ h => h) (Or.inl ⟨by rfl, ?_⟩) hHeld ?_
  rotate_left
  · (intro wq hSw; (try dsimp only at hSw); (try obtain ⟨s0, s1, s2⟩ := hSw); (go_simp <;> with_reducible rfl))
  try simp only [Act.put, List.getElem_toArray, List.getElem_cons_zero, List.getElem_cons_succ, List.setIfInBounds_toArray, List.set_cons_zero, List.set_cons_succ]
  refine wpAnyH_take (i := 5) (v := ?_) rfl (by kernel_rfl) (by kernel_rfl) (by kernel_rfl) (fun _ _ _ h => h) (Or.inl ⟨by rfl, ?_⟩) hHeld ?_
  rotate_left
  · (intro wq hSw; (try dsimp only at hSw); (try obtain ⟨s0, s1, s2⟩ := hSw); (go_simp <;> with_reducible rfl))
  try simp only [Act.put, List.getElem_toArray, List.getElem_cons_zero, List.getElem_cons_succ, List.setIfInBounds_toArray, List.set_cons_zero, List.set_cons_succ]
  refine wpAnyH_take (i := 6) (v := ?_) rfl (by kernel_rfl) (by kernel_rfl) (by kernel_rfl) (fun _ _ _ h => h) (Or.inl ⟨by rfl, ?_⟩) hHeld ?_
  rotate_left
  · (intro wq hSw; (try dsimp only at hSw); (try obtain ⟨s0, s1, s2⟩ := hSw); (go_simp <;> with_reducible rfl))
  try simp only [Act.put, List.getElem_toArray, List.getElem_cons_zero, List.getElem_cons_succ, List.setIfInBounds_toArray, List.set_cons_zero, List.set_cons_succ]
  refine wpAnyH_take (i := 7) (v := ?_) rfl (by kernel_rfl) (by kernel_rfl) (by kernel_rfl) (fun _ _ _ h => h) (Or.inl ⟨by rfl, ?_⟩) hHeld ?_
  rotate_left
  · (intro wq hSw; (try dsimp only at hSw); (try obtain ⟨s0, s1, s2⟩ := hSw); (go_simp <;> with_reducible rfl))
  try simp only [Act.put, List.getElem_toArray, List.getElem_cons_zero, List.getElem_cons_succ, List.setIfInBounds_toArray, List.set_cons_zero, List.set_cons_succ]
  refine wpAnyH_ready (rs := [8]) (by kernel_rfl) (by simp) ?_
  refine AllReadyH.cons rfl (fun K hK => ?_) AllReadyH.nil
  go_simp
  refine (HRD.out _ F HST.out.drew.di).mono ?_
  rintro _ wb ⟨rfl, hDb, hFb⟩
  have HSB := hide (HST.out.drew.fr hFb hDb)
  clear hDb hFb
  have r1 := HSB.out.bx.c1
  have r2 := HSB.out.lg.cell 0 _ rfl
  have r3 := HSB.out.lg.cell 1 _ rfl
  have d3 := HSB.out.bx.c3
  have g3 := frozen_of HSB.out.bx.h3 0
  refine hK.out _ _ ⟨r1, r2, r3⟩ (fun hHeld => ?_)
  clear hK K
  try simp only [Act.put, List.getElem_toArray, List.getElem_cons_zero, List.getElem_cons_succ, List.setIfInBounds_toArray, List.set_cons_zero, List.set_cons_succ]
  refine wpAnyH_take (i := 9) (v := ?_) rfl (by kernel_rfl) (by kernel_rfl) (by kernel_rfl) (fun _ _ _ h => h) (Or.inl ⟨by rfl, ?_⟩) hHeld ?_
  rotate_left
  · (intro wq hSw; (try dsimp only at hSw); (try obtain ⟨s0, s1, s2⟩ := hSw); (go_simp <;> with_reducible rfl))
  try simp only [Act.put, List.getElem_toArray, List.getElem_cons_zero, List.getElem_cons_succ, List.setIfInBounds_toArray, List.set_cons_zero, List.set_cons_succ]
  refine wpAnyH_take (i := 10) (v := ?_) rfl (by kernel_rfl) (by kernel_rfl) (by kernel_rfl) (fun _ _ _ h => h) (Or.inl ⟨by rfl, ?_⟩) hHeld ?_
  rotate_left
  · (intro wq hSw; (try dsimp only at hSw); (try obtain ⟨s0, s1, s2⟩ := hSw); (go_simp <;> with_reducible rfl))
  try simp only [Act.put, List.getElem_toArray, List.getElem_cons_zero, List.getElem_cons_succ, List.setIfInBounds_toArray, List.set_cons_zero, List.set_cons_succ]
  refine wpAnyH_take (i := 11) (v := ?_) rfl (by kernel_rfl) (by kernel_rfl) (by kernel_rfl) (fun _ _ _ h => h) (Or.inl ⟨by rfl, ?_⟩) hHeld ?_
  rotate_left
  · (intro wq hSw; (try dsimp only at hSw); (try obtain ⟨s0, s1, s2⟩ := hSw); (go_simp <;> with_reducible rfl))
  try simp only [Act.put, List.getElem_toArray, List.getElem_cons_zero, List.getElem_cons_succ, List.setIfInBounds_toArray, List.set_cons_zero, List.set_cons_succ]
  refine wpAnyH_take (i := 12) (v := ?_) rfl (by kernel_rfl) (by kernel_rfl) (by kernel_rfl) (fun _ _ _ h => h) (Or.inl ⟨by rfl, ?_⟩) hHeld ?_
  rotate_left
  · (intro wq hSw; (try dsimp only at hSw); (try obtain ⟨s0, s1, s2⟩ := hSw); (go_simp <;> with_reducible rfl))
  try simp only [Act.put, List.getElem_toArray, List.getElem_cons_zero, List.getElem_cons_succ, List.setIfInBounds_toArray, List.set_cons_zero, List.set_cons_succ]
  refine wpAnyH_ready (rs := [13]) (by kernel_rfl) (by simp) ?_
  refine AllReadyH.cons rfl (fun K hK => ?_) AllReadyH.nil
  go_simp
  obtain ⟨wc, hwc⟩ : ∃ wc, wb.setCell ⟨b3, 0, none⟩ (.int .i64 101) = wc := ⟨_, rfl⟩
  have HSC := hide (HSB.out.set3 (.int .i64 101))
  have HWC := hide hwc
  rw [hwc] at HSC
  rw [hwc]
  clear hwc r1 r2 r3 d3 g3 q1 q2 q3
  have r1 := HSC.out.bx.c1
  have r2 := HSC.out.lg.cell 0 _ rfl
  have r3 := HSC.out.lg.cell 1 _ rfl
  have d3 := HSC.out.bx.c3
  refine hK.out _ _ ⟨r1, r2, r3⟩ (fun hHeld => ?_)
  clear hK K
  try simp only [Act.put, List.getElem_toArray, List.getElem_cons_zero, List.getElem_cons_succ, List.setIfInBounds_toArray, List.set_cons_zero, List.set_cons_succ]
  refine wpAnyH_done (by kernel_rfl) ?_ _
  refine NoPanic.normal ?_
  have HSc := hide HSC.out
  go_upto_region 5 with fail
  obtain ⟨wk, hwk⟩ : ∃ wk, wc.drew = wk := ⟨_, rfl⟩
  have HSk := hide HSc.out.drew
  rw [hwk] at HSk
  have z1k := HSk.out.bx.c1
  have z2k := HSk.out.bx.c2
  have z3k := HSk.out.bx.c3
  have y1k := frozen_of HSk.out.bx.h1 0
  have y2k := frozen_of HSk.out.bx.h2 0
  have y3k := frozen_of HSk.out.bx.h3 0
  have x2k := HSk.out.lg.cell 2 _ rfl
  have x3k := HSk.out.lg.cell 3 _ rfl
  have u2k := frozen_of HSk.out.lg 2
  have u3k := frozen_of HSk.out.lg 3
  have c0k := HSk.out.lg.cell 0 _ rfl
  have c1k := HSk.out.lg.cell 1 _ rfl
  refine wp_region_noPanic ?_
  refine wp_region_held_drew (S := fun w' => w'.cell? ⟨b1, 0, none⟩ = some (.pointer (some ⟨l, 0, none⟩)) ∧ w'.cell? ⟨b2, 0, none⟩ = some (.slice none 0 0) ∧ w'.cell? ⟨b3, 0, none⟩ = some (.int .i64 101)) (by kernel_rfl) ?_ (fun hHeld => ?_)
  · rw [hwk]; exact ⟨z1k, z2k, z3k⟩
  rw [hwk] at hHeld ⊢
  clear hwk
  refine wpAnyH_take (i := 0) (v := ?_) rfl (by kernel_rfl) (by kernel_rfl) (by kernel_rfl) (fun _ _ _ h => h) (Or.inl ⟨by rfl, ?_⟩) hHeld ?_
  rotate_left
  · (intro wq hSw; (try dsimp only at hSw); (try obtain ⟨s0, s1, s2⟩ := hSw); (go_simp <;> with_reducible rfl))
  try simp only [Act.put, List.getElem_toArray, List.getElem_cons_zero, List.getElem_cons_succ, List.setIfInBounds_toArray, List.set_cons_zero, List.set_cons_succ]
  refine wpAnyH_take (i := 1) (v := ?_) rfl (by kernel_rfl) (by kernel_rfl) (by kernel_rfl) (fun _ _ _ h => h) (Or.inl ⟨by rfl, ?_⟩) hHeld ?_
  rotate_left
  · (intro wq hSw; (try dsimp only at hSw); (try obtain ⟨s0, s1, s2⟩ := hSw); (go_simp <;> with_reducible rfl))
  try simp only [Act.put, List.getElem_toArray, List.getElem_cons_zero, List.getElem_cons_succ, List.setIfInBounds_toArray, List.set_cons_zero, List.set_cons_succ]
  refine wpAnyH_take (i := 2) (v := ?_) rfl (by kernel_rfl) (by kernel_rfl) (by kernel_rfl) (fun _ _ _ h => h) (Or.inl ⟨by rfl, ?_⟩) hHeld ?_
  rotate_left
  · (intro wq hSw; (try dsimp only at hSw); (try obtain ⟨s0, s1, s2⟩ := hSw); (go_simp <;> with_reducible rfl))
  try simp only [Act.put, List.getElem_toArray, List.getElem_cons_zero, List.getElem_cons_succ, List.setIfInBounds_toArray, List.set_cons_zero, List.set_cons_succ]
  refine wpAnyH_ready (rs := [3]) (by kernel_rfl) (by simp) ?_
  refine AllReadyH.cons rfl (fun K hK => ?_) AllReadyH.nil
  go_simp
  obtain ⟨wm, hwm⟩ : ∃ wm, wk.setCell ⟨b1, 0, none⟩ (.pointer (some ⟨l, 0, none⟩)) = wm := ⟨_, rfl⟩
  have HSm := hide (HSk.out.set1 (.pointer (some ⟨l, 0, none⟩)))
  rw [hwm] at HSm
  rw [hwm]
  clear hwm
  have z1m := HSm.out.bx.c1
  have z2m := HSm.out.bx.c2
  have z3m := HSm.out.bx.c3
  have y1m := frozen_of HSm.out.bx.h1 0
  have y2m := frozen_of HSm.out.bx.h2 0
  have y3m := frozen_of HSm.out.bx.h3 0
  have x2m := HSm.out.lg.cell 2 _ rfl
  have x3m := HSm.out.lg.cell 3 _ rfl
  have u2m := frozen_of HSm.out.lg 2
  have u3m := frozen_of HSm.out.lg 3
  have c0m := HSm.out.lg.cell 0 _ rfl
  have c1m := HSm.out.lg.cell 1 _ rfl
  refine hK.out _ _ ⟨z1m, z2m, z3m⟩ (fun hHeld => ?_)
  clear hK K
  try simp only [Act.put, List.getElem_toArray, List.getElem_cons_zero, List.getElem_cons_succ, List.setIfInBounds_toArray, List.set_cons_zero, List.set_cons_succ]
  refine wpAnyH_ready (rs := [4]) (by kernel_rfl) (by simp) ?_
  refine AllReadyH.cons rfl (fun K hK => ?_) AllReadyH.nil
  go_simp
  obtain ⟨wn, hwn⟩ : ∃ wn, wm.setCell ⟨b2, 0, none⟩ (.slice none 0 0) = wn := ⟨_, rfl⟩
  have HSn := hide (HSm.out.set2 (.slice none 0 0))
  rw [hwn] at HSn
  rw [hwn]
  clear hwn
  have z1n := HSn.out.bx.c1
  have z2n := HSn.out.bx.c2
  have z3n := HSn.out.bx.c3
  have y1n := frozen_of HSn.out.bx.h1 0
  have y2n := frozen_of HSn.out.bx.h2 0
  have y3n := frozen_of HSn.out.bx.h3 0
  have x2n := HSn.out.lg.cell 2 _ rfl
  have x3n := HSn.out.lg.cell 3 _ rfl
  have u2n := frozen_of HSn.out.lg 2
  have u3n := frozen_of HSn.out.lg 3
  have c0n := HSn.out.lg.cell 0 _ rfl
  have c1n := HSn.out.lg.cell 1 _ rfl
  refine hK.out _ _ ⟨z1n, z2n, z3n⟩ (fun hHeld => ?_)
  clear hK K
  try simp only [Act.put, List.getElem_toArray, List.getElem_cons_zero, List.getElem_cons_succ, List.setIfInBounds_toArray, List.set_cons_zero, List.set_cons_succ]
  refine wpAnyH_ready (rs := [5]) (by kernel_rfl) (by simp) ?_
  refine AllReadyH.cons rfl (fun K hK => ?_) AllReadyH.nil
  go_simp
  obtain ⟨wo, hwo⟩ : ∃ wo, wn.setCell ⟨b3, 0, none⟩ (.int .i64 101) = wo := ⟨_, rfl⟩
  have HSo := hide (HSn.out.set3 (.int .i64 101))
  rw [hwo] at HSo
  rw [hwo]
  clear hwo
  have z1o := HSo.out.bx.c1
  have z2o := HSo.out.bx.c2
  have z3o := HSo.out.bx.c3
  have y1o := frozen_of HSo.out.bx.h1 0
  have y2o := frozen_of HSo.out.bx.h2 0
  have y3o := frozen_of HSo.out.bx.h3 0
  have x2o := HSo.out.lg.cell 2 _ rfl
  have x3o := HSo.out.lg.cell 3 _ rfl
  have u2o := frozen_of HSo.out.lg 2
  have u3o := frozen_of HSo.out.lg 3
  have c0o := HSo.out.lg.cell 0 _ rfl
  have c1o := HSo.out.lg.cell 1 _ rfl
  refine hK.out _ _ ⟨z1o, z2o, z3o⟩ (fun hHeld => ?_)
  clear hK K
  try simp only [Act.put, List.getElem_toArray, List.getElem_cons_zero, List.getElem_cons_succ, List.setIfInBounds_toArray, List.set_cons_zero, List.set_cons_succ]
  refine wpAnyH_done (by kernel_rfl) ?_ _
  refine NoPanic.normal ?_
  go_wp2_with fail
  refine leaves_cons (f := 51) (args := #[.pointer (some ⟨b3, 0, none⟩), .pointer (some ⟨b1, 0, none⟩), .pointer (some ⟨b2, 0, none⟩)]) (by simp) (by simp [go_sem]) ?_
  refine (openedC_name b3 b1 b2 .returning _ HSo.out.bx).mono ?_
  rintro e u' w'' ⟨rfl, rfl, rfl⟩
  have HSp := (HSo.out.set1 (.pointer none)).set2 (.slice none 0 0)
  refine ⟨.tuple #[.pointer none, .slice none 0 0, .int .i64 101], results3 (by rfl) _ b1 b2 b3 rfl rfl rfl _ HSp.bx.c1 HSp.bx.c2 HSp.bx.c3, rfl, HSp.di, HSp.fx⟩

set_option maxRecDepth 100000 in
theorem open_name {B : Nat} {d : Nat} {p : PS} {F : Nat → Prop} (w : World) (h : Di B w d p F) (hoff : p.off = false) :
    Calls Tryd.prog 12 #[.pointer (some ⟨d, 0, none⟩), .string { data := #[74] }] w fun e w' => e = .returned (.tuple #[.pointer none, .slice none 0 0, .int .i64 101]) ∧ Di B w' d p F ∧ Fr w F w' F := by
  have HO : Hid (∀ w1, Below w.heap.size w w1 → Calls Tryd.prog 33 #[.pointer (some ⟨w1.heap.size, 0, none⟩)] (w1.alloc (.cells #[.pointer (some ⟨d, 0, none⟩), .string { data := #[74] }, .int .i64 0, .int .i64 0, .bool false] 85)) fun e w' => e = .returned (.tuple #[.pointer none, .slice none 0 0, .int .i64 101]) ∧ Di B w' d p F ∧ Fr w F w' F) := fun w1 hb => by
    have hb2 : Below w1.heap.size w1 (w1.alloc (.cells #[.pointer (some ⟨d, 0, none⟩), .string { data := #[74] }, .int .i64 0, .int .i64 0, .bool false] 85)) := (Below.refl _ _).alloc (Nat.le_refl _) _
    have hb3 := hb.trans (hb2.mono hb.size)
    refine (opened_name _ (h.below hb3) (heap_alloc_new w1 _) (fun e => by have := h.lt _ e; have := hb.size; omega) hoff).mono ?_
    rintro e w' ⟨rfl, e1, e2⟩
    exact ⟨rfl, e1, e2.fr hb3 hb.size⟩
  have HSC := hide (fun w1 => sclone_any { data := #[74] } w1 (by decide))
  clear h hoff
  go_enter Tryd.func12, Tryd.ntmps12
  go_wp2_with (first | (go_at_call 34; refine (HSC.out _).mono ?_; rintro e w1 ⟨rfl, hB1⟩; have HB1 := hide hB1; clear hB1) | (go_at_call 33; refine (HO.out _ HB1.out).mono ?_; rintro e w2 ⟨rfl, hR⟩; have HR := hide hR; clear hR))
  go_ret3
  exact ⟨rfl, HR.out⟩

set_option maxRecDepth 100000 in
theorem lappend_long {l d : Nat} {nm : ByteArray} {sz ct : Nat} (w : World) (hg : Lg w l d nm sz ct) (pr : Option Addr) (m cap : Nat) (q : Nat → List Nat) (hq : PartsOf w pr m q) (hm : m ≤ 100000000) (hl : (bodyP q m).length ≤ 1000000000) (hno : ¬ (m ≤ 4096 ∧ (bodyP q m).length ≤ 4194304)) :
    Calls Tryd.prog 17 #[.pointer (some ⟨l, 0, none⟩), .slice pr m cap] w fun e w' => e = .returned (.int .i64 110) ∧ w' = w := by
  have HFT := hide (fits_rows pr m cap q w hq hm hl)
  have c4 := hg.cell 4 (.bool false) rfl
  have hdec : decide (m ≤ 4096 ∧ (bodyP q m).length ≤ 4194304) = false := decide_eq_false hno
  rw [hdec] at HFT
  clear hg hq hdec hl hno
  go_enter Tryd.func17, Tryd.ntmps17
  go_wp2_with (go_at_call 35; refine HFT.out.mono ?_; rintro e w' ⟨rfl, rfl⟩)
  go_ret
  exact ⟨rfl, rfl⟩

end Go.Proofs.YtpecgmcalbojcaaDoor

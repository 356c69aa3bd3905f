/- Equal files are told equal. -/
import Derived.Test.YtlandfghodfjdaaGreatJ12X
namespace Go.Proofs.YtlandfghodfjdaaGreat
open Go.RowKit
set_option linter.unusedVariables false
set_option linter.unusedSimpArgs false

set_option maxRecDepth 100000 in
set_option maxHeartbeats 1000000 in
theorem eq_same (va vb : Value) (bs : List Nat) (w : World) (ha : IsBy w va bs) (hb : IsBy w vb bs) (hl : bs.length ≤ 140737488355328) :
    Calls Tryz.prog 38 #[va, vb] w fun e w' => e = .returned (.bool true) ∧ ∃ N, w' = w.drewN N := by
  obtain ⟨pa, ca, rfl, ka⟩ := by_slice ha
  obtain ⟨pb, cb, rfl, kb⟩ := by_slice hb
  have HA := hide ka
  have HB := hide kb
  obtain ⟨n, hn⟩ : ∃ n, bs.length = n := ⟨_, rfl⟩
  rw [hn] at HA HB hl ⊢
  clear ha hb ka kb hn
  go_enter Tryz.func38, Tryz.ntmps38
  go_wp2_with fail
  go_loopw [5] (fun t5 wr => ∃ (k N : Nat), t5 = .int .i64 (k : Int) ∧ wr = w.drewN N ∧ Hid (k ≤ n)) (fun t5 _ => n - (intOf t5).toNat)
  case atStart => exact ⟨0, 0, rfl, rfl, Nat.zero_le _⟩
  case round =>
    obtain ⟨k, N, rfl, rfl, hI⟩ := hrel
    by_cases hlt : k < n
    · have hlt' : (k : Int) < (n : Int) := by omega
      obtain ⟨ga, oa, ea, k1⟩ := HA.out k hlt
      obtain ⟨gb, ob, eb, k2⟩ := HB.out k hlt
      subst ea
      subst eb
      obtain ⟨x, hx⟩ : ∃ x, bs.getD k 0 = x := ⟨_, rfl⟩
      rw [hx] at k1 k2
      have l1 : (w.drewN N).cell? ⟨ga, oa + k, none⟩ = some (.int .u8 (x : Int)) := k1
      have l2 : (w.drewN N).cell? ⟨gb, ob + k, none⟩ = some (.int .u8 (x : Int)) := k2
      have HN : Hid (k + 1 ≤ n) := hlt
      obtain ⟨wn, hwn⟩ : ∃ wn, w.drewN N = wn := ⟨_, rfl⟩
      rw [hwn] at l1 l2 ⊢
      have HWN := hide hwn
      clear hwn k1 k2 hI
      go_wp2_with fail
      go_quiet (fail)
      have HD : Hid (∃ N', wn.drewN nq = w.drewN N') := ⟨N + nq, by rw [← HWN.out]; exact World.drewN_drewN _ _ _⟩
      go_wp2_with fail
      go_roundw
      case rel => obtain ⟨N', h'⟩ := HD.out; exact ⟨k + 1, N', by simp, h', HN.out⟩
      case measure => simp [intOf]; omega
    · have hlt' : ¬ (k : Int) < (n : Int) := by omega
      go_wp2_with fail
      go_ret
      exact ⟨rfl, N, rfl⟩

set_option maxRecDepth 100000 in
set_option maxHeartbeats 2000000 in
theorem eqFile_same (nm : ByteArray) (pa pb : Option Addr) (na ca cb : Nat) (bs : List Nat) (w : World) (hna : na = bs.length) (ha : IsBy w (.slice pa na ca) bs) (hb : IsBy w (.slice pb na cb) bs) (hl : bs.length ≤ 140737488355328) :
    Calls Tryz.prog 36 #[.agg #[.string nm, .slice pa na ca], .agg #[.string nm, .slice pb na cb]] w fun e w' => e = .returned (.bool true) ∧ Below w.heap.size w w' := by
  have hbA : Below w.heap.size w (w.alloc (.cells #[.string nm, .slice pa na ca] 74)) := (Below.refl _ _).alloc (Nat.le_refl _) _
  have hbB : Below w.heap.size w ((w.alloc (.cells #[.string nm, .slice pa na ca] 74)).alloc (.cells #[.string nm, .slice pb na cb] 74)) := hbA.alloc (by simp) _
  have HB := hide hbB
  have HE : Hid (∀ w1, w1.heap = ((w.alloc (.cells #[.string nm, .slice pa na ca] 74)).alloc (.cells #[.string nm, .slice pb na cb] 74)).heap → Calls Tryz.prog 38 #[.slice pa na ca, .slice pb na cb] w1 fun e w' => e = .returned (.bool true) ∧ ∃ N, w' = w1.drewN N) := fun w1 h1 => eq_same _ _ bs w1 (isBy_heap (isBy_below ha hbB) h1) (isBy_heap (isBy_below hb hbB) h1) hl
  clear ha hb hbA hbB hna
  go_enter Tryz.func36, Tryz.ntmps36
  go_wp2_with (go_at_call 38; refine (HE.out _ rfl).mono ?_; rintro e w2 ⟨rfl, N, rfl⟩)
  go_ret
  exact ⟨rfl, HB.out.os, HB.out.tape, HB.out.output, HB.out.size, HB.out.block⟩

/-- The bytes of files that lie somewhere. -/
def RowsR (w : World) (vals : List Value) (fs : List (ByteArray × List Nat)) : Prop := ∀ i, i < fs.length → IsBy w (vals.getD i (.slice none 0 0)) (fs.getD i (.empty, [])).2

set_option maxRecDepth 100000 in
set_option maxHeartbeats 2000000 in
theorem eqFiles_same (va vb : Value) (xs ys : List Value) (fs : List (ByteArray × List Nat)) (w : World) (ha : FilesR w va xs fs) (hb : FilesR w vb ys fs) (ra : RowsR w xs fs) (rb : RowsR w ys fs) (hl : fs.length ≤ 1000000) (hf : ∀ x ∈ fs, x.2.length ≤ 140737488355328) :
    Calls Tryz.prog 14 #[va, vb] w fun e w' => e = .returned (.bool true) ∧ Below w.heap.size w w' := by
  obtain ⟨pa, ca, hva⟩ : ∃ p c, va = .slice p fs.length c := by obtain ⟨_, p, c, e, _⟩ := ha; exact ⟨p, c, e⟩
  obtain ⟨pb, cb, hvb⟩ : ∃ p c, vb = .slice p fs.length c := by obtain ⟨_, p, c, e, _⟩ := hb; exact ⟨p, c, e⟩
  subst hva
  subst hvb
  have HA := hide ha
  have HB := hide hb
  have RA := hide ra
  have RB := hide rb
  have HF := hide hf
  obtain ⟨n, hn⟩ : ∃ n, fs.length = n := ⟨_, rfl⟩
  have HL := hide hn
  rw [hn] at hl ⊢
  clear ha hb ra rb hf hn
  go_enter Tryz.func14, Tryz.ntmps14
  go_wp2_with fail
  go_loopw [5] (fun t5 wr => ∃ (k : Nat), t5 = .int .i64 (k : Int) ∧ k ≤ n ∧ Hid (Below w.heap.size w wr)) (fun t5 _ => n - (intOf t5).toNat)
  case atStart => exact ⟨0, rfl, Nat.zero_le _, Below.refl _ _⟩
  case round =>
    obtain ⟨k, rfl, hk, HW⟩ := hrel
    by_cases hlt : k < n
    · have hlt' : (k : Int) < (n : Int) := by omega
      have HK : Hid (k < fs.length) := by show _ < _; rw [HL.out]; exact hlt
      obtain ⟨hva, pa', ca', ea, hca⟩ := HA.out.below HW.out
      obtain ⟨ga, oa, hpa, a1, a2⟩ := hca k HK.out
      simp only [Value.slice.injEq] at ea
      obtain ⟨rfl, -, rfl⟩ := ea
      subst hpa
      obtain ⟨hvb, pb', cb', eb, hcb⟩ := HB.out.below HW.out
      obtain ⟨gb, ob, hpb, b1, b2⟩ := hcb k HK.out
      simp only [Value.slice.injEq] at eb
      obtain ⟨rfl, -, rfl⟩ := eb
      subst hpb
      have hra := isBy_below (RA.out k HK.out) HW.out
      have hrb := isBy_below (RB.out k HK.out) HW.out
      obtain ⟨x, hx⟩ : ∃ x, fs.getD k (.empty, []) = x := ⟨_, rfl⟩
      have hxl : x.2.length ≤ 140737488355328 := HF.out x (by rw [← hx]; simp [List.getD, List.getElem?_eq_getElem HK.out])
      rw [hx] at a1 b1 hra hrb
      obtain ⟨qa, ja, hqa, _⟩ := by_slice hra
      obtain ⟨qb, jb, hqb, _⟩ := by_slice hrb
      rw [hqa] at a2 hra
      rw [hqb] at b2 hrb
      obtain ⟨nx, hnx⟩ : ∃ nx, x.2.length = nx := ⟨_, rfl⟩
      obtain ⟨nm, hnm⟩ : ∃ nm, x.1 = nm := ⟨_, rfl⟩
      rw [hnm] at a1 b1
      rw [hnx] at a2 b2 hra hrb
      have HQ : Hid (Calls Tryz.prog 36 #[.agg #[.string nm, .slice qa nx ja], .agg #[.string nm, .slice qb nx jb]] wr.drew fun e w' => e = .returned (.bool true) ∧ Below wr.drew.heap.size wr.drew w') := eqFile_same nm qa qb nx ja jb x.2 wr.drew hnx.symm (isBy_heap hra rfl) (isBy_heap hrb rfl) hxl
      have y1 : wr.drew.cell? ⟨ga, oa + k * 2, none⟩ = some (.string nm) := a1
      have y2 : wr.drew.cell? ⟨ga, oa + k * 2 + 1, none⟩ = some (.slice qa nx ja) := a2
      have y3 : wr.drew.cell? ⟨gb, ob + k * 2, none⟩ = some (.string nm) := b1
      have y4 : wr.drew.cell? ⟨gb, ob + k * 2 + 1, none⟩ = some (.slice qb nx jb) := b2
      clear hva hvb hca hcb a1 a2 b1 b2 hra hrb hqa hqb hx hxl hnx hnm
      go_upto_region 6 with fail
      refine wp_region_held_drew (S := fun w' => w'.cell? ⟨ga, oa + k * 2, none⟩ = some (.string nm) ∧ w'.cell? ⟨ga, oa + k * 2 + 1, none⟩ = some (.slice qa nx ja) ∧ w'.cell? ⟨gb, ob + k * 2, none⟩ = some (.string nm) ∧ w'.cell? ⟨gb, ob + k * 2 + 1, none⟩ = some (.slice qb nx jb)) (by kernel_rfl) ⟨y1, y2, y3, y4⟩ (fun hHeld => ?_)
      refine wpAnyH_take (i := 0) (v := ?_) rfl (by kernel_rfl) (by kernel_rfl) (by kernel_rfl) (fun _ _ _ h => h) (Or.inl ⟨by rfl, ?_⟩) hHeld ?_
      rotate_left
      · (intro wq hSw; (try dsimp only at hSw); (try obtain ⟨s0, s1, s2, s3⟩ := hSw); (go_simp <;> with_reducible rfl))
      try simp only [Act.put, List.getElem_toArray, List.getElem_cons_zero, List.getElem_cons_succ, List.setIfInBounds_toArray, List.set_cons_zero, List.set_cons_succ]
      refine wpAnyH_take (i := 1) (v := ?_) rfl (by kernel_rfl) (by kernel_rfl) (by kernel_rfl) (fun _ _ _ h => h) (Or.inl ⟨by rfl, ?_⟩) hHeld ?_
      rotate_left
      · (intro wq hSw; (try dsimp only at hSw); (try obtain ⟨s0, s1, s2, s3⟩ := hSw); (go_simp <;> with_reducible rfl))
      try simp only [Act.put, List.getElem_toArray, List.getElem_cons_zero, List.getElem_cons_succ, List.setIfInBounds_toArray, List.set_cons_zero, List.set_cons_succ]
      refine wpAnyH_take (i := 2) (v := ?_) rfl (by kernel_rfl) (by kernel_rfl) (by kernel_rfl) (fun _ _ _ h => h) (Or.inl ⟨by rfl, ?_⟩) hHeld ?_
      rotate_left
      · (intro wq hSw; (try dsimp only at hSw); (try obtain ⟨s0, s1, s2, s3⟩ := hSw); (go_simp <;> with_reducible rfl))
      try simp only [Act.put, List.getElem_toArray, List.getElem_cons_zero, List.getElem_cons_succ, List.setIfInBounds_toArray, List.set_cons_zero, List.set_cons_succ]
      refine wpAnyH_take (i := 3) (v := ?_) rfl (by kernel_rfl) (by kernel_rfl) (by kernel_rfl) (fun _ _ _ h => h) (Or.inl ⟨by rfl, ?_⟩) hHeld ?_
      rotate_left
      · (intro wq hSw; (try dsimp only at hSw); (try obtain ⟨s0, s1, s2, s3⟩ := hSw); (go_simp <;> with_reducible rfl))
      try simp only [Act.put, List.getElem_toArray, List.getElem_cons_zero, List.getElem_cons_succ, List.setIfInBounds_toArray, List.set_cons_zero, List.set_cons_succ]
      refine wpAnyH_take (i := 4) (v := ?_) rfl (by kernel_rfl) (by kernel_rfl) (by kernel_rfl) (fun _ _ _ h => h) (Or.inl ⟨by rfl, ?_⟩) hHeld ?_
      rotate_left
      · (intro wq hSw; (try dsimp only at hSw); (try obtain ⟨s0, s1, s2, s3⟩ := hSw); (go_simp <;> with_reducible rfl))
      try simp only [Act.put, List.getElem_toArray, List.getElem_cons_zero, List.getElem_cons_succ, List.setIfInBounds_toArray, List.set_cons_zero, List.set_cons_succ]
      refine wpAnyH_take (i := 5) (v := ?_) rfl (by kernel_rfl) (by kernel_rfl) (by kernel_rfl) (fun _ _ _ h => h) (Or.inl ⟨by rfl, ?_⟩) hHeld ?_
      rotate_left
      · (intro wq hSw; (try dsimp only at hSw); (try obtain ⟨s0, s1, s2, s3⟩ := hSw); (go_simp <;> with_reducible rfl))
      try simp only [Act.put, List.getElem_toArray, List.getElem_cons_zero, List.getElem_cons_succ, List.setIfInBounds_toArray, List.set_cons_zero, List.set_cons_succ]
      refine wpAnyH_take (i := 6) (v := ?_) rfl (by kernel_rfl) (by kernel_rfl) (by kernel_rfl) (fun _ _ _ h => h) (Or.inl ⟨by rfl, ?_⟩) hHeld ?_
      rotate_left
      · (intro wq hSw; (try dsimp only at hSw); (try obtain ⟨s0, s1, s2, s3⟩ := hSw); (go_simp <;> with_reducible rfl))
      try simp only [Act.put, List.getElem_toArray, List.getElem_cons_zero, List.getElem_cons_succ, List.setIfInBounds_toArray, List.set_cons_zero, List.set_cons_succ]
      refine wpAnyH_take (i := 7) (v := ?_) rfl (by kernel_rfl) (by kernel_rfl) (by kernel_rfl) (fun _ _ _ h => h) (Or.inl ⟨by rfl, ?_⟩) hHeld ?_
      rotate_left
      · (intro wq hSw; (try dsimp only at hSw); (try obtain ⟨s0, s1, s2, s3⟩ := hSw); (go_simp <;> with_reducible rfl))
      try simp only [Act.put, List.getElem_toArray, List.getElem_cons_zero, List.getElem_cons_succ, List.setIfInBounds_toArray, List.set_cons_zero, List.set_cons_succ]
      refine wpAnyH_ready (rs := [8]) (by kernel_rfl) (by simp) ?_
      refine AllReadyH.cons rfl (fun K hK => ?_) AllReadyH.nil
      go_simp
      refine HQ.out.mono ?_
      rintro _ w2 ⟨rfl, hb2⟩
      have HW2 : Hid (Below w.heap.size w w2) := HW.out.trans (Below.mono ⟨hb2.os, hb2.tape, hb2.output, hb2.size, hb2.block⟩ HW.out.size)
      have z1 := cell_bel hb2 y1
      have z2 := cell_bel hb2 y2
      have z3 := cell_bel hb2 y3
      have z4 := cell_bel hb2 y4
      clear hb2 HQ
      refine hK.out _ _ ⟨z1, z2, z3, z4⟩ (fun hHeld => ?_)
      clear hK K
      try simp only [Act.put, List.getElem_toArray, List.getElem_cons_zero, List.getElem_cons_succ, List.setIfInBounds_toArray, List.set_cons_zero, List.set_cons_succ]
      refine wpAnyH_take (i := 9) (v := ?_) rfl (by kernel_rfl) (by kernel_rfl) (by kernel_rfl) (fun _ _ _ h => h) (Or.inl ⟨by rfl, ?_⟩) hHeld ?_
      rotate_left
      · (intro wq hSw; (try dsimp only at hSw); (try obtain ⟨s0, s1, s2, s3⟩ := hSw); (go_simp <;> with_reducible rfl))
      try simp only [Act.put, List.getElem_toArray, List.getElem_cons_zero, List.getElem_cons_succ, List.setIfInBounds_toArray, List.set_cons_zero, List.set_cons_succ]
      refine wpAnyH_done (by kernel_rfl) ?_ _
      go_wp2_with fail
      go_roundw
      case rel => exact ⟨k + 1, by simp, by omega, HW2.out⟩
      case measure => simp [intOf]; omega
    · have hlt' : ¬ (k : Int) < (n : Int) := by omega
      go_wp2_with fail
      go_ret
      exact ⟨rfl, HW.out⟩

end Go.Proofs.YtlandfghodfjdaaGreat

/- The law's torn: what the torn write leaves ahead of the loss. -/
import Derived.Test.YtlandfghodfjdaaGreatJ16C
namespace Go.Proofs.YtlandfghodfjdaaGreat
open Go.RowKit
set_option linter.unusedVariables false
set_option linter.unusedSimpArgs false

theorem torn_app {p p' : PS} {nm tt : ByteArray} {bs : List Nat} {z c : Int} (ha : p.ain = 0) (hv : Vd p 1 nm tt bs z 0) {k : Nat} (h : AppR p nm (bs.take k) c p') (hl : bs.length ≤ 1000000000) : c = 0 ∧ p' = p.next (Con.app p.con nm (bs.take k)) := by
  have hc : p.code = 0 := if_neg (by omega)
  have hv2 : p.off = false ∧ okN nm ∧ Fit p.con p.room nm bs.length := by
    rcases hv with ⟨_, h⟩ | ⟨_, _, h⟩ | ⟨_, _, _, _, _, h⟩ | ⟨a, b, _, _, d, _⟩ | ⟨_, _, _, h, _⟩ | ⟨_, _, _, h, _⟩ | ⟨_, _, _, h, _⟩
    · exact absurd h (by decide)
    · exact absurd h (by decide)
    · exact absurd h (by decide)
    · exact ⟨a, b, d⟩
    · exact absurd rfl h
    · exact absurd h (by decide)
    · exact absurd rfl h
  obtain ⟨v1, v2, v3⟩ := hv2
  rcases h with ⟨h, h0, _⟩ | ⟨_, _, h, _⟩ | ⟨_, _, _, h, e⟩
  · rcases refs_one h h0 with ⟨a, _⟩ | ⟨_, a, _⟩
    · rw [v1] at a; cases a
    · exact absurd v2 a
  · refine absurd ⟨v3.1, ?_⟩ h
    have := v3.2
    rw [List.length_take]
    omega
  · rw [wrote_next ha] at e
    refine ⟨h.trans hc, e.trans ?_⟩
    unfold appF
    rw [toNat_max, List.take_of_length_le (l := bs.take k) (by rw [List.length_take]; omega)]

/-- What torn leaves. -/
def TornE (w : World) (B : Nat) (S : DS) (K : Con) (w' : World) : Prop := ∃ S' : DS, S'.d = S.d ∧ S'.ps.con = K ∧ S'.off = false ∧ (∀ y ∈ S'.ps.con, okN y.1) ∧ Dk B w' 0 S' ∧ Fr w (Fp S) w' (Fp S')

set_option maxRecDepth 100000 in
set_option maxHeartbeats 8000000 in
theorem torn_any {B : Nat} {S : DS} (w : World) (h : Dk B w 0 S) (hoff : S.off = false) (hain : S.ain = 0) (hA : S.ps.arms) (hwr : S.wr ≤ 1000000000) (fin : ∀ y ∈ S.ps.con, okN y.1) (rm nn keep lose : Int) (pL pM : Option Addr) (nL cL nM cM : Nat) (dw on : Int) (nm tt : ByteArray) (pb : Option Addr) (nb cb : Nat) (z kp ls : Int) (pf : Option Addr) (nf cf : Nat) (bs : List Nat)
    (hC : Cy w pb nb cb bs) (hbb : ∀ n ∈ bs, n < 256) (hn : nb ≤ 1000000000) (hsz : nm.size ≤ 140737488355328 ∧ tt.size ≤ 140737488355328) (hop : 1 ≤ dw ∧ dw ≤ 5) (hv : Vd S.ps dw nm tt bs z 0) (hkp : -9223372036854775808 ≤ keep ∧ keep ≤ 9223372036854775807) :
    Calls Tryz.prog 21 #[.agg #[.int .i64 rm, .slice pL nL cL, .int .i64 nn, .int .i64 keep, .int .i64 lose, .slice pM nM cM], .pointer (some ⟨S.d, 0, none⟩), opV dw on nm tt (.slice pb nb cb) z kp ls (.slice pf nf cf)] w fun e w' => e = .returned (.bool true) ∧ TornE w B S (tornC keep dw nm tt bs z S.ps.con) w' := by
  have hnb : nb = bs.length := hC.2.1
  obtain ⟨W0, hW0⟩ : ∃ W0, w.alloc (.cells #[.int .i64 rm, .slice pL nL cL, .int .i64 nn, .int .i64 keep, .int .i64 lose, .slice pM nM cM] 51) = W0 := ⟨_, rfl⟩
  have hs0 : W0.heap.size = w.heap.size + 1 := by rw [← hW0]; simp
  have hb0 : Below w.heap.size w W0 := by rw [← hW0]; exact (Below.refl _ _).alloc (Nat.le_refl _) _
  have hr0 : W0.heap[w.heap.size]? = some (.cells #[.int .i64 rm, .slice pL nL cL, .int .i64 nn, .int .i64 keep, .int .i64 lose, .slice pM nM cM] 51 (0, 0)) := by rw [← hW0]; exact heap_alloc_new w _
  obtain ⟨W1, hW1⟩ : ∃ W1, W0.alloc (.cells #[.int .i64 dw, .int .i64 on, .string nm, .string tt, .slice pb nb cb, .int .i64 z, .int .i64 kp, .int .i64 ls, .slice pf nf cf] 36) = W1 := ⟨_, rfl⟩
  have hb1 : Below W0.heap.size W0 W1 := by rw [← hW1]; exact (Below.refl _ _).alloc (Nat.le_refl _) _
  have hr1 : W1.heap[w.heap.size + 1]? = some (.cells #[.int .i64 dw, .int .i64 on, .string nm, .string tt, .slice pb nb cb, .int .i64 z, .int .i64 kp, .int .i64 ls, .slice pf nf cf] 36 (0, 0)) := by rw [← hW1, ← hs0]; exact heap_alloc_new W0 _
  have hP : W1.heap[w.heap.size]? = some (.cells #[.int .i64 rm, .slice pL nL cL, .int .i64 nn, .int .i64 keep, .int .i64 lose, .slice pM nM cM] 51 (0, 0)) := (hb1.block _ (by omega)).trans hr0
  have HB := hide (hb0.trans (hb1.mono (by omega)))
  have HO := hide hr1
  have HD := hide (h.below HB.out)
  have HF : Hid (Fr w (Fp S) W1 (Fp S)) := Fr.of_below HB.out
  have HCC := hide (hC.below HB.out)
  have HNO : Hid (¬ Fp S (w.heap.size + 1)) := fun e => by have := h.fpLt _ e; omega
  have k3 : W1.cell? ⟨w.heap.size, 3, none⟩ = some (.int .i64 keep) := cell_of_row _ _ _ _ _ _ hP
  have HW0 := hide hW0
  have HW1 := hide hW1
  have HS0 := hide hs0
  clear hW0 hW1 hs0
  have HKEEP : Hid (∀ K, K = S.ps.con → TornE w B S K W1) := fun K e => ⟨S, rfl, e.symm, hoff, fin, HD.out, HF.out⟩
  by_cases hd : dw = 1
  · subst hd
    have hd1 : (¬ (1 : Int) = 1) = False := by simp
    clear h hb0 hb1 hr0 hr1 hP
    have q0 : W1.cell? ⟨w.heap.size + 1, 0, none⟩ = some (.int .i64 1) := cell_of_row _ _ _ _ _ _ HO.out
    have q4 : W1.cell? ⟨w.heap.size + 1, 4, none⟩ = some (.slice pb nb cb) := cell_of_row _ _ _ _ _ _ HO.out
    by_cases h1 : keep < 1
    · have e0 : tornC keep 1 nm tt bs z S.ps.con = S.ps.con := if_neg (by omega)
      have HK := hide (HKEEP.out _ e0)
      have hz : ¬ (nb : Int) < 0 := by omega
      clear HKEEP HD HCC hv hC e0 hnb hop hkp hain hoff hA hwr fin hbb hsz hd1
      unfold opV
      by_cases h2 : keep < 0
      · go_enter Tryz.func21, Tryz.ntmps21
        go_upto_region 1 with fail
        rw [HW0.out, HW1.out]
        try rw [HS0.out]
        go_wp2_with fail
        go_ret
        exact ⟨rfl, HK.out⟩
      · have h3 : keep = 0 := by omega
        subst h3
        go_enter Tryz.func21, Tryz.ntmps21
        go_upto_region 1 with fail
        rw [HW0.out, HW1.out]
        try rw [HS0.out]
        go_wp2_with fail
        go_ret
        exact ⟨rfl, HK.out⟩
    · obtain ⟨t, ht⟩ : ∃ t : Nat, min keep.toNat nb = t := ⟨_, rfl⟩
      have htn : t ≤ nb := by omega
      have e0 : tornC keep 1 nm tt bs z S.ps.con = Con.app S.ps.con nm (bs.take t) := by
        unfold tornC effF
        rw [if_pos (by omega), if_pos rfl]
        unfold appF
        congr 1
        rw [← ht, hnb]
        by_cases hk : keep.toNat ≤ bs.length
        · rw [Nat.min_eq_left hk]
        · rw [Nat.min_eq_right (by omega), List.take_of_length_le (by omega), List.take_of_length_le (Nat.le_refl _)]
      obtain ⟨pT, hsL, hcT, _⟩ := cy_to HCC.out t htn hn
      have hsL' : ∀ w', (Instr.sliceAt 33 (.slice pb nb cb) none (some (.int .i64 (t : Int))) none).run Tryz.prog w' = .ok (.slice pT t cb) w' := fun w' => by rw [run_sliceAt_slice (P := Tryz.prog) (t := 33) (h := Tryz.underlying33)]; exact hsL w'
      have HBD : Hid (Below W1.heap.size W1 W1.drew) := below_drew W1
      obtain ⟨bt, hbt⟩ : ∃ bt, bs.take t = bt := ⟨_, rfl⟩
      have HCP : Hid (Calls Tryz.prog 32 #[.slice pT t cb] W1.drew fun e w' => ∃ v2, e = .returned v2 ∧ OB W1.drew.heap.size W1.drew bt v2 w') := by
        rw [← hbt]
        exact copy_any (.slice pT t cb) (bs.take t) W1.drew (isBy_below hcT.1 HBD.out) (by rw [List.length_take]; omega)
      have HA1 : Hid (∀ w3 v2, OB W1.drew.heap.size W1.drew bt v2 w3 → Calls Tryz.prog 24 #[.pointer (some ⟨S.d, 0, none⟩), .string nm, v2] w3 fun e w' => e = .returned (.int .i64 0) ∧ TornE w B S (tornC keep 1 nm tt bs z S.ps.con) w' ∧ w'.heap[w.heap.size + 1]? = w3.heap[w.heap.size + 1]?) := fun w3 v2 hO => by
        subst hbt
        have hDd := HD.out.below HBD.out
        have hlt : ∀ k, v2.ownBlock = some k → ¬ Fp S k := fun k hk hf => by
          have h1 := (hO.own.lt k hk).1
          have h2 := hDd.fpLt k hf
          omega
        have hD3 := hDd.below hO.bel
        have hi := hO.by_
        have hbt : ∀ n ∈ bs.take t, n < 256 := fun n hn => hbb n (List.mem_of_mem_take hn)
        have hlen : (bs.take t).length ≤ 1000000000 := by rw [List.length_take]; omega
        have hall : ∀ (p3 : Option Addr) (n3 c3 : Nat), v2 = .slice p3 n3 c3 → n3 = (bs.take t).length → n3 ≤ c3 → (p3 = none → c3 = 0) → Calls Tryz.prog 24 #[.pointer (some ⟨S.d, 0, none⟩), .string nm, v2] w3 fun e w' => e = .returned (.int .i64 0) ∧ TornE w B S (tornC keep 1 nm tt bs z S.ps.con) w' ∧ w'.heap[w.heap.size + 1]? = w3.heap[w.heap.size + 1]? := by
          rintro p3 n3 c3 rfl e3 e4 e5
          refine (append_all w3 hD3 nm hsz.1 p3 n3 c3 (bs.take t) e3 hi hlt e4 e5 hbt (by omega) hA hwr).mono ?_
          rintro e w' ⟨c, S', rfl, a1, a2, a3, a4⟩
          obtain ⟨rfl, a5⟩ := torn_app hain hv a2 (by omega)
          have hf4 : Fr w (Fp S) w' (Fp S') := ((HF.out.trans (Fr.of_below HBD.out)).trans (Fr.of_below hO.bel)).trans a4
          refine ⟨rfl, ⟨S', a1, by rw [a5, e0]; rfl, (congrArg PS.off a5).trans hoff, ?_, a3, hf4⟩, (a4.block _ (Nat.lt_of_lt_of_le (heap_lt HO.out) (Nat.le_trans HBD.out.size hO.bel.size)) HNO.out).2⟩
          have ec : S'.ps.con = Con.app S.ps.con nm (bs.take t) := by rw [a5]; rfl
          rw [ec]
          exact app_ok fin (vd_ok hv).1 _
        rcases hO.own.2 with ⟨e1, e2⟩ | ⟨g, cap, cur, e1, q1, q2, q3, q4, q5, q6⟩
        · exact hall none 0 0 e1 e2.symm (Nat.le_refl _) fun _ => rfl
        · exact hall _ _ _ e1 rfl q3 fun e => by simp at e
      have hk0 : ¬ keep < 0 := by omega
      clear HKEEP HD HCC hv hC hcT e0 HF hop hkp hain hoff hA hwr fin hbb hsz hd1
      have HNB := hide hnb
      have HBT := hide hbt
      clear hnb hbt
      unfold opV
      by_cases h2 : (nb : Int) < keep
      · have et : nb = t := by omega
        subst et
        clear ht
        go_enter Tryz.func21, Tryz.ntmps21
        go_upto_region 1 with fail
        rw [HW0.out, HW1.out]
        try rw [HS0.out]
        go_upto_region 13 with fail
        have q2 : W1.drew.cell? ⟨w.heap.size + 1, 2, none⟩ = some (.string nm) := cell_of_row _ _ _ _ _ _ HO.out
        replace q4 : W1.drew.cell? ⟨w.heap.size + 1, 4, none⟩ = some (.slice pb nb cb) := cell_of_row _ _ _ _ _ _ HO.out
        refine wp_region_held_drew (S := fun w' => w'.cell? ⟨w.heap.size + 1, 2, none⟩ = some (.string nm) ∧ w'.cell? ⟨w.heap.size + 1, 4, none⟩ = some (.slice pb nb cb)) (by kernel_rfl) ⟨q2, q4⟩ (fun hHeld => ?_)
        refine wpAnyH_take (i := 0) (v := ?_) rfl (by kernel_rfl) (by kernel_rfl) (by kernel_rfl) (fun _ _ _ h => h) (Or.inl ⟨by rfl, ?_⟩) hHeld ?_
        rotate_left
        · (intro wq hSw; (try dsimp only at hSw); (try obtain ⟨s0, s1⟩ := hSw); (go_simp <;> with_reducible rfl))
        try simp only [Act.put, List.getElem_toArray, List.getElem_cons_zero, List.getElem_cons_succ, List.setIfInBounds_toArray, List.set_cons_zero, List.set_cons_succ]
        refine wpAnyH_take (i := 1) (v := ?_) rfl (by kernel_rfl) (by kernel_rfl) (by kernel_rfl) (fun _ _ _ h => h) (Or.inl ⟨by rfl, ?_⟩) hHeld ?_
        rotate_left
        · (intro wq hSw; (try dsimp only at hSw); (try obtain ⟨s0, s1⟩ := hSw); (go_simp <;> with_reducible rfl))
        try simp only [Act.put, List.getElem_toArray, List.getElem_cons_zero, List.getElem_cons_succ, List.setIfInBounds_toArray, List.set_cons_zero, List.set_cons_succ]
        refine wpAnyH_take (i := 2) (v := ?_) rfl (by kernel_rfl) (by kernel_rfl) (by kernel_rfl) (fun _ _ _ h => h) (Or.inl ⟨by rfl, ?_⟩) hHeld ?_
        rotate_left
        · (intro wq hSw; (try dsimp only at hSw); (try obtain ⟨s0, s1⟩ := hSw); (go_simp <;> with_reducible rfl))
        try simp only [Act.put, List.getElem_toArray, List.getElem_cons_zero, List.getElem_cons_succ, List.setIfInBounds_toArray, List.set_cons_zero, List.set_cons_succ]
        refine wpAnyH_take (i := 3) (v := ?_) rfl (by kernel_rfl) (by kernel_rfl) (by kernel_rfl) (fun _ _ _ h => h) (Or.inl ⟨by rfl, ?_⟩) hHeld ?_
        rotate_left
        · (intro wq hSw; (try dsimp only at hSw); (try obtain ⟨s0, s1⟩ := hSw); (go_simp <;> with_reducible rfl))
        try simp only [Act.put, List.getElem_toArray, List.getElem_cons_zero, List.getElem_cons_succ, List.setIfInBounds_toArray, List.set_cons_zero, List.set_cons_succ]
        refine wpAnyH_take (i := 4) (v := ?_) rfl (by kernel_rfl) (by kernel_rfl) (by kernel_rfl) (fun _ _ _ h => h) (Or.inl ⟨by rfl, ?_⟩) hHeld ?_
        rotate_left
        · (intro wq hSw; (try dsimp only at hSw); (try obtain ⟨s0, s1⟩ := hSw); (go_simp <;> with_reducible rfl))
        try simp only [Act.put, List.getElem_toArray, List.getElem_cons_zero, List.getElem_cons_succ, List.setIfInBounds_toArray, List.set_cons_zero, List.set_cons_succ]
        refine wpAnyH_take (i := 5) (v := ?_) rfl (by kernel_rfl) (by kernel_rfl) (by kernel_rfl) (fun _ _ _ h => h) (Or.inl ⟨by rfl, ?_⟩) hHeld ?_
        rotate_left
        · (intro wq hSw; (try dsimp only at hSw); (try obtain ⟨s0, s1⟩ := hSw); (go_simp <;> with_reducible rfl))
        try simp only [Act.put, List.getElem_toArray, List.getElem_cons_zero, List.getElem_cons_succ, List.setIfInBounds_toArray, List.set_cons_zero, List.set_cons_succ]
        refine wpAnyH_take (i := 6) (v := ?_) rfl (by kernel_rfl) (by kernel_rfl) (by kernel_rfl) (fun _ _ _ h => h) (Or.inl ⟨by rfl, ?_⟩) hHeld ?_
        rotate_left
        · (intro wq hSw; (try dsimp only at hSw); (try obtain ⟨s0, s1⟩ := hSw); ((go_simp; try simp only [hsL, hsL']) <;> with_reducible rfl))
        try simp only [Act.put, List.getElem_toArray, List.getElem_cons_zero, List.getElem_cons_succ, List.setIfInBounds_toArray, List.set_cons_zero, List.set_cons_succ]
        refine wpAnyH_ready (rs := [7]) (by kernel_rfl) (by simp) ?_
        refine AllReadyH.cons rfl (fun K hK => ?_) AllReadyH.nil
        go_simp
        refine HCP.out.mono ?_
        rintro _ w3 ⟨v2, rfl, hO⟩
        obtain ⟨p2, c2, hv2⟩ := ob_slice hO
        subst hv2
        have HO3 := hide hO
        have hlt : w.heap.size + 1 < W1.drew.heap.size := heap_lt HO.out
        have r2 : w3.cell? ⟨w.heap.size + 1, 2, none⟩ = some (.string nm) := (hO.bel.cell hlt).trans q2
        have r4 : w3.cell? ⟨w.heap.size + 1, 4, none⟩ = some (.slice pb nb cb) := (hO.bel.cell hlt).trans q4
        clear hO HCP
        refine hK.out _ _ ⟨r2, r4⟩ (fun hHeld => ?_)
        clear hK K
        try simp only [Act.put, List.getElem_toArray, List.getElem_cons_zero, List.getElem_cons_succ, List.setIfInBounds_toArray, List.set_cons_zero, List.set_cons_succ]
        refine wpAnyH_ready (rs := [8]) (by kernel_rfl) (by simp) ?_
        refine AllReadyH.cons rfl (fun K hK => ?_) AllReadyH.nil
        go_simp
        refine (HA1.out w3 _ HO3.out).mono ?_
        rintro _ w4 ⟨rfl, hE, hbk⟩
        have HE := hide hE
        have u2 : w4.cell? ⟨w.heap.size + 1, 2, none⟩ = some (.string nm) := (World.cell?_of_block (w := w3) hbk).trans r2
        have u4 : w4.cell? ⟨w.heap.size + 1, 4, none⟩ = some (.slice pb nb cb) := (World.cell?_of_block (w := w3) hbk).trans r4
        clear hE HA1 hbk
        refine hK.out _ _ ⟨u2, u4⟩ (fun hHeld => ?_)
        clear hK K
        try simp only [Act.put, List.getElem_toArray, List.getElem_cons_zero, List.getElem_cons_succ, List.setIfInBounds_toArray, List.set_cons_zero, List.set_cons_succ]
        refine wpAnyH_ready (rs := [9]) (by kernel_rfl) (by simp) ?_
        refine AllReadyH.cons rfl (fun K hK => ?_) AllReadyH.nil
        go_simp
        refine (num10_any _ _).mono ?_
        rintro _ w5 ⟨rfl, hw5⟩
        have hw6 := hw5.symm
        subst hw6
        refine hK.out _ _ ⟨u2, u4⟩ (fun hHeld => ?_)
        clear hK K
        try simp only [Act.put, List.getElem_toArray, List.getElem_cons_zero, List.getElem_cons_succ, List.setIfInBounds_toArray, List.set_cons_zero, List.set_cons_succ]
        refine wpAnyH_take (i := 10) (v := ?_) rfl (by kernel_rfl) (by kernel_rfl) (by kernel_rfl) (fun _ _ _ h => h) (Or.inl ⟨by rfl, ?_⟩) hHeld ?_
        rotate_left
        · (intro wq hSw; (try dsimp only at hSw); (try obtain ⟨s0, s1⟩ := hSw); (go_simp <;> with_reducible rfl))
        try simp only [Act.put, List.getElem_toArray, List.getElem_cons_zero, List.getElem_cons_succ, List.setIfInBounds_toArray, List.set_cons_zero, List.set_cons_succ]
        refine wpAnyH_take (i := 11) (v := ?_) rfl (by kernel_rfl) (by kernel_rfl) (by kernel_rfl) (fun _ _ _ h => h) (Or.inl ⟨by rfl, ?_⟩) hHeld ?_
        rotate_left
        · (intro wq hSw; (try dsimp only at hSw); (try obtain ⟨s0, s1⟩ := hSw); (go_simp <;> with_reducible rfl))
        try simp only [Act.put, List.getElem_toArray, List.getElem_cons_zero, List.getElem_cons_succ, List.setIfInBounds_toArray, List.set_cons_zero, List.set_cons_succ]
        refine wpAnyH_done (by kernel_rfl) ?_ _
        go_wp2_with fail
        go_ret
        exact ⟨rfl, HE.out⟩
      · obtain ⟨l, rfl⟩ : ∃ l : Nat, keep = (l : Int) := ⟨keep.toNat, by omega⟩
        have et : t = l := by omega
        subst et
        clear ht
        go_enter Tryz.func21, Tryz.ntmps21
        go_upto_region 1 with fail
        rw [HW0.out, HW1.out]
        try rw [HS0.out]
        go_upto_region 13 with fail
        have q2 : W1.drew.cell? ⟨w.heap.size + 1, 2, none⟩ = some (.string nm) := cell_of_row _ _ _ _ _ _ HO.out
        replace q4 : W1.drew.cell? ⟨w.heap.size + 1, 4, none⟩ = some (.slice pb nb cb) := cell_of_row _ _ _ _ _ _ HO.out
        refine wp_region_held_drew (S := fun w' => w'.cell? ⟨w.heap.size + 1, 2, none⟩ = some (.string nm) ∧ w'.cell? ⟨w.heap.size + 1, 4, none⟩ = some (.slice pb nb cb)) (by kernel_rfl) ⟨q2, q4⟩ (fun hHeld => ?_)
        refine wpAnyH_take (i := 0) (v := ?_) rfl (by kernel_rfl) (by kernel_rfl) (by kernel_rfl) (fun _ _ _ h => h) (Or.inl ⟨by rfl, ?_⟩) hHeld ?_
        rotate_left
        · (intro wq hSw; (try dsimp only at hSw); (try obtain ⟨s0, s1⟩ := hSw); (go_simp <;> with_reducible rfl))
        try simp only [Act.put, List.getElem_toArray, List.getElem_cons_zero, List.getElem_cons_succ, List.setIfInBounds_toArray, List.set_cons_zero, List.set_cons_succ]
        refine wpAnyH_take (i := 1) (v := ?_) rfl (by kernel_rfl) (by kernel_rfl) (by kernel_rfl) (fun _ _ _ h => h) (Or.inl ⟨by rfl, ?_⟩) hHeld ?_
        rotate_left
        · (intro wq hSw; (try dsimp only at hSw); (try obtain ⟨s0, s1⟩ := hSw); (go_simp <;> with_reducible rfl))
        try simp only [Act.put, List.getElem_toArray, List.getElem_cons_zero, List.getElem_cons_succ, List.setIfInBounds_toArray, List.set_cons_zero, List.set_cons_succ]
        refine wpAnyH_take (i := 2) (v := ?_) rfl (by kernel_rfl) (by kernel_rfl) (by kernel_rfl) (fun _ _ _ h => h) (Or.inl ⟨by rfl, ?_⟩) hHeld ?_
        rotate_left
        · (intro wq hSw; (try dsimp only at hSw); (try obtain ⟨s0, s1⟩ := hSw); (go_simp <;> with_reducible rfl))
        try simp only [Act.put, List.getElem_toArray, List.getElem_cons_zero, List.getElem_cons_succ, List.setIfInBounds_toArray, List.set_cons_zero, List.set_cons_succ]
        refine wpAnyH_take (i := 3) (v := ?_) rfl (by kernel_rfl) (by kernel_rfl) (by kernel_rfl) (fun _ _ _ h => h) (Or.inl ⟨by rfl, ?_⟩) hHeld ?_
        rotate_left
        · (intro wq hSw; (try dsimp only at hSw); (try obtain ⟨s0, s1⟩ := hSw); (go_simp <;> with_reducible rfl))
        try simp only [Act.put, List.getElem_toArray, List.getElem_cons_zero, List.getElem_cons_succ, List.setIfInBounds_toArray, List.set_cons_zero, List.set_cons_succ]
        refine wpAnyH_take (i := 4) (v := ?_) rfl (by kernel_rfl) (by kernel_rfl) (by kernel_rfl) (fun _ _ _ h => h) (Or.inl ⟨by rfl, ?_⟩) hHeld ?_
        rotate_left
        · (intro wq hSw; (try dsimp only at hSw); (try obtain ⟨s0, s1⟩ := hSw); (go_simp <;> with_reducible rfl))
        try simp only [Act.put, List.getElem_toArray, List.getElem_cons_zero, List.getElem_cons_succ, List.setIfInBounds_toArray, List.set_cons_zero, List.set_cons_succ]
        refine wpAnyH_take (i := 5) (v := ?_) rfl (by kernel_rfl) (by kernel_rfl) (by kernel_rfl) (fun _ _ _ h => h) (Or.inl ⟨by rfl, ?_⟩) hHeld ?_
        rotate_left
        · (intro wq hSw; (try dsimp only at hSw); (try obtain ⟨s0, s1⟩ := hSw); (go_simp <;> with_reducible rfl))
        try simp only [Act.put, List.getElem_toArray, List.getElem_cons_zero, List.getElem_cons_succ, List.setIfInBounds_toArray, List.set_cons_zero, List.set_cons_succ]
        refine wpAnyH_take (i := 6) (v := ?_) rfl (by kernel_rfl) (by kernel_rfl) (by kernel_rfl) (fun _ _ _ h => h) (Or.inl ⟨by rfl, ?_⟩) hHeld ?_
        rotate_left
        · (intro wq hSw; (try dsimp only at hSw); (try obtain ⟨s0, s1⟩ := hSw); ((go_simp; try simp only [hsL, hsL']) <;> with_reducible rfl))
        try simp only [Act.put, List.getElem_toArray, List.getElem_cons_zero, List.getElem_cons_succ, List.setIfInBounds_toArray, List.set_cons_zero, List.set_cons_succ]
        refine wpAnyH_ready (rs := [7]) (by kernel_rfl) (by simp) ?_
        refine AllReadyH.cons rfl (fun K hK => ?_) AllReadyH.nil
        go_simp
        refine HCP.out.mono ?_
        rintro _ w3 ⟨v2, rfl, hO⟩
        obtain ⟨p2, c2, hv2⟩ := ob_slice hO
        subst hv2
        have HO3 := hide hO
        have hlt : w.heap.size + 1 < W1.drew.heap.size := heap_lt HO.out
        have r2 : w3.cell? ⟨w.heap.size + 1, 2, none⟩ = some (.string nm) := (hO.bel.cell hlt).trans q2
        have r4 : w3.cell? ⟨w.heap.size + 1, 4, none⟩ = some (.slice pb nb cb) := (hO.bel.cell hlt).trans q4
        clear hO HCP
        refine hK.out _ _ ⟨r2, r4⟩ (fun hHeld => ?_)
        clear hK K
        try simp only [Act.put, List.getElem_toArray, List.getElem_cons_zero, List.getElem_cons_succ, List.setIfInBounds_toArray, List.set_cons_zero, List.set_cons_succ]
        refine wpAnyH_ready (rs := [8]) (by kernel_rfl) (by simp) ?_
        refine AllReadyH.cons rfl (fun K hK => ?_) AllReadyH.nil
        go_simp
        refine (HA1.out w3 _ HO3.out).mono ?_
        rintro _ w4 ⟨rfl, hE, hbk⟩
        have HE := hide hE
        have u2 : w4.cell? ⟨w.heap.size + 1, 2, none⟩ = some (.string nm) := (World.cell?_of_block (w := w3) hbk).trans r2
        have u4 : w4.cell? ⟨w.heap.size + 1, 4, none⟩ = some (.slice pb nb cb) := (World.cell?_of_block (w := w3) hbk).trans r4
        clear hE HA1 hbk
        refine hK.out _ _ ⟨u2, u4⟩ (fun hHeld => ?_)
        clear hK K
        try simp only [Act.put, List.getElem_toArray, List.getElem_cons_zero, List.getElem_cons_succ, List.setIfInBounds_toArray, List.set_cons_zero, List.set_cons_succ]
        refine wpAnyH_ready (rs := [9]) (by kernel_rfl) (by simp) ?_
        refine AllReadyH.cons rfl (fun K hK => ?_) AllReadyH.nil
        go_simp
        refine (num10_any _ _).mono ?_
        rintro _ w5 ⟨rfl, hw5⟩
        have hw6 := hw5.symm
        subst hw6
        refine hK.out _ _ ⟨u2, u4⟩ (fun hHeld => ?_)
        clear hK K
        try simp only [Act.put, List.getElem_toArray, List.getElem_cons_zero, List.getElem_cons_succ, List.setIfInBounds_toArray, List.set_cons_zero, List.set_cons_succ]
        refine wpAnyH_take (i := 10) (v := ?_) rfl (by kernel_rfl) (by kernel_rfl) (by kernel_rfl) (fun _ _ _ h => h) (Or.inl ⟨by rfl, ?_⟩) hHeld ?_
        rotate_left
        · (intro wq hSw; (try dsimp only at hSw); (try obtain ⟨s0, s1⟩ := hSw); (go_simp <;> with_reducible rfl))
        try simp only [Act.put, List.getElem_toArray, List.getElem_cons_zero, List.getElem_cons_succ, List.setIfInBounds_toArray, List.set_cons_zero, List.set_cons_succ]
        refine wpAnyH_take (i := 11) (v := ?_) rfl (by kernel_rfl) (by kernel_rfl) (by kernel_rfl) (fun _ _ _ h => h) (Or.inl ⟨by rfl, ?_⟩) hHeld ?_
        rotate_left
        · (intro wq hSw; (try dsimp only at hSw); (try obtain ⟨s0, s1⟩ := hSw); (go_simp <;> with_reducible rfl))
        try simp only [Act.put, List.getElem_toArray, List.getElem_cons_zero, List.getElem_cons_succ, List.setIfInBounds_toArray, List.set_cons_zero, List.set_cons_succ]
        refine wpAnyH_done (by kernel_rfl) ?_ _
        go_wp2_with fail
        go_ret
        exact ⟨rfl, HE.out⟩
  · have HDO := hide (do_any W1 HD.out dw on nm tt pb nb cb z kp ls (.slice pf nf cf) bs hnb HCC.out.1 hbb hn hsz.1 hsz.2 hA hwr)
    have HNX : Hid (∀ c is (S' : DS), DoR S.ps dw nm tt bs z c is S'.ps → 0 < keep → c = 0 ∧ S'.ps.con = tornC keep dw nm tt bs z S.ps.con ∧ S'.off = false ∧ ∀ y ∈ S'.ps.con, okN y.1) := fun c is S' hR hk => by
      obtain ⟨_, v, h1, h2⟩ := doR_vd (con_nodup h) hop hR
      have e := vd_one hv h1
      subst e
      rcases h2 with ⟨_, a, b⟩ | ⟨a, _⟩
      · have hc : S.ps.code = 0 := if_neg (by show ¬ S.ain = 1; omega)
        rw [wrote_next (p := S.ps) hain] at b
        have e1 : S'.ps.con = effF dw nm tt bs z 9223372036854775807 S.ps.con := by rw [b]; rfl
        refine ⟨a.trans hc, ?_, (congrArg PS.off b).trans hoff, ?_⟩
        · rw [e1]; unfold tornC; rw [if_pos hk, eff_k hd]
        · rw [e1]; exact eff_ok fin (vd_ok hv).1 (vd_ok hv).2 _ _ _
      · exact absurd rfl a
    have q0 : W1.cell? ⟨w.heap.size + 1, 0, none⟩ = some (.int .i64 dw) := cell_of_row _ _ _ _ _ _ HO.out
    have q1 : W1.cell? ⟨w.heap.size + 1, 1, none⟩ = some (.int .i64 on) := cell_of_row _ _ _ _ _ _ HO.out
    have q2 : W1.cell? ⟨w.heap.size + 1, 2, none⟩ = some (.string nm) := cell_of_row _ _ _ _ _ _ HO.out
    have q3 : W1.cell? ⟨w.heap.size + 1, 3, none⟩ = some (.string tt) := cell_of_row _ _ _ _ _ _ HO.out
    have q4 : W1.cell? ⟨w.heap.size + 1, 4, none⟩ = some (.slice pb nb cb) := cell_of_row _ _ _ _ _ _ HO.out
    have q5 : W1.cell? ⟨w.heap.size + 1, 5, none⟩ = some (.int .i64 z) := cell_of_row _ _ _ _ _ _ HO.out
    have q6 : W1.cell? ⟨w.heap.size + 1, 6, none⟩ = some (.int .i64 kp) := cell_of_row _ _ _ _ _ _ HO.out
    have q7 : W1.cell? ⟨w.heap.size + 1, 7, none⟩ = some (.int .i64 ls) := cell_of_row _ _ _ _ _ _ HO.out
    have q8 : W1.cell? ⟨w.heap.size + 1, 8, none⟩ = some (.slice pf nf cf) := cell_of_row _ _ _ _ _ _ HO.out
    clear h hb0 hb1 hr0 hr1 hP hv hC hnb hop hain hoff hA hwr fin hbb hsz hkp
    unfold opV
    by_cases h1 : keep < 0
    · have e0 : tornC keep dw nm tt bs z S.ps.con = S.ps.con := if_neg (by omega)
      have HK := hide (HKEEP.out _ e0)
      clear HKEEP HDO HNX e0
      go_enter Tryz.func21, Tryz.ntmps21
      go_upto_region 1 with fail
      rw [HW0.out, HW1.out]
      try rw [HS0.out]
      go_wp2_with fail
      go_ret
      exact ⟨rfl, HK.out⟩
    · by_cases h2 : keep = 0
      · subst h2
        have e0 : tornC 0 dw nm tt bs z S.ps.con = S.ps.con := if_neg (by omega)
        have HK := hide (HKEEP.out _ e0)
        clear HKEEP HDO HNX e0
        go_enter Tryz.func21, Tryz.ntmps21
        go_upto_region 1 with fail
        rw [HW0.out, HW1.out]
        try rw [HS0.out]
        go_wp2_with fail
        go_ret
        exact ⟨rfl, HK.out⟩
      · have hk : 0 < keep := by omega
        clear HKEEP
        go_enter Tryz.func21, Tryz.ntmps21
        go_upto_region 1 with fail
        rw [HW0.out, HW1.out]
        try rw [HS0.out]
        go_wp2_with (first
          | (go_at_call 7; refine (num10_any _ _).mono ?_; rintro e wn ⟨rfl, hwn⟩; have hwn2 := hwn.symm; subst hwn2)
          | (go_at_call 12; refine HDO.out.mono ?_; rintro e w6 ⟨c, is, S', rfl, e1, e2, e3, e4⟩; obtain ⟨rfl, n1, n2, n3⟩ := HNX.out c is S' e2 hk; have HK : Hid (TornE w B S (tornC keep dw nm tt bs z S.ps.con) w6) := ⟨S', e1, n1, n2, n3, e3, HF.out.trans e4⟩; clear e1 e2 e3 e4 n1 n2 n3 HDO HNX))
        go_ret
        exact ⟨rfl, HK.out⟩

end Go.Proofs.YtlandfghodfjdaaGreat

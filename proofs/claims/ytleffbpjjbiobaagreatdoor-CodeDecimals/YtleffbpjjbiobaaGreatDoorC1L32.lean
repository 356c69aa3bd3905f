/- Values that are taken one by one, whatever the coding (32 bits): what is known of them where the text begins with a column's bits. -/
import Derived.Test.YtleffbpjjbiobaaGreatDoorP1J32
import Derived.Test.YtleffbpjjbiobaaGreatDoorC1S32
import Derived.Test.YtleffbpjjbiobaaGreatDoorP1B32
/- The contract of a column's take (32 bits). -/
namespace Go.Proofs.YtleffbpjjbiobaaGreatDoor
open Go.RowKit
open M
set_option linter.unusedVariables false
set_option linter.unusedSimpArgs false

set_option maxRecDepth 100000 in
set_option maxHeartbeats 4000000 in
theorem take32_any (b c : Nat) (s : ByteArray) (a : Nat) (e0 : Int) (p L N : Nat) (w : World) (h : Rd w b 0 s a e0) (hC : Col32 w c p L N) (hbc : c ≠ b) (hw : L + N ≤ 32) (hp : p < 4294967296)
    (hT : Tab64 w) (hTb : 1 ≠ b) (hTc : 1 ≠ c) : Calls Tryz.prog 118 #[.pointer (some ⟨c, 0, none⟩), .pointer (some ⟨b, 0, none⟩)] w (TakeEnd32 w b c s a e0 p L N) := by
  have ha := hide h.le
  have HC := hide hC
  have HT := hide hT
  have HL := hide hw
  have HP := hide hp
  clear hC hT hw hp
  go_enter Tryz.func118, Tryz.ntmps118
  go_wp2_with fail
  refine (tk_bit b 0 s a e0 w h).mono ?_
  rintro e w1 ⟨v1, a1, e1, rfl, T1, hv1⟩
  cases v1 with
  | false =>
    go_wp2_with fail
    go_ret
    refine ⟨true, 0, a1, e1, rfl, T1.rd, Two32.ofB T1.only, by omega, fun _ => ⟨?_, fun he => T1.sound he⟩, fun h0 y r hy hr => ?_⟩
    · rw [Nat.xor_zero]; exact HC.out.other T1.only hbc
    · subst h0
      obtain ⟨h1, h2⟩ := zero_done32 T1 ha.out hr
      exact ⟨rfl, h2.symm, h1⟩
  | true =>
    obtain rfl : e1 = 0 := hv1 rfl
    obtain rfl : e0 = 0 := (T1.sound rfl).1
    clear hv1 h
    have HC1 := hide (HC.out.other T1.only hbc)
    have c1 : w1.cell? ⟨c, 1, none⟩ = some (.int .i64 (L : Int)) := HC1.out.lead
    have c2 : w1.cell? ⟨c, 2, none⟩ = some (.int .i64 (N : Int)) := HC1.out.len
    have HT1 := hide T1
    clear T1
    have hb1 : Hid (b < w1.heap.size) := block_lt_of_cell HT1.out.rd.text
    have HR1 : Hid (Rd w1.drew b 0 s a1 0) := HT1.out.rd.below (w' := w1.drew) (B := w1.heap.size) ⟨rfl, rfl, rfl, Nat.le_refl _, fun _ _ => rfl⟩ hb1.out
    have HR2 : Hid (Rd (w1.drew.alloc (.cells #[.int .i64 0, .int .i64 0] 162)) b 0 s a1 0) := HR1.out.below (B := w1.drew.heap.size) ((Below.refl _ _).alloc (Nat.le_refl _) _) hb1.out
    go_upto_region 3 with fail
    go_cut [5, 6] from 13 (fun t5 t6 wc => ∃ (H : Nat) (v2 : Bool) (a2 : Nat) (e2 : Int), t5 = .pointer (some ⟨H, 0, none⟩) ∧ t6 = .bool v2 ∧ Hid (Tk w1 wc b 0 s a1 0 a2 e2 [v2] ∧ (v2 = true → e2 = 0) ∧ w1.heap.size ≤ H ∧ H < wc.heap.size ∧ wc.cell? ⟨H, 0, none⟩ = some (.int .i64 (L : Int)) ∧ wc.cell? ⟨H, 1, none⟩ = some (.int .i64 (N : Int)) ∧ (∀ i, wc.frozen? ⟨H, i, none⟩ = false)))
    case first =>
      refine wp_region_held_drew (S := fun w' => w'.cell? ⟨c, 1, none⟩ = some (.int .i64 (L : Int)) ∧ w'.cell? ⟨c, 2, none⟩ = some (.int .i64 (N : Int))) (by kernel_rfl) ⟨c1, c2⟩ (fun hHeld => ?_)
      refine wpAnyH_take (i := 0) (v := ?_) rfl (by kernel_rfl) (by kernel_rfl) (by kernel_rfl) (fun _ _ _ h => h) (Or.inl ⟨by rfl, ?_⟩) hHeld ?_
      rotate_left
      · (intro wq hSw; (try dsimp only at hSw); (try obtain ⟨s0, s1⟩ := hSw); (go_simp <;> with_reducible rfl))
      try simp only [Act.put, List.getElem_toArray, List.getElem_cons_zero, List.getElem_cons_succ, List.setIfInBounds_toArray, List.set_cons_zero, List.set_cons_succ]
      refine wpAnyH_take (i := 1) (v := ?_) rfl (by kernel_rfl) (by kernel_rfl) (by kernel_rfl) (fun _ _ _ h => h) (Or.inl ⟨by rfl, ?_⟩) hHeld ?_
      rotate_left
      · (intro wq hSw; (try dsimp only at hSw); (try obtain ⟨s0, s1⟩ := hSw); (go_simp <;> with_reducible rfl))
      try simp only [Act.put, List.getElem_toArray, List.getElem_cons_zero, List.getElem_cons_succ, List.setIfInBounds_toArray, List.set_cons_zero, List.set_cons_succ]
      refine wpAnyH_take (i := 2) (v := ?_) rfl (by kernel_rfl) (by kernel_rfl) (by kernel_rfl) (fun _ _ _ h => h) (Or.inl ⟨by rfl, ?_⟩) hHeld ?_
      rotate_left
      · (intro wq hSw; (try dsimp only at hSw); (try obtain ⟨s0, s1⟩ := hSw); (go_simp <;> with_reducible rfl))
      try simp only [Act.put, List.getElem_toArray, List.getElem_cons_zero, List.getElem_cons_succ, List.setIfInBounds_toArray, List.set_cons_zero, List.set_cons_succ]
      refine wpAnyH_take (i := 3) (v := ?_) rfl (by kernel_rfl) (by kernel_rfl) (by kernel_rfl) (fun _ _ _ h => h) (Or.inl ⟨by rfl, ?_⟩) hHeld ?_
      rotate_left
      · (intro wq hSw; (try dsimp only at hSw); (try obtain ⟨s0, s1⟩ := hSw); (go_simp <;> with_reducible rfl))
      try simp only [Act.put, List.getElem_toArray, List.getElem_cons_zero, List.getElem_cons_succ, List.setIfInBounds_toArray, List.set_cons_zero, List.set_cons_succ]
      refine wpAnyH_take (i := 4) (v := ?_) rfl (by kernel_rfl) (by kernel_rfl) (by kernel_rfl) (fun _ _ _ h => h) (Or.inl ⟨by rfl, ?_⟩) hHeld ?_
      rotate_left
      · (intro wq hSw; (try dsimp only at hSw); (try obtain ⟨s0, s1⟩ := hSw); (go_simp <;> with_reducible rfl))
      try simp only [Act.put, List.getElem_toArray, List.getElem_cons_zero, List.getElem_cons_succ, List.setIfInBounds_toArray, List.set_cons_zero, List.set_cons_succ]
      refine wpAnyH_ready (rs := [5, 6]) (by kernel_rfl) (by simp) ?_
      refine AllReadyH.cons rfl (fun K hK => ?_) (AllReadyH.cons rfl (fun K hK => ?_) AllReadyH.nil)
      · go_simp
        refine (tk_bit b 0 s a1 0 w1.drew HR1.out).mono ?_
        rintro e w2 ⟨v2, a2, e2, rfl, T2, hv2⟩
        have hce : c < w1.heap.size := HC1.out.lt
        have e1 : w2.cell? ⟨c, 1, none⟩ = some (.int .i64 (L : Int)) := by rw [World.cell?_of_block (T2.only.block c hce hbc)]; exact c1
        have e2' : w2.cell? ⟨c, 2, none⟩ = some (.int .i64 (N : Int)) := by rw [World.cell?_of_block (T2.only.block c hce hbc)]; exact c2
        go_wp2_with fail
        refine hK.out _ _ ⟨e1, e2'⟩ (fun hHeld => ?_)
        clear hK K
        try simp only [Act.put, List.getElem_toArray, List.getElem_cons_zero, List.getElem_cons_succ, List.setIfInBounds_toArray, List.set_cons_zero, List.set_cons_succ]
        refine wpAnyH_ready (rs := [6]) (by kernel_rfl) (by simp) ?_
        refine AllReadyH.cons rfl (fun K hK => ?_) AllReadyH.nil
        go_simp
        obtain ⟨H, hH⟩ : ∃ H, w2.heap.size = H := ⟨_, rfl⟩
        have hN := heap_alloc_new w2 (.cells #[.int .i64 0, .int .i64 0] 162)
        have B3 : Below w2.heap.size w2 (w2.alloc (.cells #[.int .i64 0, .int .i64 0] 162)) := (Below.refl _ _).alloc (Nat.le_refl _) _
        have hcs : c < w2.heap.size := Nat.lt_of_lt_of_le hce T2.only.size
        have x1 : (w2.alloc (.cells #[.int .i64 0, .int .i64 0] 162)).cell? ⟨c, 1, none⟩ = some (.int .i64 (L : Int)) := by rw [B3.cell (p := ⟨c, 1, none⟩) hcs]; exact e1
        have x2 : (w2.alloc (.cells #[.int .i64 0, .int .i64 0] 162)).cell? ⟨c, 2, none⟩ = some (.int .i64 (N : Int)) := by rw [B3.cell (p := ⟨c, 2, none⟩) hcs]; exact e2'
        have g0 : (w2.alloc (.cells #[.int .i64 0, .int .i64 0] 162)).cell? ⟨w2.heap.size, 0, none⟩ = some (.int .i64 0) := by rw [cell_of_row _ _ _ _ _ _ hN]; rfl
        have g1 : (w2.alloc (.cells #[.int .i64 0, .int .i64 0] 162)).cell? ⟨w2.heap.size, 1, none⟩ = some (.int .i64 0) := by rw [cell_of_row _ _ _ _ _ _ hN]; rfl
        have HTW : Hid (Tk w1 (w2.alloc (.cells #[.int .i64 0, .int .i64 0] 162)) b 0 s a1 0 a2 e2 [v2] ∧ w1.heap.size ≤ w2.heap.size ∧ w2.heap.size < (w2.alloc (.cells #[.int .i64 0, .int .i64 0] 162)).heap.size ∧ ∀ i, (w2.alloc (.cells #[.int .i64 0, .int .i64 0] 162)).frozen? ⟨w2.heap.size, i, none⟩ = false) :=
          ⟨⟨T2.rd.below B3 (Nat.lt_of_lt_of_le hb1.out T2.only.size), (((Only.refl b 0 3 w1).drew).trans T2.only).alloc (Nat.lt_of_lt_of_le hb1.out T2.only.size) _, T2.sound, T2.full⟩, T2.only.size, by simp, fun i => frozen_of_row _ _ _ _ _ hN⟩
        rw [hH] at g0 g1 HTW ⊢
        clear hN B3 T2
        generalize w2.alloc (.cells #[.int .i64 0, .int .i64 0] 162) = w3 at *
        have f0 := HTW.out.2.2.2 0
        have f1 := HTW.out.2.2.2 1
        refine hK.out _ _ ⟨x1, x2⟩ (fun hHeld => ?_)
        clear hK K hH
        have hH2 := HTW.out.2.1
        try simp only [Act.put, List.getElem_toArray, List.getElem_cons_zero, List.getElem_cons_succ, List.setIfInBounds_toArray, List.set_cons_zero, List.set_cons_succ]
        have hHb : H ≠ b := by have := hb1.out; omega
        have hHc : H ≠ c := by have := HC1.out.lt; omega
        have HPW := hide (put_win32 (v := .int .i64 (L : Int)) (v' := .int .i64 (N : Int)) HTW.out.1 HTW.out.2.1 hHb HTW.out.2.2.1 g0 g1 HTW.out.2.2.2)
        have k1 : ((w3.setCell ⟨H, 0, none⟩ (.int .i64 (L : Int))).setCell ⟨H, 1, none⟩ (.int .i64 (N : Int))).cell? ⟨c, 1, none⟩ = some (.int .i64 (L : Int)) := by rw [cell_setOther32 _ _ _ _ _ _ hHc, cell_setOther32 _ _ _ _ _ _ hHc]; exact x1
        have k2 : ((w3.setCell ⟨H, 0, none⟩ (.int .i64 (L : Int))).setCell ⟨H, 1, none⟩ (.int .i64 (N : Int))).cell? ⟨c, 2, none⟩ = some (.int .i64 (N : Int)) := by rw [cell_setOther32 _ _ _ _ _ _ hHc, cell_setOther32 _ _ _ _ _ _ hHc]; exact x2
        refine wpAnyH_ready (rs := [7]) (by kernel_rfl) (by simp) ?_
        refine AllReadyH.cons rfl (fun K hK => ?_) AllReadyH.nil
        go_simp
        refine hK.out _ _ ⟨k1, k2⟩ (fun hHeld => ?_)
        clear hK K
        try simp only [Act.put, List.getElem_toArray, List.getElem_cons_zero, List.getElem_cons_succ, List.setIfInBounds_toArray, List.set_cons_zero, List.set_cons_succ]
        refine wpAnyH_take (i := 8) (v := ?_) rfl (by kernel_rfl) (by kernel_rfl) (by kernel_rfl) (fun _ _ _ h => h) (Or.inl ⟨by rfl, ?_⟩) hHeld ?_
        rotate_left
        · (intro wq hSw; (try dsimp only at hSw); (try obtain ⟨s0, s1⟩ := hSw); (go_simp <;> with_reducible rfl))
        try simp only [Act.put, List.getElem_toArray, List.getElem_cons_zero, List.getElem_cons_succ, List.setIfInBounds_toArray, List.set_cons_zero, List.set_cons_succ]
        refine wpAnyH_done (by kernel_rfl) ?_ _
        go_wp2_with fail
        go_meet
        case rel => exact ⟨H, v2, a2, e2, rfl, rfl, HPW.out.1, hv2, HTW.out.2.1, HPW.out.2⟩
      · go_simp
        obtain ⟨H, hH⟩ : ∃ H, w1.heap.size = H := ⟨_, rfl⟩
        have hN : (w1.alloc (.cells #[.int .i64 0, .int .i64 0] 162)).drew.heap[w1.heap.size]? = some (.cells #[.int .i64 0, .int .i64 0] 162 (0, 0)) := heap_alloc_new w1 (.cells #[.int .i64 0, .int .i64 0] 162)
        have B3 : Below w1.heap.size w1 (w1.alloc (.cells #[.int .i64 0, .int .i64 0] 162)).drew := ((Below.refl _ _).alloc (Nat.le_refl _) _).drew
        have hcs : c < w1.heap.size := HC1.out.lt
        have y1 : (w1.alloc (.cells #[.int .i64 0, .int .i64 0] 162)).drew.cell? ⟨c, 1, none⟩ = some (.int .i64 (L : Int)) := by rw [B3.cell (p := ⟨c, 1, none⟩) hcs]; exact c1
        have y2 : (w1.alloc (.cells #[.int .i64 0, .int .i64 0] 162)).drew.cell? ⟨c, 2, none⟩ = some (.int .i64 (N : Int)) := by rw [B3.cell (p := ⟨c, 2, none⟩) hcs]; exact c2
        have R3 : Rd (w1.alloc (.cells #[.int .i64 0, .int .i64 0] 162)).drew b 0 s a1 0 := HT1.out.rd.below B3 hb1.out
        have O3 : Only b 0 3 w1 (w1.alloc (.cells #[.int .i64 0, .int .i64 0] 162)).drew := ((Only.refl b 0 3 w1).alloc hb1.out _).drew
        have hs3 : w1.heap.size < (w1.alloc (.cells #[.int .i64 0, .int .i64 0] 162)).drew.heap.size := size_lt_of_row hN
        rw [hH] at hN hs3 ⊢
        generalize (w1.alloc (.cells #[.int .i64 0, .int .i64 0] 162)).drew = wa at *
        refine hK.out _ _ ⟨y1, y2⟩ (fun hHeld => ?_)
        clear hK K
        try simp only [Act.put, List.getElem_toArray, List.getElem_cons_zero, List.getElem_cons_succ, List.setIfInBounds_toArray, List.set_cons_zero, List.set_cons_succ]
        refine wpAnyH_ready (rs := [5]) (by kernel_rfl) (by simp) ?_
        refine AllReadyH.cons rfl (fun K hK => ?_) AllReadyH.nil
        go_simp
        refine (tk_bit b 0 s a1 0 wa R3).mono ?_
        rintro e w3 ⟨v2, a2, e2, rfl, T2, hv2⟩
        have hca : c < wa.heap.size := Nat.lt_of_lt_of_le hcs O3.size
        have hHb0 : H ≠ b := by have := hb1.out; omega
        have x1 : w3.cell? ⟨c, 1, none⟩ = some (.int .i64 (L : Int)) := by rw [World.cell?_of_block (T2.only.block c hca hbc)]; exact y1
        have x2 : w3.cell? ⟨c, 2, none⟩ = some (.int .i64 (N : Int)) := by rw [World.cell?_of_block (T2.only.block c hca hbc)]; exact y2
        have eb := T2.only.block H hs3 hHb0
        have g0 : w3.cell? ⟨H, 0, none⟩ = some (.int .i64 0) := by rw [World.cell?_of_block eb, cell_of_row _ _ _ _ _ _ hN]; rfl
        have g1 : w3.cell? ⟨H, 1, none⟩ = some (.int .i64 0) := by rw [World.cell?_of_block eb, cell_of_row _ _ _ _ _ _ hN]; rfl
        have HTW : Hid (Tk w1 w3 b 0 s a1 0 a2 e2 [v2] ∧ w1.heap.size ≤ H ∧ H < w3.heap.size ∧ ∀ i, w3.frozen? ⟨H, i, none⟩ = false) :=
          ⟨⟨T2.rd, O3.trans T2.only, T2.sound, T2.full⟩, Nat.le_of_eq hH, Nat.lt_of_lt_of_le hs3 T2.only.size, fun i => by rw [World.frozen?_of_block (w := wa) (w' := w3) (a := ⟨H, i, none⟩) eb]; exact frozen_of_row _ _ _ _ _ hN⟩
        have f0 := HTW.out.2.2.2 0
        have f1 := HTW.out.2.2.2 1
        clear T2 hN eb R3 O3 B3
        go_wp2_with fail
        refine hK.out _ _ ⟨x1, x2⟩ (fun hHeld => ?_)
        clear hK K hs3 hHb0 hH
        have hH2 := HTW.out.2.1
        try simp only [Act.put, List.getElem_toArray, List.getElem_cons_zero, List.getElem_cons_succ, List.setIfInBounds_toArray, List.set_cons_zero, List.set_cons_succ]
        have hHb : H ≠ b := by have := hb1.out; omega
        have hHc : H ≠ c := by have := HC1.out.lt; omega
        have HPW := hide (put_win32 (v := .int .i64 (L : Int)) (v' := .int .i64 (N : Int)) HTW.out.1 HTW.out.2.1 hHb HTW.out.2.2.1 g0 g1 HTW.out.2.2.2)
        have k1 : ((w3.setCell ⟨H, 0, none⟩ (.int .i64 (L : Int))).setCell ⟨H, 1, none⟩ (.int .i64 (N : Int))).cell? ⟨c, 1, none⟩ = some (.int .i64 (L : Int)) := by rw [cell_setOther32 _ _ _ _ _ _ hHc, cell_setOther32 _ _ _ _ _ _ hHc]; exact x1
        have k2 : ((w3.setCell ⟨H, 0, none⟩ (.int .i64 (L : Int))).setCell ⟨H, 1, none⟩ (.int .i64 (N : Int))).cell? ⟨c, 2, none⟩ = some (.int .i64 (N : Int)) := by rw [cell_setOther32 _ _ _ _ _ _ hHc, cell_setOther32 _ _ _ _ _ _ hHc]; exact x2
        refine wpAnyH_ready (rs := [7]) (by kernel_rfl) (by simp) ?_
        refine AllReadyH.cons rfl (fun K hK => ?_) AllReadyH.nil
        go_simp
        refine hK.out _ _ ⟨k1, k2⟩ (fun hHeld => ?_)
        clear hK K
        try simp only [Act.put, List.getElem_toArray, List.getElem_cons_zero, List.getElem_cons_succ, List.setIfInBounds_toArray, List.set_cons_zero, List.set_cons_succ]
        refine wpAnyH_take (i := 8) (v := ?_) rfl (by kernel_rfl) (by kernel_rfl) (by kernel_rfl) (fun _ _ _ h => h) (Or.inl ⟨by rfl, ?_⟩) hHeld ?_
        rotate_left
        · (intro wq hSw; (try dsimp only at hSw); (try obtain ⟨s0, s1⟩ := hSw); (go_simp <;> with_reducible rfl))
        try simp only [Act.put, List.getElem_toArray, List.getElem_cons_zero, List.getElem_cons_succ, List.setIfInBounds_toArray, List.set_cons_zero, List.set_cons_succ]
        refine wpAnyH_done (by kernel_rfl) ?_ _
        go_wp2_with fail
        go_meet
        case rel => exact ⟨H, v2, a2, e2, rfl, rfl, HPW.out.1, hv2, HTW.out.2.1, HPW.out.2⟩
    case rest =>
      obtain ⟨H, v2, a2, e2, rfl, rfl, HI⟩ := hcut
      have hcH : c < w1.heap.size := HC1.out.lt
      have HH : Hid (H < wc.heap.size ∧ H ≠ b ∧ H ≠ c) := ⟨HI.out.2.2.2.1, by have := HI.out.2.2.1; have := hb1.out; omega, by have := HI.out.2.2.1; omega⟩
      have T12 := HT1.out.trans ha.out HI.out.1
      have d0 : wc.cell? ⟨H, 0, none⟩ = some (.int .i64 (L : Int)) := HI.out.2.2.2.2.1
      have d1 : wc.cell? ⟨H, 1, none⟩ = some (.int .i64 (N : Int)) := HI.out.2.2.2.2.2.1
      have HFZ := hide HI.out.2.2.2.2.2.2
      have HV2 := hide HI.out.2.1
      have HR0 : Hid (∃ r, (rb s).drop a = true :: r) := ⟨_, take_eq_drop' _ _ _ _ (HT1.out.sound rfl).2⟩
      have HHw : Hid (w.heap.size ≤ H) := Nat.le_trans HT1.out.only.size HI.out.2.2.1
      clear HI hcH c1 c2 HR1 HR2 HC1 HT1 hb1
      cases v2 with
      | false =>
        have HTv : Hid (Tk w wc b 0 s a 0 a2 e2 ([true] ++ [false])) := T12
        have HT12 := hide T12
        clear T12
        by_cases hN0 : N = 0
        · subst hN0
          go_wp2_with fail
          refine (stands32_any L 0 wc HL.out).mono ?_
          rintro e w4 ⟨rfl, B4⟩
          have HB4 := hide B4
          clear B4
          go_wp2_with fail
          go_ret
          have T4 := HTv.out.more32 HB4.out
          refine ⟨false, 0, a2, e2, rfl, T4.rd, Two32.ofB T4.only, by omega, fun h => (by cases h), fun _ y r hy hr => ?_⟩
          exfalso
          obtain ⟨r1, hr1⟩ := HR0.out
          obtain ⟨h1, h2, h3⟩ := second_done32 hr1 HT12.out ha.out hr
          have hs : sut 32 5 L 0 y := Classical.not_not.1 (fun hn => by have := h3.2 hn; cases this)
          exact absurd hs.1 (by omega)
        have HWn : Hid (L + N ≤ 32 ∧ 0 < N) := ⟨HL.out, by omega⟩
        have HK : Hid (∀ y r, y < 4294967296 → (rb s).drop a = xb 32 5 L N y ++ r → y ≠ 0 ∧ sut 32 5 L N y ∧ ∀ (v a5 : Nat) (e5 : Int) (w6 : World), v < 2 ^ N → Tk w w6 b 0 s a 0 a5 e5 ([true] ++ [false] ++ bitsOf v N) → e5 = 0 ∧ v * 2 ^ (32 - L - N) = y) := fun y r hy hr => by
          obtain ⟨r1, hr1⟩ := HR0.out
          obtain ⟨h1, h2, h3⟩ := second_done32 hr1 HT12.out ha.out hr
          have hs : sut 32 5 L N y := Classical.not_not.1 (fun hn => by have := h3.2 hn; cases this)
          exact ⟨h2, hs, fun v a5 e5 w6 hv T => old_done32 T ha.out hy HL.out hv h2 hs hr⟩
        obtain ⟨wv, hwv⟩ : ∃ wv, wv = wc := ⟨_, rfl⟩
        obtain ⟨aq, haq⟩ : ∃ aq, aq = a2 := ⟨_, rfl⟩
        obtain ⟨eq, heq⟩ : ∃ eq, eq = e2 := ⟨_, rfl⟩
        rw [← hwv, ← haq, ← heq] at HTv
        rw [← hwv] at d0 d1 HH ⊢
        clear hwv
        obtain ⟨hHs, hHb, hHc⟩ : H < wv.heap.size ∧ H ≠ b ∧ H ≠ c := HH.out
        have HSt : Hid (∀ w, Calls Tryz.prog 155 #[.agg #[.int .i64 (L : Int), .int .i64 (N : Int)]] w fun e w' => e = .returned (.bool true) ∧ Below w.heap.size w w') := fun w => by
          have := stands32_any L N w HWn.out.1
          rw [show decide (0 < N) = true from decide_eq_true HWn.out.2] at this
          exact this
        go_wp2_with fail
        refine (HSt.out _).mono ?_
        rintro e w4 ⟨rfl, B4⟩
        have T4 : Tk w w4 b 0 s a 0 aq eq ([true] ++ [false]) := HTv.out.more32 B4
        have d0 : w4.cell? ⟨H, 0, none⟩ = some (.int .i64 (L : Int)) := by rw [B4.cell (p := ⟨H, 0, none⟩) hHs]; exact d0
        have d1 : w4.cell? ⟨H, 1, none⟩ = some (.int .i64 (N : Int)) := by rw [B4.cell (p := ⟨H, 1, none⟩) hHs]; exact d1
        have hHs : H < w4.heap.size := Nat.lt_of_lt_of_le hHs B4.size
        have HT4 := hide T4
        clear B4 T4 HTv HSt
        go_wp2_with fail
        obtain ⟨sb, hsb⟩ : ∃ sb, bh32 L N = sb := ⟨_, rfl⟩
        have sbW : sb ≤ 32 := by rw [← hsb]; unfold bh32; omega
        have HBH : Hid (∀ w, Calls Tryz.prog 156 #[.agg #[.int .i64 (L : Int), .int .i64 (N : Int)]] w fun e w' => e = .returned (.int .i64 (sb : Int)) ∧ Below w.heap.size w w') := fun w => by rw [← hsb]; exact behindN32_any L N w HWn.out.1
        have HSB : Hid (sb = 32 - L - N) := by rw [← hsb]; rfl
        have hN : N ≤ 64 := by have := HWn.out.1; omega
        clear hsb
        have HR4 : Hid (Rd w4.drew b 0 s aq eq) := HT4.out.rd.below (w' := w4.drew) (B := w4.heap.size) ⟨rfl, rfl, rfl, Nat.le_refl _, fun _ _ => rfl⟩ (block_lt_of_cell HT4.out.rd.text)
        go_region_held3 (fun w' => w'.cell? ⟨H, 0, none⟩ = some (.int .i64 (L : Int)) ∧ w'.cell? ⟨H, 1, none⟩ = some (.int .i64 (N : Int))) (first | exact ⟨k0, k1⟩ | exact ⟨d0, d1⟩)
          (first | (go_at_call 156; go_must (refine (HBH.out _).mono ?_); rintro _ w6 ⟨rfl, B6⟩; (have k0 : w6.cell? ⟨H, 0, none⟩ = some (.int .i64 (L : Int)) := by rw [B6.cell (p := ⟨H, 0, none⟩) hH5.out]; exact k0); (have k1 : w6.cell? ⟨H, 1, none⟩ = some (.int .i64 (N : Int)) := by rw [B6.cell (p := ⟨H, 1, none⟩) hH5.out]; exact k1)) | (go_at_call 69; go_must (refine (tk_bits b 0 s aq N eq _ HR4.out hN).mono ?_); rintro _ w5 ⟨v, a5, e5, rfl, hv, T5⟩; (have k0 : w5.cell? ⟨H, 0, none⟩ = some (.int .i64 (L : Int)) := by rw [World.cell?_of_block (T5.only.block H hHs hHb)]; exact d0); (have k1 : w5.cell? ⟨H, 1, none⟩ = some (.int .i64 (N : Int)) := by rw [World.cell?_of_block (T5.only.block H hHs hHb)]; exact d1); (have hH5 : Hid (H < w5.heap.size) := Nat.lt_of_lt_of_le hHs T5.only.size); (have HV := hide hv); (clear hv); (have v1 : IntKind.u32.wrap (v : Int) = (v : Int) := wrap_val32 HV.out (by have := HWn.out.1; omega)); (obtain ⟨x, hx⟩ : ∃ x : Nat, v * 2 ^ sb = x := ⟨_, rfl⟩); (have hxx : (v : Int) * 2 ^ sb = (x : Int) := by rw [← hx]; simp); (have hxM : x < 4294967296 := by rw [← hx, HSB.out]; exact (old_back32 L N v HWn.out.1 HV.out).1); (have v2 : IntKind.u32.wrap (x : Int) = (x : Int) := wrap_nat32 hxM); (have HXM := hide hxM); (have HX := hide hx); clear hx hxM))
        have HT6 : Hid (Tk w w6 b 0 s a 0 a5 e5 ([true] ++ [false] ++ bitsOf v N)) := ((HT4.out.more32 (w2 := w4.drew) ⟨rfl, rfl, rfl, Nat.le_refl _, fun _ _ => rfl⟩).trans ha.out T5).more32 B6
        have hH6 : H < w6.heap.size := Nat.lt_of_lt_of_le hH5.out B6.size
        have HC6 : Hid (Col32 w6 c p L N) := HC.out.other HT6.out.only hbc
        have HB6 : Hid (Tab64 w6) := (Two32.ofB (c := c) HT6.out.only).tab HT.out hTb hTc
        clear T5 B6 HT4 HR4 HBH hH5 d0 d1
        by_cases hx0 : x = 0
        · subst hx0
          go_wp2_with fail
          go_ret
          refine ⟨false, 0, a5, e5, rfl, HT6.out.rd, Two32.ofB HT6.out.only, by omega, fun h => (by cases h), fun _ y r hy hr => ?_⟩
          exfalso
          obtain ⟨q1, q2, q3⟩ := HK.out y r hy hr
          have q4 := q3 v a5 e5 w6 HV.out HT6.out
          have q5 := HX.out
          rw [HSB.out] at q5
          exact q1 (q4.2.symm.trans q5)
        have x2 : ((x : Int) == 0) = false := by simp; omega
        have HX0 := hide hx0
        clear hx0
        go_wp2_with fail
        refine (pick32_any c p L N x w6 HC6.out HL.out HXM.out HX0.out HB6.out).mono ?_
        rintro e w7 ⟨l', n', own', rfl, B7, hP⟩
        have HPk := hide hP
        clear hP
        have hN8 := heap_alloc_new w7 (.cells #[.int .i64 (l' : Int), .int .i64 (n' : Int)] 162)
        have B8 : Below w6.heap.size w6 (w7.alloc (.cells #[.int .i64 (l' : Int), .int .i64 (n' : Int)] 162)) := B7.alloc B7.size _
        have HT8 : Hid (Tk w (w7.alloc (.cells #[.int .i64 (l' : Int), .int .i64 (n' : Int)] 162)) b 0 s a 0 a5 e5 ([true] ++ [false] ++ bitsOf v N) ∧ Col32 (w7.alloc (.cells #[.int .i64 (l' : Int), .int .i64 (n' : Int)] 162)) c p L N) := ⟨HT6.out.more32 B8, HC6.out.below B8 HC6.out.lt⟩
        have k0 : (w7.alloc (.cells #[.int .i64 (l' : Int), .int .i64 (n' : Int)] 162)).cell? ⟨H, 0, none⟩ = some (.int .i64 (L : Int)) := by rw [B8.cell (p := ⟨H, 0, none⟩) hH6]; exact k0
        have k1 : (w7.alloc (.cells #[.int .i64 (l' : Int), .int .i64 (n' : Int)] 162)).cell? ⟨H, 1, none⟩ = some (.int .i64 (N : Int)) := by rw [B8.cell (p := ⟨H, 1, none⟩) hH6]; exact k1
        have HK8 : Hid ((w7.alloc (.cells #[.int .i64 (l' : Int), .int .i64 (n' : Int)] 162)).cell? ⟨w7.heap.size, 0, none⟩ = some (.int .i64 (l' : Int)) ∧ (w7.alloc (.cells #[.int .i64 (l' : Int), .int .i64 (n' : Int)] 162)).cell? ⟨w7.heap.size, 1, none⟩ = some (.int .i64 (n' : Int))) := ⟨by rw [cell_of_row _ _ _ _ _ _ hN8]; rfl, by rw [cell_of_row _ _ _ _ _ _ hN8]; rfl⟩
        clear hN8 B8 HT6 HC6 HB6 hH6
        go_upto_region 12 with fail
        generalize w7.alloc (.cells #[.int .i64 (l' : Int), .int .i64 (n' : Int)] 162) = w8 at *
        obtain ⟨m0, m1⟩ := HK8.out
        have HNG : Hid (¬ (L = l' ∧ N = n' ∧ own' = false) → ∀ y r, y < 4294967296 → (rb s).drop a = xb 32 5 L N y ++ r → False) := fun hne y r hy hr => by
          obtain ⟨q1, q2, q3⟩ := HK.out y r hy hr
          have q4 := q3 v a5 e5 _ HV.out HT8.out.1
          have q5 : x = y := by rw [← HX.out, HSB.out]; exact q4.2
          subst q5
          exact hne (HPk.out.elim (fun h => ⟨h.2.2.1.symm, h.2.2.2.symm, h.1⟩) (fun h => absurd q2 h.2.1))
        have HBAD : Hid (¬ (L = l' ∧ N = n' ∧ own' = false) → TakeEnd32 w b c s a 0 p L N (.returned (.bool false)) w8) := fun hne =>
          ⟨false, 0, a5, e5, rfl, HT8.out.1.rd, Two32.ofB HT8.out.1.only, by omega, fun h => (by cases h), fun _ y r hy hr => (HNG.out hne y r hy hr).elim⟩
        by_cases hE1 : L = l'
        · by_cases hE2 : N = n'
          · by_cases hE3 : own' = false
            · have c0 := HT8.out.2.ahead
              have c1 := HT8.out.2.lead
              have c2 := HT8.out.2.len
              have f0 := HT8.out.2.fz 0
              have f1 := HT8.out.2.fz 1
              have f2 := HT8.out.2.fz 2
              subst hE1
              subst hE2
              subst hE3
              obtain ⟨q, hq⟩ : ∃ q : Nat, q = p ^^^ x := ⟨_, rfl⟩
              have q1 : bits BinOp.xor IntKind.u32 (p : Int) (x : Int) = (q : Int) := by rw [hq]; exact u32_xor_nat p x HP.out HXM.out
              have HQ := hide hq
              clear hq
              go_wp2_with fail
              go_ret
              have O9 : Only c 0 3 w8 (((w8.setCell ⟨c, 0, none⟩ (.int .u32 (q : Int))).setCell ⟨c, 1, none⟩ (.int .i64 (L : Int))).setCell ⟨c, 2, none⟩ (.int .i64 (N : Int))) := (((Only.refl c 0 3 w8).setCell 0 (by omega) (by omega) _).setCell 1 (by omega) (by omega) _).setCell 2 (by omega) (by omega) _
              have hbc' : b ≠ c := fun h => hbc h.symm
              obtain ⟨z1, z2⟩ : nxt 32 5 (L, N) x = (L, N) ∧ xb 32 5 L N x = [true] ++ [false] ++ bitsOf v N := by
                rcases HPk.out with ⟨_, h1, _⟩ | ⟨h, _⟩
                · refine ⟨by unfold nxt; rw [if_pos (.inr h1)], ?_⟩
                  rw [xb_old _ _ _ _ _ HX0.out h1, ← HX.out, HSB.out, (old_back32 L N v HWn.out.1 HV.out).2]; rfl
                · cases h
              refine ⟨true, x, a5, e5, rfl, HT8.out.1.rd.other O9 hbc', (Two32.ofB HT8.out.1.only).trans (Two32.ofC O9), HXM.out, fun _ => ⟨?_, fun he => ?_⟩, fun _ y r hy hr => ?_⟩
              · rw [z1, ← HQ.out]; exact (HT8.out.2.setAhead q).setOld L N
              · rw [z2]; exact HT8.out.1.sound he
              · obtain ⟨q1, q2, q3⟩ := HK.out y r hy hr
                have q4 := q3 v a5 e5 _ HV.out HT8.out.1
                exact ⟨rfl, by rw [← HX.out, HSB.out]; exact q4.2, q4.1⟩
            · obtain rfl : own' = true := by cases own' <;> simp at hE3 ⊢
              subst hE1
              subst hE2
              go_wp2_with fail
              go_ret
              exact HBAD.out (fun h => hE3 h.2.2)
          · have b2 : ((N : Int) == (n' : Int)) = false := by simp; omega
            subst hE1
            go_wp2_with fail
            go_ret
            exact HBAD.out (fun h => hE2 h.2.1)
        · have b1 : ((L : Int) == (l' : Int)) = false := by simp; omega
          go_wp2_with fail
          go_ret
          exact HBAD.out (fun h => hE1 h.1)
      | true =>
        obtain rfl : e2 = 0 := HV2.out rfl
        have HT12 := hide T12
        have f0 := HFZ.out 0
        have f1 := HFZ.out 1
        clear T12
        go_wp2_with fail
        refine (takeWindow32_any b s a2 0 wc HT12.out.rd).mono ?_
        rintro e w3 ⟨l, n, NN, a3, e3, rfl, hN, hl, hn, T3⟩
        obtain ⟨hHs, hHb, hHc⟩ : H < wc.heap.size ∧ H ≠ b ∧ H ≠ c := HH.out
        have eb := T3.only.block H hHs hHb
        have d0 : w3.cell? ⟨H, 0, none⟩ = some (.int .i64 (L : Int)) := by rw [World.cell?_of_block eb]; exact d0
        have d1 : w3.cell? ⟨H, 1, none⟩ = some (.int .i64 (N : Int)) := by rw [World.cell?_of_block eb]; exact d1
        have hfz : ∀ i, w3.frozen? ⟨H, i, none⟩ = false := fun i => by rw [World.frozen?_of_block (w := wc) (w' := w3) (a := ⟨H, i, none⟩) eb]; exact HFZ.out i
        have f0 := hfz 0
        have f1 := hfz 1
        have HPW := hide (put_win32 (v := .int .i64 (l : Int)) (v' := .int .i64 (NN : Int)) (HT12.out.trans ha.out T3) HHw.out hHb (Nat.lt_of_lt_of_le hHs T3.only.size) d0 d1 hfz)
        have HLN := hide (And.intro hN (And.intro hl hn))
        clear T3 eb hfz hN hl hn HH HFZ
        go_upto_region 6 with fail
        generalize (w3.setCell ⟨H, 0, none⟩ (.int .i64 (l : Int))).setCell ⟨H, 1, none⟩ (.int .i64 (NN : Int)) = wv at *
        clear d0 d1 f0 f1 hHs
        obtain ⟨d0, d1⟩ : wv.cell? ⟨H, 0, none⟩ = some (.int .i64 (l : Int)) ∧ wv.cell? ⟨H, 1, none⟩ = some (.int .i64 (NN : Int)) := ⟨HPW.out.2.2.1, HPW.out.2.2.2.1⟩
        have HH : Hid (H < wv.heap.size ∧ H ≠ b ∧ H ≠ c) := ⟨HPW.out.2.1, hHb, hHc⟩
        have HTv : Hid (Tk w wv b 0 s a 0 a3 e3 ([true, true] ++ (bitsOf l 5 ++ bitsOf n 5))) := HPW.out.1
        have HTv0 := hide HTv.out
        clear HPW hHb hHc
        by_cases hst : 32 < l + NN
        · go_wp2_with fail
          refine (stands32_bad l NN wv (by have := HLN.out; omega) (by have := HLN.out; omega) hst (by have := HLN.out; omega)).mono ?_
          rintro e w4 ⟨rfl, B4⟩
          have HB4 := hide B4
          have HST := hide hst
          clear B4 hst
          go_wp2_with fail
          go_ret
          have T4 := HTv.out.more32 HB4.out
          refine ⟨false, 0, a3, e3, rfl, T4.rd, Two32.ofB T4.only, by omega, fun h => (by cases h), fun _ y r hy hr => ?_⟩
          exfalso
          obtain ⟨r1, hr1⟩ := HR0.out
          obtain ⟨h1, h2, h3⟩ := second_done32 hr1 HT12.out ha.out hr
          have hs : ¬ sut 32 5 L N y := h3.1 rfl
          obtain ⟨h4, h5, h6⟩ := new_done32 HTv0.out ha.out hy HLN.out.2.1 HLN.out.2.2 h2 hs hr
          have q1 := bitLen_le y 32 hy
          have q2 : wl y = bitLen y - tz y := rfl
          have q3 := HLN.out.1
          have q4 := HST.out
          omega
        have HWn : Hid (l + NN ≤ 32 ∧ 0 < NN) := ⟨by omega, by have := HLN.out.1; omega⟩
        have HK : Hid (∀ y r, y < 4294967296 → (rb s).drop a = xb 32 5 L N y ++ r → y ≠ 0 ∧ (¬ sut 32 5 L N y ∧ l = 32 - bitLen y ∧ NN = wl y) ∧ ∀ (v a5 : Nat) (e5 : Int) (w6 : World), v < 2 ^ NN → Tk w w6 b 0 s a 0 a5 e5 ([true, true] ++ (bitsOf l 5 ++ bitsOf n 5) ++ bitsOf v NN) → e5 = 0 ∧ v * 2 ^ (32 - l - NN) = y) := fun y r hy hr => by
          obtain ⟨r1, hr1⟩ := HR0.out
          obtain ⟨h1, h2, h3⟩ := second_done32 hr1 HT12.out ha.out hr
          have hs : ¬ sut 32 5 L N y := h3.1 rfl
          obtain ⟨h4, h5, h6⟩ := new_done32 HTv0.out ha.out hy HLN.out.2.1 HLN.out.2.2 h2 hs hr
          exact ⟨h2, ⟨hs, h5, HLN.out.1.symm.trans h6⟩, fun v a5 e5 w6 hv T => own_done32 T ha.out hy hv h2 hs hr h5 h6 HLN.out.1.symm⟩
        obtain ⟨aq, haq⟩ : ∃ aq, aq = a3 := ⟨_, rfl⟩
        obtain ⟨eq, heq⟩ : ∃ eq, eq = e3 := ⟨_, rfl⟩
        rw [← haq, ← heq] at HTv
        clear hst
        obtain ⟨hHs, hHb, hHc⟩ : H < wv.heap.size ∧ H ≠ b ∧ H ≠ c := HH.out
        have HSt : Hid (∀ w, Calls Tryz.prog 155 #[.agg #[.int .i64 (l : Int), .int .i64 (NN : Int)]] w fun e w' => e = .returned (.bool true) ∧ Below w.heap.size w w') := fun w => by
          have := stands32_any l NN w HWn.out.1
          rw [show decide (0 < NN) = true from decide_eq_true HWn.out.2] at this
          exact this
        go_wp2_with fail
        refine (HSt.out _).mono ?_
        rintro e w4 ⟨rfl, B4⟩
        have T4 : Tk w w4 b 0 s a 0 aq eq ([true, true] ++ (bitsOf l 5 ++ bitsOf n 5)) := HTv.out.more32 B4
        have d0 : w4.cell? ⟨H, 0, none⟩ = some (.int .i64 (l : Int)) := by rw [B4.cell (p := ⟨H, 0, none⟩) hHs]; exact d0
        have d1 : w4.cell? ⟨H, 1, none⟩ = some (.int .i64 (NN : Int)) := by rw [B4.cell (p := ⟨H, 1, none⟩) hHs]; exact d1
        have hHs : H < w4.heap.size := Nat.lt_of_lt_of_le hHs B4.size
        have HT4 := hide T4
        clear B4 T4 HTv HSt
        go_wp2_with fail
        obtain ⟨sb, hsb⟩ : ∃ sb, bh32 l NN = sb := ⟨_, rfl⟩
        have sbW : sb ≤ 32 := by rw [← hsb]; unfold bh32; omega
        have HBH : Hid (∀ w, Calls Tryz.prog 156 #[.agg #[.int .i64 (l : Int), .int .i64 (NN : Int)]] w fun e w' => e = .returned (.int .i64 (sb : Int)) ∧ Below w.heap.size w w') := fun w => by rw [← hsb]; exact behindN32_any l NN w HWn.out.1
        have HSB : Hid (sb = 32 - l - NN) := by rw [← hsb]; rfl
        have hNN : NN ≤ 64 := by have := HWn.out.1; omega
        clear hsb
        have HR4 : Hid (Rd w4.drew b 0 s aq eq) := HT4.out.rd.below (w' := w4.drew) (B := w4.heap.size) ⟨rfl, rfl, rfl, Nat.le_refl _, fun _ _ => rfl⟩ (block_lt_of_cell HT4.out.rd.text)
        go_region_held3 (fun w' => w'.cell? ⟨H, 0, none⟩ = some (.int .i64 (l : Int)) ∧ w'.cell? ⟨H, 1, none⟩ = some (.int .i64 (NN : Int))) (first | exact ⟨k0, k1⟩ | exact ⟨d0, d1⟩)
          (first | (go_at_call 156; go_must (refine (HBH.out _).mono ?_); rintro _ w6 ⟨rfl, B6⟩; (have k0 : w6.cell? ⟨H, 0, none⟩ = some (.int .i64 (l : Int)) := by rw [B6.cell (p := ⟨H, 0, none⟩) hH5.out]; exact k0); (have k1 : w6.cell? ⟨H, 1, none⟩ = some (.int .i64 (NN : Int)) := by rw [B6.cell (p := ⟨H, 1, none⟩) hH5.out]; exact k1)) | (go_at_call 69; go_must (refine (tk_bits b 0 s aq NN eq _ HR4.out hNN).mono ?_); rintro _ w5 ⟨v, a5, e5, rfl, hv, T5⟩; (have k0 : w5.cell? ⟨H, 0, none⟩ = some (.int .i64 (l : Int)) := by rw [World.cell?_of_block (T5.only.block H hHs hHb)]; exact d0); (have k1 : w5.cell? ⟨H, 1, none⟩ = some (.int .i64 (NN : Int)) := by rw [World.cell?_of_block (T5.only.block H hHs hHb)]; exact d1); (have hH5 : Hid (H < w5.heap.size) := Nat.lt_of_lt_of_le hHs T5.only.size); (have HV := hide hv); (clear hv); (have v1 : IntKind.u32.wrap (v : Int) = (v : Int) := wrap_val32 HV.out (by have := HWn.out.1; omega)); (obtain ⟨x, hx⟩ : ∃ x : Nat, v * 2 ^ sb = x := ⟨_, rfl⟩); (have hxx : (v : Int) * 2 ^ sb = (x : Int) := by rw [← hx]; simp); (have hxM : x < 4294967296 := by rw [← hx, HSB.out]; exact (old_back32 l NN v HWn.out.1 HV.out).1); (have v2 : IntKind.u32.wrap (x : Int) = (x : Int) := wrap_nat32 hxM); (have HXM := hide hxM); (have HX := hide hx); clear hx hxM))
        have HT6 : Hid (Tk w w6 b 0 s a 0 a5 e5 ([true, true] ++ (bitsOf l 5 ++ bitsOf n 5) ++ bitsOf v NN)) := ((HT4.out.more32 (w2 := w4.drew) ⟨rfl, rfl, rfl, Nat.le_refl _, fun _ _ => rfl⟩).trans ha.out T5).more32 B6
        have hH6 : H < w6.heap.size := Nat.lt_of_lt_of_le hH5.out B6.size
        have HC6 : Hid (Col32 w6 c p L N) := HC.out.other HT6.out.only hbc
        have HB6 : Hid (Tab64 w6) := (Two32.ofB (c := c) HT6.out.only).tab HT.out hTb hTc
        clear T5 B6 HT4 HR4 HBH hH5 d0 d1
        by_cases hx0 : x = 0
        · subst hx0
          go_wp2_with fail
          go_ret
          refine ⟨false, 0, a5, e5, rfl, HT6.out.rd, Two32.ofB HT6.out.only, by omega, fun h => (by cases h), fun _ y r hy hr => ?_⟩
          exfalso
          obtain ⟨q1, q2, q3⟩ := HK.out y r hy hr
          have q4 := q3 v a5 e5 w6 HV.out HT6.out
          have q5 := HX.out
          rw [HSB.out] at q5
          exact q1 (q4.2.symm.trans q5)
        have x2 : ((x : Int) == 0) = false := by simp; omega
        have HX0 := hide hx0
        clear hx0
        go_wp2_with fail
        refine (pick32_any c p L N x w6 HC6.out HL.out HXM.out HX0.out HB6.out).mono ?_
        rintro e w7 ⟨l', n', own', rfl, B7, hP⟩
        have HPk := hide hP
        clear hP
        have hN8 := heap_alloc_new w7 (.cells #[.int .i64 (l' : Int), .int .i64 (n' : Int)] 162)
        have B8 : Below w6.heap.size w6 (w7.alloc (.cells #[.int .i64 (l' : Int), .int .i64 (n' : Int)] 162)) := B7.alloc B7.size _
        have HT8 : Hid (Tk w (w7.alloc (.cells #[.int .i64 (l' : Int), .int .i64 (n' : Int)] 162)) b 0 s a 0 a5 e5 ([true, true] ++ (bitsOf l 5 ++ bitsOf n 5) ++ bitsOf v NN) ∧ Col32 (w7.alloc (.cells #[.int .i64 (l' : Int), .int .i64 (n' : Int)] 162)) c p L N) := ⟨HT6.out.more32 B8, HC6.out.below B8 HC6.out.lt⟩
        have k0 : (w7.alloc (.cells #[.int .i64 (l' : Int), .int .i64 (n' : Int)] 162)).cell? ⟨H, 0, none⟩ = some (.int .i64 (l : Int)) := by rw [B8.cell (p := ⟨H, 0, none⟩) hH6]; exact k0
        have k1 : (w7.alloc (.cells #[.int .i64 (l' : Int), .int .i64 (n' : Int)] 162)).cell? ⟨H, 1, none⟩ = some (.int .i64 (NN : Int)) := by rw [B8.cell (p := ⟨H, 1, none⟩) hH6]; exact k1
        have HK8 : Hid ((w7.alloc (.cells #[.int .i64 (l' : Int), .int .i64 (n' : Int)] 162)).cell? ⟨w7.heap.size, 0, none⟩ = some (.int .i64 (l' : Int)) ∧ (w7.alloc (.cells #[.int .i64 (l' : Int), .int .i64 (n' : Int)] 162)).cell? ⟨w7.heap.size, 1, none⟩ = some (.int .i64 (n' : Int))) := ⟨by rw [cell_of_row _ _ _ _ _ _ hN8]; rfl, by rw [cell_of_row _ _ _ _ _ _ hN8]; rfl⟩
        clear hN8 B8 HT6 HC6 HB6 hH6
        go_upto_region 12 with fail
        generalize w7.alloc (.cells #[.int .i64 (l' : Int), .int .i64 (n' : Int)] 162) = w8 at *
        obtain ⟨m0, m1⟩ := HK8.out
        have HNG : Hid (¬ (l = l' ∧ NN = n' ∧ own' = true) → ∀ y r, y < 4294967296 → (rb s).drop a = xb 32 5 L N y ++ r → False) := fun hne y r hy hr => by
          obtain ⟨q1, q2, q3⟩ := HK.out y r hy hr
          have q4 := q3 v a5 e5 _ HV.out HT8.out.1
          have q5 : x = y := by rw [← HX.out, HSB.out]; exact q4.2
          subst q5
          exact hne (HPk.out.elim (fun h => absurd h.2.1 q2.1) (fun h => ⟨by rw [h.2.2.1]; exact q2.2.1, by rw [h.2.2.2]; exact q2.2.2, h.1⟩))
        have HBAD : Hid (¬ (l = l' ∧ NN = n' ∧ own' = true) → TakeEnd32 w b c s a 0 p L N (.returned (.bool false)) w8) := fun hne =>
          ⟨false, 0, a5, e5, rfl, HT8.out.1.rd, Two32.ofB HT8.out.1.only, by omega, fun h => (by cases h), fun _ y r hy hr => (HNG.out hne y r hy hr).elim⟩
        by_cases hE1 : l = l'
        · by_cases hE2 : NN = n'
          · by_cases hE3 : own' = true
            · have c0 := HT8.out.2.ahead
              have c1 := HT8.out.2.lead
              have c2 := HT8.out.2.len
              have f0 := HT8.out.2.fz 0
              have f1 := HT8.out.2.fz 1
              have f2 := HT8.out.2.fz 2
              subst hE1
              subst hE2
              subst hE3
              obtain ⟨q, hq⟩ : ∃ q : Nat, q = p ^^^ x := ⟨_, rfl⟩
              have q1 : bits BinOp.xor IntKind.u32 (p : Int) (x : Int) = (q : Int) := by rw [hq]; exact u32_xor_nat p x HP.out HXM.out
              have HQ := hide hq
              clear hq
              go_wp2_with fail
              go_ret
              have O9 : Only c 0 3 w8 (((w8.setCell ⟨c, 0, none⟩ (.int .u32 (q : Int))).setCell ⟨c, 1, none⟩ (.int .i64 (l : Int))).setCell ⟨c, 2, none⟩ (.int .i64 (NN : Int))) := (((Only.refl c 0 3 w8).setCell 0 (by omega) (by omega) _).setCell 1 (by omega) (by omega) _).setCell 2 (by omega) (by omega) _
              have hbc' : b ≠ c := fun h => hbc h.symm
              obtain ⟨z1, z2⟩ : nxt 32 5 (L, N) x = (l, NN) ∧ xb 32 5 L N x = [true, true] ++ (bitsOf l 5 ++ bitsOf n 5) ++ bitsOf v NN := by
                rcases HPk.out with ⟨h, _⟩ | ⟨_, h1, h2, h3⟩
                · cases h
                · have q1 := bitLen_le x 32 HXM.out
                  have q2 := tz_lt x HX0.out (lt64 (W := 32) HXM.out (by omega))
                  have q3 : wl x = bitLen x - tz x := rfl
                  have q4 := HLN.out.1
                  have q5 := HSB.out
                  have q6 := HWn.out.1
                  have q7 : tz x = 32 - l - NN := by omega
                  refine ⟨by unfold nxt; rw [if_neg (fun h => h.elim HX0.out h1), ← h2, ← h3], ?_⟩
                  rw [xb_new _ _ _ _ _ HX0.out h1, ← h2, ← h3, show NN - 1 = n from by omega, q7]
                  have q8 : x / 2 ^ (32 - l - NN) = v := by rw [← HX.out, HSB.out]; exact (old_back32 l NN v HWn.out.1 HV.out).2
                  rw [q8]; simp
              refine ⟨true, x, a5, e5, rfl, HT8.out.1.rd.other O9 hbc', (Two32.ofB HT8.out.1.only).trans (Two32.ofC O9), HXM.out, fun _ => ⟨?_, fun he => ?_⟩, fun _ y r hy hr => ?_⟩
              · rw [z1, ← HQ.out]; exact (HT8.out.2.setAhead q).setOld l NN
              · rw [z2]; exact HT8.out.1.sound he
              · obtain ⟨q1, q2, q3⟩ := HK.out y r hy hr
                have q4 := q3 v a5 e5 _ HV.out HT8.out.1
                exact ⟨rfl, by rw [← HX.out, HSB.out]; exact q4.2, q4.1⟩
            · obtain rfl : own' = false := by cases own' <;> simp at hE3 ⊢
              subst hE1
              subst hE2
              go_wp2_with fail
              go_ret
              exact HBAD.out (fun h => hE3 h.2.2)
          · have b2 : ((NN : Int) == (n' : Int)) = false := by simp; omega
            subst hE1
            go_wp2_with fail
            go_ret
            exact HBAD.out (fun h => hE2 h.2.1)
        · have b1 : ((l : Int) == (l' : Int)) = false := by simp; omega
          go_wp2_with fail
          go_ret
          exact HBAD.out (fun h => hE1 h.1)

end Go.Proofs.YtleffbpjjbiobaaGreatDoor

/- Values that are taken one by one (32 bits). -/
namespace Go.Proofs.YtleffbpjjbiobaaGreatDoor
open Go.RowKit
open M
set_option linter.unusedVariables false
set_option linter.unusedSimpArgs false

theorem make_vals32 (c : Nat) (h : c ≤ 4096) (w : World) :
    (Instr.makeSlice 30 (.int .i64 (c : Int)) (.int .i64 (c : Int))).run Tryz.prog w = .ok (.slice (some ⟨w.heap.size, 0, none⟩) c c) (w.alloc (.cells (Array.replicate c (Value.int .u32 0)) 42)) := by
  have hz : (Tryz.prog.info? 42).bind (·.zero) = some (.int .u32 0) := by kernel_rfl
  have hs : (Tryz.prog.info? 42).map (·.size) = some 1 := by kernel_rfl
  have hb : (Tryz.prog.info? 42).map (·.bytes) = some (32 / 8) := by kernel_rfl
  cases hi : Tryz.prog.info? 42 with
  | none => simp [hi] at hs
  | some i =>
    simp only [hi, Option.bind_some, Option.map_some, Option.some.injEq] at hz hs hb
    rw [run_make w 30 42 i _ Tryz.underlying30 hi hz .i64 .i64 (c : Int) (c : Int) (by omega) (by omega) (by rw [hb]; omega) (by omega)]
    have e : madeCells (Value.int .u32 0).cells ((c : Int).toNat * i.size) = Array.replicate c (Value.int .u32 0) := by
      rw [hs]
      apply Array.ext
      · simp [madeCells]
      · intro j h1 h2
        simp [madeCells, Value.cells, Nat.mod_one]
    rw [e]; simp

/-- A row of n values of one's own, of which the first k are laid. -/
structure UW32 (w : World) (g n k : Nat) (f : Nat → Nat) : Prop where
  cell : ∀ i, i < n → w.cell? ⟨g, i, none⟩ = some (.int .u32 ((if i < k then f i else 0 : Nat) : Int))
  fz : ∀ i, w.frozen? ⟨g, i, none⟩ = false
  blk : ∃ cur : Array Value, w.heap[g]? = some (.cells cur 42 (0, 0)) ∧ cur.size = n

theorem UW32.new (w : World) (n : Nat) (f : Nat → Nat) : UW32 (w.alloc (.cells (Array.replicate n (Value.int .u32 0)) 42)) w.heap.size n 0 f := by
  have hn := heap_alloc_new w (.cells (Array.replicate n (Value.int .u32 0)) 42)
  refine ⟨fun i hi => ?_, fun i => frozen_of_row _ _ _ _ _ hn, _, hn, by simp⟩
  rw [cell_of_row _ _ _ _ _ _ hn]
  simp [hi]

theorem UW32.set {w : World} {g n k : Nat} {f : Nat → Nat} (h : UW32 w g n k f) (hk : k < n) (t : Nat) : UW32 (w.setCell ⟨g, k, none⟩ (.int .u32 (t : Int))) g n (k + 1) (fun i => if i = k then t else f i) := by
  refine ⟨fun i hi => ?_, fun i => by rw [frozen_setCell]; exact h.fz i, ?_⟩
  case refine_2 =>
    obtain ⟨cur, h1, h2⟩ := h.blk
    exact ⟨_, heap_setCell_same w g k cur _ _ h1, by simpa using h2⟩
  by_cases e : i = k
  · subst e
    rw [cell_setCell_eq _ _ _ _ _ (h.cell i hi)]; simp
  · rw [cell_setCell_ne _ _ _ _ _ e, h.cell i hi]
    by_cases h1 : i < k
    · simp [h1, e, show i < k + 1 from by omega]
    · simp [h1, show ¬ i < k + 1 from by omega]

theorem UW32.ofBlock {w w' : World} {g n k : Nat} {f : Nat → Nat} (h : UW32 w g n k f) (e : w'.heap[g]? = w.heap[g]?) : UW32 w' g n k f :=
  ⟨fun i hi => by rw [World.cell?_of_block (w := w) e]; exact h.cell i hi, fun i => by rw [World.frozen?_of_block (w := w) (w' := w') (a := ⟨g, i, none⟩) e]; exact h.fz i, by rw [e]; exact h.blk⟩

theorem UW32.congr {w : World} {g n k : Nat} {f f' : Nat → Nat} (h : UW32 w g n k f) (e : ∀ i, i < k → f i = f' i) : UW32 w g n k f' :=
  ⟨fun i hi => by rw [h.cell i hi]; by_cases h1 : i < k
                  · rw [if_pos h1, if_pos h1, e i h1]
                  · rw [if_neg h1, if_neg h1], h.fz, h.blk⟩

theorem UW32.urow {w : World} {g n : Nat} {f : Nat → Nat} (h : UW32 w g n n f) : URow32 w (some ⟨g, 0, none⟩) n f := fun _ =>
  ⟨g, 0, rfl, fun i hi => by rw [Nat.zero_add, h.cell i hi, if_pos hi]⟩

theorem Two32.setNew {b c : Nat} {u w : World} (h : Two32 b c u w) (g i : Nat) (hg : u.heap.size ≤ g) (v : Value) : Two32 b c u (w.setCell ⟨g, i, none⟩ v) :=
  ⟨h.os, h.tape, h.output, Nat.le_trans h.size (by simp [World.setCell]), fun k hk h1 h2 => by rw [Below.heap_setCell _ _ _ _ (show k ≠ g by omega)]; exact h.block k hk h1 h2⟩

/-- The bits begin with those of n values g. -/
def Begins32 (R : List Bool) (g : Nat → Nat) (n : Nat) : Prop := (∀ i, i < n → g i < 4294967296) ∧ ∃ r, R = cbn 32 5 g n ++ r

/-- What stands where k + 1 values have been taken. -/
structure Cn32 (w wr : World) (b c : Nat) (s : ByteArray) (g n k a : Nat) (e1 : Int) (f : Nat → Nat) : Prop where
  row : UW32 wr g n (k + 1) f
  rd : Rd wr b 0 s a e1
  col : Col32 wr c (f k) (win 32 5 f k).1 (win 32 5 f k).2
  two : Two32 b c w wr
  size : g < wr.heap.size
  rng : ∀ i, i < k + 1 → f i < 4294967296
  sound : e1 = 0 → (rb s).take a = cbn 32 5 f (k + 1)
  full : ∀ h, Begins32 (rb s) h n → e1 = 0 ∧ ∀ i, i < k + 1 → f i = h i

theorem xor_back32 (p x : Nat) : (p ^^^ x) ^^^ p = x := by rw [Nat.xor_comm p x, Nat.xor_assoc, Nat.xor_self, Nat.xor_zero]

/-- One value more. -/
theorem Cn32.next {w wr w2 : World} {b c : Nat} {s : ByteArray} {g n k a a' : Nat} {e1 e2 : Int} {f : Nat → Nat} (hk : k + 1 < n) (hg : w.heap.size ≤ g) (hgb : g ≠ b) (hgc : g ≠ c) (T : Cn32 w wr b c s g n k a e1 f) (x : Nat) (hx : x < 4294967296)
    (hR : Rd w2 b 0 s a' e2) (hO : Two32 b c wr w2) (hC : Col32 w2 c (f k ^^^ x) (nxt 32 5 ((win 32 5 f k).1, (win 32 5 f k).2) x).1 (nxt 32 5 ((win 32 5 f k).1, (win 32 5 f k).2) x).2)
    (hs : e2 = 0 → e1 = 0 ∧ (rb s).take a' = (rb s).take a ++ xb 32 5 (win 32 5 f k).1 (win 32 5 f k).2 x)
    (hf : e1 = 0 → ∀ y r, y < 4294967296 → (rb s).drop a = xb 32 5 (win 32 5 f k).1 (win 32 5 f k).2 y ++ r → x = y ∧ e2 = 0) :
    Cn32 w (w2.setCell ⟨g, k + 1, none⟩ (.int .u32 ((f k ^^^ x : Nat) : Int))) b c s g n (k + 1) a' e2 (fun i => if i = k + 1 then f k ^^^ x else f i) := by
  have hs2 := hO.size
  have hsz := T.size
  have ht : f k ^^^ x < 4294967296 := xor_lt 32 _ _ (T.rng k (by omega)) hx
  obtain ⟨F, hF⟩ : ∃ F : Nat → Nat, F = fun i => if i = k + 1 then f k ^^^ x else f i := ⟨_, rfl⟩
  have F1 : F (k + 1) = f k ^^^ x := by rw [hF]; simp
  have F2 : ∀ i, i ≤ k → F i = f i := fun i hi => by rw [hF]; simp; omega
  have ew : win 32 5 F k = win 32 5 f k := win_congr _ _ _ _ k (fun j hj => F2 j hj)
  have exx : F (k + 1) ^^^ F k = x := by rw [F1, F2 k (Nat.le_refl _)]; exact xor_back32 _ _
  have ez : xbf 32 5 F k = xb 32 5 (win 32 5 f k).1 (win 32 5 f k).2 x := by unfold xbf; rw [ew, exx]
  have en : win 32 5 F (k + 1) = nxt 32 5 ((win 32 5 f k).1, (win 32 5 f k).2) x := by simp only [win]; rw [ew, exx]
  have eb : cbn 32 5 F (k + 1) = cbn 32 5 f (k + 1) := cbn_congr _ _ _ _ _ fun i hi => F2 i (by omega)
  have hbk : (w2.setCell ⟨g, k + 1, none⟩ (.int .u32 ((f k ^^^ x : Nat) : Int))).heap[c]? = w2.heap[c]? := Below.heap_setCell _ _ _ _ (fun e => hgc e.symm)
  rw [← hF]
  refine ⟨?_, hR.setOther' g _ hgb _, ?_, (T.two.trans hO).setNew g _ hg _, by simp [World.setCell]; omega, fun i hi => ?_, fun he => ?_, ?_⟩
  · rw [hF]; exact (T.row.ofBlock (hO.block g T.size hgb hgc)).set hk (f k ^^^ x)
  · rw [F1, en]
    exact ⟨by rw [World.cell?_of_block (w := w2) hbk]; exact hC.ahead, by rw [World.cell?_of_block (w := w2) hbk]; exact hC.lead, by rw [World.cell?_of_block (w := w2) hbk]; exact hC.len, fun i => by rw [frozen_setCell]; exact hC.fz i⟩
  · by_cases e : i = k + 1
    · subst e; rw [F1]; exact ht
    · rw [F2 i (by omega)]; exact T.rng i (by omega)
  · obtain ⟨h1, h2⟩ := hs he
    rw [h2, T.sound h1, cbn_step, ez, eb]
  · intro h hB
    obtain ⟨h1, h2⟩ := T.full h hB
    obtain ⟨hr, r, hRR⟩ := hB
    obtain ⟨r1, h3⟩ := cbn_prefix 32 5 h (k + 2) n (by omega)
    rw [h3, cbn_step, List.append_assoc, List.append_assoc] at hRR
    have h4 : (rb s).take a = cbn 32 5 h (k + 1) := by rw [T.sound h1]; exact cbn_congr _ _ _ _ _ h2
    have h5 : (rb s).drop a = xbf 32 5 h k ++ (r1 ++ r) := by
      have := List.take_append_drop a (rb s)
      rw [h4] at this
      rw [hRR] at this ⊢
      exact List.append_cancel_left this
    have e5 : xbf 32 5 h k = xb 32 5 (win 32 5 f k).1 (win 32 5 f k).2 (h (k + 1) ^^^ h k) := by
      unfold xbf; rw [win_congr 32 5 f h k (fun j hj => h2 j (by omega))]
    rw [e5] at h5
    obtain ⟨h6, h7⟩ := hf h1 _ _ (xor_lt 32 _ _ (hr _ (by omega)) (hr _ (by omega))) h5
    refine ⟨h7, fun i hi => ?_⟩
    by_cases e : i = k + 1
    · subst e
      rw [F1, h6, h2 k (by omega), Nat.xor_comm (h (k + 1)), ← Nat.xor_assoc, Nat.xor_self, Nat.zero_xor]
    · rw [F2 i (by omega)]; exact h2 i (by omega)

/-- Bits that no value lays. -/
theorem Cn32.none {w wr : World} {b c : Nat} {s : ByteArray} {g n k a : Nat} {e1 : Int} {f : Nat → Nat} (hk : k + 1 < n) (T : Cn32 w wr b c s g n k a e1 f)
    (hf : e1 = 0 → ∀ y r, y < 4294967296 → (rb s).drop a = xb 32 5 (win 32 5 f k).1 (win 32 5 f k).2 y ++ r → False) : ¬ ∃ h, Begins32 (rb s) h n := by
  rintro ⟨h, hB⟩
  obtain ⟨h1, h2⟩ := T.full h hB
  obtain ⟨hr, r, hRR⟩ := hB
  obtain ⟨r1, h3⟩ := cbn_prefix 32 5 h (k + 2) n (by omega)
  rw [h3, cbn_step, List.append_assoc, List.append_assoc] at hRR
  have h4 : (rb s).take a = cbn 32 5 h (k + 1) := by rw [T.sound h1]; exact cbn_congr _ _ _ _ _ h2
  have h5 : (rb s).drop a = xbf 32 5 h k ++ (r1 ++ r) := by
    have := List.take_append_drop a (rb s)
    rw [h4] at this
    rw [hRR] at this ⊢
    exact List.append_cancel_left this
  have e5 : xbf 32 5 h k = xb 32 5 (win 32 5 f k).1 (win 32 5 f k).2 (h (k + 1) ^^^ h k) := by
    unfold xbf; rw [win_congr 32 5 f h k (fun j hj => h2 j (by omega))]
  rw [e5] at h5
  exact hf h1 _ _ (xor_lt 32 _ _ (hr _ (by omega)) (hr _ (by omega))) h5

/-- What takeAll tells. -/
def TakeAllEnd32 (w : World) (b : Nat) (s : ByteArray) (n : Nat) (e : Ending) (w' : World) : Prop :=
  (e = .returned (.tuple #[.slice none 0 0, .bool false]) ∧ Below b w w' ∧ ¬ ∃ h, Begins32 (rb s) h n) ∨
    ∃ (a : Nat) (e1 : Int) (f : Nat → Nat), e = .returned (.tuple #[.slice (some ⟨w.heap.size, 0, none⟩) n n, .bool true]) ∧ UW32 w' w.heap.size n n f ∧ Rd w' b 0 s a e1 ∧ Below b w w' ∧ (∀ i, i < n → f i < 4294967296) ∧
      (e1 = 0 → (rb s).take a = cbn 32 5 f n) ∧ (∀ h, Begins32 (rb s) h n → e1 = 0 ∧ ∀ i, i < n → f i = h i)

end Go.Proofs.YtleffbpjjbiobaaGreatDoor

namespace Go.Proofs.YtleffbpjjbiobaaGreatDoor
open Go.RowKit
open M
set_option linter.unusedVariables false
set_option linter.unusedSimpArgs false

/-- A coding that lays value after value. -/
structure Lays32 (bf : (Nat → Nat) → Nat → List Bool) (one : (Nat → Nat) → Nat → List Bool) : Prop where
  nil : ∀ h, bf h 0 = []
  step : ∀ h k, bf h (k + 1) = bf h k ++ one h k

theorem Lays32.begins {bf one : (Nat → Nat) → Nat → List Bool} (L : Lays32 bf one) (h : Nat → Nat) (k n : Nat) (hk : k ≤ n) : ∃ r, bf h n = bf h k ++ r := by
  induction n with
  | zero => exact ⟨[], by rw [show k = 0 from by omega]; simp⟩
  | succ n ih =>
    by_cases e : k = n + 1
    · exact ⟨[], by rw [e]; simp⟩
    · obtain ⟨r, hr⟩ := ih (by omega)
      exact ⟨r ++ one h n, by rw [L.step, hr, List.append_assoc]⟩

/-- The text begins with the bits of n values. -/
def Beg32 (bf : (Nat → Nat) → Nat → List Bool) (R : List Bool) (h : Nat → Nat) (n : Nat) : Prop := (∀ i, i < n → h i < 4294967296) ∧ ∃ r, R = bf h n ++ r

/-- k of n values are taken. -/
structure Ln32 (bf : (Nat → Nat) → Nat → List Bool) (w wr : World) (b : Nat) (s : ByteArray) (g n k a : Nat) (e1 : Int) (f : Nat → Nat) : Prop where
  row : UW32 wr g n k f
  rd : Rd wr b 0 s a e1
  only : Only b 0 3 w wr
  size : g < wr.heap.size
  rng : ∀ i, i < k → f i < 4294967296
  full : ∀ h, Beg32 bf (rb s) h n → e1 = 0 ∧ (rb s).take a = bf h k ∧ ∀ i, i < k → f i = h i

/-- One value more. -/
theorem Ln32.next {bf one : (Nat → Nat) → Nat → List Bool} (L : Lays32 bf one) {w wr w2 : World} {b : Nat} {s : ByteArray} {g n k a a' : Nat} {e1 e2 : Int} {f : Nat → Nat} (hk : k < n) (hg : w.heap.size ≤ g) (hgb : g ≠ b) (T : Ln32 bf w wr b s g n k a e1 f)
    (x : Nat) (hx : x < 4294967296) (hR : Rd w2 b 0 s a' e2) (hO : Only b 0 3 wr w2)
    (hf : e1 = 0 → ∀ h r, (∀ i, i < k → f i = h i) → h k < 4294967296 → (rb s).drop a = one h k ++ r → x = h k ∧ e2 = 0 ∧ (rb s).take a' = (rb s).take a ++ one h k) :
    Ln32 bf w (w2.setCell ⟨g, k, none⟩ (.int .u32 (x : Int))) b s g n (k + 1) a' e2 (fun i => if i = k then x else f i) := by
  have hs2 := hO.size
  have hsz := T.size
  refine ⟨(T.row.ofBlock (hO.block g hsz hgb)).set hk x, hR.setOther' g _ hgb _, (T.only.trans hO).setOther' g _ hg hgb _, by simp [World.setCell]; omega, fun i hi => ?_, fun h hB => ?_⟩
  · by_cases e : i = k
    · simp [e, hx]
    · simp [e]; exact T.rng i (by omega)
  · obtain ⟨h1, h2, h3⟩ := T.full h hB
    obtain ⟨hr, r, hRR⟩ := hB
    obtain ⟨r1, h4⟩ := L.begins h (k + 1) n (by omega)
    rw [h4, L.step, List.append_assoc, List.append_assoc] at hRR
    have h5 : (rb s).drop a = one h k ++ (r1 ++ r) := by
      have := List.take_append_drop a (rb s)
      rw [h2] at this
      rw [hRR] at this ⊢
      exact List.append_cancel_left this
    obtain ⟨h6, h7, h8⟩ := hf h1 h _ h3 (hr k hk) h5
    refine ⟨h7, by rw [h8, h2, L.step], fun i hi => ?_⟩
    by_cases e : i = k
    · simp [e, h6]
    · simp [e]; exact h3 i (by omega)

theorem lays_plain32 : Lays32 (plB 32) (fun h k => bitsOf (h k) 32) := ⟨fun h => rfl, fun h k => rfl⟩

/-- A value of 32 bits that is taken. -/
theorem taken_plain32 {w w' : World} {b : Nat} {s : ByteArray} {a a' : Nat} {e1 e2 : Int} {x : Nat} (hx : x < 4294967296) (T : Tk w w' b 0 s a e1 a' e2 (bitsOf x 32)) (y : Nat) (r : List Bool) (he : e1 = 0) (hy : y < 4294967296) (hr : (rb s).drop a = bitsOf y 32 ++ r) :
    x = y ∧ e2 = 0 ∧ (rb s).take a' = (rb s).take a ++ bitsOf y 32 := by
  have hl : ((rb s).drop a).length = 32 + r.length := by rw [hr]; simp
  rw [List.length_drop] at hl
  have e2 := T.full he (by rw [bitsOf_length]; omega)
  have h1 := (T.sound e2).2
  have h2 := take_eq_drop' _ _ a a' h1
  rw [hr] at h2
  have h3 := (pbits_inj y x 32 _ _ (by simpa using hy) (by simpa using hx) h2).1
  exact ⟨h3.symm, e2, by rw [h1, h3]⟩

end Go.Proofs.YtleffbpjjbiobaaGreatDoor

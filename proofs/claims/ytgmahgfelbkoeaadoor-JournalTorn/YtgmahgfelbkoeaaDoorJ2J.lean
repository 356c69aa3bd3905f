/- What a file's bytes hold: taken, of a file that begins as it should. -/
import Derived.Test.YtgmahgfelbkoeaaDoorJ2I
namespace Go.Proofs.YtgmahgfelbkoeaaDoor
open Go.RowKit
set_option linter.unusedVariables false
set_option linter.unusedSimpArgs false

theorem tkRecs_stop {f : Nat} {left : List Nat} {recs : List (List (List Nat))} (hf : left.length < f) (h : recHead left = .stop) : tkRecs f left recs = some (recs, left.length) := by
  obtain ⟨g, rfl⟩ : ∃ g, f = g + 1 := ⟨f - 1, by omega⟩
  rw [tkRecs_step, h]
theorem tkRecs_bad {f : Nat} {left : List Nat} {recs : List (List (List Nat))} (hf : left.length < f) (h : recHead left = .bad) : tkRecs f left recs = none := by
  obtain ⟨g, rfl⟩ : ∃ g, f = g + 1 := ⟨f - 1, by omega⟩
  rw [tkRecs_step, h]
theorem tkRecs_go {f : Nat} {left b l : List Nat} {recs : List (List (List Nat))} (hf : left.length < f) (h : recHead left = .go b l) : tkRecs f left recs = (match tkRows (b.length + 1) b [] with | none => none | some rs => tkRecs (f - 1) l (recs ++ [rs])) := by
  obtain ⟨g, rfl⟩ : ∃ g, f = g + 1 := ⟨f - 1, by omega⟩
  rw [tkRecs_step, h]
  rfl
theorem tkRows_stop {f : Nat} {body : List Nat} {rows : List (List Nat)} (hf : body.length < f) (h : rowHead body rows.length = .stop) : tkRows f body rows = some rows := by
  obtain ⟨g, rfl⟩ : ∃ g, f = g + 1 := ⟨f - 1, by omega⟩
  rw [tkRows_step, h]
theorem tkRows_bad {f : Nat} {body : List Nat} {rows : List (List Nat)} (hf : body.length < f) (h : rowHead body rows.length = .bad) : tkRows f body rows = none := by
  obtain ⟨g, rfl⟩ : ∃ g, f = g + 1 := ⟨f - 1, by omega⟩
  rw [tkRows_step, h]
theorem tkRows_go {f : Nat} {body r b : List Nat} {rows : List (List Nat)} (hf : body.length < f) (h : rowHead body rows.length = .go r b) : tkRows f body rows = tkRows (f - 1) b (rows ++ [r]) := by
  obtain ⟨g, rfl⟩ : ∃ g, f = g + 1 := ⟨f - 1, by omega⟩
  rw [tkRows_step, h]
  rfl
theorem num4_lt {l : List Nat} (h : ∀ n ∈ l, n < 256) (h4 : 4 ≤ l.length) : num4 l < 4294967296 := by
  unfold num4
  have h0 := getD_lt h 0 (by omega)
  have h1 := getD_lt h 1 (by omega)
  have h2 := getD_lt h 2 (by omega)
  have h3 := getD_lt h 3 (by omega)
  omega

set_option maxRecDepth 100000 in
set_option maxHeartbeats 8000000 in
theorem taken_ok (p : Option Addr) (n c : Nat) (bs : List Nat) (w : World) (h : Cy w p n c bs) (hb : ∀ n ∈ bs, n < 256) (hl : bs.length ≤ 268435456) (hT : TabC w) (hpre : bs.take 8 = headB) :
    Calls Tryd.prog 37 #[.slice p n c] w fun e w' => Fin w ((tkRecs (bs.length + 1) (bs.drop 8) []).map fun q => (q.1, bs.length - q.2)) e w' := by
  obtain ⟨RES, hRES⟩ : ∃ RES, tkRecs (bs.length + 1) (bs.drop 8) [] = RES := ⟨_, rfl⟩
  rw [hRES]
  have hn := h.2.1
  have hb8 : Below w.heap.size w (w.alloc (.cells #[.int .u8 70, .int .u8 65, .int .u8 84, .int .u8 72, .int .u8 79, .int .u8 77, .int .u8 74, .int .u8 49] 5 (8, 9))) := (Below.refl _ _).alloc (Nat.le_refl _) _
  have hcv : (convert 38 38 (.slice (some ⟨w.heap.size, 0, none⟩) 8 8)).run Tryd.prog (w.alloc (.cells #[.int .u8 70, .int .u8 65, .int .u8 84, .int .u8 72, .int .u8 79, .int .u8 77, .int .u8 74, .int .u8 49] 5)) = .ok (.slice (some ⟨w.heap.size, 0, none⟩) 8 8) (w.alloc (.cells #[.int .u8 70, .int .u8 65, .int .u8 84, .int .u8 72, .int .u8 79, .int .u8 77, .int .u8 74, .int .u8 49] 5 (8, 9))) := Go.Joins.run_convert_bytes_const_at (P := Tryd.prog) w 38 5 #[.int .u8 70, .int .u8 65, .int .u8 84, .int .u8 72, .int .u8 79, .int .u8 77, .int .u8 74, .int .u8 49] 8 8 w.heap.size rfl Tryd.underlying38 (by kernel_rfl)
  have HPX := hide (bprefix_any p n c (.slice (some ⟨w.heap.size, 0, none⟩) 8 8) bs headB _ (h.below hb8) (isBy_head (heap_alloc_new w _)) hb (by decide) (by omega) (by decide))
  have HB8 := hide hb8
  have h8 : 8 ≤ n := by have := congrArg List.length hpre; simp [headB] at this; omega
  obtain ⟨w1, hw1⟩ : ∃ w1, w1 = w.alloc (.cells #[.int .u8 70, .int .u8 65, .int .u8 84, .int .u8 72, .int .u8 79, .int .u8 77, .int .u8 74, .int .u8 49] 5 (8, 9)) := ⟨_, rfl⟩
  rw [← hw1] at hcv HPX HB8
  rw [show decide (bs.take headB.length = headB) = true from decide_eq_true hpre] at HPX
  obtain ⟨p1, hs8, hc8, ho8⟩ := cy_from (h.below HB8.out) 8 h8 (by omega)
  have hs8' : ∀ w', (Instr.slice 38 (.slice p n c) (some (.int .i64 8)) none none).run Tryd.prog w' = .ok (.slice p1 (n - 8) (c - 8)) w' := hs8
  have HST : Hid (Cy w1 p1 (n - 8) (c - 8) (bs.drop 8) ∧ (∀ x ∈ bs.drop 8, x < 256) ∧ (bs.drop 8).length = n - 8 ∧ ∀ k, (Value.slice p1 (n - 8) (c - 8)).ownBlock = some k → k < w.heap.size) := ⟨hc8, fun x hx => hb x (List.mem_of_mem_drop hx), by simp; omega, fun k hk => by
    have e1 := ho8 k hk
    obtain ⟨p', c', e2, e3⟩ := by_slice h.1
    obtain ⟨g, o, e4, e5⟩ := e3 0 (by omega)
    simp at e2
    rw [e2.1, e4] at e1
    simp [Value.ownBlock] at e1
    subst e1
    exact World.block_lt_of_cell? _ _ e5⟩
  have HRES : Hid (tkRecs (n + 1) (bs.drop 8) [] = RES) := by rw [hn]; exact hRES
  rw [← hn]
  rw [← hn] at hl
  have HT := hide hT
  clear h hb hT hb8 hw1 hpre hs8 hc8 hRES hn ho8
  go_enter Tryd.func37, Tryd.ntmps37
  go_wp2_with fail
  refine wp_scope_inv (TI w n RES) (2 * n + 10) ?hI ?h0
  case hI =>
    rintro l m a wk (⟨rfl, f, left, recs, v2, p8, n8, c8, pb, cb, hS⟩ | ⟨rfl, f, left, recs, v2, p8, n8, c8, pb, cb, f2, body, rows, v5, vals, p9, n9, c9, H0, hS⟩ | ⟨rfl, rfl, hRN, hB, hsz, hdf⟩) IH
    · refine ⟨_, rfl, ?_⟩
      have HIH := hide IH
      have HS := hide hS
      obtain ⟨u, hu, ha⟩ := act94 a hS.sz hS.df
      have e0 : u 0 = .slice pb n cb := (hu 0).trans hS.s0
      obtain ⟨p2, c2, hv2⟩ : ∃ p2 c2, v2 = .slice p2 recs.length c2 := by
        obtain ⟨vals, ho, _⟩ := hS.rcs
        rcases ho.2 with ⟨e1, e2⟩ | ⟨g, cap, cur, e1, _⟩
        · exact ⟨none, 0, by rw [e1, e2]⟩
        · exact ⟨_, cap, e1⟩
      have e2 : u 2 = .slice p2 recs.length c2 := ((hu 2).trans hS.s2).trans hv2
      have e8 : u 8 = .slice p8 n8 c8 := (hu 8).trans hS.s8
      have HN8 : Hid (n8 = left.length) := hS.cy.2.1
      have hle : n8 ≤ n := by have := hS.le; have := HN8.out; omega
      have hm : m = 2 * n8 + 1 := by rw [HN8.out]; exact hS.me
      have HV2 := hide hv2
      rw [ha]
      simp only [e0, e2, e8]
      clear hu ha e0 e2 e8 hS IH hv2
      by_cases hA : n8 < 8
      · have hA' : (n8 : Int) < 8 := by omega
        have HR : Hid (RES = some (recs, left.length)) := by show _ = _; rw [← HS.out.res]; exact tkRecs_stop HS.out.fu (by unfold recHead; rw [if_pos (by rw [← HN8.out]; exact hA)])
        go_wp2_with fail
        refine SI_ret ?_
        go_ret3
        refine ⟨HS.out.bel, ?_⟩
        rw [HR.out]
        refine ⟨.slice p2 recs.length c2, ?_, ?_⟩
        · have hsub : ((n - left.length : Nat) : Int) = (n : Int) - (n8 : Int) := by rw [← HN8.out]; omega
          show _ = Ending.returned (.tuple #[.slice p2 recs.length c2, .int .i64 ((n - left.length : Nat) : Int), .int .i64 0])
          rw [hsub]; rfl
        rw [← HV2.out]
        exact HS.out.rcs
      · have hA' : ¬ (n8 : Int) < 8 := by omega
        obtain ⟨p8', c8', hsl, hcell⟩ := by_slice HS.out.cy.1
        obtain ⟨g8, o8, hp8, _⟩ := hcell 0 (by have := HN8.out; omega)
        subst hp8
        obtain ⟨rfl, rfl⟩ : p8 = some ⟨g8, o8, none⟩ ∧ c8 = c8' := by simp at hsl; exact ⟨hsl.1, hsl.2.2⟩
        have hcap := HS.out.cy.2.2.1
        have hc84 : ¬ c8 = 4 := by omega
        have h48 : (4 : Int) ≤ (n8 : Int) := by omega
        obtain ⟨p4, hs4, hc4, _⟩ := cy_from HS.out.cy 4 (by omega) (by omega)
        obtain ⟨x, hx⟩ : ∃ x, num4 left = x := ⟨_, rfl⟩
        obtain ⟨y, hy⟩ : ∃ y, num4 (left.drop 4) = y := ⟨_, rfl⟩
        have hxl : x < 4294967296 := by rw [← hx]; exact num4_lt HS.out.lt (by have := HN8.out; omega)
        have hyl : y < 4294967296 := by rw [← hy]; exact num4_lt (fun z hz => HS.out.lt z (List.mem_of_mem_drop hz)) (by have := HN8.out; simp; omega)
        have hp4 : p4 = some ⟨g8, o8 + 4, none⟩ := by
          have e1 := hs4 wk
          rw [run_slice_l (P := Tryd.prog) (w := wk) (t := 38) (a := some ⟨g8, o8, none⟩) (len := n8) (cap := c8) (ht := Tryd.underlying38) .i64 ((4 : Nat) : Int) (by omega) (by omega)] at e1
          simp [Result.andThen, sliced, Tryd.sizeOf5, Program.elem, Tryd.underlying38, hc84, Addr.add] at e1
          exact e1.symm
        subst hp4
        have HN1 : Hid (∀ w1 : World, w1.heap = wk.heap → Calls Tryd.prog 54 #[.slice (some ⟨g8, o8, none⟩) n8 c8] w1 fun e w' => e = .returned (.int .u32 (x : Int)) ∧ ∃ m, w' = w1.drewN m) := fun w1 hw => by
          rw [← hx]; exact number_any _ left _ (isBy_heap HS.out.cy.1 hw) HS.out.lt (by have := HN8.out; omega) (by have := HN8.out; omega)
        have HN2 : Hid (∀ w1 : World, w1.heap = wk.heap → Calls Tryd.prog 54 #[.slice (some ⟨g8, o8 + 4, none⟩) (n8 - 4) (c8 - 4)] w1 fun e w' => e = .returned (.int .u32 (y : Int)) ∧ ∃ m, w' = w1.drewN m) := fun w1 hw => by
          rw [← hy]; exact number_any _ (left.drop 4) _ (isBy_heap hc4.1 hw) (fun z hz => HS.out.lt z (List.mem_of_mem_drop hz)) (by have := HN8.out; simp; omega) (by have := HN8.out; simp; omega)
        have HX := hide hx
        have HY := hide hy
        clear hsl hcell hs4 hc4 hx hy
        go_upto_region 10 with fail
        refine wp_region_held_drew (S := fun _ => True) (by kernel_rfl) trivial (fun hHeld => ?_)
        refine wpAnyH_take (i := 0) (v := ?_) rfl (by kernel_rfl) (by kernel_rfl) (by kernel_rfl) (fun _ _ _ h => h) (Or.inl ⟨by rfl, ?_⟩) hHeld ?_
        rotate_left
        · (intro wq hSw; (try dsimp only at hSw); (try obtain ⟨s0, s1, s2⟩ := hSw); (go_simp <;> with_reducible rfl))
        try simp only [Act.put, List.getElem_toArray, List.getElem_cons_zero, List.getElem_cons_succ, List.setIfInBounds_toArray, List.set_cons_zero, List.set_cons_succ]
        refine wpAnyH_take (i := 3) (v := ?_) rfl (by kernel_rfl) (by kernel_rfl) (by kernel_rfl) (fun _ _ _ h => h) (Or.inl ⟨by rfl, ?_⟩) hHeld ?_
        rotate_left
        · (intro wq hSw; (try dsimp only at hSw); (try obtain ⟨s0, s1, s2⟩ := hSw); (go_simp <;> with_reducible rfl))
        try simp only [Act.put, List.getElem_toArray, List.getElem_cons_zero, List.getElem_cons_succ, List.setIfInBounds_toArray, List.set_cons_zero, List.set_cons_succ]
        refine wpAnyH_take (i := 4) (v := ?_) rfl (by kernel_rfl) (by kernel_rfl) (by kernel_rfl) (fun _ _ _ h => h) (Or.inl ⟨by rfl, ?_⟩) hHeld ?_
        rotate_left
        · (intro wq hSw; (try dsimp only at hSw); (try obtain ⟨s0, s1, s2⟩ := hSw); (go_simp <;> with_reducible rfl))
        try simp only [Act.put, List.getElem_toArray, List.getElem_cons_zero, List.getElem_cons_succ, List.setIfInBounds_toArray, List.set_cons_zero, List.set_cons_succ]
        refine wpAnyH_ready (rs := [1]) (by kernel_rfl) (by simp) ?_
        refine AllReadyH.cons rfl (fun K hK => ?_) AllReadyH.nil
        go_simp
        refine (HN1.out wk.drew rfl).mono ?_
        rintro _ w1 ⟨rfl, m1, hw1⟩
        have HW1 : Hid (w1.heap = wk.heap ∧ Below wk.heap.size wk w1) := by rw [hw1]; exact ⟨rfl, rfl, rfl, rfl, Nat.le_refl _, fun _ _ => rfl⟩
        clear hw1
        refine hK.out _ _ trivial (fun hHeld => ?_)
        clear hK K
        try simp only [Act.put, List.getElem_toArray, List.getElem_cons_zero, List.getElem_cons_succ, List.setIfInBounds_toArray, List.set_cons_zero, List.set_cons_succ]
        refine wpAnyH_take (i := 2) (v := ?_) rfl (by kernel_rfl) (by kernel_rfl) (by kernel_rfl) (fun _ _ _ h => h) (Or.inl ⟨by rfl, ?_⟩) hHeld ?_
        rotate_left
        · (intro wq hSw; (try dsimp only at hSw); (try obtain ⟨s0, s1, s2⟩ := hSw); (go_simp <;> with_reducible rfl))
        try simp only [Act.put, List.getElem_toArray, List.getElem_cons_zero, List.getElem_cons_succ, List.setIfInBounds_toArray, List.set_cons_zero, List.set_cons_succ]
        refine wpAnyH_ready (rs := [5]) (by kernel_rfl) (by simp) ?_
        refine AllReadyH.cons rfl (fun K hK => ?_) AllReadyH.nil
        go_simp
        refine (HN2.out _ HW1.out.1).mono ?_
        rintro _ w2 ⟨rfl, m2, hw2⟩
        have HW2 : Hid (Below wk.heap.size wk w2) := by rw [hw2]; exact HW1.out.2.trans ⟨rfl, rfl, rfl, Nat.le_refl _, fun _ _ => rfl⟩
        clear hw2 HW1
        refine hK.out _ _ trivial (fun hHeld => ?_)
        clear hK K
        try simp only [Act.put, List.getElem_toArray, List.getElem_cons_zero, List.getElem_cons_succ, List.setIfInBounds_toArray, List.set_cons_zero, List.set_cons_succ]
        refine wpAnyH_take (i := 6) (v := ?_) rfl (by kernel_rfl) (by kernel_rfl) (by kernel_rfl) (fun _ _ _ h => h) (Or.inl ⟨by rfl, ?_⟩) hHeld ?_
        rotate_left
        · (intro wq hSw; (try dsimp only at hSw); (try obtain ⟨s0, s1, s2⟩ := hSw); (go_simp <;> with_reducible rfl))
        try simp only [Act.put, List.getElem_toArray, List.getElem_cons_zero, List.getElem_cons_succ, List.setIfInBounds_toArray, List.set_cons_zero, List.set_cons_succ]
        refine wpAnyH_take (i := 7) (v := ?_) rfl (by kernel_rfl) (by kernel_rfl) (by kernel_rfl) (fun _ _ _ h => h) (Or.inl ⟨by rfl, ?_⟩) hHeld ?_
        rotate_left
        · (intro wq hSw; (try dsimp only at hSw); (try obtain ⟨s0, s1, s2⟩ := hSw); (go_simp <;> with_reducible rfl))
        try simp only [Act.put, List.getElem_toArray, List.getElem_cons_zero, List.getElem_cons_succ, List.setIfInBounds_toArray, List.set_cons_zero, List.set_cons_succ]
        refine wpAnyH_done (by kernel_rfl) ?_ _
        have hwx : IntKind.i64.wrap (x : Int) = (x : Int) := by rw [IntKind.wrap_i64]; omega
        simp only [hwx]
        have HCS : Hid (¬ left.length < 8) := by show ¬ _; rw [← HN8.out]; exact hA
        by_cases hB1 : 4194304 < x
        · have hB1' : (4194304 : Int) < (x : Int) := by omega
          have HR : Hid (RES = none) := by show _ = _; rw [← HS.out.res]; exact tkRecs_bad HS.out.fu (by unfold recHead; rw [if_neg HCS.out, if_pos (by rw [HX.out]; exact hB1)])
          go_wp2_with fail
          refine wp_goto ?_
          exact ⟨0, by omega, .inr (.inr ⟨rfl, rfl, HR.out, HS.out.bel.trans (HW2.out.mono HS.out.bel.size), rfl, rfl⟩)⟩
        · have hB1' : ¬ (4194304 : Int) < (x : Int) := by omega
          by_cases hB2 : n8 - 8 < x
          · have hB2' : (n8 : Int) - 8 < (x : Int) := by omega
            have HR : Hid (RES = some (recs, left.length)) := by show _ = _; rw [← HS.out.res]; exact tkRecs_stop HS.out.fu (by unfold recHead; rw [if_neg HCS.out, if_neg (by rw [HX.out]; exact hB1), if_pos (by rw [HX.out, ← HN8.out]; exact hB2)])
            go_wp2_with fail
            refine SI_ret ?_
            go_ret3
            refine ⟨HS.out.bel.trans (HW2.out.mono HS.out.bel.size), ?_⟩
            rw [HR.out]
            refine ⟨.slice p2 recs.length c2, ?_, ?_⟩
            · have hsub : ((n - left.length : Nat) : Int) = (n : Int) - (n8 : Int) := by rw [← HN8.out]; omega
              show _ = Ending.returned (.tuple #[.slice p2 recs.length c2, .int .i64 ((n - left.length : Nat) : Int), .int .i64 0])
              rw [hsub]; rfl
            rw [← HV2.out]
            exact HS.out.rcs.keep (fun k _ hk => HW2.out.block k hk) (Nat.le_refl _) HW2.out.size
          · have hB2' : ¬ (n8 : Int) - 8 < (x : Int) := by omega
            obtain ⟨pB, hsB, hcB, hoB⟩ := cy_part HS.out.cy 8 (8 + x) (by omega) (by omega) (by omega)
            obtain ⟨pT, hsT, hcT, _⟩ := cy_to HS.out.cy 4 (by omega) (by omega)
            obtain ⟨pL, hsL, hcL, hoL⟩ := cy_from HS.out.cy (8 + x) (by omega) (by omega)
            rw [List.drop_take, Nat.add_sub_cancel_left] at hcB
            rw [Nat.add_sub_cancel_left] at hsB hoB
            have ex : (8 + (x : Int)) = ((8 + x : Nat) : Int) := by omega
            have hsB' : ∀ w', (Instr.sliceAt 38 (.slice (some ⟨g8, o8, none⟩) n8 c8) (some (.int .i64 8)) (some (.int .i64 (8 + (x : Int)))) none).run Tryd.prog w' = .ok (.slice pB x (c8 - 8)) w' := fun w' => by rw [run_sliceAt_slice (P := Tryd.prog) (t := 38) (h := Tryd.underlying38), ex]; exact hsB w'
            have hsT' : ∀ w', (Instr.sliceAt 38 (.slice (some ⟨g8, o8, none⟩) n8 c8) none (some (.int .i64 4)) none).run Tryd.prog w' = .ok (.slice pT 4 c8) w' := fun w' => by rw [run_sliceAt_slice (P := Tryd.prog) (t := 38) (h := Tryd.underlying38)]; exact hsT w'
            have hsL' : ∀ w', (Instr.sliceAt 38 (.slice (some ⟨g8, o8, none⟩) n8 c8) (some (.int .i64 (8 + (x : Int)))) none none).run Tryd.prog w' = .ok (.slice pL (n8 - (8 + x)) (c8 - (8 + x))) w' := fun w' => by rw [run_sliceAt_slice (P := Tryd.prog) (t := 38) (h := Tryd.underlying38), ex]; exact hsL w'
            obtain ⟨cr, hcr⟩ : ∃ cr, crcO (left.take 4 ++ (left.drop 8).take x) = cr := ⟨_, rfl⟩
            have HSUM : Hid (Calls Tryd.prog 41 #[.slice pT 4 c8, .slice pB x (c8 - 8)] w2 fun e w' => e = .returned (.int .u32 (cr : Int)) ∧ Below w2.heap.size w2 w') := by
              rw [← hcr]
              exact sumOf_any _ _ (left.take 4) ((left.drop 8).take x) w2 (isBy_below hcT.1 HW2.out) (isBy_below hcB.1 HW2.out) (fun z hz => HS.out.lt z (List.mem_of_mem_take hz)) (fun z hz => HS.out.lt z (List.mem_of_mem_drop (List.mem_of_mem_take hz))) (by simp; omega) (HT.out.below (HS.out.bel.trans (HW2.out.mono HS.out.bel.size)))
            have HCB := hide hcB
            have HCL := hide hcL
            have HCR := hide hcr
            have HOB : Hid ((∀ k, (Value.slice pB x (c8 - 8)).ownBlock = some k → k < w.heap.size) ∧ ∀ k, (Value.slice pL (n8 - (8 + x)) (c8 - (8 + x))).ownBlock = some k → k < w.heap.size) := ⟨fun k hk => HS.out.ob k (hoB k hk), fun k hk => HS.out.ob k (hoL k hk)⟩
            clear hsB hsT hsL hcT hcB hcL hcr ex hoB hoL
            by_cases hcrc : cr = y
            · subst hcrc
              have HGO : Hid (recHead left = .go ((left.drop 8).take x) (left.drop (8 + x))) := by
                show _ = _
                unfold recHead
                rw [if_neg HCS.out, if_neg (by rw [HX.out]; exact hB1), if_neg (by rw [HX.out, ← HN8.out]; exact hB2), HX.out, if_neg (by rw [HY.out]; simp [HCR.out])]
              go_wp2_with ((go_at_call 41; refine HSUM.out.mono ?_; rintro e w3 ⟨rfl, hB3⟩; have H3 := hide hB3; clear hB3))
              rename_i K hK
              have hbel3 : Below wk.heap.size wk w3 := HW2.out.trans (H3.out.mono HW2.out.size)
              have hl8 := HN8.out
              have hd : (left.drop (8 + x)).length = n8 - (8 + x) := by simp; omega
              have ht : ((left.drop 8).take x).length = x := by simp; omega
              have hle2 := HS.out.le
              have hfu := HS.out.fu
              refine wp_label (hK _ _ (HIH.out 2 (2 * (left.drop (8 + x)).length + ((left.drop 8).take x).length + 2) _ _ _ (by rw [hd, ht]; omega) (.inr (.inl ⟨rfl, f - 1, left.drop (8 + x), recs, .slice p2 recs.length c2, pL, n8 - (8 + x), c8 - (8 + x), pb, cb, ((left.drop 8).take x).length + 1, (left.drop 8).take x, [], .slice none 0 0, [], pB, x, c8 - 8, w3.heap.size, ⟨rfl, rfl, rfl, rfl, rfl, rfl, rfl, HS.out.bel.trans (hbel3.mono HS.out.bel.size), ⟨Nat.le_trans HS.out.bel.size hbel3.size, Nat.le_refl _⟩, ?_, World.ownsRow_nil _ _ _ _, ⟨rfl, fun i v e => by simp at e⟩, by simp, HCL.out.below hbel3, fun z hz => HS.out.lt z (List.mem_of_mem_drop hz), HCB.out.below hbel3, fun z hz => HS.out.lt z (List.mem_of_mem_drop (List.mem_of_mem_take hz)), by rw [hd, ht]; omega, by rw [hd]; omega, Nat.lt_succ_self _, ?_, HOB.out.2, HOB.out.1, rfl⟩⟩)) rfl))
              · rw [← HV2.out]; exact HS.out.rcs.keep (fun k _ hk => hbel3.block k hk) (Nat.le_refl _) hbel3.size
              · rw [← HS.out.res]; exact (tkRecs_go HS.out.fu HGO.out).symm
            · have hcrc' : ¬ (cr : Int) = (y : Int) := by omega
              have HR : Hid (RES = none) := by
                show _ = _
                rw [← HS.out.res]
                refine tkRecs_bad HS.out.fu ?_
                unfold recHead
                rw [if_neg HCS.out, if_neg (by rw [HX.out]; exact hB1), if_neg (by rw [HX.out, ← HN8.out]; exact hB2), HX.out, if_pos (by rw [HY.out, HCR.out]; exact hcrc)]
              go_wp2_with ((go_at_call 41; refine HSUM.out.mono ?_; rintro e w3 ⟨rfl, hB3⟩; have H3 := hide hB3; clear hB3))
              refine wp_goto ?_
              exact ⟨0, by omega, .inr (.inr ⟨rfl, rfl, HR.out, (HS.out.bel.trans (HW2.out.mono HS.out.bel.size)).trans (H3.out.mono (Nat.le_trans HS.out.bel.size HW2.out.size)), rfl, rfl⟩)⟩
    · refine ⟨_, rfl, ?_⟩
      have HIH := hide IH
      have HS := hide hS
      obtain ⟨u, hu, ha⟩ := act94 a hS.sz hS.df
      have e0 : u 0 = .slice pb n cb := (hu 0).trans hS.s0
      obtain ⟨p2, c2, hv2⟩ : ∃ p2 c2, v2 = .slice p2 recs.length c2 := by
        obtain ⟨vals, ho, _⟩ := hS.rcs
        rcases ho.2 with ⟨e1, e2⟩ | ⟨g, cap, cur, e1, _⟩
        · exact ⟨none, 0, by rw [e1, e2]⟩
        · exact ⟨_, cap, e1⟩
      obtain ⟨p5, c5, hv5⟩ : ∃ p5 c5, v5 = .slice p5 rows.length c5 := by
        rcases hS.own.2 with ⟨e1, e2⟩ | ⟨g, cap, cur, e1, _⟩
        · exact ⟨none, 0, by rw [e1, e2]⟩
        · exact ⟨_, cap, e1⟩
      have e2 : u 2 = .slice p2 recs.length c2 := ((hu 2).trans hS.s2).trans hv2
      have e5 : u 5 = .slice p5 rows.length c5 := ((hu 5).trans hS.s5).trans hv5
      have e8 : u 8 = .slice p8 n8 c8 := (hu 8).trans hS.s8
      have e9 : u 9 = .slice p9 n9 c9 := (hu 9).trans hS.s9
      have HN9 : Hid (n9 = body.length) := hS.cb9.2.1
      have hle : n9 + 8 ≤ n := by have := hS.le; have := HN9.out; omega
      have hm : m = 2 * left.length + n9 + 2 := by rw [HN9.out]; exact hS.me
      obtain ⟨nr, hnr⟩ : ∃ nr, recs.length = nr := ⟨_, rfl⟩
      have hnr1 : nr + 8 ≤ n := by have := hS.le; omega
      obtain ⟨nw, hnw⟩ : ∃ nw, rows.length = nw := ⟨_, rfl⟩
      have hnw1 : nw ≤ 4096 := by rw [← hnw]; exact hS.rl
      have HNR := hide hnr
      have HNW := hide hnw
      rw [ha]
      simp only [e0, e2, e5, e8, e9, hnr, hnw]
      rw [hnr] at hv2
      rw [hnw] at hv5
      have HV2 := hide hv2
      have HV5 := hide hv5
      clear hu ha e0 e2 e5 e8 e9 hS IH hv2 hv5 hnr hnw
      by_cases hA : n9 = 0
      · have hA' : (n9 : Int) = 0 := by omega
        obtain ⟨i37, hi37⟩ := info37
        have Hi := hide hi37
        obtain ⟨valsR, hor, hkr, hrv⟩ := HS.out.rcs
        rw [HV2.out, HNR.out] at hor
        have HOR := hide hor
        have HRS : Hid (tkRecs f left (recs ++ [rows]) = RES) := by
          show _ = _
          have := HS.out.res
          rw [tkRows_stop HS.out.fu2 (by unfold rowHead; rw [if_pos (by rw [← HN9.out]; exact hA)])] at this
          exact this
        have HLO : Hid (w.heap.size ≤ wk.heap.size) := HS.out.bel.size
        clear hi37 hor
        subst hA
        go_wp2_with (at_builtin; refine wpList_append_own_at _ rfl _ _ _ rfl w.heap.size 35 i37 (.slice none 0 0) 1 24 Tryd.underlying22 Hi.out.1 Hi.out.2.1 Hi.out.2.2.1 Hi.out.2.2.2 rfl (by decide) (.slice p2 nr c2) nr valsR rfl (HOR.out.alloc _) ⟨wk.heap.size, 0, none⟩ 1 1 [.slice p5 nw c5] rfl rfl (World.news_of_block (heap_alloc_new wk _)) ?f1 ?f4 ?f5 ?f7 ?f6)
        case f1 => intro z hz; simp at hz; subst hz; rfl
        case f4 => unfold maxLen; omega
        case f5 => omega
        case f7 => have := HLO.out; simp; omega
        case f6 =>
          intro v3 w2 ho2 hg2 _ hat
          have HF : Hid (RecsAt w2 w.heap.size w2.heap.size v3 (recs ++ [rows]) ∧ Below w.heap.size wk w2) := by
            have hsz2 : wk.heap.size ≤ w2.heap.size := Nat.le_trans (by simp) hg2.size
            have hne : ∀ k, k < wk.heap.size → (some k ≠ (Value.slice p2 nr c2).ownBlock) → w2.heap[k]? = wk.heap[k]? := fun k hk hx => (hg2.block k (by simp; omega) hx).trans (Below.heap_alloc _ _ _ hk)
            have hty : ∀ k cs t, w.heap.size ≤ k → k < wk.heap.size → wk.heap[k]? = some (.cells cs t (0, 0)) → t = 5 ∨ t = 38 → w2.heap[k]? = wk.heap[k]? := fun k cs t _ hk hc ht => hne k hk fun e => by
              rcases HOR.out.2 with ⟨e1, _⟩ | ⟨g', cap, cur, e1, _, e3, _⟩
              · rw [e1] at e; simp [Value.ownBlock] at e
              · rw [e1] at e; simp [Value.ownBlock] at e; subst e; rw [hc] at e3; simp at e3; rcases ht with rfl | rfl <;> simp at e3
            have h0 := HS.out.h0
            refine ⟨RecsAt.more hrv (by rw [HNR.out]; exact ho2) ?_ (Nat.le_trans h0.2 hsz2) (fun k cs t a1 a2 a3 a4 => hty k cs t a1 (Nat.lt_of_lt_of_le a2 h0.2) a3 a4), hg2.os, hg2.tape, hg2.output, hsz2, fun k hk => hne k (Nat.lt_of_lt_of_le hk HLO.out) fun e => ?_⟩
            · have hrows : RowsAt wk w.heap.size wk.heap.size (.slice p5 nw c5) rows := ⟨vals, by rw [← HV5.out]; exact ownsRow_low HS.out.own h0.1, fun k e => by rw [← HV5.out] at e; exact (HS.out.own.lt k e).2, HS.out.row⟩
              exact hrows.keep hty (Nat.le_refl _) hsz2
            · have := (HOR.out.lt k e.symm).1; omega
          clear ho2 hg2 hat
          go_wp2_with fail
          refine wp_goto ?_
          exact ⟨2 * left.length + 1, by omega, .inl ⟨rfl, f, left, recs ++ [rows], v3, p8, n8, c8, pb, cb, ⟨rfl, rfl, rfl, rfl, rfl, HS.out.bel.trans HF.out.2, HF.out.1, HS.out.cy.low HS.out.ob (fun k hk => HF.out.2.block k hk), HS.out.lt, by have := HS.out.le; simp; omega, HS.out.fu, HRS.out, HS.out.ob, rfl⟩⟩⟩
      · have hA' : ¬ (n9 : Int) = 0 := by omega
        have hbad : rowHead body rows.length = .bad → RES = none := fun h => by
          have := HS.out.res
          rw [tkRows_bad HS.out.fu2 h] at this
          exact this.symm
        have HBAD := hide hbad
        have HC0 : Hid (¬ body.length = 0) := by show ¬ _; rw [← HN9.out]; exact hA
        clear hbad
        by_cases hD : n9 < 4
        · have hD' : (n9 : Int) < 4 := by omega
          have HR : Hid (RES = none) := HBAD.out (by unfold rowHead; rw [if_neg HC0.out, if_pos (by rw [← HN9.out]; exact hD)])
          go_wp2_with fail
          refine wp_goto ?_
          exact ⟨0, by omega, .inr (.inr ⟨rfl, rfl, HR.out, HS.out.bel, rfl, rfl⟩)⟩
        · have hD' : ¬ (n9 : Int) < 4 := by omega
          obtain ⟨x, hx⟩ : ∃ x, num4 body = x := ⟨_, rfl⟩
          have hxl : x < 4294967296 := by rw [← hx]; exact num4_lt HS.out.lt9 (by have := HN9.out; omega)
          have HN1 : Hid (∀ w1 : World, w1.heap = wk.heap → Calls Tryd.prog 54 #[.slice p9 n9 c9] w1 fun e w' => e = .returned (.int .u32 (x : Int)) ∧ ∃ m, w' = w1.drewN m) := fun w1 hw => by
            rw [← hx]; exact number_any _ body _ (isBy_heap HS.out.cb9.1 hw) HS.out.lt9 (by have := HN9.out; omega) (by have := HN9.out; omega)
          have HX := hide hx
          have HC4 : Hid (¬ body.length < 4) := by show ¬ _; rw [← HN9.out]; exact hD
          have hwx : IntKind.i64.wrap (x : Int) = (x : Int) := by rw [IntKind.wrap_i64]; omega
          clear hx
          by_cases hE : n9 - 4 < x
          · have hE' : (n9 : Int) - 4 < (x : Int) := by omega
            have HR : Hid (RES = none) := HBAD.out (by unfold rowHead; rw [if_neg HC0.out, if_neg HC4.out, if_pos (by rw [HX.out, ← HN9.out]; exact hE)])
            go_wp2_with (go_at_call 54; refine (HN1.out _ rfl).mono ?_; rintro e w1 ⟨rfl, m1, hw1⟩; have HW1 : Hid (Below wk.heap.size wk w1) := (by rw [hw1]; exact ⟨rfl, rfl, rfl, Nat.le_refl _, fun _ _ => rfl⟩); clear hw1)
            refine wp_goto ?_
            exact ⟨0, by omega, .inr (.inr ⟨rfl, rfl, HR.out, HS.out.bel.trans (HW1.out.mono HS.out.bel.size), rfl, rfl⟩)⟩
          · have hE' : ¬ (n9 : Int) - 4 < (x : Int) := by omega
            by_cases hF : nw = 4096
            · have hF' : (nw : Int) = 4096 := by omega
              have HR : Hid (RES = none) := HBAD.out (by unfold rowHead; rw [if_neg HC0.out, if_neg HC4.out, if_neg (by rw [HX.out, ← HN9.out]; exact hE), if_pos (by rw [HNW.out]; exact hF)])
              go_wp2_with (go_at_call 54; refine (HN1.out _ rfl).mono ?_; rintro e w1 ⟨rfl, m1, hw1⟩; have HW1 : Hid (Below wk.heap.size wk w1) := (by rw [hw1]; exact ⟨rfl, rfl, rfl, Nat.le_refl _, fun _ _ => rfl⟩); clear hw1)
              refine wp_goto ?_
              exact ⟨0, by omega, .inr (.inr ⟨rfl, rfl, HR.out, HS.out.bel.trans (HW1.out.mono HS.out.bel.size), rfl, rfl⟩)⟩
            · have hF' : ¬ (nw : Int) = 4096 := by omega
              have hF2 : ((nw : Int) == 4096) = false := by rw [beq_eq_false_iff_ne]; omega
              have HGO : Hid (rowHead body rows.length = .go ((body.drop 4).take x) (body.drop (4 + x))) := by
                show _ = _
                unfold rowHead
                rw [if_neg HC0.out, if_neg HC4.out, if_neg (by rw [HX.out, ← HN9.out]; exact hE), if_neg (by rw [HNW.out]; exact hF), HX.out]
              obtain ⟨pR, hsR, hcR, hoR⟩ := cy_part HS.out.cb9 4 (4 + x) (by omega) (by omega) (by omega)
              obtain ⟨pL, hsL, hcL, hoL⟩ := cy_from HS.out.cb9 (4 + x) (by omega) (by omega)
              rw [List.drop_take, Nat.add_sub_cancel_left] at hcR
              rw [Nat.add_sub_cancel_left] at hsR hoR
              have ex : (4 + (x : Int)) = ((4 + x : Nat) : Int) := by omega
              have hsR' : ∀ w', (Instr.sliceAt 38 (.slice p9 n9 c9) (some (.int .i64 4)) (some (.int .i64 (4 + (x : Int)))) none).run Tryd.prog w' = .ok (.slice pR x (c9 - 4)) w' := fun w' => by rw [run_sliceAt_slice (P := Tryd.prog) (t := 38) (h := Tryd.underlying38), ex]; exact hsR w'
              have hsL' : ∀ w', (Instr.sliceAt 38 (.slice p9 n9 c9) (some (.int .i64 (4 + (x : Int)))) none none).run Tryd.prog w' = .ok (.slice pL (n9 - (4 + x)) (c9 - (4 + x))) w' := fun w' => by rw [run_sliceAt_slice (P := Tryd.prog) (t := 38) (h := Tryd.underlying38), ex]; exact hsL w'
              have HCL := hide hcL
              have HOL : Hid (∀ k, (Value.slice pL (n9 - (4 + x)) (c9 - (4 + x))).ownBlock = some k → k < w.heap.size) := fun k hk => HS.out.ob9 k (hoL k hk)
              have HCN : Hid (∀ w2 : World, w2.heap = wk.heap → Calls Tryd.prog 51 #[.slice pR x (c9 - 4)] w2 fun e w' => ∃ v2, e = .returned v2 ∧ OB w2.heap.size w2 ((body.drop 4).take x) v2 w') := fun w2 hw => bclone_any _ _ w2 (isBy_heap hcR.1 hw) (by simp; omega)
              have HRL : Hid (((body.drop 4).take x).length = x) := by show _ = _; have := HN9.out; simp; omega
              obtain ⟨i40, hi40⟩ := info40
              have Hi := hide hi40
              clear hsR hsL hcR hcL hoR hoL ex hi40
              go_wp2_with (first
                | (go_at_call 54; refine (HN1.out _ (by first | rfl | exact HW1.out.1)).mono ?_; rintro e w1 ⟨rfl, m1, hw1⟩; have HW1 : Hid (w1.heap = wk.heap ∧ Below wk.heap.size wk w1) := (by rw [hw1]; first | exact ⟨rfl, rfl, rfl, rfl, Nat.le_refl _, fun _ _ => rfl⟩ | exact ⟨HW1.out.1, HW1.out.2.os, HW1.out.2.tape, HW1.out.2.output, HW1.out.2.size, HW1.out.2.block⟩); clear hw1)
                | (go_at_call 51; refine (HCN.out _ HW1.out.1).mono ?_; rintro e w3 ⟨v3, rfl, hO3⟩; have HO3 := hide hO3; obtain ⟨p3, c3, hv3⟩ := hO3.slice; rw [HRL.out] at hv3; subst hv3; clear hO3; have HOW : Hid (w3.ownsRow H0 38 1 (.slice p5 nw c5) nw vals) := (by rw [← HV5.out, ← HNW.out]; exact ownsRow_keep HS.out.own fun g hg => (HO3.out.bel.block g (by rw [HW1.out.1]; exact (HS.out.own.lt g hg).2)).trans (by rw [HW1.out.1])))
                | (at_builtin; refine wpList_append_own_at _ rfl _ _ _ rfl H0 38 i40 (.slice none 0 0) 1 24 Tryd.underlying35 Hi.out.1 Hi.out.2.1 Hi.out.2.2.1 Hi.out.2.2.2 rfl (by decide) (.slice p5 nw c5) nw vals rfl (HOW.out.alloc _) ⟨w3.heap.size, 0, none⟩ 1 1 [.slice p3 x c3] rfl rfl (World.news_of_block (heap_alloc_new w3 _)) ?h1 ?h4 ?h5 ?h7 ?h6))
              case h1 => intro z hz; simp at hz; subst hz; rfl
              case h4 => unfold maxLen; omega
              case h5 => omega
              case h7 => have h0 := HS.out.h0; have h3 := HO3.out.bel.size; rw [HW1.out.1] at h3; simp; omega
              case h6 =>
                intro v6 w4 ho4 hg4 _ hat
                have hb3 : Below wk.heap.size wk w3 := by have := HO3.out.bel; rw [HW1.out.1] at this; exact HW1.out.2.trans this
                have hsz4 : w3.heap.size ≤ w4.heap.size := Nat.le_trans (by simp) hg4.size
                have hne : ∀ k, k < w3.heap.size → (some k ≠ (Value.slice p5 nw c5).ownBlock) → w4.heap[k]? = w3.heap[k]? := fun k hk hx => (hg4.block k (by simp; omega) hx).trans (Below.heap_alloc _ _ _ hk)
                have hge : ∀ k, some k = (Value.slice p5 nw c5).ownBlock → H0 ≤ k := fun k e => (HOW.out.lt k e.symm).1
                have h0 := HS.out.h0
                have HF : Hid (Below w.heap.size wk w4 ∧ RecsAt w4 w.heap.size H0 (.slice p2 nr c2) recs ∧ w4.ownsRow H0 38 1 v6 (rows ++ [(body.drop 4).take x]).length (vals ++ [.slice p3 x c3]) ∧ RowV w4 w.heap.size w4.heap.size (vals ++ [.slice p3 x c3]) (rows ++ [(body.drop 4).take x]) ∧ wk.heap.size ≤ w4.heap.size) := by
                  refine ⟨⟨hg4.os.trans hb3.os, hg4.tape.trans hb3.tape, hg4.output.trans hb3.output, Nat.le_trans hb3.size hsz4, fun k hk => ?_⟩, ?_, ?_, ?_, Nat.le_trans hb3.size hsz4⟩
                  · have hk2 : k < wk.heap.size := by omega
                    exact (hne k (Nat.lt_of_lt_of_le hk2 hb3.size) (fun e => by have := hge k e; omega)).trans (hb3.block k hk2)
                  · rw [← HV2.out]
                    exact HS.out.rcs.keep (fun k _ hk => (hne k (by have := hb3.size; omega) (fun e => by have := hge k e; omega)).trans (hb3.block k (by omega))) (Nat.le_refl _) (Nat.le_refl _)
                  · rw [List.length_append, HNW.out]; exact ho4
                  · have hty : ∀ k cs, k < w3.heap.size → w3.heap[k]? = some (.cells cs 5 (0, 0)) → w4.heap[k]? = w3.heap[k]? := fun k cs hk hc => hne k hk fun e => by
                      rcases HOW.out.2 with ⟨e1, _⟩ | ⟨g', cap, cur, e1, _, e3, _⟩
                      · rw [e1] at e; simp [Value.ownBlock] at e
                      · rw [e1] at e; simp [Value.ownBlock] at e; subst e; rw [hc] at e3; simp at e3
                    refine (HS.out.row.keep8 (w' := w4) (hi' := w4.heap.size) (fun k cs _ hk hc => ?_) (Nat.le_trans hb3.size hsz4)).more ⟨?_, fun k e => ?_⟩
                    · have hc3 := (hb3.block k hk).trans hc
                      exact (hty k cs (Nat.lt_of_lt_of_le hk hb3.size) hc3).trans (hb3.block k hk)
                    · have hby := HO3.out.by_
                      refine isBy_keep hby fun k e => ?_
                      have hown := HO3.out.own
                      rw [HRL.out] at hown
                      rcases hown.2 with ⟨e1, _⟩ | ⟨g', cap, cur, e1, _, e3, _⟩
                      · rw [e1] at e; simp [Value.ownBlock] at e
                      · rw [e1] at e; simp [Value.ownBlock] at e; subst e; exact hty _ _ (heap_lt e3) e3
                    · have hown := HO3.out.own
                      rw [HRL.out] at hown
                      have hlt := hown.lt k e
                      rw [HW1.out.1] at hlt
                      rcases hown.2 with ⟨e1, _⟩ | ⟨g', cap, cur, e1, _, e3, _⟩
                      · rw [e1] at e; simp [Value.ownBlock] at e
                      · have eg : g' = k := by rw [e1] at e; simpa [Value.ownBlock] using e
                        subst eg
                        exact ⟨⟨by omega, by omega⟩, cur, (hty _ _ (heap_lt e3) e3).trans e3⟩
                clear ho4 hg4 hat hb3 hsz4 hne hge h0
                go_wp2_with fail
                refine wp_goto ?_
                have hl9 : (body.drop (4 + x)).length = n9 - (4 + x) := by have := HN9.out; simp; omega
                refine ⟨2 * left.length + (body.drop (4 + x)).length + 2, by rw [hl9]; omega, .inr (.inl ⟨rfl, f, left, recs, .slice p2 nr c2, p8, n8, c8, pb, cb, f2 - 1, body.drop (4 + x), rows ++ [(body.drop 4).take x], v6, vals ++ [.slice p3 x c3], pL, n9 - (4 + x), c9 - (4 + x), H0, ⟨rfl, rfl, rfl, rfl, rfl, rfl, rfl, HS.out.bel.trans HF.out.1, ⟨HS.out.h0.1, Nat.le_trans HS.out.h0.2 HF.out.2.2.2.2⟩, HF.out.2.1, HF.out.2.2.1, HF.out.2.2.2.1, by rw [List.length_append, HNW.out]; simp; omega, HS.out.cy.low HS.out.ob (fun k hk => HF.out.1.block k hk), HS.out.lt, HCL.out.low HOL.out (fun k hk => HF.out.1.block k hk), fun z hz => HS.out.lt9 z (List.mem_of_mem_drop hz), by have := HS.out.le; rw [hl9]; have := HN9.out; omega, HS.out.fu, by have := HS.out.fu2; have := HN9.out; rw [hl9]; omega, ?_, HS.out.ob, HOL.out, rfl⟩⟩)⟩
                rw [← HS.out.res, tkRows_go HS.out.fu2 HGO.out]
    · refine ⟨_, rfl, ?_⟩
      obtain ⟨u, hu, ha⟩ := act94 a hsz hdf
      rw [ha]
      have HB := hide hB
      have HRN := hide hRN
      clear hu ha hsz hdf hB IH hRN
      go_wp2_with fail
      refine SI_ret ?_
      go_ret3
      refine ⟨HB.out, ?_⟩
      rw [HRN.out]
      rfl
  case h0 =>
    intro IH
    have HIH := hide IH
    clear IH
    go_wp2_with (first | simp only [hs8'] | (go_at_call 53; refine HPX.out.mono ?_; rintro e w' ⟨rfl, hw⟩; obtain rfl := hw))
    rename_i K hK
    refine wp_label (hK _ _ (HIH.out 1 (2 * (n - 8) + 1) _ _ _ (by omega) (.inl ⟨rfl, n + 1, bs.drop 8, [], .slice none 0 0, p1, n - 8, c - 8, p, c, ⟨rfl, rfl, rfl, rfl, rfl, HB8.out, ⟨[], World.ownsRow_nil _ _ _ _, (fun k e => by simp [Value.ownBlock] at e), rfl, (fun i v e => by simp at e)⟩, HST.out.1, HST.out.2.1, by rw [HST.out.2.2.1]; simp, by rw [HST.out.2.2.1]; omega, HRES.out, HST.out.2.2.2, by rw [HST.out.2.2.1]⟩⟩) rfl))

end Go.Proofs.YtgmahgfelbkoeaaDoor

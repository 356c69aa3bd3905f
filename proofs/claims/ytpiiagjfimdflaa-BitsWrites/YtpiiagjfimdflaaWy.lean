/- The walk of BitsWrites. -/
import Derived.Test.YtpiiagjfimdflaaWx
import Derived.Test.YtpiiagjfimdflaaRi
namespace Go.Proofs.Ytpiiagjfimdflaa
open Go.RowKit
open M
set_option linter.unusedVariables false
set_option linter.unusedSimpArgs false

set_option maxRecDepth 100000 in
set_option maxHeartbeats 16000000 in
theorem writes_any (a0 : Option Addr) (b off len cap : Nat) (d n m : Nat → Int) (x : Nat → Nat) (w : World)
    (hlen : len ≤ 9223372036854775807) (ha0 : 0 < len → a0 = some ⟨b, off, none⟩ ∧ b < w.heap.size) (hops : ∀ i, i < len → OpAt w b (off + i * 4) (d i) (n i) (m i) (x i)) :
    Calls Try.prog 3 #[.slice a0 len cap] w fun e w' => e = .returned (.bool true) ∧ Below w.heap.size w w' := by
  have HO : Hid (∀ i, i < len → OpAt w b (off + i * 4) (d i) (n i) (m i) (x i)) := hops
  have HA0 : Hid (0 < len → a0 = some ⟨b, off, none⟩ ∧ b < w.heap.size) := ha0
  clear hops ha0
  obtain ⟨ws, hws⟩ : ∃ ws, ws = ((((w.alloc (.cells Try.zeroCells28 28)).alloc (.cells #[.slice none 0 0, .int .i64 0, .slice none 0 0, .int .i64 0] 32)).alloc (.cells bookZ 59)).alloc (.cells #[.slice none 0 0, .slice none 0 0] 62)) := ⟨_, rfl⟩
  have S0 : Hid (MSt w 0 (2 * 0) ws) := by rw [hws]; exact start_any w
  go_enter Try.func3, Try.ntmps3
  go_wp2_with (refine wpList_build59 rfl rfl ?_)
  rw [← hws]
  clear hws
  generalize hNL : w.heap.size + 1 + 1 + 1 = NL
  generalize hNB : w.heap.size + 1 + 1 = NB
  generalize hNV : w.heap.size + 1 = NV
  have HNL : Hid (w.heap.size + 3 = NL) := hNL
  have HNB : Hid (w.heap.size + 2 = NB) := hNB
  have HNV : Hid (w.heap.size + 1 = NV) := hNV
  clear hNL hNB hNV
  go_loopw [7] (fun t7 wr => ∃ i : Nat, i ≤ 400 ∧ t7 = .int .i64 i ∧ Hid (i ≤ len) ∧ Hid (MSt w i (2 * i) wr)) (fun t7 _ => 400 - (intOf t7).toNat)
  case atStart => exact ⟨0, by omega, rfl, Nat.zero_le _, S0⟩
  case round =>
    obtain ⟨i, hi, rfl, Hi, HS⟩ := hrel
    clear S0
    by_cases hi1 : i < len
    · by_cases hi2 : i < 400
      · obtain ⟨ha0, hb⟩ := HA0.out (by omega)
        subst ha0
        obtain ⟨o0, o1, o2, o3, bd, bn, bx, bm⟩ := HO.out i hi1
        have ec : ∀ j, wr.cell? ⟨b, off + i * 4 + j, none⟩ = w.cell? ⟨b, off + i * 4 + j, none⟩ := fun j => HS.out.below.cell (p := ⟨b, off + i * 4 + j, none⟩) hb
        have e0 := (ec 0).trans o0
        have e1 := (ec 1).trans o1
        have e2 := (ec 2).trans o2
        have e3 := (ec 3).trans o3
        rw [Nat.add_zero] at e0
        have HD : Hid (w.cell? ⟨b, off + i * 4, none⟩ = some (.int .i64 (d i)) ∧ w.cell? ⟨b, off + i * 4 + 1, none⟩ = some (.int .i64 (n i)) ∧ w.cell? ⟨b, off + i * 4 + 2, none⟩ = some (.int .u64 (x i : Int)) ∧ w.cell? ⟨b, off + i * 4 + 3, none⟩ = some (.int .i64 (m i))) := ⟨o0, o1, o2, o3⟩
        clear ec o0 o1 o2 o3
        generalize d i = dd at *
        generalize n i = nn at *
        generalize m i = mm at *
        generalize x i = xx at *
        have HKeep : Hid (∀ w', Below w.heap.size w w' → w'.cell? ⟨b, off + i * 4, none⟩ = some (.int .i64 dd) ∧ w'.cell? ⟨b, off + i * 4 + 1, none⟩ = some (.int .i64 nn) ∧ w'.cell? ⟨b, off + i * 4 + 2, none⟩ = some (.int .u64 (xx : Int)) ∧ w'.cell? ⟨b, off + i * 4 + 3, none⟩ = some (.int .i64 mm)) := fun w' hB =>
          ⟨(hB.cell (p := ⟨b, off + i * 4, none⟩) hb).trans HD.out.1, (hB.cell (p := ⟨b, off + i * 4 + 1, none⟩) hb).trans HD.out.2.1, (hB.cell (p := ⟨b, off + i * 4 + 2, none⟩) hb).trans HD.out.2.2.1, (hB.cell (p := ⟨b, off + i * 4 + 3, none⟩) hb).trans HD.out.2.2.2⟩
        have hand := i64_and1 nn
        rcases (show nn % 2 = 0 ∨ nn % 2 = 1 from by omega) with h2 | h2 <;> rw [h2] at hand
        · have HL : Hid (Calls Try.prog 9 #[.pointer (some ⟨w.heap.size, 0, none⟩), .pointer (some ⟨NV, 0, none⟩), .agg #[.int .i64 dd, .int .i64 nn, .int .u64 xx, .int .i64 mm]] wr.drew fun q w' => q = .returned (.tuple #[]) ∧ MSt w (i + 1) (2 * i) w') := by rw [← HNV.out]; exact layM0 (HS.out.drewN 1) (by omega) dd nn mm xx bx
          clear HS
          go_wp2_with fail
          go_region_held3 (fun w' => w'.cell? ⟨b, off + i * 4, none⟩ = some (.int .i64 dd) ∧ w'.cell? ⟨b, off + i * 4 + 1, none⟩ = some (.int .i64 nn) ∧ w'.cell? ⟨b, off + i * 4 + 2, none⟩ = some (.int .u64 (xx : Int)) ∧ w'.cell? ⟨b, off + i * 4 + 3, none⟩ = some (.int .i64 mm)) (first | exact ⟨e0, e1, e2, e3⟩ | exact HKeep.out _ M5.below)
            (first | (go_at_call 9; refine HL.out.mono ?_; rintro _ w5 ⟨rfl, M5⟩))
          have HM5 : Hid (MSt w (i + 1) (2 * i) w5) := M5
          obtain ⟨f0, f1, f2, f3⟩ := HKeep.out _ M5.below
          obtain ⟨nl, pL, cL, g1, g2⟩ := lenM0 M5
          rw [HNV.out] at g2
          have HLen : Hid (Calls Try.prog 10 #[.pointer (some ⟨w.heap.size, 0, none⟩)] w5.drew fun e w' => e = .returned (.int .i64 (nl : Int)) ∧ w' = w5.drew) := wlen_any w.heap.size 0 (nl : Int) w5.drew (by simpa using g1)
          have HSet : Hid (∀ w', MSt w (i + 1) (2 * i + 2) w' → Calls Try.prog 12 #[.pointer (some ⟨NL, 0, none⟩), .pointer (some ⟨NB, 0, none⟩), .int .i64 6] w' fun q w'' => q = .returned (.bool true) ∧ MSt w (i + 1) (2 * i + 2) w'' ∧ ∀ o, w''.cell? ⟨NV, o, none⟩ = w'.cell? ⟨NV, o, none⟩) := fun w' hM => by rw [← HNL.out, ← HNB.out, ← HNV.out]; exact settleM hM 6 (by omega)
          have HDone : Hid (∀ w', MSt w (i + 1) (2 * i) w' → Calls Try.prog 11 #[.pointer (some ⟨w.heap.size, 0, none⟩), .pointer (some ⟨NV, 0, none⟩), .pointer (some ⟨NL, 0, none⟩)] w' fun q w'' => q = .returned (.bool true) ∧ MSt w (i + 1) (2 * i + 2) w'' ∧ ∀ o, w''.cell? ⟨NV, o, none⟩ = w'.cell? ⟨NV, o, none⟩) := fun w' hM => by rw [← HNV.out, ← HNL.out]; exact doneM0 hM (by omega) (by omega)
          have HMd : Hid (MSt w (i + 1) (2 * i) w5.drew ∧ MSt w (i + 1) (2 * i + 2) w5.drew) := ⟨M5.drewN 1, (M5.drewN 1).more (by omega)⟩
          clear M5 e0 e1 e2 e3 HL g1
          by_cases h6 : dd = 6
          · have h6' : (dd == 6) = true := by rw [beq_iff_eq]; exact h6
            clear h6
            go_wp2_with fail
            go_region_held3 (fun w' => w'.cell? ⟨b, off + i * 4, none⟩ = some (.int .i64 dd) ∧ w'.cell? ⟨NV, 0, none⟩ = some (.slice pL nl cL)) (first | exact ⟨f0, g2⟩ | exact ⟨(HKeep.out _ M8.below).1, (N8 _).trans ((N7 _).trans g2)⟩ | exact ⟨(HKeep.out _ M7.below).1, (N7 _).trans g2⟩)
              (first
                | (go_at_call 10; refine HLen.out.mono ?_; rintro _ w6 ⟨rfl, rfl⟩)
                | (go_at_call 11; refine (HDone.out _ HMd.out.1).mono ?_; rintro _ w7 ⟨rfl, M7, N7⟩)
                | (go_at_call 12; refine (HSet.out _ M7).mono ?_; rintro _ w8 ⟨rfl, M8, N8⟩))
            have HN : Hid (MSt w (i + 1) (2 * (i + 1)) w8) := M8
            clear M7 N7 M8 N8 HLen HSet HDone HMd HM5 f0 f1 f2 f3 g2
            go_wp2_with fail
            go_roundw
            case rel => exact ⟨i + 1, by omega, by go_num, hi1, HN⟩
            case measure => simp [intOf]; omega
          · have h6' : (dd == 6) = false := by rw [beq_eq_false_iff_ne]; exact h6
            go_wp2_with fail
            refine wp_region_held_drew (S := fun w' => w'.cell? ⟨b, off + i * 4, none⟩ = some (.int .i64 dd) ∧ w'.cell? ⟨NV, 0, none⟩ = some (.slice pL nl cL)) (by kernel_rfl) ⟨f0, g2⟩ (fun hHeld => ?_)
            refine wpAnyH_take (i := 0) (v := ?_) rfl (by kernel_rfl) (by kernel_rfl) (by kernel_rfl) (fun _ _ _ h => h) (Or.inl ⟨by rfl, ?_⟩) hHeld ?_
            rotate_left
            · (intro w hSw; (try dsimp only at hSw); (go_simp <;> with_reducible rfl))
            simp only [Act.put, List.getElem_toArray, List.getElem_cons_zero, List.getElem_cons_succ, List.setIfInBounds_toArray, List.set_cons_zero, List.set_cons_succ]
            refine wpAnyH_take (i := 1) (v := ?_) rfl (by kernel_rfl) (by kernel_rfl) (by kernel_rfl) (fun _ _ _ h => h) (Or.inl ⟨by rfl, ?_⟩) hHeld ?_
            rotate_left
            · (intro w hSw; (try dsimp only at hSw); (go_simp <;> with_reducible rfl))
            simp only [Act.put, List.getElem_toArray, List.getElem_cons_zero, List.getElem_cons_succ, List.setIfInBounds_toArray, List.set_cons_zero, List.set_cons_succ]
            refine wpAnyH_take (i := 3) (v := ?_) rfl (by kernel_rfl) (by kernel_rfl) (by kernel_rfl) (fun _ _ _ h => h) (Or.inl ⟨by rfl, ?_⟩) hHeld ?_
            rotate_left
            · (intro w hSw; (try dsimp only at hSw); (go_simp <;> with_reducible rfl))
            simp only [Act.put, List.getElem_toArray, List.getElem_cons_zero, List.getElem_cons_succ, List.setIfInBounds_toArray, List.set_cons_zero, List.set_cons_succ]
            refine wpAnyH_take (i := 4) (v := ?_) rfl (by kernel_rfl) (by kernel_rfl) (by kernel_rfl) (fun _ _ _ h => h) (Or.inl ⟨by rfl, ?_⟩) hHeld ?_
            rotate_left
            · (intro w hSw; (try dsimp only at hSw); (go_simp <;> with_reducible rfl))
            simp only [Act.put, List.getElem_toArray, List.getElem_cons_zero, List.getElem_cons_succ, List.setIfInBounds_toArray, List.set_cons_zero, List.set_cons_succ]
            refine wpAnyH_take (i := 5) (v := ?_) rfl (by kernel_rfl) (by kernel_rfl) (by kernel_rfl) (fun _ _ _ h => h) (Or.inl ⟨by rfl, ?_⟩) hHeld ?_
            rotate_left
            · (intro w hSw; (try dsimp only at hSw); (go_simp <;> with_reducible rfl))
            simp only [Act.put, List.getElem_toArray, List.getElem_cons_zero, List.getElem_cons_succ, List.setIfInBounds_toArray, List.set_cons_zero, List.set_cons_succ]
            refine wpAnyH_take (i := 6) (v := ?_) rfl (by kernel_rfl) (by kernel_rfl) (by kernel_rfl) (fun _ _ _ h => h) (Or.inl ⟨by rfl, ?_⟩) hHeld ?_
            rotate_left
            · (intro w hSw; (try dsimp only at hSw); (go_simp <;> with_reducible rfl))
            simp only [Act.put, List.getElem_toArray, List.getElem_cons_zero, List.getElem_cons_succ, List.setIfInBounds_toArray, List.set_cons_zero, List.set_cons_succ]
            refine wpAnyH_take (i := 7) (v := ?_) rfl (by kernel_rfl) (by kernel_rfl) (by kernel_rfl) (fun _ _ _ h => h) (Or.inl ⟨by rfl, ?_⟩) hHeld ?_
            rotate_left
            · (intro w hSw; (try dsimp only at hSw); (go_simp <;> with_reducible rfl))
            simp only [Act.put, List.getElem_toArray, List.getElem_cons_zero, List.getElem_cons_succ, List.setIfInBounds_toArray, List.set_cons_zero, List.set_cons_succ]
            refine wpAnyH_ready (rs := [2]) (by kernel_rfl) (by simp) ?_
            refine AllReadyH.cons rfl (fun K hK => ?_) AllReadyH.nil
            go_simp
            refine HLen.out.mono ?_
            rintro _ w6 ⟨rfl, rfl⟩
            go_wp2_with fail
            refine hK.out _ _ ?_ (fun hHeld => ?_)
            · exact ⟨f0, g2⟩
            clear hK K
            try simp only [Act.put, List.getElem_toArray, List.getElem_cons_zero, List.getElem_cons_succ, List.setIfInBounds_toArray, List.set_cons_zero, List.set_cons_succ]
            refine wpAnyH_take (i := 8) (v := ?_) rfl (by kernel_rfl) (by kernel_rfl) (by kernel_rfl) (fun _ _ _ h => h) (Or.inl ⟨by rfl, ?_⟩) hHeld ?_
            rotate_left
            · (intro w hSw; (try dsimp only at hSw); (go_simp <;> with_reducible rfl))
            simp only [Act.put, List.getElem_toArray, List.getElem_cons_zero, List.getElem_cons_succ, List.setIfInBounds_toArray, List.set_cons_zero, List.set_cons_succ]
            refine wpAnyH_take (i := 9) (v := ?_) rfl (by kernel_rfl) (by kernel_rfl) (by kernel_rfl) (fun _ _ _ h => h) (Or.inl ⟨by rfl, ?_⟩) hHeld ?_
            rotate_left
            · (intro w hSw; (try dsimp only at hSw); (go_simp <;> with_reducible rfl))
            simp only [Act.put, List.getElem_toArray, List.getElem_cons_zero, List.getElem_cons_succ, List.setIfInBounds_toArray, List.set_cons_zero, List.set_cons_succ]
            refine wpAnyH_take (i := 10) (v := ?_) rfl (by kernel_rfl) (by kernel_rfl) (by kernel_rfl) (fun _ _ _ h => h) (Or.inl ⟨by rfl, ?_⟩) hHeld ?_
            rotate_left
            · (intro w hSw; (try dsimp only at hSw); (go_simp <;> with_reducible rfl))
            simp only [Act.put, List.getElem_toArray, List.getElem_cons_zero, List.getElem_cons_succ, List.setIfInBounds_toArray, List.set_cons_zero, List.set_cons_succ]
            refine wpAnyH_take (i := 11) (v := ?_) rfl (by kernel_rfl) (by kernel_rfl) (by kernel_rfl) (fun _ _ _ h => h) (Or.inl ⟨by rfl, ?_⟩) hHeld ?_
            rotate_left
            · (intro w hSw; (try dsimp only at hSw); (go_simp <;> with_reducible rfl))
            simp only [Act.put, List.getElem_toArray, List.getElem_cons_zero, List.getElem_cons_succ, List.setIfInBounds_toArray, List.set_cons_zero, List.set_cons_succ]
            refine wpAnyH_take (i := 12) (v := ?_) rfl (by kernel_rfl) (by kernel_rfl) (by kernel_rfl) (fun _ _ _ h => h) (Or.inl ⟨by rfl, ?_⟩) hHeld ?_
            rotate_left
            · (intro w hSw; (try dsimp only at hSw); (go_simp <;> with_reducible rfl))
            simp only [Act.put, List.getElem_toArray, List.getElem_cons_zero, List.getElem_cons_succ, List.setIfInBounds_toArray, List.set_cons_zero, List.set_cons_succ]
            refine wpAnyH_take (i := 13) (v := ?_) rfl (by kernel_rfl) (by kernel_rfl) (by kernel_rfl) (fun _ _ _ h => h) (Or.inl ⟨by rfl, ?_⟩) hHeld ?_
            rotate_left
            · (intro w hSw; (try dsimp only at hSw); (go_simp <;> with_reducible rfl))
            simp only [Act.put, List.getElem_toArray, List.getElem_cons_zero, List.getElem_cons_succ, List.setIfInBounds_toArray, List.set_cons_zero, List.set_cons_succ]
            refine wpAnyH_take (i := 14) (v := ?_) rfl (by kernel_rfl) (by kernel_rfl) (by kernel_rfl) (fun _ _ _ h => h) (Or.inl ⟨by rfl, ?_⟩) hHeld ?_
            rotate_left
            · (intro w hSw; (try dsimp only at hSw); (go_simp <;> with_reducible rfl))
            simp only [Act.put, List.getElem_toArray, List.getElem_cons_zero, List.getElem_cons_succ, List.setIfInBounds_toArray, List.set_cons_zero, List.set_cons_succ]
            refine wpAnyH_take (i := 15) (v := ?_) rfl (by kernel_rfl) (by kernel_rfl) (by kernel_rfl) (fun _ _ _ h => h) (Or.inl ⟨by rfl, ?_⟩) hHeld ?_
            rotate_left
            · (intro w hSw; (try dsimp only at hSw); (go_simp <;> with_reducible rfl))
            simp only [Act.put, List.getElem_toArray, List.getElem_cons_zero, List.getElem_cons_succ, List.setIfInBounds_toArray, List.set_cons_zero, List.set_cons_succ]
            refine wpAnyH_take (i := 16) (v := ?_) rfl (by kernel_rfl) (by kernel_rfl) (by kernel_rfl) (fun _ _ _ h => h) (Or.inl ⟨by rfl, ?_⟩) hHeld ?_
            rotate_left
            · (intro w hSw; (try dsimp only at hSw); (go_simp <;> with_reducible rfl))
            simp only [Act.put, List.getElem_toArray, List.getElem_cons_zero, List.getElem_cons_succ, List.setIfInBounds_toArray, List.set_cons_zero, List.set_cons_succ]
            refine wpAnyH_take (i := 17) (v := undef) rfl (by kernel_rfl) (by kernel_rfl) (by kernel_rfl) (fun _ _ _ h => h) (Or.inr ⟨by rfl, rfl⟩) hHeld ?_
            simp only [Act.put, List.getElem_toArray, List.getElem_cons_zero, List.getElem_cons_succ, List.setIfInBounds_toArray, List.set_cons_zero, List.set_cons_succ]
            refine wpAnyH_take (i := 18) (v := undef) rfl (by kernel_rfl) (by kernel_rfl) (by kernel_rfl) (fun _ _ _ h => h) (Or.inr ⟨by rfl, rfl⟩) hHeld ?_
            simp only [Act.put, List.getElem_toArray, List.getElem_cons_zero, List.getElem_cons_succ, List.setIfInBounds_toArray, List.set_cons_zero, List.set_cons_succ]
            refine wpAnyH_take (i := 19) (v := undef) rfl (by kernel_rfl) (by kernel_rfl) (by kernel_rfl) (fun _ _ _ h => h) (Or.inr ⟨by rfl, rfl⟩) hHeld ?_
            simp only [Act.put, List.getElem_toArray, List.getElem_cons_zero, List.getElem_cons_succ, List.setIfInBounds_toArray, List.set_cons_zero, List.set_cons_succ]
            refine wpAnyH_take (i := 20) (v := undef) rfl (by kernel_rfl) (by kernel_rfl) (by kernel_rfl) (fun _ _ _ h => h) (Or.inr ⟨by rfl, rfl⟩) hHeld ?_
            simp only [Act.put, List.getElem_toArray, List.getElem_cons_zero, List.getElem_cons_succ, List.setIfInBounds_toArray, List.set_cons_zero, List.set_cons_succ]
            refine wpAnyH_take (i := 21) (v := undef) rfl (by kernel_rfl) (by kernel_rfl) (by kernel_rfl) (fun _ _ _ h => h) (Or.inr ⟨by rfl, rfl⟩) hHeld ?_
            simp only [Act.put, List.getElem_toArray, List.getElem_cons_zero, List.getElem_cons_succ, List.setIfInBounds_toArray, List.set_cons_zero, List.set_cons_succ]
            refine wpAnyH_ready (rs := [22]) (by kernel_rfl) (by simp) ?_
            refine AllReadyH.cons rfl (fun K hK => ?_) AllReadyH.nil
            go_simp
            refine hK.out _ _ ?_ (fun hHeld => ?_)
            · exact ⟨f0, g2⟩
            clear hK K
            try simp only [Act.put, List.getElem_toArray, List.getElem_cons_zero, List.getElem_cons_succ, List.setIfInBounds_toArray, List.set_cons_zero, List.set_cons_succ]
            refine wpAnyH_take (i := 23) (v := undef) rfl (by kernel_rfl) (by kernel_rfl) (by kernel_rfl) (fun _ _ _ h => h) (Or.inr ⟨by rfl, rfl⟩) hHeld ?_
            simp only [Act.put, List.getElem_toArray, List.getElem_cons_zero, List.getElem_cons_succ, List.setIfInBounds_toArray, List.set_cons_zero, List.set_cons_succ]
            refine wpAnyH_take (i := 24) (v := ?_) rfl (by kernel_rfl) (by kernel_rfl) (by kernel_rfl) (fun _ _ _ h => h) (Or.inl ⟨by rfl, ?_⟩) hHeld ?_
            rotate_left
            · (intro w hSw; (try dsimp only at hSw); (go_simp <;> with_reducible rfl))
            simp only [Act.put, List.getElem_toArray, List.getElem_cons_zero, List.getElem_cons_succ, List.setIfInBounds_toArray, List.set_cons_zero, List.set_cons_succ]
            refine wpAnyH_take (i := 25) (v := ?_) rfl (by kernel_rfl) (by kernel_rfl) (by kernel_rfl) (fun _ _ _ h => h) (Or.inl ⟨by rfl, ?_⟩) hHeld ?_
            rotate_left
            · (intro w hSw; (try dsimp only at hSw); (go_simp <;> with_reducible rfl))
            simp only [Act.put, List.getElem_toArray, List.getElem_cons_zero, List.getElem_cons_succ, List.setIfInBounds_toArray, List.set_cons_zero, List.set_cons_succ]
            refine wpAnyH_take (i := 26) (v := ?_) rfl (by kernel_rfl) (by kernel_rfl) (by kernel_rfl) (fun _ _ _ h => h) (Or.inl ⟨by rfl, ?_⟩) hHeld ?_
            rotate_left
            · (intro w hSw; (try dsimp only at hSw); (go_simp <;> with_reducible rfl))
            simp only [Act.put, List.getElem_toArray, List.getElem_cons_zero, List.getElem_cons_succ, List.setIfInBounds_toArray, List.set_cons_zero, List.set_cons_succ]
            refine wpAnyH_take (i := 27) (v := ?_) rfl (by kernel_rfl) (by kernel_rfl) (by kernel_rfl) (fun _ _ _ h => h) (Or.inl ⟨by rfl, ?_⟩) hHeld ?_
            rotate_left
            · (intro w hSw; (try dsimp only at hSw); (go_simp <;> with_reducible rfl))
            simp only [Act.put, List.getElem_toArray, List.getElem_cons_zero, List.getElem_cons_succ, List.setIfInBounds_toArray, List.set_cons_zero, List.set_cons_succ]
            refine wpAnyH_take (i := 28) (v := ?_) rfl (by kernel_rfl) (by kernel_rfl) (by kernel_rfl) (fun _ _ _ h => h) (Or.inl ⟨by rfl, ?_⟩) hHeld ?_
            rotate_left
            · (intro w hSw; (try dsimp only at hSw); (go_simp <;> with_reducible rfl))
            simp only [Act.put, List.getElem_toArray, List.getElem_cons_zero, List.getElem_cons_succ, List.setIfInBounds_toArray, List.set_cons_zero, List.set_cons_succ]
            refine wpAnyH_ready (rs := [29]) (by kernel_rfl) (by simp) ?_
            refine AllReadyH.cons rfl (fun K hK => ?_) AllReadyH.nil
            go_simp
            refine (HSet.out _ HMd.out.2).mono ?_
            rintro _ w8 ⟨rfl, M8, N8⟩
            go_wp2_with fail
            refine hK.out _ _ ?_ (fun hHeld => ?_)
            · exact ⟨(HKeep.out _ M8.below).1, (N8 _).trans g2⟩
            clear hK K
            try simp only [Act.put, List.getElem_toArray, List.getElem_cons_zero, List.getElem_cons_succ, List.setIfInBounds_toArray, List.set_cons_zero, List.set_cons_succ]
            refine wpAnyH_take (i := 30) (v := ?_) rfl (by kernel_rfl) (by kernel_rfl) (by kernel_rfl) (fun _ _ _ h => h) (Or.inl ⟨by rfl, ?_⟩) hHeld ?_
            rotate_left
            · (intro w hSw; (try dsimp only at hSw); (go_simp <;> with_reducible rfl))
            simp only [Act.put, List.getElem_toArray, List.getElem_cons_zero, List.getElem_cons_succ, List.setIfInBounds_toArray, List.set_cons_zero, List.set_cons_succ]
            refine wpAnyH_take (i := 31) (v := ?_) rfl (by kernel_rfl) (by kernel_rfl) (by kernel_rfl) (fun _ _ _ h => h) (Or.inl ⟨by rfl, ?_⟩) hHeld ?_
            rotate_left
            · (intro w hSw; (try dsimp only at hSw); (go_simp <;> with_reducible rfl))
            simp only [Act.put, List.getElem_toArray, List.getElem_cons_zero, List.getElem_cons_succ, List.setIfInBounds_toArray, List.set_cons_zero, List.set_cons_succ]
            refine wpAnyH_done (by kernel_rfl) ?_ _
            have HN : Hid (MSt w (i + 1) (2 * (i + 1)) w8) := M8
            clear M8 N8 HLen HSet HDone HMd HM5 f0 f1 f2 f3 g2
            go_wp2_with fail
            go_roundw
            case rel => exact ⟨i + 1, by omega, by go_num, hi1, HN⟩
            case measure => simp [intOf]; omega
        · have HL : Hid (Calls Try.prog 9 #[.pointer (some ⟨w.heap.size, 123, none⟩), .pointer (some ⟨NV, 2, none⟩), .agg #[.int .i64 dd, .int .i64 nn, .int .u64 xx, .int .i64 mm]] wr.drew fun q w' => q = .returned (.tuple #[]) ∧ MSt w (i + 1) (2 * i) w') := by rw [← HNV.out]; exact layM1 (HS.out.drewN 1) (by omega) dd nn mm xx bx
          clear HS
          go_wp2_with fail
          go_region_held3 (fun w' => w'.cell? ⟨b, off + i * 4, none⟩ = some (.int .i64 dd) ∧ w'.cell? ⟨b, off + i * 4 + 1, none⟩ = some (.int .i64 nn) ∧ w'.cell? ⟨b, off + i * 4 + 2, none⟩ = some (.int .u64 (xx : Int)) ∧ w'.cell? ⟨b, off + i * 4 + 3, none⟩ = some (.int .i64 mm)) (first | exact ⟨e0, e1, e2, e3⟩ | exact HKeep.out _ M5.below)
            (first | (go_at_call 9; refine HL.out.mono ?_; rintro _ w5 ⟨rfl, M5⟩))
          have HM5 : Hid (MSt w (i + 1) (2 * i) w5) := M5
          obtain ⟨f0, f1, f2, f3⟩ := HKeep.out _ M5.below
          obtain ⟨nl, pL, cL, g1, g2⟩ := lenM1 M5
          rw [HNV.out] at g2
          have HLen : Hid (Calls Try.prog 10 #[.pointer (some ⟨w.heap.size, 123, none⟩)] w5.drew fun e w' => e = .returned (.int .i64 (nl : Int)) ∧ w' = w5.drew) := wlen_any w.heap.size 123 (nl : Int) w5.drew (by simpa using g1)
          have HSet : Hid (∀ w', MSt w (i + 1) (2 * i + 2) w' → Calls Try.prog 12 #[.pointer (some ⟨NL, 0, none⟩), .pointer (some ⟨NB, 0, none⟩), .int .i64 6] w' fun q w'' => q = .returned (.bool true) ∧ MSt w (i + 1) (2 * i + 2) w'' ∧ ∀ o, w''.cell? ⟨NV, o, none⟩ = w'.cell? ⟨NV, o, none⟩) := fun w' hM => by rw [← HNL.out, ← HNB.out, ← HNV.out]; exact settleM hM 6 (by omega)
          have HDone : Hid (∀ w', MSt w (i + 1) (2 * i) w' → Calls Try.prog 11 #[.pointer (some ⟨w.heap.size, 123, none⟩), .pointer (some ⟨NV, 2, none⟩), .pointer (some ⟨NL, 0, none⟩)] w' fun q w'' => q = .returned (.bool true) ∧ MSt w (i + 1) (2 * i + 2) w'' ∧ ∀ o, w''.cell? ⟨NV, o, none⟩ = w'.cell? ⟨NV, o, none⟩) := fun w' hM => by rw [← HNV.out, ← HNL.out]; exact doneM1 hM (by omega) (by omega)
          have HMd : Hid (MSt w (i + 1) (2 * i) w5.drew ∧ MSt w (i + 1) (2 * i + 2) w5.drew) := ⟨M5.drewN 1, (M5.drewN 1).more (by omega)⟩
          clear M5 e0 e1 e2 e3 HL g1
          by_cases h6 : dd = 6
          · have h6' : (dd == 6) = true := by rw [beq_iff_eq]; exact h6
            clear h6
            go_wp2_with fail
            go_region_held3 (fun w' => w'.cell? ⟨b, off + i * 4, none⟩ = some (.int .i64 dd) ∧ w'.cell? ⟨NV, 2, none⟩ = some (.slice pL nl cL)) (first | exact ⟨f0, g2⟩ | exact ⟨(HKeep.out _ M8.below).1, (N8 _).trans ((N7 _).trans g2)⟩ | exact ⟨(HKeep.out _ M7.below).1, (N7 _).trans g2⟩)
              (first
                | (go_at_call 10; refine HLen.out.mono ?_; rintro _ w6 ⟨rfl, rfl⟩)
                | (go_at_call 11; refine (HDone.out _ HMd.out.1).mono ?_; rintro _ w7 ⟨rfl, M7, N7⟩)
                | (go_at_call 12; refine (HSet.out _ M7).mono ?_; rintro _ w8 ⟨rfl, M8, N8⟩))
            have HN : Hid (MSt w (i + 1) (2 * (i + 1)) w8) := M8
            clear M7 N7 M8 N8 HLen HSet HDone HMd HM5 f0 f1 f2 f3 g2
            go_wp2_with fail
            go_roundw
            case rel => exact ⟨i + 1, by omega, by go_num, hi1, HN⟩
            case measure => simp [intOf]; omega
          · have h6' : (dd == 6) = false := by rw [beq_eq_false_iff_ne]; exact h6
            go_wp2_with fail
            refine wp_region_held_drew (S := fun w' => w'.cell? ⟨b, off + i * 4, none⟩ = some (.int .i64 dd) ∧ w'.cell? ⟨NV, 2, none⟩ = some (.slice pL nl cL)) (by kernel_rfl) ⟨f0, g2⟩ (fun hHeld => ?_)
            refine wpAnyH_take (i := 0) (v := ?_) rfl (by kernel_rfl) (by kernel_rfl) (by kernel_rfl) (fun _ _ _ h => h) (Or.inl ⟨by rfl, ?_⟩) hHeld ?_
            rotate_left
            · (intro w hSw; (try dsimp only at hSw); (go_simp <;> with_reducible rfl))
            simp only [Act.put, List.getElem_toArray, List.getElem_cons_zero, List.getElem_cons_succ, List.setIfInBounds_toArray, List.set_cons_zero, List.set_cons_succ]
            refine wpAnyH_take (i := 1) (v := ?_) rfl (by kernel_rfl) (by kernel_rfl) (by kernel_rfl) (fun _ _ _ h => h) (Or.inl ⟨by rfl, ?_⟩) hHeld ?_
            rotate_left
            · (intro w hSw; (try dsimp only at hSw); (go_simp <;> with_reducible rfl))
            simp only [Act.put, List.getElem_toArray, List.getElem_cons_zero, List.getElem_cons_succ, List.setIfInBounds_toArray, List.set_cons_zero, List.set_cons_succ]
            refine wpAnyH_take (i := 3) (v := ?_) rfl (by kernel_rfl) (by kernel_rfl) (by kernel_rfl) (fun _ _ _ h => h) (Or.inl ⟨by rfl, ?_⟩) hHeld ?_
            rotate_left
            · (intro w hSw; (try dsimp only at hSw); (go_simp <;> with_reducible rfl))
            simp only [Act.put, List.getElem_toArray, List.getElem_cons_zero, List.getElem_cons_succ, List.setIfInBounds_toArray, List.set_cons_zero, List.set_cons_succ]
            refine wpAnyH_take (i := 4) (v := ?_) rfl (by kernel_rfl) (by kernel_rfl) (by kernel_rfl) (fun _ _ _ h => h) (Or.inl ⟨by rfl, ?_⟩) hHeld ?_
            rotate_left
            · (intro w hSw; (try dsimp only at hSw); (go_simp <;> with_reducible rfl))
            simp only [Act.put, List.getElem_toArray, List.getElem_cons_zero, List.getElem_cons_succ, List.setIfInBounds_toArray, List.set_cons_zero, List.set_cons_succ]
            refine wpAnyH_take (i := 5) (v := ?_) rfl (by kernel_rfl) (by kernel_rfl) (by kernel_rfl) (fun _ _ _ h => h) (Or.inl ⟨by rfl, ?_⟩) hHeld ?_
            rotate_left
            · (intro w hSw; (try dsimp only at hSw); (go_simp <;> with_reducible rfl))
            simp only [Act.put, List.getElem_toArray, List.getElem_cons_zero, List.getElem_cons_succ, List.setIfInBounds_toArray, List.set_cons_zero, List.set_cons_succ]
            refine wpAnyH_take (i := 6) (v := ?_) rfl (by kernel_rfl) (by kernel_rfl) (by kernel_rfl) (fun _ _ _ h => h) (Or.inl ⟨by rfl, ?_⟩) hHeld ?_
            rotate_left
            · (intro w hSw; (try dsimp only at hSw); (go_simp <;> with_reducible rfl))
            simp only [Act.put, List.getElem_toArray, List.getElem_cons_zero, List.getElem_cons_succ, List.setIfInBounds_toArray, List.set_cons_zero, List.set_cons_succ]
            refine wpAnyH_take (i := 7) (v := ?_) rfl (by kernel_rfl) (by kernel_rfl) (by kernel_rfl) (fun _ _ _ h => h) (Or.inl ⟨by rfl, ?_⟩) hHeld ?_
            rotate_left
            · (intro w hSw; (try dsimp only at hSw); (go_simp <;> with_reducible rfl))
            simp only [Act.put, List.getElem_toArray, List.getElem_cons_zero, List.getElem_cons_succ, List.setIfInBounds_toArray, List.set_cons_zero, List.set_cons_succ]
            refine wpAnyH_ready (rs := [2]) (by kernel_rfl) (by simp) ?_
            refine AllReadyH.cons rfl (fun K hK => ?_) AllReadyH.nil
            go_simp
            refine HLen.out.mono ?_
            rintro _ w6 ⟨rfl, rfl⟩
            go_wp2_with fail
            refine hK.out _ _ ?_ (fun hHeld => ?_)
            · exact ⟨f0, g2⟩
            clear hK K
            try simp only [Act.put, List.getElem_toArray, List.getElem_cons_zero, List.getElem_cons_succ, List.setIfInBounds_toArray, List.set_cons_zero, List.set_cons_succ]
            refine wpAnyH_take (i := 8) (v := ?_) rfl (by kernel_rfl) (by kernel_rfl) (by kernel_rfl) (fun _ _ _ h => h) (Or.inl ⟨by rfl, ?_⟩) hHeld ?_
            rotate_left
            · (intro w hSw; (try dsimp only at hSw); (go_simp <;> with_reducible rfl))
            simp only [Act.put, List.getElem_toArray, List.getElem_cons_zero, List.getElem_cons_succ, List.setIfInBounds_toArray, List.set_cons_zero, List.set_cons_succ]
            refine wpAnyH_take (i := 9) (v := ?_) rfl (by kernel_rfl) (by kernel_rfl) (by kernel_rfl) (fun _ _ _ h => h) (Or.inl ⟨by rfl, ?_⟩) hHeld ?_
            rotate_left
            · (intro w hSw; (try dsimp only at hSw); (go_simp <;> with_reducible rfl))
            simp only [Act.put, List.getElem_toArray, List.getElem_cons_zero, List.getElem_cons_succ, List.setIfInBounds_toArray, List.set_cons_zero, List.set_cons_succ]
            refine wpAnyH_take (i := 10) (v := ?_) rfl (by kernel_rfl) (by kernel_rfl) (by kernel_rfl) (fun _ _ _ h => h) (Or.inl ⟨by rfl, ?_⟩) hHeld ?_
            rotate_left
            · (intro w hSw; (try dsimp only at hSw); (go_simp <;> with_reducible rfl))
            simp only [Act.put, List.getElem_toArray, List.getElem_cons_zero, List.getElem_cons_succ, List.setIfInBounds_toArray, List.set_cons_zero, List.set_cons_succ]
            refine wpAnyH_take (i := 11) (v := ?_) rfl (by kernel_rfl) (by kernel_rfl) (by kernel_rfl) (fun _ _ _ h => h) (Or.inl ⟨by rfl, ?_⟩) hHeld ?_
            rotate_left
            · (intro w hSw; (try dsimp only at hSw); (go_simp <;> with_reducible rfl))
            simp only [Act.put, List.getElem_toArray, List.getElem_cons_zero, List.getElem_cons_succ, List.setIfInBounds_toArray, List.set_cons_zero, List.set_cons_succ]
            refine wpAnyH_take (i := 12) (v := ?_) rfl (by kernel_rfl) (by kernel_rfl) (by kernel_rfl) (fun _ _ _ h => h) (Or.inl ⟨by rfl, ?_⟩) hHeld ?_
            rotate_left
            · (intro w hSw; (try dsimp only at hSw); (go_simp <;> with_reducible rfl))
            simp only [Act.put, List.getElem_toArray, List.getElem_cons_zero, List.getElem_cons_succ, List.setIfInBounds_toArray, List.set_cons_zero, List.set_cons_succ]
            refine wpAnyH_take (i := 13) (v := ?_) rfl (by kernel_rfl) (by kernel_rfl) (by kernel_rfl) (fun _ _ _ h => h) (Or.inl ⟨by rfl, ?_⟩) hHeld ?_
            rotate_left
            · (intro w hSw; (try dsimp only at hSw); (go_simp <;> with_reducible rfl))
            simp only [Act.put, List.getElem_toArray, List.getElem_cons_zero, List.getElem_cons_succ, List.setIfInBounds_toArray, List.set_cons_zero, List.set_cons_succ]
            refine wpAnyH_take (i := 14) (v := ?_) rfl (by kernel_rfl) (by kernel_rfl) (by kernel_rfl) (fun _ _ _ h => h) (Or.inl ⟨by rfl, ?_⟩) hHeld ?_
            rotate_left
            · (intro w hSw; (try dsimp only at hSw); (go_simp <;> with_reducible rfl))
            simp only [Act.put, List.getElem_toArray, List.getElem_cons_zero, List.getElem_cons_succ, List.setIfInBounds_toArray, List.set_cons_zero, List.set_cons_succ]
            refine wpAnyH_take (i := 15) (v := ?_) rfl (by kernel_rfl) (by kernel_rfl) (by kernel_rfl) (fun _ _ _ h => h) (Or.inl ⟨by rfl, ?_⟩) hHeld ?_
            rotate_left
            · (intro w hSw; (try dsimp only at hSw); (go_simp <;> with_reducible rfl))
            simp only [Act.put, List.getElem_toArray, List.getElem_cons_zero, List.getElem_cons_succ, List.setIfInBounds_toArray, List.set_cons_zero, List.set_cons_succ]
            refine wpAnyH_take (i := 16) (v := ?_) rfl (by kernel_rfl) (by kernel_rfl) (by kernel_rfl) (fun _ _ _ h => h) (Or.inl ⟨by rfl, ?_⟩) hHeld ?_
            rotate_left
            · (intro w hSw; (try dsimp only at hSw); (go_simp <;> with_reducible rfl))
            simp only [Act.put, List.getElem_toArray, List.getElem_cons_zero, List.getElem_cons_succ, List.setIfInBounds_toArray, List.set_cons_zero, List.set_cons_succ]
            refine wpAnyH_take (i := 17) (v := undef) rfl (by kernel_rfl) (by kernel_rfl) (by kernel_rfl) (fun _ _ _ h => h) (Or.inr ⟨by rfl, rfl⟩) hHeld ?_
            simp only [Act.put, List.getElem_toArray, List.getElem_cons_zero, List.getElem_cons_succ, List.setIfInBounds_toArray, List.set_cons_zero, List.set_cons_succ]
            refine wpAnyH_take (i := 18) (v := undef) rfl (by kernel_rfl) (by kernel_rfl) (by kernel_rfl) (fun _ _ _ h => h) (Or.inr ⟨by rfl, rfl⟩) hHeld ?_
            simp only [Act.put, List.getElem_toArray, List.getElem_cons_zero, List.getElem_cons_succ, List.setIfInBounds_toArray, List.set_cons_zero, List.set_cons_succ]
            refine wpAnyH_take (i := 19) (v := undef) rfl (by kernel_rfl) (by kernel_rfl) (by kernel_rfl) (fun _ _ _ h => h) (Or.inr ⟨by rfl, rfl⟩) hHeld ?_
            simp only [Act.put, List.getElem_toArray, List.getElem_cons_zero, List.getElem_cons_succ, List.setIfInBounds_toArray, List.set_cons_zero, List.set_cons_succ]
            refine wpAnyH_take (i := 20) (v := undef) rfl (by kernel_rfl) (by kernel_rfl) (by kernel_rfl) (fun _ _ _ h => h) (Or.inr ⟨by rfl, rfl⟩) hHeld ?_
            simp only [Act.put, List.getElem_toArray, List.getElem_cons_zero, List.getElem_cons_succ, List.setIfInBounds_toArray, List.set_cons_zero, List.set_cons_succ]
            refine wpAnyH_take (i := 21) (v := undef) rfl (by kernel_rfl) (by kernel_rfl) (by kernel_rfl) (fun _ _ _ h => h) (Or.inr ⟨by rfl, rfl⟩) hHeld ?_
            simp only [Act.put, List.getElem_toArray, List.getElem_cons_zero, List.getElem_cons_succ, List.setIfInBounds_toArray, List.set_cons_zero, List.set_cons_succ]
            refine wpAnyH_ready (rs := [22]) (by kernel_rfl) (by simp) ?_
            refine AllReadyH.cons rfl (fun K hK => ?_) AllReadyH.nil
            go_simp
            refine hK.out _ _ ?_ (fun hHeld => ?_)
            · exact ⟨f0, g2⟩
            clear hK K
            try simp only [Act.put, List.getElem_toArray, List.getElem_cons_zero, List.getElem_cons_succ, List.setIfInBounds_toArray, List.set_cons_zero, List.set_cons_succ]
            refine wpAnyH_take (i := 23) (v := undef) rfl (by kernel_rfl) (by kernel_rfl) (by kernel_rfl) (fun _ _ _ h => h) (Or.inr ⟨by rfl, rfl⟩) hHeld ?_
            simp only [Act.put, List.getElem_toArray, List.getElem_cons_zero, List.getElem_cons_succ, List.setIfInBounds_toArray, List.set_cons_zero, List.set_cons_succ]
            refine wpAnyH_take (i := 24) (v := ?_) rfl (by kernel_rfl) (by kernel_rfl) (by kernel_rfl) (fun _ _ _ h => h) (Or.inl ⟨by rfl, ?_⟩) hHeld ?_
            rotate_left
            · (intro w hSw; (try dsimp only at hSw); (go_simp <;> with_reducible rfl))
            simp only [Act.put, List.getElem_toArray, List.getElem_cons_zero, List.getElem_cons_succ, List.setIfInBounds_toArray, List.set_cons_zero, List.set_cons_succ]
            refine wpAnyH_take (i := 25) (v := ?_) rfl (by kernel_rfl) (by kernel_rfl) (by kernel_rfl) (fun _ _ _ h => h) (Or.inl ⟨by rfl, ?_⟩) hHeld ?_
            rotate_left
            · (intro w hSw; (try dsimp only at hSw); (go_simp <;> with_reducible rfl))
            simp only [Act.put, List.getElem_toArray, List.getElem_cons_zero, List.getElem_cons_succ, List.setIfInBounds_toArray, List.set_cons_zero, List.set_cons_succ]
            refine wpAnyH_take (i := 26) (v := ?_) rfl (by kernel_rfl) (by kernel_rfl) (by kernel_rfl) (fun _ _ _ h => h) (Or.inl ⟨by rfl, ?_⟩) hHeld ?_
            rotate_left
            · (intro w hSw; (try dsimp only at hSw); (go_simp <;> with_reducible rfl))
            simp only [Act.put, List.getElem_toArray, List.getElem_cons_zero, List.getElem_cons_succ, List.setIfInBounds_toArray, List.set_cons_zero, List.set_cons_succ]
            refine wpAnyH_take (i := 27) (v := ?_) rfl (by kernel_rfl) (by kernel_rfl) (by kernel_rfl) (fun _ _ _ h => h) (Or.inl ⟨by rfl, ?_⟩) hHeld ?_
            rotate_left
            · (intro w hSw; (try dsimp only at hSw); (go_simp <;> with_reducible rfl))
            simp only [Act.put, List.getElem_toArray, List.getElem_cons_zero, List.getElem_cons_succ, List.setIfInBounds_toArray, List.set_cons_zero, List.set_cons_succ]
            refine wpAnyH_take (i := 28) (v := ?_) rfl (by kernel_rfl) (by kernel_rfl) (by kernel_rfl) (fun _ _ _ h => h) (Or.inl ⟨by rfl, ?_⟩) hHeld ?_
            rotate_left
            · (intro w hSw; (try dsimp only at hSw); (go_simp <;> with_reducible rfl))
            simp only [Act.put, List.getElem_toArray, List.getElem_cons_zero, List.getElem_cons_succ, List.setIfInBounds_toArray, List.set_cons_zero, List.set_cons_succ]
            refine wpAnyH_ready (rs := [29]) (by kernel_rfl) (by simp) ?_
            refine AllReadyH.cons rfl (fun K hK => ?_) AllReadyH.nil
            go_simp
            refine (HSet.out _ HMd.out.2).mono ?_
            rintro _ w8 ⟨rfl, M8, N8⟩
            go_wp2_with fail
            refine hK.out _ _ ?_ (fun hHeld => ?_)
            · exact ⟨(HKeep.out _ M8.below).1, (N8 _).trans g2⟩
            clear hK K
            try simp only [Act.put, List.getElem_toArray, List.getElem_cons_zero, List.getElem_cons_succ, List.setIfInBounds_toArray, List.set_cons_zero, List.set_cons_succ]
            refine wpAnyH_take (i := 30) (v := ?_) rfl (by kernel_rfl) (by kernel_rfl) (by kernel_rfl) (fun _ _ _ h => h) (Or.inl ⟨by rfl, ?_⟩) hHeld ?_
            rotate_left
            · (intro w hSw; (try dsimp only at hSw); (go_simp <;> with_reducible rfl))
            simp only [Act.put, List.getElem_toArray, List.getElem_cons_zero, List.getElem_cons_succ, List.setIfInBounds_toArray, List.set_cons_zero, List.set_cons_succ]
            refine wpAnyH_take (i := 31) (v := ?_) rfl (by kernel_rfl) (by kernel_rfl) (by kernel_rfl) (fun _ _ _ h => h) (Or.inl ⟨by rfl, ?_⟩) hHeld ?_
            rotate_left
            · (intro w hSw; (try dsimp only at hSw); (go_simp <;> with_reducible rfl))
            simp only [Act.put, List.getElem_toArray, List.getElem_cons_zero, List.getElem_cons_succ, List.setIfInBounds_toArray, List.set_cons_zero, List.set_cons_succ]
            refine wpAnyH_done (by kernel_rfl) ?_ _
            have HN : Hid (MSt w (i + 1) (2 * (i + 1)) w8) := M8
            clear M8 N8 HLen HSet HDone HMd HM5 f0 f1 f2 f3 g2
            go_wp2_with fail
            go_roundw
            case rel => exact ⟨i + 1, by omega, by go_num, hi1, HN⟩
            case measure => simp [intOf]; omega
      · have HM : Hid (MSt w i 800 wr) := HS.out.more (by omega)
        clear HS
        have H1 : Hid (∀ w', MSt w i 800 w' → Calls Try.prog 11 #[.pointer (some ⟨w.heap.size, 0, none⟩), .pointer (some ⟨NV, 0, none⟩), .pointer (some ⟨NL, 0, none⟩)] w' fun q w'' => q = .returned (.bool true) ∧ MSt w i 802 w'' ∧ ∀ o, w''.cell? ⟨NV, o, none⟩ = w'.cell? ⟨NV, o, none⟩) := fun w' hM => by rw [← HNV.out, ← HNL.out]; exact doneM0 hM (by omega) (by omega)
        have H2 : Hid (∀ w', MSt w i 802 w' → Calls Try.prog 11 #[.pointer (some ⟨w.heap.size, 123, none⟩), .pointer (some ⟨NV, 2, none⟩), .pointer (some ⟨NL, 0, none⟩)] w' fun q w'' => q = .returned (.bool true) ∧ MSt w i 804 w'' ∧ ∀ o, w''.cell? ⟨NV, o, none⟩ = w'.cell? ⟨NV, o, none⟩) := fun w' hM => by rw [← HNV.out, ← HNL.out]; exact doneM1 hM (by omega) (by omega)
        have H3 : Hid (∀ w', MSt w i 804 w' → Calls Try.prog 12 #[.pointer (some ⟨NL, 0, none⟩), .pointer (some ⟨NB, 0, none⟩), .int .i64 0] w' fun q w'' => q = .returned (.bool true) ∧ MSt w i 804 w'' ∧ ∀ o, w''.cell? ⟨NV, o, none⟩ = w'.cell? ⟨NV, o, none⟩) := fun w' hM => by rw [← HNL.out, ← HNB.out, ← HNV.out]; exact settleM hM 0 (by omega)
        have H4 : Hid (∀ w', MSt w i 804 w' → Calls Try.prog 13 #[.pointer (some ⟨NB, 0, none⟩)] w' fun q w'' => q = .returned (.bool true) ∧ Below w.heap.size w w'') := fun w' hM => by rw [← HNB.out]; exact lookM hM
        go_wp2_with fail
        refine (H1.out _ HM.out).mono ?_
        rintro _ w1 ⟨rfl, M1, -⟩
        have HM1 : Hid (MSt w i 802 w1) := M1
        clear M1
        go_wp2_with fail
        refine (H2.out _ HM1.out).mono ?_
        rintro _ w2 ⟨rfl, M2, -⟩
        have HM2 : Hid (MSt w i 804 w2) := M2
        clear M2
        go_wp2_with fail
        refine (H3.out _ HM2.out).mono ?_
        rintro _ w3 ⟨rfl, M3, -⟩
        have HM3 : Hid (MSt w i 804 w3) := M3
        clear M3
        go_wp2_with fail
        refine (H4.out _ HM3.out).mono ?_
        rintro _ w4 ⟨rfl, B4⟩
        have HB4 : Hid (Below w.heap.size w w4) := B4
        clear B4
        go_wp2_with fail
        refine (works_any _).mono ?_
        rintro _ w5 ⟨rfl, D5⟩
        have HB5 : Hid (Below w.heap.size w w5) := HB4.out.trans (D5.mono HB4.out.size)
        clear D5
        go_wp2_with fail
        go_ret
        exact ⟨rfl, HB5.out⟩
    · have HM : Hid (MSt w i 800 wr) := HS.out.more (by omega)
      clear HS
      have H1 : Hid (∀ w', MSt w i 800 w' → Calls Try.prog 11 #[.pointer (some ⟨w.heap.size, 0, none⟩), .pointer (some ⟨NV, 0, none⟩), .pointer (some ⟨NL, 0, none⟩)] w' fun q w'' => q = .returned (.bool true) ∧ MSt w i 802 w'' ∧ ∀ o, w''.cell? ⟨NV, o, none⟩ = w'.cell? ⟨NV, o, none⟩) := fun w' hM => by rw [← HNV.out, ← HNL.out]; exact doneM0 hM (by omega) (by omega)
      have H2 : Hid (∀ w', MSt w i 802 w' → Calls Try.prog 11 #[.pointer (some ⟨w.heap.size, 123, none⟩), .pointer (some ⟨NV, 2, none⟩), .pointer (some ⟨NL, 0, none⟩)] w' fun q w'' => q = .returned (.bool true) ∧ MSt w i 804 w'' ∧ ∀ o, w''.cell? ⟨NV, o, none⟩ = w'.cell? ⟨NV, o, none⟩) := fun w' hM => by rw [← HNV.out, ← HNL.out]; exact doneM1 hM (by omega) (by omega)
      have H3 : Hid (∀ w', MSt w i 804 w' → Calls Try.prog 12 #[.pointer (some ⟨NL, 0, none⟩), .pointer (some ⟨NB, 0, none⟩), .int .i64 0] w' fun q w'' => q = .returned (.bool true) ∧ MSt w i 804 w'' ∧ ∀ o, w''.cell? ⟨NV, o, none⟩ = w'.cell? ⟨NV, o, none⟩) := fun w' hM => by rw [← HNL.out, ← HNB.out, ← HNV.out]; exact settleM hM 0 (by omega)
      have H4 : Hid (∀ w', MSt w i 804 w' → Calls Try.prog 13 #[.pointer (some ⟨NB, 0, none⟩)] w' fun q w'' => q = .returned (.bool true) ∧ Below w.heap.size w w'') := fun w' hM => by rw [← HNB.out]; exact lookM hM
      go_wp2_with fail
      refine (H1.out _ HM.out).mono ?_
      rintro _ w1 ⟨rfl, M1, -⟩
      have HM1 : Hid (MSt w i 802 w1) := M1
      clear M1
      go_wp2_with fail
      refine (H2.out _ HM1.out).mono ?_
      rintro _ w2 ⟨rfl, M2, -⟩
      have HM2 : Hid (MSt w i 804 w2) := M2
      clear M2
      go_wp2_with fail
      refine (H3.out _ HM2.out).mono ?_
      rintro _ w3 ⟨rfl, M3, -⟩
      have HM3 : Hid (MSt w i 804 w3) := M3
      clear M3
      go_wp2_with fail
      refine (H4.out _ HM3.out).mono ?_
      rintro _ w4 ⟨rfl, B4⟩
      have HB4 : Hid (Below w.heap.size w w4) := B4
      clear B4
      go_wp2_with fail
      refine (works_any _).mono ?_
      rintro _ w5 ⟨rfl, D5⟩
      have HB5 : Hid (Below w.heap.size w w5) := HB4.out.trans (D5.mono HB4.out.size)
      clear D5
      go_wp2_with fail
      go_ret
      exact ⟨rfl, HB5.out⟩

end Go.Proofs.Ytpiiagjfimdflaa

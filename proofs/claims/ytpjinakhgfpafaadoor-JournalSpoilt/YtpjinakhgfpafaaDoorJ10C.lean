/- JournalSpoilt: the law's own sums. -/
import Derived.Test.YtpjinakhgfpafaaDoorJ10B
import Derived.Test.YtpjinakhgfpafaaDoorJ3A
namespace Go.Proofs.YtpjinakhgfpafaaDoor
open Go.RowKit
set_option linter.unusedVariables false
set_option linter.unusedSimpArgs false

set_option maxRecDepth 100000 in
set_option maxHeartbeats 8000000 in
theorem sums_true (w : World) (g o L c : Nat) (X : List Nat) (hcy : Cy w (some ⟨g, o, none⟩) L c X) (h256 : ∀ x ∈ X, x < 256) (hS : SumsOk X) (hL : L ≤ 1000000) (hT : TabC w) :
    Calls Tryd.prog 14 #[.slice (some ⟨g, o, none⟩) L c] w fun e w' => e = .returned (.bool true) ∧ Below w.heap.size w w' := by
  have hXL : X.length = L := hcy.2.1.symm
  obtain ⟨s1, s2, s3, s4⟩ := hS
  have get : ∀ i, i < L → w.cell? ⟨g, o + i, none⟩ = some (.int .u8 ((X.getD i 0 : Nat) : Int)) := fun i hi => by
    obtain ⟨_, _, e, hc⟩ := by_slice hcy.1
    simp only [Value.slice.injEq] at e
    obtain ⟨b', o', e1, hh⟩ := hc i (by omega)
    have e2 := e.1.trans e1
    simp only [Option.some.injEq, Addr.mk.injEq, and_true] at e2
    obtain ⟨rfl, rfl⟩ := e2
    exact hh
  have gl := fun i (hi : i < X.length) => getD_lt h256 i hi
  have d0 := get 0 (by omega)
  obtain ⟨c0, e0⟩ : ∃ c, X.getD 0 0 = c := ⟨_, rfl⟩
  have h0 : c0 < 256 := by rw [← e0]; exact gl 0 (by omega)
  rw [e0] at d0
  have d1 := get 1 (by omega)
  obtain ⟨c1, e1⟩ : ∃ c, X.getD 1 0 = c := ⟨_, rfl⟩
  have h1 : c1 < 256 := by rw [← e1]; exact gl 1 (by omega)
  rw [e1] at d1
  have d2 := get 2 (by omega)
  obtain ⟨c2, e2⟩ : ∃ c, X.getD 2 0 = c := ⟨_, rfl⟩
  have h2 : c2 < 256 := by rw [← e2]; exact gl 2 (by omega)
  rw [e2] at d2
  have d3 := get 3 (by omega)
  obtain ⟨c3, e3⟩ : ∃ c, X.getD 3 0 = c := ⟨_, rfl⟩
  have h3 : c3 < 256 := by rw [← e3]; exact gl 3 (by omega)
  rw [e3] at d3
  have d4 := get 4 (by omega)
  obtain ⟨c4, e4⟩ : ∃ c, X.getD 4 0 = c := ⟨_, rfl⟩
  have h4 : c4 < 256 := by rw [← e4]; exact gl 4 (by omega)
  rw [e4] at d4
  have d5 := get 5 (by omega)
  obtain ⟨c5, e5⟩ : ∃ c, X.getD 5 0 = c := ⟨_, rfl⟩
  have h5 : c5 < 256 := by rw [← e5]; exact gl 5 (by omega)
  rw [e5] at d5
  have d6 := get 6 (by omega)
  obtain ⟨c6, e6⟩ : ∃ c, X.getD 6 0 = c := ⟨_, rfl⟩
  have h6 : c6 < 256 := by rw [← e6]; exact gl 6 (by omega)
  rw [e6] at d6
  have d7 := get 7 (by omega)
  obtain ⟨c7, e7⟩ : ∃ c, X.getD 7 0 = c := ⟨_, rfl⟩
  have h7 : c7 < 256 := by rw [← e7]; exact gl 7 (by omega)
  rw [e7] at d7
  have HN : Hid (num4 X = c0 * 16777216 + c1 * 65536 + c2 * 256 + c3) := by rw [← e0, ← e1, ← e2, ← e3]; rfl
  have HM : Hid (num4 (X.drop 4) = c4 * 16777216 + c5 * 65536 + c6 * 256 + c7) := by
    show _ = _
    rw [← e4, ← e5, ← e6, ← e7]
    unfold num4
    simp only [List.getD_eq_getElem?_getD, List.getElem?_drop]
  obtain ⟨n, hn⟩ : ∃ n, num4 X = n := ⟨_, rfl⟩
  rw [hn] at s2 s3 s4 HN
  rw [hXL] at s1 s3
  have r0 : IntKind.u32.wrap (c0 : Int) = (c0 : Int) := by rw [IntKind.wrap_u32]; omega
  have r1 : IntKind.u32.wrap (c1 : Int) = (c1 : Int) := by rw [IntKind.wrap_u32]; omega
  have r2 : IntKind.u32.wrap (c2 : Int) = (c2 : Int) := by rw [IntKind.wrap_u32]; omega
  have r3 : IntKind.u32.wrap (c3 : Int) = (c3 : Int) := by rw [IntKind.wrap_u32]; omega
  have r4 : IntKind.u32.wrap (c4 : Int) = (c4 : Int) := by rw [IntKind.wrap_u32]; omega
  have r5 : IntKind.u32.wrap (c5 : Int) = (c5 : Int) := by rw [IntKind.wrap_u32]; omega
  have r6 : IntKind.u32.wrap (c6 : Int) = (c6 : Int) := by rw [IntKind.wrap_u32]; omega
  have r7 : IntKind.u32.wrap (c7 : Int) = (c7 : Int) := by rw [IntKind.wrap_u32]; omega
  rw [Nat.add_zero] at d0
  have hL8 : ¬ (L : Int) < 8 := by omega
  have HX := hide (And.intro hcy h256)
  have HT := hide hT
  have HS4 := hide s4
  clear hcy h256 hT s4 get gl e0 e1 e2 e3 e4 e5 e6 e7 hn
  go_enter Tryd.func14, Tryd.ntmps14
  have hNi : (c0 : Int) * 16777216 + (c1 : Int) * 65536 + (c2 : Int) * 256 + (c3 : Int) = (n : Int) := by have := HN.out; omega
  have hnL : ¬ (L : Int) - 8 < (n : Int) := by omega
  have HNI := hide hNi
  clear hNi
  go_upto_region 3 with fail
  go_quiet (fail)
  rw [HNI.out]
  clear HNI HN
  go_upto_region 6 with fail
  have HB1 : Hid (Below w.heap.size w (w.drewN nq)) := below_drewN (Below.refl _ _) nq
  generalize w.drewN nq = w1 at *
  have hc4 : (4 : Int) ≤ (c : Int) := by have := HX.out.1.2.2.1; omega
  have hc8 : (8 : Int) + (n : Int) ≤ (c : Int) := by have := HX.out.1.2.2.1; omega
  have hn0 : (0 : Int) ≤ (n : Int) := by omega
  have hw8 : IntKind.i64.wrap (8 + (n : Int)) = 8 + (n : Int) := by rw [IntKind.wrap_i64]; omega
  have h80 : (0 : Int) ≤ 8 + (n : Int) := by omega
  have h88 : (8 : Int) ≤ 8 + (n : Int) := by omega
  have hmx : max (8 + (n : Int)) 0 = 8 + (n : Int) := by omega
  have htn : (8 + (n : Int)).toNat = 8 + n := by omega
  obtain ⟨a8, ha8⟩ : ∃ a : Addr, (if c = 8 then some ⟨g, o, none⟩ else some ⟨g, o + 8, none⟩ : Option Addr) = some a := by split <;> exact ⟨_, rfl⟩
  have HY : Hid (∀ w2, Below w.heap.size w w2 → ∀ j u, (bytesV ((X.drop 8).take n))[j]? = some u → w2.cell? (a8.add j) = some u) := fun w2 hb j u hj => by
    have hjn : j < n := by
      rcases Nat.lt_or_ge j n with h | h
      · exact h
      · rw [List.getElem?_eq_none (by simp [bytesV]; omega)] at hj; simp at hj
    have hcn : ¬ c = 8 := by have := HX.out.1.2.2.1; omega
    rw [if_neg hcn] at ha8
    simp only [Option.some.injEq] at ha8
    obtain ⟨_, _, e, hc⟩ := by_slice (isBy_below HX.out.1.1 hb)
    simp only [Value.slice.injEq] at e
    obtain ⟨b', o', e1, hh⟩ := hc (8 + j) (by omega)
    have e2 := e.1.trans e1
    simp only [Option.some.injEq, Addr.mk.injEq, and_true] at e2
    obtain ⟨rfl, rfl⟩ := e2
    have e3 : (bytesV ((X.drop 8).take n))[j]? = some (.int .u8 ((X.getD (8 + j) 0 : Nat) : Int)) := by
      simp only [bytesV, List.getElem?_map, List.getElem?_take, List.getElem?_drop]
      rw [if_pos hjn, List.getElem?_eq_getElem (by omega)]
      simp [List.getD, show 8 + j < X.length from by omega]
    rw [e3] at hj
    simp only [Option.some.injEq] at hj
    rw [← hj, ← ha8]
    rw [Addr.add_mid, Nat.add_assoc]; exact hh
  have HC4 : Hid (IsBy w1 (.slice (some ⟨g, o, none⟩) 4 c) (X.take 4)) := isBy_take (isBy_below HX.out.1.1 HB1.out) (by omega) 4 (by omega)
  have HYL : Hid (((X.drop 8).take n).length = n ∧ (X.take 4).length = 4) := ⟨by rw [List.length_take, List.length_drop]; omega, by rw [List.length_take]; omega⟩
  have HY2 : Hid (∀ x ∈ X.take 4 ++ (X.drop 8).take n, x < 256) := fun x hx => by
    rcases List.mem_append.1 hx with h | h
    · exact HX.out.2 x (List.mem_of_mem_take h)
    · exact HX.out.2 x (List.mem_of_mem_drop (List.mem_of_mem_take h))
  obtain ⟨i5, hi5⟩ := info5
  have Hi := hide hi5
  clear hi5
  refine wp_region_held_drew (S := fun w' => True) (by kernel_rfl) trivial (fun hHeld => ?_)
  refine wpAnyH_take (i := 0) (v := ?_) rfl (by kernel_rfl) (by kernel_rfl) (by kernel_rfl) (fun _ _ _ h => h) (Or.inl ⟨by rfl, ?_⟩) hHeld ?_
  rotate_left
  · (intro wq hSw; (try dsimp only at hSw); (try obtain _ := hSw); (go_simp <;> with_reducible rfl))
  try simp only [Act.put, List.getElem_toArray, List.getElem_cons_zero, List.getElem_cons_succ, List.setIfInBounds_toArray, List.set_cons_zero, List.set_cons_succ]
  refine wpAnyH_take (i := 1) (v := ?_) rfl (by kernel_rfl) (by kernel_rfl) (by kernel_rfl) (fun _ _ _ h => h) (Or.inl ⟨by rfl, ?_⟩) hHeld ?_
  rotate_left
  · (intro wq hSw; (try dsimp only at hSw); (try obtain _ := hSw); (go_simp <;> with_reducible rfl))
  try simp only [Act.put, List.getElem_toArray, List.getElem_cons_zero, List.getElem_cons_succ, List.setIfInBounds_toArray, List.set_cons_zero, List.set_cons_succ]
  refine wpAnyH_take (i := 3) (v := ?_) rfl (by kernel_rfl) (by kernel_rfl) (by kernel_rfl) (fun _ _ _ h => h) (Or.inl ⟨by rfl, ?_⟩) hHeld ?_
  rotate_left
  · (intro wq hSw; (try dsimp only at hSw); (try obtain _ := hSw); (go_simp <;> with_reducible rfl))
  try simp only [Act.put, List.getElem_toArray, List.getElem_cons_zero, List.getElem_cons_succ, List.setIfInBounds_toArray, List.set_cons_zero, List.set_cons_succ]
  refine wpAnyH_take (i := 4) (v := ?_) rfl (by kernel_rfl) (by kernel_rfl) (by kernel_rfl) (fun _ _ _ h => h) (Or.inl ⟨by rfl, ?_⟩) hHeld ?_
  rotate_left
  · (intro wq hSw; (try dsimp only at hSw); (try obtain _ := hSw); (go_simp <;> with_reducible rfl))
  try simp only [Act.put, List.getElem_toArray, List.getElem_cons_zero, List.getElem_cons_succ, List.setIfInBounds_toArray, List.set_cons_zero, List.set_cons_succ]
  refine wpAnyH_take (i := 5) (v := ?_) rfl (by kernel_rfl) (by kernel_rfl) (by kernel_rfl) (fun _ _ _ h => h) (Or.inl ⟨by rfl, ?_⟩) hHeld ?_
  rotate_left
  · (intro wq hSw; (try dsimp only at hSw); (try obtain _ := hSw); (go_simp <;> with_reducible rfl))
  try simp only [Act.put, List.getElem_toArray, List.getElem_cons_zero, List.getElem_cons_succ, List.setIfInBounds_toArray, List.set_cons_zero, List.set_cons_succ]
  refine wpAnyH_take (i := 6) (v := ?_) rfl (by kernel_rfl) (by kernel_rfl) (by kernel_rfl) (fun _ _ _ h => h) (Or.inl ⟨by rfl, ?_⟩) hHeld ?_
  rotate_left
  · (intro wq hSw; (try dsimp only at hSw); (try obtain _ := hSw); (go_simp <;> with_reducible rfl))
  try simp only [Act.put, List.getElem_toArray, List.getElem_cons_zero, List.getElem_cons_succ, List.setIfInBounds_toArray, List.set_cons_zero, List.set_cons_succ]
  refine wpAnyH_ready (rs := [2]) (by kernel_rfl) (by simp) ?_
  refine AllReadyH.cons rfl (fun K hK => ?_) AllReadyH.nil
  go_simp
  refine (copy_any _ (X.take 4) w1.drew (isBy_heap HC4.out rfl) (by rw [HYL.out.2]; decide)).mono ?_
  rintro _ w2 ⟨v2, rfl, ho2⟩
  obtain ⟨q2, k2, hv2⟩ := ho2.slice
  rw [HYL.out.2] at hv2
  subst hv2
  have HO2 := hide ho2
  have HB2 : Hid (Below w.heap.size w w2) := HB1.out.trans (((below_drewN (Below.refl _ _) 1).trans ho2.bel).mono HB1.out.size)
  clear ho2
  refine hK.out _ _ trivial (fun hHeld => ?_)
  clear hK K
  try simp only [Act.put, List.getElem_toArray, List.getElem_cons_zero, List.getElem_cons_succ, List.setIfInBounds_toArray, List.set_cons_zero, List.set_cons_succ]
  obtain ⟨v3, w3, hrun, ho3, hg3, _, _⟩ := Go.run_append_own_at (P := Tryd.prog) (w := w2) w1.drew.heap.size 30 30 5 i5 (.int .u8 0) 1 1 Tryd.underlying30 Hi.out.1 Hi.out.2.1 Hi.out.2.2.1 Hi.out.2.2.2 rfl (by decide) (.slice q2 4 k2) 4 (bytesV (X.take 4)) (by have := HO2.out.own; rw [HYL.out.2] at this; exact this) a8 n (c - 8) (bytesV ((X.drop 8).take n)) (by simp only [bytesV, List.length_map]; rw [HYL.out.1]; omega) (HY.out w2 HB2.out) (fun u hu => by simp only [bytesV, List.mem_map] at hu; obtain ⟨_, _, rfl⟩ := hu; rfl) (by unfold maxLen; omega) (by omega) HO2.out.bel.size
  refine wpAnyH_ready (rs := [7]) (by kernel_rfl) (by simp) ?_
  refine AllReadyH.cons rfl (fun K hK => ?_) AllReadyH.nil
  rw [if_pos (by rfl)]
  unfold Oper.wp execOp
  simp only [resolve, invoke, builtin, Sem.run_bind, Sem.run_pure, Result.andThen_ok, List.map_toArray, List.map_cons, List.map_nil, Act.eval, List.getElem_toArray, List.getElem_cons_zero, List.getElem_cons_succ, Array.getD_eq_getD_getElem?, List.getElem?_toArray, List.getElem?_cons_succ, List.getElem?_cons_zero, Option.getD_some, hrun, Result.andThen, Oper.upon_value]
  have HO3 : Hid (OB w1.drew.heap.size w1.drew (X.take 4 ++ (X.drop 8).take n) v3 w3) := HO2.out.more (by rw [HYL.out.1, HYL.out.2]; exact ho3) hg3
  have HB3 : Hid (Below w.heap.size w w3) := HB1.out.trans (((below_drewN (Below.refl _ _) 1).trans HO3.out.bel).mono HB1.out.size)
  obtain ⟨cr, hcr⟩ : ∃ cr, crcO (X.take 4 ++ (X.drop 8).take n) = cr := ⟨_, rfl⟩
  have HCR : Hid ((cr : Int) = (c4 : Int) * 16777216 + (c5 : Int) * 65536 + (c6 : Int) * 256 + (c7 : Int)) := by
    have h1 := HS4.out
    have h2 := HM.out
    rw [hcr] at h1
    show _ = _
    omega
  have HSM := hide (jsum_any v3 _ w3 HO3.out.by_ HY2.out (by rw [List.length_append, HYL.out.1, HYL.out.2]; omega) (HT.out.below HB3.out))
  rw [hcr] at HSM
  have f4 : w3.cell? ⟨g, o + 4, none⟩ = some (.int .u8 (c4 : Int)) := by rw [HB3.out.cell (p := ⟨g, o + 4, none⟩) (block_lt_of_cell d4)]; exact d4
  have f5 : w3.cell? ⟨g, o + 5, none⟩ = some (.int .u8 (c5 : Int)) := by rw [HB3.out.cell (p := ⟨g, o + 5, none⟩) (block_lt_of_cell d5)]; exact d5
  have f6 : w3.cell? ⟨g, o + 6, none⟩ = some (.int .u8 (c6 : Int)) := by rw [HB3.out.cell (p := ⟨g, o + 6, none⟩) (block_lt_of_cell d6)]; exact d6
  have f7 : w3.cell? ⟨g, o + 7, none⟩ = some (.int .u8 (c7 : Int)) := by rw [HB3.out.cell (p := ⟨g, o + 7, none⟩) (block_lt_of_cell d7)]; exact d7
  clear ho3 hg3 hcr hrun d0 d1 d2 d3 d4 d5 d6 d7
  refine hK.out _ _ trivial (fun hHeld => ?_)
  clear hK K
  try simp only [Act.put, List.getElem_toArray, List.getElem_cons_zero, List.getElem_cons_succ, List.setIfInBounds_toArray, List.set_cons_zero, List.set_cons_succ]
  refine wpAnyH_ready (rs := [8]) (by kernel_rfl) (by simp) ?_
  refine AllReadyH.cons rfl (fun K hK => ?_) AllReadyH.nil
  go_simp
  refine HSM.out.mono ?_
  rintro _ w5 ⟨rfl, hw5⟩
  have hw5' := hw5.symm
  subst hw5'
  refine hK.out _ _ trivial (fun hHeld => ?_)
  clear hK K
  try simp only [Act.put, List.getElem_toArray, List.getElem_cons_zero, List.getElem_cons_succ, List.setIfInBounds_toArray, List.set_cons_zero, List.set_cons_succ]
  refine wpAnyH_take (i := 9) (v := ?_) rfl (by kernel_rfl) (by kernel_rfl) (by kernel_rfl) (fun _ _ _ h => h) (Or.inl ⟨by rfl, ?_⟩) hHeld ?_
  rotate_left
  · (intro wq hSw; (try dsimp only at hSw); (try obtain _ := hSw); (go_simp <;> with_reducible rfl))
  try simp only [Act.put, List.getElem_toArray, List.getElem_cons_zero, List.getElem_cons_succ, List.setIfInBounds_toArray, List.set_cons_zero, List.set_cons_succ]
  refine wpAnyH_done (by kernel_rfl) ?_ _
  go_upto_region 7 with fail
  go_quiet (fail)
  rw [← HCR.out]
  go_wp2_with fail
  go_ret
  exact ⟨by simp, HB3.out.trans (below_drewN ((Below.refl _ _).mono HB3.out.size) _)⟩

end Go.Proofs.YtpjinakhgfpafaaDoor

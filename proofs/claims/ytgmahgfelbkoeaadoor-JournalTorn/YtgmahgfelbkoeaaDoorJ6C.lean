/- A log is opened of a file that ends within its head. -/
import Derived.Test.YtgmahgfelbkoeaaDoorJ6A
import Derived.Test.YtgmahgfelbkoeaaDoorJ5A
namespace Go.Proofs.YtgmahgfelbkoeaaDoor
open Go.RowKit
set_option linter.unusedVariables false
set_option linter.unusedSimpArgs false

set_option maxRecDepth 100000 in
set_option maxHeartbeats 4000000 in
theorem begin1_ok {B : Nat} {l d : Nat} {p : PS} {F : Nat → Prop} {nm : ByteArray} {sz : Nat} (w : World) (h : Di B w d p F) (hg : Lg w l d nm sz 0) (hl : ¬ F l) (hoff : p.off = false) (harm : p.ain = 0) (hwr : p.wr ≤ 99999999) (hs : okN nm) (bs : List Nat) (su : Nat) (hc : (nm, bs, su) ∈ p.con) (hr : Con.tot p.con + 8 ≤ p.room) (n : Nat) (hn : 0 < n) :
    Calls Tryd.prog 36 #[.pointer (some ⟨l, 0, none⟩), .int .i64 (n : Int)] w fun e w' => e = .returned (.int .i64 0) ∧ ∃ F', Di B w' d { p with con := Con.lay (Con.upd p.con nm (fun q => (q.1.take 0, min q.2 0))) nm headB, wr := p.wr + 3 } F' ∧ Lg w' l d nm 8 0 ∧ ¬ F' l ∧ Fx l w F w' F' := by
  have HCT : Hid (Calls Tryd.prog 28 #[.pointer (some ⟨d, 0, none⟩), .string nm, .int .i64 0] w.drew _) := di_cut w.drew h.drew hoff harm (by omega) nm hs bs su hc 0 (by omega)
  have hn' : (0 : Int) < (n : Int) := by omega
  have HG : Hid (Di B w d p F ∧ Lg w l d nm sz 0 ∧ ¬ F l) := ⟨h, hg, hl⟩
  have HP : Hid (p.off = false ∧ p.ain = 0 ∧ p.wr ≤ 99999999 ∧ okN nm ∧ (Con.upd p.con nm (fun q => (q.1.take 0, min q.2 0))).has nm ∧ Con.tot (Con.upd p.con nm (fun q => (q.1.take 0, min q.2 0))) + 8 ≤ p.room) := ⟨hoff, harm, hwr, hs, ⟨_, con_upd_at hc _, rfl⟩, by have := con_tot_upd (nm := nm) (g := fun q => (q.1.take 0, min q.2 0)) 0 (fun q => by simp) p.con h.rm.2.2; omega⟩
  clear h hg hl hoff harm hwr hs hc hr hn
  go_enter Tryd.func36, Tryd.ntmps36
  go_upto_region 2 with fail
  have q1 : w.drew.cell? ⟨l, 0, none⟩ = some (.pointer (some ⟨d, 0, none⟩)) := HG.out.2.1.cell 0 _ rfl
  have q2 : w.drew.cell? ⟨l, 1, none⟩ = some (.string nm) := HG.out.2.1.cell 1 _ rfl
  refine wp_region_held_drew (S := fun w' => w'.cell? ⟨l, 0, none⟩ = some (.pointer (some ⟨d, 0, none⟩)) ∧ w'.cell? ⟨l, 1, none⟩ = some (.string nm)) (by kernel_rfl) ⟨q1, q2⟩ (fun hHeld => ?_)
  refine wpAnyH_take (i := 0) (v := ?_) rfl (by kernel_rfl) (by kernel_rfl) (by kernel_rfl) (fun _ _ _ h => h) (Or.inl ⟨by rfl, ?_⟩) hHeld ?_
  rotate_left
  · (intro wq hSw; (try dsimp only at hSw); (try obtain ⟨s0, s1⟩ := hSw); (go_simp <;> with_reducible rfl))
  try simp only [Act.put, List.getElem_toArray, List.getElem_cons_zero, List.getElem_cons_succ, List.setIfInBounds_toArray, List.set_cons_zero, List.set_cons_succ]
  refine wpAnyH_take (i := 1) (v := ?_) rfl (by kernel_rfl) (by kernel_rfl) (by kernel_rfl) (fun _ _ _ h => h) (Or.inl ⟨by rfl, ?_⟩) hHeld ?_
  rotate_left
  · (intro wq hSw; (try dsimp only at hSw); (try obtain ⟨s0, s1⟩ := hSw); (go_simp <;> with_reducible rfl))
  try simp only [Act.put, List.getElem_toArray, List.getElem_cons_zero, List.getElem_cons_succ, List.setIfInBounds_toArray, List.set_cons_zero, List.set_cons_succ]
  refine wpAnyH_take (i := 2) (v := ?_) rfl (by kernel_rfl) (by kernel_rfl) (by kernel_rfl) (fun _ _ _ h => h) (Or.inl ⟨by rfl, ?_⟩) hHeld ?_
  rotate_left
  · (intro wq hSw; (try dsimp only at hSw); (try obtain ⟨s0, s1⟩ := hSw); (go_simp <;> with_reducible rfl))
  try simp only [Act.put, List.getElem_toArray, List.getElem_cons_zero, List.getElem_cons_succ, List.setIfInBounds_toArray, List.set_cons_zero, List.set_cons_succ]
  refine wpAnyH_take (i := 3) (v := ?_) rfl (by kernel_rfl) (by kernel_rfl) (by kernel_rfl) (fun _ _ _ h => h) (Or.inl ⟨by rfl, ?_⟩) hHeld ?_
  rotate_left
  · (intro wq hSw; (try dsimp only at hSw); (try obtain ⟨s0, s1⟩ := hSw); (go_simp <;> with_reducible rfl))
  try simp only [Act.put, List.getElem_toArray, List.getElem_cons_zero, List.getElem_cons_succ, List.setIfInBounds_toArray, List.set_cons_zero, List.set_cons_succ]
  refine wpAnyH_take (i := 4) (v := ?_) rfl (by kernel_rfl) (by kernel_rfl) (by kernel_rfl) (fun _ _ _ h => h) (Or.inl ⟨by rfl, ?_⟩) hHeld ?_
  rotate_left
  · (intro wq hSw; (try dsimp only at hSw); (try obtain ⟨s0, s1⟩ := hSw); (go_simp <;> with_reducible rfl))
  try simp only [Act.put, List.getElem_toArray, List.getElem_cons_zero, List.getElem_cons_succ, List.setIfInBounds_toArray, List.set_cons_zero, List.set_cons_succ]
  refine wpAnyH_take (i := 5) (v := ?_) rfl (by kernel_rfl) (by kernel_rfl) (by kernel_rfl) (fun _ _ _ h => h) (Or.inl ⟨by rfl, ?_⟩) hHeld ?_
  rotate_left
  · (intro wq hSw; (try dsimp only at hSw); (try obtain ⟨s0, s1⟩ := hSw); (go_simp <;> with_reducible rfl))
  try simp only [Act.put, List.getElem_toArray, List.getElem_cons_zero, List.getElem_cons_succ, List.setIfInBounds_toArray, List.set_cons_zero, List.set_cons_succ]
  refine wpAnyH_take (i := 6) (v := ?_) rfl (by kernel_rfl) (by kernel_rfl) (by kernel_rfl) (fun _ _ _ h => h) (Or.inl ⟨by rfl, ?_⟩) hHeld ?_
  rotate_left
  · (intro wq hSw; (try dsimp only at hSw); (try obtain ⟨s0, s1⟩ := hSw); (go_simp <;> with_reducible rfl))
  try simp only [Act.put, List.getElem_toArray, List.getElem_cons_zero, List.getElem_cons_succ, List.setIfInBounds_toArray, List.set_cons_zero, List.set_cons_succ]
  refine wpAnyH_take (i := 7) (v := ?_) rfl (by kernel_rfl) (by kernel_rfl) (by kernel_rfl) (fun _ _ _ h => h) (Or.inl ⟨by rfl, ?_⟩) hHeld ?_
  rotate_left
  · (intro wq hSw; (try dsimp only at hSw); (try obtain ⟨s0, s1⟩ := hSw); (go_simp <;> with_reducible rfl))
  try simp only [Act.put, List.getElem_toArray, List.getElem_cons_zero, List.getElem_cons_succ, List.setIfInBounds_toArray, List.set_cons_zero, List.set_cons_succ]
  refine wpAnyH_ready (rs := [8]) (by kernel_rfl) (by simp) ?_
  refine AllReadyH.cons rfl (fun K hK => ?_) AllReadyH.nil
  go_simp
  refine HCT.out.mono ?_
  rintro _ w1 ⟨rfl, F1, hD1, hF1⟩
  have hg1 : Lg w1 l d nm sz 0 := HG.out.2.1.fr (F := F) (F' := F1) ⟨hF1.os, hF1.tape, hF1.output, hF1.size, hF1.block⟩ HG.out.2.2
  have hl1 : ¬ F1 l := (hF1.block l (heap_lt HG.out.2.1) HG.out.2.2).1
  have r1 := hg1.cell 0 _ rfl
  have r2 := hg1.cell 1 _ rfl
  refine hK.out _ _ ⟨r1, r2⟩ (fun hHeld => ?_)
  clear hK K
  try simp only [Act.put, List.getElem_toArray, List.getElem_cons_zero, List.getElem_cons_succ, List.setIfInBounds_toArray, List.set_cons_zero, List.set_cons_succ]
  refine wpAnyH_take (i := 9) (v := ?_) rfl (by kernel_rfl) (by kernel_rfl) (by kernel_rfl) (fun _ _ _ h => h) (Or.inl ⟨by rfl, ?_⟩) hHeld ?_
  rotate_left
  · (intro wq hSw; (try dsimp only at hSw); (try obtain ⟨s0, s1⟩ := hSw); (go_simp <;> with_reducible rfl))
  try simp only [Act.put, List.getElem_toArray, List.getElem_cons_zero, List.getElem_cons_succ, List.setIfInBounds_toArray, List.set_cons_zero, List.set_cons_succ]
  refine wpAnyH_done (by kernel_rfl) ?_ _
  have f2 := frozen_of hg1 2
  have c2 := hg1.cell 2 (.int .i64 (sz : Int)) rfl
  obtain ⟨w2, hw2⟩ : ∃ w2, w2 = w1.setCell ⟨l, 2, none⟩ (.int .i64 8) := ⟨_, rfl⟩
  obtain ⟨w3, hw3⟩ : ∃ w3, w3 = w2.alloc (.cells #[.int .u8 70, .int .u8 65, .int .u8 84, .int .u8 72, .int .u8 79, .int .u8 77, .int .u8 74, .int .u8 49] 5 (8, 9)) := ⟨_, rfl⟩
  have hb3 : Below w2.heap.size w2 w3 := by rw [hw3]; exact (Below.refl _ _).alloc (Nat.le_refl _) _
  have hD2 : Di B w2 d { p with con := Con.upd p.con nm (fun q => (q.1.take 0, min q.2 0)), wr := p.wr + 1 } F1 := by rw [hw2]; exact hD1.setCell hl1 _
  have hD3 := hD2.below hb3
  have hL2 : Lg w2 l d nm 8 0 := by rw [hw2]; exact hg1.set 8
  have hL3 := hL2.below hb3
  have hsz2 : w2.heap.size = w1.heap.size := by rw [hw2]; simp [World.setCell]
  have HX : Hid (Fx l w F w3 F1) := by
    refine Fx.trans (b := w1) (G := F1) (Fr.fx ⟨hF1.os, hF1.tape, hF1.output, hF1.size, hF1.block⟩) (Fx.trans (b := w2) (G := F1) (by rw [hw2]; exact Fx.set l 2 _) (Fr.of_below hb3).fx)
  have HLL : Hid (Calls Tryd.prog 24 #[.pointer (some ⟨l, 0, none⟩), .slice (some ⟨w2.heap.size, 0, none⟩) 8 8] w3 _) := llay_ok w3 hD3 hL3 hl1 HP.out.1 HP.out.2.1 (by have := HP.out.2.2.1; dsimp only; omega) HP.out.2.2.2.1 (.inl HP.out.2.2.2.2.1) (some ⟨w2.heap.size, 0, none⟩) 8 8 headB rfl (Nat.le_refl _) (by simp) (isBy_head (by rw [hw3]; exact heap_alloc_new w2 _)) (fun k hk => by simp [Value.ownBlock] at hk; subst hk; exact fun e => by have := hD1.lt _ e; omega) (by decide) HP.out.2.2.2.2.2
  have HLF : Hid (Lg w3 l d nm 8 0 ∧ ¬ F1 l ∧ l < w3.heap.size) := ⟨hL3, hl1, heap_lt hL3⟩
  have hcv : (convert 38 38 (.slice (some ⟨w1.heap.size, 0, none⟩) 8 8)).run Tryd.prog (w2.alloc (.cells #[.int .u8 70, .int .u8 65, .int .u8 84, .int .u8 72, .int .u8 79, .int .u8 77, .int .u8 74, .int .u8 49] 5)) = .ok (.slice (some ⟨w1.heap.size, 0, none⟩) 8 8) w3 := by
    rw [hw3]; exact Go.Joins.run_convert_bytes_const_at (P := Tryd.prog) w2 38 5 #[.int .u8 70, .int .u8 65, .int .u8 84, .int .u8 72, .int .u8 79, .int .u8 77, .int .u8 74, .int .u8 49] 8 8 w1.heap.size hsz2.symm Tryd.underlying38 (by kernel_rfl)
  rw [hsz2] at HLL
  rw [hw2] at hcv
  clear hD1 hF1 hg1 hl1 hD2 hD3 hL2 hL3 hb3 hw2 hsz2 hw3 r1 r2 q1 q2
  go_wp2_with (go_at_call 24; refine HLL.out.mono ?_; rintro e w4 ⟨rfl, F4, hD4, hF4⟩; have H4 : Hid (Di B w4 d { p with con := Con.lay (Con.upd p.con nm (fun q => (q.1.take 0, min q.2 0))) nm headB, wr := p.wr + 3 } F4 ∧ Fr w3 F1 w4 F4) := ⟨hD4, hF4⟩; clear hD4 hF4)
  go_ret
  exact ⟨rfl, F4, H4.out.1, HLF.out.1.fr H4.out.2 HLF.out.2.1, (H4.out.2.block l HLF.out.2.2 HLF.out.2.1).1, HX.out.trans H4.out.2.fx⟩

set_option maxRecDepth 100000 in
theorem sprefix_0 (w : World) : Calls Tryd.prog 35 #[.string { data := #[70, 65, 84, 72, 79, 77, 74, 49] }, .string (strOf (headB.take 0))] w fun e w' => e = .returned (.bool true) ∧ w' = w := by
  have e : strOf (headB.take 0) = ⟨#[]⟩ := by rfl
  rw [e]
  clear e
  have hx : (({ data := #[70, 65, 84, 72, 79, 77, 74, 49] } : ByteArray).extract 0 0).toList = [] := by rw [ByteArray.toList_eq]; rfl
  go_enter Tryd.func35, Tryd.ntmps35
  go_wp2
  go_ret
  exact ⟨by first | rfl | simp [hx], rfl⟩

set_option maxRecDepth 100000 in
theorem sprefix_1 (w : World) : Calls Tryd.prog 35 #[.string { data := #[70, 65, 84, 72, 79, 77, 74, 49] }, .string (strOf (headB.take 1))] w fun e w' => e = .returned (.bool true) ∧ w' = w := by
  have e : strOf (headB.take 1) = ⟨#[70]⟩ := by rfl
  rw [e]
  clear e
  have hx : (({ data := #[70, 65, 84, 72, 79, 77, 74, 49] } : ByteArray).extract 0 1).toList = [70] := by rw [ByteArray.toList_eq]; rfl
  go_enter Tryd.func35, Tryd.ntmps35
  go_wp2
  go_ret
  exact ⟨by first | rfl | simp [hx], rfl⟩

set_option maxRecDepth 100000 in
theorem sprefix_2 (w : World) : Calls Tryd.prog 35 #[.string { data := #[70, 65, 84, 72, 79, 77, 74, 49] }, .string (strOf (headB.take 2))] w fun e w' => e = .returned (.bool true) ∧ w' = w := by
  have e : strOf (headB.take 2) = ⟨#[70, 65]⟩ := by rfl
  rw [e]
  clear e
  have hx : (({ data := #[70, 65, 84, 72, 79, 77, 74, 49] } : ByteArray).extract 0 2).toList = [70, 65] := by rw [ByteArray.toList_eq]; rfl
  go_enter Tryd.func35, Tryd.ntmps35
  go_wp2
  go_ret
  exact ⟨by first | rfl | simp [hx], rfl⟩

set_option maxRecDepth 100000 in
theorem sprefix_3 (w : World) : Calls Tryd.prog 35 #[.string { data := #[70, 65, 84, 72, 79, 77, 74, 49] }, .string (strOf (headB.take 3))] w fun e w' => e = .returned (.bool true) ∧ w' = w := by
  have e : strOf (headB.take 3) = ⟨#[70, 65, 84]⟩ := by rfl
  rw [e]
  clear e
  have hx : (({ data := #[70, 65, 84, 72, 79, 77, 74, 49] } : ByteArray).extract 0 3).toList = [70, 65, 84] := by rw [ByteArray.toList_eq]; rfl
  go_enter Tryd.func35, Tryd.ntmps35
  go_wp2
  go_ret
  exact ⟨by first | rfl | simp [hx], rfl⟩

set_option maxRecDepth 100000 in
theorem sprefix_4 (w : World) : Calls Tryd.prog 35 #[.string { data := #[70, 65, 84, 72, 79, 77, 74, 49] }, .string (strOf (headB.take 4))] w fun e w' => e = .returned (.bool true) ∧ w' = w := by
  have e : strOf (headB.take 4) = ⟨#[70, 65, 84, 72]⟩ := by rfl
  rw [e]
  clear e
  have hx : (({ data := #[70, 65, 84, 72, 79, 77, 74, 49] } : ByteArray).extract 0 4).toList = [70, 65, 84, 72] := by rw [ByteArray.toList_eq]; rfl
  go_enter Tryd.func35, Tryd.ntmps35
  go_wp2
  go_ret
  exact ⟨by first | rfl | simp [hx], rfl⟩

set_option maxRecDepth 100000 in
theorem sprefix_5 (w : World) : Calls Tryd.prog 35 #[.string { data := #[70, 65, 84, 72, 79, 77, 74, 49] }, .string (strOf (headB.take 5))] w fun e w' => e = .returned (.bool true) ∧ w' = w := by
  have e : strOf (headB.take 5) = ⟨#[70, 65, 84, 72, 79]⟩ := by rfl
  rw [e]
  clear e
  have hx : (({ data := #[70, 65, 84, 72, 79, 77, 74, 49] } : ByteArray).extract 0 5).toList = [70, 65, 84, 72, 79] := by rw [ByteArray.toList_eq]; rfl
  go_enter Tryd.func35, Tryd.ntmps35
  go_wp2
  go_ret
  exact ⟨by first | rfl | simp [hx], rfl⟩

set_option maxRecDepth 100000 in
theorem sprefix_6 (w : World) : Calls Tryd.prog 35 #[.string { data := #[70, 65, 84, 72, 79, 77, 74, 49] }, .string (strOf (headB.take 6))] w fun e w' => e = .returned (.bool true) ∧ w' = w := by
  have e : strOf (headB.take 6) = ⟨#[70, 65, 84, 72, 79, 77]⟩ := by rfl
  rw [e]
  clear e
  have hx : (({ data := #[70, 65, 84, 72, 79, 77, 74, 49] } : ByteArray).extract 0 6).toList = [70, 65, 84, 72, 79, 77] := by rw [ByteArray.toList_eq]; rfl
  go_enter Tryd.func35, Tryd.ntmps35
  go_wp2
  go_ret
  exact ⟨by first | rfl | simp [hx], rfl⟩

set_option maxRecDepth 100000 in
theorem sprefix_7 (w : World) : Calls Tryd.prog 35 #[.string { data := #[70, 65, 84, 72, 79, 77, 74, 49] }, .string (strOf (headB.take 7))] w fun e w' => e = .returned (.bool true) ∧ w' = w := by
  have e : strOf (headB.take 7) = ⟨#[70, 65, 84, 72, 79, 77, 74]⟩ := by rfl
  rw [e]
  clear e
  have hx : (({ data := #[70, 65, 84, 72, 79, 77, 74, 49] } : ByteArray).extract 0 7).toList = [70, 65, 84, 72, 79, 77, 74] := by rw [ByteArray.toList_eq]; rfl
  go_enter Tryd.func35, Tryd.ntmps35
  go_wp2
  go_ret
  exact ⟨by first | rfl | simp [hx], rfl⟩

theorem sprefix_head (bs : List Nat) (h : bs.length < 8) (hp : bs = headB.take bs.length) (w : World) : Calls Tryd.prog 35 #[.string { data := #[70, 65, 84, 72, 79, 77, 74, 49] }, .string (strOf bs)] w fun e w' => e = .returned (.bool true) ∧ w' = w := by
  rw [hp]
  obtain ⟨n, hn⟩ : ∃ n, bs.length = n := ⟨_, rfl⟩
  rw [hn] at h ⊢
  have h8 : n = 0 ∨ n = 1 ∨ n = 2 ∨ n = 3 ∨ n = 4 ∨ n = 5 ∨ n = 6 ∨ n = 7 := by omega
  rcases h8 with rfl | rfl | rfl | rfl | rfl | rfl | rfl | rfl
  · exact sprefix_0 w
  · exact sprefix_1 w
  · exact sprefix_2 w
  · exact sprefix_3 w
  · exact sprefix_4 w
  · exact sprefix_5 w
  · exact sprefix_6 w
  · exact sprefix_7 w

set_option maxRecDepth 100000 in
set_option maxHeartbeats 8000000 in
theorem opened_beg0 {B : Nat} {l d : Nat} {p : PS} {F : Nat → Prop} {nm : ByteArray} (w : World) (h : Di B w d p F) (hg : Lg w l d nm 0 0) (hl : ¬ F l) (hoff : p.off = false) (harm : p.ain = 0) (hwr : p.wr ≤ 99999999) (hs : okN nm) (bs : List Nat) (su : Nat) (hc : (nm, bs, su) ∈ p.con) (h8 : bs.length < 8) (hpre : bs = headB.take bs.length) (hr : Con.tot p.con + 8 ≤ p.room) (hz : bs.length = 0) :
    Calls Tryd.prog 19 #[.pointer (some ⟨l, 0, none⟩)] w fun e w' => e = .returned (.tuple #[.pointer (some ⟨l, 0, none⟩), .slice none 0 0, .int .i64 0]) ∧ ∃ F', Di B w' d { p with con := Con.lay (p.con) nm headB, wr := p.wr + 2 } F' ∧ Lg w' l d nm 8 0 ∧ ¬ F' l ∧ Fx l w F w' F' := by
  have hmf : ∀ (fn : Fn) (first cap : Array Value) (w : World), (Instr.makeFunc fn first cap).run Tryd.prog w = .ok (.func fn first cap) w := fun _ _ _ _ => rfl
  have HST := hide (op_start h hg hl)
  have HRD : Hid (∀ w1 F1, Di B w1 d p F1 → Calls Tryd.prog 34 #[.pointer (some ⟨d, 0, none⟩), .string nm] w1 _) := fun w1 F1 h1 => di_read w1 h1 hoff nm hs bs su hc
  obtain ⟨CN, hCN⟩ : ∃ x, p.con = x := ⟨_, rfl⟩
  rw [hCN]
  obtain ⟨N, hN⟩ : ∃ N, bs.length = N := ⟨_, rfl⟩
  have HBG : Hid (∀ w1 F1, Di B w1 d p F1 → Lg w1 l d nm 0 0 → ¬ F1 l → Calls Tryd.prog 36 #[.pointer (some ⟨l, 0, none⟩), .int .i64 (N : Int)] w1 fun e w' => e = .returned (.int .i64 0) ∧ ∃ F', Di B w' d { p with con := Con.lay CN nm headB, wr := p.wr + 2 } F' ∧ Lg w' l d nm 8 0 ∧ ¬ F' l ∧ Fx l w1 F1 w' F') := fun w1 F1 h1 h2 h3 => by rw [← hCN]; exact (by rw [← hN, hz]; exact begin0_ok w1 h1 h2 h3 hoff harm (by omega) hs (.inl ⟨_, hc, rfl⟩) hr)
  have HSP := hide (fun w1 => sprefix_head bs h8 hpre w1)
  have HN := hide hN
  rw [hN] at h8
  obtain ⟨b1, e1⟩ : ∃ b1, w.heap.size = b1 := ⟨_, rfl⟩
  obtain ⟨b2, e2⟩ : ∃ b2, b1 + 1 = b2 := ⟨_, rfl⟩
  obtain ⟨b3, e3⟩ : ∃ b3, b2 + 1 = b3 := ⟨_, rfl⟩
  rw [e1, e2, e3] at HST
  have E1 := hide e1
  have E2 := hide e2
  have E3 := hide e3
  clear e1 e2 e3
  have hN8 : (N : Int) < 8 := by omega
  clear h hg hl hoff harm hwr hs hc hr hpre hN hz hCN
  go_enter_defers Tryd.func19, Tryd.ntmps19
  go_upto_region 3 with fail
  rw [E1.out, E2.out, E3.out]
  obtain ⟨wa, hwa⟩ : ∃ wa, (((w.alloc (.cells #[.pointer (some ⟨l, 0, none⟩)] 31)).alloc (.cells #[.slice none 0 0] 22)).alloc (.cells #[.int .i64 0] 26)) = wa := ⟨_, rfl⟩
  have HWA : Hid (Below w.heap.size w wa ∧ b1 < wa.heap.size ∧ b2 < wa.heap.size ∧ b3 < wa.heap.size ∧ w.heap.size = b1) := by
    rw [← hwa]; exact ⟨(((Below.refl _ _).alloc (Nat.le_refl _) _).alloc (by simp) _).alloc (by simp; omega) _, by have := E1.out; simp; omega, by have := E1.out; have := E2.out; simp; omega, by have := E1.out; have := E2.out; have := E3.out; simp; omega, E1.out⟩
  rw [hwa] at HST
  rw [hwa]
  clear hwa E1 E2 E3
  have q1 : wa.drew.cell? ⟨b1, 0, none⟩ = some (.pointer (some ⟨l, 0, none⟩)) := HST.out.bx.c1
  have q2 : wa.drew.cell? ⟨l, 0, none⟩ = some (.pointer (some ⟨d, 0, none⟩)) := HST.out.lg.cell 0 _ rfl
  have q3 : wa.drew.cell? ⟨l, 1, none⟩ = some (.string nm) := HST.out.lg.cell 1 _ rfl
  refine wp_region_noPanic ?_
  refine wp_region_held_drew (S := fun w' => w'.cell? ⟨b1, 0, none⟩ = some (.pointer (some ⟨l, 0, none⟩)) ∧ w'.cell? ⟨l, 0, none⟩ = some (.pointer (some ⟨d, 0, none⟩)) ∧ w'.cell? ⟨l, 1, none⟩ = some (.string nm)) (by kernel_rfl) ⟨q1, q2, q3⟩ (fun hHeld => ?_)
  refine wpAnyH_take (i := 0) (v := ?_) rfl (by kernel_rfl) (by kernel_rfl) (by kernel_rfl) (fun _ _ _ h => h) (Or.inl ⟨by rfl, ?_⟩) hHeld ?_
  rotate_left
  · (intro wq hSw; (try dsimp only at hSw); (try obtain ⟨s0, s1, s2⟩ := hSw); (go_simp <;> with_reducible rfl))
  try simp only [Act.put, List.getElem_toArray, List.getElem_cons_zero, List.getElem_cons_succ, List.setIfInBounds_toArray, List.set_cons_zero, List.set_cons_succ]
  refine wpAnyH_take (i := 1) (v := ?_) rfl (by kernel_rfl) (by kernel_rfl) (by kernel_rfl) (fun _ _ _ h => h) (Or.inl ⟨by rfl, ?_⟩) hHeld ?_
  rotate_left
  · (intro wq hSw; (try dsimp only at hSw); (try obtain ⟨s0, s1, s2⟩ := hSw); (go_simp <;> with_reducible rfl))
  try simp only [Act.put, List.getElem_toArray, List.getElem_cons_zero, List.getElem_cons_succ, List.setIfInBounds_toArray, List.set_cons_zero, List.set_cons_succ]
  refine wpAnyH_take (i := 2) (v := ?_) rfl (by kernel_rfl) (by kernel_rfl) (by kernel_rfl) (fun _ _ _ h => h) (Or.inl ⟨by rfl, ?_⟩) hHeld ?_
  rotate_left
  · (intro wq hSw; (try dsimp only at hSw); (try obtain ⟨s0, s1, s2⟩ := hSw); (go_simp <;> with_reducible rfl))
  try simp only [Act.put, List.getElem_toArray, List.getElem_cons_zero, List.getElem_cons_succ, List.setIfInBounds_toArray, List.set_cons_zero, List.set_cons_succ]
  refine wpAnyH_take (i := 3) (v := ?_) rfl (by kernel_rfl) (by kernel_rfl) (by kernel_rfl) (fun _ _ _ h => h) (Or.inl ⟨by rfl, ?_⟩) hHeld ?_
  rotate_left
  · (intro wq hSw; (try dsimp only at hSw); (try obtain ⟨s0, s1, s2⟩ := hSw); (go_simp <;> with_reducible rfl))
  try simp only [Act.put, List.getElem_toArray, List.getElem_cons_zero, List.getElem_cons_succ, List.setIfInBounds_toArray, List.set_cons_zero, List.set_cons_succ]
  refine wpAnyH_take (i := 4) (v := ?_) rfl (by kernel_rfl) (by kernel_rfl) (by kernel_rfl) (fun _ _ _ h => h) (Or.inl ⟨by rfl, ?_⟩) hHeld ?_
  rotate_left
  · (intro wq hSw; (try dsimp only at hSw); (try obtain ⟨s0, s1, s2⟩ := hSw); (go_simp <;> with_reducible rfl))
  try simp only [Act.put, List.getElem_toArray, List.getElem_cons_zero, List.getElem_cons_succ, List.setIfInBounds_toArray, List.set_cons_zero, List.set_cons_succ]
  refine wpAnyH_take (i := 5) (v := ?_) rfl (by kernel_rfl) (by kernel_rfl) (by kernel_rfl) (fun _ _ _ h => h) (Or.inl ⟨by rfl, ?_⟩) hHeld ?_
  rotate_left
  · (intro wq hSw; (try dsimp only at hSw); (try obtain ⟨s0, s1, s2⟩ := hSw); (go_simp <;> with_reducible rfl))
  try simp only [Act.put, List.getElem_toArray, List.getElem_cons_zero, List.getElem_cons_succ, List.setIfInBounds_toArray, List.set_cons_zero, List.set_cons_succ]
  refine wpAnyH_take (i := 6) (v := ?_) rfl (by kernel_rfl) (by kernel_rfl) (by kernel_rfl) (fun _ _ _ h => h) (Or.inl ⟨by rfl, ?_⟩) hHeld ?_
  rotate_left
  · (intro wq hSw; (try dsimp only at hSw); (try obtain ⟨s0, s1, s2⟩ := hSw); (go_simp <;> with_reducible rfl))
  try simp only [Act.put, List.getElem_toArray, List.getElem_cons_zero, List.getElem_cons_succ, List.setIfInBounds_toArray, List.set_cons_zero, List.set_cons_succ]
  refine wpAnyH_take (i := 7) (v := ?_) rfl (by kernel_rfl) (by kernel_rfl) (by kernel_rfl) (fun _ _ _ h => h) (Or.inl ⟨by rfl, ?_⟩) hHeld ?_
  rotate_left
  · (intro wq hSw; (try dsimp only at hSw); (try obtain ⟨s0, s1, s2⟩ := hSw); (go_simp <;> with_reducible rfl))
  try simp only [Act.put, List.getElem_toArray, List.getElem_cons_zero, List.getElem_cons_succ, List.setIfInBounds_toArray, List.set_cons_zero, List.set_cons_succ]
  refine wpAnyH_ready (rs := [8]) (by kernel_rfl) (by simp) ?_
  refine AllReadyH.cons rfl (fun K hK => ?_) AllReadyH.nil
  go_simp
  refine (HRD.out _ F HST.out.drew.di).mono ?_
  rintro _ wb ⟨v2, rfl, ⟨hDb, hFb⟩, hown, hnf, hlt⟩
  have HSB := hide (HST.out.drew.fr hFb hDb)
  have HOB : Hid (OB wa.heap.size wb bs v2 wb) := ⟨hown, Below.refl _ _, hFb.size⟩
  have HLB := hide hlt
  have HFL : Hid (∀ k, F k → k < wa.heap.size) := HST.out.di.lt
  obtain ⟨pv, cv, hv, hcy⟩ := HOB.out.cy
  rw [HN.out] at hv hcy
  subst hv
  have HCY := hide hcy
  have HAB : Hid (wa.heap.size ≤ wb.heap.size) := hFb.size
  clear hDb hFb hown hnf hlt hcy
  have r1 := HSB.out.bx.c1
  have r2 := HSB.out.lg.cell 0 _ rfl
  have r3 := HSB.out.lg.cell 1 _ rfl
  have d3 := HSB.out.bx.c3
  have g3 := frozen_of HSB.out.bx.h3 0
  refine hK.out _ _ ⟨r1, r2, r3⟩ (fun hHeld => ?_)
  clear hK K
  try simp only [Act.put, List.getElem_toArray, List.getElem_cons_zero, List.getElem_cons_succ, List.setIfInBounds_toArray, List.set_cons_zero, List.set_cons_succ]
  refine wpAnyH_take (i := 9) (v := ?_) rfl (by kernel_rfl) (by kernel_rfl) (by kernel_rfl) (fun _ _ _ h => h) (Or.inl ⟨by rfl, ?_⟩) hHeld ?_
  rotate_left
  · (intro wq hSw; (try dsimp only at hSw); (try obtain ⟨s0, s1, s2⟩ := hSw); (go_simp <;> with_reducible rfl))
  try simp only [Act.put, List.getElem_toArray, List.getElem_cons_zero, List.getElem_cons_succ, List.setIfInBounds_toArray, List.set_cons_zero, List.set_cons_succ]
  refine wpAnyH_take (i := 10) (v := ?_) rfl (by kernel_rfl) (by kernel_rfl) (by kernel_rfl) (fun _ _ _ h => h) (Or.inl ⟨by rfl, ?_⟩) hHeld ?_
  rotate_left
  · (intro wq hSw; (try dsimp only at hSw); (try obtain ⟨s0, s1, s2⟩ := hSw); (go_simp <;> with_reducible rfl))
  try simp only [Act.put, List.getElem_toArray, List.getElem_cons_zero, List.getElem_cons_succ, List.setIfInBounds_toArray, List.set_cons_zero, List.set_cons_succ]
  refine wpAnyH_take (i := 11) (v := ?_) rfl (by kernel_rfl) (by kernel_rfl) (by kernel_rfl) (fun _ _ _ h => h) (Or.inl ⟨by rfl, ?_⟩) hHeld ?_
  rotate_left
  · (intro wq hSw; (try dsimp only at hSw); (try obtain ⟨s0, s1, s2⟩ := hSw); (go_simp <;> with_reducible rfl))
  try simp only [Act.put, List.getElem_toArray, List.getElem_cons_zero, List.getElem_cons_succ, List.setIfInBounds_toArray, List.set_cons_zero, List.set_cons_succ]
  refine wpAnyH_take (i := 12) (v := ?_) rfl (by kernel_rfl) (by kernel_rfl) (by kernel_rfl) (fun _ _ _ h => h) (Or.inl ⟨by rfl, ?_⟩) hHeld ?_
  rotate_left
  · (intro wq hSw; (try dsimp only at hSw); (try obtain ⟨s0, s1, s2⟩ := hSw); (go_simp <;> with_reducible rfl))
  try simp only [Act.put, List.getElem_toArray, List.getElem_cons_zero, List.getElem_cons_succ, List.setIfInBounds_toArray, List.set_cons_zero, List.set_cons_succ]
  refine wpAnyH_ready (rs := [13]) (by kernel_rfl) (by simp) ?_
  refine AllReadyH.cons rfl (fun K hK => ?_) AllReadyH.nil
  go_simp
  obtain ⟨wc, hwc⟩ : ∃ wc, wb.setCell ⟨b3, 0, none⟩ (.int .i64 0) = wc := ⟨_, rfl⟩
  have HSC := hide (HSB.out.set3 (.int .i64 0))
  have HWC := hide hwc
  rw [hwc] at HSC
  rw [hwc]
  clear hwc r1 r2 r3 d3 g3 q1 q2 q3
  have r1 := HSC.out.bx.c1
  have r2 := HSC.out.lg.cell 0 _ rfl
  have r3 := HSC.out.lg.cell 1 _ rfl
  have d3 := HSC.out.bx.c3
  refine hK.out _ _ ⟨r1, r2, r3⟩ (fun hHeld => ?_)
  clear hK K
  try simp only [Act.put, List.getElem_toArray, List.getElem_cons_zero, List.getElem_cons_succ, List.setIfInBounds_toArray, List.set_cons_zero, List.set_cons_succ]
  refine wpAnyH_done (by kernel_rfl) ?_ _
  refine NoPanic.normal ?_
  have HCC : Hid (Cy wc pv N cv bs) := by
    have hb := HOB.out.own
    have hge : ∀ k, (Value.slice pv N cv).ownBlock = some k → k ≠ b3 := fun k hk => by have := (hb.lt k hk).1; have := HWA.out; omega
    refine ⟨isBy_keep HCY.out.1 fun k hk => ?_, HCY.out.2⟩
    have e := HWC.out
    rw [← e]
    exact Below.heap_setCell _ _ _ _ (hge k hk)
  have hcv0 := convert_by wc (.slice pv N cv) bs HCC.out.1
  go_upto_region 7 with (first | simp only [hcv0] | (go_at_call 35; refine (HSP.out _).mono ?_; rintro e w' ⟨rfl, hw⟩; have hw2 := hw.symm; subst hw2))
  have q1 : wc.drew.cell? ⟨b1, 0, none⟩ = some (.pointer (some ⟨l, 0, none⟩)) := HSC.out.bx.c1
  have q2 : wc.drew.cell? ⟨b2, 0, none⟩ = some (.slice none 0 0) := HSC.out.bx.c2
  refine wp_region_noPanic ?_
  refine wp_region_held_drew (S := fun w' => w'.cell? ⟨b1, 0, none⟩ = some (.pointer (some ⟨l, 0, none⟩)) ∧ w'.cell? ⟨b2, 0, none⟩ = some (.slice none 0 0)) (by kernel_rfl) ⟨q1, q2⟩ (fun hHeld => ?_)
  refine wpAnyH_take (i := 0) (v := ?_) rfl (by kernel_rfl) (by kernel_rfl) (by kernel_rfl) (fun _ _ _ h => h) (Or.inl ⟨by rfl, ?_⟩) hHeld ?_
  rotate_left
  · (intro wq hSw; (try dsimp only at hSw); (try obtain ⟨s0, s1⟩ := hSw); (go_simp <;> with_reducible rfl))
  try simp only [Act.put, List.getElem_toArray, List.getElem_cons_zero, List.getElem_cons_succ, List.setIfInBounds_toArray, List.set_cons_zero, List.set_cons_succ]
  refine wpAnyH_take (i := 1) (v := ?_) rfl (by kernel_rfl) (by kernel_rfl) (by kernel_rfl) (fun _ _ _ h => h) (Or.inl ⟨by rfl, ?_⟩) hHeld ?_
  rotate_left
  · (intro wq hSw; (try dsimp only at hSw); (try obtain ⟨s0, s1⟩ := hSw); (go_simp <;> with_reducible rfl))
  try simp only [Act.put, List.getElem_toArray, List.getElem_cons_zero, List.getElem_cons_succ, List.setIfInBounds_toArray, List.set_cons_zero, List.set_cons_succ]
  refine wpAnyH_take (i := 2) (v := ?_) rfl (by kernel_rfl) (by kernel_rfl) (by kernel_rfl) (fun _ _ _ h => h) (Or.inl ⟨by rfl, ?_⟩) hHeld ?_
  rotate_left
  · (intro wq hSw; (try dsimp only at hSw); (try obtain ⟨s0, s1⟩ := hSw); (go_simp <;> with_reducible rfl))
  try simp only [Act.put, List.getElem_toArray, List.getElem_cons_zero, List.getElem_cons_succ, List.setIfInBounds_toArray, List.set_cons_zero, List.set_cons_succ]
  refine wpAnyH_take (i := 3) (v := ?_) rfl (by kernel_rfl) (by kernel_rfl) (by kernel_rfl) (fun _ _ _ h => h) (Or.inl ⟨by rfl, ?_⟩) hHeld ?_
  rotate_left
  · (intro wq hSw; (try dsimp only at hSw); (try obtain ⟨s0, s1⟩ := hSw); (go_simp <;> with_reducible rfl))
  try simp only [Act.put, List.getElem_toArray, List.getElem_cons_zero, List.getElem_cons_succ, List.setIfInBounds_toArray, List.set_cons_zero, List.set_cons_succ]
  refine wpAnyH_take (i := 4) (v := ?_) rfl (by kernel_rfl) (by kernel_rfl) (by kernel_rfl) (fun _ _ _ h => h) (Or.inl ⟨by rfl, ?_⟩) hHeld ?_
  rotate_left
  · (intro wq hSw; (try dsimp only at hSw); (try obtain ⟨s0, s1⟩ := hSw); (go_simp <;> with_reducible rfl))
  try simp only [Act.put, List.getElem_toArray, List.getElem_cons_zero, List.getElem_cons_succ, List.setIfInBounds_toArray, List.set_cons_zero, List.set_cons_succ]
  refine wpAnyH_ready (rs := [5]) (by kernel_rfl) (by simp) ?_
  refine AllReadyH.cons rfl (fun K hK => ?_) AllReadyH.nil
  go_simp
  refine (HBG.out _ F HSC.out.drew.di HSC.out.drew.lg HSC.out.drew.nl).mono ?_
  rintro _ wd ⟨rfl, F2, hD2, hL2, hn2, hX2⟩
  have HSd := hide (HSC.out.drew.fxx hX2 hD2 hL2)
  clear hD2 hL2 hn2 hX2
  have z1d := HSd.out.bx.c1
  have z2d := HSd.out.bx.c2
  have z3d := HSd.out.bx.c3
  have y1d := frozen_of HSd.out.bx.h1 0
  have y2d := frozen_of HSd.out.bx.h2 0
  have y3d := frozen_of HSd.out.bx.h3 0
  refine hK.out _ _ ⟨z1d, z2d⟩ (fun hHeld => ?_)
  clear hK K
  try simp only [Act.put, List.getElem_toArray, List.getElem_cons_zero, List.getElem_cons_succ, List.setIfInBounds_toArray, List.set_cons_zero, List.set_cons_succ]
  refine wpAnyH_ready (rs := [6]) (by kernel_rfl) (by simp) ?_
  refine AllReadyH.cons rfl (fun K hK => ?_) AllReadyH.nil
  go_simp
  obtain ⟨we, hwe⟩ : ∃ we, wd.setCell ⟨b1, 0, none⟩ (.pointer (some ⟨l, 0, none⟩)) = we := ⟨_, rfl⟩
  have HSe := hide (HSd.out.set1 (.pointer (some ⟨l, 0, none⟩)))
  rw [hwe] at HSe
  rw [hwe]
  clear hwe
  have z1e := HSe.out.bx.c1
  have z2e := HSe.out.bx.c2
  have z3e := HSe.out.bx.c3
  have y1e := frozen_of HSe.out.bx.h1 0
  have y2e := frozen_of HSe.out.bx.h2 0
  have y3e := frozen_of HSe.out.bx.h3 0
  refine hK.out _ _ ⟨z1e, z2e⟩ (fun hHeld => ?_)
  clear hK K
  try simp only [Act.put, List.getElem_toArray, List.getElem_cons_zero, List.getElem_cons_succ, List.setIfInBounds_toArray, List.set_cons_zero, List.set_cons_succ]
  refine wpAnyH_ready (rs := [7]) (by kernel_rfl) (by simp) ?_
  refine AllReadyH.cons rfl (fun K hK => ?_) AllReadyH.nil
  go_simp
  obtain ⟨wf, hwf⟩ : ∃ wf, we.setCell ⟨b2, 0, none⟩ (.slice none 0 0) = wf := ⟨_, rfl⟩
  have HSf := hide (HSe.out.set2 (.slice none 0 0))
  rw [hwf] at HSf
  rw [hwf]
  clear hwf
  have z1f := HSf.out.bx.c1
  have z2f := HSf.out.bx.c2
  have z3f := HSf.out.bx.c3
  have y1f := frozen_of HSf.out.bx.h1 0
  have y2f := frozen_of HSf.out.bx.h2 0
  have y3f := frozen_of HSf.out.bx.h3 0
  refine hK.out _ _ ⟨z1f, z2f⟩ (fun hHeld => ?_)
  clear hK K
  try simp only [Act.put, List.getElem_toArray, List.getElem_cons_zero, List.getElem_cons_succ, List.setIfInBounds_toArray, List.set_cons_zero, List.set_cons_succ]
  refine wpAnyH_ready (rs := [8]) (by kernel_rfl) (by simp) ?_
  refine AllReadyH.cons rfl (fun K hK => ?_) AllReadyH.nil
  go_simp
  obtain ⟨wg, hwg⟩ : ∃ wg, wf.setCell ⟨b3, 0, none⟩ (.int .i64 0) = wg := ⟨_, rfl⟩
  have HSg := hide (HSf.out.set3 (.int .i64 0))
  rw [hwg] at HSg
  rw [hwg]
  clear hwg
  have z1g := HSg.out.bx.c1
  have z2g := HSg.out.bx.c2
  have z3g := HSg.out.bx.c3
  have y1g := frozen_of HSg.out.bx.h1 0
  have y2g := frozen_of HSg.out.bx.h2 0
  have y3g := frozen_of HSg.out.bx.h3 0
  refine hK.out _ _ ⟨z1g, z2g⟩ (fun hHeld => ?_)
  clear hK K
  try simp only [Act.put, List.getElem_toArray, List.getElem_cons_zero, List.getElem_cons_succ, List.setIfInBounds_toArray, List.set_cons_zero, List.set_cons_succ]
  refine wpAnyH_done (by kernel_rfl) ?_ _
  refine NoPanic.normal ?_
  go_wp2_with fail
  refine leaves_cons (f := 33) (args := #[.pointer (some ⟨b3, 0, none⟩), .pointer (some ⟨b1, 0, none⟩), .pointer (some ⟨b2, 0, none⟩)]) (by simp) (by simp [go_sem]) ?_
  refine (openedC b3 b1 b2 .returning _ z3g).mono ?_
  rintro e u' w'' ⟨rfl, rfl, rfl⟩
  refine ⟨.tuple #[.pointer (some ⟨l, 0, none⟩), .slice none 0 0, .int .i64 0], results3 (by rfl) _ b1 b2 b3 rfl rfl rfl _ z1g z2g z3g, rfl, F2, HSg.out.di, HSg.out.lg, HSg.out.nl, HSg.out.fx⟩

set_option maxRecDepth 100000 in
set_option maxHeartbeats 8000000 in
theorem opened_beg1 {B : Nat} {l d : Nat} {p : PS} {F : Nat → Prop} {nm : ByteArray} (w : World) (h : Di B w d p F) (hg : Lg w l d nm 0 0) (hl : ¬ F l) (hoff : p.off = false) (harm : p.ain = 0) (hwr : p.wr ≤ 99999999) (hs : okN nm) (bs : List Nat) (su : Nat) (hc : (nm, bs, su) ∈ p.con) (h8 : bs.length < 8) (hpre : bs = headB.take bs.length) (hr : Con.tot p.con + 8 ≤ p.room) (hz : 0 < bs.length) :
    Calls Tryd.prog 19 #[.pointer (some ⟨l, 0, none⟩)] w fun e w' => e = .returned (.tuple #[.pointer (some ⟨l, 0, none⟩), .slice none 0 0, .int .i64 0]) ∧ ∃ F', Di B w' d { p with con := Con.lay (Con.upd p.con nm (fun q => (q.1.take 0, min q.2 0))) nm headB, wr := p.wr + 3 } F' ∧ Lg w' l d nm 8 0 ∧ ¬ F' l ∧ Fx l w F w' F' := by
  have hmf : ∀ (fn : Fn) (first cap : Array Value) (w : World), (Instr.makeFunc fn first cap).run Tryd.prog w = .ok (.func fn first cap) w := fun _ _ _ _ => rfl
  have HST := hide (op_start h hg hl)
  have HRD : Hid (∀ w1 F1, Di B w1 d p F1 → Calls Tryd.prog 34 #[.pointer (some ⟨d, 0, none⟩), .string nm] w1 _) := fun w1 F1 h1 => di_read w1 h1 hoff nm hs bs su hc
  obtain ⟨CN, hCN⟩ : ∃ x, Con.upd p.con nm (fun q => (q.1.take 0, min q.2 0)) = x := ⟨_, rfl⟩
  rw [hCN]
  obtain ⟨N, hN⟩ : ∃ N, bs.length = N := ⟨_, rfl⟩
  have HBG : Hid (∀ w1 F1, Di B w1 d p F1 → Lg w1 l d nm 0 0 → ¬ F1 l → Calls Tryd.prog 36 #[.pointer (some ⟨l, 0, none⟩), .int .i64 (N : Int)] w1 fun e w' => e = .returned (.int .i64 0) ∧ ∃ F', Di B w' d { p with con := Con.lay CN nm headB, wr := p.wr + 3 } F' ∧ Lg w' l d nm 8 0 ∧ ¬ F' l ∧ Fx l w1 F1 w' F') := fun w1 F1 h1 h2 h3 => by rw [← hCN]; exact begin1_ok w1 h1 h2 h3 hoff harm hwr hs bs su hc hr N (by omega)
  have HSP := hide (fun w1 => sprefix_head bs h8 hpre w1)
  have HN := hide hN
  rw [hN] at h8
  obtain ⟨b1, e1⟩ : ∃ b1, w.heap.size = b1 := ⟨_, rfl⟩
  obtain ⟨b2, e2⟩ : ∃ b2, b1 + 1 = b2 := ⟨_, rfl⟩
  obtain ⟨b3, e3⟩ : ∃ b3, b2 + 1 = b3 := ⟨_, rfl⟩
  rw [e1, e2, e3] at HST
  have E1 := hide e1
  have E2 := hide e2
  have E3 := hide e3
  clear e1 e2 e3
  have hN8 : (N : Int) < 8 := by omega
  clear h hg hl hoff harm hwr hs hc hr hpre hN hz hCN
  go_enter_defers Tryd.func19, Tryd.ntmps19
  go_upto_region 3 with fail
  rw [E1.out, E2.out, E3.out]
  obtain ⟨wa, hwa⟩ : ∃ wa, (((w.alloc (.cells #[.pointer (some ⟨l, 0, none⟩)] 31)).alloc (.cells #[.slice none 0 0] 22)).alloc (.cells #[.int .i64 0] 26)) = wa := ⟨_, rfl⟩
  have HWA : Hid (Below w.heap.size w wa ∧ b1 < wa.heap.size ∧ b2 < wa.heap.size ∧ b3 < wa.heap.size ∧ w.heap.size = b1) := by
    rw [← hwa]; exact ⟨(((Below.refl _ _).alloc (Nat.le_refl _) _).alloc (by simp) _).alloc (by simp; omega) _, by have := E1.out; simp; omega, by have := E1.out; have := E2.out; simp; omega, by have := E1.out; have := E2.out; have := E3.out; simp; omega, E1.out⟩
  rw [hwa] at HST
  rw [hwa]
  clear hwa E1 E2 E3
  have q1 : wa.drew.cell? ⟨b1, 0, none⟩ = some (.pointer (some ⟨l, 0, none⟩)) := HST.out.bx.c1
  have q2 : wa.drew.cell? ⟨l, 0, none⟩ = some (.pointer (some ⟨d, 0, none⟩)) := HST.out.lg.cell 0 _ rfl
  have q3 : wa.drew.cell? ⟨l, 1, none⟩ = some (.string nm) := HST.out.lg.cell 1 _ rfl
  refine wp_region_noPanic ?_
  refine wp_region_held_drew (S := fun w' => w'.cell? ⟨b1, 0, none⟩ = some (.pointer (some ⟨l, 0, none⟩)) ∧ w'.cell? ⟨l, 0, none⟩ = some (.pointer (some ⟨d, 0, none⟩)) ∧ w'.cell? ⟨l, 1, none⟩ = some (.string nm)) (by kernel_rfl) ⟨q1, q2, q3⟩ (fun hHeld => ?_)
  refine wpAnyH_take (i := 0) (v := ?_) rfl (by kernel_rfl) (by kernel_rfl) (by kernel_rfl) (fun _ _ _ h => h) (Or.inl ⟨by rfl, ?_⟩) hHeld ?_
  rotate_left
  · (intro wq hSw; (try dsimp only at hSw); (try obtain ⟨s0, s1, s2⟩ := hSw); (go_simp <;> with_reducible rfl))
  try simp only [Act.put, List.getElem_toArray, List.getElem_cons_zero, List.getElem_cons_succ, List.setIfInBounds_toArray, List.set_cons_zero, List.set_cons_succ]
  refine wpAnyH_take (i := 1) (v := ?_) rfl (by kernel_rfl) (by kernel_rfl) (by kernel_rfl) (fun _ _ _ h => h) (Or.inl ⟨by rfl, ?_⟩) hHeld ?_
  rotate_left
  · (intro wq hSw; (try dsimp only at hSw); (try obtain ⟨s0, s1, s2⟩ := hSw); (go_simp <;> with_reducible rfl))
  try simp only [Act.put, List.getElem_toArray, List.getElem_cons_zero, List.getElem_cons_succ, List.setIfInBounds_toArray, List.set_cons_zero, List.set_cons_succ]
  refine wpAnyH_take (i := 2) (v := ?_) rfl (by kernel_rfl) (by kernel_rfl) (by kernel_rfl) (fun _ _ _ h => h) (Or.inl ⟨by rfl, ?_⟩) hHeld ?_
  rotate_left
  · (intro wq hSw; (try dsimp only at hSw); (try obtain ⟨s0, s1, s2⟩ := hSw); (go_simp <;> with_reducible rfl))
  try simp only [Act.put, List.getElem_toArray, List.getElem_cons_zero, List.getElem_cons_succ, List.setIfInBounds_toArray, List.set_cons_zero, List.set_cons_succ]
  refine wpAnyH_take (i := 3) (v := ?_) rfl (by kernel_rfl) (by kernel_rfl) (by kernel_rfl) (fun _ _ _ h => h) (Or.inl ⟨by rfl, ?_⟩) hHeld ?_
  rotate_left
  · (intro wq hSw; (try dsimp only at hSw); (try obtain ⟨s0, s1, s2⟩ := hSw); (go_simp <;> with_reducible rfl))
  try simp only [Act.put, List.getElem_toArray, List.getElem_cons_zero, List.getElem_cons_succ, List.setIfInBounds_toArray, List.set_cons_zero, List.set_cons_succ]
  refine wpAnyH_take (i := 4) (v := ?_) rfl (by kernel_rfl) (by kernel_rfl) (by kernel_rfl) (fun _ _ _ h => h) (Or.inl ⟨by rfl, ?_⟩) hHeld ?_
  rotate_left
  · (intro wq hSw; (try dsimp only at hSw); (try obtain ⟨s0, s1, s2⟩ := hSw); (go_simp <;> with_reducible rfl))
  try simp only [Act.put, List.getElem_toArray, List.getElem_cons_zero, List.getElem_cons_succ, List.setIfInBounds_toArray, List.set_cons_zero, List.set_cons_succ]
  refine wpAnyH_take (i := 5) (v := ?_) rfl (by kernel_rfl) (by kernel_rfl) (by kernel_rfl) (fun _ _ _ h => h) (Or.inl ⟨by rfl, ?_⟩) hHeld ?_
  rotate_left
  · (intro wq hSw; (try dsimp only at hSw); (try obtain ⟨s0, s1, s2⟩ := hSw); (go_simp <;> with_reducible rfl))
  try simp only [Act.put, List.getElem_toArray, List.getElem_cons_zero, List.getElem_cons_succ, List.setIfInBounds_toArray, List.set_cons_zero, List.set_cons_succ]
  refine wpAnyH_take (i := 6) (v := ?_) rfl (by kernel_rfl) (by kernel_rfl) (by kernel_rfl) (fun _ _ _ h => h) (Or.inl ⟨by rfl, ?_⟩) hHeld ?_
  rotate_left
  · (intro wq hSw; (try dsimp only at hSw); (try obtain ⟨s0, s1, s2⟩ := hSw); (go_simp <;> with_reducible rfl))
  try simp only [Act.put, List.getElem_toArray, List.getElem_cons_zero, List.getElem_cons_succ, List.setIfInBounds_toArray, List.set_cons_zero, List.set_cons_succ]
  refine wpAnyH_take (i := 7) (v := ?_) rfl (by kernel_rfl) (by kernel_rfl) (by kernel_rfl) (fun _ _ _ h => h) (Or.inl ⟨by rfl, ?_⟩) hHeld ?_
  rotate_left
  · (intro wq hSw; (try dsimp only at hSw); (try obtain ⟨s0, s1, s2⟩ := hSw); (go_simp <;> with_reducible rfl))
  try simp only [Act.put, List.getElem_toArray, List.getElem_cons_zero, List.getElem_cons_succ, List.setIfInBounds_toArray, List.set_cons_zero, List.set_cons_succ]
  refine wpAnyH_ready (rs := [8]) (by kernel_rfl) (by simp) ?_
  refine AllReadyH.cons rfl (fun K hK => ?_) AllReadyH.nil
  go_simp
  refine (HRD.out _ F HST.out.drew.di).mono ?_
  rintro _ wb ⟨v2, rfl, ⟨hDb, hFb⟩, hown, hnf, hlt⟩
  have HSB := hide (HST.out.drew.fr hFb hDb)
  have HOB : Hid (OB wa.heap.size wb bs v2 wb) := ⟨hown, Below.refl _ _, hFb.size⟩
  have HLB := hide hlt
  have HFL : Hid (∀ k, F k → k < wa.heap.size) := HST.out.di.lt
  obtain ⟨pv, cv, hv, hcy⟩ := HOB.out.cy
  rw [HN.out] at hv hcy
  subst hv
  have HCY := hide hcy
  have HAB : Hid (wa.heap.size ≤ wb.heap.size) := hFb.size
  clear hDb hFb hown hnf hlt hcy
  have r1 := HSB.out.bx.c1
  have r2 := HSB.out.lg.cell 0 _ rfl
  have r3 := HSB.out.lg.cell 1 _ rfl
  have d3 := HSB.out.bx.c3
  have g3 := frozen_of HSB.out.bx.h3 0
  refine hK.out _ _ ⟨r1, r2, r3⟩ (fun hHeld => ?_)
  clear hK K
  try simp only [Act.put, List.getElem_toArray, List.getElem_cons_zero, List.getElem_cons_succ, List.setIfInBounds_toArray, List.set_cons_zero, List.set_cons_succ]
  refine wpAnyH_take (i := 9) (v := ?_) rfl (by kernel_rfl) (by kernel_rfl) (by kernel_rfl) (fun _ _ _ h => h) (Or.inl ⟨by rfl, ?_⟩) hHeld ?_
  rotate_left
  · (intro wq hSw; (try dsimp only at hSw); (try obtain ⟨s0, s1, s2⟩ := hSw); (go_simp <;> with_reducible rfl))
  try simp only [Act.put, List.getElem_toArray, List.getElem_cons_zero, List.getElem_cons_succ, List.setIfInBounds_toArray, List.set_cons_zero, List.set_cons_succ]
  refine wpAnyH_take (i := 10) (v := ?_) rfl (by kernel_rfl) (by kernel_rfl) (by kernel_rfl) (fun _ _ _ h => h) (Or.inl ⟨by rfl, ?_⟩) hHeld ?_
  rotate_left
  · (intro wq hSw; (try dsimp only at hSw); (try obtain ⟨s0, s1, s2⟩ := hSw); (go_simp <;> with_reducible rfl))
  try simp only [Act.put, List.getElem_toArray, List.getElem_cons_zero, List.getElem_cons_succ, List.setIfInBounds_toArray, List.set_cons_zero, List.set_cons_succ]
  refine wpAnyH_take (i := 11) (v := ?_) rfl (by kernel_rfl) (by kernel_rfl) (by kernel_rfl) (fun _ _ _ h => h) (Or.inl ⟨by rfl, ?_⟩) hHeld ?_
  rotate_left
  · (intro wq hSw; (try dsimp only at hSw); (try obtain ⟨s0, s1, s2⟩ := hSw); (go_simp <;> with_reducible rfl))
  try simp only [Act.put, List.getElem_toArray, List.getElem_cons_zero, List.getElem_cons_succ, List.setIfInBounds_toArray, List.set_cons_zero, List.set_cons_succ]
  refine wpAnyH_take (i := 12) (v := ?_) rfl (by kernel_rfl) (by kernel_rfl) (by kernel_rfl) (fun _ _ _ h => h) (Or.inl ⟨by rfl, ?_⟩) hHeld ?_
  rotate_left
  · (intro wq hSw; (try dsimp only at hSw); (try obtain ⟨s0, s1, s2⟩ := hSw); (go_simp <;> with_reducible rfl))
  try simp only [Act.put, List.getElem_toArray, List.getElem_cons_zero, List.getElem_cons_succ, List.setIfInBounds_toArray, List.set_cons_zero, List.set_cons_succ]
  refine wpAnyH_ready (rs := [13]) (by kernel_rfl) (by simp) ?_
  refine AllReadyH.cons rfl (fun K hK => ?_) AllReadyH.nil
  go_simp
  obtain ⟨wc, hwc⟩ : ∃ wc, wb.setCell ⟨b3, 0, none⟩ (.int .i64 0) = wc := ⟨_, rfl⟩
  have HSC := hide (HSB.out.set3 (.int .i64 0))
  have HWC := hide hwc
  rw [hwc] at HSC
  rw [hwc]
  clear hwc r1 r2 r3 d3 g3 q1 q2 q3
  have r1 := HSC.out.bx.c1
  have r2 := HSC.out.lg.cell 0 _ rfl
  have r3 := HSC.out.lg.cell 1 _ rfl
  have d3 := HSC.out.bx.c3
  refine hK.out _ _ ⟨r1, r2, r3⟩ (fun hHeld => ?_)
  clear hK K
  try simp only [Act.put, List.getElem_toArray, List.getElem_cons_zero, List.getElem_cons_succ, List.setIfInBounds_toArray, List.set_cons_zero, List.set_cons_succ]
  refine wpAnyH_done (by kernel_rfl) ?_ _
  refine NoPanic.normal ?_
  have HCC : Hid (Cy wc pv N cv bs) := by
    have hb := HOB.out.own
    have hge : ∀ k, (Value.slice pv N cv).ownBlock = some k → k ≠ b3 := fun k hk => by have := (hb.lt k hk).1; have := HWA.out; omega
    refine ⟨isBy_keep HCY.out.1 fun k hk => ?_, HCY.out.2⟩
    have e := HWC.out
    rw [← e]
    exact Below.heap_setCell _ _ _ _ (hge k hk)
  have hcv0 := convert_by wc (.slice pv N cv) bs HCC.out.1
  go_upto_region 7 with (first | simp only [hcv0] | (go_at_call 35; refine (HSP.out _).mono ?_; rintro e w' ⟨rfl, hw⟩; have hw2 := hw.symm; subst hw2))
  have q1 : wc.drew.cell? ⟨b1, 0, none⟩ = some (.pointer (some ⟨l, 0, none⟩)) := HSC.out.bx.c1
  have q2 : wc.drew.cell? ⟨b2, 0, none⟩ = some (.slice none 0 0) := HSC.out.bx.c2
  refine wp_region_noPanic ?_
  refine wp_region_held_drew (S := fun w' => w'.cell? ⟨b1, 0, none⟩ = some (.pointer (some ⟨l, 0, none⟩)) ∧ w'.cell? ⟨b2, 0, none⟩ = some (.slice none 0 0)) (by kernel_rfl) ⟨q1, q2⟩ (fun hHeld => ?_)
  refine wpAnyH_take (i := 0) (v := ?_) rfl (by kernel_rfl) (by kernel_rfl) (by kernel_rfl) (fun _ _ _ h => h) (Or.inl ⟨by rfl, ?_⟩) hHeld ?_
  rotate_left
  · (intro wq hSw; (try dsimp only at hSw); (try obtain ⟨s0, s1⟩ := hSw); (go_simp <;> with_reducible rfl))
  try simp only [Act.put, List.getElem_toArray, List.getElem_cons_zero, List.getElem_cons_succ, List.setIfInBounds_toArray, List.set_cons_zero, List.set_cons_succ]
  refine wpAnyH_take (i := 1) (v := ?_) rfl (by kernel_rfl) (by kernel_rfl) (by kernel_rfl) (fun _ _ _ h => h) (Or.inl ⟨by rfl, ?_⟩) hHeld ?_
  rotate_left
  · (intro wq hSw; (try dsimp only at hSw); (try obtain ⟨s0, s1⟩ := hSw); (go_simp <;> with_reducible rfl))
  try simp only [Act.put, List.getElem_toArray, List.getElem_cons_zero, List.getElem_cons_succ, List.setIfInBounds_toArray, List.set_cons_zero, List.set_cons_succ]
  refine wpAnyH_take (i := 2) (v := ?_) rfl (by kernel_rfl) (by kernel_rfl) (by kernel_rfl) (fun _ _ _ h => h) (Or.inl ⟨by rfl, ?_⟩) hHeld ?_
  rotate_left
  · (intro wq hSw; (try dsimp only at hSw); (try obtain ⟨s0, s1⟩ := hSw); (go_simp <;> with_reducible rfl))
  try simp only [Act.put, List.getElem_toArray, List.getElem_cons_zero, List.getElem_cons_succ, List.setIfInBounds_toArray, List.set_cons_zero, List.set_cons_succ]
  refine wpAnyH_take (i := 3) (v := ?_) rfl (by kernel_rfl) (by kernel_rfl) (by kernel_rfl) (fun _ _ _ h => h) (Or.inl ⟨by rfl, ?_⟩) hHeld ?_
  rotate_left
  · (intro wq hSw; (try dsimp only at hSw); (try obtain ⟨s0, s1⟩ := hSw); (go_simp <;> with_reducible rfl))
  try simp only [Act.put, List.getElem_toArray, List.getElem_cons_zero, List.getElem_cons_succ, List.setIfInBounds_toArray, List.set_cons_zero, List.set_cons_succ]
  refine wpAnyH_take (i := 4) (v := ?_) rfl (by kernel_rfl) (by kernel_rfl) (by kernel_rfl) (fun _ _ _ h => h) (Or.inl ⟨by rfl, ?_⟩) hHeld ?_
  rotate_left
  · (intro wq hSw; (try dsimp only at hSw); (try obtain ⟨s0, s1⟩ := hSw); (go_simp <;> with_reducible rfl))
  try simp only [Act.put, List.getElem_toArray, List.getElem_cons_zero, List.getElem_cons_succ, List.setIfInBounds_toArray, List.set_cons_zero, List.set_cons_succ]
  refine wpAnyH_ready (rs := [5]) (by kernel_rfl) (by simp) ?_
  refine AllReadyH.cons rfl (fun K hK => ?_) AllReadyH.nil
  go_simp
  refine (HBG.out _ F HSC.out.drew.di HSC.out.drew.lg HSC.out.drew.nl).mono ?_
  rintro _ wd ⟨rfl, F2, hD2, hL2, hn2, hX2⟩
  have HSd := hide (HSC.out.drew.fxx hX2 hD2 hL2)
  clear hD2 hL2 hn2 hX2
  have z1d := HSd.out.bx.c1
  have z2d := HSd.out.bx.c2
  have z3d := HSd.out.bx.c3
  have y1d := frozen_of HSd.out.bx.h1 0
  have y2d := frozen_of HSd.out.bx.h2 0
  have y3d := frozen_of HSd.out.bx.h3 0
  refine hK.out _ _ ⟨z1d, z2d⟩ (fun hHeld => ?_)
  clear hK K
  try simp only [Act.put, List.getElem_toArray, List.getElem_cons_zero, List.getElem_cons_succ, List.setIfInBounds_toArray, List.set_cons_zero, List.set_cons_succ]
  refine wpAnyH_ready (rs := [6]) (by kernel_rfl) (by simp) ?_
  refine AllReadyH.cons rfl (fun K hK => ?_) AllReadyH.nil
  go_simp
  obtain ⟨we, hwe⟩ : ∃ we, wd.setCell ⟨b1, 0, none⟩ (.pointer (some ⟨l, 0, none⟩)) = we := ⟨_, rfl⟩
  have HSe := hide (HSd.out.set1 (.pointer (some ⟨l, 0, none⟩)))
  rw [hwe] at HSe
  rw [hwe]
  clear hwe
  have z1e := HSe.out.bx.c1
  have z2e := HSe.out.bx.c2
  have z3e := HSe.out.bx.c3
  have y1e := frozen_of HSe.out.bx.h1 0
  have y2e := frozen_of HSe.out.bx.h2 0
  have y3e := frozen_of HSe.out.bx.h3 0
  refine hK.out _ _ ⟨z1e, z2e⟩ (fun hHeld => ?_)
  clear hK K
  try simp only [Act.put, List.getElem_toArray, List.getElem_cons_zero, List.getElem_cons_succ, List.setIfInBounds_toArray, List.set_cons_zero, List.set_cons_succ]
  refine wpAnyH_ready (rs := [7]) (by kernel_rfl) (by simp) ?_
  refine AllReadyH.cons rfl (fun K hK => ?_) AllReadyH.nil
  go_simp
  obtain ⟨wf, hwf⟩ : ∃ wf, we.setCell ⟨b2, 0, none⟩ (.slice none 0 0) = wf := ⟨_, rfl⟩
  have HSf := hide (HSe.out.set2 (.slice none 0 0))
  rw [hwf] at HSf
  rw [hwf]
  clear hwf
  have z1f := HSf.out.bx.c1
  have z2f := HSf.out.bx.c2
  have z3f := HSf.out.bx.c3
  have y1f := frozen_of HSf.out.bx.h1 0
  have y2f := frozen_of HSf.out.bx.h2 0
  have y3f := frozen_of HSf.out.bx.h3 0
  refine hK.out _ _ ⟨z1f, z2f⟩ (fun hHeld => ?_)
  clear hK K
  try simp only [Act.put, List.getElem_toArray, List.getElem_cons_zero, List.getElem_cons_succ, List.setIfInBounds_toArray, List.set_cons_zero, List.set_cons_succ]
  refine wpAnyH_ready (rs := [8]) (by kernel_rfl) (by simp) ?_
  refine AllReadyH.cons rfl (fun K hK => ?_) AllReadyH.nil
  go_simp
  obtain ⟨wg, hwg⟩ : ∃ wg, wf.setCell ⟨b3, 0, none⟩ (.int .i64 0) = wg := ⟨_, rfl⟩
  have HSg := hide (HSf.out.set3 (.int .i64 0))
  rw [hwg] at HSg
  rw [hwg]
  clear hwg
  have z1g := HSg.out.bx.c1
  have z2g := HSg.out.bx.c2
  have z3g := HSg.out.bx.c3
  have y1g := frozen_of HSg.out.bx.h1 0
  have y2g := frozen_of HSg.out.bx.h2 0
  have y3g := frozen_of HSg.out.bx.h3 0
  refine hK.out _ _ ⟨z1g, z2g⟩ (fun hHeld => ?_)
  clear hK K
  try simp only [Act.put, List.getElem_toArray, List.getElem_cons_zero, List.getElem_cons_succ, List.setIfInBounds_toArray, List.set_cons_zero, List.set_cons_succ]
  refine wpAnyH_done (by kernel_rfl) ?_ _
  refine NoPanic.normal ?_
  go_wp2_with fail
  refine leaves_cons (f := 33) (args := #[.pointer (some ⟨b3, 0, none⟩), .pointer (some ⟨b1, 0, none⟩), .pointer (some ⟨b2, 0, none⟩)]) (by simp) (by simp [go_sem]) ?_
  refine (openedC b3 b1 b2 .returning _ z3g).mono ?_
  rintro e u' w'' ⟨rfl, rfl, rfl⟩
  refine ⟨.tuple #[.pointer (some ⟨l, 0, none⟩), .slice none 0 0, .int .i64 0], results3 (by rfl) _ b1 b2 b3 rfl rfl rfl _ z1g z2g z3g, rfl, F2, HSg.out.di, HSg.out.lg, HSg.out.nl, HSg.out.fx⟩

set_option maxRecDepth 100000 in
theorem open_beg0 {B : Nat} {d : Nat} {p : PS} {F : Nat → Prop} (w : World) (h : Di B w d p F) (nm : ByteArray) (hoff : p.off = false) (harm : p.ain = 0) (hwr : p.wr ≤ 99999999) (hs : okN nm) (bs : List Nat) (su : Nat) (hc : (nm, bs, su) ∈ p.con) (h8 : bs.length < 8) (hpre : bs = headB.take bs.length) (hr : Con.tot p.con + 8 ≤ p.room) (hz : bs.length = 0) :
    Calls Tryd.prog 7 #[.pointer (some ⟨d, 0, none⟩), .string nm] w fun e w' => ∃ l F', e = .returned (.tuple #[.pointer (some ⟨l, 0, none⟩), .slice none 0 0, .int .i64 0]) ∧ Di B w' d { p with con := Con.lay (p.con) nm headB, wr := p.wr + 2 } F' ∧ Lg w' l d nm 8 0 ∧ ¬ F' l ∧ w.heap.size ≤ l ∧ Fr w F w' F' := by
  have HO : Hid (∀ w1, Below w.heap.size w w1 → Calls Tryd.prog 19 #[.pointer (some ⟨w1.heap.size, 0, none⟩)] (w1.alloc (.cells #[.pointer (some ⟨d, 0, none⟩), .string nm, .int .i64 0, .int .i64 0, .bool false] 64)) fun e w' => ∃ l F', e = .returned (.tuple #[.pointer (some ⟨l, 0, none⟩), .slice none 0 0, .int .i64 0]) ∧ Di B w' d { p with con := Con.lay (p.con) nm headB, wr := p.wr + 2 } F' ∧ Lg w' l d nm 8 0 ∧ ¬ F' l ∧ w.heap.size ≤ l ∧ Fr w F w' F') := fun w1 hb => by
    have hb2 : Below w1.heap.size w1 (w1.alloc (.cells #[.pointer (some ⟨d, 0, none⟩), .string nm, .int .i64 0, .int .i64 0, .bool false] 64)) := (Below.refl _ _).alloc (Nat.le_refl _) _
    have hb3 := hb.trans (hb2.mono hb.size)
    refine (opened_beg0 _ (h.below hb3) (heap_alloc_new w1 _) (fun e => by have := h.lt _ e; have := hb.size; omega) hoff harm hwr hs bs su hc h8 hpre hr hz).mono ?_
    rintro e w' ⟨rfl, F', e1, e2, e3, e4⟩
    exact ⟨_, F', rfl, e1, e2, e3, hb.size, e4.fr hb3 hb.size⟩
  have hsz : nm.size ≤ 1000000000 := by have := hs.2.1; omega
  clear h hoff harm hwr hs hc hr hpre
  go_enter Tryd.func7, Tryd.ntmps7
  go_wp2_with (first | (go_at_call 20; refine (sclone_any nm _ hsz).mono ?_; rintro e w1 ⟨rfl, hB1⟩; have HB1 := hide hB1; clear hB1) | (go_at_call 19; refine (HO.out _ HB1.out).mono ?_; rintro e w2 ⟨l, F', rfl, hR⟩; have HR := hide hR; clear hR))
  go_ret3
  exact ⟨l, F', rfl, HR.out⟩

set_option maxRecDepth 100000 in
theorem open_beg1 {B : Nat} {d : Nat} {p : PS} {F : Nat → Prop} (w : World) (h : Di B w d p F) (nm : ByteArray) (hoff : p.off = false) (harm : p.ain = 0) (hwr : p.wr ≤ 99999999) (hs : okN nm) (bs : List Nat) (su : Nat) (hc : (nm, bs, su) ∈ p.con) (h8 : bs.length < 8) (hpre : bs = headB.take bs.length) (hr : Con.tot p.con + 8 ≤ p.room) (hz : 0 < bs.length) :
    Calls Tryd.prog 7 #[.pointer (some ⟨d, 0, none⟩), .string nm] w fun e w' => ∃ l F', e = .returned (.tuple #[.pointer (some ⟨l, 0, none⟩), .slice none 0 0, .int .i64 0]) ∧ Di B w' d { p with con := Con.lay (Con.upd p.con nm (fun q => (q.1.take 0, min q.2 0))) nm headB, wr := p.wr + 3 } F' ∧ Lg w' l d nm 8 0 ∧ ¬ F' l ∧ w.heap.size ≤ l ∧ Fr w F w' F' := by
  have HO : Hid (∀ w1, Below w.heap.size w w1 → Calls Tryd.prog 19 #[.pointer (some ⟨w1.heap.size, 0, none⟩)] (w1.alloc (.cells #[.pointer (some ⟨d, 0, none⟩), .string nm, .int .i64 0, .int .i64 0, .bool false] 64)) fun e w' => ∃ l F', e = .returned (.tuple #[.pointer (some ⟨l, 0, none⟩), .slice none 0 0, .int .i64 0]) ∧ Di B w' d { p with con := Con.lay (Con.upd p.con nm (fun q => (q.1.take 0, min q.2 0))) nm headB, wr := p.wr + 3 } F' ∧ Lg w' l d nm 8 0 ∧ ¬ F' l ∧ w.heap.size ≤ l ∧ Fr w F w' F') := fun w1 hb => by
    have hb2 : Below w1.heap.size w1 (w1.alloc (.cells #[.pointer (some ⟨d, 0, none⟩), .string nm, .int .i64 0, .int .i64 0, .bool false] 64)) := (Below.refl _ _).alloc (Nat.le_refl _) _
    have hb3 := hb.trans (hb2.mono hb.size)
    refine (opened_beg1 _ (h.below hb3) (heap_alloc_new w1 _) (fun e => by have := h.lt _ e; have := hb.size; omega) hoff harm hwr hs bs su hc h8 hpre hr hz).mono ?_
    rintro e w' ⟨rfl, F', e1, e2, e3, e4⟩
    exact ⟨_, F', rfl, e1, e2, e3, hb.size, e4.fr hb3 hb.size⟩
  have hsz : nm.size ≤ 1000000000 := by have := hs.2.1; omega
  clear h hoff harm hwr hs hc hr hpre
  go_enter Tryd.func7, Tryd.ntmps7
  go_wp2_with (first | (go_at_call 20; refine (sclone_any nm _ hsz).mono ?_; rintro e w1 ⟨rfl, hB1⟩; have HB1 := hide hB1; clear hB1) | (go_at_call 19; refine (HO.out _ HB1.out).mono ?_; rintro e w2 ⟨l, F', rfl, hR⟩; have HR := hide hR; clear hR))
  go_ret3
  exact ⟨l, F', rfl, HR.out⟩

set_option maxRecDepth 100000 in
theorem open_cut {B : Nat} {d : Nat} {p : PS} {F : Nat → Prop} (w : World) (h : Di B w d p F) (nm : ByteArray) (hoff : p.off = false) (harm : p.ain = 0) (hwr : p.wr ≤ 999999999) (hs : okN nm) (bs : List Nat) (su : Nat) (hc : (nm, bs, su) ∈ p.con) (h8 : 8 ≤ bs.length) (hlb : bs.length ≤ 268435456) (hpre : bs.take 8 = headB) (rr : List (List (List Nat))) (S left : Nat) (htk : tkRecs (bs.length + 1) (bs.drop 8) [] = some (rr, left)) (hS : bs.length - left = S) (hSN : S < bs.length) (hT : TabC w) (hTF : ¬ F 0) :
    Calls Tryd.prog 7 #[.pointer (some ⟨d, 0, none⟩), .string nm] w fun e w' => ∃ l v F', e = .returned (.tuple #[.pointer (some ⟨l, 0, none⟩), v, .int .i64 0]) ∧ Di B w' d { p with con := Con.upd p.con nm (fun q => (q.1.take S, min q.2 S)), wr := p.wr + 1 } F' ∧ Lg w' l d nm S rr.length ∧ ¬ F' l ∧ w.heap.size ≤ l ∧ Fr w F w' F' ∧ ∃ lo, w.heap.size ≤ lo ∧ ∃ hi, hi ≤ w'.heap.size ∧ RecsAt w' lo hi v rr ∧ ∀ k, lo ≤ k → k < hi → ¬ F' k := by
  have hgl : 0 < w.heap.size := World.block_lt_of_cell? _ _ (hT 0 (by decide))
  have HO : Hid (∀ w1, Below w.heap.size w w1 → Calls Tryd.prog 19 #[.pointer (some ⟨w1.heap.size, 0, none⟩)] (w1.alloc (.cells #[.pointer (some ⟨d, 0, none⟩), .string nm, .int .i64 0, .int .i64 0, .bool false] 64)) fun e w' => ∃ l v F', e = .returned (.tuple #[.pointer (some ⟨l, 0, none⟩), v, .int .i64 0]) ∧ Di B w' d { p with con := Con.upd p.con nm (fun q => (q.1.take S, min q.2 S)), wr := p.wr + 1 } F' ∧ Lg w' l d nm S rr.length ∧ ¬ F' l ∧ w.heap.size ≤ l ∧ Fr w F w' F' ∧ ∃ lo, w.heap.size ≤ lo ∧ ∃ hi, hi ≤ w'.heap.size ∧ RecsAt w' lo hi v rr ∧ ∀ k, lo ≤ k → k < hi → ¬ F' k) := fun w1 hb => by
    have hb2 : Below w1.heap.size w1 (w1.alloc (.cells #[.pointer (some ⟨d, 0, none⟩), .string nm, .int .i64 0, .int .i64 0, .bool false] 64)) := (Below.refl _ _).alloc (Nat.le_refl _) _
    have hb3 := hb.trans (hb2.mono hb.size)
    refine (opened_cut _ (h.below hb3) (heap_alloc_new w1 _) (fun e => by have := h.lt _ e; have := hb.size; omega) hoff harm hwr hs bs su hc h8 hlb hpre rr S left htk hS hSN (hT.below hb3) ⟨hTF, by have := hb.size; omega⟩).mono ?_
    rintro e w' ⟨v, rfl, F', e1, e2, e3, e4, lo, e5, hi, e6⟩
    exact ⟨_, v, F', rfl, e1, e2, e3, hb.size, e4.fr hb3 hb.size, lo, Nat.le_trans hb3.size e5, hi, e6⟩
  have hsz : nm.size ≤ 1000000000 := by have := hs.2.1; omega
  clear h hoff harm hwr hs hc hT hTF hgl htk hpre hS hSN
  go_enter Tryd.func7, Tryd.ntmps7
  go_wp2_with (first | (go_at_call 20; refine (sclone_any nm _ hsz).mono ?_; rintro e w1 ⟨rfl, hB1⟩; have HB1 := hide hB1; clear hB1) | (go_at_call 19; refine (HO.out _ HB1.out).mono ?_; rintro e w2 ⟨l, v, F', rfl, hR⟩; have HR := hide hR; clear hR))
  go_ret3
  exact ⟨l, v, F', rfl, HR.out⟩

end Go.Proofs.YtgmahgfelbkoeaaDoor

/- A log is opened of a file that is refused. -/
import Derived.Test.YtpjinakhgfpafaaDoorJ6C
namespace Go.Proofs.YtpjinakhgfpafaaDoor
open Go.RowKit
set_option linter.unusedVariables false
set_option linter.unusedSimpArgs false

section
variable {B : Nat} {w0 w w' : World} {l d : Nat} {p p' : PS} {F0 F F' : Nat → Prop} {nm : ByteArray} {sz ct sz' ct' b1 b2 b3 : Nat} {v1 v2 v3 : Value}
theorem Op0.setS0 (h : Op0 B w0 w l d p F0 F nm sz ct b1 b2 b3 v1 v2 v3) : Op0 B w0 (w.setCell ⟨l, 2, none⟩ (.int .i64 0)) l d p F0 F nm 0 ct b1 b2 b3 v1 v2 v3 := h.setS 0
theorem Op0.setK0 (h : Op0 B w0 w l d p F0 F nm sz ct b1 b2 b3 v1 v2 v3) : Op0 B w0 (w.setCell ⟨l, 3, none⟩ (.int .i64 0)) l d p F0 F nm sz 0 b1 b2 b3 v1 v2 v3 := h.setK 0
end

set_option maxRecDepth 100000 in
theorem openedC_bad (g1 g2 g3 : Nat) (u : FrameMode) (w : World) {v2 v3 : Value} (hb : Bx w g2 g3 g1 v2 v3 (.int .i64 111)) :
    CallsD Tryd.prog 45 #[.pointer (some ⟨g1, 0, none⟩), .pointer (some ⟨g2, 0, none⟩), .pointer (some ⟨g3, 0, none⟩)] u w fun e u' w' => u' = u ∧ (e = .returned (.tuple #[]) ∧ w' = (w.setCell ⟨g2, 0, none⟩ (.pointer none)).setCell ⟨g3, 0, none⟩ (.slice none 0 0)) := by
  have c1 := hb.c3
  have c2 := hb.c1
  have f2 := frozen_of hb.h1 0
  have hb2 := hb.set1 (.pointer none)
  have c3 := hb2.c2
  have f3 := frozen_of hb2.h2 0
  clear hb hb2
  go_enter_d Tryd.func45, Tryd.ntmps45
  go_wp2
  go_end0
  exact ⟨rfl, rfl⟩

set_option maxRecDepth 100000 in
theorem sprefix_no1 (bs : List Nat) (hl : bs.length = 1) (hb : ∀ x ∈ bs, x < 256) (hp : ¬ bs = headB.take 1) (w : World) : Calls Tryd.prog 46 #[.string { data := #[70, 65, 84, 72, 79, 77, 74, 49] }, .string (strOf bs)] w fun e w' => e = .returned (.bool false) ∧ w' = w := by
  have hx : (({ data := #[70, 65, 84, 72, 79, 77, 74, 49] } : ByteArray).extract 0 1).toList = [70] := by rw [ByteArray.toList_eq]; rfl
  obtain ⟨s, hs⟩ : ∃ s, strOf bs = s := ⟨_, rfl⟩
  have hne : ¬ [70] = s.toList := fun e => hp (by
    have h1 := bytesN_strOf bs hb
    rw [hs] at h1
    rw [← h1]
    unfold bytesN
    rw [← ByteArray.toList_eq, ← e]
    rfl)
  have hsz : s.size = 1 := by rw [← hs, strOf_size, hl]
  rw [hs]
  clear hs hp hb hl
  go_enter Tryd.func46, Tryd.ntmps46
  go_wp2
  go_ret
  exact ⟨by simp [hx, hne], rfl⟩

set_option maxRecDepth 100000 in
theorem sprefix_no2 (bs : List Nat) (hl : bs.length = 2) (hb : ∀ x ∈ bs, x < 256) (hp : ¬ bs = headB.take 2) (w : World) : Calls Tryd.prog 46 #[.string { data := #[70, 65, 84, 72, 79, 77, 74, 49] }, .string (strOf bs)] w fun e w' => e = .returned (.bool false) ∧ w' = w := by
  have hx : (({ data := #[70, 65, 84, 72, 79, 77, 74, 49] } : ByteArray).extract 0 2).toList = [70, 65] := by rw [ByteArray.toList_eq]; rfl
  obtain ⟨s, hs⟩ : ∃ s, strOf bs = s := ⟨_, rfl⟩
  have hne : ¬ [70, 65] = s.toList := fun e => hp (by
    have h1 := bytesN_strOf bs hb
    rw [hs] at h1
    rw [← h1]
    unfold bytesN
    rw [← ByteArray.toList_eq, ← e]
    rfl)
  have hsz : s.size = 2 := by rw [← hs, strOf_size, hl]
  rw [hs]
  clear hs hp hb hl
  go_enter Tryd.func46, Tryd.ntmps46
  go_wp2
  go_ret
  exact ⟨by simp [hx, hne], rfl⟩

set_option maxRecDepth 100000 in
theorem sprefix_no3 (bs : List Nat) (hl : bs.length = 3) (hb : ∀ x ∈ bs, x < 256) (hp : ¬ bs = headB.take 3) (w : World) : Calls Tryd.prog 46 #[.string { data := #[70, 65, 84, 72, 79, 77, 74, 49] }, .string (strOf bs)] w fun e w' => e = .returned (.bool false) ∧ w' = w := by
  have hx : (({ data := #[70, 65, 84, 72, 79, 77, 74, 49] } : ByteArray).extract 0 3).toList = [70, 65, 84] := by rw [ByteArray.toList_eq]; rfl
  obtain ⟨s, hs⟩ : ∃ s, strOf bs = s := ⟨_, rfl⟩
  have hne : ¬ [70, 65, 84] = s.toList := fun e => hp (by
    have h1 := bytesN_strOf bs hb
    rw [hs] at h1
    rw [← h1]
    unfold bytesN
    rw [← ByteArray.toList_eq, ← e]
    rfl)
  have hsz : s.size = 3 := by rw [← hs, strOf_size, hl]
  rw [hs]
  clear hs hp hb hl
  go_enter Tryd.func46, Tryd.ntmps46
  go_wp2
  go_ret
  exact ⟨by simp [hx, hne], rfl⟩

set_option maxRecDepth 100000 in
theorem sprefix_no4 (bs : List Nat) (hl : bs.length = 4) (hb : ∀ x ∈ bs, x < 256) (hp : ¬ bs = headB.take 4) (w : World) : Calls Tryd.prog 46 #[.string { data := #[70, 65, 84, 72, 79, 77, 74, 49] }, .string (strOf bs)] w fun e w' => e = .returned (.bool false) ∧ w' = w := by
  have hx : (({ data := #[70, 65, 84, 72, 79, 77, 74, 49] } : ByteArray).extract 0 4).toList = [70, 65, 84, 72] := by rw [ByteArray.toList_eq]; rfl
  obtain ⟨s, hs⟩ : ∃ s, strOf bs = s := ⟨_, rfl⟩
  have hne : ¬ [70, 65, 84, 72] = s.toList := fun e => hp (by
    have h1 := bytesN_strOf bs hb
    rw [hs] at h1
    rw [← h1]
    unfold bytesN
    rw [← ByteArray.toList_eq, ← e]
    rfl)
  have hsz : s.size = 4 := by rw [← hs, strOf_size, hl]
  rw [hs]
  clear hs hp hb hl
  go_enter Tryd.func46, Tryd.ntmps46
  go_wp2
  go_ret
  exact ⟨by simp [hx, hne], rfl⟩

set_option maxRecDepth 100000 in
theorem sprefix_no5 (bs : List Nat) (hl : bs.length = 5) (hb : ∀ x ∈ bs, x < 256) (hp : ¬ bs = headB.take 5) (w : World) : Calls Tryd.prog 46 #[.string { data := #[70, 65, 84, 72, 79, 77, 74, 49] }, .string (strOf bs)] w fun e w' => e = .returned (.bool false) ∧ w' = w := by
  have hx : (({ data := #[70, 65, 84, 72, 79, 77, 74, 49] } : ByteArray).extract 0 5).toList = [70, 65, 84, 72, 79] := by rw [ByteArray.toList_eq]; rfl
  obtain ⟨s, hs⟩ : ∃ s, strOf bs = s := ⟨_, rfl⟩
  have hne : ¬ [70, 65, 84, 72, 79] = s.toList := fun e => hp (by
    have h1 := bytesN_strOf bs hb
    rw [hs] at h1
    rw [← h1]
    unfold bytesN
    rw [← ByteArray.toList_eq, ← e]
    rfl)
  have hsz : s.size = 5 := by rw [← hs, strOf_size, hl]
  rw [hs]
  clear hs hp hb hl
  go_enter Tryd.func46, Tryd.ntmps46
  go_wp2
  go_ret
  exact ⟨by simp [hx, hne], rfl⟩

set_option maxRecDepth 100000 in
theorem sprefix_no6 (bs : List Nat) (hl : bs.length = 6) (hb : ∀ x ∈ bs, x < 256) (hp : ¬ bs = headB.take 6) (w : World) : Calls Tryd.prog 46 #[.string { data := #[70, 65, 84, 72, 79, 77, 74, 49] }, .string (strOf bs)] w fun e w' => e = .returned (.bool false) ∧ w' = w := by
  have hx : (({ data := #[70, 65, 84, 72, 79, 77, 74, 49] } : ByteArray).extract 0 6).toList = [70, 65, 84, 72, 79, 77] := by rw [ByteArray.toList_eq]; rfl
  obtain ⟨s, hs⟩ : ∃ s, strOf bs = s := ⟨_, rfl⟩
  have hne : ¬ [70, 65, 84, 72, 79, 77] = s.toList := fun e => hp (by
    have h1 := bytesN_strOf bs hb
    rw [hs] at h1
    rw [← h1]
    unfold bytesN
    rw [← ByteArray.toList_eq, ← e]
    rfl)
  have hsz : s.size = 6 := by rw [← hs, strOf_size, hl]
  rw [hs]
  clear hs hp hb hl
  go_enter Tryd.func46, Tryd.ntmps46
  go_wp2
  go_ret
  exact ⟨by simp [hx, hne], rfl⟩

set_option maxRecDepth 100000 in
theorem sprefix_no7 (bs : List Nat) (hl : bs.length = 7) (hb : ∀ x ∈ bs, x < 256) (hp : ¬ bs = headB.take 7) (w : World) : Calls Tryd.prog 46 #[.string { data := #[70, 65, 84, 72, 79, 77, 74, 49] }, .string (strOf bs)] w fun e w' => e = .returned (.bool false) ∧ w' = w := by
  have hx : (({ data := #[70, 65, 84, 72, 79, 77, 74, 49] } : ByteArray).extract 0 7).toList = [70, 65, 84, 72, 79, 77, 74] := by rw [ByteArray.toList_eq]; rfl
  obtain ⟨s, hs⟩ : ∃ s, strOf bs = s := ⟨_, rfl⟩
  have hne : ¬ [70, 65, 84, 72, 79, 77, 74] = s.toList := fun e => hp (by
    have h1 := bytesN_strOf bs hb
    rw [hs] at h1
    rw [← h1]
    unfold bytesN
    rw [← ByteArray.toList_eq, ← e]
    rfl)
  have hsz : s.size = 7 := by rw [← hs, strOf_size, hl]
  rw [hs]
  clear hs hp hb hl
  go_enter Tryd.func46, Tryd.ntmps46
  go_wp2
  go_ret
  exact ⟨by simp [hx, hne], rfl⟩

theorem sprefix_not (bs : List Nat) (h : bs.length < 8) (hb : ∀ x ∈ bs, x < 256) (hp : ¬ bs = headB.take bs.length) (w : World) : Calls Tryd.prog 46 #[.string { data := #[70, 65, 84, 72, 79, 77, 74, 49] }, .string (strOf bs)] w fun e w' => e = .returned (.bool false) ∧ w' = w := by
  obtain ⟨n, hn⟩ : ∃ n, bs.length = n := ⟨_, rfl⟩
  rw [hn] at h hp
  have h8 : n = 0 ∨ n = 1 ∨ n = 2 ∨ n = 3 ∨ n = 4 ∨ n = 5 ∨ n = 6 ∨ n = 7 := by omega
  rcases h8 with rfl | rfl | rfl | rfl | rfl | rfl | rfl | rfl
  · exact absurd (List.eq_nil_of_length_eq_zero hn) hp
  · exact sprefix_no1 bs hn hb hp w
  · exact sprefix_no2 bs hn hb hp w
  · exact sprefix_no3 bs hn hb hp w
  · exact sprefix_no4 bs hn hb hp w
  · exact sprefix_no5 bs hn hb hp w
  · exact sprefix_no6 bs hn hb hp w
  · exact sprefix_no7 bs hn hb hp w

set_option maxRecDepth 100000 in
set_option maxHeartbeats 8000000 in
theorem opened_bad {B : Nat} {l d : Nat} {p : PS} {F : Nat → Prop} {nm : ByteArray} (w : World) (h : Di B w d p F) (hg : Lg w l d nm 0 0) (hl : ¬ F l) (hoff : p.off = false) (hs : okN nm) (bs : List Nat) (su : Nat) (hc : (nm, bs, su) ∈ p.con) (hlb : bs.length ≤ 268435456) (h8 : 8 ≤ bs.length) (hbad : ¬ bs.take 8 = headB ∨ tkRecs (bs.length + 1) (bs.drop 8) [] = none) (hT : TabC w) (hTF : ¬ F 0 ∧ 0 ≠ l) :
    Calls Tryd.prog 29 #[.pointer (some ⟨l, 0, none⟩)] w fun e w' => e = .returned (.tuple #[.pointer none, .slice none 0 0, .int .i64 111]) ∧ Di B w' d p F ∧ Fx l w F w' F := by
  have hmf : ∀ (fn : Fn) (first cap : Array Value) (w : World), (Instr.makeFunc fn first cap).run Tryd.prog w = .ok (.func fn first cap) w := fun _ _ _ _ => rfl
  have HST := hide (op_start h hg hl)
  have HRD : Hid (∀ w1 F1, Di B w1 d p F1 → Calls Tryd.prog 6 #[.pointer (some ⟨d, 0, none⟩), .string nm] w1 _) := fun w1 F1 h1 => di_read w1 h1 hoff nm hs bs su hc
  have HTK : Hid (∀ w1 p1 c1, Cy w1 p1 bs.length c1 bs → (∀ n ∈ bs, n < 256) → TabC w1 → Calls Tryd.prog 48 #[.slice p1 bs.length c1] w1 fun e w' => e = .returned (.tuple #[.slice none 0 0, .int .i64 0, .int .i64 111]) ∧ Below w1.heap.size w1 w') := fun w1 p1 c1 h1 h2 h3 => by
    by_cases hpre : bs.take 8 = headB
    · have htk := hbad.resolve_left (fun h => h hpre)
      refine (taken_ok p1 bs.length c1 bs w1 h1 h2 hlb h3 hpre).mono ?_
      rintro e w' ⟨hB, hm⟩
      rw [htk] at hm
      exact ⟨hm, hB⟩
    · refine (taken_no p1 bs.length c1 bs w1 h1 h2 hlb hpre).mono ?_
      rintro e w' ⟨hB, hm⟩
      exact ⟨hm, hB⟩
  have HT : Hid (∀ w1 F1, Fx l w F w1 F1 → TabC w1) := fun w1 F1 hf j hj => by
    rw [World.cell?_of_block (w := w) (w' := w1) (a := ⟨0, j, none⟩) ((hf.block _ (World.block_lt_of_cell? _ _ (hT j hj)) hTF.1).2 hTF.2)]; exact hT j hj
  have HFX : Hid (l < w.heap.size) := heap_lt hg
  obtain ⟨N, hN⟩ : ∃ N, bs.length = N := ⟨_, rfl⟩
  have HN := hide hN
  rw [hN] at h8 hlb HTK
  obtain ⟨b1, e1⟩ : ∃ b1, w.heap.size = b1 := ⟨_, rfl⟩
  obtain ⟨b2, e2⟩ : ∃ b2, b1 + 1 = b2 := ⟨_, rfl⟩
  obtain ⟨b3, e3⟩ : ∃ b3, b2 + 1 = b3 := ⟨_, rfl⟩
  rw [e1, e2, e3] at HST
  have E1 := hide e1
  have E2 := hide e2
  have E3 := hide e3
  clear e1 e2 e3
  clear h hg hl hoff hs hc hT hTF hbad hN
  go_enter_defers Tryd.func29, Tryd.ntmps29
  go_upto_region 3 with fail
  rw [E1.out, E2.out, E3.out]
  obtain ⟨wa, hwa⟩ : ∃ wa, (((w.alloc (.cells #[.pointer (some ⟨l, 0, none⟩)] 38)).alloc (.cells #[.slice none 0 0] 22)).alloc (.cells #[.int .i64 0] 31)) = wa := ⟨_, rfl⟩
  have HWA : Hid (Below w.heap.size w wa ∧ b1 < wa.heap.size ∧ b2 < wa.heap.size ∧ b3 < wa.heap.size ∧ w.heap.size = b1) := by
    rw [← hwa]; exact ⟨(((Below.refl _ _).alloc (Nat.le_refl _) _).alloc (by simp) _).alloc (by simp; omega) _, by have := E1.out; simp; omega, by have := E1.out; have := E2.out; simp; omega, by have := E1.out; have := E2.out; have := E3.out; simp; omega, E1.out⟩
  rw [hwa] at HST
  rw [hwa]
  clear hwa E1 E2 E3
  have q1 : wa.drew.cell? ⟨b1, 0, none⟩ = some (.pointer (some ⟨l, 0, none⟩)) := HST.out.bx.c1
  have q2 : wa.drew.cell? ⟨l, 0, none⟩ = some (.pointer (some ⟨d, 0, none⟩)) := HST.out.lg.cell 0 _ rfl
  have q3 : wa.drew.cell? ⟨l, 1, none⟩ = some (.string nm) := HST.out.lg.cell 1 _ rfl
  refine wp_region_noPanic ?_
  refine wp_region_held_drew (S := fun w' => w'.cell? ⟨b1, 0, none⟩ = some (.pointer (some ⟨l, 0, none⟩)) ∧ w'.cell? ⟨l, 0, none⟩ = some (.pointer (some ⟨d, 0, none⟩)) ∧ w'.cell? ⟨l, 1, none⟩ = some (.string nm)) (by kernel_rfl) ⟨q1, q2, q3⟩ (fun hHeld => ?_)
  refine wpAnyH_take (i := 0) (v := ?_) rfl (by kernel_rfl) (by kernel_rfl) (by kernel_rfl) (fun _ _ _ h => h) (Or.inl ⟨by rfl, ?_⟩) hHeld ?_
  rotate_left
  · (intro wq hSw; (try dsimp only at hSw); (try obtain ⟨s0, s1, s2⟩ := hSw); (go_simp <;> with_reducible rfl))
  try simp only [Act.put, List.getElem_toArray, List.getElem_cons_zero, List.getElem_cons_succ, List.setIfInBounds_toArray, List.set_cons_zero, List.set_cons_succ]
  refine wpAnyH_take (i := 1) (v := ?_) rfl (by kernel_rfl) (by kernel_rfl) (by kernel_rfl) (fun _ _ _ h => h) (Or.inl ⟨by rfl, ?_⟩) hHeld ?_
  rotate_left
  · (intro wq hSw; (try dsimp only at hSw); (try obtain ⟨s0, s1, s2⟩ := hSw); (go_simp <;> with_reducible rfl))
  try simp only [Act.put, List.getElem_toArray, List.getElem_cons_zero, List.getElem_cons_succ, List.setIfInBounds_toArray, List.set_cons_zero, List.set_cons_succ]
  refine wpAnyH_take (i := 2) (v := ?_) rfl (by kernel_rfl) (by kernel_rfl) (by kernel_rfl) (fun _ _ _ h => h) (Or.inl ⟨by rfl, ?_⟩) hHeld ?_
  rotate_left
  · (intro wq hSw; (try dsimp only at hSw); (try obtain ⟨s0, s1, s2⟩ := hSw); (go_simp <;> with_reducible rfl))
  try simp only [Act.put, List.getElem_toArray, List.getElem_cons_zero, List.getElem_cons_succ, List.setIfInBounds_toArray, List.set_cons_zero, List.set_cons_succ]
  refine wpAnyH_take (i := 3) (v := ?_) rfl (by kernel_rfl) (by kernel_rfl) (by kernel_rfl) (fun _ _ _ h => h) (Or.inl ⟨by rfl, ?_⟩) hHeld ?_
  rotate_left
  · (intro wq hSw; (try dsimp only at hSw); (try obtain ⟨s0, s1, s2⟩ := hSw); (go_simp <;> with_reducible rfl))
  try simp only [Act.put, List.getElem_toArray, List.getElem_cons_zero, List.getElem_cons_succ, List.setIfInBounds_toArray, List.set_cons_zero, List.set_cons_succ]
  refine wpAnyH_take (i := 4) (v := ?_) rfl (by kernel_rfl) (by kernel_rfl) (by kernel_rfl) (fun _ _ _ h => h) (Or.inl ⟨by rfl, ?_⟩) hHeld ?_
  rotate_left
  · (intro wq hSw; (try dsimp only at hSw); (try obtain ⟨s0, s1, s2⟩ := hSw); (go_simp <;> with_reducible rfl))
  try simp only [Act.put, List.getElem_toArray, List.getElem_cons_zero, List.getElem_cons_succ, List.setIfInBounds_toArray, List.set_cons_zero, List.set_cons_succ]
  refine wpAnyH_take (i := 5) (v := ?_) rfl (by kernel_rfl) (by kernel_rfl) (by kernel_rfl) (fun _ _ _ h => h) (Or.inl ⟨by rfl, ?_⟩) hHeld ?_
  rotate_left
  · (intro wq hSw; (try dsimp only at hSw); (try obtain ⟨s0, s1, s2⟩ := hSw); (go_simp <;> with_reducible rfl))
  try simp only [Act.put, List.getElem_toArray, List.getElem_cons_zero, List.getElem_cons_succ, List.setIfInBounds_toArray, List.set_cons_zero, List.set_cons_succ]
  refine wpAnyH_take (i := 6) (v := ?_) rfl (by kernel_rfl) (by kernel_rfl) (by kernel_rfl) (fun _ _ _ h => h) (Or.inl ⟨by rfl, ?_⟩) hHeld ?_
  rotate_left
  · (intro wq hSw; (try dsimp only at hSw); (try obtain ⟨s0, s1, s2⟩ := hSw); (go_simp <;> with_reducible rfl))
  try simp only [Act.put, List.getElem_toArray, List.getElem_cons_zero, List.getElem_cons_succ, List.setIfInBounds_toArray, List.set_cons_zero, List.set_cons_succ]
  refine wpAnyH_take (i := 7) (v := ?_) rfl (by kernel_rfl) (by kernel_rfl) (by kernel_rfl) (fun _ _ _ h => h) (Or.inl ⟨by rfl, ?_⟩) hHeld ?_
  rotate_left
  · (intro wq hSw; (try dsimp only at hSw); (try obtain ⟨s0, s1, s2⟩ := hSw); (go_simp <;> with_reducible rfl))
  try simp only [Act.put, List.getElem_toArray, List.getElem_cons_zero, List.getElem_cons_succ, List.setIfInBounds_toArray, List.set_cons_zero, List.set_cons_succ]
  refine wpAnyH_ready (rs := [8]) (by kernel_rfl) (by simp) ?_
  refine AllReadyH.cons rfl (fun K hK => ?_) AllReadyH.nil
  go_simp
  refine (HRD.out _ F HST.out.drew.di).mono ?_
  rintro _ wb ⟨v2, rfl, ⟨hDb, hFb⟩, hown, hnf, hlt⟩
  have HSB := hide (HST.out.drew.fr hFb hDb)
  have HOB : Hid (OB wa.heap.size wb bs v2 wb) := ⟨hown, Below.refl _ _, hFb.size⟩
  have HLB := hide hlt
  have HFL : Hid (∀ k, F k → k < wa.heap.size) := HST.out.di.lt
  obtain ⟨pv, cv, hv, hcy⟩ := HOB.out.cy
  rw [HN.out] at hv hcy
  subst hv
  have HCY := hide hcy
  have HAB : Hid (wa.heap.size ≤ wb.heap.size) := hFb.size
  clear hDb hFb hown hnf hlt hcy
  have r1 := HSB.out.bx.c1
  have r2 := HSB.out.lg.cell 0 _ rfl
  have r3 := HSB.out.lg.cell 1 _ rfl
  have d3 := HSB.out.bx.c3
  have g3 := frozen_of HSB.out.bx.h3 0
  refine hK.out _ _ ⟨r1, r2, r3⟩ (fun hHeld => ?_)
  clear hK K
  try simp only [Act.put, List.getElem_toArray, List.getElem_cons_zero, List.getElem_cons_succ, List.setIfInBounds_toArray, List.set_cons_zero, List.set_cons_succ]
  refine wpAnyH_take (i := 9) (v := ?_) rfl (by kernel_rfl) (by kernel_rfl) (by kernel_rfl) (fun _ _ _ h => h) (Or.inl ⟨by rfl, ?_⟩) hHeld ?_
  rotate_left
  · (intro wq hSw; (try dsimp only at hSw); (try obtain ⟨s0, s1, s2⟩ := hSw); (go_simp <;> with_reducible rfl))
  try simp only [Act.put, List.getElem_toArray, List.getElem_cons_zero, List.getElem_cons_succ, List.setIfInBounds_toArray, List.set_cons_zero, List.set_cons_succ]
  refine wpAnyH_take (i := 10) (v := ?_) rfl (by kernel_rfl) (by kernel_rfl) (by kernel_rfl) (fun _ _ _ h => h) (Or.inl ⟨by rfl, ?_⟩) hHeld ?_
  rotate_left
  · (intro wq hSw; (try dsimp only at hSw); (try obtain ⟨s0, s1, s2⟩ := hSw); (go_simp <;> with_reducible rfl))
  try simp only [Act.put, List.getElem_toArray, List.getElem_cons_zero, List.getElem_cons_succ, List.setIfInBounds_toArray, List.set_cons_zero, List.set_cons_succ]
  refine wpAnyH_take (i := 11) (v := ?_) rfl (by kernel_rfl) (by kernel_rfl) (by kernel_rfl) (fun _ _ _ h => h) (Or.inl ⟨by rfl, ?_⟩) hHeld ?_
  rotate_left
  · (intro wq hSw; (try dsimp only at hSw); (try obtain ⟨s0, s1, s2⟩ := hSw); (go_simp <;> with_reducible rfl))
  try simp only [Act.put, List.getElem_toArray, List.getElem_cons_zero, List.getElem_cons_succ, List.setIfInBounds_toArray, List.set_cons_zero, List.set_cons_succ]
  refine wpAnyH_take (i := 12) (v := ?_) rfl (by kernel_rfl) (by kernel_rfl) (by kernel_rfl) (fun _ _ _ h => h) (Or.inl ⟨by rfl, ?_⟩) hHeld ?_
  rotate_left
  · (intro wq hSw; (try dsimp only at hSw); (try obtain ⟨s0, s1, s2⟩ := hSw); (go_simp <;> with_reducible rfl))
  try simp only [Act.put, List.getElem_toArray, List.getElem_cons_zero, List.getElem_cons_succ, List.setIfInBounds_toArray, List.set_cons_zero, List.set_cons_succ]
  refine wpAnyH_ready (rs := [13]) (by kernel_rfl) (by simp) ?_
  refine AllReadyH.cons rfl (fun K hK => ?_) AllReadyH.nil
  go_simp
  obtain ⟨wc, hwc⟩ : ∃ wc, wb.setCell ⟨b3, 0, none⟩ (.int .i64 0) = wc := ⟨_, rfl⟩
  have HSC := hide (HSB.out.set3 (.int .i64 0))
  have HWC := hide hwc
  rw [hwc] at HSC
  rw [hwc]
  clear hwc r1 r2 r3 d3 g3 q1 q2 q3
  have r1 := HSC.out.bx.c1
  have r2 := HSC.out.lg.cell 0 _ rfl
  have r3 := HSC.out.lg.cell 1 _ rfl
  have d3 := HSC.out.bx.c3
  refine hK.out _ _ ⟨r1, r2, r3⟩ (fun hHeld => ?_)
  clear hK K
  try simp only [Act.put, List.getElem_toArray, List.getElem_cons_zero, List.getElem_cons_succ, List.setIfInBounds_toArray, List.set_cons_zero, List.set_cons_succ]
  refine wpAnyH_done (by kernel_rfl) ?_ _
  refine NoPanic.normal ?_
  have HCC : Hid (Cy wc pv N cv bs) := by
    have hb := HOB.out.own
    have hge : ∀ k, (Value.slice pv N cv).ownBlock = some k → k ≠ b3 := fun k hk => by have := (hb.lt k hk).1; have := HWA.out; omega
    refine ⟨isBy_keep HCY.out.1 fun k hk => ?_, HCY.out.2⟩
    have e := HWC.out
    rw [← e]
    exact Below.heap_setCell _ _ _ _ (hge k hk)
  have HTC := hide (HT.out _ _ HSC.out.fx)
  have hN8 : ¬ (N : Int) < 8 := by omega
  go_upto_region 8 with fail
  have q1 : wc.drew.cell? ⟨b1, 0, none⟩ = some (.pointer (some ⟨l, 0, none⟩)) := HSC.out.bx.c1
  refine wp_region_noPanic ?_
  refine wp_region_held_drew (S := fun w' => w'.cell? ⟨b1, 0, none⟩ = some (.pointer (some ⟨l, 0, none⟩))) (by kernel_rfl) q1 (fun hHeld => ?_)
  refine wpAnyH_take (i := 0) (v := ?_) rfl (by kernel_rfl) (by kernel_rfl) (by kernel_rfl) (fun _ _ _ h => h) (Or.inl ⟨by rfl, ?_⟩) hHeld ?_
  rotate_left
  · (intro wq hSw; (try dsimp only at hSw); (try obtain s0 := hSw); (go_simp <;> with_reducible rfl))
  try simp only [Act.put, List.getElem_toArray, List.getElem_cons_zero, List.getElem_cons_succ, List.setIfInBounds_toArray, List.set_cons_zero, List.set_cons_succ]
  refine wpAnyH_take (i := 1) (v := ?_) rfl (by kernel_rfl) (by kernel_rfl) (by kernel_rfl) (fun _ _ _ h => h) (Or.inl ⟨by rfl, ?_⟩) hHeld ?_
  rotate_left
  · (intro wq hSw; (try dsimp only at hSw); (try obtain s0 := hSw); (go_simp <;> with_reducible rfl))
  try simp only [Act.put, List.getElem_toArray, List.getElem_cons_zero, List.getElem_cons_succ, List.setIfInBounds_toArray, List.set_cons_zero, List.set_cons_succ]
  refine wpAnyH_ready (rs := [2]) (by kernel_rfl) (by simp) ?_
  refine AllReadyH.cons rfl (fun K hK => ?_) AllReadyH.nil
  go_simp
  refine (HTK.out wc.drew pv cv ⟨isBy_heap HCC.out.1 rfl, HCC.out.2⟩ HLB.out (fun j hj => HTC.out j hj)).mono ?_
  rintro _ wd ⟨rfl, hBd⟩
  have HSd := hide (HSC.out.drew.fr (Fr.of_below hBd) (HSC.out.drew.di.below hBd))
  clear hBd
  have z1d := HSd.out.bx.c1
  have z2d := HSd.out.bx.c2
  have z3d := HSd.out.bx.c3
  have y1d := frozen_of HSd.out.bx.h1 0
  have y2d := frozen_of HSd.out.bx.h2 0
  have y3d := frozen_of HSd.out.bx.h3 0
  have x2d := HSd.out.lg.cell 2 _ rfl
  have x3d := HSd.out.lg.cell 3 _ rfl
  have u2d := frozen_of HSd.out.lg 2
  have u3d := frozen_of HSd.out.lg 3
  have c0d := HSd.out.lg.cell 0 _ rfl
  have c1d := HSd.out.lg.cell 1 _ rfl
  refine hK.out _ _ z1d (fun hHeld => ?_)
  clear hK K
  try simp only [Act.put, List.getElem_toArray, List.getElem_cons_zero, List.getElem_cons_succ, List.setIfInBounds_toArray, List.set_cons_zero, List.set_cons_succ]
  refine wpAnyH_take (i := 3) (v := ?_) rfl (by kernel_rfl) (by kernel_rfl) (by kernel_rfl) (fun _ _ _ h => h) (Or.inl ⟨by rfl, ?_⟩) hHeld ?_
  rotate_left
  · (intro wq hSw; (try dsimp only at hSw); (try obtain s0 := hSw); (go_simp <;> with_reducible rfl))
  try simp only [Act.put, List.getElem_toArray, List.getElem_cons_zero, List.getElem_cons_succ, List.setIfInBounds_toArray, List.set_cons_zero, List.set_cons_succ]
  refine wpAnyH_take (i := 4) (v := ?_) rfl (by kernel_rfl) (by kernel_rfl) (by kernel_rfl) (fun _ _ _ h => h) (Or.inl ⟨by rfl, ?_⟩) hHeld ?_
  rotate_left
  · (intro wq hSw; (try dsimp only at hSw); (try obtain s0 := hSw); (go_simp <;> with_reducible rfl))
  try simp only [Act.put, List.getElem_toArray, List.getElem_cons_zero, List.getElem_cons_succ, List.setIfInBounds_toArray, List.set_cons_zero, List.set_cons_succ]
  refine wpAnyH_take (i := 5) (v := ?_) rfl (by kernel_rfl) (by kernel_rfl) (by kernel_rfl) (fun _ _ _ h => h) (Or.inl ⟨by rfl, ?_⟩) hHeld ?_
  rotate_left
  · (intro wq hSw; (try dsimp only at hSw); (try obtain s0 := hSw); (go_simp <;> with_reducible rfl))
  try simp only [Act.put, List.getElem_toArray, List.getElem_cons_zero, List.getElem_cons_succ, List.setIfInBounds_toArray, List.set_cons_zero, List.set_cons_succ]
  refine wpAnyH_take (i := 6) (v := ?_) rfl (by kernel_rfl) (by kernel_rfl) (by kernel_rfl) (fun _ _ _ h => h) (Or.inl ⟨by rfl, ?_⟩) hHeld ?_
  rotate_left
  · (intro wq hSw; (try dsimp only at hSw); (try obtain s0 := hSw); (go_simp <;> with_reducible rfl))
  try simp only [Act.put, List.getElem_toArray, List.getElem_cons_zero, List.getElem_cons_succ, List.setIfInBounds_toArray, List.set_cons_zero, List.set_cons_succ]
  refine wpAnyH_ready (rs := [7]) (by kernel_rfl) (by simp) ?_
  refine AllReadyH.cons rfl (fun K hK => ?_) AllReadyH.nil
  go_simp
  obtain ⟨we, hwe⟩ : ∃ we, wd.setCell ⟨b2, 0, none⟩ (.slice none 0 0) = we := ⟨_, rfl⟩
  have HSe := hide (HSd.out.set2 (.slice none 0 0))
  rw [hwe] at HSe
  rw [hwe]
  clear hwe
  have z1e := HSe.out.bx.c1
  have z2e := HSe.out.bx.c2
  have z3e := HSe.out.bx.c3
  have y1e := frozen_of HSe.out.bx.h1 0
  have y2e := frozen_of HSe.out.bx.h2 0
  have y3e := frozen_of HSe.out.bx.h3 0
  have x2e := HSe.out.lg.cell 2 _ rfl
  have x3e := HSe.out.lg.cell 3 _ rfl
  have u2e := frozen_of HSe.out.lg 2
  have u3e := frozen_of HSe.out.lg 3
  have c0e := HSe.out.lg.cell 0 _ rfl
  have c1e := HSe.out.lg.cell 1 _ rfl
  refine hK.out _ _ z1e (fun hHeld => ?_)
  clear hK K
  try simp only [Act.put, List.getElem_toArray, List.getElem_cons_zero, List.getElem_cons_succ, List.setIfInBounds_toArray, List.set_cons_zero, List.set_cons_succ]
  refine wpAnyH_take (i := 8) (v := ?_) rfl (by kernel_rfl) (by kernel_rfl) (by kernel_rfl) (fun _ _ _ h => h) (Or.inl ⟨by rfl, ?_⟩) hHeld ?_
  rotate_left
  · (intro wq hSw; (try dsimp only at hSw); (try obtain s0 := hSw); (go_simp <;> with_reducible rfl))
  try simp only [Act.put, List.getElem_toArray, List.getElem_cons_zero, List.getElem_cons_succ, List.setIfInBounds_toArray, List.set_cons_zero, List.set_cons_succ]
  refine wpAnyH_take (i := 9) (v := ?_) rfl (by kernel_rfl) (by kernel_rfl) (by kernel_rfl) (fun _ _ _ h => h) (Or.inl ⟨by rfl, ?_⟩) hHeld ?_
  rotate_left
  · (intro wq hSw; (try dsimp only at hSw); (try obtain s0 := hSw); (go_simp <;> with_reducible rfl))
  try simp only [Act.put, List.getElem_toArray, List.getElem_cons_zero, List.getElem_cons_succ, List.setIfInBounds_toArray, List.set_cons_zero, List.set_cons_succ]
  refine wpAnyH_ready (rs := [10]) (by kernel_rfl) (by simp) ?_
  refine AllReadyH.cons rfl (fun K hK => ?_) AllReadyH.nil
  go_simp
  obtain ⟨wf, hwf⟩ : ∃ wf, we.setCell ⟨l, 2, none⟩ (.int .i64 0) = wf := ⟨_, rfl⟩
  have HSf := hide (HSe.out.setS0)
  rw [hwf] at HSf
  rw [hwf]
  clear hwf
  have z1f := HSf.out.bx.c1
  have z2f := HSf.out.bx.c2
  have z3f := HSf.out.bx.c3
  have y1f := frozen_of HSf.out.bx.h1 0
  have y2f := frozen_of HSf.out.bx.h2 0
  have y3f := frozen_of HSf.out.bx.h3 0
  have x2f := HSf.out.lg.cell 2 _ rfl
  have x3f := HSf.out.lg.cell 3 _ rfl
  have u2f := frozen_of HSf.out.lg 2
  have u3f := frozen_of HSf.out.lg 3
  have c0f := HSf.out.lg.cell 0 _ rfl
  have c1f := HSf.out.lg.cell 1 _ rfl
  refine hK.out _ _ z1f (fun hHeld => ?_)
  clear hK K
  try simp only [Act.put, List.getElem_toArray, List.getElem_cons_zero, List.getElem_cons_succ, List.setIfInBounds_toArray, List.set_cons_zero, List.set_cons_succ]
  refine wpAnyH_ready (rs := [11]) (by kernel_rfl) (by simp) ?_
  refine AllReadyH.cons rfl (fun K hK => ?_) AllReadyH.nil
  go_simp
  obtain ⟨wg, hwg⟩ : ∃ wg, wf.setCell ⟨b3, 0, none⟩ (.int .i64 111) = wg := ⟨_, rfl⟩
  have HSg := hide (HSf.out.set3 (.int .i64 111))
  rw [hwg] at HSg
  rw [hwg]
  clear hwg
  have z1g := HSg.out.bx.c1
  have z2g := HSg.out.bx.c2
  have z3g := HSg.out.bx.c3
  have y1g := frozen_of HSg.out.bx.h1 0
  have y2g := frozen_of HSg.out.bx.h2 0
  have y3g := frozen_of HSg.out.bx.h3 0
  have x2g := HSg.out.lg.cell 2 _ rfl
  have x3g := HSg.out.lg.cell 3 _ rfl
  have u2g := frozen_of HSg.out.lg 2
  have u3g := frozen_of HSg.out.lg 3
  have c0g := HSg.out.lg.cell 0 _ rfl
  have c1g := HSg.out.lg.cell 1 _ rfl
  refine hK.out _ _ z1g (fun hHeld => ?_)
  clear hK K
  try simp only [Act.put, List.getElem_toArray, List.getElem_cons_zero, List.getElem_cons_succ, List.setIfInBounds_toArray, List.set_cons_zero, List.set_cons_succ]
  refine wpAnyH_done (by kernel_rfl) ?_ _
  refine NoPanic.normal ?_
  go_upto_region 10 with fail
  obtain ⟨wh, hwh⟩ : ∃ wh, wg.setCell ⟨l, 3, none⟩ (.int .i64 0) = wh := ⟨_, rfl⟩
  have HSh := hide (HSg.out.setK0)
  rw [hwh] at HSh
  rw [hwh]
  clear hwh
  have z1h := HSh.out.bx.c1
  have z2h := HSh.out.bx.c2
  have z3h := HSh.out.bx.c3
  have y1h := frozen_of HSh.out.bx.h1 0
  have y2h := frozen_of HSh.out.bx.h2 0
  have y3h := frozen_of HSh.out.bx.h3 0
  have x2h := HSh.out.lg.cell 2 _ rfl
  have x3h := HSh.out.lg.cell 3 _ rfl
  have u2h := frozen_of HSh.out.lg 2
  have u3h := frozen_of HSh.out.lg 3
  have c0h := HSh.out.lg.cell 0 _ rfl
  have c1h := HSh.out.lg.cell 1 _ rfl
  go_upto_region 12 with fail
  obtain ⟨wk, hwk⟩ : ∃ wk, wh.drew = wk := ⟨_, rfl⟩
  have HSk := hide HSh.out.drew
  rw [hwk] at HSk
  have z1k := HSk.out.bx.c1
  have z2k := HSk.out.bx.c2
  have z3k := HSk.out.bx.c3
  have y1k := frozen_of HSk.out.bx.h1 0
  have y2k := frozen_of HSk.out.bx.h2 0
  have y3k := frozen_of HSk.out.bx.h3 0
  have x2k := HSk.out.lg.cell 2 _ rfl
  have x3k := HSk.out.lg.cell 3 _ rfl
  have u2k := frozen_of HSk.out.lg 2
  have u3k := frozen_of HSk.out.lg 3
  have c0k := HSk.out.lg.cell 0 _ rfl
  have c1k := HSk.out.lg.cell 1 _ rfl
  refine wp_region_noPanic ?_
  refine wp_region_held_drew (S := fun w' => w'.cell? ⟨b1, 0, none⟩ = some (.pointer (some ⟨l, 0, none⟩)) ∧ w'.cell? ⟨b2, 0, none⟩ = some (.slice none 0 0) ∧ w'.cell? ⟨b3, 0, none⟩ = some (.int .i64 111)) (by kernel_rfl) ?_ (fun hHeld => ?_)
  · rw [hwk]; exact ⟨z1k, z2k, z3k⟩
  rw [hwk] at hHeld ⊢
  clear hwk
  refine wpAnyH_take (i := 0) (v := ?_) rfl (by kernel_rfl) (by kernel_rfl) (by kernel_rfl) (fun _ _ _ h => h) (Or.inl ⟨by rfl, ?_⟩) hHeld ?_
  rotate_left
  · (intro wq hSw; (try dsimp only at hSw); (try obtain ⟨s0, s1, s2⟩ := hSw); (go_simp <;> with_reducible rfl))
  try simp only [Act.put, List.getElem_toArray, List.getElem_cons_zero, List.getElem_cons_succ, List.setIfInBounds_toArray, List.set_cons_zero, List.set_cons_succ]
  refine wpAnyH_take (i := 1) (v := ?_) rfl (by kernel_rfl) (by kernel_rfl) (by kernel_rfl) (fun _ _ _ h => h) (Or.inl ⟨by rfl, ?_⟩) hHeld ?_
  rotate_left
  · (intro wq hSw; (try dsimp only at hSw); (try obtain ⟨s0, s1, s2⟩ := hSw); (go_simp <;> with_reducible rfl))
  try simp only [Act.put, List.getElem_toArray, List.getElem_cons_zero, List.getElem_cons_succ, List.setIfInBounds_toArray, List.set_cons_zero, List.set_cons_succ]
  refine wpAnyH_take (i := 2) (v := ?_) rfl (by kernel_rfl) (by kernel_rfl) (by kernel_rfl) (fun _ _ _ h => h) (Or.inl ⟨by rfl, ?_⟩) hHeld ?_
  rotate_left
  · (intro wq hSw; (try dsimp only at hSw); (try obtain ⟨s0, s1, s2⟩ := hSw); (go_simp <;> with_reducible rfl))
  try simp only [Act.put, List.getElem_toArray, List.getElem_cons_zero, List.getElem_cons_succ, List.setIfInBounds_toArray, List.set_cons_zero, List.set_cons_succ]
  refine wpAnyH_ready (rs := [3]) (by kernel_rfl) (by simp) ?_
  refine AllReadyH.cons rfl (fun K hK => ?_) AllReadyH.nil
  go_simp
  obtain ⟨wm, hwm⟩ : ∃ wm, wk.setCell ⟨b1, 0, none⟩ (.pointer (some ⟨l, 0, none⟩)) = wm := ⟨_, rfl⟩
  have HSm := hide (HSk.out.set1 (.pointer (some ⟨l, 0, none⟩)))
  rw [hwm] at HSm
  rw [hwm]
  clear hwm
  have z1m := HSm.out.bx.c1
  have z2m := HSm.out.bx.c2
  have z3m := HSm.out.bx.c3
  have y1m := frozen_of HSm.out.bx.h1 0
  have y2m := frozen_of HSm.out.bx.h2 0
  have y3m := frozen_of HSm.out.bx.h3 0
  have x2m := HSm.out.lg.cell 2 _ rfl
  have x3m := HSm.out.lg.cell 3 _ rfl
  have u2m := frozen_of HSm.out.lg 2
  have u3m := frozen_of HSm.out.lg 3
  have c0m := HSm.out.lg.cell 0 _ rfl
  have c1m := HSm.out.lg.cell 1 _ rfl
  refine hK.out _ _ ⟨z1m, z2m, z3m⟩ (fun hHeld => ?_)
  clear hK K
  try simp only [Act.put, List.getElem_toArray, List.getElem_cons_zero, List.getElem_cons_succ, List.setIfInBounds_toArray, List.set_cons_zero, List.set_cons_succ]
  refine wpAnyH_ready (rs := [4]) (by kernel_rfl) (by simp) ?_
  refine AllReadyH.cons rfl (fun K hK => ?_) AllReadyH.nil
  go_simp
  obtain ⟨wn, hwn⟩ : ∃ wn, wm.setCell ⟨b2, 0, none⟩ (.slice none 0 0) = wn := ⟨_, rfl⟩
  have HSn := hide (HSm.out.set2 (.slice none 0 0))
  rw [hwn] at HSn
  rw [hwn]
  clear hwn
  have z1n := HSn.out.bx.c1
  have z2n := HSn.out.bx.c2
  have z3n := HSn.out.bx.c3
  have y1n := frozen_of HSn.out.bx.h1 0
  have y2n := frozen_of HSn.out.bx.h2 0
  have y3n := frozen_of HSn.out.bx.h3 0
  have x2n := HSn.out.lg.cell 2 _ rfl
  have x3n := HSn.out.lg.cell 3 _ rfl
  have u2n := frozen_of HSn.out.lg 2
  have u3n := frozen_of HSn.out.lg 3
  have c0n := HSn.out.lg.cell 0 _ rfl
  have c1n := HSn.out.lg.cell 1 _ rfl
  refine hK.out _ _ ⟨z1n, z2n, z3n⟩ (fun hHeld => ?_)
  clear hK K
  try simp only [Act.put, List.getElem_toArray, List.getElem_cons_zero, List.getElem_cons_succ, List.setIfInBounds_toArray, List.set_cons_zero, List.set_cons_succ]
  refine wpAnyH_ready (rs := [5]) (by kernel_rfl) (by simp) ?_
  refine AllReadyH.cons rfl (fun K hK => ?_) AllReadyH.nil
  go_simp
  obtain ⟨wo, hwo⟩ : ∃ wo, wn.setCell ⟨b3, 0, none⟩ (.int .i64 111) = wo := ⟨_, rfl⟩
  have HSo := hide (HSn.out.set3 (.int .i64 111))
  rw [hwo] at HSo
  rw [hwo]
  clear hwo
  have z1o := HSo.out.bx.c1
  have z2o := HSo.out.bx.c2
  have z3o := HSo.out.bx.c3
  have y1o := frozen_of HSo.out.bx.h1 0
  have y2o := frozen_of HSo.out.bx.h2 0
  have y3o := frozen_of HSo.out.bx.h3 0
  have x2o := HSo.out.lg.cell 2 _ rfl
  have x3o := HSo.out.lg.cell 3 _ rfl
  have u2o := frozen_of HSo.out.lg 2
  have u3o := frozen_of HSo.out.lg 3
  have c0o := HSo.out.lg.cell 0 _ rfl
  have c1o := HSo.out.lg.cell 1 _ rfl
  refine hK.out _ _ ⟨z1o, z2o, z3o⟩ (fun hHeld => ?_)
  clear hK K
  try simp only [Act.put, List.getElem_toArray, List.getElem_cons_zero, List.getElem_cons_succ, List.setIfInBounds_toArray, List.set_cons_zero, List.set_cons_succ]
  refine wpAnyH_done (by kernel_rfl) ?_ _
  refine NoPanic.normal ?_
  go_wp2_with fail
  refine leaves_cons (f := 45) (args := #[.pointer (some ⟨b3, 0, none⟩), .pointer (some ⟨b1, 0, none⟩), .pointer (some ⟨b2, 0, none⟩)]) (by simp) (by simp [go_sem]) ?_
  refine (openedC_bad b3 b1 b2 .returning _ HSo.out.bx).mono ?_
  rintro e u' w'' ⟨rfl, rfl, rfl⟩
  have HSp := (HSo.out.set1 (.pointer none)).set2 (.slice none 0 0)
  refine ⟨.tuple #[.pointer none, .slice none 0 0, .int .i64 111], results3 (by rfl) _ b1 b2 b3 rfl rfl rfl _ HSp.bx.c1 HSp.bx.c2 HSp.bx.c3, rfl, HSp.di, HSp.fx⟩

set_option maxRecDepth 100000 in
set_option maxHeartbeats 8000000 in
theorem opened_bad0 {B : Nat} {l d : Nat} {p : PS} {F : Nat → Prop} {nm : ByteArray} (w : World) (h : Di B w d p F) (hg : Lg w l d nm 0 0) (hl : ¬ F l) (hoff : p.off = false) (hs : okN nm) (bs : List Nat) (su : Nat) (hc : (nm, bs, su) ∈ p.con) (hlb : bs.length ≤ 268435456) (h8 : bs.length < 8) (hb256 : ∀ x ∈ bs, x < 256) (hnp : ¬ bs = headB.take bs.length) (hbad : ¬ bs.take 8 = headB ∨ tkRecs (bs.length + 1) (bs.drop 8) [] = none) (hT : TabC w) (hTF : ¬ F 0 ∧ 0 ≠ l) :
    Calls Tryd.prog 29 #[.pointer (some ⟨l, 0, none⟩)] w fun e w' => e = .returned (.tuple #[.pointer none, .slice none 0 0, .int .i64 111]) ∧ Di B w' d p F ∧ Fx l w F w' F := by
  have hmf : ∀ (fn : Fn) (first cap : Array Value) (w : World), (Instr.makeFunc fn first cap).run Tryd.prog w = .ok (.func fn first cap) w := fun _ _ _ _ => rfl
  have HST := hide (op_start h hg hl)
  have HRD : Hid (∀ w1 F1, Di B w1 d p F1 → Calls Tryd.prog 6 #[.pointer (some ⟨d, 0, none⟩), .string nm] w1 _) := fun w1 F1 h1 => di_read w1 h1 hoff nm hs bs su hc
  have HTK : Hid (∀ w1 p1 c1, Cy w1 p1 bs.length c1 bs → (∀ n ∈ bs, n < 256) → TabC w1 → Calls Tryd.prog 48 #[.slice p1 bs.length c1] w1 fun e w' => e = .returned (.tuple #[.slice none 0 0, .int .i64 0, .int .i64 111]) ∧ Below w1.heap.size w1 w') := fun w1 p1 c1 h1 h2 h3 => by
    by_cases hpre : bs.take 8 = headB
    · have htk := hbad.resolve_left (fun h => h hpre)
      refine (taken_ok p1 bs.length c1 bs w1 h1 h2 hlb h3 hpre).mono ?_
      rintro e w' ⟨hB, hm⟩
      rw [htk] at hm
      exact ⟨hm, hB⟩
    · refine (taken_no p1 bs.length c1 bs w1 h1 h2 hlb hpre).mono ?_
      rintro e w' ⟨hB, hm⟩
      exact ⟨hm, hB⟩
  have HT : Hid (∀ w1 F1, Fx l w F w1 F1 → TabC w1) := fun w1 F1 hf j hj => by
    rw [World.cell?_of_block (w := w) (w' := w1) (a := ⟨0, j, none⟩) ((hf.block _ (World.block_lt_of_cell? _ _ (hT j hj)) hTF.1).2 hTF.2)]; exact hT j hj
  have HFX : Hid (l < w.heap.size) := heap_lt hg
  have HSP := hide (fun w1 => sprefix_not bs h8 hb256 hnp w1)
  obtain ⟨N, hN⟩ : ∃ N, bs.length = N := ⟨_, rfl⟩
  have HN := hide hN
  rw [hN] at h8 hlb HTK
  obtain ⟨b1, e1⟩ : ∃ b1, w.heap.size = b1 := ⟨_, rfl⟩
  obtain ⟨b2, e2⟩ : ∃ b2, b1 + 1 = b2 := ⟨_, rfl⟩
  obtain ⟨b3, e3⟩ : ∃ b3, b2 + 1 = b3 := ⟨_, rfl⟩
  rw [e1, e2, e3] at HST
  have E1 := hide e1
  have E2 := hide e2
  have E3 := hide e3
  clear e1 e2 e3
  clear h hg hl hoff hs hc hT hTF hbad hN
  go_enter_defers Tryd.func29, Tryd.ntmps29
  go_upto_region 3 with fail
  rw [E1.out, E2.out, E3.out]
  obtain ⟨wa, hwa⟩ : ∃ wa, (((w.alloc (.cells #[.pointer (some ⟨l, 0, none⟩)] 38)).alloc (.cells #[.slice none 0 0] 22)).alloc (.cells #[.int .i64 0] 31)) = wa := ⟨_, rfl⟩
  have HWA : Hid (Below w.heap.size w wa ∧ b1 < wa.heap.size ∧ b2 < wa.heap.size ∧ b3 < wa.heap.size ∧ w.heap.size = b1) := by
    rw [← hwa]; exact ⟨(((Below.refl _ _).alloc (Nat.le_refl _) _).alloc (by simp) _).alloc (by simp; omega) _, by have := E1.out; simp; omega, by have := E1.out; have := E2.out; simp; omega, by have := E1.out; have := E2.out; have := E3.out; simp; omega, E1.out⟩
  rw [hwa] at HST
  rw [hwa]
  clear hwa E1 E2 E3
  have q1 : wa.drew.cell? ⟨b1, 0, none⟩ = some (.pointer (some ⟨l, 0, none⟩)) := HST.out.bx.c1
  have q2 : wa.drew.cell? ⟨l, 0, none⟩ = some (.pointer (some ⟨d, 0, none⟩)) := HST.out.lg.cell 0 _ rfl
  have q3 : wa.drew.cell? ⟨l, 1, none⟩ = some (.string nm) := HST.out.lg.cell 1 _ rfl
  refine wp_region_noPanic ?_
  refine wp_region_held_drew (S := fun w' => w'.cell? ⟨b1, 0, none⟩ = some (.pointer (some ⟨l, 0, none⟩)) ∧ w'.cell? ⟨l, 0, none⟩ = some (.pointer (some ⟨d, 0, none⟩)) ∧ w'.cell? ⟨l, 1, none⟩ = some (.string nm)) (by kernel_rfl) ⟨q1, q2, q3⟩ (fun hHeld => ?_)
  refine wpAnyH_take (i := 0) (v := ?_) rfl (by kernel_rfl) (by kernel_rfl) (by kernel_rfl) (fun _ _ _ h => h) (Or.inl ⟨by rfl, ?_⟩) hHeld ?_
  rotate_left
  · (intro wq hSw; (try dsimp only at hSw); (try obtain ⟨s0, s1, s2⟩ := hSw); (go_simp <;> with_reducible rfl))
  try simp only [Act.put, List.getElem_toArray, List.getElem_cons_zero, List.getElem_cons_succ, List.setIfInBounds_toArray, List.set_cons_zero, List.set_cons_succ]
  refine wpAnyH_take (i := 1) (v := ?_) rfl (by kernel_rfl) (by kernel_rfl) (by kernel_rfl) (fun _ _ _ h => h) (Or.inl ⟨by rfl, ?_⟩) hHeld ?_
  rotate_left
  · (intro wq hSw; (try dsimp only at hSw); (try obtain ⟨s0, s1, s2⟩ := hSw); (go_simp <;> with_reducible rfl))
  try simp only [Act.put, List.getElem_toArray, List.getElem_cons_zero, List.getElem_cons_succ, List.setIfInBounds_toArray, List.set_cons_zero, List.set_cons_succ]
  refine wpAnyH_take (i := 2) (v := ?_) rfl (by kernel_rfl) (by kernel_rfl) (by kernel_rfl) (fun _ _ _ h => h) (Or.inl ⟨by rfl, ?_⟩) hHeld ?_
  rotate_left
  · (intro wq hSw; (try dsimp only at hSw); (try obtain ⟨s0, s1, s2⟩ := hSw); (go_simp <;> with_reducible rfl))
  try simp only [Act.put, List.getElem_toArray, List.getElem_cons_zero, List.getElem_cons_succ, List.setIfInBounds_toArray, List.set_cons_zero, List.set_cons_succ]
  refine wpAnyH_take (i := 3) (v := ?_) rfl (by kernel_rfl) (by kernel_rfl) (by kernel_rfl) (fun _ _ _ h => h) (Or.inl ⟨by rfl, ?_⟩) hHeld ?_
  rotate_left
  · (intro wq hSw; (try dsimp only at hSw); (try obtain ⟨s0, s1, s2⟩ := hSw); (go_simp <;> with_reducible rfl))
  try simp only [Act.put, List.getElem_toArray, List.getElem_cons_zero, List.getElem_cons_succ, List.setIfInBounds_toArray, List.set_cons_zero, List.set_cons_succ]
  refine wpAnyH_take (i := 4) (v := ?_) rfl (by kernel_rfl) (by kernel_rfl) (by kernel_rfl) (fun _ _ _ h => h) (Or.inl ⟨by rfl, ?_⟩) hHeld ?_
  rotate_left
  · (intro wq hSw; (try dsimp only at hSw); (try obtain ⟨s0, s1, s2⟩ := hSw); (go_simp <;> with_reducible rfl))
  try simp only [Act.put, List.getElem_toArray, List.getElem_cons_zero, List.getElem_cons_succ, List.setIfInBounds_toArray, List.set_cons_zero, List.set_cons_succ]
  refine wpAnyH_take (i := 5) (v := ?_) rfl (by kernel_rfl) (by kernel_rfl) (by kernel_rfl) (fun _ _ _ h => h) (Or.inl ⟨by rfl, ?_⟩) hHeld ?_
  rotate_left
  · (intro wq hSw; (try dsimp only at hSw); (try obtain ⟨s0, s1, s2⟩ := hSw); (go_simp <;> with_reducible rfl))
  try simp only [Act.put, List.getElem_toArray, List.getElem_cons_zero, List.getElem_cons_succ, List.setIfInBounds_toArray, List.set_cons_zero, List.set_cons_succ]
  refine wpAnyH_take (i := 6) (v := ?_) rfl (by kernel_rfl) (by kernel_rfl) (by kernel_rfl) (fun _ _ _ h => h) (Or.inl ⟨by rfl, ?_⟩) hHeld ?_
  rotate_left
  · (intro wq hSw; (try dsimp only at hSw); (try obtain ⟨s0, s1, s2⟩ := hSw); (go_simp <;> with_reducible rfl))
  try simp only [Act.put, List.getElem_toArray, List.getElem_cons_zero, List.getElem_cons_succ, List.setIfInBounds_toArray, List.set_cons_zero, List.set_cons_succ]
  refine wpAnyH_take (i := 7) (v := ?_) rfl (by kernel_rfl) (by kernel_rfl) (by kernel_rfl) (fun _ _ _ h => h) (Or.inl ⟨by rfl, ?_⟩) hHeld ?_
  rotate_left
  · (intro wq hSw; (try dsimp only at hSw); (try obtain ⟨s0, s1, s2⟩ := hSw); (go_simp <;> with_reducible rfl))
  try simp only [Act.put, List.getElem_toArray, List.getElem_cons_zero, List.getElem_cons_succ, List.setIfInBounds_toArray, List.set_cons_zero, List.set_cons_succ]
  refine wpAnyH_ready (rs := [8]) (by kernel_rfl) (by simp) ?_
  refine AllReadyH.cons rfl (fun K hK => ?_) AllReadyH.nil
  go_simp
  refine (HRD.out _ F HST.out.drew.di).mono ?_
  rintro _ wb ⟨v2, rfl, ⟨hDb, hFb⟩, hown, hnf, hlt⟩
  have HSB := hide (HST.out.drew.fr hFb hDb)
  have HOB : Hid (OB wa.heap.size wb bs v2 wb) := ⟨hown, Below.refl _ _, hFb.size⟩
  have HLB := hide hlt
  have HFL : Hid (∀ k, F k → k < wa.heap.size) := HST.out.di.lt
  obtain ⟨pv, cv, hv, hcy⟩ := HOB.out.cy
  rw [HN.out] at hv hcy
  subst hv
  have HCY := hide hcy
  have HAB : Hid (wa.heap.size ≤ wb.heap.size) := hFb.size
  clear hDb hFb hown hnf hlt hcy
  have r1 := HSB.out.bx.c1
  have r2 := HSB.out.lg.cell 0 _ rfl
  have r3 := HSB.out.lg.cell 1 _ rfl
  have d3 := HSB.out.bx.c3
  have g3 := frozen_of HSB.out.bx.h3 0
  refine hK.out _ _ ⟨r1, r2, r3⟩ (fun hHeld => ?_)
  clear hK K
  try simp only [Act.put, List.getElem_toArray, List.getElem_cons_zero, List.getElem_cons_succ, List.setIfInBounds_toArray, List.set_cons_zero, List.set_cons_succ]
  refine wpAnyH_take (i := 9) (v := ?_) rfl (by kernel_rfl) (by kernel_rfl) (by kernel_rfl) (fun _ _ _ h => h) (Or.inl ⟨by rfl, ?_⟩) hHeld ?_
  rotate_left
  · (intro wq hSw; (try dsimp only at hSw); (try obtain ⟨s0, s1, s2⟩ := hSw); (go_simp <;> with_reducible rfl))
  try simp only [Act.put, List.getElem_toArray, List.getElem_cons_zero, List.getElem_cons_succ, List.setIfInBounds_toArray, List.set_cons_zero, List.set_cons_succ]
  refine wpAnyH_take (i := 10) (v := ?_) rfl (by kernel_rfl) (by kernel_rfl) (by kernel_rfl) (fun _ _ _ h => h) (Or.inl ⟨by rfl, ?_⟩) hHeld ?_
  rotate_left
  · (intro wq hSw; (try dsimp only at hSw); (try obtain ⟨s0, s1, s2⟩ := hSw); (go_simp <;> with_reducible rfl))
  try simp only [Act.put, List.getElem_toArray, List.getElem_cons_zero, List.getElem_cons_succ, List.setIfInBounds_toArray, List.set_cons_zero, List.set_cons_succ]
  refine wpAnyH_take (i := 11) (v := ?_) rfl (by kernel_rfl) (by kernel_rfl) (by kernel_rfl) (fun _ _ _ h => h) (Or.inl ⟨by rfl, ?_⟩) hHeld ?_
  rotate_left
  · (intro wq hSw; (try dsimp only at hSw); (try obtain ⟨s0, s1, s2⟩ := hSw); (go_simp <;> with_reducible rfl))
  try simp only [Act.put, List.getElem_toArray, List.getElem_cons_zero, List.getElem_cons_succ, List.setIfInBounds_toArray, List.set_cons_zero, List.set_cons_succ]
  refine wpAnyH_take (i := 12) (v := ?_) rfl (by kernel_rfl) (by kernel_rfl) (by kernel_rfl) (fun _ _ _ h => h) (Or.inl ⟨by rfl, ?_⟩) hHeld ?_
  rotate_left
  · (intro wq hSw; (try dsimp only at hSw); (try obtain ⟨s0, s1, s2⟩ := hSw); (go_simp <;> with_reducible rfl))
  try simp only [Act.put, List.getElem_toArray, List.getElem_cons_zero, List.getElem_cons_succ, List.setIfInBounds_toArray, List.set_cons_zero, List.set_cons_succ]
  refine wpAnyH_ready (rs := [13]) (by kernel_rfl) (by simp) ?_
  refine AllReadyH.cons rfl (fun K hK => ?_) AllReadyH.nil
  go_simp
  obtain ⟨wc, hwc⟩ : ∃ wc, wb.setCell ⟨b3, 0, none⟩ (.int .i64 0) = wc := ⟨_, rfl⟩
  have HSC := hide (HSB.out.set3 (.int .i64 0))
  have HWC := hide hwc
  rw [hwc] at HSC
  rw [hwc]
  clear hwc r1 r2 r3 d3 g3 q1 q2 q3
  have r1 := HSC.out.bx.c1
  have r2 := HSC.out.lg.cell 0 _ rfl
  have r3 := HSC.out.lg.cell 1 _ rfl
  have d3 := HSC.out.bx.c3
  refine hK.out _ _ ⟨r1, r2, r3⟩ (fun hHeld => ?_)
  clear hK K
  try simp only [Act.put, List.getElem_toArray, List.getElem_cons_zero, List.getElem_cons_succ, List.setIfInBounds_toArray, List.set_cons_zero, List.set_cons_succ]
  refine wpAnyH_done (by kernel_rfl) ?_ _
  refine NoPanic.normal ?_
  have HCC : Hid (Cy wc pv N cv bs) := by
    have hb := HOB.out.own
    have hge : ∀ k, (Value.slice pv N cv).ownBlock = some k → k ≠ b3 := fun k hk => by have := (hb.lt k hk).1; have := HWA.out; omega
    refine ⟨isBy_keep HCY.out.1 fun k hk => ?_, HCY.out.2⟩
    have e := HWC.out
    rw [← e]
    exact Below.heap_setCell _ _ _ _ (hge k hk)
  have HTC := hide (HT.out _ _ HSC.out.fx)
  have hN8 : (N : Int) < 8 := by omega
  have hcv0 := convert_by wc (.slice pv N cv) bs HCC.out.1
  go_upto_region 8 with (first | simp only [hcv0] | (go_at_call 46; refine (HSP.out _).mono ?_; rintro e w' ⟨rfl, hw⟩; have hw2 := hw.symm; subst hw2))
  have q1 : wc.drew.cell? ⟨b1, 0, none⟩ = some (.pointer (some ⟨l, 0, none⟩)) := HSC.out.bx.c1
  refine wp_region_noPanic ?_
  refine wp_region_held_drew (S := fun w' => w'.cell? ⟨b1, 0, none⟩ = some (.pointer (some ⟨l, 0, none⟩))) (by kernel_rfl) q1 (fun hHeld => ?_)
  refine wpAnyH_take (i := 0) (v := ?_) rfl (by kernel_rfl) (by kernel_rfl) (by kernel_rfl) (fun _ _ _ h => h) (Or.inl ⟨by rfl, ?_⟩) hHeld ?_
  rotate_left
  · (intro wq hSw; (try dsimp only at hSw); (try obtain s0 := hSw); (go_simp <;> with_reducible rfl))
  try simp only [Act.put, List.getElem_toArray, List.getElem_cons_zero, List.getElem_cons_succ, List.setIfInBounds_toArray, List.set_cons_zero, List.set_cons_succ]
  refine wpAnyH_take (i := 1) (v := ?_) rfl (by kernel_rfl) (by kernel_rfl) (by kernel_rfl) (fun _ _ _ h => h) (Or.inl ⟨by rfl, ?_⟩) hHeld ?_
  rotate_left
  · (intro wq hSw; (try dsimp only at hSw); (try obtain s0 := hSw); (go_simp <;> with_reducible rfl))
  try simp only [Act.put, List.getElem_toArray, List.getElem_cons_zero, List.getElem_cons_succ, List.setIfInBounds_toArray, List.set_cons_zero, List.set_cons_succ]
  refine wpAnyH_ready (rs := [2]) (by kernel_rfl) (by simp) ?_
  refine AllReadyH.cons rfl (fun K hK => ?_) AllReadyH.nil
  go_simp
  refine (HTK.out wc.drew pv cv ⟨isBy_heap HCC.out.1 rfl, HCC.out.2⟩ HLB.out (fun j hj => HTC.out j hj)).mono ?_
  rintro _ wd ⟨rfl, hBd⟩
  have HSd := hide (HSC.out.drew.fr (Fr.of_below hBd) (HSC.out.drew.di.below hBd))
  clear hBd
  have z1d := HSd.out.bx.c1
  have z2d := HSd.out.bx.c2
  have z3d := HSd.out.bx.c3
  have y1d := frozen_of HSd.out.bx.h1 0
  have y2d := frozen_of HSd.out.bx.h2 0
  have y3d := frozen_of HSd.out.bx.h3 0
  have x2d := HSd.out.lg.cell 2 _ rfl
  have x3d := HSd.out.lg.cell 3 _ rfl
  have u2d := frozen_of HSd.out.lg 2
  have u3d := frozen_of HSd.out.lg 3
  have c0d := HSd.out.lg.cell 0 _ rfl
  have c1d := HSd.out.lg.cell 1 _ rfl
  refine hK.out _ _ z1d (fun hHeld => ?_)
  clear hK K
  try simp only [Act.put, List.getElem_toArray, List.getElem_cons_zero, List.getElem_cons_succ, List.setIfInBounds_toArray, List.set_cons_zero, List.set_cons_succ]
  refine wpAnyH_take (i := 3) (v := ?_) rfl (by kernel_rfl) (by kernel_rfl) (by kernel_rfl) (fun _ _ _ h => h) (Or.inl ⟨by rfl, ?_⟩) hHeld ?_
  rotate_left
  · (intro wq hSw; (try dsimp only at hSw); (try obtain s0 := hSw); (go_simp <;> with_reducible rfl))
  try simp only [Act.put, List.getElem_toArray, List.getElem_cons_zero, List.getElem_cons_succ, List.setIfInBounds_toArray, List.set_cons_zero, List.set_cons_succ]
  refine wpAnyH_take (i := 4) (v := ?_) rfl (by kernel_rfl) (by kernel_rfl) (by kernel_rfl) (fun _ _ _ h => h) (Or.inl ⟨by rfl, ?_⟩) hHeld ?_
  rotate_left
  · (intro wq hSw; (try dsimp only at hSw); (try obtain s0 := hSw); (go_simp <;> with_reducible rfl))
  try simp only [Act.put, List.getElem_toArray, List.getElem_cons_zero, List.getElem_cons_succ, List.setIfInBounds_toArray, List.set_cons_zero, List.set_cons_succ]
  refine wpAnyH_take (i := 5) (v := ?_) rfl (by kernel_rfl) (by kernel_rfl) (by kernel_rfl) (fun _ _ _ h => h) (Or.inl ⟨by rfl, ?_⟩) hHeld ?_
  rotate_left
  · (intro wq hSw; (try dsimp only at hSw); (try obtain s0 := hSw); (go_simp <;> with_reducible rfl))
  try simp only [Act.put, List.getElem_toArray, List.getElem_cons_zero, List.getElem_cons_succ, List.setIfInBounds_toArray, List.set_cons_zero, List.set_cons_succ]
  refine wpAnyH_take (i := 6) (v := ?_) rfl (by kernel_rfl) (by kernel_rfl) (by kernel_rfl) (fun _ _ _ h => h) (Or.inl ⟨by rfl, ?_⟩) hHeld ?_
  rotate_left
  · (intro wq hSw; (try dsimp only at hSw); (try obtain s0 := hSw); (go_simp <;> with_reducible rfl))
  try simp only [Act.put, List.getElem_toArray, List.getElem_cons_zero, List.getElem_cons_succ, List.setIfInBounds_toArray, List.set_cons_zero, List.set_cons_succ]
  refine wpAnyH_ready (rs := [7]) (by kernel_rfl) (by simp) ?_
  refine AllReadyH.cons rfl (fun K hK => ?_) AllReadyH.nil
  go_simp
  obtain ⟨we, hwe⟩ : ∃ we, wd.setCell ⟨b2, 0, none⟩ (.slice none 0 0) = we := ⟨_, rfl⟩
  have HSe := hide (HSd.out.set2 (.slice none 0 0))
  rw [hwe] at HSe
  rw [hwe]
  clear hwe
  have z1e := HSe.out.bx.c1
  have z2e := HSe.out.bx.c2
  have z3e := HSe.out.bx.c3
  have y1e := frozen_of HSe.out.bx.h1 0
  have y2e := frozen_of HSe.out.bx.h2 0
  have y3e := frozen_of HSe.out.bx.h3 0
  have x2e := HSe.out.lg.cell 2 _ rfl
  have x3e := HSe.out.lg.cell 3 _ rfl
  have u2e := frozen_of HSe.out.lg 2
  have u3e := frozen_of HSe.out.lg 3
  have c0e := HSe.out.lg.cell 0 _ rfl
  have c1e := HSe.out.lg.cell 1 _ rfl
  refine hK.out _ _ z1e (fun hHeld => ?_)
  clear hK K
  try simp only [Act.put, List.getElem_toArray, List.getElem_cons_zero, List.getElem_cons_succ, List.setIfInBounds_toArray, List.set_cons_zero, List.set_cons_succ]
  refine wpAnyH_take (i := 8) (v := ?_) rfl (by kernel_rfl) (by kernel_rfl) (by kernel_rfl) (fun _ _ _ h => h) (Or.inl ⟨by rfl, ?_⟩) hHeld ?_
  rotate_left
  · (intro wq hSw; (try dsimp only at hSw); (try obtain s0 := hSw); (go_simp <;> with_reducible rfl))
  try simp only [Act.put, List.getElem_toArray, List.getElem_cons_zero, List.getElem_cons_succ, List.setIfInBounds_toArray, List.set_cons_zero, List.set_cons_succ]
  refine wpAnyH_take (i := 9) (v := ?_) rfl (by kernel_rfl) (by kernel_rfl) (by kernel_rfl) (fun _ _ _ h => h) (Or.inl ⟨by rfl, ?_⟩) hHeld ?_
  rotate_left
  · (intro wq hSw; (try dsimp only at hSw); (try obtain s0 := hSw); (go_simp <;> with_reducible rfl))
  try simp only [Act.put, List.getElem_toArray, List.getElem_cons_zero, List.getElem_cons_succ, List.setIfInBounds_toArray, List.set_cons_zero, List.set_cons_succ]
  refine wpAnyH_ready (rs := [10]) (by kernel_rfl) (by simp) ?_
  refine AllReadyH.cons rfl (fun K hK => ?_) AllReadyH.nil
  go_simp
  obtain ⟨wf, hwf⟩ : ∃ wf, we.setCell ⟨l, 2, none⟩ (.int .i64 0) = wf := ⟨_, rfl⟩
  have HSf := hide (HSe.out.setS0)
  rw [hwf] at HSf
  rw [hwf]
  clear hwf
  have z1f := HSf.out.bx.c1
  have z2f := HSf.out.bx.c2
  have z3f := HSf.out.bx.c3
  have y1f := frozen_of HSf.out.bx.h1 0
  have y2f := frozen_of HSf.out.bx.h2 0
  have y3f := frozen_of HSf.out.bx.h3 0
  have x2f := HSf.out.lg.cell 2 _ rfl
  have x3f := HSf.out.lg.cell 3 _ rfl
  have u2f := frozen_of HSf.out.lg 2
  have u3f := frozen_of HSf.out.lg 3
  have c0f := HSf.out.lg.cell 0 _ rfl
  have c1f := HSf.out.lg.cell 1 _ rfl
  refine hK.out _ _ z1f (fun hHeld => ?_)
  clear hK K
  try simp only [Act.put, List.getElem_toArray, List.getElem_cons_zero, List.getElem_cons_succ, List.setIfInBounds_toArray, List.set_cons_zero, List.set_cons_succ]
  refine wpAnyH_ready (rs := [11]) (by kernel_rfl) (by simp) ?_
  refine AllReadyH.cons rfl (fun K hK => ?_) AllReadyH.nil
  go_simp
  obtain ⟨wg, hwg⟩ : ∃ wg, wf.setCell ⟨b3, 0, none⟩ (.int .i64 111) = wg := ⟨_, rfl⟩
  have HSg := hide (HSf.out.set3 (.int .i64 111))
  rw [hwg] at HSg
  rw [hwg]
  clear hwg
  have z1g := HSg.out.bx.c1
  have z2g := HSg.out.bx.c2
  have z3g := HSg.out.bx.c3
  have y1g := frozen_of HSg.out.bx.h1 0
  have y2g := frozen_of HSg.out.bx.h2 0
  have y3g := frozen_of HSg.out.bx.h3 0
  have x2g := HSg.out.lg.cell 2 _ rfl
  have x3g := HSg.out.lg.cell 3 _ rfl
  have u2g := frozen_of HSg.out.lg 2
  have u3g := frozen_of HSg.out.lg 3
  have c0g := HSg.out.lg.cell 0 _ rfl
  have c1g := HSg.out.lg.cell 1 _ rfl
  refine hK.out _ _ z1g (fun hHeld => ?_)
  clear hK K
  try simp only [Act.put, List.getElem_toArray, List.getElem_cons_zero, List.getElem_cons_succ, List.setIfInBounds_toArray, List.set_cons_zero, List.set_cons_succ]
  refine wpAnyH_done (by kernel_rfl) ?_ _
  refine NoPanic.normal ?_
  go_upto_region 10 with fail
  obtain ⟨wh, hwh⟩ : ∃ wh, wg.setCell ⟨l, 3, none⟩ (.int .i64 0) = wh := ⟨_, rfl⟩
  have HSh := hide (HSg.out.setK0)
  rw [hwh] at HSh
  rw [hwh]
  clear hwh
  have z1h := HSh.out.bx.c1
  have z2h := HSh.out.bx.c2
  have z3h := HSh.out.bx.c3
  have y1h := frozen_of HSh.out.bx.h1 0
  have y2h := frozen_of HSh.out.bx.h2 0
  have y3h := frozen_of HSh.out.bx.h3 0
  have x2h := HSh.out.lg.cell 2 _ rfl
  have x3h := HSh.out.lg.cell 3 _ rfl
  have u2h := frozen_of HSh.out.lg 2
  have u3h := frozen_of HSh.out.lg 3
  have c0h := HSh.out.lg.cell 0 _ rfl
  have c1h := HSh.out.lg.cell 1 _ rfl
  go_upto_region 12 with fail
  obtain ⟨wk, hwk⟩ : ∃ wk, wh.drew = wk := ⟨_, rfl⟩
  have HSk := hide HSh.out.drew
  rw [hwk] at HSk
  have z1k := HSk.out.bx.c1
  have z2k := HSk.out.bx.c2
  have z3k := HSk.out.bx.c3
  have y1k := frozen_of HSk.out.bx.h1 0
  have y2k := frozen_of HSk.out.bx.h2 0
  have y3k := frozen_of HSk.out.bx.h3 0
  have x2k := HSk.out.lg.cell 2 _ rfl
  have x3k := HSk.out.lg.cell 3 _ rfl
  have u2k := frozen_of HSk.out.lg 2
  have u3k := frozen_of HSk.out.lg 3
  have c0k := HSk.out.lg.cell 0 _ rfl
  have c1k := HSk.out.lg.cell 1 _ rfl
  refine wp_region_noPanic ?_
  refine wp_region_held_drew (S := fun w' => w'.cell? ⟨b1, 0, none⟩ = some (.pointer (some ⟨l, 0, none⟩)) ∧ w'.cell? ⟨b2, 0, none⟩ = some (.slice none 0 0) ∧ w'.cell? ⟨b3, 0, none⟩ = some (.int .i64 111)) (by kernel_rfl) ?_ (fun hHeld => ?_)
  · rw [hwk]; exact ⟨z1k, z2k, z3k⟩
  rw [hwk] at hHeld ⊢
  clear hwk
  refine wpAnyH_take (i := 0) (v := ?_) rfl (by kernel_rfl) (by kernel_rfl) (by kernel_rfl) (fun _ _ _ h => h) (Or.inl ⟨by rfl, ?_⟩) hHeld ?_
  rotate_left
  · (intro wq hSw; (try dsimp only at hSw); (try obtain ⟨s0, s1, s2⟩ := hSw); (go_simp <;> with_reducible rfl))
  try simp only [Act.put, List.getElem_toArray, List.getElem_cons_zero, List.getElem_cons_succ, List.setIfInBounds_toArray, List.set_cons_zero, List.set_cons_succ]
  refine wpAnyH_take (i := 1) (v := ?_) rfl (by kernel_rfl) (by kernel_rfl) (by kernel_rfl) (fun _ _ _ h => h) (Or.inl ⟨by rfl, ?_⟩) hHeld ?_
  rotate_left
  · (intro wq hSw; (try dsimp only at hSw); (try obtain ⟨s0, s1, s2⟩ := hSw); (go_simp <;> with_reducible rfl))
  try simp only [Act.put, List.getElem_toArray, List.getElem_cons_zero, List.getElem_cons_succ, List.setIfInBounds_toArray, List.set_cons_zero, List.set_cons_succ]
  refine wpAnyH_take (i := 2) (v := ?_) rfl (by kernel_rfl) (by kernel_rfl) (by kernel_rfl) (fun _ _ _ h => h) (Or.inl ⟨by rfl, ?_⟩) hHeld ?_
  rotate_left
  · (intro wq hSw; (try dsimp only at hSw); (try obtain ⟨s0, s1, s2⟩ := hSw); (go_simp <;> with_reducible rfl))
  try simp only [Act.put, List.getElem_toArray, List.getElem_cons_zero, List.getElem_cons_succ, List.setIfInBounds_toArray, List.set_cons_zero, List.set_cons_succ]
  refine wpAnyH_ready (rs := [3]) (by kernel_rfl) (by simp) ?_
  refine AllReadyH.cons rfl (fun K hK => ?_) AllReadyH.nil
  go_simp
  obtain ⟨wm, hwm⟩ : ∃ wm, wk.setCell ⟨b1, 0, none⟩ (.pointer (some ⟨l, 0, none⟩)) = wm := ⟨_, rfl⟩
  have HSm := hide (HSk.out.set1 (.pointer (some ⟨l, 0, none⟩)))
  rw [hwm] at HSm
  rw [hwm]
  clear hwm
  have z1m := HSm.out.bx.c1
  have z2m := HSm.out.bx.c2
  have z3m := HSm.out.bx.c3
  have y1m := frozen_of HSm.out.bx.h1 0
  have y2m := frozen_of HSm.out.bx.h2 0
  have y3m := frozen_of HSm.out.bx.h3 0
  have x2m := HSm.out.lg.cell 2 _ rfl
  have x3m := HSm.out.lg.cell 3 _ rfl
  have u2m := frozen_of HSm.out.lg 2
  have u3m := frozen_of HSm.out.lg 3
  have c0m := HSm.out.lg.cell 0 _ rfl
  have c1m := HSm.out.lg.cell 1 _ rfl
  refine hK.out _ _ ⟨z1m, z2m, z3m⟩ (fun hHeld => ?_)
  clear hK K
  try simp only [Act.put, List.getElem_toArray, List.getElem_cons_zero, List.getElem_cons_succ, List.setIfInBounds_toArray, List.set_cons_zero, List.set_cons_succ]
  refine wpAnyH_ready (rs := [4]) (by kernel_rfl) (by simp) ?_
  refine AllReadyH.cons rfl (fun K hK => ?_) AllReadyH.nil
  go_simp
  obtain ⟨wn, hwn⟩ : ∃ wn, wm.setCell ⟨b2, 0, none⟩ (.slice none 0 0) = wn := ⟨_, rfl⟩
  have HSn := hide (HSm.out.set2 (.slice none 0 0))
  rw [hwn] at HSn
  rw [hwn]
  clear hwn
  have z1n := HSn.out.bx.c1
  have z2n := HSn.out.bx.c2
  have z3n := HSn.out.bx.c3
  have y1n := frozen_of HSn.out.bx.h1 0
  have y2n := frozen_of HSn.out.bx.h2 0
  have y3n := frozen_of HSn.out.bx.h3 0
  have x2n := HSn.out.lg.cell 2 _ rfl
  have x3n := HSn.out.lg.cell 3 _ rfl
  have u2n := frozen_of HSn.out.lg 2
  have u3n := frozen_of HSn.out.lg 3
  have c0n := HSn.out.lg.cell 0 _ rfl
  have c1n := HSn.out.lg.cell 1 _ rfl
  refine hK.out _ _ ⟨z1n, z2n, z3n⟩ (fun hHeld => ?_)
  clear hK K
  try simp only [Act.put, List.getElem_toArray, List.getElem_cons_zero, List.getElem_cons_succ, List.setIfInBounds_toArray, List.set_cons_zero, List.set_cons_succ]
  refine wpAnyH_ready (rs := [5]) (by kernel_rfl) (by simp) ?_
  refine AllReadyH.cons rfl (fun K hK => ?_) AllReadyH.nil
  go_simp
  obtain ⟨wo, hwo⟩ : ∃ wo, wn.setCell ⟨b3, 0, none⟩ (.int .i64 111) = wo := ⟨_, rfl⟩
  have HSo := hide (HSn.out.set3 (.int .i64 111))
  rw [hwo] at HSo
  rw [hwo]
  clear hwo
  have z1o := HSo.out.bx.c1
  have z2o := HSo.out.bx.c2
  have z3o := HSo.out.bx.c3
  have y1o := frozen_of HSo.out.bx.h1 0
  have y2o := frozen_of HSo.out.bx.h2 0
  have y3o := frozen_of HSo.out.bx.h3 0
  have x2o := HSo.out.lg.cell 2 _ rfl
  have x3o := HSo.out.lg.cell 3 _ rfl
  have u2o := frozen_of HSo.out.lg 2
  have u3o := frozen_of HSo.out.lg 3
  have c0o := HSo.out.lg.cell 0 _ rfl
  have c1o := HSo.out.lg.cell 1 _ rfl
  refine hK.out _ _ ⟨z1o, z2o, z3o⟩ (fun hHeld => ?_)
  clear hK K
  try simp only [Act.put, List.getElem_toArray, List.getElem_cons_zero, List.getElem_cons_succ, List.setIfInBounds_toArray, List.set_cons_zero, List.set_cons_succ]
  refine wpAnyH_done (by kernel_rfl) ?_ _
  refine NoPanic.normal ?_
  go_wp2_with fail
  refine leaves_cons (f := 45) (args := #[.pointer (some ⟨b3, 0, none⟩), .pointer (some ⟨b1, 0, none⟩), .pointer (some ⟨b2, 0, none⟩)]) (by simp) (by simp [go_sem]) ?_
  refine (openedC_bad b3 b1 b2 .returning _ HSo.out.bx).mono ?_
  rintro e u' w'' ⟨rfl, rfl, rfl⟩
  have HSp := (HSo.out.set1 (.pointer none)).set2 (.slice none 0 0)
  refine ⟨.tuple #[.pointer none, .slice none 0 0, .int .i64 111], results3 (by rfl) _ b1 b2 b3 rfl rfl rfl _ HSp.bx.c1 HSp.bx.c2 HSp.bx.c3, rfl, HSp.di, HSp.fx⟩

end Go.Proofs.YtpjinakhgfpafaaDoor

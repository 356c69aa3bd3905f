/- A log on a disk that is armed. -/
import Derived.Test.YtgmahgfelbkoeaaDoorJ11D
import Derived.Test.YtgmahgfelbkoeaaDoorJ4A
namespace Go.Proofs.YtgmahgfelbkoeaaDoor
open Go.RowKit
set_option linter.unusedVariables false
set_option linter.unusedSimpArgs false

section
variable {B : Nat} {d : Nat} {p : PS} {F : Nat → Prop}
theorem di_appendW (w : World) (h : Di B w d p F) (hoff : p.off = false) (hA : p.arms) (hwr : p.wr ≤ 1000000000) (nm : ByteArray) (hs : okN nm) (hc : p.con.has nm ∨ ((∀ y ∈ p.con, y.1 ≠ nm) ∧ p.con.length < 256)) (q : Option Addr) (n cb : Nat) (bs : List Nat) (hnb : n = bs.length) (hnc : n ≤ cb) (hp : q = none → cb = 0) (hb : IsBy w (.slice q n cb) bs) (hfb : ∀ k, (Value.slice q n cb).ownBlock = some k → ¬ F k) (hbb : ∀ n ∈ bs, n < 256) (hr : Con.tot p.con + bs.length ≤ p.room) :
    Calls Tryd.prog 42 #[.pointer (some ⟨d, 0, none⟩), .string nm, .slice q n cb] w fun e w' => e = .returned (.int .i64 p.code) ∧ ∃ F', Di B w' d (p.wrote (appF nm bs)) F' ∧ Fr w F w' F' := by
  obtain ⟨S, rfl, rfl, rfl, h⟩ := h
  have hc' : (∃ x ∈ S.L, x.nm = nm) ∨ ((∀ x ∈ S.L, x.nm ≠ nm) ∧ S.L.length < 256) := by
    rcases hc with ⟨y, hy, e⟩ | ⟨h1, h2⟩
    · obtain ⟨x, hx, rfl⟩ := List.mem_map.1 hy
      exact .inl ⟨x, hx, e⟩
    · exact .inr ⟨fun x hx => h1 _ (con_mem hx), by simpa [DS.ps] using h2⟩
  refine (append_any w h hoff hA hwr nm hs hc' q n cb bs hnb hnc hp hb hfb hbb (by rw [tot_con]; exact hr)).mono ?_
  rintro e w' ⟨rfl, S', e1, e2, e3, e4⟩
  exact ⟨rfl, Fp S', ⟨S', e1, e2, rfl, e3⟩, e4⟩

theorem di_syncW (w : World) (h : Di B w d p F) (hoff : p.off = false) (hA : p.arms) (hwr : p.wr ≤ 1000000000) (nm : ByteArray) (hs : okN nm) (hc : p.con.has nm) :
    Calls Tryd.prog 43 #[.pointer (some ⟨d, 0, none⟩), .string nm] w fun e w' => e = .returned (.int .i64 p.code) ∧ ∃ F', Di B w' d (p.wrote (syncF nm)) F' ∧ Fr w F w' F' := by
  obtain ⟨S, rfl, rfl, rfl, h⟩ := h
  obtain ⟨y, hy, rfl⟩ := hc
  obtain ⟨x, hx, rfl⟩ := List.mem_map.1 hy
  refine (syncW_any w h hoff hA hwr x hx hs).mono ?_
  rintro e w' ⟨rfl, S', e1, e2, e3, e4⟩
  exact ⟨rfl, Fp S', ⟨S', e1, e2, rfl, e3⟩, e4⟩

theorem di_cutW (w : World) (h : Di B w d p F) (hoff : p.off = false) (hA : p.arms) (hwr : p.wr ≤ 1000000000) (nm : ByteArray) (hs : okN nm) (bs : List Nat) (su : Nat) (hc : (nm, bs, su) ∈ p.con) (n : Nat) (hn : n ≤ bs.length) :
    Calls Tryd.prog 28 #[.pointer (some ⟨d, 0, none⟩), .string nm, .int .i64 (n : Int)] w fun e w' => e = .returned (.int .i64 p.code) ∧ ∃ F', Di B w' d (p.wrote (cutF nm n)) F' ∧ Fr w F w' F' := by
  obtain ⟨S, rfl, rfl, rfl, h⟩ := h
  obtain ⟨x, hx, rfl, rfl, rfl⟩ := fi_of hc
  refine (cutW_any w h hoff hA hwr x hx hs n hn).mono ?_
  rintro e w' ⟨rfl, S', e1, e2, e3, e4⟩
  exact ⟨rfl, Fp S', ⟨S', e1, e2, rfl, e3⟩, e4⟩

theorem di_arm (w : World) (h : Di B w d p F) (n x y : Int) : Calls Tryd.prog 12 #[.pointer (some ⟨d, 0, none⟩), .int .i64 n, .int .i64 x, .int .i64 y] w fun e w' => e = .returned (.tuple #[]) ∧ Di B w' d { p with ain := n.toNat, keep := x, lose := y } F ∧ Fr w F w' F := by
  obtain ⟨S, rfl, rfl, rfl, h⟩ := h
  refine (arm_any w h n x y).mono ?_
  rintro e w' ⟨rfl, e1, e2⟩
  exact ⟨rfl, ⟨{ S with ain := n.toNat, keep := x, lose := y }, rfl, rfl, rfl, e1⟩, e2⟩

theorem di_off (w : World) (h : Di B w d p F) : Calls Tryd.prog 14 #[.pointer (some ⟨d, 0, none⟩)] w fun e w' => e = .returned (.bool p.off) ∧ Di B w' d p F ∧ Fr w F w' F := by
  obtain ⟨S, rfl, rfl, rfl, h⟩ := h
  refine (off_any w h).mono ?_
  rintro e w' ⟨rfl, e1, e2⟩
  exact ⟨rfl, ⟨S, rfl, rfl, rfl, e1⟩, e2⟩

/-- What On leaves. -/
def PS.onned (p : PS) : PS := if p.off = true then { p with con := Con.each p.con sureF, off := false } else p

theorem di_on (w : World) (h : Di B w d p F) : Calls Tryd.prog 15 #[.pointer (some ⟨d, 0, none⟩)] w fun e w' => e = .returned (.tuple #[]) ∧ ∃ F', Di B w' d p.onned F' ∧ Fr w F w' F' := by
  obtain ⟨S, rfl, rfl, rfl, h⟩ := h
  by_cases ho : S.off = true
  · rw [show S.ps.onned = { S.ps with con := Con.each S.ps.con sureF, off := false } from if_pos ho]
    refine (on_off w h ho).mono ?_
    rintro e w' ⟨rfl, S', e1, e2, e3, e4⟩
    exact ⟨rfl, Fp S', ⟨S', e1, e2, rfl, e3⟩, e4⟩
  · rw [show S.ps.onned = S.ps from if_neg ho]
    refine (on_on w h (by simpa using ho)).mono ?_
    rintro e w' ⟨rfl, e1, e2⟩
    exact ⟨rfl, Fp S, ⟨S, rfl, rfl, rfl, e1⟩, e2⟩
end

theorem PS.arms_wrote {p : PS} (h : p.arms) (f : Int → Con → Con) : (p.wrote f).arms := by
  unfold PS.wrote
  split
  · exact ⟨Nat.zero_le _, ⟨by dsimp only; omega, by dsimp only; omega⟩, by dsimp only; omega, by dsimp only; omega⟩
  · exact ⟨by have := h.1; show p.ain - 1 ≤ _; omega, h.2.1, h.2.2⟩
theorem PS.wrote_more {p : PS} (h : p.ain ≠ 1) (f : Int → Con → Con) : p.wrote f = { p with con := f 9223372036854775807 p.con, ain := p.ain - 1, wr := p.wr + 1 } := if_neg h
theorem PS.wrote_torn {p : PS} (h : p.ain = 1) (f : Int → Con → Con) : p.wrote f = { p with con := Con.each (if 0 < p.keep then f p.keep p.con else p.con) (lostF p.lose), off := true, ain := 0, keep := 0, lose := 0, wr := p.wr + 1 } := if_pos h
theorem PS.code_more {p : PS} (h : p.ain ≠ 1) : p.code = 0 := if_neg h
theorem PS.code_torn {p : PS} (h : p.ain = 1) : p.code = 104 := if_pos h

set_option maxRecDepth 100000 in
set_option maxHeartbeats 1000000 in
/-- The first write of lay is torn. -/
theorem llay_t1 {B : Nat} {l d : Nat} {p : PS} {F : Nat → Prop} {nm : ByteArray} {sz ct : Nat} (w : World) (h : Di B w d p F) (hg : Lg w l d nm sz ct) (hl : ¬ F l) (hoff : p.off = false) (hA : p.arms) (hwr : p.wr ≤ 999999999) (hs : okN nm) (hc : p.con.has nm ∨ ((∀ y ∈ p.con, y.1 ≠ nm) ∧ p.con.length < 256)) (q : Option Addr) (n cb : Nat) (bs : List Nat) (hnb : n = bs.length) (hnc : n ≤ cb) (hp : q = none → cb = 0) (hb : IsBy w (.slice q n cb) bs) (hfb : ∀ k, (Value.slice q n cb).ownBlock = some k → ¬ F k) (hbb : ∀ n ∈ bs, n < 256) (hr : Con.tot p.con + bs.length ≤ p.room) (h1 : p.ain = 1) :
    Calls Tryd.prog 24 #[.pointer (some ⟨l, 0, none⟩), .slice q n cb] w fun e w' => e = .returned (.int .i64 104) ∧ ∃ F', Di B w' d (p.wrote (appF nm bs)) F' ∧ Fr w F w' F' := by
  have HA := hide (di_appendW w.drew h.drew hoff hA (by omega) nm hs hc q n cb bs hnb hnc hp (isBy_heap hb rfl) hfb hbb hr)
  rw [PS.code_torn h1] at HA
  have HG := hide hg
  have HL := hide hl
  have HLT := hide (heap_lt hg)
  have q1 : w.drew.cell? ⟨l, 0, none⟩ = some (.pointer (some ⟨d, 0, none⟩)) := hg.cell 0 _ rfl
  have q2 : w.drew.cell? ⟨l, 1, none⟩ = some (.string nm) := hg.cell 1 _ rfl
  clear h hg hl hs hc hnb hnc hp hb hfb hbb hr hoff hA h1
  go_enter Tryd.func24, Tryd.ntmps24
  go_upto_region 1 with fail
  refine wp_region_held_drew (S := fun w' => w'.cell? ⟨l, 0, none⟩ = some (.pointer (some ⟨d, 0, none⟩)) ∧ w'.cell? ⟨l, 1, none⟩ = some (.string nm)) (by kernel_rfl) ⟨q1, q2⟩ (fun hHeld => ?_)
  refine wpAnyH_take (i := 0) (v := ?_) rfl (by kernel_rfl) (by kernel_rfl) (by kernel_rfl) (fun _ _ _ h => h) (Or.inl ⟨by rfl, ?_⟩) hHeld ?_
  rotate_left
  · (intro wq hSw; (try dsimp only at hSw); (try obtain ⟨s0, s1⟩ := hSw); (go_simp <;> with_reducible rfl))
  try simp only [Act.put, List.getElem_toArray, List.getElem_cons_zero, List.getElem_cons_succ, List.setIfInBounds_toArray, List.set_cons_zero, List.set_cons_succ]
  refine wpAnyH_take (i := 1) (v := ?_) rfl (by kernel_rfl) (by kernel_rfl) (by kernel_rfl) (fun _ _ _ h => h) (Or.inl ⟨by rfl, ?_⟩) hHeld ?_
  rotate_left
  · (intro wq hSw; (try dsimp only at hSw); (try obtain ⟨s0, s1⟩ := hSw); (go_simp <;> with_reducible rfl))
  try simp only [Act.put, List.getElem_toArray, List.getElem_cons_zero, List.getElem_cons_succ, List.setIfInBounds_toArray, List.set_cons_zero, List.set_cons_succ]
  refine wpAnyH_take (i := 2) (v := ?_) rfl (by kernel_rfl) (by kernel_rfl) (by kernel_rfl) (fun _ _ _ h => h) (Or.inl ⟨by rfl, ?_⟩) hHeld ?_
  rotate_left
  · (intro wq hSw; (try dsimp only at hSw); (try obtain ⟨s0, s1⟩ := hSw); (go_simp <;> with_reducible rfl))
  try simp only [Act.put, List.getElem_toArray, List.getElem_cons_zero, List.getElem_cons_succ, List.setIfInBounds_toArray, List.set_cons_zero, List.set_cons_succ]
  refine wpAnyH_take (i := 3) (v := ?_) rfl (by kernel_rfl) (by kernel_rfl) (by kernel_rfl) (fun _ _ _ h => h) (Or.inl ⟨by rfl, ?_⟩) hHeld ?_
  rotate_left
  · (intro wq hSw; (try dsimp only at hSw); (try obtain ⟨s0, s1⟩ := hSw); (go_simp <;> with_reducible rfl))
  try simp only [Act.put, List.getElem_toArray, List.getElem_cons_zero, List.getElem_cons_succ, List.setIfInBounds_toArray, List.set_cons_zero, List.set_cons_succ]
  refine wpAnyH_take (i := 4) (v := ?_) rfl (by kernel_rfl) (by kernel_rfl) (by kernel_rfl) (fun _ _ _ h => h) (Or.inl ⟨by rfl, ?_⟩) hHeld ?_
  rotate_left
  · (intro wq hSw; (try dsimp only at hSw); (try obtain ⟨s0, s1⟩ := hSw); (go_simp <;> with_reducible rfl))
  try simp only [Act.put, List.getElem_toArray, List.getElem_cons_zero, List.getElem_cons_succ, List.setIfInBounds_toArray, List.set_cons_zero, List.set_cons_succ]
  refine wpAnyH_take (i := 5) (v := ?_) rfl (by kernel_rfl) (by kernel_rfl) (by kernel_rfl) (fun _ _ _ h => h) (Or.inl ⟨by rfl, ?_⟩) hHeld ?_
  rotate_left
  · (intro wq hSw; (try dsimp only at hSw); (try obtain ⟨s0, s1⟩ := hSw); (go_simp <;> with_reducible rfl))
  try simp only [Act.put, List.getElem_toArray, List.getElem_cons_zero, List.getElem_cons_succ, List.setIfInBounds_toArray, List.set_cons_zero, List.set_cons_succ]
  refine wpAnyH_take (i := 6) (v := ?_) rfl (by kernel_rfl) (by kernel_rfl) (by kernel_rfl) (fun _ _ _ h => h) (Or.inl ⟨by rfl, ?_⟩) hHeld ?_
  rotate_left
  · (intro wq hSw; (try dsimp only at hSw); (try obtain ⟨s0, s1⟩ := hSw); (go_simp <;> with_reducible rfl))
  try simp only [Act.put, List.getElem_toArray, List.getElem_cons_zero, List.getElem_cons_succ, List.setIfInBounds_toArray, List.set_cons_zero, List.set_cons_succ]
  refine wpAnyH_take (i := 7) (v := ?_) rfl (by kernel_rfl) (by kernel_rfl) (by kernel_rfl) (fun _ _ _ h => h) (Or.inl ⟨by rfl, ?_⟩) hHeld ?_
  rotate_left
  · (intro wq hSw; (try dsimp only at hSw); (try obtain ⟨s0, s1⟩ := hSw); (go_simp <;> with_reducible rfl))
  try simp only [Act.put, List.getElem_toArray, List.getElem_cons_zero, List.getElem_cons_succ, List.setIfInBounds_toArray, List.set_cons_zero, List.set_cons_succ]
  refine wpAnyH_take (i := 8) (v := ?_) rfl (by kernel_rfl) (by kernel_rfl) (by kernel_rfl) (fun _ _ _ h => h) (Or.inl ⟨by rfl, ?_⟩) hHeld ?_
  rotate_left
  · (intro wq hSw; (try dsimp only at hSw); (try obtain ⟨s0, s1⟩ := hSw); (go_simp <;> with_reducible rfl))
  try simp only [Act.put, List.getElem_toArray, List.getElem_cons_zero, List.getElem_cons_succ, List.setIfInBounds_toArray, List.set_cons_zero, List.set_cons_succ]
  refine wpAnyH_ready (rs := [9]) (by kernel_rfl) (by simp) ?_
  refine AllReadyH.cons rfl (fun K hK => ?_) AllReadyH.nil
  go_simp
  refine HA.out.mono ?_
  rintro _ w1 ⟨rfl, F1, hD1, hF1⟩
  have H1 : Hid (Di B w1 d (p.wrote (appF nm bs)) F1 ∧ Fr w F w1 F1) := ⟨hD1, hF1.drew⟩
  clear hD1 hF1
  have HG1 : Hid (Lg w1 l d nm sz ct ∧ ¬ F1 l) := ⟨HG.out.fr H1.out.2 HL.out, (H1.out.2.block l HLT.out HL.out).1⟩
  have r1 : w1.cell? ⟨l, 0, none⟩ = some (.pointer (some ⟨d, 0, none⟩)) := HG1.out.1.cell 0 _ rfl
  have r2 : w1.cell? ⟨l, 1, none⟩ = some (.string nm) := HG1.out.1.cell 1 _ rfl
  have t1 : w1.drew.cell? ⟨l, 0, none⟩ = some (.pointer (some ⟨d, 0, none⟩)) := r1
  have t2 : w1.drew.cell? ⟨l, 1, none⟩ = some (.string nm) := r2
  refine hK.out _ _ ⟨r1, r2⟩ (fun hHeld => ?_)
  clear hK K
  try simp only [Act.put, List.getElem_toArray, List.getElem_cons_zero, List.getElem_cons_succ, List.setIfInBounds_toArray, List.set_cons_zero, List.set_cons_succ]
  refine wpAnyH_take (i := 10) (v := ?_) rfl (by kernel_rfl) (by kernel_rfl) (by kernel_rfl) (fun _ _ _ h => h) (Or.inl ⟨by rfl, ?_⟩) hHeld ?_
  rotate_left
  · (intro wq hSw; (try dsimp only at hSw); (try obtain ⟨s0, s1⟩ := hSw); (go_simp <;> with_reducible rfl))
  try simp only [Act.put, List.getElem_toArray, List.getElem_cons_zero, List.getElem_cons_succ, List.setIfInBounds_toArray, List.set_cons_zero, List.set_cons_succ]
  refine wpAnyH_done (by kernel_rfl) ?_ _
  go_wp2_with fail
  go_ret
  exact ⟨rfl, F1, H1.out⟩

set_option maxRecDepth 100000 in
set_option maxHeartbeats 1000000 in
/-- The first write of lay is not torn. -/
theorem llay_t2 {B : Nat} {l d : Nat} {p : PS} {F : Nat → Prop} {nm : ByteArray} {sz ct : Nat} (w : World) (h : Di B w d p F) (hg : Lg w l d nm sz ct) (hl : ¬ F l) (hoff : p.off = false) (hA : p.arms) (hwr : p.wr ≤ 999999999) (hs : okN nm) (hc : p.con.has nm ∨ ((∀ y ∈ p.con, y.1 ≠ nm) ∧ p.con.length < 256)) (q : Option Addr) (n cb : Nat) (bs : List Nat) (hnb : n = bs.length) (hnc : n ≤ cb) (hp : q = none → cb = 0) (hb : IsBy w (.slice q n cb) bs) (hfb : ∀ k, (Value.slice q n cb).ownBlock = some k → ¬ F k) (hbb : ∀ n ∈ bs, n < 256) (hr : Con.tot p.con + bs.length ≤ p.room) (h1 : p.ain ≠ 1) :
    Calls Tryd.prog 24 #[.pointer (some ⟨l, 0, none⟩), .slice q n cb] w fun e w' => e = .returned (.int .i64 (p.wrote (appF nm bs)).code) ∧ ∃ F', Di B w' d ((p.wrote (appF nm bs)).wrote (syncF nm)) F' ∧ Fr w F w' F' := by
  have HA := hide (di_appendW w.drew h.drew hoff hA (by omega) nm hs hc q n cb bs hnb hnc hp (isBy_heap hb rfl) hfb hbb hr)
  rw [PS.code_more h1] at HA
  have e1 := PS.wrote_more h1 (appF nm bs)
  have HS : Hid (∀ w1 F1, Di B w1 d (p.wrote (appF nm bs)) F1 → Calls Tryd.prog 43 #[.pointer (some ⟨d, 0, none⟩), .string nm] w1.drew _) := fun w1 F1 h1 => di_syncW w1.drew h1.drew (by rw [e1]; exact hoff) (PS.arms_wrote hA _) (by rw [e1]; show p.wr + 1 ≤ 1000000000; omega) nm hs (by rw [e1]; exact Con.app_has _ _ _)
  have HG := hide hg
  have HL := hide hl
  have HLT := hide (heap_lt hg)
  have q1 : w.drew.cell? ⟨l, 0, none⟩ = some (.pointer (some ⟨d, 0, none⟩)) := hg.cell 0 _ rfl
  have q2 : w.drew.cell? ⟨l, 1, none⟩ = some (.string nm) := hg.cell 1 _ rfl
  obtain ⟨cd, hcd⟩ : ∃ cd, (p.wrote (appF nm bs)).code = cd := ⟨_, rfl⟩
  rw [hcd] at HS ⊢
  clear h hg hl hs hc hnb hnc hp hb hfb hbb hr hoff hA h1 e1 hcd
  go_enter Tryd.func24, Tryd.ntmps24
  go_upto_region 1 with fail
  refine wp_region_held_drew (S := fun w' => w'.cell? ⟨l, 0, none⟩ = some (.pointer (some ⟨d, 0, none⟩)) ∧ w'.cell? ⟨l, 1, none⟩ = some (.string nm)) (by kernel_rfl) ⟨q1, q2⟩ (fun hHeld => ?_)
  refine wpAnyH_take (i := 0) (v := ?_) rfl (by kernel_rfl) (by kernel_rfl) (by kernel_rfl) (fun _ _ _ h => h) (Or.inl ⟨by rfl, ?_⟩) hHeld ?_
  rotate_left
  · (intro wq hSw; (try dsimp only at hSw); (try obtain ⟨s0, s1⟩ := hSw); (go_simp <;> with_reducible rfl))
  try simp only [Act.put, List.getElem_toArray, List.getElem_cons_zero, List.getElem_cons_succ, List.setIfInBounds_toArray, List.set_cons_zero, List.set_cons_succ]
  refine wpAnyH_take (i := 1) (v := ?_) rfl (by kernel_rfl) (by kernel_rfl) (by kernel_rfl) (fun _ _ _ h => h) (Or.inl ⟨by rfl, ?_⟩) hHeld ?_
  rotate_left
  · (intro wq hSw; (try dsimp only at hSw); (try obtain ⟨s0, s1⟩ := hSw); (go_simp <;> with_reducible rfl))
  try simp only [Act.put, List.getElem_toArray, List.getElem_cons_zero, List.getElem_cons_succ, List.setIfInBounds_toArray, List.set_cons_zero, List.set_cons_succ]
  refine wpAnyH_take (i := 2) (v := ?_) rfl (by kernel_rfl) (by kernel_rfl) (by kernel_rfl) (fun _ _ _ h => h) (Or.inl ⟨by rfl, ?_⟩) hHeld ?_
  rotate_left
  · (intro wq hSw; (try dsimp only at hSw); (try obtain ⟨s0, s1⟩ := hSw); (go_simp <;> with_reducible rfl))
  try simp only [Act.put, List.getElem_toArray, List.getElem_cons_zero, List.getElem_cons_succ, List.setIfInBounds_toArray, List.set_cons_zero, List.set_cons_succ]
  refine wpAnyH_take (i := 3) (v := ?_) rfl (by kernel_rfl) (by kernel_rfl) (by kernel_rfl) (fun _ _ _ h => h) (Or.inl ⟨by rfl, ?_⟩) hHeld ?_
  rotate_left
  · (intro wq hSw; (try dsimp only at hSw); (try obtain ⟨s0, s1⟩ := hSw); (go_simp <;> with_reducible rfl))
  try simp only [Act.put, List.getElem_toArray, List.getElem_cons_zero, List.getElem_cons_succ, List.setIfInBounds_toArray, List.set_cons_zero, List.set_cons_succ]
  refine wpAnyH_take (i := 4) (v := ?_) rfl (by kernel_rfl) (by kernel_rfl) (by kernel_rfl) (fun _ _ _ h => h) (Or.inl ⟨by rfl, ?_⟩) hHeld ?_
  rotate_left
  · (intro wq hSw; (try dsimp only at hSw); (try obtain ⟨s0, s1⟩ := hSw); (go_simp <;> with_reducible rfl))
  try simp only [Act.put, List.getElem_toArray, List.getElem_cons_zero, List.getElem_cons_succ, List.setIfInBounds_toArray, List.set_cons_zero, List.set_cons_succ]
  refine wpAnyH_take (i := 5) (v := ?_) rfl (by kernel_rfl) (by kernel_rfl) (by kernel_rfl) (fun _ _ _ h => h) (Or.inl ⟨by rfl, ?_⟩) hHeld ?_
  rotate_left
  · (intro wq hSw; (try dsimp only at hSw); (try obtain ⟨s0, s1⟩ := hSw); (go_simp <;> with_reducible rfl))
  try simp only [Act.put, List.getElem_toArray, List.getElem_cons_zero, List.getElem_cons_succ, List.setIfInBounds_toArray, List.set_cons_zero, List.set_cons_succ]
  refine wpAnyH_take (i := 6) (v := ?_) rfl (by kernel_rfl) (by kernel_rfl) (by kernel_rfl) (fun _ _ _ h => h) (Or.inl ⟨by rfl, ?_⟩) hHeld ?_
  rotate_left
  · (intro wq hSw; (try dsimp only at hSw); (try obtain ⟨s0, s1⟩ := hSw); (go_simp <;> with_reducible rfl))
  try simp only [Act.put, List.getElem_toArray, List.getElem_cons_zero, List.getElem_cons_succ, List.setIfInBounds_toArray, List.set_cons_zero, List.set_cons_succ]
  refine wpAnyH_take (i := 7) (v := ?_) rfl (by kernel_rfl) (by kernel_rfl) (by kernel_rfl) (fun _ _ _ h => h) (Or.inl ⟨by rfl, ?_⟩) hHeld ?_
  rotate_left
  · (intro wq hSw; (try dsimp only at hSw); (try obtain ⟨s0, s1⟩ := hSw); (go_simp <;> with_reducible rfl))
  try simp only [Act.put, List.getElem_toArray, List.getElem_cons_zero, List.getElem_cons_succ, List.setIfInBounds_toArray, List.set_cons_zero, List.set_cons_succ]
  refine wpAnyH_take (i := 8) (v := ?_) rfl (by kernel_rfl) (by kernel_rfl) (by kernel_rfl) (fun _ _ _ h => h) (Or.inl ⟨by rfl, ?_⟩) hHeld ?_
  rotate_left
  · (intro wq hSw; (try dsimp only at hSw); (try obtain ⟨s0, s1⟩ := hSw); (go_simp <;> with_reducible rfl))
  try simp only [Act.put, List.getElem_toArray, List.getElem_cons_zero, List.getElem_cons_succ, List.setIfInBounds_toArray, List.set_cons_zero, List.set_cons_succ]
  refine wpAnyH_ready (rs := [9]) (by kernel_rfl) (by simp) ?_
  refine AllReadyH.cons rfl (fun K hK => ?_) AllReadyH.nil
  go_simp
  refine HA.out.mono ?_
  rintro _ w1 ⟨rfl, F1, hD1, hF1⟩
  have H1 : Hid (Di B w1 d (p.wrote (appF nm bs)) F1 ∧ Fr w F w1 F1) := ⟨hD1, hF1.drew⟩
  clear hD1 hF1
  have HG1 : Hid (Lg w1 l d nm sz ct ∧ ¬ F1 l) := ⟨HG.out.fr H1.out.2 HL.out, (H1.out.2.block l HLT.out HL.out).1⟩
  have r1 : w1.cell? ⟨l, 0, none⟩ = some (.pointer (some ⟨d, 0, none⟩)) := HG1.out.1.cell 0 _ rfl
  have r2 : w1.cell? ⟨l, 1, none⟩ = some (.string nm) := HG1.out.1.cell 1 _ rfl
  have t1 : w1.drew.cell? ⟨l, 0, none⟩ = some (.pointer (some ⟨d, 0, none⟩)) := r1
  have t2 : w1.drew.cell? ⟨l, 1, none⟩ = some (.string nm) := r2
  refine hK.out _ _ ⟨r1, r2⟩ (fun hHeld => ?_)
  clear hK K
  try simp only [Act.put, List.getElem_toArray, List.getElem_cons_zero, List.getElem_cons_succ, List.setIfInBounds_toArray, List.set_cons_zero, List.set_cons_succ]
  refine wpAnyH_take (i := 10) (v := ?_) rfl (by kernel_rfl) (by kernel_rfl) (by kernel_rfl) (fun _ _ _ h => h) (Or.inl ⟨by rfl, ?_⟩) hHeld ?_
  rotate_left
  · (intro wq hSw; (try dsimp only at hSw); (try obtain ⟨s0, s1⟩ := hSw); (go_simp <;> with_reducible rfl))
  try simp only [Act.put, List.getElem_toArray, List.getElem_cons_zero, List.getElem_cons_succ, List.setIfInBounds_toArray, List.set_cons_zero, List.set_cons_succ]
  refine wpAnyH_done (by kernel_rfl) ?_ _
  go_upto_region 4 with fail
  refine wp_region_held_drew (S := fun w' => w'.cell? ⟨l, 0, none⟩ = some (.pointer (some ⟨d, 0, none⟩)) ∧ w'.cell? ⟨l, 1, none⟩ = some (.string nm)) (by kernel_rfl) ⟨t1, t2⟩ (fun hHeld => ?_)
  refine wpAnyH_take (i := 0) (v := ?_) rfl (by kernel_rfl) (by kernel_rfl) (by kernel_rfl) (fun _ _ _ h => h) (Or.inl ⟨by rfl, ?_⟩) hHeld ?_
  rotate_left
  · (intro wq hSw; (try dsimp only at hSw); (try obtain ⟨s0, s1⟩ := hSw); (go_simp <;> with_reducible rfl))
  try simp only [Act.put, List.getElem_toArray, List.getElem_cons_zero, List.getElem_cons_succ, List.setIfInBounds_toArray, List.set_cons_zero, List.set_cons_succ]
  refine wpAnyH_take (i := 1) (v := ?_) rfl (by kernel_rfl) (by kernel_rfl) (by kernel_rfl) (fun _ _ _ h => h) (Or.inl ⟨by rfl, ?_⟩) hHeld ?_
  rotate_left
  · (intro wq hSw; (try dsimp only at hSw); (try obtain ⟨s0, s1⟩ := hSw); (go_simp <;> with_reducible rfl))
  try simp only [Act.put, List.getElem_toArray, List.getElem_cons_zero, List.getElem_cons_succ, List.setIfInBounds_toArray, List.set_cons_zero, List.set_cons_succ]
  refine wpAnyH_take (i := 2) (v := ?_) rfl (by kernel_rfl) (by kernel_rfl) (by kernel_rfl) (fun _ _ _ h => h) (Or.inl ⟨by rfl, ?_⟩) hHeld ?_
  rotate_left
  · (intro wq hSw; (try dsimp only at hSw); (try obtain ⟨s0, s1⟩ := hSw); (go_simp <;> with_reducible rfl))
  try simp only [Act.put, List.getElem_toArray, List.getElem_cons_zero, List.getElem_cons_succ, List.setIfInBounds_toArray, List.set_cons_zero, List.set_cons_succ]
  refine wpAnyH_take (i := 3) (v := ?_) rfl (by kernel_rfl) (by kernel_rfl) (by kernel_rfl) (fun _ _ _ h => h) (Or.inl ⟨by rfl, ?_⟩) hHeld ?_
  rotate_left
  · (intro wq hSw; (try dsimp only at hSw); (try obtain ⟨s0, s1⟩ := hSw); (go_simp <;> with_reducible rfl))
  try simp only [Act.put, List.getElem_toArray, List.getElem_cons_zero, List.getElem_cons_succ, List.setIfInBounds_toArray, List.set_cons_zero, List.set_cons_succ]
  refine wpAnyH_take (i := 4) (v := ?_) rfl (by kernel_rfl) (by kernel_rfl) (by kernel_rfl) (fun _ _ _ h => h) (Or.inl ⟨by rfl, ?_⟩) hHeld ?_
  rotate_left
  · (intro wq hSw; (try dsimp only at hSw); (try obtain ⟨s0, s1⟩ := hSw); (go_simp <;> with_reducible rfl))
  try simp only [Act.put, List.getElem_toArray, List.getElem_cons_zero, List.getElem_cons_succ, List.setIfInBounds_toArray, List.set_cons_zero, List.set_cons_succ]
  refine wpAnyH_take (i := 5) (v := ?_) rfl (by kernel_rfl) (by kernel_rfl) (by kernel_rfl) (fun _ _ _ h => h) (Or.inl ⟨by rfl, ?_⟩) hHeld ?_
  rotate_left
  · (intro wq hSw; (try dsimp only at hSw); (try obtain ⟨s0, s1⟩ := hSw); (go_simp <;> with_reducible rfl))
  try simp only [Act.put, List.getElem_toArray, List.getElem_cons_zero, List.getElem_cons_succ, List.setIfInBounds_toArray, List.set_cons_zero, List.set_cons_succ]
  refine wpAnyH_take (i := 6) (v := ?_) rfl (by kernel_rfl) (by kernel_rfl) (by kernel_rfl) (fun _ _ _ h => h) (Or.inl ⟨by rfl, ?_⟩) hHeld ?_
  rotate_left
  · (intro wq hSw; (try dsimp only at hSw); (try obtain ⟨s0, s1⟩ := hSw); (go_simp <;> with_reducible rfl))
  try simp only [Act.put, List.getElem_toArray, List.getElem_cons_zero, List.getElem_cons_succ, List.setIfInBounds_toArray, List.set_cons_zero, List.set_cons_succ]
  refine wpAnyH_take (i := 7) (v := ?_) rfl (by kernel_rfl) (by kernel_rfl) (by kernel_rfl) (fun _ _ _ h => h) (Or.inl ⟨by rfl, ?_⟩) hHeld ?_
  rotate_left
  · (intro wq hSw; (try dsimp only at hSw); (try obtain ⟨s0, s1⟩ := hSw); (go_simp <;> with_reducible rfl))
  try simp only [Act.put, List.getElem_toArray, List.getElem_cons_zero, List.getElem_cons_succ, List.setIfInBounds_toArray, List.set_cons_zero, List.set_cons_succ]
  refine wpAnyH_ready (rs := [8]) (by kernel_rfl) (by simp) ?_
  refine AllReadyH.cons rfl (fun K hK => ?_) AllReadyH.nil
  go_simp
  refine (HS.out w1 F1 H1.out.1).mono ?_
  rintro _ w2 ⟨rfl, F2, hD2, hF2⟩
  have H2 : Hid (Di B w2 d ((p.wrote (appF nm bs)).wrote (syncF nm)) F2 ∧ Fr w F w2 F2) := ⟨hD2, H1.out.2.trans hF2.drew⟩
  have HG2 : Hid (Lg w2 l d nm sz ct) := HG1.out.1.fr hF2.drew HG1.out.2
  clear hD2 hF2
  have u1 : w2.cell? ⟨l, 0, none⟩ = some (.pointer (some ⟨d, 0, none⟩)) := HG2.out.cell 0 _ rfl
  have u2 : w2.cell? ⟨l, 1, none⟩ = some (.string nm) := HG2.out.cell 1 _ rfl
  refine hK.out _ _ ⟨u1, u2⟩ (fun hHeld => ?_)
  clear hK K
  try simp only [Act.put, List.getElem_toArray, List.getElem_cons_zero, List.getElem_cons_succ, List.setIfInBounds_toArray, List.set_cons_zero, List.set_cons_succ]
  refine wpAnyH_take (i := 9) (v := ?_) rfl (by kernel_rfl) (by kernel_rfl) (by kernel_rfl) (fun _ _ _ h => h) (Or.inl ⟨by rfl, ?_⟩) hHeld ?_
  rotate_left
  · (intro wq hSw; (try dsimp only at hSw); (try obtain ⟨s0, s1⟩ := hSw); (go_simp <;> with_reducible rfl))
  try simp only [Act.put, List.getElem_toArray, List.getElem_cons_zero, List.getElem_cons_succ, List.setIfInBounds_toArray, List.set_cons_zero, List.set_cons_succ]
  refine wpAnyH_done (by kernel_rfl) ?_ _
  go_wp2_with fail
  go_ret
  exact ⟨rfl, F2, H2.out⟩

/-- What lay leaves where one of its writes is torn. -/
def PS.laidT (p : PS) (nm : ByteArray) (bs : List Nat) : PS := if p.ain = 1 then p.wrote (appF nm bs) else (p.wrote (appF nm bs)).wrote (syncF nm)

theorem llay_torn {B : Nat} {l d : Nat} {p : PS} {F : Nat → Prop} {nm : ByteArray} {sz ct : Nat} (w : World) (h : Di B w d p F) (hg : Lg w l d nm sz ct) (hl : ¬ F l) (hoff : p.off = false) (hA : p.arms) (hwr : p.wr ≤ 999999999) (hs : okN nm) (hc : p.con.has nm ∨ ((∀ y ∈ p.con, y.1 ≠ nm) ∧ p.con.length < 256)) (q : Option Addr) (n cb : Nat) (bs : List Nat) (hnb : n = bs.length) (hnc : n ≤ cb) (hp : q = none → cb = 0) (hb : IsBy w (.slice q n cb) bs) (hfb : ∀ k, (Value.slice q n cb).ownBlock = some k → ¬ F k) (hbb : ∀ n ∈ bs, n < 256) (hr : Con.tot p.con + bs.length ≤ p.room) (h1 : p.ain = 1 ∨ p.ain = 2) :
    Calls Tryd.prog 24 #[.pointer (some ⟨l, 0, none⟩), .slice q n cb] w fun e w' => e = .returned (.int .i64 104) ∧ ∃ F', Di B w' d (p.laidT nm bs) F' ∧ Fr w F w' F' := by
  by_cases e : p.ain = 1
  · rw [show p.laidT nm bs = _ from if_pos e]
    exact llay_t1 w h hg hl hoff hA hwr hs hc q n cb bs hnb hnc hp hb hfb hbb hr e
  · rw [show p.laidT nm bs = _ from if_neg e]
    have e2 : (p.wrote (appF nm bs)).code = 104 := by
      rw [PS.wrote_more e]; exact PS.code_torn (by show p.ain - 1 = 1; omega)
    have := llay_t2 w h hg hl hoff hA hwr hs hc q n cb bs hnb hnc hp hb hfb hbb hr e
    rw [e2] at this
    exact this

/-- A log that writes no more. -/
def LgO (w : World) (l d : Nat) (nm : ByteArray) (sz ct : Nat) : Prop := w.heap[l]? = some (.cells #[.pointer (some ⟨d, 0, none⟩), .string nm, .int .i64 (sz : Int), .int .i64 (ct : Int), .bool true] 64 (0, 0))

theorem LgO.cell4 {w : World} {l d : Nat} {nm : ByteArray} {sz ct : Nat} (h : LgO w l d nm sz ct) : w.cell? ⟨l, 4, none⟩ = some (.bool true) := by
  rw [cell_of_row w l 4 _ _ (0, 0) h]; rfl
theorem LgO.fr {w w' : World} {F F' : Nat → Prop} {l d : Nat} {nm : ByteArray} {sz ct : Nat} (h : LgO w l d nm sz ct) (hf : Fr w F w' F') (hn : ¬ F l) : LgO w' l d nm sz ct := (hf.block l (heap_lt h) hn).2.trans h
theorem Lg.off {w : World} {l d : Nat} {nm : ByteArray} {sz ct : Nat} (h : Lg w l d nm sz ct) : LgO (w.setCell ⟨l, 4, none⟩ (.bool true)) l d nm sz ct := by
  unfold LgO; rw [heap_set_at h]; rfl

set_option maxRecDepth 100000 in
theorem lend_any {l d : Nat} {nm : ByteArray} {sz ct : Nat} (w : World) (hg : Lg w l d nm sz ct) (e0 : Int) : Calls Tryd.prog 25 #[.pointer (some ⟨l, 0, none⟩), .int .i64 e0] w fun e w' => e = .returned (.int .i64 e0) ∧ w' = w.setCell ⟨l, 4, none⟩ (.bool true) := by
  have c4 := hg.cell 4 (.bool false) rfl
  have f4 := frozen_of hg 4
  clear hg
  go_enter Tryd.func25, Tryd.ntmps25
  go_wp2_with fail
  go_ret
  exact ⟨rfl, rfl⟩

set_option maxRecDepth 100000 in
theorem lappend_offed (l : Nat) (w : World) (c4 : w.cell? ⟨l, 4, none⟩ = some (.bool true)) (v : Value) : Calls Tryd.prog 11 #[.pointer (some ⟨l, 0, none⟩), v] w fun e w' => e = .returned (.int .i64 112) ∧ w' = w := by
  go_enter Tryd.func11, Tryd.ntmps11
  go_wp2_with fail
  go_ret
  exact ⟨rfl, rfl⟩

set_option maxRecDepth 100000 in
theorem lclear_offed (l : Nat) (w : World) (c4 : w.cell? ⟨l, 4, none⟩ = some (.bool true)) : Calls Tryd.prog 13 #[.pointer (some ⟨l, 0, none⟩)] w fun e w' => e = .returned (.int .i64 112) ∧ w' = w := by
  go_enter Tryd.func13, Tryd.ntmps13
  go_wp2_with fail
  go_ret
  exact ⟨rfl, rfl⟩

end Go.Proofs.YtgmahgfelbkoeaaDoor

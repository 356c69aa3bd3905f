/- A disk as plain data; what a log does with it. -/
import Derived.Test.YtpjinakhgfpafaaDoorJ2E
namespace Go.Proofs.YtpjinakhgfpafaaDoor
open Go.RowKit
set_option linter.unusedVariables false
set_option linter.unusedSimpArgs false

/-- A disk, as plain data and the blocks that are its own. -/
def Di (B : Nat) (w : World) (d : Nat) (p : PS) (F : Nat → Prop) : Prop := ∃ S : DS, S.d = d ∧ S.ps = p ∧ F = Fp S ∧ Dk B w 0 S

theorem Di.lt {B : Nat} {w : World} {d : Nat} {p : PS} {F : Nat → Prop} (h : Di B w d p F) : ∀ k, F k → k < w.heap.size := by
  obtain ⟨S, _, _, rfl, h⟩ := h; exact h.fpLt
theorem Di.ge {B : Nat} {w : World} {d : Nat} {p : PS} {F : Nat → Prop} (h : Di B w d p F) : ∀ k, F k → B ≤ k := by
  obtain ⟨S, _, _, rfl, h⟩ := h; exact h.fpB
theorem Di.keep {B : Nat} {w w' : World} {d : Nat} {p : PS} {F : Nat → Prop} (h : Di B w d p F) (hk : ∀ k, F k → w'.heap[k]? = w.heap[k]?) : Di B w' d p F := by
  obtain ⟨S, h1, h2, rfl, h⟩ := h; exact ⟨S, h1, h2, rfl, h.keep hk⟩
theorem Di.below {B : Nat} {w w' : World} {d : Nat} {p : PS} {F : Nat → Prop} (h : Di B w d p F) (hb : Below w.heap.size w w') : Di B w' d p F := h.keep fun k hk => hb.block k (h.lt k hk)
theorem Di.drew {B : Nat} {w : World} {d : Nat} {p : PS} {F : Nat → Prop} (h : Di B w d p F) : Di B w.drew d p F := h.keep fun _ _ => rfl
theorem Di.rm {B : Nat} {w : World} {d : Nat} {p : PS} {F : Nat → Prop} (h : Di B w d p F) : Con.tot p.con ≤ p.room ∧ p.room ≤ 268435456 ∧ (p.con.map (·.1)).Nodup := by
  obtain ⟨S, _, rfl, _, h⟩ := h; have := h.rm; rw [tot_con] at this; exact ⟨this.1, this.2, con_nodup h⟩

theorem fi_of {S : DS} {nm : ByteArray} {bs : List Nat} {su : Nat} (h : (nm, bs, su) ∈ S.ps.con) : ∃ x ∈ S.L, x.nm = nm ∧ x.bs = bs ∧ x.su = su := by
  obtain ⟨x, hx, e⟩ := List.mem_map.1 h
  simp [Fi.con] at e
  exact ⟨x, hx, e.1, e.2.1, e.2.2⟩

theorem di_append {B : Nat} {d : Nat} {p : PS} {F : Nat → Prop} (w : World) (h : Di B w d p F) (hoff : p.off = false) (harm : p.ain = 0) (hwr : p.wr ≤ 1000000000) (nm : ByteArray) (hs : okN nm) (hc : p.con.has nm ∨ ((∀ y ∈ p.con, y.1 ≠ nm) ∧ p.con.length < 256)) (q : Option Addr) (n cb : Nat) (bs : List Nat) (hnb : n = bs.length) (hnc : n ≤ cb) (hp : q = none → cb = 0) (hb : IsBy w (.slice q n cb) bs) (hfb : ∀ k, (Value.slice q n cb).ownBlock = some k → ¬ F k) (hbb : ∀ n ∈ bs, n < 256) (hr : Con.tot p.con + bs.length ≤ p.room) :
    Calls Tryd.prog 28 #[.pointer (some ⟨d, 0, none⟩), .string nm, .slice q n cb] w fun e w' => e = .returned (.int .i64 0) ∧ ∃ F', Di B w' d { p with con := Con.app p.con nm bs, wr := p.wr + 1 } F' ∧ Fr w F w' F' := by
  obtain ⟨S, rfl, rfl, rfl, h⟩ := h
  have hc' : (∃ x ∈ S.L, x.nm = nm) ∨ ((∀ x ∈ S.L, x.nm ≠ nm) ∧ S.L.length < 256) := by
    rcases hc with ⟨y, hy, e⟩ | ⟨h1, h2⟩
    · obtain ⟨x, hx, rfl⟩ := List.mem_map.1 hy
      exact .inl ⟨x, hx, e⟩
    · exact .inr ⟨fun x hx => h1 _ (con_mem hx), by simpa [DS.ps] using h2⟩
  refine (append_ok w h hoff harm hwr nm hs hc' q n cb bs hnb hnc hp hb hfb hbb (by rw [tot_con]; exact hr)).mono ?_
  rintro e w' ⟨rfl, S', e1, e2, e3, e4⟩
  exact ⟨rfl, Fp S', ⟨S', e1, e2, rfl, e3⟩, e4⟩

theorem di_sync {B : Nat} {d : Nat} {p : PS} {F : Nat → Prop} (w : World) (h : Di B w d p F) (hoff : p.off = false) (harm : p.ain = 0) (hwr : p.wr ≤ 1000000000) (nm : ByteArray) (hs : okN nm) (hc : p.con.has nm) :
    Calls Tryd.prog 53 #[.pointer (some ⟨d, 0, none⟩), .string nm] w fun e w' => e = .returned (.int .i64 0) ∧ ∃ F', Di B w' d { p with con := Con.upd p.con nm (fun q => (q.1, q.1.length)), wr := p.wr + 1 } F' ∧ Fr w F w' F' := by
  obtain ⟨S, rfl, rfl, rfl, h⟩ := h
  obtain ⟨y, hy, rfl⟩ := hc
  obtain ⟨x, hx, rfl⟩ := List.mem_map.1 hy
  refine (sync_ok w h hoff harm hwr x hx hs).mono ?_
  rintro e w' ⟨rfl, S', e1, e2, e3, e4⟩
  exact ⟨rfl, Fp S', ⟨S', e1, e2, rfl, e3⟩, e4⟩

theorem di_cut {B : Nat} {d : Nat} {p : PS} {F : Nat → Prop} (w : World) (h : Di B w d p F) (hoff : p.off = false) (harm : p.ain = 0) (hwr : p.wr ≤ 1000000000) (nm : ByteArray) (hs : okN nm) (bs : List Nat) (su : Nat) (hc : (nm, bs, su) ∈ p.con) (n : Nat) (hn : n ≤ bs.length) :
    Calls Tryd.prog 27 #[.pointer (some ⟨d, 0, none⟩), .string nm, .int .i64 (n : Int)] w fun e w' => e = .returned (.int .i64 0) ∧ ∃ F', Di B w' d { p with con := Con.upd p.con nm (fun q => (q.1.take n, min q.2 n)), wr := p.wr + 1 } F' ∧ Fr w F w' F' := by
  obtain ⟨S, rfl, rfl, rfl, h⟩ := h
  obtain ⟨x, hx, rfl, rfl, rfl⟩ := fi_of hc
  refine (cut_ok w h hoff harm hwr x hx hs n hn).mono ?_
  rintro e w' ⟨rfl, S', e1, e2, e3, e4⟩
  exact ⟨rfl, Fp S', ⟨S', e1, e2, rfl, e3⟩, e4⟩

theorem di_read {B : Nat} {d : Nat} {p : PS} {F : Nat → Prop} (w : World) (h : Di B w d p F) (hoff : p.off = false) (nm : ByteArray) (hs : okN nm) (bs : List Nat) (su : Nat) (hc : (nm, bs, su) ∈ p.con) :
    Calls Tryd.prog 6 #[.pointer (some ⟨d, 0, none⟩), .string nm] w fun e w' => ∃ v2, e = .returned (.tuple #[v2, .int .i64 0]) ∧ (Di B w' d p F ∧ Fr w F w' F) ∧ w'.ownsRow w.heap.size 5 1 v2 bs.length (bytesV bs) ∧ (∀ k, v2.ownBlock = some k → ¬ F k) ∧ ∀ n ∈ bs, n < 256 := by
  obtain ⟨S, rfl, rfl, rfl, h⟩ := h
  obtain ⟨x, hx, rfl, rfl, rfl⟩ := fi_of hc
  refine (read_any w h hoff x hx hs).mono ?_
  rintro e w' ⟨v2, rfl, ⟨e1, e2⟩, e3, e4⟩
  exact ⟨v2, rfl, ⟨⟨S, rfl, rfl, rfl, e1⟩, e2⟩, e3, e4, h.by_ x hx⟩

theorem di_read_no {B : Nat} {d : Nat} {p : PS} {F : Nat → Prop} (w : World) (h : Di B w d p F) (hoff : p.off = false) (nm : ByteArray) (hs : okN nm) (hc : ∀ y ∈ p.con, y.1 ≠ nm) :
    Calls Tryd.prog 6 #[.pointer (some ⟨d, 0, none⟩), .string nm] w fun e w' => e = .returned (.tuple #[.slice none 0 0, .int .i64 102]) ∧ Di B w' d p F ∧ Fr w F w' F := by
  obtain ⟨S, rfl, rfl, rfl, h⟩ := h
  refine (read_no w h hoff nm (fun x hx => hc _ (con_mem hx)) hs).mono ?_
  rintro e w' ⟨rfl, e1, e2⟩
  exact ⟨rfl, ⟨S, rfl, rfl, rfl, e1⟩, e2⟩

theorem di_sure {B : Nat} {d : Nat} {p : PS} {F : Nat → Prop} (w : World) (h : Di B w d p F) (hoff : p.off = false) (nm : ByteArray) (hs : okN nm) (bs : List Nat) (su : Nat) (hc : (nm, bs, su) ∈ p.con) :
    Calls Tryd.prog 21 #[.pointer (some ⟨d, 0, none⟩), .string nm] w fun e w' => e = .returned (.tuple #[.int .i64 (su : Int), .int .i64 0]) ∧ Di B w' d p F ∧ Fr w F w' F := by
  obtain ⟨S, rfl, rfl, rfl, h⟩ := h
  obtain ⟨x, hx, rfl, rfl, rfl⟩ := fi_of hc
  refine (sure_any w h hoff x hx hs).mono ?_
  rintro e w' ⟨rfl, e1, e2⟩
  exact ⟨rfl, ⟨S, rfl, rfl, rfl, e1⟩, e2⟩

theorem di_new (w : World) (B : Nat) (hB : B ≤ w.heap.size) (room : Nat) (h1 : 1 ≤ room) (h2 : room ≤ 268435456) :
    Calls Tryd.prog 16 #[.int .i64 (room : Int)] w fun e w' => ∃ d F, e = .returned (.tuple #[.pointer (some ⟨d, 0, none⟩), .int .i64 0]) ∧ Di B w' d { con := [], room := room, off := false, ain := 0, keep := 0, lose := 0, wr := 0 } F ∧ Below w.heap.size w w' ∧ ∀ k, F k → w.heap.size ≤ k := by
  refine (new_ok w B hB room h1 h2).mono ?_
  rintro e w' ⟨S, rfl, e1, e2, e3, e4⟩
  exact ⟨S.d, Fp S, rfl, ⟨S, rfl, e2, rfl, e1⟩, e3, e4⟩

/-- A log that is on. -/
def Lg (w : World) (l d : Nat) (nm : ByteArray) (sz ct : Nat) : Prop := w.heap[l]? = some (.cells #[.pointer (some ⟨d, 0, none⟩), .string nm, .int .i64 (sz : Int), .int .i64 (ct : Int), .bool false] 80 (0, 0))

theorem Lg.cell {w : World} {l d : Nat} {nm : ByteArray} {sz ct : Nat} (h : Lg w l d nm sz ct) (i : Nat) (v : Value) (hi : (#[.pointer (some ⟨d, 0, none⟩), .string nm, .int .i64 (sz : Int), .int .i64 (ct : Int), .bool false] : Array Value)[i]? = some v) : w.cell? ⟨l, i, none⟩ = some v := by
  rw [cell_of_row w l i _ _ (0, 0) h]; exact hi

theorem Lg.fr {w w' : World} {F F' : Nat → Prop} {l d : Nat} {nm : ByteArray} {sz ct : Nat} (h : Lg w l d nm sz ct) (hf : Fr w F w' F') (hn : ¬ F l) : Lg w' l d nm sz ct := (hf.block l (heap_lt h) hn).2.trans h

/-- Bytes laid behind a file and made sure. -/
def Con.lay (c : Con) (nm : ByteArray) (bs : List Nat) : Con := Con.upd (Con.app c nm bs) nm fun q => (q.1, q.1.length)

theorem Con.app_has (c : Con) (nm : ByteArray) (bs : List Nat) : (Con.app c nm bs).has nm := by
  unfold Con.app
  split
  · rename_i h
    obtain ⟨y, hy, h2⟩ := List.any_eq_true.1 h
    exact ⟨_, List.mem_map.2 ⟨y, hy, rfl⟩, by rw [if_pos (by simpa using h2)]; simpa using h2⟩
  · exact ⟨_, List.mem_append.2 (.inr (List.mem_singleton.2 rfl)), rfl⟩

set_option maxRecDepth 100000 in
set_option maxHeartbeats 1000000 in
theorem llay_ok {B : Nat} {l d : Nat} {p : PS} {F : Nat → Prop} {nm : ByteArray} {sz ct : Nat} (w : World) (h : Di B w d p F) (hg : Lg w l d nm sz ct) (hl : ¬ F l) (hoff : p.off = false) (harm : p.ain = 0) (hwr : p.wr ≤ 999999999) (hs : okN nm) (hc : p.con.has nm ∨ ((∀ y ∈ p.con, y.1 ≠ nm) ∧ p.con.length < 256)) (q : Option Addr) (n cb : Nat) (bs : List Nat) (hnb : n = bs.length) (hnc : n ≤ cb) (hp : q = none → cb = 0) (hb : IsBy w (.slice q n cb) bs) (hfb : ∀ k, (Value.slice q n cb).ownBlock = some k → ¬ F k) (hbb : ∀ n ∈ bs, n < 256) (hr : Con.tot p.con + bs.length ≤ p.room) :
    Calls Tryd.prog 33 #[.pointer (some ⟨l, 0, none⟩), .slice q n cb] w fun e w' => e = .returned (.int .i64 0) ∧ ∃ F', Di B w' d { p with con := Con.lay p.con nm bs, wr := p.wr + 2 } F' ∧ Fr w F w' F' := by
  have HA : Hid (Calls Tryd.prog 28 #[.pointer (some ⟨d, 0, none⟩), .string nm, .slice q n cb] w.drew _) := di_append w.drew h.drew hoff harm (by omega) nm hs hc q n cb bs hnb hnc hp (isBy_heap hb rfl) hfb hbb hr
  have HS : Hid (∀ w1 F1, Di B w1 d { p with con := Con.app p.con nm bs, wr := p.wr + 1 } F1 → Calls Tryd.prog 53 #[.pointer (some ⟨d, 0, none⟩), .string nm] w1.drew _) := fun w1 F1 h1 => di_sync w1.drew h1.drew hoff harm (by show p.wr + 1 ≤ 1000000000; omega) nm hs (Con.app_has _ _ _)
  have HG := hide hg
  have HL := hide hl
  have HLT := hide (heap_lt hg)
  have q1 : w.drew.cell? ⟨l, 0, none⟩ = some (.pointer (some ⟨d, 0, none⟩)) := hg.cell 0 _ rfl
  have q2 : w.drew.cell? ⟨l, 1, none⟩ = some (.string nm) := hg.cell 1 _ rfl
  clear h hg hl hs hc hnb hnc hp hb hfb hbb hr hoff harm
  go_enter Tryd.func33, Tryd.ntmps33
  go_upto_region 1 with fail
  refine wp_region_held_drew (S := fun w' => w'.cell? ⟨l, 0, none⟩ = some (.pointer (some ⟨d, 0, none⟩)) ∧ w'.cell? ⟨l, 1, none⟩ = some (.string nm)) (by kernel_rfl) ⟨q1, q2⟩ (fun hHeld => ?_)
  refine wpAnyH_take (i := 0) (v := ?_) rfl (by kernel_rfl) (by kernel_rfl) (by kernel_rfl) (fun _ _ _ h => h) (Or.inl ⟨by rfl, ?_⟩) hHeld ?_
  rotate_left
  · (intro wq hSw; (try dsimp only at hSw); (try obtain ⟨s0, s1⟩ := hSw); (go_simp <;> with_reducible rfl))
  try simp only [Act.put, List.getElem_toArray, List.getElem_cons_zero, List.getElem_cons_succ, List.setIfInBounds_toArray, List.set_cons_zero, List.set_cons_succ]
  refine wpAnyH_take (i := 1) (v := ?_) rfl (by kernel_rfl) (by kernel_rfl) (by kernel_rfl) (fun _ _ _ h => h) (Or.inl ⟨by rfl, ?_⟩) hHeld ?_
  rotate_left
  · (intro wq hSw; (try dsimp only at hSw); (try obtain ⟨s0, s1⟩ := hSw); (go_simp <;> with_reducible rfl))
  try simp only [Act.put, List.getElem_toArray, List.getElem_cons_zero, List.getElem_cons_succ, List.setIfInBounds_toArray, List.set_cons_zero, List.set_cons_succ]
  refine wpAnyH_take (i := 2) (v := ?_) rfl (by kernel_rfl) (by kernel_rfl) (by kernel_rfl) (fun _ _ _ h => h) (Or.inl ⟨by rfl, ?_⟩) hHeld ?_
  rotate_left
  · (intro wq hSw; (try dsimp only at hSw); (try obtain ⟨s0, s1⟩ := hSw); (go_simp <;> with_reducible rfl))
  try simp only [Act.put, List.getElem_toArray, List.getElem_cons_zero, List.getElem_cons_succ, List.setIfInBounds_toArray, List.set_cons_zero, List.set_cons_succ]
  refine wpAnyH_take (i := 3) (v := ?_) rfl (by kernel_rfl) (by kernel_rfl) (by kernel_rfl) (fun _ _ _ h => h) (Or.inl ⟨by rfl, ?_⟩) hHeld ?_
  rotate_left
  · (intro wq hSw; (try dsimp only at hSw); (try obtain ⟨s0, s1⟩ := hSw); (go_simp <;> with_reducible rfl))
  try simp only [Act.put, List.getElem_toArray, List.getElem_cons_zero, List.getElem_cons_succ, List.setIfInBounds_toArray, List.set_cons_zero, List.set_cons_succ]
  refine wpAnyH_take (i := 4) (v := ?_) rfl (by kernel_rfl) (by kernel_rfl) (by kernel_rfl) (fun _ _ _ h => h) (Or.inl ⟨by rfl, ?_⟩) hHeld ?_
  rotate_left
  · (intro wq hSw; (try dsimp only at hSw); (try obtain ⟨s0, s1⟩ := hSw); (go_simp <;> with_reducible rfl))
  try simp only [Act.put, List.getElem_toArray, List.getElem_cons_zero, List.getElem_cons_succ, List.setIfInBounds_toArray, List.set_cons_zero, List.set_cons_succ]
  refine wpAnyH_take (i := 5) (v := ?_) rfl (by kernel_rfl) (by kernel_rfl) (by kernel_rfl) (fun _ _ _ h => h) (Or.inl ⟨by rfl, ?_⟩) hHeld ?_
  rotate_left
  · (intro wq hSw; (try dsimp only at hSw); (try obtain ⟨s0, s1⟩ := hSw); (go_simp <;> with_reducible rfl))
  try simp only [Act.put, List.getElem_toArray, List.getElem_cons_zero, List.getElem_cons_succ, List.setIfInBounds_toArray, List.set_cons_zero, List.set_cons_succ]
  refine wpAnyH_take (i := 6) (v := ?_) rfl (by kernel_rfl) (by kernel_rfl) (by kernel_rfl) (fun _ _ _ h => h) (Or.inl ⟨by rfl, ?_⟩) hHeld ?_
  rotate_left
  · (intro wq hSw; (try dsimp only at hSw); (try obtain ⟨s0, s1⟩ := hSw); (go_simp <;> with_reducible rfl))
  try simp only [Act.put, List.getElem_toArray, List.getElem_cons_zero, List.getElem_cons_succ, List.setIfInBounds_toArray, List.set_cons_zero, List.set_cons_succ]
  refine wpAnyH_take (i := 7) (v := ?_) rfl (by kernel_rfl) (by kernel_rfl) (by kernel_rfl) (fun _ _ _ h => h) (Or.inl ⟨by rfl, ?_⟩) hHeld ?_
  rotate_left
  · (intro wq hSw; (try dsimp only at hSw); (try obtain ⟨s0, s1⟩ := hSw); (go_simp <;> with_reducible rfl))
  try simp only [Act.put, List.getElem_toArray, List.getElem_cons_zero, List.getElem_cons_succ, List.setIfInBounds_toArray, List.set_cons_zero, List.set_cons_succ]
  refine wpAnyH_take (i := 8) (v := ?_) rfl (by kernel_rfl) (by kernel_rfl) (by kernel_rfl) (fun _ _ _ h => h) (Or.inl ⟨by rfl, ?_⟩) hHeld ?_
  rotate_left
  · (intro wq hSw; (try dsimp only at hSw); (try obtain ⟨s0, s1⟩ := hSw); (go_simp <;> with_reducible rfl))
  try simp only [Act.put, List.getElem_toArray, List.getElem_cons_zero, List.getElem_cons_succ, List.setIfInBounds_toArray, List.set_cons_zero, List.set_cons_succ]
  refine wpAnyH_ready (rs := [9]) (by kernel_rfl) (by simp) ?_
  refine AllReadyH.cons rfl (fun K hK => ?_) AllReadyH.nil
  go_simp
  refine HA.out.mono ?_
  rintro _ w1 ⟨rfl, F1, hD1, hF1⟩
  have H1 : Hid (Di B w1 d { p with con := Con.app p.con nm bs, wr := p.wr + 1 } F1 ∧ Fr w F w1 F1) := ⟨hD1, hF1.drew⟩
  clear hD1 hF1
  have HG1 : Hid (Lg w1 l d nm sz ct ∧ ¬ F1 l) := ⟨HG.out.fr H1.out.2 HL.out, (H1.out.2.block l HLT.out HL.out).1⟩
  have r1 : w1.cell? ⟨l, 0, none⟩ = some (.pointer (some ⟨d, 0, none⟩)) := HG1.out.1.cell 0 _ rfl
  have r2 : w1.cell? ⟨l, 1, none⟩ = some (.string nm) := HG1.out.1.cell 1 _ rfl
  have t1 : w1.drew.cell? ⟨l, 0, none⟩ = some (.pointer (some ⟨d, 0, none⟩)) := r1
  have t2 : w1.drew.cell? ⟨l, 1, none⟩ = some (.string nm) := r2
  refine hK.out _ _ ⟨r1, r2⟩ (fun hHeld => ?_)
  clear hK K
  try simp only [Act.put, List.getElem_toArray, List.getElem_cons_zero, List.getElem_cons_succ, List.setIfInBounds_toArray, List.set_cons_zero, List.set_cons_succ]
  refine wpAnyH_take (i := 10) (v := ?_) rfl (by kernel_rfl) (by kernel_rfl) (by kernel_rfl) (fun _ _ _ h => h) (Or.inl ⟨by rfl, ?_⟩) hHeld ?_
  rotate_left
  · (intro wq hSw; (try dsimp only at hSw); (try obtain ⟨s0, s1⟩ := hSw); (go_simp <;> with_reducible rfl))
  try simp only [Act.put, List.getElem_toArray, List.getElem_cons_zero, List.getElem_cons_succ, List.setIfInBounds_toArray, List.set_cons_zero, List.set_cons_succ]
  refine wpAnyH_done (by kernel_rfl) ?_ _
  go_upto_region 4 with fail
  refine wp_region_held_drew (S := fun w' => w'.cell? ⟨l, 0, none⟩ = some (.pointer (some ⟨d, 0, none⟩)) ∧ w'.cell? ⟨l, 1, none⟩ = some (.string nm)) (by kernel_rfl) ⟨t1, t2⟩ (fun hHeld => ?_)
  refine wpAnyH_take (i := 0) (v := ?_) rfl (by kernel_rfl) (by kernel_rfl) (by kernel_rfl) (fun _ _ _ h => h) (Or.inl ⟨by rfl, ?_⟩) hHeld ?_
  rotate_left
  · (intro wq hSw; (try dsimp only at hSw); (try obtain ⟨s0, s1⟩ := hSw); (go_simp <;> with_reducible rfl))
  try simp only [Act.put, List.getElem_toArray, List.getElem_cons_zero, List.getElem_cons_succ, List.setIfInBounds_toArray, List.set_cons_zero, List.set_cons_succ]
  refine wpAnyH_take (i := 1) (v := ?_) rfl (by kernel_rfl) (by kernel_rfl) (by kernel_rfl) (fun _ _ _ h => h) (Or.inl ⟨by rfl, ?_⟩) hHeld ?_
  rotate_left
  · (intro wq hSw; (try dsimp only at hSw); (try obtain ⟨s0, s1⟩ := hSw); (go_simp <;> with_reducible rfl))
  try simp only [Act.put, List.getElem_toArray, List.getElem_cons_zero, List.getElem_cons_succ, List.setIfInBounds_toArray, List.set_cons_zero, List.set_cons_succ]
  refine wpAnyH_take (i := 2) (v := ?_) rfl (by kernel_rfl) (by kernel_rfl) (by kernel_rfl) (fun _ _ _ h => h) (Or.inl ⟨by rfl, ?_⟩) hHeld ?_
  rotate_left
  · (intro wq hSw; (try dsimp only at hSw); (try obtain ⟨s0, s1⟩ := hSw); (go_simp <;> with_reducible rfl))
  try simp only [Act.put, List.getElem_toArray, List.getElem_cons_zero, List.getElem_cons_succ, List.setIfInBounds_toArray, List.set_cons_zero, List.set_cons_succ]
  refine wpAnyH_take (i := 3) (v := ?_) rfl (by kernel_rfl) (by kernel_rfl) (by kernel_rfl) (fun _ _ _ h => h) (Or.inl ⟨by rfl, ?_⟩) hHeld ?_
  rotate_left
  · (intro wq hSw; (try dsimp only at hSw); (try obtain ⟨s0, s1⟩ := hSw); (go_simp <;> with_reducible rfl))
  try simp only [Act.put, List.getElem_toArray, List.getElem_cons_zero, List.getElem_cons_succ, List.setIfInBounds_toArray, List.set_cons_zero, List.set_cons_succ]
  refine wpAnyH_take (i := 4) (v := ?_) rfl (by kernel_rfl) (by kernel_rfl) (by kernel_rfl) (fun _ _ _ h => h) (Or.inl ⟨by rfl, ?_⟩) hHeld ?_
  rotate_left
  · (intro wq hSw; (try dsimp only at hSw); (try obtain ⟨s0, s1⟩ := hSw); (go_simp <;> with_reducible rfl))
  try simp only [Act.put, List.getElem_toArray, List.getElem_cons_zero, List.getElem_cons_succ, List.setIfInBounds_toArray, List.set_cons_zero, List.set_cons_succ]
  refine wpAnyH_take (i := 5) (v := ?_) rfl (by kernel_rfl) (by kernel_rfl) (by kernel_rfl) (fun _ _ _ h => h) (Or.inl ⟨by rfl, ?_⟩) hHeld ?_
  rotate_left
  · (intro wq hSw; (try dsimp only at hSw); (try obtain ⟨s0, s1⟩ := hSw); (go_simp <;> with_reducible rfl))
  try simp only [Act.put, List.getElem_toArray, List.getElem_cons_zero, List.getElem_cons_succ, List.setIfInBounds_toArray, List.set_cons_zero, List.set_cons_succ]
  refine wpAnyH_take (i := 6) (v := ?_) rfl (by kernel_rfl) (by kernel_rfl) (by kernel_rfl) (fun _ _ _ h => h) (Or.inl ⟨by rfl, ?_⟩) hHeld ?_
  rotate_left
  · (intro wq hSw; (try dsimp only at hSw); (try obtain ⟨s0, s1⟩ := hSw); (go_simp <;> with_reducible rfl))
  try simp only [Act.put, List.getElem_toArray, List.getElem_cons_zero, List.getElem_cons_succ, List.setIfInBounds_toArray, List.set_cons_zero, List.set_cons_succ]
  refine wpAnyH_take (i := 7) (v := ?_) rfl (by kernel_rfl) (by kernel_rfl) (by kernel_rfl) (fun _ _ _ h => h) (Or.inl ⟨by rfl, ?_⟩) hHeld ?_
  rotate_left
  · (intro wq hSw; (try dsimp only at hSw); (try obtain ⟨s0, s1⟩ := hSw); (go_simp <;> with_reducible rfl))
  try simp only [Act.put, List.getElem_toArray, List.getElem_cons_zero, List.getElem_cons_succ, List.setIfInBounds_toArray, List.set_cons_zero, List.set_cons_succ]
  refine wpAnyH_ready (rs := [8]) (by kernel_rfl) (by simp) ?_
  refine AllReadyH.cons rfl (fun K hK => ?_) AllReadyH.nil
  go_simp
  refine (HS.out w1 F1 H1.out.1).mono ?_
  rintro _ w2 ⟨rfl, F2, hD2, hF2⟩
  have H2 : Hid (Di B w2 d { p with con := Con.lay p.con nm bs, wr := p.wr + 2 } F2 ∧ Fr w F w2 F2) := ⟨hD2, H1.out.2.trans hF2.drew⟩
  have HG2 : Hid (Lg w2 l d nm sz ct) := HG1.out.1.fr hF2.drew HG1.out.2
  clear hD2 hF2
  have u1 : w2.cell? ⟨l, 0, none⟩ = some (.pointer (some ⟨d, 0, none⟩)) := HG2.out.cell 0 _ rfl
  have u2 : w2.cell? ⟨l, 1, none⟩ = some (.string nm) := HG2.out.cell 1 _ rfl
  refine hK.out _ _ ⟨u1, u2⟩ (fun hHeld => ?_)
  clear hK K
  try simp only [Act.put, List.getElem_toArray, List.getElem_cons_zero, List.getElem_cons_succ, List.setIfInBounds_toArray, List.set_cons_zero, List.set_cons_succ]
  refine wpAnyH_take (i := 9) (v := ?_) rfl (by kernel_rfl) (by kernel_rfl) (by kernel_rfl) (fun _ _ _ h => h) (Or.inl ⟨by rfl, ?_⟩) hHeld ?_
  rotate_left
  · (intro wq hSw; (try dsimp only at hSw); (try obtain ⟨s0, s1⟩ := hSw); (go_simp <;> with_reducible rfl))
  try simp only [Act.put, List.getElem_toArray, List.getElem_cons_zero, List.getElem_cons_succ, List.setIfInBounds_toArray, List.set_cons_zero, List.set_cons_succ]
  refine wpAnyH_done (by kernel_rfl) ?_ _
  go_wp2_with fail
  go_ret
  exact ⟨rfl, F2, H2.out⟩

end Go.Proofs.YtpjinakhgfpafaaDoor

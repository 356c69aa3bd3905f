/- The law of orders: how it stands when both are loaded. -/
import Derived.Test.YtiblnkiecpcdpaaJ14N
import Derived.Test.YtiblnkiecpcdpaaJ14F
/- The law of orders: what stands when both disks are loaded. -/
namespace Go.Proofs.Ytiblnkiecpcdpaa
open Go.RowKit
set_option linter.unusedVariables false
set_option linter.unusedSimpArgs false

def KB (w : World) (Sb : DS) (l v : Value) (wv : List Value) (k : Nat) : Prop := Fp Sb k ∨ k = w.heap.size ∨ l.ownBlock = some k ∨ v.ownBlock = some k ∨ ∃ u ∈ wv, u.ownBlock = some k
def UB (ps : List Pr) (k : Nat) : Prop := ∃ q ∈ ps, q.2.ownBlock = some k

structure OrZ (w w5 : World) (Ba : Nat) (fs : List (ByteArray × List Nat)) (r n : Nat) (Sb : DS) (l v : Value) (ps : List Pr) (wv : List Value) (L : List (ByteArray × List Nat)) : Prop where
  hBa : w.heap.size ≤ Ba
  ok : LoadOk fs r
  ps_ : ps.map (·.1) = fs
  len : fs.length = n ∧ n ≤ 256
  tot : totB fs ≤ 524288
  linn : PIn w5 l ps
  vals : ∀ q ∈ ps, ∃ p c, q.2 = .slice p q.1.2.length c ∧ (q.1.2.length = 0 ∨ ∃ (g : Nat) (cur0 : Array Value), p = some ⟨g, 0, none⟩ ∧ w5.heap[g]? = some (.cells cur0 5 (0, 0)) ∧ q.1.2.length ≤ cur0.size)
  bd : ∃ Bb, w.heap.size ≤ Bb ∧ Dk Bb w5 0 Sb
  bok : ∀ y ∈ Sb.ps.con, okN y.1
  was : FilesR w5 v wv L ∧ RowsR w5 wv L ∧ L.length = n ∧ totB L = totB fs
  wasn : ∀ k, (v.ownBlock = some k ∨ ∃ u ∈ wv, u.ownBlock = some k) → ¬ Fp Sb k
  tellb : ∀ ns : List ByteArray, ns.Perm (Sb.L.map (·.nm)) → inOrder ns → filesOf Sb ns = L
  tella : ∀ (Sa : DS) (B : Nat) (w' : World) (ns : List ByteArray), Dk B w' 0 Sa → Sa.ps.con = con1 fs → ns.Perm (Sa.L.map (·.nm)) → inOrder ns → filesOf Sa ns = L

section
variable {w w5 wr : World} {Ba d r n : Nat} {fs L : List (ByteArray × List Nat)} {Sa Sb : DS} {l v : Value} {ps : List Pr} {wv : List Value}

theorem OrZ.lrow (z : OrZ w w5 Ba fs r n Sb l v ps wv L) (k : OrK w w5 wr (KB w Sb l v wv) (UB ps) Sa) : PIn wr l ps := FilesR.keep z.linn fun j hj => (k.kept j (.inr (.inr (.inl hj)))).2.1
theorem OrZ.wrow (z : OrZ w w5 Ba fs r n Sb l v ps wv L) (k : OrK w w5 wr (KB w Sb l v wv) (UB ps) Sa) : FilesR wr v wv L ∧ RowsR wr wv L :=
  ⟨FilesR.keep z.was.1 fun j hj => (k.kept j (.inr (.inr (.inr (.inl hj))))).2.1, RowsR.keep z.was.2.1 z.was.1.1 fun u hu j hj => (k.kept j (.inr (.inr (.inr (.inr ⟨u, hu, hj⟩))))).2.1⟩
theorem OrZ.small (z : OrZ w w5 Ba fs r n Sb l v ps wv L) : ∀ x ∈ L, x.2.length ≤ 140737488355328 := fun x hx => by
  have h1 := totB_mem x hx
  have h2 := z.was.2.2.2
  have h3 := z.tot
  omega

theorem OrA.frA {i : Nat} {w2 : World} (h : OrA Ba wr d i fs Sa) (k1 : Dk Ba w2 0 Sa) : OrA Ba w2 d i fs Sa := ⟨k1, h.dd, h.con, h.cfg⟩

theorem con1_ok {i : Nat} (h : OrA Ba wr d i fs Sa) (ok : LoadOk fs r) : ∀ y ∈ Sa.ps.con, okN y.1 := fun y hy => by
  rw [h.con] at hy
  obtain ⟨x, hx, rfl⟩ := List.mem_map.1 hy
  exact ok.1 _ (List.mem_of_mem_drop hx)

theorem OrZ.filesA (z : OrZ w w5 Ba fs r n Sb l v ps wv L) (h : OrA Ba wr d 0 fs Sa) (k : OrK w w5 wr (KB w Sb l v wv) (UB ps) Sa) :
    Calls Try.prog 13 #[.pointer (some ⟨d, 0, none⟩)] wr fun e w2 => ∃ (p : Option Addr) (c : Nat), e = .returned (.slice p n c) ∧ (∃ ys, FilesR w2 (.slice p n c) ys L ∧ RowsR w2 ys L) ∧ OrA Ba w2 d 0 fs Sa ∧ OrK w w5 w2 (KB w Sb l v wv) (UB ps) Sa := by
  have hd0 := h.dd
  subst hd0
  refine (files_got wr h.dk (con1_ok h z.ok)).mono ?_
  rintro e w2 ⟨p, m, c, rfl, ys, ns, h1, h2, h3, h4⟩
  have ht := z.tella Sa Ba w2 ns h3 (by rw [h.con]; rfl) h2.2.2.2.1 h2.2.2.2.2
  have hm : m = n := by rw [h1, ← z.was.2.2.1, ← ht]; unfold filesOf; simp
  subst hm
  exact ⟨p, c, rfl, ⟨ys, by rw [← ht]; exact h2.1, by rw [← ht]; exact h2.2.2.1⟩, h.frA h3, k.fr h.dk z.hBa h4⟩

theorem OrZ.filesE (z : OrZ w w5 Ba fs r n Sb l v ps wv L) (h : OrA Ba wr d n fs Sa) (k : OrK w w5 wr (KB w Sb l v wv) (UB ps) Sa) :
    Calls Try.prog 13 #[.pointer (some ⟨d, 0, none⟩)] wr fun e w2 => ∃ (p : Option Addr) (c : Nat), e = .returned (.slice p 0 c) ∧ OrA Ba w2 d n fs Sa ∧ OrK w w5 w2 (KB w Sb l v wv) (UB ps) Sa := by
  have hd0 := h.dd
  subst hd0
  refine (files_got wr h.dk (con1_ok h z.ok)).mono ?_
  rintro e w2 ⟨p, m, c, rfl, ys, ns, h1, h2, h3, h4⟩
  have hc : Sa.ps.con = [] := by rw [h.con, ← z.len.1, List.drop_length]; rfl
  have hL : Sa.L = [] := by simpa [DS.ps] using hc
  have hm : m = 0 := by
    rw [h1]
    have := h2.2.2.2.1.length_eq
    rw [hL] at this
    simpa using this
  subst hm
  exact ⟨p, c, rfl, h.frA h3, k.fr h.dk z.hBa h4⟩

theorem OrZ.writes (z : OrZ w w5 Ba fs r n Sb l v ps wv L) (h : OrA Ba wr d 0 fs Sa) (k : OrK w w5 wr (KB w Sb l v wv) (UB ps) Sa) :
    Calls Try.prog 20 #[.pointer (some ⟨d, 0, none⟩)] wr fun e w2 => e = .returned (.int .i64 0) ∧ OrA Ba w2 d 0 fs Sa ∧ OrK w w5 w2 (KB w Sb l v wv) (UB ps) Sa := by
  have hd0 := h.dd
  subst hd0
  refine (writes_any wr h.dk).mono ?_
  rintro e w2 ⟨rfl, h3, h4⟩
  have h0 : Sa.wr = 0 := by have := h.cfg.2.2.1; omega
  exact ⟨by rw [h0]; rfl, h.frA h3, k.fr h.dk z.hBa h4⟩
theorem OrZ.offs (z : OrZ w w5 Ba fs r n Sb l v ps wv L) (h : OrA Ba wr d 0 fs Sa) (k : OrK w w5 wr (KB w Sb l v wv) (UB ps) Sa) :
    Calls Try.prog 21 #[.pointer (some ⟨d, 0, none⟩)] wr fun e w2 => e = .returned (.bool false) ∧ OrA Ba w2 d 0 fs Sa ∧ OrK w w5 w2 (KB w Sb l v wv) (UB ps) Sa := by
  have hd0 := h.dd
  subst hd0
  refine (off_any wr h.dk).mono ?_
  rintro e w2 ⟨rfl, h3, h4⟩
  exact ⟨by rw [h.cfg.1], h.frA h3, k.fr h.dk z.hBa h4⟩
theorem OrZ.rooms (z : OrZ w w5 Ba fs r n Sb l v ps wv L) (h : OrA Ba wr d 0 fs Sa) (k : OrK w w5 wr (KB w Sb l v wv) (UB ps) Sa) (hr : Sa.room = r) :
    Calls Try.prog 22 #[.pointer (some ⟨d, 0, none⟩)] wr fun e w2 => e = .returned (.int .i64 (r : Int)) ∧ OrA Ba w2 d 0 fs Sa ∧ OrK w w5 w2 (KB w Sb l v wv) (UB ps) Sa := by
  have hd0 := h.dd
  subst hd0
  refine (room_any wr h.dk).mono ?_
  rintro e w2 ⟨rfl, h3, h4⟩
  exact ⟨by rw [hr], h.frA h3, k.fr h.dk z.hBa h4⟩

theorem OrK.below {w2 : World} {K U : Nat → Prop} (k : OrK w w5 wr K U Sa) (h : OrA Ba wr d 0 fs Sa) (hBa : w.heap.size ≤ Ba) (hb : Below wr.heap.size wr w2) : OrA Ba w2 d 0 fs Sa ∧ OrK w w5 w2 K U Sa := ⟨h.frA (h.dk.below hb), k.fr h.dk hBa (Fr.of_below hb)⟩

theorem OrZ.sumW (z : OrZ w w5 Ba fs r n Sb l v ps wv L) (k : OrK w w5 wr (KB w Sb l v wv) (UB ps) Sa) :
    Calls Try.prog 23 #[v] wr fun e w2 => e = .returned (.int .i64 (totB fs : Nat)) ∧ Below wr.heap.size wr w2 := by
  have hw := z.wrow k
  refine (sums_any v wv L wr hw.1 (by rw [z.was.2.2.1]; have := z.len.2; omega) (fun i hi => ?_) (by rw [z.was.2.2.2]; have := z.tot; omega)).mono ?_
  · obtain ⟨p, c, e, _⟩ := by_slice (hw.2 i hi)
    exact ⟨p, _, c, e, rfl⟩
  · rintro e w2 ⟨rfl, N, rfl⟩
    exact ⟨by rw [z.was.2.2.2], rfl, rfl, rfl, Nat.le_refl _, fun _ _ => rfl⟩
theorem OrZ.sumL (z : OrZ w w5 Ba fs r n Sb l v ps wv L) (k : OrK w w5 wr (KB w Sb l v wv) (UB ps) Sa) :
    Calls Try.prog 23 #[l] wr fun e w2 => e = .returned (.int .i64 (totB fs : Nat)) ∧ Below wr.heap.size wr w2 := by
  have hw : FilesR wr l (ps.map (·.2)) (ps.map (·.1)) := z.lrow k
  have hfs := z.ps_
  have hln : ps.length = n := by have := congrArg List.length hfs; rw [List.length_map, z.len.1] at this; exact this
  refine (sums_any l _ _ wr hw (by rw [List.length_map, hln]; have := z.len.2; omega) (fun i hi => ?_) (by rw [hfs]; have := z.tot; omega)).mono ?_
  · have hi' : i < ps.length := by simpa using hi
    obtain ⟨p, c, e, _⟩ := z.vals ps[i] (List.getElem_mem hi')
    refine ⟨p, ps[i].1.2.length, c, ?_, ?_⟩
    · show (ps.map (·.2)).getD i (.slice none 0 0) = _
      have e2 : (ps.map (·.2)).getD i (.slice none 0 0) = ps[i].2 := by simp [List.getD, List.getElem?_eq_getElem hi']
      rw [e2, e]
    · simp [List.getD, List.getElem?_eq_getElem hi']
  · rintro e w2 ⟨rfl, N, rfl⟩
    exact ⟨by rw [hfs], rfl, rfl, rfl, Nat.le_refl _, fun _ _ => rfl⟩

theorem OrZ.eqA (z : OrZ w w5 Ba fs r n Sb l v ps wv L) (k : OrK w w5 wr (KB w Sb l v wv) (UB ps) Sa) {u : Value} (hu : ∃ ys, FilesR wr u ys L ∧ RowsR wr ys L) :
    Calls Try.prog 17 #[u, v] wr fun e w2 => e = .returned (.bool true) ∧ Below wr.heap.size wr w2 := by
  obtain ⟨ys, h1, h2⟩ := hu
  exact eqFiles_same u v ys wv L wr h1 (z.wrow k).1 h2 (z.wrow k).2 (by rw [z.was.2.2.1]; have := z.len.2; omega) z.small

/-- The cells of one of the law's files. -/
theorem OrZ.at_ (z : OrZ w w5 Ba fs r n Sb l v ps wv L) (k : OrK w w5 wr (KB w Sb l v wv) (UB ps) Sa) {i : Nat} (hi : i < n) :
    ∃ (pl : Option Addr) (cl g o : Nat) (pb : Option Addr) (cb : Nat), l = .slice pl n cl ∧ pl = some ⟨g, o, none⟩ ∧ wr.cell? ⟨g, o + i * 2, none⟩ = some (.string (fs.getD i (.empty, [])).1) ∧ wr.cell? ⟨g, o + i * 2 + 1, none⟩ = some (.slice pb (fs.getD i (.empty, [])).2.length cb) ∧
      ((fs.getD i (.empty, [])).2.length = 0 ∨ ∃ (g0 : Nat) (cur : Array Value), pb = some ⟨g0, 0, none⟩ ∧ UB ps g0 ∧ wr.heap[g0]? = some (.cells cur 5 (0, 0)) ∧ (fs.getD i (.empty, [])).2.length ≤ cur.size) := by
  have hfs := z.ps_
  have hln : ps.length = n := by have := congrArg List.length hfs; rw [List.length_map, z.len.1] at this; exact this
  obtain ⟨_, pl, cl, e1, h2⟩ := z.lrow k
  have hi' : i < ps.length := by omega
  obtain ⟨g, o, e2, k1, k2⟩ := h2 i (by rw [List.length_map]; exact hi')
  have e3 : (ps.map (·.1)).getD i (.empty, []) = ps[i].1 := by simp [List.getD, List.getElem?_eq_getElem hi']
  have e4 : (ps.map (·.2)).getD i (.slice none 0 0) = ps[i].2 := by simp [List.getD, List.getElem?_eq_getElem hi']
  have e5 : fs.getD i (.empty, []) = ps[i].1 := by rw [← hfs]; exact e3
  have hm : ps[i] ∈ ps := List.getElem_mem hi'
  obtain ⟨pb, cb, e6, e7⟩ := z.vals ps[i] hm
  rw [e3] at k1
  rw [e4, e6] at k2
  rw [List.length_map, hln] at e1
  rw [e5]
  refine ⟨pl, cl, g, o, pb, cb, e1, e2, k1, k2, ?_⟩
  rcases e7 with e7 | ⟨g0, cur0, e8, e9, e10⟩
  · exact .inl e7
  · refine .inr ?_
    have hU : UB ps g0 := ⟨ps[i], hm, by rw [e6, e8]; rfl⟩
    obtain ⟨_, _, cur, c0, a1, a2, a3⟩ := k.byts g0 hU
    rw [e9] at a1
    simp only [Option.some.injEq, Obj.cells.injEq, and_true] at a1
    exact ⟨g0, cur, e8, hU, a2, by rw [a3, ← a1]; exact e10⟩

theorem OrZ.lastB (z : OrZ w w5 Ba fs r n Sb l v ps wv L) (k : OrK w w5 wr (KB w Sb l v wv) (UB ps) Sa) :
    Calls Try.prog 13 #[.pointer (some ⟨Sb.d, 0, none⟩)] wr fun e w2 => ∃ (p : Option Addr) (m c : Nat), e = .returned (.slice p m c) ∧ ((∃ ys, FilesR w2 (.slice p m c) ys L ∧ RowsR w2 ys L) ∧ FilesR w2 v wv L ∧ RowsR w2 wv L) ∧ Below w.heap.size w w2 := by
  obtain ⟨Bb, hBb, hD⟩ := z.bd
  have hD2 : Dk Bb wr 0 Sb := hD.keep fun j hj => (k.kept j (.inl hj)).2.1
  refine (files_got wr hD2 z.bok).mono ?_
  rintro e w2 ⟨p, m, c, rfl, ys, ns, h1, h2, h3, h4⟩
  have ht := z.tellb ns h2.2.2.2.1 h2.2.2.2.2
  have hw := z.wrow k
  refine ⟨p, m, c, rfl, ⟨⟨ys, by rw [← ht]; exact h2.1, by rw [← ht]; exact h2.2.2.1⟩, FilesR.keep hw.1 fun j hj => ?_, RowsR.keep hw.2 z.was.1.1 fun u hu j hj => ?_⟩, k.bel.trans (h4.below (fun j e => Nat.le_trans hBb (hD.fpB j e)) k.bel.size)⟩
  · exact (h4.block j (k.kept j (.inr (.inr (.inr (.inl hj))))).1 (z.wasn j (.inl hj))).2
  · exact (h4.block j (k.kept j (.inr (.inr (.inr (.inr ⟨u, hu, hj⟩))))).1 (z.wasn j (.inr ⟨u, hu, hj⟩))).2
end

end Go.Proofs.Ytiblnkiecpcdpaa

namespace Go.Proofs.Ytiblnkiecpcdpaa
open Go.RowKit
set_option linter.unusedVariables false
set_option linter.unusedSimpArgs false

theorem totB_con1 (fs : List (ByteArray × List Nat)) : Con.tot (con1 fs) = totB fs := by
  induction fs with
  | nil => rfl
  | cons x l ih => show x.2.length + Con.tot (con1 l) = _; rw [ih]; rfl

theorem filesOf_len' (S : DS) (ns : List ByteArray) : (filesOf S ns).length = ns.length := by unfold filesOf; simp

/-- Disks of the same files tell the same. -/
theorem same_files {B1 B2 : Nat} {w1 w2 : World} {S T : DS} (hS : Dk B1 w1 0 S) (hT : Dk B2 w2 0 T) (hp : S.ps.con.Perm T.ps.con) {ns ms : List ByteArray} (h1 : ns.Perm (S.L.map (·.nm))) (h2 : inOrder ns) (h3 : ms.Perm (T.L.map (·.nm))) (h4 : inOrder ms) : filesOf S ns = filesOf T ms := by
  have hn : (S.ps.con.map (·.1)).Nodup := con_nodup hS
  have h5 : (S.L.map (·.nm)).Perm (T.L.map (·.nm)) := by rw [← con_names S, ← con_names T]; exact hp.map _
  have e : ns = ms := order_uniq (h1.trans (h5.trans h3.symm)) h2 h4
  subst e
  unfold filesOf
  refine List.map_congr_left fun n _ => ?_
  rw [bytes_con hS, bytes_con hT, get_perm hp hn]

theorem or_start {w ws w1 wc wa wb w5 : World} {fs : List (ByteArray × List Nat)} {n r : Nat} {l v : Value} {ps qs : List Pr} {Sa Sb : DS} {wv : List Value} {nsb : List ByteArray}
    (hB : Below w.heap.size w ws) (hB2 : w.heap.size < ws.heap.size) (hB3 : Below ws.heap.size ws w1) (hO : OrL w1 l ws.heap.size ps) (hfs : ps.map (·.1) = fs) (hn : ps.length = n) (ht : totB fs ≤ 524288)
    (hq : qs.Perm ps) (hb1 : Below w1.heap.size w1 wc) (ha : Dk wc.heap.size wa 0 Sa) (hac : Sa.ps = { con := con1 fs, room := r, off := false, ain := 0, keep := 0, lose := 0, wr := 0 }) (hok : LoadOk fs r) (hb2 : Below wc.heap.size wc wa)
    (hb : Dk wa.heap.size wb 0 Sb) (hbc : Sb.ps.con = con1 (qs.map (·.1))) (hb3 : Below wa.heap.size wa wb)
    (hF : FilesAt w5 wb.heap.size v wv (filesOf Sb nsb)) (hp : nsb.Perm (Sb.L.map (·.nm))) (ho : inOrder nsb) (hD5 : Dk wa.heap.size w5 0 Sb) (hf5 : Fr wb (Fp Sb) w5 (Fp Sb)) :
    OrZ w w5 wc.heap.size fs r n Sb l v ps wv (filesOf Sb nsb) ∧ OrA wc.heap.size w5 Sa.d 0 fs Sa ∧ OrK w w5 w5 (KB w Sb l v wv) (UB ps) Sa := by
  have s1 : ws.heap.size ≤ w1.heap.size := hB3.size
  have s2 : w1.heap.size ≤ wc.heap.size := hb1.size
  have s3 : wc.heap.size ≤ wa.heap.size := hb2.size
  have s4 : wa.heap.size ≤ wb.heap.size := hb3.size
  have s5 : wb.heap.size ≤ w5.heap.size := hf5.size
  -- what lies ahead of the first loading stands as it did
  have h15 : ∀ k, k < w1.heap.size → w5.heap[k]? = w1.heap[k]? := fun k hk => by
    have a1 := hb1.block k hk
    have a2 := hb2.block k (by omega)
    have a3 := hb3.block k (by omega)
    have a4 := (hf5.block k (by omega) fun e => by have := hD5.fpB k e; omega).2
    exact ((a4.trans a3).trans a2).trans a1
  have haLt : ∀ k, Fp Sa k → wc.heap.size ≤ k ∧ k < wa.heap.size := fun k hk => ⟨ha.fpB k hk, ha.fpLt k hk⟩
  have hbLt : ∀ k, Fp Sb k → wa.heap.size ≤ k ∧ k < wb.heap.size := fun k hk => ⟨hb.fpB k hk, hb.fpLt k hk⟩
  have hDa : Dk wc.heap.size w5 0 Sa := (ha.below hb3).keep fun k hk => (hf5.block k (by have := (haLt k hk).2; omega) fun e => by have := (hbLt k e).1; have := (haLt k hk).2; omega).2
  have hlb : ∀ k, l.ownBlock = some k → ws.heap.size ≤ k ∧ k < w1.heap.size := fun k hk => hO.own.lt k hk
  have hlt : ∀ k, l.ownBlock = some k → ∃ cs, w1.heap[k]? = some (.cells cs 45 (0, 0)) := fun k hk => by
    rcases hO.own.2 with ⟨e1, _⟩ | ⟨g, cap, cur, e1, _, e3, _⟩
    · rw [e1] at hk; simp [Value.ownBlock] at hk
    · rw [e1] at hk; simp [Value.ownBlock] at hk; subst hk; exact ⟨_, e3⟩
  have hvb : ∀ k, v.ownBlock = some k → wb.heap.size ≤ k ∧ k < w5.heap.size := fun k hk => hF.own.lt k hk
  have hub : ∀ u ∈ wv, ∀ k, u.ownBlock = some k → wb.heap.size ≤ k ∧ k < w5.heap.size := fun u hu k hk => by
    obtain ⟨i, hi⟩ := List.getElem?_of_mem hu
    exact ((hF.row.2 i u hi).2 k hk).1
  have hperm : Sa.ps.con.Perm Sb.ps.con := by
    rw [hac, hbc]
    show (con1 fs).Perm _
    rw [← hfs]
    exact ((hq.symm.map (·.1)).map _)
  have hokb : ∀ y ∈ Sb.ps.con, okN y.1 := fun y hy => by
    have := hperm.mem_iff.2 hy
    rw [hac] at this
    obtain ⟨x, hx, rfl⟩ := List.mem_map.1 this
    exact hok.1 x hx
  have hfl : fs.length = n := by rw [← hfs, List.length_map]; exact hn
  have hLl : (filesOf Sb nsb).length = n := by
    rw [filesOf_len', hp.length_eq, List.length_map]
    have e1 : Sb.ps.con.length = Sb.L.length := by unfold DS.ps; simp
    rw [← e1, ← hperm.length_eq, hac]
    show (con1 fs).length = n
    unfold con1; rw [List.length_map]; exact hfl
  have hLt : totB (filesOf Sb nsb) = totB fs := by
    rw [totB_files hD5 hp, hbc, totB_con1, totB_perm (hq.map (·.1)), hfs]
  obtain ⟨k1, k2⟩ := hF.toR
  refine ⟨⟨Nat.le_trans hB.size (Nat.le_trans s1 s2), hok, hfs, ⟨hfl, by rw [← hfl]; exact hok.2.2.1⟩, ht, FilesR.keep hO.inn fun k hk => h15 k (hlb k hk).2, fun q hq' => ?_, ⟨wa.heap.size, by have := hB.size; omega, hD5⟩, hokb, ⟨k1, k2, hLl, hLt⟩, fun k hk e => ?_, fun ns g1 g2 => ?_, fun Sx B wx ns g0 g1 g2 g3 => ?_⟩, ⟨hDa, rfl, by rw [hac]; rfl, congrArg PS.off hac, congrArg PS.ain hac, Nat.le_of_eq (congrArg PS.wr hac), congrArg PS.keep hac, congrArg PS.lose hac⟩, ⟨fun k hk => ?_, fun k hk => ?_, fun k hk hu => ?_, ?_⟩⟩
  · obtain ⟨_, p, m, c, e, _, hmc, hpc, hby, hm, _⟩ := hO.by_ q hq'
    rw [hm] at e hby
    refine ⟨p, c, e, ?_⟩
    by_cases h0 : q.1.2.length = 0
    · exact .inl h0
    · obtain ⟨p', l', c', e', hoff⟩ := hO.off q hq'
      rw [e] at e'
      simp only [Value.slice.injEq] at e'
      obtain ⟨rfl, -, -⟩ := e'
      obtain ⟨_, _, e2, hcell⟩ := by_slice hby
      simp only [Value.slice.injEq] at e2
      obtain ⟨rfl, -, -⟩ := e2
      obtain ⟨b, o, rfl, _⟩ := hcell 0 (by omega)
      have ho := hoff _ rfl
      simp only [Addr.mk.injEq, true_and, and_true] at ho
      subst ho
      obtain ⟨⟨_, hlt1⟩, cur, hcur⟩ := hO.u8 q hq' b (by rw [e]; rfl)
      refine .inr ⟨b, cur, rfl, (h15 b hlt1).trans hcur, ?_⟩
      obtain ⟨b', o', eb, hc⟩ := hcell (q.1.2.length - 1) (by omega)
      simp only [Option.some.injEq, Addr.mk.injEq, and_true] at eb
      obtain ⟨rfl, rfl⟩ := eb
      rw [cell_of_row _ _ _ _ _ _ hcur] at hc
      have := (Array.getElem?_eq_some_iff.1 hc).1
      omega
  · have h1 := hbLt k e
    rcases hk with hk | ⟨u, hu, hk⟩
    · have := (hvb k hk).1; omega
    · have := (hub u hu k hk).1; omega
  · exact same_files hD5 hD5 (List.Perm.refl _) g1 g2 hp ho
  · exact same_files g0 hD5 (by rw [g1]; have := hperm; rw [hac] at this; exact this) g2 g3 hp ho
  · rcases hk with hk | rfl | hk | hk | ⟨u, hu, hk⟩
    · have := hbLt k hk
      exact ⟨by omega, rfl, fun e => by have := (haLt k e).2; omega⟩
    · exact ⟨by omega, rfl, fun e => by have := (haLt _ e).1; omega⟩
    · have := hlb k hk
      exact ⟨by omega, rfl, fun e => by have := (haLt k e).1; omega⟩
    · have := hvb k hk
      exact ⟨this.2, rfl, fun e => by have := (haLt k e).2; omega⟩
    · have := hub u hu k hk
      exact ⟨this.2, rfl, fun e => by have := (haLt k e).2; omega⟩
  · obtain ⟨q, hq', hqk⟩ := hk
    obtain ⟨⟨g1, g2⟩, cur, hcur⟩ := hO.u8 q hq' k hqk
    exact ⟨fun e => by have := (haLt k e).1; omega, by omega, cur, cur, (h15 k g2).trans hcur, (h15 k g2).trans hcur, rfl⟩
  · obtain ⟨q, hq', hqk⟩ := hu
    obtain ⟨⟨g1, g2⟩, cur, hcur⟩ := hO.u8 q hq' k hqk
    rcases hk with hk | rfl | hk | hk | ⟨u, hu, hk⟩
    · have := (hbLt k hk).1; omega
    · omega
    · obtain ⟨cs, hcs⟩ := hlt k hk
      rw [hcur] at hcs
      simp at hcs
    · have := (hvb k hk).1; omega
    · have := (hub u hu k hk).1; omega
  · have e1 := hB.trans (hB3.mono hB.size)
    have e2 := e1.trans (hb1.mono e1.size)
    have e3 := e2.trans (hb2.mono e2.size)
    have e4 := e3.trans (hb3.mono e3.size)
    exact e4.trans (hf5.below (fun k e => by have := (hbLt k e).1; have := hB.size; omega) e4.size)

end Go.Proofs.Ytiblnkiecpcdpaa

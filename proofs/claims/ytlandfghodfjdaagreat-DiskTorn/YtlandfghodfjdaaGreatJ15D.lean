/- What a disk tells of its files: the calls of the law's tells. -/
import Derived.Test.YtlandfghodfjdaaGreatJ13E
import Derived.Test.YtlandfghodfjdaaGreatJ14A
import Derived.Test.YtlandfghodfjdaaGreatJ15A
/- The steps of the law of what is sure, on what it keeps. -/
namespace Go.Proofs.YtlandfghodfjdaaGreat
open Go.RowKit
set_option linter.unusedVariables false
set_option linter.unusedSimpArgs false

theorem Qo.fr {w w' : World} {S S' : DS} {k : Nat} (h : Qo w S k) (hf : Fr w (Fp S) w' (Fp S')) : Qo w' S' k ∧ w'.heap[k]? = w.heap[k]? := ⟨⟨Nat.lt_of_lt_of_le h.1 hf.size, (hf.block k h.1 h.2).1⟩, (hf.block k h.1 h.2).2⟩

/-- Behind a write that was OK: what was sure ahead of it, and what its files make of that. -/
structure SuMid (w w' : World) (d room i : Nat) (v : Value) (c : Con) (S : DS) (ns : List ByteArray) (us : List Value) (dw : Int) (nm tt : ByteArray) (z : Int) : Prop where
  dk : Dk w.heap.size w' 0 S
  dd : S.d = d
  fin : ∀ y ∈ S.ps.con, okN y.1
  cfg : S.off = false ∧ S.ain = 0 ∧ S.wr ≤ i ∧ S.room = room
  arm : S.ps.arms
  nms : ns.Perm (c.map (·.1)) ∧ ns.length ≤ 256
  own : w'.ownsRow w.heap.size 74 2 v ns.length (fcells (sureOf c ns) us)
  len : us.length = ns.length
  row : RowsG w' (Qo w' S) us (sureOf c ns)
  apart : ∀ k, v.ownBlock = some k → ¬ Fp S k
  bel : Below w.heap.size w w'
  still : (dw = 2 → 0 ≤ z) ∧ ∀ n, S.ps.con.has n → stillB dw nm tt z (sb c) n (Con.get S.ps.con n).1 = sb S.ps.con n

theorem SuSt.ct {w w1 : World} {d room i : Nat} {v : Value} {S : DS} {ns : List ByteArray} {us : List Value} (h : SuSt w w1 d room i v S ns us) : ns.length ≤ 256 := by
  have h1 := h.nms.1.length_eq
  rw [List.length_map] at h1
  rw [h1]; exact h.dk.ct

theorem SuSt.names {w w1 : World} {d room i : Nat} {v : Value} {S : DS} {ns : List ByteArray} {us : List Value} (h : SuSt w w1 d room i v S ns us) : ns.Perm (S.ps.con.map (·.1)) := by
  rw [con_names]; exact h.nms.1

theorem okN_max {n : ByteArray} (h : okN n) : n.size ≤ maxLen := Nat.le_trans h.2.1 (by unfold maxLen; omega)

theorem names_max {S : DS} (h : ∀ y ∈ S.ps.con, okN y.1) : ∀ x ∈ S.L, x.nm.size ≤ maxLen := fun x hx => okN_max (h _ (con_mem hx))

set_option maxHeartbeats 1000000 in
theorem su_do {w w1 : World} {d room i : Nat} {v : Value} {S : DS} {ns : List ByteArray} {us : List Value} (h : SuSt w w1 d room i v S ns us) (hi : i ≤ 1000000) (dw on : Int) (nm tt : ByteArray) (pb : Option Addr) (nb cb : Nat) (z kp ls : Int) (fl : Value) (bs : List Nat) (hby : ByIn w (.slice pb nb cb) bs) (hn : nb ≤ 1000000000) (hsz : nm.size ≤ 140737488355328 ∧ tt.size ≤ 140737488355328) :
    Calls Tryz.prog 12 #[.pointer (some ⟨d, 0, none⟩), opV dw on nm tt (.slice pb nb cb) z kp ls fl] w1 fun e w2 => ∃ (c : Int) (is : Bool) (S' : DS), e = .returned (.tuple #[.int .i64 c, .bool is]) ∧ Fr w1 (Fp S) w2 (Fp S') ∧ ((is = true ∧ c = 0 ∧ SuMid w w2 d room (i + 1) v S.ps.con S' ns us dw nm tt z) ∨ (¬ (is = true ∧ c = 0) ∧ SuSt w w2 d room i v S' ns us)) := by
  obtain ⟨p', n', c', e, h1, h2, h3, h4, h5, h6⟩ := hby
  simp only [Value.slice.injEq] at e
  obtain ⟨rfl, rfl, rfl⟩ := e
  have hd0 := h.dd
  subst hd0
  refine (do_any w1 h.dk dw on nm tt pb nb cb z kp ls fl bs h5 (isBy_below h4 h.bel) h6 hn hsz.1 hsz.2 h.arm (by have := h.cfg.2.2.1; omega)).mono ?_
  rintro e w2 ⟨c, is, S', rfl, e1, e2, e3, e4⟩
  refine ⟨c, is, S', rfl, e4, ?_⟩
  by_cases hk : is = true ∧ c = 0
  · refine .inl ⟨hk.1, hk.2, ?_⟩
    obtain ⟨rfl, rfl⟩ := hk
    obtain ⟨c', e5, e6⟩ := do_next h.cfg.2.1 e2
    obtain ⟨k1, k2, k4⟩ := still_do (h.dk.fine h.fin) e6
    have c4 : S'.ps.con = c' := by rw [e5]; rfl
    rw [← c4] at k2 k4
    have c0 : S'.off = S.off := congrArg PS.off e5
    have c1 : S'.ain = S.ain - 1 := congrArg PS.ain e5
    have c2 : S'.wr = S.wr + 1 := congrArg PS.wr e5
    have c3 : S'.room = S.room := congrArg PS.room e5
    have c5 : S'.keep = S.keep := congrArg PS.keep e5
    have c6 : S'.lose = S.lose := congrArg PS.lose e5
    have c7 := h.cfg.2.1
    have hA : S'.ps.arms := by
      obtain ⟨_, a2, a3⟩ := h.arm
      refine ⟨by show S'.ain ≤ _; omega, ?_, ?_⟩
      · show _ ≤ S'.keep ∧ S'.keep ≤ _
        rw [c5]; exact a2
      · show _ ≤ S'.lose ∧ S'.lose ≤ _
        rw [c6]; exact a3
    exact ⟨e3, e1.trans h.dd, k4, ⟨c0.trans h.cfg.1, by omega, by rw [c2]; have := h.cfg.2.2.1; omega, c3.trans h.cfg.2.2.2⟩, hA, ⟨h.names, h.ct⟩, ownsRow_keep h.own fun g hg => (e4.block g (h.own.lt g hg).2 (h.apart g hg)).2, h.len, h.row.fr fun k hk => ⟨(hk.fr e4).2, (hk.fr e4).1⟩, fun k hk => (e4.block k (h.own.lt k hk).2 (h.apart k hk)).1, h.bel.trans (e4.below h.dk.fpB h.bel.size), k1, k2⟩
  · exact .inr ⟨hk, h.fr e3 e1 (do_not h.cfg.2.1 e2 hk) e4 (Nat.le_refl _)⟩

theorem SuMid.below {w w2 w3 : World} {d room i : Nat} {v : Value} {c : Con} {S : DS} {ns : List ByteArray} {us : List Value} {dw : Int} {nm tt : ByteArray} {z : Int} (h : SuMid w w2 d room i v c S ns us dw nm tt z) (hb : Below w2.heap.size w2 w3) : SuMid w w3 d room i v c S ns us dw nm tt z :=
  ⟨h.dk.below hb, h.dd, h.fin, h.cfg, h.arm, h.nms, ownsRow_keep h.own fun g hg => hb.block g (h.own.lt g hg).2, h.len, h.row.fr fun k hk => ⟨hb.block k hk.1, Nat.lt_of_lt_of_le hk.1 hb.size, hk.2⟩, h.apart, h.bel.trans (hb.mono h.bel.size), h.still⟩

theorem below_drew (w : World) : Below w.heap.size w w.drew := ⟨rfl, rfl, rfl, Nat.le_refl _, fun _ _ => rfl⟩

/-- The files as the disk has told them. -/
def FilesGot (w : World) (vN : Value) (S : DS) (ys : List Value) (ns : List ByteArray) : Prop := FilesR w vN ys (filesOf S ns) ∧ RowsG w (Qo w S) ys (filesOf S ns) ∧ RowsR w ys (filesOf S ns) ∧ ns.Perm (S.L.map (·.nm)) ∧ inOrder ns

theorem files_got {B : Nat} {S : DS} (w : World) (h : Dk B w 0 S) (hN : ∀ y ∈ S.ps.con, okN y.1) :
    Calls Tryz.prog 10 #[.pointer (some ⟨S.d, 0, none⟩)] w fun e w' => ∃ (p : Option Addr) (n c : Nat), e = .returned (.slice p n c) ∧ ∃ ys ns, n = ns.length ∧ FilesGot w' (.slice p n c) S ys ns ∧ Dk B w' 0 S ∧ Fr w (Fp S) w' (Fp S) := by
  refine (files_any w h (names_max hN)).mono ?_
  rintro e w' ⟨p, n, c, rfl, vals, ns, ⟨h1, h2, h3⟩, h4, h5, h6⟩
  obtain ⟨k1, k2⟩ := h4.toR
  refine ⟨p, n, c, rfl, vals, ns, h1, ⟨k1, fun i hi => ⟨k2 i hi, ?_⟩, k2, h2, h3⟩, h5, h6⟩
  have hl : i < vals.length := by rw [k1.1]; exact hi
  have hv : vals[i]? = some (vals.getD i nilV) := by rw [List.getElem?_eq_getElem hl]; simp [List.getD, List.getElem?_eq_getElem hl]
  obtain ⟨p', l, c', e, q1, q2⟩ := h4.cap _ (List.mem_of_getElem? hv)
  refine ⟨p', l, c', e, q1, q2, fun k hk => ?_⟩
  have := ((h4.row.2 i _ hv).2 k (by rw [e]; exact hk)).1
  exact ⟨this.2, fun hf => by have := h.fpLt k hf; omega⟩

theorem SuMid.files {w w2 : World} {d room i : Nat} {v : Value} {c : Con} {S : DS} {ns : List ByteArray} {us : List Value} {dw : Int} {nm tt : ByteArray} {z : Int} (h : SuMid w w2 d room i v c S ns us dw nm tt z) :
    Calls Tryz.prog 10 #[.pointer (some ⟨d, 0, none⟩)] w2 fun e w3 => ∃ (p : Option Addr) (n k : Nat), e = .returned (.slice p n k) ∧ ∃ ys ns', FilesGot w3 (.slice p n k) S ys ns' ∧ SuMid w w3 d room i v c S ns us dw nm tt z ∧ Fr w2 (Fp S) w3 (Fp S) := by
  have hd0 := h.dd
  subst hd0
  refine (files_got w2 h.dk h.fin).mono ?_
  rintro e w3 ⟨p, n, k, rfl, ys, ns', h1, h2, h3, h4⟩
  exact ⟨p, n, k, rfl, ys, ns', h2, ⟨h3, rfl, h.fin, h.cfg, h.arm, h.nms, ownsRow_keep h.own fun g hg => (h4.block g (h.own.lt g hg).2 (h.apart g hg)).2, h.len, h.row.fr fun k hk => ⟨(hk.fr h4).2, (hk.fr h4).1⟩, h.apart, h.bel.trans (h4.below h.dk.fpB h.bel.size), h.still⟩, h4⟩

theorem filesR_own {w1 : World} {B : Nat} {v : Value} {us : List Value} {fs : List (ByteArray × List Nat)} {n : Nat} (hn : fs.length = n) (h : w1.ownsRow B 74 2 v n (fcells fs us)) (hl : us.length = fs.length) : FilesR w1 v us fs := by
  refine ⟨hl, ?_⟩
  rcases h.2 with ⟨e1, e2⟩ | ⟨g, cap, cur, e1, q1, q2, q3, q4, q5, q6⟩
  · exact ⟨none, 0, by rw [e1, hn, e2], fun i hi => by omega⟩
  · refine ⟨_, cap, by rw [hn]; exact e1, fun i hi => ⟨g, 0, rfl, ?_⟩⟩
    obtain ⟨k1, k2⟩ := fcells_at fs us i hl hi
    rw [← q6, List.getElem?_take, if_pos (by omega)] at k1 k2
    rw [cell_of_row _ _ _ _ _ _ q2, cell_of_row _ _ _ _ _ _ q2]
    exact ⟨by simpa using k1, by simpa using k2⟩

theorem filesOf_len (S : DS) (ns : List ByteArray) : (filesOf S ns).length = ns.length := by unfold filesOf; simp

theorem SuSt.at {w w1 : World} {d room i : Nat} {v : Value} {S : DS} {ns : List ByteArray} {us : List Value} (h : SuSt w w1 d room i v S ns us) (j : Nat) (hj : j < ns.length) :
    ∃ (g : Nat) (n c : Nat) (x : ByteArray) (su : Nat) (pb : Option Addr) (cb : Nat), v = .slice (some ⟨g, 0, none⟩) n c ∧ w1.cell? ⟨g, j * 2, none⟩ = some (.string x) ∧ w1.cell? ⟨g, j * 2 + 1, none⟩ = some (.slice pb su cb) ∧
      ∃ y ∈ S.L, y.nm = x ∧ y.su = su ∧ okN x := by
  have hl : us.length = (sureOf S.ps.con ns).length := by rw [sureOf_len]; exact h.len
  rcases h.own.2 with ⟨e1, e2⟩ | ⟨g, cap, cur, e1, q1, q2, q3, q4, q5, q6⟩
  · omega
  have hj' : j < (sureOf S.ps.con ns).length := by rw [sureOf_len]; exact hj
  obtain ⟨k1, k2⟩ := fcells_at (sureOf S.ps.con ns) us j hl hj'
  rw [← q6, List.getElem?_take, if_pos (by omega)] at k1 k2
  have hx : (sureOf S.ps.con ns).getD j (.empty, []) = (ns[j], sb S.ps.con ns[j]) := by unfold sureOf; simp [List.getD, List.getElem?_eq_getElem hj]
  have hr := (h.row j hj').1
  obtain ⟨pb, cb, eb, _⟩ := by_slice hr
  rw [hx] at k1 eb
  have hm : ns[j] ∈ S.L.map (·.nm) := h.nms.1.subset (List.getElem_mem hj)
  obtain ⟨y, hy, hyn⟩ := List.mem_map.1 hm
  have hsl : (sb S.ps.con ns[j]).length = y.su := by
    rw [sb_len (h.dk.fine h.fin), ← hyn, con_get h.dk hy]
  refine ⟨g, ns.length, cap, ns[j], y.su, pb, cb, e1, ?_, ?_, y, hy, hyn, rfl, ?_⟩
  · rw [cell_of_row _ _ _ _ _ _ q2]; simpa using k1
  · rw [cell_of_row _ _ _ _ _ _ q2]
    have : us.getD j (.slice none 0 0) = .slice pb y.su cb := by rw [← hsl]; exact eb
    rw [this] at k2
    simpa using k2
  · rw [← hyn]; exact h.fin _ (con_mem hy)

theorem SuSt.sure {w w1 : World} {d room i : Nat} {v : Value} {S : DS} {ns : List ByteArray} {us : List Value} (h : SuSt w w1 d room i v S ns us) (x : ByteArray) (su : Nat) (hx : ∃ y ∈ S.L, y.nm = x ∧ y.su = su ∧ okN x) :
    Calls Tryz.prog 42 #[.pointer (some ⟨d, 0, none⟩), .string x] w1 fun e w2 => e = .returned (.tuple #[.int .i64 (su : Int), .int .i64 0]) ∧ SuSt w w2 d room i v S ns us ∧ Fr w1 (Fp S) w2 (Fp S) := by
  obtain ⟨y, hy, rfl, rfl, hok⟩ := hx
  have hd0 := h.dd
  subst hd0
  refine (sure_any w1 h.dk h.cfg.1 y hy hok).mono ?_
  rintro e w2 ⟨rfl, e1, e2⟩
  exact ⟨rfl, h.fr e1 rfl rfl e2 (Nat.le_refl _), e2⟩

theorem SuSt.filesN {w w1 : World} {d room i : Nat} {v : Value} {S : DS} {ns : List ByteArray} {us : List Value} (h : SuSt w w1 d room i v S ns us) :
    Calls Tryz.prog 10 #[.pointer (some ⟨d, 0, none⟩)] w1 fun e w2 => ∃ (p : Option Addr) (c : Nat), e = .returned (.slice p ns.length c) ∧ SuSt w w2 d room i v S ns us ∧ Fr w1 (Fp S) w2 (Fp S) := by
  have hd0 := h.dd
  subst hd0
  refine (files_got w1 h.dk h.fin).mono ?_
  rintro e w2 ⟨p, n, k, rfl, ys, ns', h1, h2, h3, h4⟩
  have : n = ns.length := by rw [h1, h2.2.2.2.1.length_eq, ← h.nms.1.length_eq]
  subst this
  exact ⟨p, k, rfl, h.fr h3 rfl rfl h4 (Nat.le_refl _), h4⟩

/-- When the power has gone: each file is what was sure of it. -/
structure SuEnd (w w' : World) (d : Nat) (v : Value) (L : List (ByteArray × List Nat)) (S : DS) (ns : List ByteArray) (us : List Value) : Prop where
  dk : Dk w.heap.size w' 0 S
  dd : S.d = d
  fin : ∀ y ∈ S.ps.con, okN y.1
  nms : ns.Perm (S.L.map (·.nm)) ∧ inOrder ns
  is : filesOf S ns = L
  own : w'.ownsRow w.heap.size 74 2 v ns.length (fcells L us)
  len : us.length = ns.length
  row : RowsG w' (Qo w' S) us L
  apart : ∀ k, v.ownBlock = some k → ¬ Fp S k
  bel : Below w.heap.size w w'

/-- When the power is about to go. -/
structure SuArm (w w' : World) (d i : Nat) (v : Value) (c : Con) (S : DS) (ns : List ByteArray) (us : List Value) : Prop where
  dk : Dk w.heap.size w' 0 S
  dd : S.d = d
  con : S.ps.con = c
  fine : c.fine
  cfg : S.off = false ∧ S.ain = 1 ∧ S.keep = 0 ∧ S.lose = 1099511627776 ∧ S.wr ≤ i
  nms : ns.Perm (c.map (·.1)) ∧ inOrder ns
  own : w'.ownsRow w.heap.size 74 2 v ns.length (fcells (sureOf c ns) us)
  len : us.length = ns.length
  row : RowsG w' (Qo w' S) us (sureOf c ns)
  apart : ∀ k, v.ownBlock = some k → ¬ Fp S k
  bel : Below w.heap.size w w'

theorem SuSt.armed {w w1 : World} {d room i : Nat} {v : Value} {S : DS} {ns : List ByteArray} {us : List Value} (h : SuSt w w1 d room i v S ns us) :
    Calls Tryz.prog 20 #[.pointer (some ⟨d, 0, none⟩), .int .i64 1, .int .i64 0, .int .i64 1099511627776] w1 fun e w2 => e = .returned (.tuple #[]) ∧ ∃ S' : DS, SuArm w w2 d i v S.ps.con S' ns us := by
  have hd0 := h.dd
  subst hd0
  refine (arm_any w1 h.dk 1 0 1099511627776).mono ?_
  rintro e w2 ⟨rfl, e1, e2⟩
  refine ⟨rfl, _, e1, rfl, rfl, h.dk.fine h.fin, ⟨h.cfg.1, rfl, rfl, rfl, h.cfg.2.2.1⟩, ⟨h.names, h.nms.2⟩, ownsRow_keep h.own fun g hg => (e2.block g (h.own.lt g hg).2 (h.apart g hg)).2, h.len, h.row.fr fun k hk => ⟨(hk.fr e2).2, (hk.fr e2).1⟩, fun k hk => (e2.block k (h.own.lt k hk).2 (h.apart k hk)).1, h.bel.trans (e2.below h.dk.fpB h.bel.size)⟩

theorem SuArm.below {w w1 w2 : World} {d i : Nat} {v : Value} {c : Con} {S : DS} {ns : List ByteArray} {us : List Value} (h : SuArm w w1 d i v c S ns us) (hb : Below w1.heap.size w1 w2) : SuArm w w2 d i v c S ns us :=
  ⟨h.dk.below hb, h.dd, h.con, h.fine, h.cfg, h.nms, ownsRow_keep h.own fun g hg => hb.block g (h.own.lt g hg).2, h.len, h.row.fr fun k hk => ⟨hb.block k hk.1, Nat.lt_of_lt_of_le hk.1 hb.size, hk.2⟩, h.apart, h.bel.trans (hb.mono h.bel.size)⟩

def never : List Nat := [110, 101, 118, 101, 114]

set_option maxHeartbeats 1000000 in
theorem SuArm.append {w w1 : World} {d i : Nat} {v : Value} {c : Con} {S : DS} {ns : List ByteArray} {us : List Value} (h : SuArm w w1 d i v c S ns us) (hi : i ≤ 1000000) (q : Option Addr) (n cb : Nat) (hb : IsBy w1 (.slice q n cb) never) (hn : n = 5) (hnc : n ≤ cb) (hq : q = none → cb = 0) (hfb : ∀ k, (Value.slice q n cb).ownBlock = some k → ¬ Fp S k) :
    Calls Tryz.prog 24 #[.pointer (some ⟨d, 0, none⟩), .string nmA, .slice q n cb] w1 fun e w2 => ∃ z : Int, e = .returned (.int .i64 z) ∧ ((z = 103 ∧ Below w.heap.size w w2) ∨ (z = 104 ∧ ∃ S', SuEnd w w2 d v (sureOf c ns) S' ns us)) := by
  have hd0 := h.dd
  subst hd0
  refine (append_all w1 h.dk nmA (by decide) q n cb never hn hb hfb hnc hq (by decide) (by omega) ⟨by show S.ain ≤ _; rw [h.cfg.2.1]; omega, ⟨by show _ ≤ S.keep; rw [h.cfg.2.2.1]; omega, by show S.keep ≤ _; rw [h.cfg.2.2.1]; omega⟩, by show _ ≤ S.lose; rw [h.cfg.2.2.2.1]; omega, by show S.lose ≤ _; rw [h.cfg.2.2.2.1]; omega⟩ (by have := h.cfg.2.2.2.2; omega)).mono ?_
  rintro e w2 ⟨z, S', rfl, e1, e2, e3, e4⟩
  have hbel : Below w.heap.size w w2 := h.bel.trans (e4.below h.dk.fpB h.bel.size)
  refine ⟨z, rfl, ?_⟩
  rcases e2 with ⟨q1, q2, _⟩ | ⟨_, _, _, q1, _⟩ | ⟨_, _, _, q1, q2⟩
  · exfalso
    rcases q1 with ⟨a, _⟩ | ⟨_, ⟨s, hs, a⟩, _⟩ | ⟨_, _, a⟩
    · rw [show S.ps.off = S.off from rfl, h.cfg.1] at a; cases a
    · rw [List.mem_singleton.1 hs] at a; exact a okA
    · exact q2 a
  · exact .inl ⟨q1, hbel⟩
  · refine .inr ⟨by rw [q1, PS.code_torn (p := S.ps) h.cfg.2.1], S', ?_⟩
    rw [PS.wrote_torn (p := S.ps) h.cfg.2.1, if_neg (by show ¬ 0 < S.keep; rw [h.cfg.2.2.1]; omega), h.con, show S.ps.lose = 1099511627776 from h.cfg.2.2.2.1] at q2
    have hc : S'.ps.con = Con.each c (lostF 1099511627776) := by rw [q2]
    have hnm : S'.L.map (·.nm) = c.map (·.1) := by rw [← con_names, hc, each_names]
    refine ⟨e3, e1.trans h.dd, fun y hy => ?_, ⟨by rw [hnm]; exact h.nms.1, h.nms.2⟩, ?_, ownsRow_keep h.own fun g hg => (e4.block g (h.own.lt g hg).2 (h.apart g hg)).2, h.len, h.row.fr fun k hk => ⟨(hk.fr e4).2, (hk.fr e4).1⟩, fun k hk => (e4.block k (h.own.lt k hk).2 (h.apart k hk)).1, hbel⟩
    · rw [hc] at hy
      obtain ⟨x, hx, rfl⟩ := List.mem_map.1 hy
      exact h.fine.2.2.1 x hx
    · unfold filesOf sureOf
      refine List.map_congr_left fun n _ => ?_
      rw [bytes_con e3, hc, each_lost h.fine]

theorem RowsG.toR {w : World} {Q : Nat → Prop} {us : List Value} {fs : List (ByteArray × List Nat)} (h : RowsG w Q us fs) : RowsR w us fs := fun i hi => (h i hi).1

theorem sureOf_le {c : Con} (h : c.fine) (ns : List ByteArray) : ∀ x ∈ sureOf c ns, x.2.length ≤ 140737488355328 := fun x hx => by
  obtain ⟨n, _, rfl⟩ := List.mem_map.1 hx
  show (sb c n).length ≤ _
  rw [sb_len h]
  have h1 := get_su h n
  by_cases hn : c.has n
  · obtain ⟨y, hy, rfl⟩ := hn
    rw [get_of h.1 hy] at h1 ⊢
    have := h.2.2.2 y hy
    omega
  · rw [get_no hn]; omega

/-- What is left is told. -/
theorem SuEnd.files {w w1 : World} {d : Nat} {v : Value} {L : List (ByteArray × List Nat)} {S : DS} {ns : List ByteArray} {us : List Value} (h : SuEnd w w1 d v L S ns us) :
    Calls Tryz.prog 10 #[.pointer (some ⟨d, 0, none⟩)] w1 fun e w2 => ∃ (p : Option Addr) (n k : Nat), e = .returned (.slice p n k) ∧ ∃ ys, (FilesR w2 (.slice p n k) ys L ∧ RowsR w2 ys L ∧ FilesR w2 v us L ∧ RowsR w2 us L ∧ L.length ≤ 256) ∧ Below w.heap.size w w2 := by
  have hd0 := h.dd
  subst hd0
  refine (files_got w1 h.dk h.fin).mono ?_
  rintro e w2 ⟨p, n, k, rfl, ys, ns', h1, h2, h3, h4⟩
  have hns : ns' = ns := order_uniq (h2.2.2.2.1.trans h.nms.1.symm) h2.2.2.2.2 h.nms.2
  subst hns
  have hL : L.length = ns'.length := by rw [← h.is, filesOf_len]
  have ho : w2.ownsRow w.heap.size 74 2 v ns'.length (fcells L us) := ownsRow_keep h.own fun g hg => (h4.block g (h.own.lt g hg).2 (h.apart g hg)).2
  refine ⟨p, n, k, rfl, ys, ⟨by rw [← h.is]; exact h2.1, by rw [← h.is]; exact h2.2.2.1, filesR_own hL ho (by rw [hL]; exact h.len), (h.row.fr (w' := w2) (Q' := fun _ => True) fun k hk => ⟨(hk.fr h4).2, trivial⟩).toR, ?_⟩, h.bel.trans (h4.below h.dk.fpB h.bel.size)⟩
  have h5 := h.nms.1.length_eq
  rw [List.length_map] at h5
  rw [hL, h5]; exact h.dk.ct

/-- How it begins. -/
theorem su_new (w w1 : World) (hb : Below w.heap.size w w1) (room : Nat) (h1 : 1 ≤ room) (h2 : room ≤ 268435456) :
    Calls Tryz.prog 6 #[.int .i64 (room : Int)] w1 fun e w2 => ∃ (S : DS), e = .returned (.tuple #[.pointer (some ⟨S.d, 0, none⟩), .int .i64 0]) ∧ SuSt w w2 S.d room 0 (.slice none 0 0) S [] [] := by
  refine (new_ok w1 w.heap.size hb.size room h1 h2).mono ?_
  rintro e w2 ⟨S, rfl, e1, e2, e3, e4⟩
  have hc : S.ps.con = [] := by rw [e2]
  have c0 : S.off = false := congrArg PS.off e2
  have c1 : S.ain = 0 := congrArg PS.ain e2
  have c2 : S.wr = 0 := congrArg PS.wr e2
  have c3 : S.room = room := congrArg PS.room e2
  have c4 : S.keep = 0 := congrArg PS.keep e2
  have c5 : S.lose = 0 := congrArg PS.lose e2
  have hL : S.L = [] := by simpa [DS.ps] using hc
  refine ⟨S, rfl, e1, rfl, by rw [hc]; simp, ⟨c0, c1, by omega, c3⟩, ⟨by show S.ain ≤ _; omega, ⟨by show _ ≤ S.keep; omega, by show S.keep ≤ _; omega⟩, by show _ ≤ S.lose; omega, by show S.lose ≤ _; omega⟩, ⟨by rw [hL]; simp, List.Pairwise.nil⟩, World.ownsRow_nil _ _ _ _, rfl, fun i hi => by simp [sureOf] at hi, fun k hk => by simp [Value.ownBlock] at hk, hb.trans (e3.mono hb.size)⟩

end Go.Proofs.YtlandfghodfjdaaGreat

namespace Go.Proofs.YtlandfghodfjdaaGreat
open Go.RowKit
set_option linter.unusedVariables false
set_option linter.unusedSimpArgs false

theorem FilesR.kept {w w' : World} {v : Value} {vals : List Value} {fs : List (ByteArray × List Nat)} (h : FilesR w v vals fs) (hk : ∀ k, v.ownBlock = some k → w'.heap[k]? = w.heap[k]?) : FilesR w' v vals fs := by
  obtain ⟨h1, p, c, rfl, h2⟩ := h
  refine ⟨h1, p, c, rfl, fun i hi => ?_⟩
  obtain ⟨g, o, rfl, k1, k2⟩ := h2 i hi
  have e := hk g rfl
  exact ⟨g, o, rfl, (World.cell?_of_block (w := w) (w' := w') (a := ⟨g, o + i * 2, none⟩) e).trans k1, (World.cell?_of_block (w := w) (w' := w') (a := ⟨g, o + i * 2 + 1, none⟩) e).trans k2⟩

/-- Bytes of the law's own that may be cut. -/
def BSt (w : World) (S : DS) (p : Option Addr) (n c : Nat) (bs : List Nat) : Prop := Cy w p n c bs ∧ ∀ k, (Value.slice p n c).ownBlock = some k → Qo w S k

theorem BSt.fr {w w' : World} {S : DS} {p : Option Addr} {n c : Nat} {bs : List Nat} (h : BSt w S p n c bs) (hf : Fr w (Fp S) w' (Fp S)) : BSt w' S p n c bs :=
  ⟨⟨isBy_keepW h.1.1 fun k hk => ((h.2 k hk).fr hf).2, h.1.2⟩, fun k hk => ((h.2 k hk).fr hf).1⟩

theorem bst_of {w w' : World} {S : DS} {v : Value} {bs : List Nat} {n : Nat} (hn : bs.length = n) (hs : w.heap.size ≤ w'.heap.size) (h : w'.ownsRow w.heap.size 5 1 v n (bytesV bs)) (ha : ∀ k, v.ownBlock = some k → ¬ Fp S k) : ∃ p c, v = .slice p n c ∧ BSt w' S p n c bs := by
  subst hn
  have hO : OB w.heap.size w' bs v w' := ⟨h, Below.refl _ _, hs⟩
  obtain ⟨p, c, rfl, hc⟩ := hO.cy
  exact ⟨p, c, rfl, hc, fun k hk => ⟨(h.lt k hk).2, ha k hk⟩⟩

/-- While the disk tells. -/
structure TeSt (B : Nat) (w wr : World) (S : DS) (v : Value) (ys : List Value) (ns : List ByteArray) (lo : Nat) (vn : Value) : Prop where
  dk : Dk B wr 0 S
  off : S.off = false
  fin : ∀ y ∈ S.ps.con, okN y.1
  fr : Fr w (Fp S) wr (Fp S)
  got : FilesGot wr v S ys ns
  ap : ∀ k, v.ownBlock = some k → Qo wr S k
  row : wr.ownsRow lo 9 1 vn ns.length (ns.map Value.string)
  apn : ∀ k, vn.ownBlock = some k → Qo wr S k

section
variable {B lo : Nat} {w wr : World} {S : DS} {v vn : Value} {ys : List Value} {ns : List ByteArray}

theorem TeSt.to {w2 : World} (h : TeSt B w wr S v ys ns lo vn) (hD : Dk B w2 0 S) (hf : Fr wr (Fp S) w2 (Fp S)) : TeSt B w w2 S v ys ns lo vn := by
  have hg := h.got
  have hrow := hg.2.1.fr (w' := w2) (Q' := Qo w2 S) fun k hk => ⟨(hk.fr hf).2, (hk.fr hf).1⟩
  exact ⟨hD, h.off, h.fin, h.fr.trans hf, ⟨hg.1.kept fun k hk => ((h.ap k hk).fr hf).2, hrow, hrow.toR, hg.2.2.2⟩, fun k hk => ((h.ap k hk).fr hf).1, ownsRow_keep h.row fun k hk => ((h.apn k hk).fr hf).2, fun k hk => ((h.apn k hk).fr hf).1⟩

theorem TeSt.below {w2 : World} (h : TeSt B w wr S v ys ns lo vn) (hb : Below wr.heap.size wr w2) : TeSt B w w2 S v ys ns lo vn := h.to (h.dk.below hb) (Fr.of_below hb)

/-- The file at a place. -/
theorem TeSt.at_ (h : TeSt B w wr S v ys ns lo vn) {i : Nat} (hi : i < ns.length) : ∃ x ∈ S.L, okN x.nm ∧ x.su ≤ x.bs.length ∧ x.bs.length ≤ 268435456 ∧
    (∃ g o c, v = .slice (some ⟨g, o, none⟩) ns.length c ∧ ∃ p k, (∀ w2, TeSt B w w2 S v ys ns lo vn → w2.cell? ⟨g, o + i * 2, none⟩ = some (.string x.nm) ∧ w2.cell? ⟨g, o + i * 2 + 1, none⟩ = some (.slice p x.bs.length k) ∧ IsBy w2 (.slice p x.bs.length k) x.bs)) ∧
    (∃ g c, vn = .slice (some ⟨g, 0, none⟩) ns.length c ∧ ∀ w2, TeSt B w w2 S v ys ns lo vn → w2.cell? ⟨g, i, none⟩ = some (.string x.nm)) := by
  obtain ⟨hF, hG, hR, hp, hi2⟩ := h.got
  have hmem := hp.subset (List.getElem_mem hi)
  obtain ⟨x, hx, e⟩ := List.mem_map.1 hmem
  have hfin := h.dk.fine h.fin
  have hxc : x.con ∈ S.ps.con := con_mem hx
  have hfl : (filesOf S ns).length = ns.length := filesOf_len S ns
  have hfx : (filesOf S ns).getD i (.empty, []) = (x.nm, x.bs) := by
    unfold filesOf
    rw [List.getD_eq_getElem?_getD, List.getElem?_map, List.getElem?_eq_getElem hi]
    show (ns[i], bytesOf S ns[i]) = _
    rw [← e, bytes_of h.dk hx]
  refine ⟨x, hx, h.fin _ hxc, hfin.2.1 _ hxc, h.dk.len_le hx, ?_, ?_⟩
  · obtain ⟨_, pv, cv, rfl, hat⟩ := hF
    obtain ⟨g, o, rfl, _⟩ := hat i (by rw [hfl]; exact hi)
    have hby := hR i (by rw [hfl]; exact hi)
    rw [hfx] at hby
    obtain ⟨pu, ku, hu, _⟩ := by_slice hby
    refine ⟨g, o, cv, by rw [hfl], pu, ku, fun w2 h2 => ?_⟩
    obtain ⟨hF2, _, hR2, _⟩ := h2.got
    obtain ⟨_, p2, c2, e2, hat2⟩ := hF2
    obtain ⟨g2, o2, e3, k1, k2⟩ := hat2 i (by rw [hfl]; exact hi)
    simp only [Value.slice.injEq] at e2
    have e4 := e2.1.trans e3
    simp only [Option.some.injEq, Addr.mk.injEq, and_true] at e4
    obtain ⟨rfl, rfl⟩ := e4
    have hb2 := hR2 i (by rw [hfl]; exact hi)
    rw [hfx] at k1 hb2
    rw [hu] at k2 hb2
    exact ⟨k1, k2, hb2⟩
  · obtain ⟨g, c, cur, rfl, _⟩ := row_at h.row (by omega)
    refine ⟨g, c, rfl, fun w2 h2 => ?_⟩
    obtain ⟨g2, c2, cur2, e2, _, _, hat⟩ := row_at h2.row (by omega)
    simp only [Value.slice.injEq, Option.some.injEq, Addr.mk.injEq, and_true] at e2
    obtain ⟨rfl, -, -⟩ := e2
    exact hat i _ hi (by rw [List.getElem?_map, List.getElem?_eq_getElem hi, ← e]; rfl)

theorem TeSt.read (h : TeSt B w wr S v ys ns lo vn) {x : Fi} (hx : x ∈ S.L) (hok : okN x.nm) :
    Calls Tryz.prog 27 #[.pointer (some ⟨S.d, 0, none⟩), .string x.nm] wr fun e w2 => ∃ p c, e = .returned (.tuple #[.slice p x.bs.length c, .int .i64 0]) ∧ TeSt B w w2 S v ys ns lo vn ∧ BSt w2 S p x.bs.length c x.bs :=
  (read_any wr h.dk h.off x hx hok).mono (by
    rintro e w2 ⟨v2, rfl, ⟨h1, h2⟩, h3, h4⟩
    obtain ⟨p, c, rfl, hb⟩ := bst_of rfl h2.size h3 h4
    exact ⟨p, c, rfl, h.to h1 h2, hb⟩)

theorem TeSt.size (h : TeSt B w wr S v ys ns lo vn) {x : Fi} (hx : x ∈ S.L) (hok : okN x.nm) {pb : Option Addr} {nb cb : Nat} {bs : List Nat} (hb : BSt wr S pb nb cb bs) :
    Calls Tryz.prog 40 #[.pointer (some ⟨S.d, 0, none⟩), .string x.nm] wr fun e w2 => e = .returned (.tuple #[.int .i64 (x.bs.length : Int), .int .i64 0]) ∧ TeSt B w w2 S v ys ns lo vn ∧ BSt w2 S pb nb cb bs :=
  (size_any wr h.dk h.off x hx hok).mono (by
    rintro e w2 ⟨rfl, h1, h2⟩
    exact ⟨rfl, h.to h1 h2, hb.fr h2⟩)

theorem TeSt.readAt (h : TeSt B w wr S v ys ns lo vn) {x : Fi} (hx : x ∈ S.L) (hok : okN x.nm) {k m : Nat} (hkm : k + m = x.bs.length) {pb : Option Addr} {nb cb : Nat} {bs : List Nat} (hb : BSt wr S pb nb cb bs) :
    Calls Tryz.prog 41 #[.pointer (some ⟨S.d, 0, none⟩), .string x.nm, .int .i64 (k : Int), .int .i64 (m : Int)] wr fun e w2 => ∃ p c, e = .returned (.tuple #[.slice p m c, .int .i64 0]) ∧ TeSt B w w2 S v ys ns lo vn ∧ BSt w2 S pb nb cb bs ∧ BSt w2 S p m c (x.bs.drop k) :=
  (readAt_any wr h.dk h.off x hx hok k m (by omega)).mono (by
    rintro e w2 ⟨v2, rfl, ⟨h1, h2⟩, h3, h4⟩
    have e1 : (x.bs.drop k).take m = x.bs.drop k := List.take_of_length_le (by rw [List.length_drop]; omega)
    rw [e1] at h3
    obtain ⟨p, c, rfl, hc⟩ := bst_of (by rw [List.length_drop]; omega) h2.size h3 h4
    exact ⟨p, c, rfl, h.to h1 h2, hb.fr h2, hc⟩)

theorem TeSt.sure (h : TeSt B w wr S v ys ns lo vn) {x : Fi} (hx : x ∈ S.L) (hok : okN x.nm) {pb pc : Option Addr} {nb cb nc cc : Nat} {bs cs : List Nat} (hb : BSt wr S pb nb cb bs) (hc : BSt wr S pc nc cc cs) :
    Calls Tryz.prog 42 #[.pointer (some ⟨S.d, 0, none⟩), .string x.nm] wr fun e w2 => e = .returned (.tuple #[.int .i64 (x.su : Int), .int .i64 0]) ∧ TeSt B w w2 S v ys ns lo vn ∧ BSt w2 S pb nb cb bs ∧ BSt w2 S pc nc cc cs :=
  (sure_any wr h.dk h.off x hx hok).mono (by
    rintro e w2 ⟨rfl, h1, h2⟩
    exact ⟨rfl, h.to h1 h2, hb.fr h2, hc.fr h2⟩)
end

end Go.Proofs.YtlandfghodfjdaaGreat

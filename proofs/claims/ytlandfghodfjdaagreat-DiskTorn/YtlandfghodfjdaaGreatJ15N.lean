/- The law of what holds: what it keeps, and what its calls leave. -/
import Derived.Test.YtlandfghodfjdaaGreatJ15F
import Derived.Test.YtlandfghodfjdaaGreatJ14I
import Derived.Test.YtlandfghodfjdaaGreatJ15E
import Derived.Test.YtlandfghodfjdaaGreatJ12T
namespace Go.Proofs.YtlandfghodfjdaaGreat
open Go.RowKit
set_option linter.unusedVariables false
set_option linter.unusedSimpArgs false

/-- Files that the disk told, kept while it is written to. -/
structure Was (w : World) (S : DS) (v : Value) (ys : List Value) (fs : List (ByteArray × List Nat)) : Prop where
  fr : FilesR w v ys fs
  row : RowsG w (Qo w S) ys fs
  ap : ∀ k, v.ownBlock = some k → Qo w S k

theorem Was.go {w w' : World} {S S' : DS} {v : Value} {ys : List Value} {fs : List (ByteArray × List Nat)} (h : Was w S v ys fs) (hf : Fr w (Fp S) w' (Fp S')) : Was w' S' v ys fs :=
  ⟨h.fr.kept fun k hk => ((h.ap k hk).fr hf).2, h.row.fr fun k hk => ⟨(hk.fr hf).2, (hk.fr hf).1⟩, fun k hk => ((h.ap k hk).fr hf).1⟩

theorem Was.below {w w' : World} {S : DS} {v : Value} {ys : List Value} {fs : List (ByteArray × List Nat)} (h : Was w S v ys fs) (hb : Below w.heap.size w w') : Was w' S v ys fs := h.go (Fr.of_below hb)

theorem Was.rows {w : World} {S : DS} {v : Value} {ys : List Value} {fs : List (ByteArray × List Nat)} (h : Was w S v ys fs) : RowsR w ys fs := fun i hi => (h.row i hi).1

theorem Was.got {w : World} {S : DS} {v : Value} {ys : List Value} {ns : List ByteArray} (h : Was w S v ys (filesOf S ns)) (hp : ns.Perm (S.L.map (·.nm))) (hi : inOrder ns) : FilesGot w v S ys ns := ⟨h.fr, h.row, h.rows, hp, hi⟩

theorem rows_slice {w : World} {ys : List Value} {fs : List (ByteArray × List Nat)} (h : RowsR w ys fs) (i : Nat) (hi : i < fs.length) : ∃ p k c, ys.getD i (.slice none 0 0) = .slice p k c ∧ k = (fs.getD i (.empty, [])).2.length := by
  obtain ⟨p, c, e, _⟩ := by_slice (h i hi)
  exact ⟨p, _, c, e, rfl⟩

/-- The files as the disk tells them, with their row apart from the disk. -/
theorem files_was {B : Nat} {S : DS} (w : World) (h : Dk B w 0 S) (hN : ∀ y ∈ S.ps.con, okN y.1) :
    Calls Tryz.prog 10 #[.pointer (some ⟨S.d, 0, none⟩)] w fun e w' => ∃ (p : Option Addr) (n c : Nat), e = .returned (.slice p n c) ∧ ∃ ys ns, n = ns.length ∧ Was w' S (.slice p n c) ys (filesOf S ns) ∧ ns.Perm (S.L.map (·.nm)) ∧ inOrder ns ∧ Dk B w' 0 S ∧ Fr w (Fp S) w' (Fp S) ∧ ∀ k, (Value.slice p n c).ownBlock = some k → w.heap.size ≤ k := by
  refine (files_any w h (names_max hN)).mono ?_
  rintro e w' ⟨p, n, c, rfl, vals, ns, ⟨h1, h2, h3⟩, h4, h5, h6⟩
  obtain ⟨k1, k2⟩ := h4.toR
  refine ⟨p, n, c, rfl, vals, ns, h1, ⟨k1, fun i hi => ⟨k2 i hi, ?_⟩, fun k hk => ?_⟩, h2, h3, h5, h6, fun k hk => (h4.own.lt k hk).1⟩
  · have hl : i < vals.length := by rw [k1.1]; exact hi
    have hv : vals[i]? = some (vals.getD i nilV) := by rw [List.getElem?_eq_getElem hl]; simp [List.getD, List.getElem?_eq_getElem hl]
    obtain ⟨p', l, c', e, q1, q2⟩ := h4.cap _ (List.mem_of_getElem? hv)
    refine ⟨p', l, c', e, q1, q2, fun k hk => ?_⟩
    have := ((h4.row.2 i _ hv).2 k (by rw [e]; exact hk)).1
    exact ⟨this.2, fun hf => by have := h.fpLt k hf; omega⟩
  · have := h4.own.lt k hk
    exact ⟨this.2, fun hf => by have := h.fpLt k hf; omega⟩

/-- What the law of what holds keeps between two calls. -/
structure HoSt (w w' : World) (d room i : Nat) (S : DS) : Prop where
  dk : Dk w.heap.size w' 0 S
  dd : S.d = d
  fin : ∀ y ∈ S.ps.con, okN y.1
  cfg : S.off = false ∧ S.ain = 0 ∧ S.wr ≤ i ∧ S.room = room
  arm : S.ps.arms
  bel : Below w.heap.size w w'

section
variable {w w1 w2 : World} {d room i : Nat} {S : DS}

theorem HoSt.fr (h : HoSt w w1 d room i S) (hD : Dk w.heap.size w2 0 S) (hf : Fr w1 (Fp S) w2 (Fp S)) : HoSt w w2 d room i S :=
  ⟨hD, h.dd, h.fin, h.cfg, h.arm, h.bel.trans (hf.below h.dk.fpB h.bel.size)⟩

theorem HoSt.below (h : HoSt w w1 d room i S) (hb : Below w1.heap.size w1 w2) : HoSt w w2 d room i S := h.fr (h.dk.below hb) (Fr.of_below hb)

theorem HoSt.files (h : HoSt w w1 d room i S) :
    Calls Tryz.prog 10 #[.pointer (some ⟨d, 0, none⟩)] w1 fun e w2 => ∃ (p : Option Addr) (n c : Nat), e = .returned (.slice p n c) ∧ ∃ ys ns, n = ns.length ∧ Was w2 S (.slice p n c) ys (filesOf S ns) ∧ ns.Perm (S.L.map (·.nm)) ∧ inOrder ns ∧ HoSt w w2 d room i S ∧ Fr w1 (Fp S) w2 (Fp S) := by
  have hd0 := h.dd
  subst hd0
  refine (files_was w1 h.dk h.fin).mono ?_
  rintro e w2 ⟨p, n, c, rfl, ys, ns, h1, h2, h3, h4, h5, h6, _⟩
  exact ⟨p, n, c, rfl, ys, ns, h1, h2, h3, h4, h.fr h5 h6, h6⟩

theorem HoSt.writes (h : HoSt w w1 d room i S) :
    Calls Tryz.prog 11 #[.pointer (some ⟨d, 0, none⟩)] w1 fun e w2 => e = .returned (.int .i64 (S.wr : Int)) ∧ HoSt w w2 d room i S ∧ Fr w1 (Fp S) w2 (Fp S) := by
  have hd0 := h.dd
  subst hd0
  refine (writes_any w1 h.dk).mono ?_
  rintro e w2 ⟨rfl, h1, h2⟩
  exact ⟨rfl, h.fr h1 h2, h2⟩

theorem HoSt.ct (h : HoSt w w1 d room i S) {ns : List ByteArray} (hp : ns.Perm (S.L.map (·.nm))) : ns.length = S.L.length ∧ ns.length ≤ 256 := by
  have h1 := hp.length_eq
  rw [List.length_map] at h1
  exact ⟨h1, by rw [h1]; exact h.dk.ct⟩

theorem HoSt.tells (h : HoSt w w1 d room i S) {pv : Option Addr} {n cv : Nat} {ys : List Value} {ns : List ByteArray} (hW : Was w1 S (.slice pv n cv) ys (filesOf S ns)) (hp : ns.Perm (S.L.map (·.nm))) (ho : inOrder ns) (hn : n = ns.length) :
    Calls Tryz.prog 17 #[.pointer (some ⟨d, 0, none⟩), .slice pv n cv] w1 fun e w2 => e = .returned (.bool true) ∧ HoSt w w2 d room i S := by
  have hd0 := h.dd
  subst hd0
  refine (tells_any w1 S pv n cv ys ns h.dk h.cfg.1 h.fin (hW.got hp ho) hW.ap hn).mono ?_
  rintro e w2 ⟨rfl, h1, h2⟩
  exact ⟨rfl, h.fr h1 h2⟩

/-- What a write tells and leaves. -/
def HoR (S S' : DS) (dw : Int) (nm tt : ByteArray) (bs : List Nat) (z c : Int) (is : Bool) : Prop :=
  (is = false ∧ S'.ps = S.ps) ∨
  (is = true ∧ ¬ c = 0 ∧ S'.ps = S.ps ∧ (c = 103 → dw = 1 ∧ ¬ ((S.ps.con.has nm ∨ S.L.length < 256) ∧ bs.length + tot S.L ≤ S.room))) ∨
  (is = true ∧ c = 0 ∧ S'.wr = S.wr + 1 ∧ DoH S.ps.con dw nm tt bs z S'.ps.con)

theorem refs_103 {off : Bool} {l : List ByteArray} (h : Refs off l 103) : False := by
  rcases h with ⟨_, h⟩ | ⟨_, _, h⟩ | ⟨_, _, h⟩ <;> exact absurd h (by decide)

theorem findC_103 {p : PS} {nm : ByteArray} (h : FindC p nm 103) : False := by
  rcases h with ⟨_, h | ⟨_, _, _, h⟩⟩
  · exact refs_103 h
  · exact absurd h (by decide)

theorem full_why {p p' : PS} {dw : Int} {nm tt : ByteArray} {bs : List Nat} {z : Int} (ha : p.ain = 0) (h : DoR p dw nm tt bs z 103 true p') : dw = 1 ∧ ¬ ((p.con.has nm ∨ p.con.length < 256) ∧ bs.length + Con.tot p.con ≤ p.room) := by
  have hc : p.code = 0 := if_neg (by omega)
  rcases h with ⟨hd, _, h⟩ | ⟨_, _, h⟩ | ⟨_, _, h⟩ | ⟨_, _, h⟩ | ⟨_, _, h⟩ | ⟨_, h, _⟩
  · rcases h with ⟨h, _⟩ | ⟨_, _, h, _⟩ | ⟨_, _, _, h, _⟩
    · exact (refs_103 h).elim
    · exact ⟨hd, h⟩
    · rw [hc] at h; exact absurd h (by decide)
  · rcases h with ⟨h, _⟩ | ⟨_, _, _, _, _, h⟩
    · exact (findC_103 h).elim
    · rcases h with ⟨_, h, _⟩ | ⟨_, h, _⟩
      · exact absurd h (by decide)
      · rw [hc] at h; exact absurd h (by decide)
  · rcases h with ⟨h, _⟩ | ⟨_, _, _, _, h, _⟩ | ⟨_, _, _, _, h, _⟩
    · exact (refs_103 h).elim
    · exact absurd h (by decide)
    · rw [hc] at h; exact absurd h (by decide)
  · rcases h with ⟨h, _⟩ | ⟨_, _, _, h, _⟩
    · exact (findC_103 h).elim
    · rw [hc] at h; exact absurd h (by decide)
  · rcases h with ⟨h, _⟩ | ⟨_, _, _, h, _⟩
    · exact (findC_103 h).elim
    · rw [hc] at h; exact absurd h (by decide)
  · exact absurd h (by decide)

set_option maxHeartbeats 1000000 in
theorem HoSt.doit (h : HoSt w w1 d room i S) (hi : i ≤ 1000000) (dw on : Int) (nm tt : ByteArray) (pb : Option Addr) (nb cb : Nat) (z kp ls : Int) (fl : Value) (bs : List Nat) (hby : ByIn w (.slice pb nb cb) bs) (hn : nb ≤ 1000000000) (hsz : nm.size ≤ 140737488355328 ∧ tt.size ≤ 140737488355328) :
    Calls Tryz.prog 12 #[.pointer (some ⟨d, 0, none⟩), opV dw on nm tt (.slice pb nb cb) z kp ls fl] w1 fun e w2 => ∃ (c : Int) (is : Bool) (S' : DS), e = .returned (.tuple #[.int .i64 c, .bool is]) ∧ Fr w1 (Fp S) w2 (Fp S') ∧ HoSt w w2 d room (i + 1) S' ∧ HoR S S' dw nm tt bs z c is := by
  obtain ⟨p', n', c', e, h1, h2, h3, h4, h5, h6⟩ := hby
  simp only [Value.slice.injEq] at e
  obtain ⟨rfl, rfl, rfl⟩ := e
  have hd0 := h.dd
  subst hd0
  refine (do_any w1 h.dk dw on nm tt pb nb cb z kp ls fl bs h5 (isBy_below h4 h.bel) h6 hn hsz.1 hsz.2 h.arm (by have := h.cfg.2.2.1; omega)).mono ?_
  rintro e w2 ⟨c, is, S', rfl, e1, e2, e3, e4⟩
  refine ⟨c, is, S', rfl, e4, ?_⟩
  by_cases hk : is = true ∧ c = 0
  · obtain ⟨rfl, rfl⟩ := hk
    obtain ⟨c', e5, e6⟩ := doH_of h.cfg.2.1 (h.dk.fine h.fin) (by omega) e2
    obtain ⟨c2', e7, e8⟩ := do_next h.cfg.2.1 e2
    obtain ⟨_, _, k4⟩ := still_do (h.dk.fine h.fin) e8
    have c4 : S'.ps.con = c' := by rw [e5]; rfl
    have c8 : S'.ps.con = c2' := by rw [e7]; rfl
    rw [← c8] at k4
    have c0 : S'.off = S.off := congrArg PS.off e5
    have c1 : S'.ain = S.ain - 1 := congrArg PS.ain e5
    have c2 : S'.wr = S.wr + 1 := congrArg PS.wr e5
    have c3 : S'.room = S.room := congrArg PS.room e5
    have c5 : S'.keep = S.keep := congrArg PS.keep e5
    have c6 : S'.lose = S.lose := congrArg PS.lose e5
    have c7 := h.cfg.2.1
    have hA : S'.ps.arms := by
      obtain ⟨_, a2, a3⟩ := h.arm
      refine ⟨by show S'.ain ≤ _; omega, ?_, ?_⟩
      · show _ ≤ S'.keep ∧ S'.keep ≤ _
        rw [c5]; exact a2
      · show _ ≤ S'.lose ∧ S'.lose ≤ _
        rw [c6]; exact a3
    exact ⟨⟨e3, e1, k4, ⟨c0.trans h.cfg.1, by omega, by rw [c2]; have := h.cfg.2.2.1; omega, c3.trans h.cfg.2.2.2⟩, hA, h.bel.trans (e4.below h.dk.fpB h.bel.size)⟩, .inr (.inr ⟨rfl, rfl, c2, by rw [c4]; exact e6⟩)⟩
  · have hp : S'.ps = S.ps := do_not h.cfg.2.1 e2 hk
    have c0 : S'.off = S.off := congrArg PS.off hp
    have c1 : S'.ain = S.ain := congrArg PS.ain hp
    have c2 : S'.wr = S.wr := congrArg PS.wr hp
    have c3 : S'.room = S.room := congrArg PS.room hp
    refine ⟨⟨e3, e1, by rw [hp]; exact h.fin, ⟨c0.trans h.cfg.1, c1.trans h.cfg.2.1, by rw [c2]; have := h.cfg.2.2.1; omega, c3.trans h.cfg.2.2.2⟩, by rw [hp]; exact h.arm, h.bel.trans (e4.below h.dk.fpB h.bel.size)⟩, ?_⟩
    cases is with
    | false => exact .inl ⟨rfl, hp⟩
    | true =>
      refine .inr (.inl ⟨rfl, fun e => hk ⟨rfl, e⟩, hp, fun e => ?_⟩)
      subst e
      obtain ⟨k1, k2⟩ := full_why h.cfg.2.1 e2
      refine ⟨k1, fun k3 => k2 ⟨?_, ?_⟩⟩
      · have : S.ps.con.length = S.L.length := by unfold DS.ps; simp
        rw [this]; exact k3.1
      · rw [tot_con] at k3; exact k3.2
end

theorem totB_permH {a b : List (ByteArray × List Nat)} (h : a.Perm b) : totB a = totB b := by
  induction h with
  | nil => rfl
  | cons x _ ih => show x.2.length + _ = x.2.length + _; rw [ih]
  | swap x y l => show y.2.length + (x.2.length + totB l) = x.2.length + (y.2.length + totB l); omega
  | trans _ _ h1 h2 => exact h1.trans h2

theorem totB_L : ∀ l : List Fi, totB (l.map fun x => (x.nm, x.bs)) = tot l
  | [] => rfl
  | x :: l => by show x.bs.length + totB _ = x.bs.length + tot l; rw [totB_L l]

theorem files_perm {B : Nat} {w : World} {lk : Int} {S : DS} (h : Dk B w lk S) {ns : List ByteArray} (hp : ns.Perm (S.L.map (·.nm))) : (filesOf S ns).Perm (S.L.map fun x => (x.nm, x.bs)) := by
  have h1 : (filesOf S ns).Perm (filesOf S (S.L.map (·.nm))) := hp.map _
  have h2 : filesOf S (S.L.map (·.nm)) = S.L.map fun x => (x.nm, x.bs) := by
    unfold filesOf
    rw [List.map_map]
    refine List.map_congr_left fun x hx => ?_
    show (x.nm, bytesOf S x.nm) = _
    rw [bytes_of h hx]
  rw [h2] at h1
  exact h1

theorem files_tot {B : Nat} {w : World} {lk : Int} {S : DS} (h : Dk B w lk S) {ns : List ByteArray} (hp : ns.Perm (S.L.map (·.nm))) : totB (filesOf S ns) = tot S.L := by
  rw [totB_permH (files_perm h hp), totB_L]

/-- Disks that hold the same tell the same files. -/
theorem files_same {B B' : Nat} {w w' : World} {lk lk' : Int} {S S' : DS} (h : Dk B w lk S) (h' : Dk B' w' lk' S') {ns ns' : List ByteArray} (hp : ns.Perm (S.L.map (·.nm))) (hp' : ns'.Perm (S'.L.map (·.nm))) (ho : inOrder ns) (ho' : inOrder ns')
    (hh : ∀ n, S'.ps.con.has n ↔ S.ps.con.has n) (hg : ∀ n, (Con.get S'.ps.con n).1 = (Con.get S.ps.con n).1) : ns' = ns ∧ filesOf S' ns' = filesOf S ns := by
  have hn : ns' = ns := by
    refine order_uniq ?_ ho' ho
    rw [List.perm_ext_iff_of_nodup (hp'.nodup_iff.2 h'.nd) (hp.nodup_iff.2 h.nd)]
    intro n
    rw [hp'.mem_iff, hp.mem_iff]
    have k1 := hh n
    rw [has_iff, has_iff] at k1
    constructor
    · intro hm
      obtain ⟨x, hx, e⟩ := List.mem_map.1 hm
      obtain ⟨y, hy, e2⟩ := k1.1 ⟨x, hx, e⟩
      exact List.mem_map.2 ⟨y, hy, e2⟩
    · intro hm
      obtain ⟨x, hx, e⟩ := List.mem_map.1 hm
      obtain ⟨y, hy, e2⟩ := k1.2 ⟨x, hx, e⟩
      exact List.mem_map.2 ⟨y, hy, e2⟩
  refine ⟨hn, ?_⟩
  subst hn
  unfold filesOf
  refine List.map_congr_left fun n _ => ?_
  rw [bytes_con h', bytes_con h, hg]

theorem files_le {B : Nat} {w : World} {lk : Int} {S : DS} (h : Dk B w lk S) (ns : List ByteArray) : ∀ x ∈ filesOf S ns, x.2.length ≤ 268435456 := fun x hx => by
  obtain ⟨n, _, rfl⟩ := List.mem_map.1 hx
  show (bytesOf S n).length ≤ _
  by_cases hh : ∃ y ∈ S.L, y.nm = n
  · obtain ⟨y, hy, rfl⟩ := hh
    rw [bytes_of h hy]
    exact h.len_le hy
  · rw [bytes_con h, get_no fun e => hh ((has_iff S n).1 e)]
    exact Nat.zero_le _

end Go.Proofs.YtlandfghodfjdaaGreat

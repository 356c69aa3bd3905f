/- The law's goes: what it keeps, and what its calls leave. -/
import Derived.Test.YtlandfghodfjdaaGreatJ16E
import Derived.Test.YtlandfghodfjdaaGreatJ16D
import Derived.Test.YtlandfghodfjdaaGreatJ16H
import Derived.Test.YtlandfghodfjdaaGreatJ15J
namespace Go.Proofs.YtlandfghodfjdaaGreat
open Go.RowKit
set_option linter.unusedVariables false
set_option linter.unusedSimpArgs false

theorem op_fl {w : World} {b o : Nat} {dw on : Int} {nm tt : ByteArray} {pb : Option Addr} {nb cb : Nat} {z kp ls : Int} {fl : Value} {bs : List Nat} (h : OpIn w b o dw on nm tt pb nb cb z kp ls fl bs) : ∃ pf nf cf, fl = .slice pf nf cf := by
  obtain ⟨vals, fs, ⟨_, p, c, rfl, _⟩, _⟩ := h.fl_
  exact ⟨p, _, c, rfl⟩

theorem size_op {w0 w : World} {b o : Nat} {dw on : Int} {nm tt : ByteArray} {pb : Option Addr} {nb cb : Nat} {z kp ls : Int} {fl : Value} {bs : List Nat} (h0 : OpIn w0 b o dw on nm tt pb nb cb z kp ls fl bs) (hB : Below w0.heap.size w0 w) :
    Calls Tryz.prog 9 #[opV dw on nm tt (.slice pb nb cb) z kp ls fl] w fun e w' => (∃ r : Nat, e = .returned (.int .i64 (r : Int)) ∧ nb + nm.size + tt.size ≤ r ∧ r ≤ 1000000000000000) ∧ Below w.heap.size w w' := by
  have h := h0.below hB
  obtain ⟨vals, fs, hfa, hfc, hfd⟩ := h.fl_
  obtain ⟨_, _, _, e, h1, h2, _⟩ := h.by_
  simp only [Value.slice.injEq] at e
  obtain ⟨-, rfl, -⟩ := e
  refine size10_any dw on nm tt pb nb cb z kp ls _ vals fs _ hfa (by omega) (by omega) (by have := h.sz.1; omega) (by have := h.sz.2; omega) fun j hj => ?_
  obtain ⟨k1, p', n', c', k2, k3, _⟩ := hfd j hj
  exact ⟨by omega, p', n', c', k2, by omega⟩

/-- A disk whose files were told, while nothing of it changes. -/
structure GfS (w0 w : World) (db : Nat) (p0 : PS) (v : Value) (ys : List Value) (fs : List (ByteArray × List Nat)) (T : DS) : Prop where
  dk : Dk w0.heap.size w 0 T
  dd : T.d = db
  ps : T.ps = p0
  was : Was w T v ys fs
  is : ∃ ns, ns.Perm (T.L.map (·.nm)) ∧ inOrder ns ∧ filesOf T ns = fs
  bel : Below w0.heap.size w0 w

section
variable {w0 w w1 w2 : World} {db : Nat} {p0 : PS} {v : Value} {ys : List Value} {fs : List (ByteArray × List Nat)} {T T' : DS}

theorem GfS.step (h : GfS w0 w1 db p0 v ys fs T) (hD : Dk w0.heap.size w2 0 T') (hd : T'.d = T.d) (hp : T'.ps = T.ps) (hf : Fr w1 (Fp T) w2 (Fp T')) : GfS w0 w2 db p0 v ys fs T' := by
  refine ⟨hD, hd.trans h.dd, hp.trans h.ps, h.was.go hf, ?_, h.bel.trans (hf.below h.dk.fpB h.bel.size)⟩
  obtain ⟨ns, k1, k2, k3⟩ := h.is
  refine ⟨ns, ?_, k2, ?_⟩
  · rw [← con_names, hp, con_names]; exact k1
  · rw [← k3]
    unfold filesOf
    refine List.map_congr_left fun n _ => ?_
    rw [bytes_con hD, bytes_con h.dk, hp]

theorem GfS.below (h : GfS w0 w1 db p0 v ys fs T) (hb : Below w1.heap.size w1 w2) : GfS w0 w2 db p0 v ys fs T := h.step (h.dk.below hb) rfl rfl (Fr.of_below hb)

theorem gf_start (w : World) (hD : Dk w0.heap.size w 0 T) (hd : T.d = db) (hp : T.ps = p0) (fin : ∀ y ∈ p0.con, okN y.1) (hb : Below w0.heap.size w0 w) :
    Calls Tryz.prog 10 #[.pointer (some ⟨db, 0, none⟩)] w fun e w2 => ∃ (p : Option Addr) (n c : Nat), e = .returned (.slice p n c) ∧ ∃ ys fs, GfS w0 w2 db p0 (.slice p n c) ys fs T := by
  subst hd
  refine (files_was w hD (by rw [hp]; exact fin)).mono ?_
  rintro e w2 ⟨p, n, c, rfl, ys, ns, h1, h2, h3, h4, h5, h6, _⟩
  exact ⟨p, n, c, rfl, ys, _, h5, rfl, hp, h2, ⟨ns, h3, h4, rfl⟩, hb.trans (h6.below hD.fpB hb.size)⟩

theorem GfS.writes (h : GfS w0 w1 db p0 v ys fs T) : Calls Tryz.prog 11 #[.pointer (some ⟨db, 0, none⟩)] w1 fun e w2 => e = .returned (.int .i64 (p0.wr : Int)) ∧ GfS w0 w2 db p0 v ys fs T := by
  have hd0 := h.dd
  subst hd0
  refine (writes_any w1 h.dk).mono ?_
  rintro e w2 ⟨rfl, h1, h2⟩
  have e0 : T.wr = p0.wr := congrArg PS.wr h.ps
  exact ⟨by rw [e0], h.step h1 rfl rfl h2⟩

theorem GfS.doit (h : GfS w0 w1 db p0 v ys fs T) (hoff : p0.off = true) (harm : p0.arms) (hwr : p0.wr ≤ 1000000000) (dw on : Int) (nm tt : ByteArray) (pb : Option Addr) (nb cb : Nat) (z kp ls : Int) (fl : Value) (bs : List Nat) (hby : ByIn w0 (.slice pb nb cb) bs) (hsz : nm.size ≤ 140737488355328 ∧ tt.size ≤ 140737488355328) :
    Calls Tryz.prog 12 #[.pointer (some ⟨db, 0, none⟩), opV dw on nm tt (.slice pb nb cb) z kp ls fl] w1 fun e w2 => ∃ (c : Int) (is : Bool) (T' : DS), e = .returned (.tuple #[.int .i64 c, .bool is]) ∧ GfS w0 w2 db p0 v ys fs T' ∧ (is = true → c = 104) := by
  obtain ⟨p', n', c', e, h1, h2, h3, h4, h5, h6⟩ := hby
  simp only [Value.slice.injEq] at e
  obtain ⟨rfl, rfl, rfl⟩ := e
  have hd0 := h.dd
  subst hd0
  have e0 : T.wr = p0.wr := congrArg PS.wr h.ps
  refine (do_anyB w1 h.dk dw on nm tt pb nb cb z kp ls fl bs h5 (isBy_below h4 h.bel) h6 h1 hsz.1 hsz.2 (by rw [h.ps]; exact harm) (by rw [e0]; exact hwr)).mono ?_
  rintro e w2 ⟨c, is, T', rfl, e1, e2, e3, e4⟩
  have ho : T.ps.off = true := by rw [h.ps]; exact hoff
  refine ⟨c, is, T', rfl, ?_⟩
  by_cases hop : 1 ≤ dw ∧ dw ≤ 5
  · obtain ⟨rfl, vv, hv, k⟩ := doR_vd (con_nodup h.dk) hop e2
    have hv2 : vv = 104 := vd_one hv (.inl ⟨ho, rfl⟩)
    subst hv2
    rcases k with ⟨k, _⟩ | ⟨_, k1, k2⟩
    · exact absurd k (by decide)
    · exact ⟨h.step e3 e1 k2 e4, fun _ => k1⟩
  · obtain ⟨rfl, rfl, k⟩ := doR_not hop e2
    exact ⟨h.step e3 e1 k e4, fun e => absurd e (by decide)⟩

theorem off_not {S : DS} {P : Prop} (h : S.off = true) : ¬ (S.off = false ∧ P) := fun e => by rw [h] at e; exact absurd e.1 (by decide)

theorem GfS.off (h : GfS w0 w1 db p0 v ys fs T) (hoff : p0.off = true) : T.off = true := (congrArg PS.off h.ps).trans hoff

theorem GfS.read (h : GfS w0 w1 db p0 v ys fs T) (hoff : p0.off = true) (nm : ByteArray) (hz : nm.size ≤ 140737488355328) : Calls Tryz.prog 27 #[.pointer (some ⟨db, 0, none⟩), .string nm] w1 fun e w2 => e = .returned (.tuple #[.slice none 0 0, .int .i64 104]) ∧ GfS w0 w2 db p0 v ys fs T := by
  have hd0 := h.dd
  subst hd0
  refine (read_none w1 h.dk nm hz (off_not (h.off hoff))).mono ?_
  rintro e w2 ⟨⟨c, rfl, hc⟩, h1, h2⟩
  exact ⟨by rw [findC_off hc (by rw [h.ps]; exact hoff)], h.step h1 rfl rfl h2⟩

theorem GfS.readAt (h : GfS w0 w1 db p0 v ys fs T) (hoff : p0.off = true) (nm : ByteArray) (hz : nm.size ≤ 140737488355328) (k m : Int) : Calls Tryz.prog 41 #[.pointer (some ⟨db, 0, none⟩), .string nm, .int .i64 k, .int .i64 m] w1 fun e w2 => e = .returned (.tuple #[.slice none 0 0, .int .i64 104]) ∧ GfS w0 w2 db p0 v ys fs T := by
  have hd0 := h.dd
  subst hd0
  refine (readAt_none w1 h.dk nm hz k m (off_not (h.off hoff))).mono ?_
  rintro e w2 ⟨⟨c, rfl, hc⟩, h1, h2⟩
  exact ⟨by rw [findC_off hc (by rw [h.ps]; exact hoff)], h.step h1 rfl rfl h2⟩

theorem GfS.size (h : GfS w0 w1 db p0 v ys fs T) (hoff : p0.off = true) (nm : ByteArray) (hz : nm.size ≤ 140737488355328) : Calls Tryz.prog 40 #[.pointer (some ⟨db, 0, none⟩), .string nm] w1 fun e w2 => e = .returned (.tuple #[.int .i64 0, .int .i64 104]) ∧ GfS w0 w2 db p0 v ys fs T := by
  have hd0 := h.dd
  subst hd0
  refine (size_none w1 h.dk nm hz (off_not (h.off hoff))).mono ?_
  rintro e w2 ⟨⟨c, rfl, hc⟩, h1, h2⟩
  exact ⟨by rw [findC_off hc (by rw [h.ps]; exact hoff)], h.step h1 rfl rfl h2⟩

theorem GfS.sure (h : GfS w0 w1 db p0 v ys fs T) (hoff : p0.off = true) (nm : ByteArray) (hz : nm.size ≤ 140737488355328) : Calls Tryz.prog 42 #[.pointer (some ⟨db, 0, none⟩), .string nm] w1 fun e w2 => e = .returned (.tuple #[.int .i64 0, .int .i64 104]) ∧ GfS w0 w2 db p0 v ys fs T := by
  have hd0 := h.dd
  subst hd0
  refine (sure_none w1 h.dk nm hz (off_not (h.off hoff))).mono ?_
  rintro e w2 ⟨⟨c, rfl, hc⟩, h1, h2⟩
  exact ⟨by rw [findC_off hc (by rw [h.ps]; exact hoff)], h.step h1 rfl rfl h2⟩

theorem GfS.names (h : GfS w0 w1 db p0 v ys fs T) (hoff : p0.off = true) : Calls Tryz.prog 39 #[.pointer (some ⟨db, 0, none⟩)] w1 fun e w2 => e = .returned (.tuple #[.slice none 0 0, .int .i64 104]) ∧ GfS w0 w2 db p0 v ys fs T := by
  have hd0 := h.dd
  subst hd0
  refine (names_off w1 h.dk (h.off hoff)).mono ?_
  rintro e w2 ⟨rfl, h1, h2⟩
  exact ⟨rfl, h.step h1 rfl rfl h2⟩

/-- The files are told again. -/
theorem GfS.files (h : GfS w0 w1 db p0 v ys fs T) (fin : ∀ y ∈ p0.con, okN y.1) :
    Calls Tryz.prog 10 #[.pointer (some ⟨db, 0, none⟩)] w1 fun e w2 => ∃ (p : Option Addr) (n c : Nat), e = .returned (.slice p n c) ∧ ∃ ys', FilesR w2 (.slice p n c) ys' fs ∧ RowsR w2 ys' fs ∧ GfS w0 w2 db p0 v ys fs T := by
  have hd0 := h.dd
  subst hd0
  refine (files_was w1 h.dk (by rw [h.ps]; exact fin)).mono ?_
  rintro e w2 ⟨p, n, c, rfl, ys', ns', h1, h2, h3, h4, h5, h6, _⟩
  obtain ⟨ns, k1, k2, k3⟩ := h.is
  have hns : ns' = ns := order_uniq (h3.trans k1.symm) h4 k2
  subst hns
  rw [k3] at h2
  exact ⟨p, n, c, rfl, ys', h2.fr, h2.rows, h.step h5 rfl rfl h6⟩

theorem GfS.eq (h : GfS w0 w1 db p0 v ys fs T) {v' : Value} {ys' : List Value} (ha : FilesR w1 v' ys' fs) (ra : RowsR w1 ys' fs) :
    Calls Tryz.prog 14 #[v', v] w1 fun e w2 => e = .returned (.bool true) ∧ GfS w0 w2 db p0 v ys fs T := by
  obtain ⟨ns, k1, k2, k3⟩ := h.is
  have hl : fs.length ≤ 1000000 := by
    rw [← k3, filesOf_len, k1.length_eq, List.length_map]; have := h.dk.ct; omega
  refine (eqFiles_same v' v ys' ys fs w1 ha h.was.fr ra h.was.rows hl fun x hx => by rw [← k3] at hx; have := files_le h.dk ns x hx; omega).mono ?_
  rintro e w2 ⟨rfl, hb⟩
  exact ⟨rfl, h.below hb⟩

/-- How it goes on when the power is on again. -/
def onP (p : PS) : PS := { p with con := Con.each p.con sureF, off := false }

theorem GfS.on (h : GfS w0 w1 db p0 v ys fs T) (hoff : p0.off = true) : Calls Tryz.prog 26 #[.pointer (some ⟨db, 0, none⟩)] w1 fun e w2 => e = .returned (.tuple #[]) ∧ ∃ T' : DS, GfS w0 w2 db (onP p0) v ys fs T' := by
  have hd0 := h.dd
  subst hd0
  refine (on_off w1 h.dk (h.off hoff)).mono ?_
  rintro e w2 ⟨rfl, T', e1, e2, e3, e4⟩
  have hp : T'.ps = onP p0 := by rw [e2, h.ps]; rfl
  have hc : T'.ps.con = Con.each T.ps.con sureF := by rw [e2]
  refine ⟨rfl, T', e3, e1, hp, h.was.go e4, ?_, h.bel.trans (e4.below h.dk.fpB h.bel.size)⟩
  obtain ⟨ns, k1, k2, k3⟩ := h.is
  have hn : T'.L.map (·.nm) = T.L.map (·.nm) := by rw [← con_names, hc, each_names, con_names]
  refine ⟨ns, by rw [hn]; exact k1, k2, ?_⟩
  rw [← k3]
  unfold filesOf
  refine List.map_congr_left fun n hm => ?_
  obtain ⟨x, hx, e5⟩ := List.mem_map.1 (k1.mem_iff.1 hm)
  have hh : T.ps.con.has n := (has_iff T n).2 ⟨x, hx, e5⟩
  rw [bytes_con e3, bytes_con h.dk, hc, get_each _ _ _ hh]
  rfl

/-- A disk loaded with what another one tells, all of which is sure, is like it. -/
theorem con1_like {B : Nat} {w : World} {lk : Int} (hD : Dk B w lk T) {ns : List ByteArray} (hp : ns.Perm (T.L.map (·.nm))) (hs : ∀ x ∈ T.L, x.su = x.bs.length) : (con1 (filesOf T ns)).Perm T.ps.con := by
  have h1 := (files_perm hD hp).map fun x : ByteArray × List Nat => (x.1, x.2, x.2.length)
  rw [List.map_map] at h1
  refine h1.trans (List.Perm.of_eq ?_)
  unfold DS.ps
  refine List.map_congr_left fun x hx => ?_
  show (x.nm, x.bs, x.bs.length) = (x.nm, x.bs, x.su)
  rw [hs x hx]

theorem GfS.load (h : GfS w0 w1 db (onP p0) v ys fs T) (fin : ∀ y ∈ p0.con, okN y.1) (h0 : p0.ain = 0 ∧ p0.keep = 0 ∧ p0.lose = 0 ∧ p0.wr ≤ 60) {room : Nat} (hr : p0.room = room) (h1 : 1 ≤ room) (h2 : room ≤ 268435456) :
    Calls Tryz.prog 18 #[v, .int .i64 (room : Int)] w1 fun e w2 => ∃ (dc : Nat) (Sc : DS), e = .returned (.tuple #[.pointer (some ⟨dc, 0, none⟩), .int .i64 0]) ∧ Duo w0 w2 dc db Sc T ∧ GoI 0 60 Sc.ps T.ps ∧ Sc.ps.ain = 0 ∧ T.ps.ain = 0 := by
  obtain ⟨ns, k1, k2, k3⟩ := h.is
  have finT : ∀ y ∈ T.ps.con, okN y.1 := fun y hy => by
    rw [h.ps] at hy
    obtain ⟨x, hx, rfl⟩ := List.mem_map.1 hy
    exact fin x hx
  have hroom : T.room = room := (congrArg PS.room h.ps).trans hr
  have hW := h.was
  rw [← k3] at hW
  have hl : (filesOf T ns).length ≤ 256 := by rw [filesOf_len, k1.length_eq, List.length_map]; exact h.dk.ct
  refine (load_room w1 v ys (filesOf T ns) hW.fr (by omega) (load_by h.dk finT k1 hW) room h1 h2).mono ?_
  rintro e w2 (⟨hn, _⟩ | ⟨_, Sc, rfl, q1, q2, q3⟩)
  · exact absurd (load_may h.dk finT k1 hroom) hn
  · have hsu : ∀ x ∈ T.L, x.su = x.bs.length := fun x hx => by
      have hm : x.con ∈ T.ps.con := con_mem hx
      rw [h.ps] at hm
      obtain ⟨y, _, e⟩ := List.mem_map.1 hm
      have e2 := congrArg (fun q : ByteArray × List Nat × Nat => q.2.2) e
      have e3 := congrArg (fun q : ByteArray × List Nat × Nat => q.2.1) e
      show x.con.2.2 = x.con.2.1.length
      rw [← e]
      rfl
    have hb := h.bel.size
    have tA : T.ps.ain = 0 := by rw [h.ps]; exact h0.1
    have tW : T.ps.wr = p0.wr := by rw [h.ps]; rfl
    have tK : T.ps.keep = 0 := by rw [h.ps]; exact h0.2.1
    have tL : T.ps.lose = 0 := by rw [h.ps]; exact h0.2.2.1
    have tO : T.ps.off = false := by rw [h.ps]; rfl
    have hlike : Like Sc.ps T.ps := ⟨by rw [q2]; exact con1_like h.dk k1 hsu, by rw [q2, tO], by rw [q2]; exact hroom.symm⟩
    refine ⟨Sc.d, Sc, rfl, ⟨q1.low hb, h.dk.below q3, fun k e1 e2 => by have := q1.fpB k e1; have := h.dk.fpLt k e2; omega, ⟨rfl, h.dd⟩, h.bel.trans (q3.mono hb)⟩, ⟨hlike, like_fin ⟨hlike.1.symm, hlike.2.1.symm, hlike.2.2.symm⟩ finT, by rw [q2], ⟨by rw [q2]; show (0 : Nat) ≠ 1; decide, by rw [tA]; decide⟩, ⟨by rw [q2]; exact Nat.le_refl _, by rw [tW]; exact h0.2.2.2⟩, ⟨?_, ?_⟩⟩, by rw [q2], tA⟩
    · rw [q2]; exact ⟨by show (0 : Nat) ≤ 9223372036854775807; decide, ⟨by show (-9223372036854775808 : Int) ≤ 0; decide, by show (0 : Int) ≤ 9223372036854775807; decide⟩, by show (-9223372036854775808 : Int) ≤ 0; decide, by show (0 : Int) ≤ 9223372036854775807; decide⟩
    · refine ⟨by rw [tA]; decide, ⟨by rw [tK]; decide, by rw [tK]; decide⟩, by rw [tL]; decide, by rw [tL]; decide⟩
end

end Go.Proofs.YtlandfghodfjdaaGreat

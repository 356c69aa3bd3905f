/- Two disks side by side. -/
import Derived.Test.YtlandfghodfjdaaGreatJ16A
import Derived.Test.YtlandfghodfjdaaGreatJ16B
import Derived.Test.YtlandfghodfjdaaGreatJ15N
namespace Go.Proofs.YtlandfghodfjdaaGreat
open Go.RowKit
set_option linter.unusedVariables false
set_option linter.unusedSimpArgs false

theorem Dk.low {B B' : Nat} {w : World} {lk : Int} {S : DS} (h : Dk B w lk S) (hB : B' ≤ B) : Dk B' w lk S :=
  { h with
    ow := fun x hx => own_low (h.ow x hx) hB
    bd := ⟨Nat.le_trans hB h.bd.1, Nat.le_trans hB h.bd.2.1, fun x hx => Nat.le_trans hB (h.bd.2.2 x hx)⟩ }

theorem was_at {w : World} {lo : Nat} {v : Value} {vals : List Value} {fs : List (ByteArray × List Nat)} {S : DS} (h : FilesAt w lo v vals fs) (hl : ∀ k, Fp S k → k < lo) : Was w S v vals fs := by
  obtain ⟨k1, k2⟩ := h.toR
  refine ⟨k1, fun i hi => ⟨k2 i hi, ?_⟩, fun k hk => ?_⟩
  · have hl' : i < vals.length := by rw [k1.1]; exact hi
    have hv : vals[i]? = some (vals.getD i nilV) := by rw [List.getElem?_eq_getElem hl']; simp [List.getD, List.getElem?_eq_getElem hl']
    obtain ⟨p', l, c', e, q1, q2⟩ := h.cap _ (List.mem_of_getElem? hv)
    refine ⟨p', l, c', e, q1, q2, fun k hk => ?_⟩
    have := ((h.row.2 i _ hv).2 k (by rw [e]; exact hk)).1
    exact ⟨this.2, fun hf => by have := hl k hf; omega⟩
  · have := h.own.lt k hk
    exact ⟨this.2, fun hf => by have := hl k hf; omega⟩

/-- Two disks side by side. -/
structure Duo (w0 w : World) (da db : Nat) (S T : DS) : Prop where
  a : Dk w0.heap.size w 0 S
  b : Dk w0.heap.size w 0 T
  ap : ∀ k, Fp S k → ¬ Fp T k
  dd : S.d = da ∧ T.d = db
  bel : Below w0.heap.size w0 w

section
variable {w0 w w1 w2 : World} {da db : Nat} {S S' T T' : DS}

theorem Duo.swap (h : Duo w0 w da db S T) : Duo w0 w db da T S := ⟨h.b, h.a, fun k hk e => h.ap k e hk, ⟨h.dd.2, h.dd.1⟩, h.bel⟩

theorem Duo.stepA (h : Duo w0 w1 da db S T) (hD : Dk w0.heap.size w2 0 S') (hd : S'.d = S.d) (hf : Fr w1 (Fp S) w2 (Fp S')) : Duo w0 w2 da db S' T :=
  ⟨hD, h.b.keep fun k hk => (hf.block k (h.b.fpLt k hk) fun e => h.ap k e hk).2, fun k hk e => (hf.block k (h.b.fpLt k e) fun e2 => h.ap k e2 e).1 hk, ⟨hd.trans h.dd.1, h.dd.2⟩, h.bel.trans (hf.below h.a.fpB h.bel.size)⟩

theorem Duo.stepB (h : Duo w0 w1 da db S T) (hD : Dk w0.heap.size w2 0 T') (hd : T'.d = T.d) (hf : Fr w1 (Fp T) w2 (Fp T')) : Duo w0 w2 da db S T' := (h.swap.stepA hD hd hf).swap

theorem Duo.below (h : Duo w0 w1 da db S T) (hb : Below w1.heap.size w1 w2) : Duo w0 w2 da db S T := h.stepA (h.a.below hb) rfl (Fr.of_below hb)

theorem Duo.doA (h : Duo w0 w1 da db S T) (hA : S.ps.arms) (hw : S.wr ≤ 1000000000) (dw on : Int) (nm tt : ByteArray) (pb : Option Addr) (nb cb : Nat) (z kp ls : Int) (fl : Value) (bs : List Nat) (hby : ByIn w0 (.slice pb nb cb) bs) (hn : nb ≤ 1000000000) (hsz : nm.size ≤ 140737488355328 ∧ tt.size ≤ 140737488355328) :
    Calls Tryz.prog 12 #[.pointer (some ⟨da, 0, none⟩), opV dw on nm tt (.slice pb nb cb) z kp ls fl] w1 fun e w2 => ∃ (c : Int) (is : Bool) (S' : DS), e = .returned (.tuple #[.int .i64 c, .bool is]) ∧ DoR S.ps dw nm tt bs z c is S'.ps ∧ Duo w0 w2 da db S' T := by
  obtain ⟨p', n', c', e, h1, h2, h3, h4, h5, h6⟩ := hby
  simp only [Value.slice.injEq] at e
  obtain ⟨rfl, rfl, rfl⟩ := e
  have hd0 := h.dd.1
  subst hd0
  refine (do_any w1 h.a dw on nm tt pb nb cb z kp ls fl bs h5 (isBy_below h4 h.bel) h6 hn hsz.1 hsz.2 hA hw).mono ?_
  rintro e w2 ⟨c, is, S', rfl, e1, e2, e3, e4⟩
  exact ⟨c, is, S', rfl, e2, h.stepA e3 e1 e4⟩

theorem Duo.doB (h : Duo w0 w1 da db S T) (hA : T.ps.arms) (hw : T.wr ≤ 1000000000) (dw on : Int) (nm tt : ByteArray) (pb : Option Addr) (nb cb : Nat) (z kp ls : Int) (fl : Value) (bs : List Nat) (hby : ByIn w0 (.slice pb nb cb) bs) (hn : nb ≤ 1000000000) (hsz : nm.size ≤ 140737488355328 ∧ tt.size ≤ 140737488355328) :
    Calls Tryz.prog 12 #[.pointer (some ⟨db, 0, none⟩), opV dw on nm tt (.slice pb nb cb) z kp ls fl] w1 fun e w2 => ∃ (c : Int) (is : Bool) (T' : DS), e = .returned (.tuple #[.int .i64 c, .bool is]) ∧ DoR T.ps dw nm tt bs z c is T'.ps ∧ Duo w0 w2 da db S T' := by
  refine (h.swap.doA hA hw dw on nm tt pb nb cb z kp ls fl bs hby hn hsz).mono ?_
  rintro e w2 ⟨c, is, T', rfl, e2, e3⟩
  exact ⟨c, is, T', rfl, e2, e3.swap⟩

theorem Duo.writesA (h : Duo w0 w1 da db S T) : Calls Tryz.prog 11 #[.pointer (some ⟨da, 0, none⟩)] w1 fun e w2 => e = .returned (.int .i64 (S.wr : Int)) ∧ Duo w0 w2 da db S T := by
  have hd0 := h.dd.1
  subst hd0
  refine (writes_any w1 h.a).mono ?_
  rintro e w2 ⟨rfl, h1, h2⟩
  exact ⟨rfl, h.stepA h1 rfl h2⟩

theorem Duo.writesB (h : Duo w0 w1 da db S T) : Calls Tryz.prog 11 #[.pointer (some ⟨db, 0, none⟩)] w1 fun e w2 => e = .returned (.int .i64 (T.wr : Int)) ∧ Duo w0 w2 da db S T := by
  refine h.swap.writesA.mono ?_
  rintro e w2 ⟨rfl, h1⟩
  exact ⟨rfl, h1.swap⟩

theorem Duo.offB (h : Duo w0 w1 da db S T) : Calls Tryz.prog 19 #[.pointer (some ⟨db, 0, none⟩)] w1 fun e w2 => e = .returned (.bool T.off) ∧ Duo w0 w2 da db S T := by
  have hd0 := h.dd.2
  subst hd0
  refine (off_any w1 h.b).mono ?_
  rintro e w2 ⟨rfl, h1, h2⟩
  exact ⟨rfl, h.stepB h1 rfl h2⟩

theorem Duo.sureA (h : Duo w0 w1 da db S T) (nm : ByteArray) (hz : nm.size ≤ 140737488355328) : Calls Tryz.prog 42 #[.pointer (some ⟨da, 0, none⟩), .string nm] w1 fun e w2 => ∃ n c : Int, e = .returned (.tuple #[.int .i64 n, .int .i64 c]) ∧ SureR S.ps nm n c ∧ Duo w0 w2 da db S T := by
  have hd0 := h.dd.1
  subst hd0
  refine (sure_all w1 h.a nm hz).mono ?_
  rintro e w2 ⟨n, c, rfl, h1, h2, h3⟩
  exact ⟨n, c, rfl, h1, h.stepA h2 rfl h3⟩

theorem Duo.sureB (h : Duo w0 w1 da db S T) (nm : ByteArray) (hz : nm.size ≤ 140737488355328) : Calls Tryz.prog 42 #[.pointer (some ⟨db, 0, none⟩), .string nm] w1 fun e w2 => ∃ n c : Int, e = .returned (.tuple #[.int .i64 n, .int .i64 c]) ∧ SureR T.ps nm n c ∧ Duo w0 w2 da db S T := by
  refine (h.swap.sureA nm hz).mono ?_
  rintro e w2 ⟨n, c, rfl, h1, h2⟩
  exact ⟨n, c, rfl, h1, h2.swap⟩

/-- The first one has told its files. -/
structure DuF (w0 w : World) (da db : Nat) (S T : DS) (v : Value) (ys : List Value) (ns : List ByteArray) : Prop where
  duo : Duo w0 w da db S T
  fa : ∃ lo, FilesAt w lo v ys (filesOf S ns) ∧ (∀ k, Fp S k → k < lo) ∧ ∀ k, Fp T k → k < lo
  pm : ns.Perm (S.L.map (·.nm))
  od : inOrder ns

theorem Duo.filesA (h : Duo w0 w1 da db S T) (fin : ∀ y ∈ S.ps.con, okN y.1) :
    Calls Tryz.prog 10 #[.pointer (some ⟨da, 0, none⟩)] w1 fun e w2 => ∃ (p : Option Addr) (n c : Nat), e = .returned (.slice p n c) ∧ ∃ ys ns, n = ns.length ∧ DuF w0 w2 da db S T (.slice p n c) ys ns := by
  have hd0 := h.dd.1
  subst hd0
  refine (files_any w1 h.a (names_max fin)).mono ?_
  rintro e w2 ⟨p, n, c, rfl, ys, ns, ⟨h1, h2, h3⟩, h4, h5, h6⟩
  exact ⟨p, n, c, rfl, ys, ns, h1, h.stepA h5 rfl h6, ⟨_, h4, h.a.fpLt, h.b.fpLt⟩, h2, h3⟩

/-- Both have told their files. -/
structure DuG (w0 w : World) (da db : Nat) (S T : DS) (v v' : Value) (ys ys' : List Value) (ns ns' : List ByteArray) : Prop where
  duo : Duo w0 w da db S T
  fa : ∃ lo, FilesAt w lo v ys (filesOf S ns) ∧ (∀ k, Fp S k → k < lo) ∧ ∀ k, Fp T k → k < lo
  fb : ∃ lo, FilesAt w lo v' ys' (filesOf T ns') ∧ (∀ k, Fp S k → k < lo) ∧ ∀ k, Fp T k → k < lo
  pm : ns.Perm (S.L.map (·.nm)) ∧ ns'.Perm (T.L.map (·.nm))
  od : inOrder ns ∧ inOrder ns'

theorem DuF.filesB {v : Value} {ys : List Value} {ns : List ByteArray} (h : DuF w0 w1 da db S T v ys ns) (fin : ∀ y ∈ T.ps.con, okN y.1) :
    Calls Tryz.prog 10 #[.pointer (some ⟨db, 0, none⟩)] w1 fun e w2 => ∃ (p : Option Addr) (n c : Nat), e = .returned (.slice p n c) ∧ ∃ ys' ns', n = ns'.length ∧ DuG w0 w2 da db S T v (.slice p n c) ys ys' ns ns' := by
  have hd0 := h.duo.dd.2
  subst hd0
  refine (files_any w1 h.duo.b (names_max fin)).mono ?_
  rintro e w2 ⟨p, n, c, rfl, ys', ns', ⟨h1, h2, h3⟩, h4, h5, h6⟩
  obtain ⟨lo, k1, k2, k3⟩ := h.fa
  exact ⟨p, n, c, rfl, ys', ns', h1, h.duo.stepB h5 rfl h6, ⟨lo, k1.keep (w' := w2) (fun k q1 q2 => (h6.block k q2 fun e => by have := k3 k e; omega).2) h6.size, k2, k3⟩, ⟨_, h4, h.duo.a.fpLt, h.duo.b.fpLt⟩, ⟨h.pm, h2⟩, ⟨h.od, h3⟩⟩

theorem like_same {B B' : Nat} {w w' : World} {lk lk' : Int} (h : Dk B w lk S) (h' : Dk B' w' lk' T) (hl : Like S.ps T.ps) {ns ns' : List ByteArray} (hp : ns.Perm (S.L.map (·.nm))) (hp' : ns'.Perm (T.L.map (·.nm))) (ho : inOrder ns) (ho' : inOrder ns') : filesOf T ns' = filesOf S ns :=
  (files_same h h' hp hp' ho ho' (fun n => (has_perm hl.1 n).symm) fun n => by rw [get_permT hl.1 (con_nodup h)]).2

theorem DuG.eq {v v' : Value} {ys ys' : List Value} {ns ns' : List ByteArray} (h : DuG w0 w1 da db S T v v' ys ys' ns ns') (hl : Like S.ps T.ps) :
    Calls Tryz.prog 14 #[v, v'] w1 fun e w2 => e = .returned (.bool true) ∧ Duo w0 w2 da db S T := by
  have e := like_same h.duo.a h.duo.b hl h.pm.1 h.pm.2 h.od.1 h.od.2
  obtain ⟨lo, k1, _⟩ := h.fa
  obtain ⟨lo', k2, _⟩ := h.fb
  rw [e] at k2
  obtain ⟨a1, a2⟩ := k1.toR
  obtain ⟨b1, b2⟩ := k2.toR
  have hlen : (filesOf S ns).length ≤ 1000000 := by rw [filesOf_len, h.pm.1.length_eq, List.length_map]; have := h.duo.a.ct; omega
  refine (eqFiles_same v v' ys ys' _ w1 a1 b1 a2 b2 hlen fun x hx => by have := files_le h.duo.a ns x hx; omega).mono ?_
  rintro e w2 ⟨rfl, hb⟩
  exact ⟨rfl, h.duo.below hb⟩

theorem like_fin {p q : PS} (h : Like p q) (hf : ∀ y ∈ p.con, okN y.1) : ∀ y ∈ q.con, okN y.1 := fun y hy => hf y (h.1.mem_iff.2 hy)
end

end Go.Proofs.YtlandfghodfjdaaGreat

/- The law's goes: the walk. -/
import Derived.Test.YtlandfghodfjdaaGreatJ16F
/- The law of the torn write: what it keeps, and what its calls leave. -/
namespace Go.Proofs.YtlandfghodfjdaaGreat
open Go.RowKit
set_option linter.unusedVariables false
set_option linter.unusedSimpArgs false

/-- Two disks, and a block that is neither's. -/
structure DuK (w0 w : World) (da db : Nat) (S T : DS) (g : Nat) (row : Obj) : Prop where
  duo : Duo w0 w da db S T
  at_ : w.heap[g]? = some row
  na : ¬ Fp S g
  nb : ¬ Fp T g

section
variable {w0 w w1 w2 : World} {da db g : Nat} {row : Obj} {S S' T T' : DS}

theorem DuK.stepA (h : DuK w0 w1 da db S T g row) (hD : Dk w0.heap.size w2 0 S') (hd : S'.d = S.d) (hf : Fr w1 (Fp S) w2 (Fp S')) : DuK w0 w2 da db S' T g row :=
  ⟨h.duo.stepA hD hd hf, (hf.block g (heap_lt h.at_) h.na).2.trans h.at_, (hf.block g (heap_lt h.at_) h.na).1, h.nb⟩

theorem DuK.stepB (h : DuK w0 w1 da db S T g row) (hD : Dk w0.heap.size w2 0 T') (hd : T'.d = T.d) (hf : Fr w1 (Fp T) w2 (Fp T')) : DuK w0 w2 da db S T' g row :=
  ⟨h.duo.stepB hD hd hf, (hf.block g (heap_lt h.at_) h.nb).2.trans h.at_, h.na, (hf.block g (heap_lt h.at_) h.nb).1⟩

theorem DuK.below (h : DuK w0 w1 da db S T g row) (hb : Below w1.heap.size w1 w2) : DuK w0 w2 da db S T g row :=
  ⟨h.duo.below hb, (hb.block g (heap_lt h.at_)).trans h.at_, h.na, h.nb⟩

theorem DuK.doA (h : DuK w0 w1 da db S T g row) (hA : S.ps.arms) (hw : S.wr ≤ 1000000000) (dw on : Int) (nm tt : ByteArray) (pb : Option Addr) (nb cb : Nat) (z kp ls : Int) (fl : Value) (bs : List Nat) (hby : ByIn w0 (.slice pb nb cb) bs) (hn : nb ≤ 1000000000) (hsz : nm.size ≤ 140737488355328 ∧ tt.size ≤ 140737488355328) :
    Calls Tryz.prog 12 #[.pointer (some ⟨da, 0, none⟩), opV dw on nm tt (.slice pb nb cb) z kp ls fl] w1 fun e w2 => ∃ (c : Int) (is : Bool) (S' : DS), e = .returned (.tuple #[.int .i64 c, .bool is]) ∧ DoR S.ps dw nm tt bs z c is S'.ps ∧ DuK w0 w2 da db S' T g row := by
  obtain ⟨p', n', c', e, h1, h2, h3, h4, h5, h6⟩ := hby
  simp only [Value.slice.injEq] at e
  obtain ⟨rfl, rfl, rfl⟩ := e
  have hd0 := h.duo.dd.1
  subst hd0
  refine (do_any w1 h.duo.a dw on nm tt pb nb cb z kp ls fl bs h5 (isBy_below h4 h.duo.bel) h6 hn hsz.1 hsz.2 hA hw).mono ?_
  rintro e w2 ⟨c, is, S', rfl, e1, e2, e3, e4⟩
  exact ⟨c, is, S', rfl, e2, h.stepA e3 e1 e4⟩

theorem DuK.doB (h : DuK w0 w1 da db S T g row) (hA : T.ps.arms) (hw : T.wr ≤ 1000000000) (dw on : Int) (nm tt : ByteArray) (pb : Option Addr) (nb cb : Nat) (z kp ls : Int) (fl : Value) (bs : List Nat) (hby : ByIn w0 (.slice pb nb cb) bs) (hn : nb ≤ 1000000000) (hsz : nm.size ≤ 140737488355328 ∧ tt.size ≤ 140737488355328) :
    Calls Tryz.prog 12 #[.pointer (some ⟨db, 0, none⟩), opV dw on nm tt (.slice pb nb cb) z kp ls fl] w1 fun e w2 => ∃ (c : Int) (is : Bool) (T' : DS), e = .returned (.tuple #[.int .i64 c, .bool is]) ∧ DoR T.ps dw nm tt bs z c is T'.ps ∧ DuK w0 w2 da db S T' g row := by
  obtain ⟨p', n', c', e, h1, h2, h3, h4, h5, h6⟩ := hby
  simp only [Value.slice.injEq] at e
  obtain ⟨rfl, rfl, rfl⟩ := e
  have hd0 := h.duo.dd.2
  subst hd0
  refine (do_any w1 h.duo.b dw on nm tt pb nb cb z kp ls fl bs h5 (isBy_below h4 h.duo.bel) h6 hn hsz.1 hsz.2 hA hw).mono ?_
  rintro e w2 ⟨c, is, T', rfl, e1, e2, e3, e4⟩
  exact ⟨c, is, T', rfl, e2, h.stepB e3 e1 e4⟩

theorem DuK.writesB (h : DuK w0 w1 da db S T g row) : Calls Tryz.prog 11 #[.pointer (some ⟨db, 0, none⟩)] w1 fun e w2 => e = .returned (.int .i64 (T.wr : Int)) ∧ DuK w0 w2 da db S T g row := by
  have hd0 := h.duo.dd.2
  subst hd0
  refine (writes_any w1 h.duo.b).mono ?_
  rintro e w2 ⟨rfl, h1, h2⟩
  exact ⟨rfl, h.stepB h1 rfl h2⟩

theorem DuK.offB (h : DuK w0 w1 da db S T g row) : Calls Tryz.prog 19 #[.pointer (some ⟨db, 0, none⟩)] w1 fun e w2 => e = .returned (.bool T.off) ∧ DuK w0 w2 da db S T g row := by
  have hd0 := h.duo.dd.2
  subst hd0
  refine (off_any w1 h.duo.b).mono ?_
  rintro e w2 ⟨rfl, h1, h2⟩
  exact ⟨rfl, h.stepB h1 rfl h2⟩

/-- The first one's files, told to be loaded. -/
theorem DuK.filesA (h : DuK w0 w1 da db S T g row) (fin : ∀ y ∈ S.ps.con, okN y.1) :
    Calls Tryz.prog 10 #[.pointer (some ⟨da, 0, none⟩)] w1 fun e w2 => ∃ (p : Option Addr) (n c : Nat), e = .returned (.slice p n c) ∧ ∃ ys ns, Was w2 S (.slice p n c) ys (filesOf S ns) ∧ ns.Perm (S.L.map (·.nm)) ∧ DuK w0 w2 da db S T g row := by
  have hd0 := h.duo.dd.1
  subst hd0
  refine (files_was w1 h.duo.a fin).mono ?_
  rintro e w2 ⟨p, n, c, rfl, ys, ns, h1, h2, h3, h4, h5, h6, _⟩
  exact ⟨p, n, c, rfl, ys, ns, h2, h3, h.stepA h5 rfl h6⟩

/-- What is told hangs on names, lengths and room alone. -/
theorem vd_cong {p q : PS} (ho : p.off = q.off) (hr : p.room = q.room) (hh : ∀ n, p.con.has n ↔ q.con.has n) (hl : p.con.length = q.con.length) (ht : Con.tot p.con = Con.tot q.con) (hg : ∀ n, (Con.get p.con n).1 = (Con.get q.con n).1) {dw : Int} {nm tt : ByteArray} {bs : List Nat} {z v : Int} (hv : Vd p dw nm tt bs z v) : Vd q dw nm tt bs z v := by
  have e1 : Fit p.con p.room nm bs.length = Fit q.con q.room nm bs.length := by
    unfold Fit
    rw [propext (hh nm), hl, ht, hr]
  have e2 : p.con.has nm = q.con.has nm := propext (hh nm)
  unfold Vd at hv ⊢
  rw [e1, e2, hg, ho] at hv
  exact hv

theorem totB_con1H (fs : List (ByteArray × List Nat)) : Con.tot (con1 fs) = totB fs := by
  induction fs with
  | nil => rfl
  | cons x l ih => show x.2.length + Con.tot (con1 l) = _; rw [ih]; rfl

/-- A third disk, loaded with what the first one tells. -/
structure PrS (w1 w : World) (S P : DS) : Prop where
  dk : Dk w1.heap.size w 0 P
  bel : Below w1.heap.size w1 w
  ain : P.ps.ain = 0
  arm : P.ps.arms ∧ P.wr = 0
  vd : ∀ dw nm tt bs z v, Vd P.ps dw nm tt bs z v ↔ Vd S.ps dw nm tt bs z v

theorem DuK.load (h : DuK w0 w1 da db S T g row) (hoff : S.off = false) (fin : ∀ y ∈ S.ps.con, okN y.1) {m : Nat} (hm : m < 16384) (hr : S.room = 1 + m) {v : Value} {ys : List Value} {ns : List ByteArray} (hW : Was w1 S v ys (filesOf S ns)) (hp : ns.Perm (S.L.map (·.nm))) :
    Calls Tryz.prog 18 #[v, .int .i64 (1 + (m : Int))] w1 fun e w2 => ∃ (dp : Nat) (P : DS), e = .returned (.tuple #[.pointer (some ⟨dp, 0, none⟩), .int .i64 0]) ∧ P.d = dp ∧ PrS w1 w2 S P ∧ DuK w0 w2 da db S T g row := by
  have hD := h.duo.a
  have hl : (filesOf S ns).length ≤ 256 := by rw [filesOf_len, hp.length_eq, List.length_map]; exact hD.ct
  have hld := load_room w1 v ys (filesOf S ns) hW.fr (by omega) (load_by hD fin hp hW) (1 + m) (by omega) (by omega)
  rw [show (((1 + m : Nat)) : Int) = 1 + (m : Int) from by omega] at hld
  refine hld.mono ?_
  rintro e w2 (⟨hn, _⟩ | ⟨_, P, rfl, q1, q2, q3⟩)
  · exact absurd (load_may hD fin hp hr) hn
  · have hc : P.ps.con = con1 (filesOf S ns) := by rw [q2]
    have ho : P.ps.off = S.ps.off := by rw [q2]; exact hoff.symm
    have hrm : P.ps.room = S.ps.room := by rw [q2]; exact hr.symm
    have hh : ∀ n, P.ps.con.has n ↔ S.ps.con.has n := fun n => by rw [hc]; exact con1_has hD hp n
    have hg : ∀ n, (Con.get P.ps.con n).1 = (Con.get S.ps.con n).1 := fun n => by rw [hc]; exact con1_get hD hp n
    have hlen : P.ps.con.length = S.ps.con.length := by
      rw [hc]
      have e1 : S.ps.con.length = S.L.length := by unfold DS.ps; simp
      rw [e1]
      unfold con1
      rw [List.length_map, filesOf_len, hp.length_eq, List.length_map]
    have ht : Con.tot P.ps.con = Con.tot S.ps.con := by
      rw [hc, totB_con1H, files_tot hD hp, tot_con]
      rfl
    refine ⟨P.d, P, rfl, rfl, ⟨q1, q3, by rw [q2], ⟨?_, congrArg PS.wr q2⟩, fun dw nm tt bs z vv => ⟨vd_cong ho hrm hh hlen ht hg, vd_cong ho.symm hrm.symm (fun n => (hh n).symm) hlen.symm ht.symm fun n => (hg n).symm⟩⟩, h.below q3⟩
    rw [q2]; exact ⟨by show (0 : Nat) ≤ 9223372036854775807; decide, ⟨by show (-9223372036854775808 : Int) ≤ 0; decide, by show (0 : Int) ≤ 9223372036854775807; decide⟩, by show (-9223372036854775808 : Int) ≤ 0; decide, by show (0 : Int) ≤ 9223372036854775807; decide⟩

/-- Is a write one, and taken? -/
def Tak (p : PS) (dw : Int) (nm tt : ByteArray) (bs : List Nat) (z : Int) : Prop := (1 ≤ dw ∧ dw ≤ 5) ∧ Vd p dw nm tt bs z 0

theorem PrS.doit {P : DS} {dp : Nat} (h : PrS w1 w S P) (hdp : P.d = dp) (hK : DuK w0 w1 da db S T g row) (dw on : Int) (nm tt : ByteArray) (pb : Option Addr) (nb cb : Nat) (z kp ls : Int) (fl : Value) (bs : List Nat) (hby : ByIn w0 (.slice pb nb cb) bs) (hn : nb ≤ 1000000000) (hsz : nm.size ≤ 140737488355328 ∧ tt.size ≤ 140737488355328) :
    Calls Tryz.prog 12 #[.pointer (some ⟨dp, 0, none⟩), opV dw on nm tt (.slice pb nb cb) z kp ls fl] w fun e w2 => ∃ (c : Int) (is : Bool), e = .returned (.tuple #[.int .i64 c, .bool is]) ∧ ((is = true ∧ c = 0 ∧ Tak S.ps dw nm tt bs z) ∨ (¬ (is = true ∧ c = 0) ∧ ¬ Tak S.ps dw nm tt bs z)) ∧ DuK w0 w2 da db S T g row := by
  subst hdp
  obtain ⟨p', n', c', e, h1, h2, h3, h4, h5, h6⟩ := hby
  simp only [Value.slice.injEq] at e
  obtain ⟨rfl, rfl, rfl⟩ := e
  have hbw : Below w0.heap.size w0 w := hK.duo.bel.trans (h.bel.mono hK.duo.bel.size)
  refine (do_any w h.dk dw on nm tt pb nb cb z kp ls fl bs h5 (isBy_below h4 hbw) h6 hn hsz.1 hsz.2 h.arm.1 (by rw [h.arm.2]; decide)).mono ?_
  rintro e w2 ⟨c, is, P', rfl, e1, e2, e3, e4⟩
  refine ⟨c, is, rfl, ?_, hK.below (h.bel.trans (e4.below h.dk.fpB h.bel.size))⟩
  by_cases hop : 1 ≤ dw ∧ dw ≤ 5
  · obtain ⟨rfl, v, hv, k⟩ := doR_vd (con_nodup h.dk) hop e2
    have hc : P.ps.code = 0 := if_neg (by rw [h.ain]; decide)
    have hv2 := (h.vd dw nm tt bs z v).1 hv
    rcases k with ⟨rfl, k1, _⟩ | ⟨k0, k1, _⟩
    · exact .inl ⟨rfl, k1.trans hc, hop, hv2⟩
    · exact .inr ⟨fun e => k0 (k1.symm.trans e.2), fun e => k0 (vd_one hv2 e.2)⟩
  · obtain ⟨rfl, _, _⟩ := doR_not hop e2
    exact .inr ⟨fun e => absurd e.1 (by decide), fun e => hop e.1⟩

/-- What the law of the torn write keeps between two calls. -/
structure TrS (w0 w : World) (da db n m i : Nat) (keep lose : Int) (S T : DS) : Prop where
  duo : Duo w0 w da db S T
  tor : TorI n i keep lose S.ps T.ps
  room : S.room = 1 + m
  n60 : 1 ≤ n ∧ n ≤ 60

/-- How it begins: two disks, the second one armed. -/
theorem tr_start (wb : World) {da db m n : Nat} {S T : DS} {keep lose : Int} (h : Duo w0 wb da db S T) (hS : S.ps = { con := [], room := 1 + m, off := false, ain := 0, keep := 0, lose := 0, wr := 0 }) (hT : T.ps = { con := [], room := 1 + m, off := false, ain := 0, keep := 0, lose := 0, wr := 0 }) (hn : 1 ≤ n ∧ n ≤ 60)
    (hk : -9223372036854775808 ≤ keep ∧ keep ≤ 9223372036854775807) (hl : -9223372036854775808 ≤ lose ∧ lose ≤ 9223372036854775807) :
    Calls Tryz.prog 20 #[.pointer (some ⟨db, 0, none⟩), .int .i64 (n : Int), .int .i64 keep, .int .i64 lose] wb fun e w2 => e = .returned (.tuple #[]) ∧ ∃ T' : DS, TrS w0 w2 da db n m 0 keep lose S T' := by
  have hd0 := h.dd.2
  subst hd0
  refine (arm_any wb h.b (n : Int) keep lose).mono ?_
  rintro e w2 ⟨rfl, e1, e2⟩
  refine ⟨rfl, _, h.stepB e1 rfl e2, ⟨⟨?_, ?_, ?_⟩, ?_, ?_, ⟨?_, ?_, ?_⟩, ⟨?_, ?_⟩, ⟨?_, ?_⟩, rfl, rfl⟩, congrArg PS.room hS, hn⟩
  · show S.ps.con.Perm T.ps.con
    rw [hS, hT]
  · show S.ps.off = T.ps.off
    rw [hS, hT]
  · show S.ps.room = T.ps.room
    rw [hS, hT]
  · rw [hS]; simp
  · rw [hS]
  · rw [hS]
  · show (n : Int).toNat + S.ps.wr = n
    rw [hS]; simp
  · show S.ps.wr < n
    rw [hS]; exact hn.1
  · show T.ps.wr = S.ps.wr
    rw [hS, hT]
  · rw [hS]; exact Nat.le_refl _
  · rw [hS]; exact ⟨by show (0 : Nat) ≤ 9223372036854775807; decide, ⟨by show (-9223372036854775808 : Int) ≤ 0; decide, by show (0 : Int) ≤ 9223372036854775807; decide⟩, by show (-9223372036854775808 : Int) ≤ 0; decide, by show (0 : Int) ≤ 9223372036854775807; decide⟩
  · exact ⟨by show (n : Int).toNat ≤ _; omega, hk, hl⟩

theorem two_new (w1 : World) (hB : Below w0.heap.size w0 w1) {m : Nat} (hm : m < 16384) {S : DS} (hS : Dk w0.heap.size w1 0 S) :
    Calls Tryz.prog 6 #[.int .i64 (1 + (m : Int))] w1 fun e w2 => ∃ T : DS, e = .returned (.tuple #[.pointer (some ⟨T.d, 0, none⟩), .int .i64 0]) ∧ Duo w0 w2 S.d T.d S T ∧ T.ps = { con := [], room := 1 + m, off := false, ain := 0, keep := 0, lose := 0, wr := 0 } := by
  have := new_ok w1 w0.heap.size hB.size (1 + m) (by omega) (by omega)
  rw [show (((1 + m : Nat)) : Int) = 1 + (m : Int) from by omega] at this
  refine this.mono ?_
  rintro e w2 ⟨T, rfl, e1, e2, e3, e4⟩
  exact ⟨T, rfl, ⟨hS.below e3, e1, fun k h1 h2 => by have := hS.fpLt k h1; have := e4 k h2; omega, ⟨rfl, rfl⟩, hB.trans (e3.mono hB.size)⟩, e2⟩

theorem one_new (hw : World) {m : Nat} (hm : m < 16384) (hB : Below w0.heap.size w0 hw) :
    Calls Tryz.prog 6 #[.int .i64 (1 + (m : Int))] hw fun e w2 => ∃ S : DS, e = .returned (.tuple #[.pointer (some ⟨S.d, 0, none⟩), .int .i64 0]) ∧ Dk w0.heap.size w2 0 S ∧ Below w0.heap.size w0 w2 ∧ S.ps = { con := [], room := 1 + m, off := false, ain := 0, keep := 0, lose := 0, wr := 0 } := by
  have := new_ok hw w0.heap.size hB.size (1 + m) (by omega) (by omega)
  rw [show (((1 + m : Nat)) : Int) = 1 + (m : Int) from by omega] at this
  refine this.mono ?_
  rintro e w2 ⟨S, rfl, e1, e2, e3, e4⟩
  exact ⟨S, rfl, e1, hB.trans (e3.mono hB.size), e2⟩

/-- What stands when the power has gone: the torn write at the first one, the loss at the second. -/
theorem torn_left {n i : Nat} {keep lose : Int} {p q : PS} (h : TorI n i keep lose p q) (hn : (p.con.map (·.1)).Nodup) (dw : Int) (nm tt : ByteArray) (bs : List Nat) (z : Int) : (Con.each (tornC keep dw nm tt bs z q.con) (lostF lose)).Perm (Con.each (tornC keep dw nm tt bs z p.con) (lostF lose)) := by
  have h1 : (tornC keep dw nm tt bs z p.con).Perm (tornC keep dw nm tt bs z q.con) := by
    unfold tornC
    split
    · exact eff_perm h.like.1 hn dw nm tt bs z keep
    · exact h.like.1
  exact (h1.map _).symm
end

end Go.Proofs.YtlandfghodfjdaaGreat

namespace Go.Proofs.YtlandfghodfjdaaGreat
open Go.RowKit
set_option linter.unusedVariables false
set_option linter.unusedSimpArgs false

set_option maxRecDepth 100000 in
set_option maxHeartbeats 16000000 in
theorem goes_any (w0 w : World) (T : DS) (db room : Nat) (p0 : PS) (hD : Dk w0.heap.size w 0 T) (hd : T.d = db) (hp : T.ps = p0) (fin : ∀ y ∈ p0.con, okN y.1) (hb : Below w0.heap.size w0 w) (hoff : p0.off = true) (harm : p0.arms) (h0 : p0.ain = 0 ∧ p0.keep = 0 ∧ p0.lose = 0 ∧ p0.wr ≤ 60) (hr : p0.room = room) (h1 : 1 ≤ room ∧ room ≤ 268435456) (pL : Option Addr) (nL cL : Nat) (hL : OpsIn w0 pL nL) (hnL : nL ≤ 140737488355328) :
    Calls Tryz.prog 23 #[.pointer (some ⟨db, 0, none⟩), .int .i64 (room : Int), .slice pL nL cL] w fun e w' => e = .returned (.bool true) ∧ Below w0.heap.size w0 w' := by
  have HST := hide (gf_start w hD hd hp fin hb)
  have HFI := hide fin
  have HOF := hide hoff
  have HAR := hide harm
  have H00 := hide h0
  have HRM := hide hr
  have HR1 := hide h1
  have HL := hide hL
  obtain ⟨V, hV⟩ : ∃ V, p0.wr = V := ⟨_, rfl⟩
  have HV := hide hV
  clear hD hd hp fin hb hoff harm h0 hr h1 hL hV
  go_enter Tryz.func23, Tryz.ntmps23
  go_upto_block 0 with (first
    | (go_at_call 10; refine HST.out.mono ?_; rintro e w1 ⟨pv, nv, cv, rfl, ys, fs, h⟩; have HG1 := hide h; have HWR := hide h.writes; rw [HV.out] at HWR; clear h HST)
    | (go_at_call 11; refine HWR.out.mono ?_; rintro e w2 ⟨rfl, h⟩; have HG2 := hide h; clear h HWR HG1))
  go_wp2_with fail
  go_loopw [9] (fun t9 wr => ∃ (i : Nat), t9 = .int .i64 (i : Int) ∧ i ≤ 20 ∧ i ≤ nL ∧ Hid (∃ T, GfS w0 wr db p0 (.slice pv nv cv) ys fs T)) (fun t9 _ => 20 - (intOf t9).toNat)
  case atStart => exact ⟨0, rfl, by decide, by omega, T, HG2.out⟩
  case round =>
    clear HG2
    obtain ⟨i, rfl, hi2, hin, HS⟩ := hrel
    by_cases hlt : i < nL
    · have hlt' : (i : Int) < (nL : Int) := by omega
      by_cases hlt4 : i < 20
      · have hlt4' : (i : Int) < 20 := by omega
        obtain ⟨b, o, dw, on, nm, tt, pb, nb, cb, z2, kp, ls, fl, bs, rfl, hop⟩ := HL.out i hlt
        obtain ⟨pf, nf, cf, rfl⟩ := op_fl hop
        have HOP := hide hop
        clear hop
        obtain ⟨T, hT⟩ := HS.out
        have HDO := hide (hT.doit HOF.out HAR.out (by have := H00.out.2.2.2; omega) dw on nm tt pb nb cb z2 kp ls (.slice pf nf cf) bs HOP.out.by_ HOP.out.sz)
        obtain ⟨c0, c1, c2, c3, c4, c5, c6, c7, c8, -, -, -, -⟩ := HOP.out.below hT.bel
        clear hT HS
        go_upto_region 7 with (go_at_call 12; refine HDO.out.mono ?_; rintro e w4 ⟨zc, is, T4, rfl, hT4, hc⟩; have HT4 := hide hT4; have HC := hide hc; clear hT4 hc HDO c0 c1 c2 c3 c4 c5 c6 c7 c8)
        cases is with
        | false =>
          clear HC
          go_wp2_with fail
          go_roundw
          case rel => exact ⟨i + 1, by simp, by omega, by omega, T4, HT4.out⟩
          case measure => simp [intOf]; omega
        | true =>
          have hzc : zc = 104 := HC.out rfl
          subst hzc
          clear HC
          go_wp2_with (go_at_call 7; refine (num10_any _ _).mono ?_; rintro e wn ⟨rfl, hwn⟩; have hwn2 := hwn.symm; subst hwn2)
          go_roundw
          case rel => exact ⟨i + 1, by simp, by omega, by omega, T4, HT4.out⟩
          case measure => simp [intOf]; omega
      · have hlt4' : ¬ (i : Int) < 20 := by omega
        obtain ⟨T, hT⟩ := HS.out
        have HRD := hide (hT.read HOF.out { data := #[97] } (by decide))
        clear hT HS
        go_upto_region 17 with (first
          | (go_at_call 7; refine (num10_any _ _).mono ?_; rintro e wn ⟨rfl, hwn⟩; have hwn2 := hwn.symm; subst hwn2)
          | (go_at_call 27; refine HRD.out.mono ?_; rintro e wa ⟨rfl, h⟩; have HSZ := hide (h.size HOF.out { data := #[33] } (by decide)); clear h HRD)
          | (go_at_call 40; refine HSZ.out.mono ?_; rintro e wb ⟨rfl, h⟩; have HNM := hide (h.names HOF.out); clear h HSZ)
          | (go_at_call 39; refine HNM.out.mono ?_; rintro e wc ⟨rfl, h⟩; have HRA := hide (h.readAt HOF.out { data := #[97] } (by decide) (-1) 5); clear h HNM)
          | (go_at_call 41; refine HRA.out.mono ?_; rintro e wd ⟨rfl, h⟩; have HSU := hide (h.sure HOF.out { data := #[97] } (by decide)); clear h HRA)
          | (go_at_call 42; refine HSU.out.mono ?_; rintro e we ⟨rfl, h⟩; have HWR2 := hide h.writes; rw [HV.out] at HWR2; clear h HSU)
          | (go_at_call 11; refine HWR2.out.mono ?_; rintro e wf ⟨rfl, h⟩; have HFL := hide (h.files HFI.out); clear h HWR2)
          | (go_at_call 10; refine HFL.out.mono ?_; rintro e wg ⟨p2, n2, c2, rfl, ys2, k1, k2, h⟩; have HEQ := hide (h.eq k1 k2); clear k1 k2 h HFL)
          | (go_at_call 14; refine HEQ.out.mono ?_; rintro e wh ⟨rfl, h⟩; have HON := hide (h.on HOF.out); clear h HEQ))
        go_upto_region 19 with (first
          | (go_at_call 26; refine HON.out.mono ?_; rintro e wi ⟨rfl, T2, h⟩; have HLD := hide (h.load HFI.out H00.out HRM.out HR1.out.1 HR1.out.2); clear h HON)
          | (go_at_call 18; refine HLD.out.mono ?_; rintro e wj ⟨dc, Sc, rfl, hD, hG, hA0, hB0⟩; have HDU := hide hD; have HG0 := hide hG; have H0 := hide (And.intro hA0 hB0); clear hD hG hA0 hB0 HLD))
        have HTO : Hid (T2.off = false) := HG0.out.like.2.1.symm.trans HG0.out.off
        have HOB := hide (HDU.out.offB)
        rw [HTO.out] at HOB
        have HFT := hide (like_fin HG0.out.like HG0.out.fin)
        clear HDU
        go_upto_block 2 with (first
          | (go_at_call 7; refine (num10_any _ _).mono ?_; rintro e wn ⟨rfl, hwn⟩; have hwn2 := hwn.symm; subst hwn2)
          | (go_at_call 19; refine HOB.out.mono ?_; rintro e wk ⟨rfl, hD⟩; have HF1 := hide (hD.filesA HG0.out.fin); clear hD HOB)
          | (go_at_call 10; refine HF1.out.mono ?_; rintro e wl ⟨p1, m1, k1, rfl, ys1, ns1, hn1, hF⟩; have HF2 := hide (hF.filesB HFT.out); clear hn1 hF HF1)
          | (go_at_call 10; refine HF2.out.mono ?_; rintro e wm ⟨p2, m2, k2, rfl, ys2, ns2, hn2, hF⟩; have HEQ := hide (hF.eq HG0.out.like); clear hn2 hF HF2)
          | (go_at_call 14; refine HEQ.out.mono ?_; rintro e wo ⟨rfl, hD⟩; have HDU := hide hD; clear hD HEQ))
        go_wp2_with fail
        go_loopw [25, 26] (fun t25 t26 wr => ∃ (i : Nat) (z : Int), t25 = .int .i64 z ∧ t26 = .int .i64 (i : Int) ∧ (0 ≤ z ∧ z ≤ 131072) ∧ i ≤ 60 ∧ i ≤ nL ∧ Hid (∃ (S T : DS), Duo w0 wr dc db S T ∧ GoI i (60 + i) S.ps T.ps ∧ S.ps.ain = 0 ∧ T.ps.ain = 0)) (fun _ t26 _ => 60 - (intOf t26).toNat)
        case atStart => exact ⟨0, 131072, rfl, rfl, ⟨by decide, by decide⟩, by decide, by omega, Sc, T2, HDU.out, HG0.out, H0.out⟩
        case round =>
          clear HDU HG0 H0 HTO HFT
          obtain ⟨i, z, rfl, rfl, hz, hi6, hin, HS⟩ := hrel
          by_cases hlt : i < nL
          · have hlt' : (i : Int) < (nL : Int) := by omega
            by_cases hlt4 : i < 60
            · have hlt4' : (i : Int) < 60 := by omega
              obtain ⟨b, o, dw, on, nm, tt, pb, nb, cb, z2, kp, ls, fl, bs, rfl, hop⟩ := HL.out i hlt
              obtain ⟨pf, nf, cf, rfl⟩ := op_fl hop
              have HOP := hide hop
              clear hop
              obtain ⟨S, T, hD, hG, hA0, hB0⟩ := HS.out
              have HD := hide hD
              have HG := hide hG
              have H0 := hide (And.intro hA0 hB0)
              have HSI := hide (size_op HOP.out hD.bel)
              obtain ⟨c0, c1, c2, c3, c4, c5, c6, c7, c8, -, -, -, -⟩ := HOP.out.below hD.bel
              clear hD hG hA0 hB0 HS
              go_upto_region 26 with (go_at_call 9; refine HSI.out.mono ?_; rintro e w3 ⟨⟨r, rfl, hr1, hr2⟩, hb3⟩; have HD3 := hide (HD.out.below hb3); clear hb3 HSI HD c0 c1 c2 c3 c4 c5 c6 c7 c8)
              by_cases hz0 : z - (r : Int) < 0
              · go_wp2_with fail
                go_ret
                exact ⟨rfl, HD3.out.bel⟩
              · have hzr : 0 ≤ z - (r : Int) := by omega
                have HNB : Hid (nb ≤ 1000000000) := by show _ ≤ _; omega
                have HDA := hide (HD3.out.doA HG.out.arm.1 (by have := HG.out.wr.1; have : S.wr = S.ps.wr := rfl; omega) dw on nm tt pb nb cb z2 kp ls (.slice pf nf cf) bs HOP.out.by_ HNB.out HOP.out.sz)
                obtain ⟨c0, c1, c2, c3, c4, c5, c6, c7, c8, -, -, -, -⟩ := HOP.out.below HD3.out.bel
                have HN3 := hide (con_nodup HD3.out.a)
                have HTW : Hid (T.wr ≤ 1000000000) := by show _ ≤ _; have := HG.out.wr.2; have : T.wr = T.ps.wr := rfl; omega
                go_upto_region 31 with (first
                  | (go_at_call 12; refine HDA.out.mono ?_; rintro e w4 ⟨zc, is, S4, rfl, hR, hD4⟩; have HRA := hide hR; have HDB := hide (hD4.doB HG.out.arm.2 HTW.out dw on nm tt pb nb cb z2 kp ls (.slice pf nf cf) bs HOP.out.by_ HNB.out HOP.out.sz); clear c0 c1 c2 c3 c4 c5 c6 c7 c8; obtain ⟨d0, d1, d2, d3, d4, d5, d6, d7, d8, -, -, -, -⟩ := HOP.out.below hD4.bel; clear hR hD4 HDA)
                  | (go_at_call 12; refine HDB.out.mono ?_; rintro e w5 ⟨zy, is2, T5, rfl, hR, hD5⟩; obtain ⟨k1, k2, k3, k4, k5⟩ := go_step HG.out H0.out HN3.out HRA.out hR; subst k1; subst k2; have HG5 := hide k3; have H05 := hide (And.intro k4 k5); have HSA := hide (hD5.sureA nm HOP.out.sz.1); clear d0 d1 d2 d3 d4 d5 d6 d7 d8; obtain ⟨-, -, f2, -, -, -, -, -, -, -, -, -, -⟩ := HOP.out.below hD5.bel; have HN5 := hide (con_nodup hD5.a); clear hR hD5 HDB k3 k4 k5 HRA)
                  | (go_at_call 42; refine HSA.out.mono ?_; rintro e w6 ⟨n1, e1, rfl, hR1, hD6⟩; have HR1 := hide hR1; have HSB := hide (hD6.sureB nm HOP.out.sz.1); clear f2; obtain ⟨-, -, g2, -, -, -, -, -, -, -, -, -, -⟩ := HOP.out.below hD6.bel; clear hR1 hD6 HSA)
                  | (go_at_call 42; refine HSB.out.mono ?_; rintro e w7 ⟨n2, e2, rfl, hR2, hD7⟩; obtain ⟨k1, k2⟩ := sure_like HG5.out.like HN5.out HR1.out hR2; subst k1; subst k2; have HD7 := hide hD7; clear g2 hR2 hD7 HSB))
                have HF1 := hide (HD7.out.filesA HG5.out.fin)
                have HFT := hide (like_fin HG5.out.like HG5.out.fin)
                clear HD7
                go_wp2_with (first
                  | (go_at_call 10; refine HF1.out.mono ?_; rintro e wa ⟨p1, m1, k1, rfl, ys1, ns1, hn1, hF⟩; have HF2 := hide (hF.filesB HFT.out); clear hn1 hF HF1)
                  | (go_at_call 10; refine HF2.out.mono ?_; rintro e wb ⟨p2, m2, k2, rfl, ys2, ns2, hn2, hF⟩; have HEQ := hide (hF.eq HG5.out.like); clear hn2 hF HF2)
                  | (go_at_call 14; refine HEQ.out.mono ?_; rintro e wc ⟨rfl, hD8⟩; have HD8 := hide hD8; clear hD8 HEQ))
                go_roundw
                case rel => exact ⟨i + 1, z - (r : Int), rfl, by simp, by omega, by omega, by omega, S4, T5, HD8.out, HG5.out, H05.out⟩
                case measure => simp [intOf]; omega
            · have hlt4' : ¬ (i : Int) < 60 := by omega
              obtain ⟨S, T, hD, _⟩ := HS.out
              have HBE := hide hD.bel
              clear hD HS
              go_wp2_with fail
              go_ret
              exact ⟨rfl, HBE.out⟩
          · have hlt' : ¬ (i : Int) < (nL : Int) := by omega
            obtain ⟨S, T, hD, _⟩ := HS.out
            have HBE := hide hD.bel
            clear hD HS
            go_wp2_with fail
            go_ret
            exact ⟨rfl, HBE.out⟩
    · have hlt' : ¬ (i : Int) < (nL : Int) := by omega
      obtain ⟨T, hT⟩ := HS.out
      have HRD := hide (hT.read HOF.out { data := #[97] } (by decide))
      clear hT HS
      go_upto_region 17 with (first
        | (go_at_call 7; refine (num10_any _ _).mono ?_; rintro e wn ⟨rfl, hwn⟩; have hwn2 := hwn.symm; subst hwn2)
        | (go_at_call 27; refine HRD.out.mono ?_; rintro e wa ⟨rfl, h⟩; have HSZ := hide (h.size HOF.out { data := #[33] } (by decide)); clear h HRD)
        | (go_at_call 40; refine HSZ.out.mono ?_; rintro e wb ⟨rfl, h⟩; have HNM := hide (h.names HOF.out); clear h HSZ)
        | (go_at_call 39; refine HNM.out.mono ?_; rintro e wc ⟨rfl, h⟩; have HRA := hide (h.readAt HOF.out { data := #[97] } (by decide) (-1) 5); clear h HNM)
        | (go_at_call 41; refine HRA.out.mono ?_; rintro e wd ⟨rfl, h⟩; have HSU := hide (h.sure HOF.out { data := #[97] } (by decide)); clear h HRA)
        | (go_at_call 42; refine HSU.out.mono ?_; rintro e we ⟨rfl, h⟩; have HWR2 := hide h.writes; rw [HV.out] at HWR2; clear h HSU)
        | (go_at_call 11; refine HWR2.out.mono ?_; rintro e wf ⟨rfl, h⟩; have HFL := hide (h.files HFI.out); clear h HWR2)
        | (go_at_call 10; refine HFL.out.mono ?_; rintro e wg ⟨p2, n2, c2, rfl, ys2, k1, k2, h⟩; have HEQ := hide (h.eq k1 k2); clear k1 k2 h HFL)
        | (go_at_call 14; refine HEQ.out.mono ?_; rintro e wh ⟨rfl, h⟩; have HON := hide (h.on HOF.out); clear h HEQ))
      go_upto_region 19 with (first
        | (go_at_call 26; refine HON.out.mono ?_; rintro e wi ⟨rfl, T2, h⟩; have HLD := hide (h.load HFI.out H00.out HRM.out HR1.out.1 HR1.out.2); clear h HON)
        | (go_at_call 18; refine HLD.out.mono ?_; rintro e wj ⟨dc, Sc, rfl, hD, hG, hA0, hB0⟩; have HDU := hide hD; have HG0 := hide hG; have H0 := hide (And.intro hA0 hB0); clear hD hG hA0 hB0 HLD))
      have HTO : Hid (T2.off = false) := HG0.out.like.2.1.symm.trans HG0.out.off
      have HOB := hide (HDU.out.offB)
      rw [HTO.out] at HOB
      have HFT := hide (like_fin HG0.out.like HG0.out.fin)
      clear HDU
      go_upto_block 2 with (first
        | (go_at_call 7; refine (num10_any _ _).mono ?_; rintro e wn ⟨rfl, hwn⟩; have hwn2 := hwn.symm; subst hwn2)
        | (go_at_call 19; refine HOB.out.mono ?_; rintro e wk ⟨rfl, hD⟩; have HF1 := hide (hD.filesA HG0.out.fin); clear hD HOB)
        | (go_at_call 10; refine HF1.out.mono ?_; rintro e wl ⟨p1, m1, k1, rfl, ys1, ns1, hn1, hF⟩; have HF2 := hide (hF.filesB HFT.out); clear hn1 hF HF1)
        | (go_at_call 10; refine HF2.out.mono ?_; rintro e wm ⟨p2, m2, k2, rfl, ys2, ns2, hn2, hF⟩; have HEQ := hide (hF.eq HG0.out.like); clear hn2 hF HF2)
        | (go_at_call 14; refine HEQ.out.mono ?_; rintro e wo ⟨rfl, hD⟩; have HDU := hide hD; clear hD HEQ))
      go_wp2_with fail
      go_loopw [25, 26] (fun t25 t26 wr => ∃ (i : Nat) (z : Int), t25 = .int .i64 z ∧ t26 = .int .i64 (i : Int) ∧ (0 ≤ z ∧ z ≤ 131072) ∧ i ≤ 60 ∧ i ≤ nL ∧ Hid (∃ (S T : DS), Duo w0 wr dc db S T ∧ GoI i (60 + i) S.ps T.ps ∧ S.ps.ain = 0 ∧ T.ps.ain = 0)) (fun _ t26 _ => 60 - (intOf t26).toNat)
      case atStart => exact ⟨0, 131072, rfl, rfl, ⟨by decide, by decide⟩, by decide, by omega, Sc, T2, HDU.out, HG0.out, H0.out⟩
      case round =>
        clear HDU HG0 H0 HTO HFT
        obtain ⟨i, z, rfl, rfl, hz, hi6, hin, HS⟩ := hrel
        by_cases hlt : i < nL
        · have hlt' : (i : Int) < (nL : Int) := by omega
          by_cases hlt4 : i < 60
          · have hlt4' : (i : Int) < 60 := by omega
            obtain ⟨b, o, dw, on, nm, tt, pb, nb, cb, z2, kp, ls, fl, bs, rfl, hop⟩ := HL.out i hlt
            obtain ⟨pf, nf, cf, rfl⟩ := op_fl hop
            have HOP := hide hop
            clear hop
            obtain ⟨S, T, hD, hG, hA0, hB0⟩ := HS.out
            have HD := hide hD
            have HG := hide hG
            have H0 := hide (And.intro hA0 hB0)
            have HSI := hide (size_op HOP.out hD.bel)
            obtain ⟨c0, c1, c2, c3, c4, c5, c6, c7, c8, -, -, -, -⟩ := HOP.out.below hD.bel
            clear hD hG hA0 hB0 HS
            go_upto_region 26 with (go_at_call 9; refine HSI.out.mono ?_; rintro e w3 ⟨⟨r, rfl, hr1, hr2⟩, hb3⟩; have HD3 := hide (HD.out.below hb3); clear hb3 HSI HD c0 c1 c2 c3 c4 c5 c6 c7 c8)
            by_cases hz0 : z - (r : Int) < 0
            · go_wp2_with fail
              go_ret
              exact ⟨rfl, HD3.out.bel⟩
            · have hzr : 0 ≤ z - (r : Int) := by omega
              have HNB : Hid (nb ≤ 1000000000) := by show _ ≤ _; omega
              have HDA := hide (HD3.out.doA HG.out.arm.1 (by have := HG.out.wr.1; have : S.wr = S.ps.wr := rfl; omega) dw on nm tt pb nb cb z2 kp ls (.slice pf nf cf) bs HOP.out.by_ HNB.out HOP.out.sz)
              obtain ⟨c0, c1, c2, c3, c4, c5, c6, c7, c8, -, -, -, -⟩ := HOP.out.below HD3.out.bel
              have HN3 := hide (con_nodup HD3.out.a)
              have HTW : Hid (T.wr ≤ 1000000000) := by show _ ≤ _; have := HG.out.wr.2; have : T.wr = T.ps.wr := rfl; omega
              go_upto_region 31 with (first
                | (go_at_call 12; refine HDA.out.mono ?_; rintro e w4 ⟨zc, is, S4, rfl, hR, hD4⟩; have HRA := hide hR; have HDB := hide (hD4.doB HG.out.arm.2 HTW.out dw on nm tt pb nb cb z2 kp ls (.slice pf nf cf) bs HOP.out.by_ HNB.out HOP.out.sz); clear c0 c1 c2 c3 c4 c5 c6 c7 c8; obtain ⟨d0, d1, d2, d3, d4, d5, d6, d7, d8, -, -, -, -⟩ := HOP.out.below hD4.bel; clear hR hD4 HDA)
                | (go_at_call 12; refine HDB.out.mono ?_; rintro e w5 ⟨zy, is2, T5, rfl, hR, hD5⟩; obtain ⟨k1, k2, k3, k4, k5⟩ := go_step HG.out H0.out HN3.out HRA.out hR; subst k1; subst k2; have HG5 := hide k3; have H05 := hide (And.intro k4 k5); have HSA := hide (hD5.sureA nm HOP.out.sz.1); clear d0 d1 d2 d3 d4 d5 d6 d7 d8; obtain ⟨-, -, f2, -, -, -, -, -, -, -, -, -, -⟩ := HOP.out.below hD5.bel; have HN5 := hide (con_nodup hD5.a); clear hR hD5 HDB k3 k4 k5 HRA)
                | (go_at_call 42; refine HSA.out.mono ?_; rintro e w6 ⟨n1, e1, rfl, hR1, hD6⟩; have HR1 := hide hR1; have HSB := hide (hD6.sureB nm HOP.out.sz.1); clear f2; obtain ⟨-, -, g2, -, -, -, -, -, -, -, -, -, -⟩ := HOP.out.below hD6.bel; clear hR1 hD6 HSA)
                | (go_at_call 42; refine HSB.out.mono ?_; rintro e w7 ⟨n2, e2, rfl, hR2, hD7⟩; obtain ⟨k1, k2⟩ := sure_like HG5.out.like HN5.out HR1.out hR2; subst k1; subst k2; have HD7 := hide hD7; clear g2 hR2 hD7 HSB))
              have HF1 := hide (HD7.out.filesA HG5.out.fin)
              have HFT := hide (like_fin HG5.out.like HG5.out.fin)
              clear HD7
              go_wp2_with (first
                | (go_at_call 10; refine HF1.out.mono ?_; rintro e wa ⟨p1, m1, k1, rfl, ys1, ns1, hn1, hF⟩; have HF2 := hide (hF.filesB HFT.out); clear hn1 hF HF1)
                | (go_at_call 10; refine HF2.out.mono ?_; rintro e wb ⟨p2, m2, k2, rfl, ys2, ns2, hn2, hF⟩; have HEQ := hide (hF.eq HG5.out.like); clear hn2 hF HF2)
                | (go_at_call 14; refine HEQ.out.mono ?_; rintro e wc ⟨rfl, hD8⟩; have HD8 := hide hD8; clear hD8 HEQ))
              go_roundw
              case rel => exact ⟨i + 1, z - (r : Int), rfl, by simp, by omega, by omega, by omega, S4, T5, HD8.out, HG5.out, H05.out⟩
              case measure => simp [intOf]; omega
          · have hlt4' : ¬ (i : Int) < 60 := by omega
            obtain ⟨S, T, hD, _⟩ := HS.out
            have HBE := hide hD.bel
            clear hD HS
            go_wp2_with fail
            go_ret
            exact ⟨rfl, HBE.out⟩
        · have hlt' : ¬ (i : Int) < (nL : Int) := by omega
          obtain ⟨S, T, hD, _⟩ := HS.out
          have HBE := hide hD.bel
          clear hD HS
          go_wp2_with fail
          go_ret
          exact ⟨rfl, HBE.out⟩

end Go.Proofs.YtlandfghodfjdaaGreat

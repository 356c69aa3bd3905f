/- The law of what holds: small steps of its walk. -/
import Derived.Test.YtlandfghodfjdaaGreatJ15I
/- The law of what holds: its end, where a second disk is loaded. -/
namespace Go.Proofs.YtlandfghodfjdaaGreat
open Go.RowKit
set_option linter.unusedVariables false
set_option linter.unusedSimpArgs false

section
variable {w w1 w2 : World} {d room i B : Nat} {S Sc : DS} {fs : List (ByteArray × List Nat)}

theorem con1_has {S : DS} {ns : List ByteArray} {B : Nat} {w : World} {lk : Int} (hD : Dk B w lk S) (hp : ns.Perm (S.L.map (·.nm))) (n : ByteArray) : (con1 (filesOf S ns)).has n ↔ S.ps.con.has n := by
  rw [has_iff]
  constructor
  · rintro ⟨y, hy, rfl⟩
    obtain ⟨x, hx, rfl⟩ := List.mem_map.1 hy
    obtain ⟨m, hm, rfl⟩ := List.mem_map.1 hx
    obtain ⟨z, hz, e⟩ := List.mem_map.1 (hp.mem_iff.1 hm)
    exact ⟨z, hz, e⟩
  · rintro ⟨x, hx, rfl⟩
    have hm : x.nm ∈ ns := hp.mem_iff.2 (List.mem_map.2 ⟨x, hx, rfl⟩)
    exact ⟨_, List.mem_map.2 ⟨_, List.mem_map.2 ⟨_, hm, rfl⟩, rfl⟩, rfl⟩

theorem con1_get {S : DS} {ns : List ByteArray} {B : Nat} {w : World} {lk : Int} (hD : Dk B w lk S) (hp : ns.Perm (S.L.map (·.nm))) (n : ByteArray) : (Con.get (con1 (filesOf S ns)) n).1 = (Con.get S.ps.con n).1 := by
  by_cases h : S.ps.con.has n
  · have hm : n ∈ ns := by
      rw [has_iff] at h
      obtain ⟨x, hx, rfl⟩ := h
      exact hp.mem_iff.2 (List.mem_map.2 ⟨x, hx, rfl⟩)
    have hn : ((con1 (filesOf S ns)).map (·.1)).Nodup := by
      have e : (con1 (filesOf S ns)).map (·.1) = ns := by unfold con1 filesOf; rw [List.map_map, List.map_map]; simp [Function.comp_def]
      rw [e]; exact hp.nodup_iff.2 hD.nd
    have hy : (n, bytesOf S n, (bytesOf S n).length) ∈ con1 (filesOf S ns) := List.mem_map.2 ⟨(n, bytesOf S n), List.mem_map.2 ⟨n, hm, rfl⟩, rfl⟩
    have := get_of hn hy
    rw [this, ← bytes_con hD]
  · rw [get_no h, get_no fun e => h ((con1_has hD hp n).1 e)]

/-- What is told may be loaded. -/
theorem load_may {B : Nat} {w : World} {lk : Int} (hD : Dk B w lk S) (fin : ∀ y ∈ S.ps.con, okN y.1) {ns : List ByteArray} (hp : ns.Perm (S.L.map (·.nm))) {room : Nat} (hr : S.room = room) : LoadOk (filesOf S ns) room := by
  have e : (filesOf S ns).map (·.1) = ns := by unfold filesOf; rw [List.map_map]; simp [Function.comp_def]
  refine ⟨fun x hx => ?_, by rw [e]; exact hp.nodup_iff.2 hD.nd, ?_, ?_⟩
  · obtain ⟨n, hn, rfl⟩ := List.mem_map.1 hx
    obtain ⟨y, hy, e2⟩ := List.mem_map.1 (hp.mem_iff.1 hn)
    have := fin _ (con_mem hy)
    rw [← e2]; exact this
  · rw [filesOf_len, hp.length_eq, List.length_map]; exact hD.ct
  · rw [files_tot hD hp, ← hr]; exact hD.rm.1

theorem load_by {B : Nat} {w : World} {lk : Int} (hD : Dk B w lk S) (fin : ∀ y ∈ S.ps.con, okN y.1) {ns : List ByteArray} (hp : ns.Perm (S.L.map (·.nm))) {w2 : World} {S2 : DS} {v : Value} {ys : List Value} (hW : Was w2 S2 v ys (filesOf S ns)) :
    ∀ i, i < (filesOf S ns).length → ((filesOf S ns).getD i (.empty, [])).1.size ≤ 140737488355328 ∧ ByIn w2 (ys.getD i (.slice none 0 0)) ((filesOf S ns).getD i (.empty, [])).2 := fun i hi => by
  obtain ⟨h1, h2⟩ := hW.row i hi
  have hi' : i < ns.length := by rw [filesOf_len] at hi; exact hi
  rw [getD_files S ns hi'] at h1 ⊢
  obtain ⟨y, hy, e⟩ := List.mem_map.1 (hp.mem_iff.1 (List.getElem_mem hi'))
  refine ⟨?_, ?_⟩
  · show ns[i].size ≤ _
    rw [← e]
    exact Nat.le_trans (fin _ (con_mem hy)).2.1 (by decide)
  · obtain ⟨p, c, e2, hc⟩ := gv_cy h1 h2
    have hb : bytesOf S ns[i] = y.bs := by rw [← e, bytes_of hD hy]
    have hl := hD.len_le hy
    refine ⟨p, _, c, e2, ?_, hc.2.2.1, hc.2.2.2, hc.1, rfl, ?_⟩
    · show (bytesOf S ns[i]).length ≤ _
      rw [hb]; omega
    · show ∀ x ∈ bytesOf S ns[i], x < 256
      rw [hb]; exact hD.by_ y hy

/-- Both disks. -/
structure HoE (w w' : World) (d room i B : Nat) (S Sc : DS) (fs : List (ByteArray × List Nat)) : Prop where
  ho : HoSt w w' d room i S
  dk : Dk B w' 0 Sc
  wB : w.heap.size ≤ B
  low : ∀ k, Fp S k → k < B
  ps : Sc.ps = { con := con1 fs, room := room, off := false, ain := 0, keep := 0, lose := 0, wr := 0 }
  is : ∃ ns, ns.Perm (S.L.map (·.nm)) ∧ inOrder ns ∧ filesOf S ns = fs

theorem HoE.stepC (h : HoE w w1 d room i B S Sc fs) (hD : Dk B w2 0 Sc) (hf : Fr w1 (Fp Sc) w2 (Fp Sc)) : HoE w w2 d room i B S Sc fs :=
  ⟨⟨h.ho.dk.keep fun k hk => (hf.block k (h.ho.dk.fpLt k hk) fun e => by have := h.dk.fpB k e; have := h.low k hk; omega).2, h.ho.dd, h.ho.fin, h.ho.cfg, h.ho.arm, h.ho.bel.trans (hf.below (fun k hk => Nat.le_trans h.wB (h.dk.fpB k hk)) h.ho.bel.size)⟩, hD, h.wB, h.low, h.ps, h.is⟩

theorem HoE.stepS (h : HoE w w1 d room i B S Sc fs) (hD : Dk w.heap.size w2 0 S) (hf : Fr w1 (Fp S) w2 (Fp S)) : HoE w w2 d room i B S Sc fs :=
  ⟨h.ho.fr hD hf, h.dk.keep fun k hk => (hf.block k (h.dk.fpLt k hk) fun e => by have := h.dk.fpB k hk; have := h.low k e; omega).2, h.wB, h.low, h.ps, h.is⟩

theorem HoE.below (h : HoE w w1 d room i B S Sc fs) (hb : Below w1.heap.size w1 w2) : HoE w w2 d room i B S Sc fs :=
  ⟨h.ho.below hb, h.dk.below hb, h.wB, h.low, h.ps, h.is⟩

theorem HoE.fin (h : HoE w w1 d room i B S Sc fs) : ∀ y ∈ Sc.ps.con, okN y.1 := fun y hy => by
  obtain ⟨ns, hp, _, e⟩ := h.is
  rw [h.ps] at hy
  obtain ⟨x, hx, rfl⟩ := List.mem_map.1 hy
  exact (load_may h.ho.dk h.ho.fin hp h.ho.cfg.2.2.2).1 x (by rw [e]; exact hx)

theorem HoE.filesC (h : HoE w w1 d room i B S Sc fs) {dc : Nat} (hdc : Sc.d = dc) :
    Calls Tryz.prog 10 #[.pointer (some ⟨dc, 0, none⟩)] w1 fun e w2 => ∃ (p : Option Addr) (n c : Nat), e = .returned (.slice p n c) ∧ ∃ ys, FilesAt w2 w1.heap.size (.slice p n c) ys fs ∧ HoE w w2 d room i B S Sc fs ∧ ∀ k, Fp S k → k < w1.heap.size := by
  subst hdc
  refine (files_any w1 h.dk (names_max h.fin)).mono ?_
  rintro e w2 ⟨p, n, c, rfl, ys, ns', ⟨h1, h2, h3⟩, h4, h5, h6⟩
  obtain ⟨ns, hp, ho, e⟩ := h.is
  have hs := (files_same h.ho.dk h5 hp h2 ho h3 (fun m => by rw [h.ps, ← e]; exact con1_has h.ho.dk hp m) fun m => by rw [h.ps, ← e]; exact con1_get h.ho.dk hp m).2
  rw [hs, e] at h4
  exact ⟨p, n, c, rfl, ys, h4, h.stepC h5 h6, fun k hk => h.ho.dk.fpLt k hk⟩

theorem HoE.filesS (h : HoE w w1 d room i B S Sc fs) {lo : Nat} {vC : Value} {ysC : List Value} (hA : FilesAt w1 lo vC ysC fs) (hlo : ∀ k, Fp S k → k < lo) :
    Calls Tryz.prog 10 #[.pointer (some ⟨d, 0, none⟩)] w1 fun e w2 => ∃ (p : Option Addr) (n c : Nat), e = .returned (.slice p n c) ∧ ∃ ys, FilesR w2 (.slice p n c) ys fs ∧ RowsR w2 ys fs ∧ FilesR w2 vC ysC fs ∧ RowsR w2 ysC fs ∧ HoE w w2 d room i B S Sc fs := by
  have hd0 := h.ho.dd
  subst hd0
  refine (files_any w1 h.ho.dk (names_max h.ho.fin)).mono ?_
  rintro e w2 ⟨p, n, c, rfl, ys, ns', ⟨h1, h2, h3⟩, h4, h5, h6⟩
  obtain ⟨ns, hp, ho, e⟩ := h.is
  have hns : ns' = ns := order_uniq (h2.trans hp.symm) h3 ho
  subst hns
  rw [e] at h4
  have hA2 := hA.keep (w' := w2) (fun k k1 k2 => (h6.block k k2 fun e => by have := hlo k e; omega).2) h6.size
  obtain ⟨q1, q2⟩ := h4.toR
  obtain ⟨q3, q4⟩ := hA2.toR
  exact ⟨p, n, c, rfl, ys, q1, q2, q3, q4, h.stepS h5 h6⟩

theorem HoE.eq (h : HoE w w1 d room i B S Sc fs) {va vb : Value} {xs ys : List Value} (ha : FilesR w1 va xs fs) (ra : RowsR w1 xs fs) (hb : FilesR w1 vb ys fs) (rb : RowsR w1 ys fs) :
    Calls Tryz.prog 14 #[va, vb] w1 fun e w2 => e = .returned (.bool true) ∧ HoE w w2 d room i B S Sc fs := by
  obtain ⟨ns, hp, ho, e⟩ := h.is
  have hl : fs.length ≤ 1000000 := by
    rw [← e, filesOf_len, hp.length_eq, List.length_map]; have := h.ho.dk.ct; omega
  refine (eqFiles_same va vb xs ys fs w1 ha hb ra rb hl fun x hx => by rw [← e] at hx; have := files_le h.ho.dk ns x hx; omega).mono ?_
  rintro e w2 ⟨rfl, hb⟩
  exact ⟨rfl, h.below hb⟩

theorem HoE.writesC (h : HoE w w1 d room i B S Sc fs) {dc : Nat} (hdc : Sc.d = dc) : Calls Tryz.prog 11 #[.pointer (some ⟨dc, 0, none⟩)] w1 fun e w2 => e = .returned (.int .i64 0) ∧ HoE w w2 d room i B S Sc fs := by
  subst hdc
  refine (writes_any w1 h.dk).mono ?_
  rintro e w2 ⟨rfl, h1, h2⟩
  have e0 : Sc.wr = 0 := congrArg PS.wr h.ps
  exact ⟨by rw [e0]; rfl, h.stepC h1 h2⟩

theorem HoE.offC (h : HoE w w1 d room i B S Sc fs) {dc : Nat} (hdc : Sc.d = dc) : Calls Tryz.prog 19 #[.pointer (some ⟨dc, 0, none⟩)] w1 fun e w2 => e = .returned (.bool false) ∧ HoE w w2 d room i B S Sc fs := by
  subst hdc
  refine (off_any w1 h.dk).mono ?_
  rintro e w2 ⟨rfl, h1, h2⟩
  have e0 : Sc.off = false := congrArg PS.off h.ps
  exact ⟨by rw [e0], h.stepC h1 h2⟩

/-- The second disk is loaded with what the first one tells. -/
theorem HoSt.load (h : HoSt w w1 d room i S) {v : Value} {ys : List Value} {ns : List ByteArray} (hW : Was w1 S v ys (filesOf S ns)) (hp : ns.Perm (S.L.map (·.nm))) (ho : inOrder ns) (h1 : 1 ≤ room) (h2 : room ≤ 268435456) :
    Calls Tryz.prog 18 #[v, .int .i64 (room : Int)] w1 fun e w2 => ∃ Sc : DS, e = .returned (.tuple #[.pointer (some ⟨Sc.d, 0, none⟩), .int .i64 0]) ∧ HoE w w2 d room i w1.heap.size S Sc (filesOf S ns) := by
  have hl : (filesOf S ns).length ≤ 256 := by rw [filesOf_len]; exact (h.ct hp).2
  refine (load_room w1 v ys (filesOf S ns) hW.fr (by omega) (load_by h.dk h.fin hp hW) room h1 h2).mono ?_
  rintro e w2 (⟨hn, _⟩ | ⟨_, Sc, rfl, k1, k2, k3⟩)
  · exact absurd (load_may h.dk h.fin hp h.cfg.2.2.2) hn
  · exact ⟨Sc, rfl, h.below k3, k1, h.bel.size, fun k hk => h.dk.fpLt k hk, k2, ns, hp, ho, rfl⟩
end

end Go.Proofs.YtlandfghodfjdaaGreat

namespace Go.Proofs.YtlandfghodfjdaaGreat
open Go.RowKit
set_option linter.unusedVariables false
set_option linter.unusedSimpArgs false

theorem OpIn.below {w w' : World} {b o : Nat} {dw on : Int} {nm tt : ByteArray} {pb : Option Addr} {nb cb : Nat} {z kp ls : Int} {fl : Value} {bs : List Nat} (h : OpIn w b o dw on nm tt pb nb cb z kp ls fl bs) (hb : Below w.heap.size w w') : OpIn w' b o dw on nm tt pb nb cb z kp ls fl bs := by
  obtain ⟨c0, c1, c2, c3, c4, c5, c6, c7, c8, sz, by_, fl_, r⟩ := h
  refine ⟨cell_bel hb c0, cell_bel hb c1, cell_bel hb c2, cell_bel hb c3, cell_bel hb c4, cell_bel hb c5, cell_bel hb c6, cell_bel hb c7, cell_bel hb c8, sz, ?_, ?_, r⟩
  · obtain ⟨p', n', c', e, h1, h2, h3, h4, h5, h6⟩ := by_
    exact ⟨p', n', c', e, h1, h2, h3, isBy_below h4 hb, h5, h6⟩
  · obtain ⟨vals, fs, h1, h2, h3⟩ := fl_
    refine ⟨vals, fs, h1.below hb, h2, fun j hj => ?_⟩
    obtain ⟨h4, p', n', c', e, q1, q2, q3, q4, q5, q6⟩ := h3 j hj
    exact ⟨h4, p', n', c', e, q1, q2, q3, isBy_below q4 hb, q5, q6⟩

theorem OpsIn.below {w w' : World} {p : Option Addr} {n : Nat} (h : OpsIn w p n) (hb : Below w.heap.size w w') : OpsIn w' p n := fun i hi => by
  obtain ⟨b, o, dw, on, nm, tt, pb, nb, cb, z, kp, ls, fl, bs, hp, h1⟩ := h i hi
  exact ⟨b, o, dw, on, nm, tt, pb, nb, cb, z, kp, ls, fl, bs, hp, h1.below hb⟩

theorem ByIn.bel {w w' : World} {u : Value} {bs : List Nat} (h : ByIn w u bs) (hb : Below w.heap.size w w') : ByIn w' u bs := by
  obtain ⟨p', n', c', e, h1, h2, h3, h4, h5, h6⟩ := h
  exact ⟨p', n', c', e, h1, h2, h3, isBy_below h4 hb, h5, h6⟩

theorem bsl {w : World} {p : Option Addr} {n c : Nat} {bs : List Nat} (h : ByIn w (.slice p n c) bs) : n = bs.length := by
  obtain ⟨p', n', c', e, h1, h2, h3, h4, h5, h6⟩ := h
  simp only [Value.slice.injEq] at e
  obtain ⟨-, rfl, -⟩ := e
  exact h5

theorem ho_new (w w1 : World) (hb : Below w.heap.size w w1) (room : Nat) (h1 : 1 ≤ room) (h2 : room ≤ 268435456) :
    Calls Tryz.prog 6 #[.int .i64 (room : Int)] w1 fun e w2 => ∃ (S : DS), e = .returned (.tuple #[.pointer (some ⟨S.d, 0, none⟩), .int .i64 0]) ∧ HoSt w w2 S.d room 0 S := by
  refine (su_new w w1 hb room h1 h2).mono ?_
  rintro e w2 ⟨S, rfl, h⟩
  exact ⟨S, rfl, h.dk, h.dd, h.fin, h.cfg, h.arm, h.bel⟩

section
variable {w w1 w2 : World} {d i m : Nat} {S : DS}

theorem load_at (hm : m < 16384) (h : HoSt w w1 d (1 + m) i S) {v : Value} {ys : List Value} {ns : List ByteArray} (hW : Was w1 S v ys (filesOf S ns)) (hp : ns.Perm (S.L.map (·.nm))) (ho : inOrder ns) :
    Calls Tryz.prog 18 #[v, .int .i64 (1 + (m : Int))] w1 fun e w2 => ∃ (dc Bc : Nat) (Sc : DS) (fs : List (ByteArray × List Nat)), e = .returned (.tuple #[.pointer (some ⟨dc, 0, none⟩), .int .i64 0]) ∧ Sc.d = dc ∧ HoE w w2 d (1 + m) i Bc S Sc fs := by
  have := h.load hW hp ho (by omega) (by omega)
  rw [show (((1 + m : Nat)) : Int) = 1 + (m : Int) from by omega] at this
  refine this.mono ?_
  rintro e w2 ⟨Sc, rfl, hE⟩
  exact ⟨Sc.d, _, Sc, _, rfl, rfl, hE⟩
end

section
variable {w0 w w1 : World} {B0 B' : Nat} {S S' : DS} {v v' : Value} {ys ys' : List Value} {ns ns' : List ByteArray}

theorem DnH.find (h : DnH w0 w B0 B' S S' v v' ys ys' ns ns') (n : ByteArray) : ∃ (u : Value) (b : Bool), (∀ w1, Below w.heap.size w w1 → Calls Tryz.prog 13 #[v, .string n] w1 fun e w2 => e = .returned (.tuple #[u, .bool b]) ∧ Below w1.heap.size w1 w2) ∧ (b = true ↔ S.ps.con.has n) := by
  by_cases hn : S.ps.con.has n
  · obtain ⟨u, hu, _⟩ := h.was1 hn
    exact ⟨u, true, hu, by simp [hn]⟩
  · exact ⟨_, false, h.was0 hn, by simp [hn]⟩

theorem DnH.step (h : DnH w0 w B0 B' S S' v v' ys ys' ns ns') {W : World} {d room i : Nat} (hH : HoSt W w1 d room i S') (hf : Fr w (Fp S') w1 (Fp S')) : DnH w0 w1 B0 W.heap.size S S' v v' ys ys' ns ns' :=
  ⟨h.d0, h.g0, h.was.go hf, hH.dk, h.now.go hf, h.perm, h.ord, h.fin⟩

theorem DnH.sumsW (h : DnH w0 w B0 B' S S' v v' ys ys' ns ns') {T : Nat} (hT : totB (filesOf S ns) = T) : Calls Tryz.prog 16 #[v] w fun e w' => e = .returned (.int .i64 (T : Int)) ∧ ∃ N, w' = w.drewN N := by
  subst hT
  refine sums_any v ys _ w h.was.fr (by have := h.c0; omega) (rows_slice h.was.rows) ?_
  rw [files_tot h.d0 h.g0.2.2.2.1]
  have := h.d0.rm; omega

theorem DnH.sumsN (h : DnH w0 w B0 B' S S' v v' ys ys' ns ns') : ∃ T : Nat, T ≤ S'.room ∧ Calls Tryz.prog 16 #[v'] w fun e w' => e = .returned (.int .i64 (T : Int)) ∧ ∃ N, w' = w.drewN N := by
  refine ⟨totB (filesOf S' ns'), ?_, sums_any v' ys' _ w h.now.fr (by have := h.c1; omega) (rows_slice h.now.rows) ?_⟩
  · rw [files_tot h.dk h.perm]; exact h.dk.rm.1
  · rw [files_tot h.dk h.perm]
    have := h.dk.rm; omega

theorem done_at (h : DnH w0 w B0 B' S S' v v' ys ys' ns ns') (dw on : Int) (nm tt : ByteArray) (pb : Option Addr) (nb cb : Nat) (z kp ls : Int) (fl : Value) (bs : List Nat) (hby : ByIn w (.slice pb nb cb) bs) (hnb : nb ≤ 1000000000) (hd : DoH S.ps.con dw nm tt bs z S'.ps.con) :
    Calls Tryz.prog 15 #[v, v', opV dw on nm tt (.slice pb nb cb) z kp ls fl] w fun e w' => e = .returned (.bool true) ∧ Below w.heap.size w w' := by
  have hl := bsl hby
  obtain ⟨p', n', c', e, h1, h2, h3, h4, h5, h6⟩ := hby
  simp only [Value.slice.injEq] at e
  obtain ⟨rfl, rfl, rfl⟩ := e
  exact done_all h dw on nm tt pb nb cb z kp ls fl bs h4 (by omega) hd
end

end Go.Proofs.YtlandfghodfjdaaGreat

/- The law's left: what the power's going leaves of a disk alike. -/
import Derived.Test.YtlandfghodfjdaaGreatJ16C
import Derived.Test.YtlandfghodfjdaaGreatJ15I
import Derived.BigQuiet
namespace Go.Proofs.YtlandfghodfjdaaGreat
open Go.RowKit
set_option linter.unusedVariables false
set_option linter.unusedSimpArgs false

/-- Both rows of files, while the first disk tells. -/
structure LeS (w0 w : World) (da db : Nat) (S T : DS) (vA vB : Value) (ysA ysB : List Value) (ns : List ByteArray) : Prop where
  duo : Duo w0 w da db S T
  wa : Was w S vA ysA (filesOf S ns)
  wb : Was w S vB ysB (filesOf T ns)
  pm : ns.Perm (S.L.map (·.nm))

section
variable {w0 w w1 w2 : World} {da db : Nat} {S T : DS} {vA vB : Value} {ysA ysB : List Value} {ns : List ByteArray}

theorem LeS.below (h : LeS w0 w da db S T vA vB ysA ysB ns) (hb : Below w.heap.size w w2) : LeS w0 w2 da db S T vA vB ysA ysB ns := ⟨h.duo.below hb, h.wa.below hb, h.wb.below hb, h.pm⟩

/-- What the power leaves of a file. -/
theorem left_get {lose : Int} (hS : Dk w0.heap.size w 0 S) (hT : Dk w0.heap.size w 0 T) (hp : T.ps.con.Perm (Con.each S.ps.con (lostF lose))) {x : Fi} (hx : x ∈ S.L) : bytesOf T x.nm = x.bs.take (max x.su (x.bs.length - lose.toNat)) := by
  have hh : S.ps.con.has x.nm := (has_iff S _).2 ⟨x, hx, rfl⟩
  rw [bytes_con hT, get_permT hp (con_nodup hT), get_each _ _ _ hh, con_get hS hx]
  rfl

theorem LeS.at_ {lose : Int} (h : LeS w0 w da db S T vA vB ysA ysB ns) (hp : T.ps.con.Perm (Con.each S.ps.con (lostF lose))) (fin : ∀ y ∈ S.ps.con, okN y.1) {i : Nat} (hi : i < ns.length) :
    ∃ x ∈ S.L, okN x.nm ∧ x.su ≤ x.bs.length ∧ x.bs.length ≤ 268435456 ∧ ∃ g1 o1 c1 g2 o2 c2, vA = .slice (some ⟨g1, o1, none⟩) ns.length c1 ∧ vB = .slice (some ⟨g2, o2, none⟩) ns.length c2 ∧ ∃ pa ca pb nb cb, ∀ w2, LeS w0 w2 da db S T vA vB ysA ysB ns →
      w2.cell? ⟨g1, o1 + i * 2, none⟩ = some (.string x.nm) ∧ w2.cell? ⟨g1, o1 + i * 2 + 1, none⟩ = some (.slice pa x.bs.length ca) ∧ w2.cell? ⟨g2, o2 + i * 2, none⟩ = some (.string x.nm) ∧ w2.cell? ⟨g2, o2 + i * 2 + 1, none⟩ = some (.slice pb nb cb) ∧
      Cy w2 pa x.bs.length ca x.bs ∧ IsBy w2 (.slice pb nb cb) (x.bs.take (max x.su (x.bs.length - lose.toNat))) := by
  have hmem := h.pm.subset (List.getElem_mem hi)
  obtain ⟨x, hx, e⟩ := List.mem_map.1 hmem
  have hfin := h.duo.a.fine fin
  have hxc : x.con ∈ S.ps.con := con_mem hx
  have la : (filesOf S ns).length = ns.length := filesOf_len S ns
  have lb : (filesOf T ns).length = ns.length := filesOf_len T ns
  have fa : (filesOf S ns).getD i (.empty, []) = (x.nm, x.bs) := by
    rw [getD_files S ns hi, ← e, bytes_of h.duo.a hx]
  have fb : (filesOf T ns).getD i (.empty, []) = (x.nm, x.bs.take (max x.su (x.bs.length - lose.toNat))) := by
    rw [getD_files T ns hi, ← e, left_get h.duo.a h.duo.b hp hx]
  refine ⟨x, hx, fin _ hxc, hfin.2.1 _ hxc, h.duo.a.len_le hx, ?_⟩
  obtain ⟨_, p1, c1, e1, k1⟩ := h.wa.fr
  obtain ⟨g1, o1, rfl, _⟩ := k1 i (by rw [la]; exact hi)
  obtain ⟨_, p2, c2, e2, k2⟩ := h.wb.fr
  obtain ⟨g2, o2, rfl, _⟩ := k2 i (by rw [lb]; exact hi)
  obtain ⟨r1, r2⟩ := h.wa.row i (by rw [la]; exact hi)
  rw [fa] at r1
  obtain ⟨pa, ca, hu, _⟩ := gv_cy r1 r2
  obtain ⟨r3, _⟩ := h.wb.row i (by rw [lb]; exact hi)
  rw [fb] at r3
  obtain ⟨pb, cb, hv, _⟩ := by_slice r3
  obtain ⟨nb, hnb⟩ : ∃ nb, (x.bs.take (max x.su (x.bs.length - lose.toNat))).length = nb := ⟨_, rfl⟩
  rw [hnb] at hv
  refine ⟨g1, o1, c1, g2, o2, c2, by rw [e1, la], by rw [e2, lb], pa, ca, pb, nb, cb, fun w2 h2 => ?_⟩
  obtain ⟨_, q1, d1, f1, j1⟩ := h2.wa.fr
  obtain ⟨g1', o1', f3, m1, m2⟩ := j1 i (by rw [la]; exact hi)
  rw [e1] at f1
  simp only [Value.slice.injEq] at f1
  have f4 := f1.1.trans f3
  simp only [Option.some.injEq, Addr.mk.injEq, and_true] at f4
  obtain ⟨rfl, rfl⟩ := f4
  obtain ⟨_, q2, d2, f5, j2⟩ := h2.wb.fr
  obtain ⟨g2', o2', f6, m3, m4⟩ := j2 i (by rw [lb]; exact hi)
  rw [e2] at f5
  simp only [Value.slice.injEq] at f5
  have f7 := f5.1.trans f6
  simp only [Option.some.injEq, Addr.mk.injEq, and_true] at f7
  obtain ⟨rfl, rfl⟩ := f7
  obtain ⟨s1, s2⟩ := h2.wa.row i (by rw [la]; exact hi)
  obtain ⟨s3, _⟩ := h2.wb.row i (by rw [lb]; exact hi)
  have hu' : ysA.getD i (.slice none 0 0) = .slice pa x.bs.length ca := hu
  have hv' : ysB.getD i (.slice none 0 0) = .slice pb nb cb := hv
  rw [fa] at m1 s1
  rw [fb] at m3 s3
  rw [hu'] at m2
  rw [hv'] at m4
  rw [hu] at s1 s2
  rw [hv] at s3
  obtain ⟨pa', ca', e9, hc⟩ := gv_cy s1 s2
  simp only [Value.slice.injEq] at e9
  obtain ⟨rfl, -, rfl⟩ := e9
  exact ⟨m1, m2, m3, m4, hc, s3⟩

theorem LeS.sure (h : LeS w0 w1 da db S T vA vB ysA ysB ns) (hoff : S.off = false) {x : Fi} (hx : x ∈ S.L) (hok : okN x.nm) :
    Calls Tryz.prog 42 #[.pointer (some ⟨da, 0, none⟩), .string x.nm] w1 fun e w2 => e = .returned (.tuple #[.int .i64 (x.su : Int), .int .i64 0]) ∧ LeS w0 w2 da db S T vA vB ysA ysB ns := by
  have hd0 := h.duo.dd.1
  subst hd0
  refine (sure_any w1 h.duo.a hoff x hx hok).mono ?_
  rintro e w2 ⟨rfl, h1, h2⟩
  exact ⟨rfl, h.duo.stepA h1 rfl h2, h.wa.go h2, h.wb.go h2, h.pm⟩

theorem DuG.left {lose : Int} {ns' : List ByteArray} (h : DuG w0 w da db S T vA vB ysA ysB ns ns') (hp : T.ps.con.Perm (Con.each S.ps.con (lostF lose))) : ns' = ns ∧ LeS w0 w da db S T vA vB ysA ysB ns := by
  have e : ns' = ns := by
    refine order_uniq (h.pm.2.trans ?_) h.od.2 h.od.1
    have h1 := hp.map (·.1)
    rw [each_names, con_names, con_names] at h1
    exact h1.trans h.pm.1.symm
  subst e
  obtain ⟨lo, k1, k2, _⟩ := h.fa
  obtain ⟨lo', k3, k4, _⟩ := h.fb
  exact ⟨rfl, h.duo, was_at k1 k2, was_at k3 k4, h.pm.1⟩

set_option maxRecDepth 100000 in
set_option maxHeartbeats 8000000 in
theorem left_any {lose : Int} (w : World) (h : Duo w0 w da db S T) (hoff : S.off = false) (fin : ∀ y ∈ S.ps.con, okN y.1) (hp : T.ps.con.Perm (Con.each S.ps.con (lostF lose))) (hl : -9223372036854775808 ≤ lose ∧ lose ≤ 9223372036854775807) :
    Calls Tryz.prog 22 #[.pointer (some ⟨da, 0, none⟩), .pointer (some ⟨db, 0, none⟩), .int .i64 lose] w fun e w' => e = .returned (.bool true) ∧ Duo w0 w' da db S T := by
  have finT : ∀ y ∈ T.ps.con, okN y.1 := fun y hy => by
    have := hp.mem_iff.1 hy
    obtain ⟨x, hx, rfl⟩ := List.mem_map.1 this
    exact fin x hx
  have HF1 := hide (h.filesA fin)
  have HP := hide hp
  have HFT := hide finT
  have HFI := hide fin
  have HOF := hide hoff
  have HLO := hide hl
  clear h fin hp hl finT hoff
  go_enter Tryz.func22, Tryz.ntmps22
  go_upto_region 3 with (first
    | (go_at_call 10; refine HF1.out.mono ?_; rintro e w3 ⟨pA, n, cA, rfl, ysA, ns, hn, hF⟩; have HNA := hide hn; have HF2 := hide (hF.filesB HFT.out); clear hn hF HF1)
    | (go_at_call 10; refine HF2.out.mono ?_; rintro e w4 ⟨pB, n2, cB, rfl, ysB, ns2, hn, hG⟩; obtain ⟨hns, hG2⟩ := hG.left HP.out; have hn2 : n2 = n := (by rw [hn, hns]; exact HNA.out.symm); subst hn2; have HS0 := hide hG2; clear hn hns hG hG2 HF2))
  have hn256 : n2 ≤ 256 := by
    have h1 := HS0.out.pm.length_eq
    rw [List.length_map] at h1
    have h2 := HNA.out
    have h3 := HS0.out.duo.a.ct
    omega
  go_wp2_with fail
  go_loopw [9] (fun t9 wr => ∃ i : Nat, t9 = .int .i64 (i : Int) ∧ i ≤ n2 ∧ Hid (LeS w0 wr da db S T (.slice pA n2 cA) (.slice pB n2 cB) ysA ysB ns)) (fun t9 _ => n2 - (intOf t9).toNat)
  case atStart => exact ⟨0, rfl, Nat.zero_le _, HS0.out⟩
  case round =>
    clear HS0
    obtain ⟨i, rfl, hi, HS⟩ := hrel
    by_cases hlt : i < n2
    · have hlt' : (i : Int) < (n2 : Int) := by omega
      obtain ⟨x, hx, hok, hsu, hlen, g1, o1, c1, g2, o2, c2, e1, e2, pa, ca, pb, nb, cb, hC⟩ := HS.out.at_ HP.out HFI.out (i := i) (by rw [← HNA.out]; exact hlt)
      simp only [Value.slice.injEq] at e1 e2
      obtain ⟨rfl, -, rfl⟩ := e1
      obtain ⟨rfl, -, rfl⟩ := e2
      have HSU := hide (HS.out.sure HOF.out hx hok)
      obtain ⟨na, hna⟩ : ∃ na, x.bs.length = na := ⟨_, rfl⟩
      obtain ⟨nm, hnm⟩ : ∃ nm, x.nm = nm := ⟨_, rfl⟩
      obtain ⟨su, hsue⟩ : ∃ su, x.su = su := ⟨_, rfl⟩
      rw [hna, hnm, hsue] at hC
      rw [hna, hsue] at hsu
      rw [hna] at hlen
      rw [hnm, hsue] at HSU
      have HC := hide hC
      have z1 : wr.cell? ⟨g1, o1 + i * 2, none⟩ = some (.string nm) := (HC.out wr HS.out).1
      have HSL := hide hsu
      have HLN := hide hlen
      clear hC hna hnm hsue hok hsu hlen
      go_upto_region 9 with (go_at_call 42; refine HSU.out.mono ?_; rintro e wy ⟨rfl, hs⟩; have HSY := hide hs; clear hs HSU z1)
      have HLT : Hid (∀ N, Calls Tryz.prog 47 #[.slice pa na ca, .slice pb nb cb, .int .i64 (su : Int), .int .i64 lose] (wy.drewN N) fun e w' => e = .returned (.bool true) ∧ ∃ N', w' = (wy.drewN N).drewN N') := fun N => by
        obtain ⟨_, _, _, _, k5, k6⟩ := HC.out (wy.drewN N) (HSY.out.below (bel_drewN wy N))
        exact lost_any pa pb na ca nb cb x.bs su lose (wy.drewN N) k5 HSL.out (by have := HLN.out; omega) HLO.out k6
      obtain ⟨y1, y2, y3, y4, _, _⟩ := HC.out wy HSY.out
      clear hx
      go_quiet (first | (exact Calls.quiet_of_same (num10_any _ _)) | (exact Calls.quiet_of (HLT.out _)))
      go_wp2_with fail
      go_roundw
      case rel => exact ⟨i + 1, by simp, by omega, HSY.out.below (bel_drewN wy nq)⟩
      case measure => simp [intOf]; omega
    · have hlt' : ¬ (i : Int) < (n2 : Int) := by omega
      go_wp2_with fail
      go_ret
      exact ⟨rfl, HS.out.duo⟩
end

end Go.Proofs.YtlandfghodfjdaaGreat

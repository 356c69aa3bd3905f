/- DiskTorn's walk. -/
import Derived.Test.YtlandfghodfjdaaGreatJ16G
namespace Go.Proofs.YtlandfghodfjdaaGreat
open Go.RowKit
set_option linter.unusedVariables false
set_option linter.unusedSimpArgs false

theorem room_same {n i m : Nat} {keep lose : Int} {S S' : DS} {q : PS} (hr : S.room = 1 + m) (h : TorI n i keep lose S.ps q) (hn : (S.ps.con.map (·.1)).Nodup) {dw : Int} {nm tt : ByteArray} {bs : List Nat} {z c : Int} {is : Bool} (ha : DoR S.ps dw nm tt bs z c is S'.ps) : S'.room = 1 + m := by
  have e : S'.ps.room = S.ps.room := by
    by_cases hop : 1 ≤ dw ∧ dw ≤ 5
    · obtain ⟨_, v, _, k⟩ := doR_vd hn hop ha
      rcases k with ⟨_, _, e⟩ | ⟨_, _, e⟩
      · rw [e, wrote_next h.ain.1]; rfl
      · rw [e]
    · rw [(doR_not hop ha).2.2]
  exact e.trans hr

theorem torn_at {w0 w : World} {da db g : Nat} {row : Obj} {S T : DS} (h : DuK w0 w da db S T g row) {n i : Nat} {keep lose : Int} {q : PS} (ht : TorI n i keep lose S.ps q) (hwr : S.wr ≤ 1000000000) {dw : Int} {nm tt : ByteArray} {bs0 : List Nat} {z : Int} (hk : Tak S.ps dw nm tt bs0 z) (rm nn : Int) (pL pM : Option Addr) (nL cL nM cM : Nat) (hkp : -9223372036854775808 ≤ keep ∧ keep ≤ 9223372036854775807) (dw1 on : Int) (nm1 tt1 : ByteArray) (pb : Option Addr) (nb cb : Nat) (z1 kp ls : Int) (fl : Value) (bs : List Nat) (hby : ByIn w0 (.slice pb nb cb) bs) (hn : nb ≤ 1000000000) (hsz : nm1.size ≤ 140737488355328 ∧ tt1.size ≤ 140737488355328) (e1 : dw1 = dw := by rfl) (e2 : nm1 = nm := by rfl) (e3 : tt1 = tt := by rfl) (e4 : bs = bs0 := by rfl) (e5 : z1 = z := by rfl) {pf : Option Addr} {nf cf : Nat} (e6 : fl = .slice pf nf cf := by rfl) :
    Calls Tryz.prog 21 #[.agg #[.int .i64 rm, .slice pL nL cL, .int .i64 nn, .int .i64 keep, .int .i64 lose, .slice pM nM cM], .pointer (some ⟨da, 0, none⟩), opV dw on nm tt (.slice pb nb cb) z kp ls fl] w fun e w' => e = .returned (.bool true) ∧ ∃ S' : DS, Duo w0 w' da db S' T ∧ S'.ps.con = tornC keep dw nm tt bs z S.ps.con ∧ S'.off = false ∧ ∀ y ∈ S'.ps.con, okN y.1 := by
  subst e1 e2 e3 e4 e5 e6
  obtain ⟨p', n', c', e, h1, h2, h3, h4, h5, h6⟩ := hby
  simp only [Value.slice.injEq] at e
  obtain ⟨rfl, rfl, rfl⟩ := e
  have hd0 := h.duo.dd.1
  subst hd0
  refine (torn_any w h.duo.a ht.off ht.ain.1 ht.arm.1 hwr ht.fin rm nn keep lose pL pM nL cL nM cM dw1 on nm1 tt1 pb nb cb z1 kp ls pf nf cf bs ⟨isBy_below h4 h.duo.bel, h5, h2, h3⟩ h6 hn hsz hk.1 hk.2 hkp).mono ?_
  rintro e w' ⟨rfl, S', a1, a2, a3, a4, a5, a6⟩
  exact ⟨rfl, S', h.duo.stepA a5 a1 a6, a2, a3, a4⟩

theorem goes_at {w0 w : World} {da db n m : Nat} {lose : Int} {S T : DS} {r : Nat} (h : Duo w0 w da db S T) (fin : ∀ y ∈ S.ps.con, okN y.1) (hp : T.ps.con.Perm (Con.each S.ps.con (lostF lose))) (h0 : T.ps.off = true ∧ T.ps.ain = 0 ∧ T.ps.keep = 0 ∧ T.ps.lose = 0 ∧ T.ps.wr = n ∧ T.ps.room = r) (hr : r = 1 + m) (hn : n ≤ 60) (hm : m < 16384) (pM : Option Addr) (nM cM : Nat) (hL : OpsIn w0 pM nM) (hnM : nM ≤ 140737488355328) :
    Calls Tryz.prog 23 #[.pointer (some ⟨db, 0, none⟩), .int .i64 (1 + (m : Int)), .slice pM nM cM] w fun e w' => e = .returned (.bool true) ∧ Below w0.heap.size w0 w' := by
  have finT : ∀ y ∈ T.ps.con, okN y.1 := fun y hy => by
    obtain ⟨x, hx, rfl⟩ := List.mem_map.1 (hp.mem_iff.1 hy)
    exact fin x hx
  obtain ⟨a1, a2, a3, a4, a5, a6⟩ := h0
  have := goes_any w0 w T db (1 + m) T.ps h.b h.dd.2 rfl finT h.bel a1 ⟨by rw [a2]; decide, ⟨by rw [a3]; decide, by rw [a3]; decide⟩, by rw [a4]; decide, by rw [a4]; decide⟩ ⟨a2, a3, a4, by rw [a5]; exact hn⟩ (a6.trans hr) ⟨by omega, by omega⟩ pM nM cM hL hnM
  rw [show (((1 + m : Nat)) : Int) = 1 + (m : Int) from by omega] at this
  exact this

set_option maxRecDepth 100000 in
set_option maxHeartbeats 16000000 in
theorem diskTorn_any (rm nn keep lose : Int) (pL pM : Option Addr) (nL cL nM cM : Nat) (w : World) (hrm : -9223372036854775808 ≤ rm ∧ rm ≤ 9223372036854775807) (hnn : -9223372036854775808 ≤ nn ∧ nn ≤ 9223372036854775807) (hkp : -9223372036854775808 ≤ keep ∧ keep ≤ 9223372036854775807) (hls : -9223372036854775808 ≤ lose ∧ lose ≤ 9223372036854775807) (hL : nL ≤ 140737488355328 ∧ OpsIn w pL nL) (hM : nM ≤ 140737488355328 ∧ OpsIn w pM nM) :
    Calls Tryz.prog 4 #[.agg #[.int .i64 rm, .slice pL nL cL, .int .i64 nn, .int .i64 keep, .int .i64 lose, .slice pM nM cM]] w fun e w' => e = .returned (.bool true) ∧ Below w.heap.size w w' := by
  have HX : Hid ((w.alloc (.cells #[.int .i64 rm, .slice pL nL cL, .int .i64 nn, .int .i64 keep, .int .i64 lose, .slice pM nM cM] 51)).heap[w.heap.size]? = some (.cells #[.int .i64 rm, .slice pL nL cL, .int .i64 nn, .int .i64 keep, .int .i64 lose, .slice pM nM cM] 51 (0, 0))) := heap_alloc_new _ _
  have HB0 : Hid (Below w.heap.size w (w.alloc (.cells #[.int .i64 rm, .slice pL nL cL, .int .i64 nn, .int .i64 keep, .int .i64 lose, .slice pM nM cM] 51))) := (Below.refl _ _).alloc (Nat.le_refl _) _
  have hnL := hL.1
  have HL := hide (hL.2.below HB0.out)
  have HLM := hide (And.intro hM.1 (hM.2.below HB0.out))
  have HKP := hide hkp
  have HLS := hide hls
  clear hL hM hkp hls
  go_enter Tryz.func4, Tryz.ntmps4
  go_upto_region 1 with fail
  obtain ⟨w0, hw0⟩ : ∃ w0, w.alloc (.cells #[.int .i64 rm, .slice pL nL cL, .int .i64 nn, .int .i64 keep, .int .i64 lose, .slice pM nM cM] 51) = w0 := ⟨_, rfl⟩
  rw [hw0] at HX HB0 HL HLM ⊢
  clear hw0
  have b0 : w0.cell? ⟨w.heap.size, 0, none⟩ = some (.int .i64 rm) := by rw [cell_of_row _ _ _ _ _ _ HX.out]; rfl
  go_upto_region 6 with (first
    | (go_at_call 7; refine (num10_any _ _).mono ?_; rintro e wn ⟨rfl, hwn⟩; have hwn2 := hwn.symm; subst hwn2)
    | (go_at_call 5; refine (within10_any rm 16384 _ hrm.1 hrm.2 (by decide) (by decide)).mono ?_; rintro e wn ⟨m, rfl, hm, hwn⟩; have hwn2 := hwn.symm; subst hwn2; have HM := hide hm; have HN1 := hide (one_new (w0 := w0) w0 hm (Below.refl _ _)); clear b0)
    | (go_at_call 6; refine HN1.out.mono ?_; rintro e w1 ⟨S, rfl, hD, hB, hps⟩; have HN2 := hide (two_new w1 hB HM.out hD); have HPS := hide hps; obtain ⟨da, hda⟩ : ∃ da, S.d = da := ⟨_, rfl⟩; rw [hda] at HN2 ⊢; clear hD hB hps hda HN1)
    | (go_at_call 6; refine HN2.out.mono ?_; rintro e w2 ⟨T, rfl, hD, hpt⟩; have HPT := hide hpt; obtain ⟨db, hdb⟩ : ∃ db, T.d = db := ⟨_, rfl⟩; rw [hdb] at hD ⊢; have HDU := hide hD; clear hD hpt hdb HN2)
    | (go_at_call 8; refine (works10_any _).mono ?_; rintro e w3 ⟨rfl, hB2⟩; have HD3 := hide (HDU.out.below hB2); have b2 : w3.cell? ⟨w.heap.size, 2, none⟩ = some (.int .i64 nn) := cell_of_row _ _ _ _ _ _ ((HD3.out.bel.block _ (heap_lt HX.out)).trans HX.out); clear hB2 HDU))
  have b3 : w3.cell? ⟨w.heap.size, 3, none⟩ = some (.int .i64 keep) := cell_of_row _ _ _ _ _ _ ((HD3.out.bel.block _ (heap_lt HX.out)).trans HX.out)
  have b4 : w3.cell? ⟨w.heap.size, 4, none⟩ = some (.int .i64 lose) := cell_of_row _ _ _ _ _ _ ((HD3.out.bel.block _ (heap_lt HX.out)).trans HX.out)
  have HARM : Hid (∀ n' : Nat, n' < 60 → Calls Tryz.prog 20 #[.pointer (some ⟨db, 0, none⟩), .int .i64 (1 + (n' : Int)), .int .i64 keep, .int .i64 lose] w3 fun e w2 => e = .returned (.tuple #[]) ∧ ∃ T' : DS, TrS w0 w2 da db (1 + n') m 0 keep lose S T') := fun n' hn' => by
    have := tr_start w3 HD3.out HPS.out HPT.out (n := 1 + n') ⟨by omega, by omega⟩ HKP.out HLS.out
    rw [show (((1 + n' : Nat)) : Int) = 1 + (n' : Int) from by omega] at this
    exact this
  clear HD3 HPS HPT
  go_upto_block 0 with (first
    | (go_at_call 5; refine (within10_any nn 60 _ hnn.1 hnn.2 (by decide) (by decide)).mono ?_; rintro e wn ⟨n', rfl, hn', hwn⟩; have hwn2 := hwn.symm; subst hwn2)
    | (go_at_call 20; refine (HARM.out n' hn').mono ?_; rintro e w4 ⟨rfl, T4, hT⟩; have HS0 := hide hT; clear hT HARM b2 b3 b4))
  obtain ⟨n, hn⟩ : ∃ n, 1 + n' = n := ⟨_, rfl⟩
  have hnI : 1 + (n' : Int) = (n : Int) := by omega
  rw [hn] at HS0
  rw [hnI]
  clear hn hnI hn'
  go_wp2_with fail
  go_loopw [9, 10] (fun t9 t10 wr => ∃ (i : Nat) (z : Int), t9 = .int .i64 z ∧ t10 = .int .i64 (i : Int) ∧ (0 ≤ z ∧ z ≤ 131072) ∧ i ≤ 400 ∧ i ≤ nL ∧ Hid (∃ (S T : DS), TrS w0 wr da db n m i keep lose S T)) (fun _ t10 _ => 400 - (intOf t10).toNat)
  case atStart => exact ⟨0, 131072, rfl, rfl, ⟨by decide, by decide⟩, by decide, by omega, S, T4, HS0.out⟩
  case round =>
    obtain ⟨i, z, rfl, rfl, hz, hi4, hin, HS⟩ := hrel
    clear HS0
    have hcell : wr.cell? ⟨w.heap.size, 1, none⟩ = some (.slice pL nL cL) := by
      obtain ⟨S, T, hS⟩ := HS.out
      exact cell_of_row _ _ _ _ _ _ ((hS.duo.bel.block _ (heap_lt HX.out)).trans HX.out)
    by_cases hlt : i < nL
    · have hlt' : (i : Int) < (nL : Int) := by omega
      by_cases hlt4 : i < 400
      · have hlt4' : (i : Int) < 400 := by omega
        obtain ⟨b, o, dw, on, nm, tt, pb, nb, cb, z2, kp, ls, fl, bs, rfl, hop⟩ := HL.out i hlt
        obtain ⟨pf, nf, cf, rfl⟩ := op_fl hop
        have HOP := hide hop
        clear hop
        obtain ⟨S, T, hS⟩ := HS.out
        obtain ⟨c0, c1, c2, c3, c4, c5, c6, c7, c8, -, -, -, -⟩ := HOP.out.below hS.duo.bel
        have HT := hide hS
        clear hS HS
        go_upto_region 13 with fail
        obtain ⟨wo, hwo⟩ : ∃ wo, wr.alloc (.cells #[.int .i64 dw, .int .i64 on, .string nm, .string tt, .slice pb nb cb, .int .i64 z2, .int .i64 kp, .int .i64 ls, .slice pf nf cf] 36) = wo := ⟨_, rfl⟩
        have HBW : Hid (Below wr.heap.size wr wo) := by rw [← hwo]; exact (Below.refl _ _).alloc (Nat.le_refl _) _
        have HK0 : Hid (DuK w0 wo da db S T wr.heap.size (.cells #[.int .i64 dw, .int .i64 on, .string nm, .string tt, .slice pb nb cb, .int .i64 z2, .int .i64 kp, .int .i64 ls, .slice pf nf cf] 36 (0, 0))) := ⟨HT.out.duo.below HBW.out, by rw [← hwo]; exact heap_alloc_new _ _, fun e => by have := HT.out.duo.a.fpLt _ e; omega, fun e => by have := HT.out.duo.b.fpLt _ e; omega⟩
        rw [hwo]
        clear hwo c0 c1 c2 c3 c4 c5 c6 c7 c8
        have HSI := hide (size_op HOP.out HK0.out.duo.bel)
        have y0 : wo.cell? ⟨wr.heap.size, 0, none⟩ = some (.int .i64 dw) := cell_of_row _ _ _ _ _ _ HK0.out.at_; have y1 : wo.cell? ⟨wr.heap.size, 1, none⟩ = some (.int .i64 on) := cell_of_row _ _ _ _ _ _ HK0.out.at_; have y2 : wo.cell? ⟨wr.heap.size, 2, none⟩ = some (.string nm) := cell_of_row _ _ _ _ _ _ HK0.out.at_; have y3 : wo.cell? ⟨wr.heap.size, 3, none⟩ = some (.string tt) := cell_of_row _ _ _ _ _ _ HK0.out.at_; have y4 : wo.cell? ⟨wr.heap.size, 4, none⟩ = some (.slice pb nb cb) := cell_of_row _ _ _ _ _ _ HK0.out.at_; have y5 : wo.cell? ⟨wr.heap.size, 5, none⟩ = some (.int .i64 z2) := cell_of_row _ _ _ _ _ _ HK0.out.at_; have y6 : wo.cell? ⟨wr.heap.size, 6, none⟩ = some (.int .i64 kp) := cell_of_row _ _ _ _ _ _ HK0.out.at_; have y7 : wo.cell? ⟨wr.heap.size, 7, none⟩ = some (.int .i64 ls) := cell_of_row _ _ _ _ _ _ HK0.out.at_; have y8 : wo.cell? ⟨wr.heap.size, 8, none⟩ = some (.slice pf nf cf) := cell_of_row _ _ _ _ _ _ HK0.out.at_
        go_upto_region 14 with (go_at_call 9; refine HSI.out.mono ?_; rintro e w3 ⟨⟨r, rfl, hr1, hr2⟩, hb3⟩; have HK3 := hide (HK0.out.below hb3); clear hb3 HSI HK0 y0 y1 y2 y3 y4 y5 y6 y7 y8)
        clear hcell HBW
        have HTO := hide HT.out.tor
        have HTR := hide HT.out.room
        have HTN := hide HT.out.n60
        clear HT
        by_cases hz0 : z - (r : Int) < 0
        · have HSE : Hid (∃ (S T : DS), TrS w0 w3 da db n m i keep lose S T) := ⟨S, T, HK3.out.duo, HTO.out, HTR.out, HTN.out⟩
          clear HK3 HTO HTR
          obtain ⟨S, T, hS⟩ := HSE.out
          have HF1 := hide (hS.duo.filesA hS.tor.fin)
          have HFT := hide (like_fin hS.tor.like hS.tor.fin)
          have HLK := hide hS.tor.like
          have HOT : Hid (T.off = false) := hS.tor.like.2.1.symm.trans hS.tor.off
          clear HSE hS
          go_wp2_with (first
            | (go_at_call 10; refine HF1.out.mono ?_; rintro e wa ⟨p1, m1, k1, rfl, ys1, ns1, hn1, hF⟩; have HF2 := hide (hF.filesB HFT.out); clear hn1 hF HF1)
            | (go_at_call 10; refine HF2.out.mono ?_; rintro e wb ⟨p2, m2, k2, rfl, ys2, ns2, hn2, hF⟩; have HEQ := hide (hF.eq HLK.out); clear hn2 hF HF2)
            | (go_at_call 14; refine HEQ.out.mono ?_; rintro e wc ⟨rfl, hD⟩; have HOB := hide hD.offB; rw [HOT.out] at HOB; clear hD HEQ)
            | (go_at_call 19; refine HOB.out.mono ?_; rintro e wd ⟨rfl, hD⟩; have HBE := hide hD.bel; clear hD HOB))
          go_ret
          exact ⟨rfl, HB0.out.trans (HBE.out.mono HB0.out.size)⟩
        · have hzr : 0 ≤ z - (r : Int) := by omega
          have HNB : Hid (nb ≤ 1000000000) := by show _ ≤ _; omega
          have HSW : Hid (S.wr ≤ 1000000000 ∧ T.wr ≤ 1000000000) := by
            have h1 := HTO.out.wr
            have h2 : S.wr = S.ps.wr := rfl
            have h3 : T.wr = T.ps.wr := rfl
            show _ ∧ _
            omega
          obtain ⟨V, hV⟩ : ∃ V, T.wr = V := ⟨_, rfl⟩
          have HV := hide hV
          have hVb : V ≤ 1000 := by have h1 := HTO.out.wr; have h3 : T.wr = T.ps.wr := rfl; omega
          have hn60 : n ≤ 60 := HTN.out.2
          have hn1 : 1 ≤ n := HTN.out.1
          clear hV
          have HWB := hide HK3.out.writesB
          rw [HV.out] at HWB
          by_cases hk : V + 1 = n
          · have hk' : (V : Int) = (n : Int) - 1 := by omega
            go_upto_region 16 with (go_at_call 11; refine HWB.out.mono ?_; rintro e w4 ⟨rfl, hK⟩; have HK4 := hide hK; clear hK HWB HK3)
            have HFA := hide (HK4.out.filesA HTO.out.fin)
            clear HK4
            go_upto_region 19 with (first
              | (go_at_call 7; refine (num10_any _ _).mono ?_; rintro e wn ⟨rfl, hwn⟩; have hwn2 := hwn.symm; subst hwn2)
              | (go_at_call 10; refine HFA.out.mono ?_; rintro e w5 ⟨pv, nv, cv, rfl, ys, ns, hW, hp, hK⟩; have HLD := hide (hK.load HTO.out.off HTO.out.fin HM.out HTR.out hW hp); have HK5 := hide hK; clear hW hp hK HFA)
              | (go_at_call 18; refine HLD.out.mono ?_; rintro e w6 ⟨dp, P, rfl, hdp, hP, hK⟩; have HPD := hide (hP.doit hdp HK5.out dw on nm tt pb nb cb z2 kp ls (.slice pf nf cf) bs HOP.out.by_ HNB.out HOP.out.sz); have HK6 := hide hK; clear hdp hP hK HLD HK5))
            have y0 : w6.cell? ⟨wr.heap.size, 0, none⟩ = some (.int .i64 dw) := cell_of_row _ _ _ _ _ _ HK6.out.at_; have y1 : w6.cell? ⟨wr.heap.size, 1, none⟩ = some (.int .i64 on) := cell_of_row _ _ _ _ _ _ HK6.out.at_; have y2 : w6.cell? ⟨wr.heap.size, 2, none⟩ = some (.string nm) := cell_of_row _ _ _ _ _ _ HK6.out.at_; have y3 : w6.cell? ⟨wr.heap.size, 3, none⟩ = some (.string tt) := cell_of_row _ _ _ _ _ _ HK6.out.at_; have y4 : w6.cell? ⟨wr.heap.size, 4, none⟩ = some (.slice pb nb cb) := cell_of_row _ _ _ _ _ _ HK6.out.at_; have y5 : w6.cell? ⟨wr.heap.size, 5, none⟩ = some (.int .i64 z2) := cell_of_row _ _ _ _ _ _ HK6.out.at_; have y6 : w6.cell? ⟨wr.heap.size, 6, none⟩ = some (.int .i64 kp) := cell_of_row _ _ _ _ _ _ HK6.out.at_; have y7 : w6.cell? ⟨wr.heap.size, 7, none⟩ = some (.int .i64 ls) := cell_of_row _ _ _ _ _ _ HK6.out.at_; have y8 : w6.cell? ⟨wr.heap.size, 8, none⟩ = some (.slice pf nf cf) := cell_of_row _ _ _ _ _ _ HK6.out.at_
            go_upto_region 20 with (go_at_call 12; refine HPD.out.mono ?_; rintro e w7 ⟨zc, is, rfl, hor, hK⟩; have HOR := hide hor; have HK7 := hide hK; clear hor hK HPD HK6 y0 y1 y2 y3 y4 y5 y6 y7 y8)
            obtain ⟨his, hzc, htk⟩ | ⟨hno, hnt⟩ := HOR.out
            · subst his
              subst hzc
              have HTK := hide htk
              clear htk HOR
              have HN3 := hide (con_nodup HK7.out.duo.a)
              have HDB := hide (HK7.out.doB HTO.out.arm.2 HSW.out.2 dw on nm tt pb nb cb z2 kp ls (.slice pf nf cf) bs HOP.out.by_ HNB.out HOP.out.sz)
              have HKW : Hid (S.ps.wr + 1 = n) := by have h2 := HTO.out.wr; have h3 : T.wr = T.ps.wr := rfl; have h4 := HV.out; show _ = _; omega
              have y0 : w7.cell? ⟨wr.heap.size, 0, none⟩ = some (.int .i64 dw) := cell_of_row _ _ _ _ _ _ HK7.out.at_; have y1 : w7.cell? ⟨wr.heap.size, 1, none⟩ = some (.int .i64 on) := cell_of_row _ _ _ _ _ _ HK7.out.at_; have y2 : w7.cell? ⟨wr.heap.size, 2, none⟩ = some (.string nm) := cell_of_row _ _ _ _ _ _ HK7.out.at_; have y3 : w7.cell? ⟨wr.heap.size, 3, none⟩ = some (.string tt) := cell_of_row _ _ _ _ _ _ HK7.out.at_; have y4 : w7.cell? ⟨wr.heap.size, 4, none⟩ = some (.slice pb nb cb) := cell_of_row _ _ _ _ _ _ HK7.out.at_; have y5 : w7.cell? ⟨wr.heap.size, 5, none⟩ = some (.int .i64 z2) := cell_of_row _ _ _ _ _ _ HK7.out.at_; have y6 : w7.cell? ⟨wr.heap.size, 6, none⟩ = some (.int .i64 kp) := cell_of_row _ _ _ _ _ _ HK7.out.at_; have y7 : w7.cell? ⟨wr.heap.size, 7, none⟩ = some (.int .i64 ls) := cell_of_row _ _ _ _ _ _ HK7.out.at_; have y8 : w7.cell? ⟨wr.heap.size, 8, none⟩ = some (.slice pf nf cf) := cell_of_row _ _ _ _ _ _ HK7.out.at_
              go_upto_region 22 with (first
                | (go_at_call 7; refine (num10_any _ _).mono ?_; rintro e wn ⟨rfl, hwn⟩; have hwn2 := hwn.symm; subst hwn2)
                | (go_at_call 12; refine HDB.out.mono ?_; rintro e wa ⟨zy, is2, T5, rfl, hR, hK⟩; obtain ⟨q1, q2, q3, q4, q5, q6, q7, q8, q9⟩ := tor_torn HTO.out HN3.out HKW.out HTK.out.1 HTK.out.2 hR; subst q1; subst q2; have HTC := hide q3; have HT0 := hide (And.intro q4 (And.intro q5 (And.intro q6 (And.intro q7 (And.intro q8 q9))))); have HKA := hide hK; clear y0 y1 y2 y3 y4 y5 y6 y7 y8; clear hR hK HDB q3 q4 q5 q6 q7 q8 q9 HK7))
              have HOB := hide HKA.out.offB
              rw [show T5.off = true from HT0.out.1] at HOB
              clear HKA
              go_wp2_with (first
                | (go_at_call 7; refine (num10_any _ _).mono ?_; rintro e wn ⟨rfl, hwn⟩; have hwn2 := hwn.symm; subst hwn2)
                | (go_at_call 19; refine HOB.out.mono ?_; rintro e wb ⟨rfl, hK⟩; have HW1 := hide hK.writesB; rw [show T5.wr = n from HT0.out.2.2.2.2.1] at HW1; clear hK HOB)
                | (go_at_call 11; refine HW1.out.mono ?_; rintro e wc ⟨rfl, hK⟩; have HTN2 := hide (torn_at hK HTO.out HSW.out.1 HTK.out rm nn (some ⟨b, o, none⟩) pM nL cL nM cM HKP.out dw on nm tt pb nb cb z2 kp ls (.slice pf nf cf) bs HOP.out.by_ HNB.out HOP.out.sz (lose := lose)); have y0 : wc.cell? ⟨wr.heap.size, 0, none⟩ = some (.int .i64 dw) := cell_of_row _ _ _ _ _ _ hK.at_; have y1 : wc.cell? ⟨wr.heap.size, 1, none⟩ = some (.int .i64 on) := cell_of_row _ _ _ _ _ _ hK.at_; have y2 : wc.cell? ⟨wr.heap.size, 2, none⟩ = some (.string nm) := cell_of_row _ _ _ _ _ _ hK.at_; have y3 : wc.cell? ⟨wr.heap.size, 3, none⟩ = some (.string tt) := cell_of_row _ _ _ _ _ _ hK.at_; have y4 : wc.cell? ⟨wr.heap.size, 4, none⟩ = some (.slice pb nb cb) := cell_of_row _ _ _ _ _ _ hK.at_; have y5 : wc.cell? ⟨wr.heap.size, 5, none⟩ = some (.int .i64 z2) := cell_of_row _ _ _ _ _ _ hK.at_; have y6 : wc.cell? ⟨wr.heap.size, 6, none⟩ = some (.int .i64 kp) := cell_of_row _ _ _ _ _ _ hK.at_; have y7 : wc.cell? ⟨wr.heap.size, 7, none⟩ = some (.int .i64 ls) := cell_of_row _ _ _ _ _ _ hK.at_; have y8 : wc.cell? ⟨wr.heap.size, 8, none⟩ = some (.slice pf nf cf) := cell_of_row _ _ _ _ _ _ hK.at_; have b0 : wc.cell? ⟨w.heap.size, 0, none⟩ = some (.int .i64 rm) := cell_of_row _ _ _ _ _ _ ((hK.duo.bel.block _ (heap_lt HX.out)).trans HX.out); have b1 : wc.cell? ⟨w.heap.size, 1, none⟩ = some (.slice (some ⟨b, o, none⟩) nL cL) := cell_of_row _ _ _ _ _ _ ((hK.duo.bel.block _ (heap_lt HX.out)).trans HX.out); have b2 : wc.cell? ⟨w.heap.size, 2, none⟩ = some (.int .i64 nn) := cell_of_row _ _ _ _ _ _ ((hK.duo.bel.block _ (heap_lt HX.out)).trans HX.out); have b3 : wc.cell? ⟨w.heap.size, 3, none⟩ = some (.int .i64 keep) := cell_of_row _ _ _ _ _ _ ((hK.duo.bel.block _ (heap_lt HX.out)).trans HX.out); have b4 : wc.cell? ⟨w.heap.size, 4, none⟩ = some (.int .i64 lose) := cell_of_row _ _ _ _ _ _ ((hK.duo.bel.block _ (heap_lt HX.out)).trans HX.out); have b5 : wc.cell? ⟨w.heap.size, 5, none⟩ = some (.slice pM nM cM) := cell_of_row _ _ _ _ _ _ ((hK.duo.bel.block _ (heap_lt HX.out)).trans HX.out); clear hK HW1)
                | (go_at_call 21; refine HTN2.out.mono ?_; rintro e wd ⟨rfl, S6, hD, hC, hoff6, hfin6⟩; have HS6 := hide (And.intro hoff6 hfin6); have HPR : Hid (T5.ps.con.Perm (Con.each S6.ps.con (lostF lose))) := (by have h1 := torn_left HTO.out HN3.out dw nm tt bs z2; rw [hC, HTC.out]; exact h1); have HLF := hide (left_any wd hD hoff6 hfin6 HPR.out HLS.out); clear y0 y1 y2 y3 y4 y5 y6 y7 y8 b0 b1 b2 b3 b4 b5; have d4 : wd.cell? ⟨w.heap.size, 4, none⟩ = some (.int .i64 lose) := cell_of_row _ _ _ _ _ _ ((hD.bel.block _ (heap_lt HX.out)).trans HX.out); clear hD hC hoff6 hfin6 HTN2)
                | (go_at_call 22; refine HLF.out.mono ?_; rintro e we ⟨rfl, hD⟩; have HGO := hide (goes_at hD HS6.out.2 HPR.out HT0.out (HTO.out.like.2.2.symm.trans HTR.out) hn60 HM.out pM nM cM HLM.out.2 HLM.out.1); clear d4; have f5 : we.cell? ⟨w.heap.size, 5, none⟩ = some (.slice pM nM cM) := cell_of_row _ _ _ _ _ _ ((hD.bel.block _ (heap_lt HX.out)).trans HX.out); clear hD HLF)
                | (go_at_call 23; refine HGO.out.mono ?_; rintro e wf ⟨rfl, hbf⟩; have HBF := hide hbf; clear f5 hbf HGO))
              go_ret
              exact ⟨rfl, HB0.out.trans (HBF.out.mono HB0.out.size)⟩
            · have HNT : Hid (S.ps.wr + 1 < n ∨ ¬ Tak S.ps dw nm tt bs z2) := .inr hnt
              clear hnt HOR
              cases is with
              | false =>
                clear hno
                go_upto_region 23 with fail
                have HN3 := hide (con_nodup HK7.out.duo.a)
                have HDA := hide (HK7.out.doA HTO.out.arm.1 HSW.out.1 dw on nm tt pb nb cb z2 kp ls (.slice pf nf cf) bs HOP.out.by_ HNB.out HOP.out.sz)
                have y0 : w7.cell? ⟨wr.heap.size, 0, none⟩ = some (.int .i64 dw) := cell_of_row _ _ _ _ _ _ HK7.out.at_; have y1 : w7.cell? ⟨wr.heap.size, 1, none⟩ = some (.int .i64 on) := cell_of_row _ _ _ _ _ _ HK7.out.at_; have y2 : w7.cell? ⟨wr.heap.size, 2, none⟩ = some (.string nm) := cell_of_row _ _ _ _ _ _ HK7.out.at_; have y3 : w7.cell? ⟨wr.heap.size, 3, none⟩ = some (.string tt) := cell_of_row _ _ _ _ _ _ HK7.out.at_; have y4 : w7.cell? ⟨wr.heap.size, 4, none⟩ = some (.slice pb nb cb) := cell_of_row _ _ _ _ _ _ HK7.out.at_; have y5 : w7.cell? ⟨wr.heap.size, 5, none⟩ = some (.int .i64 z2) := cell_of_row _ _ _ _ _ _ HK7.out.at_; have y6 : w7.cell? ⟨wr.heap.size, 6, none⟩ = some (.int .i64 kp) := cell_of_row _ _ _ _ _ _ HK7.out.at_; have y7 : w7.cell? ⟨wr.heap.size, 7, none⟩ = some (.int .i64 ls) := cell_of_row _ _ _ _ _ _ HK7.out.at_; have y8 : w7.cell? ⟨wr.heap.size, 8, none⟩ = some (.slice pf nf cf) := cell_of_row _ _ _ _ _ _ HK7.out.at_
                go_upto_region 25 with (first
                  | (go_at_call 12; refine HDA.out.mono ?_; rintro e wa ⟨za, isa, S4, rfl, hR, hK⟩; have HRA := hide hR; have HDB := hide (hK.doB HTO.out.arm.2 HSW.out.2 dw on nm tt pb nb cb z2 kp ls (.slice pf nf cf) bs HOP.out.by_ HNB.out HOP.out.sz); clear y0 y1 y2 y3 y4 y5 y6 y7 y8; have v0 : wa.cell? ⟨wr.heap.size, 0, none⟩ = some (.int .i64 dw) := cell_of_row _ _ _ _ _ _ hK.at_; have v1 : wa.cell? ⟨wr.heap.size, 1, none⟩ = some (.int .i64 on) := cell_of_row _ _ _ _ _ _ hK.at_; have v2 : wa.cell? ⟨wr.heap.size, 2, none⟩ = some (.string nm) := cell_of_row _ _ _ _ _ _ hK.at_; have v3 : wa.cell? ⟨wr.heap.size, 3, none⟩ = some (.string tt) := cell_of_row _ _ _ _ _ _ hK.at_; have v4 : wa.cell? ⟨wr.heap.size, 4, none⟩ = some (.slice pb nb cb) := cell_of_row _ _ _ _ _ _ hK.at_; have v5 : wa.cell? ⟨wr.heap.size, 5, none⟩ = some (.int .i64 z2) := cell_of_row _ _ _ _ _ _ hK.at_; have v6 : wa.cell? ⟨wr.heap.size, 6, none⟩ = some (.int .i64 kp) := cell_of_row _ _ _ _ _ _ hK.at_; have v7 : wa.cell? ⟨wr.heap.size, 7, none⟩ = some (.int .i64 ls) := cell_of_row _ _ _ _ _ _ hK.at_; have v8 : wa.cell? ⟨wr.heap.size, 8, none⟩ = some (.slice pf nf cf) := cell_of_row _ _ _ _ _ _ hK.at_; clear hR hK HDA)
                  | (go_at_call 12; refine HDB.out.mono ?_; rintro e wb ⟨zy, is2, T5, rfl, hR, hK⟩; obtain ⟨k1, k2, k3⟩ := tor_step HTO.out HN3.out HNT.out HRA.out hR; subst k1; subst k2; have HT5 : Hid (TrS w0 wb da db n m (i + 1) keep lose S4 T5) := ⟨hK.duo, k3, room_same HTR.out HTO.out HN3.out HRA.out, HTN.out⟩; clear v0 v1 v2 v3 v4 v5 v6 v7 v8; clear hR hK HDB k3 HRA))
                have HFT := hide (like_fin HT5.out.tor.like HT5.out.tor.fin)
                have HLK := hide HT5.out.tor.like
                have HOT : Hid (T5.off = false) := HT5.out.tor.like.2.1.symm.trans HT5.out.tor.off
                obtain ⟨V5, hV5⟩ : ∃ V5, S4.wr = V5 := ⟨_, rfl⟩
                have HV5 : Hid (S4.wr = V5 ∧ T5.wr = V5) := ⟨hV5, HT5.out.tor.wr.1.trans hV5⟩
                have HOB := hide HT5.out.duo.offB
                rw [HOT.out] at HOB
                have HF0 := hide (HT5.out.duo.filesA HT5.out.tor.fin)
                clear hV5
                cases is2 with
                | false =>
                  clear HOB
                  go_wp2_with (first
                    | (go_at_call 10; refine HF0.out.mono ?_; rintro e wf ⟨p1, m1, k1, rfl, ys1, ns1, hn1, hF⟩; have HF2 := hide (hF.filesB HFT.out); clear hn1 hF HF0)
                    | (go_at_call 10; refine HF2.out.mono ?_; rintro e wg ⟨p2, m2, k2, rfl, ys2, ns2, hn2, hF⟩; have HEQ := hide (hF.eq HLK.out); clear hn2 hF HF2)
                    | (go_at_call 14; refine HEQ.out.mono ?_; rintro e wh ⟨rfl, hD⟩; have HDE := hide hD; clear hD HEQ))
                  go_roundw
                  case rel => exact ⟨i + 1, z - (r : Int), rfl, by simp, by omega, by omega, by omega, S4, T5, HDE.out, HT5.out.tor, HT5.out.room, HT5.out.n60⟩
                  case measure => simp [intOf]; omega
                | true =>
                  clear HF0
                  go_wp2_with (first
                    | (go_at_call 19; refine HOB.out.mono ?_; rintro e wc ⟨rfl, hD⟩; have HW1 := hide hD.writesA; rw [HV5.out.1] at HW1; clear hD HOB)
                    | (go_at_call 11; refine HW1.out.mono ?_; rintro e wd ⟨rfl, hD⟩; have HW2 := hide hD.writesB; rw [HV5.out.2] at HW2; clear hD HW1)
                    | (go_at_call 11; refine HW2.out.mono ?_; rintro e we ⟨rfl, hD⟩; have HF1 := hide (hD.filesA HT5.out.tor.fin); clear hD HW2)
                    | (go_at_call 10; refine HF1.out.mono ?_; rintro e wf ⟨p1, m1, k1, rfl, ys1, ns1, hn1, hF⟩; have HF2 := hide (hF.filesB HFT.out); clear hn1 hF HF1)
                    | (go_at_call 10; refine HF2.out.mono ?_; rintro e wg ⟨p2, m2, k2, rfl, ys2, ns2, hn2, hF⟩; have HEQ := hide (hF.eq HLK.out); clear hn2 hF HF2)
                    | (go_at_call 14; refine HEQ.out.mono ?_; rintro e wh ⟨rfl, hD⟩; have HDE := hide hD; clear hD HEQ))
                  go_roundw
                  case rel => exact ⟨i + 1, z - (r : Int), rfl, by simp, by omega, by omega, by omega, S4, T5, HDE.out, HT5.out.tor, HT5.out.room, HT5.out.n60⟩
                  case measure => simp [intOf]; omega
              | true =>
                have hzc : ¬ zc = 0 := fun e => hno ⟨rfl, e⟩
                have hzb : (zc == 0) = false := by simpa using hzc
                clear hno
                go_upto_region 23 with (go_at_call 7; refine (num10_any _ _).mono ?_; rintro e wn ⟨rfl, hwn⟩; have hwn2 := hwn.symm; subst hwn2)
                have HN3 := hide (con_nodup HK7.out.duo.a)
                have HDA := hide (HK7.out.doA HTO.out.arm.1 HSW.out.1 dw on nm tt pb nb cb z2 kp ls (.slice pf nf cf) bs HOP.out.by_ HNB.out HOP.out.sz)
                have y0 : w7.cell? ⟨wr.heap.size, 0, none⟩ = some (.int .i64 dw) := cell_of_row _ _ _ _ _ _ HK7.out.at_; have y1 : w7.cell? ⟨wr.heap.size, 1, none⟩ = some (.int .i64 on) := cell_of_row _ _ _ _ _ _ HK7.out.at_; have y2 : w7.cell? ⟨wr.heap.size, 2, none⟩ = some (.string nm) := cell_of_row _ _ _ _ _ _ HK7.out.at_; have y3 : w7.cell? ⟨wr.heap.size, 3, none⟩ = some (.string tt) := cell_of_row _ _ _ _ _ _ HK7.out.at_; have y4 : w7.cell? ⟨wr.heap.size, 4, none⟩ = some (.slice pb nb cb) := cell_of_row _ _ _ _ _ _ HK7.out.at_; have y5 : w7.cell? ⟨wr.heap.size, 5, none⟩ = some (.int .i64 z2) := cell_of_row _ _ _ _ _ _ HK7.out.at_; have y6 : w7.cell? ⟨wr.heap.size, 6, none⟩ = some (.int .i64 kp) := cell_of_row _ _ _ _ _ _ HK7.out.at_; have y7 : w7.cell? ⟨wr.heap.size, 7, none⟩ = some (.int .i64 ls) := cell_of_row _ _ _ _ _ _ HK7.out.at_; have y8 : w7.cell? ⟨wr.heap.size, 8, none⟩ = some (.slice pf nf cf) := cell_of_row _ _ _ _ _ _ HK7.out.at_
                go_upto_region 25 with (first
                  | (go_at_call 12; refine HDA.out.mono ?_; rintro e wa ⟨za, isa, S4, rfl, hR, hK⟩; have HRA := hide hR; have HDB := hide (hK.doB HTO.out.arm.2 HSW.out.2 dw on nm tt pb nb cb z2 kp ls (.slice pf nf cf) bs HOP.out.by_ HNB.out HOP.out.sz); clear y0 y1 y2 y3 y4 y5 y6 y7 y8; have v0 : wa.cell? ⟨wr.heap.size, 0, none⟩ = some (.int .i64 dw) := cell_of_row _ _ _ _ _ _ hK.at_; have v1 : wa.cell? ⟨wr.heap.size, 1, none⟩ = some (.int .i64 on) := cell_of_row _ _ _ _ _ _ hK.at_; have v2 : wa.cell? ⟨wr.heap.size, 2, none⟩ = some (.string nm) := cell_of_row _ _ _ _ _ _ hK.at_; have v3 : wa.cell? ⟨wr.heap.size, 3, none⟩ = some (.string tt) := cell_of_row _ _ _ _ _ _ hK.at_; have v4 : wa.cell? ⟨wr.heap.size, 4, none⟩ = some (.slice pb nb cb) := cell_of_row _ _ _ _ _ _ hK.at_; have v5 : wa.cell? ⟨wr.heap.size, 5, none⟩ = some (.int .i64 z2) := cell_of_row _ _ _ _ _ _ hK.at_; have v6 : wa.cell? ⟨wr.heap.size, 6, none⟩ = some (.int .i64 kp) := cell_of_row _ _ _ _ _ _ hK.at_; have v7 : wa.cell? ⟨wr.heap.size, 7, none⟩ = some (.int .i64 ls) := cell_of_row _ _ _ _ _ _ hK.at_; have v8 : wa.cell? ⟨wr.heap.size, 8, none⟩ = some (.slice pf nf cf) := cell_of_row _ _ _ _ _ _ hK.at_; clear hR hK HDA)
                  | (go_at_call 12; refine HDB.out.mono ?_; rintro e wb ⟨zy, is2, T5, rfl, hR, hK⟩; obtain ⟨k1, k2, k3⟩ := tor_step HTO.out HN3.out HNT.out HRA.out hR; subst k1; subst k2; have HT5 : Hid (TrS w0 wb da db n m (i + 1) keep lose S4 T5) := ⟨hK.duo, k3, room_same HTR.out HTO.out HN3.out HRA.out, HTN.out⟩; clear v0 v1 v2 v3 v4 v5 v6 v7 v8; clear hR hK HDB k3 HRA))
                have HFT := hide (like_fin HT5.out.tor.like HT5.out.tor.fin)
                have HLK := hide HT5.out.tor.like
                have HOT : Hid (T5.off = false) := HT5.out.tor.like.2.1.symm.trans HT5.out.tor.off
                obtain ⟨V5, hV5⟩ : ∃ V5, S4.wr = V5 := ⟨_, rfl⟩
                have HV5 : Hid (S4.wr = V5 ∧ T5.wr = V5) := ⟨hV5, HT5.out.tor.wr.1.trans hV5⟩
                have HOB := hide HT5.out.duo.offB
                rw [HOT.out] at HOB
                have HF0 := hide (HT5.out.duo.filesA HT5.out.tor.fin)
                clear hV5
                cases is2 with
                | false =>
                  clear HOB
                  go_wp2_with (first
                    | (go_at_call 10; refine HF0.out.mono ?_; rintro e wf ⟨p1, m1, k1, rfl, ys1, ns1, hn1, hF⟩; have HF2 := hide (hF.filesB HFT.out); clear hn1 hF HF0)
                    | (go_at_call 10; refine HF2.out.mono ?_; rintro e wg ⟨p2, m2, k2, rfl, ys2, ns2, hn2, hF⟩; have HEQ := hide (hF.eq HLK.out); clear hn2 hF HF2)
                    | (go_at_call 14; refine HEQ.out.mono ?_; rintro e wh ⟨rfl, hD⟩; have HDE := hide hD; clear hD HEQ))
                  go_roundw
                  case rel => exact ⟨i + 1, z - (r : Int), rfl, by simp, by omega, by omega, by omega, S4, T5, HDE.out, HT5.out.tor, HT5.out.room, HT5.out.n60⟩
                  case measure => simp [intOf]; omega
                | true =>
                  clear HF0
                  go_wp2_with (first
                    | (go_at_call 19; refine HOB.out.mono ?_; rintro e wc ⟨rfl, hD⟩; have HW1 := hide hD.writesA; rw [HV5.out.1] at HW1; clear hD HOB)
                    | (go_at_call 11; refine HW1.out.mono ?_; rintro e wd ⟨rfl, hD⟩; have HW2 := hide hD.writesB; rw [HV5.out.2] at HW2; clear hD HW1)
                    | (go_at_call 11; refine HW2.out.mono ?_; rintro e we ⟨rfl, hD⟩; have HF1 := hide (hD.filesA HT5.out.tor.fin); clear hD HW2)
                    | (go_at_call 10; refine HF1.out.mono ?_; rintro e wf ⟨p1, m1, k1, rfl, ys1, ns1, hn1, hF⟩; have HF2 := hide (hF.filesB HFT.out); clear hn1 hF HF1)
                    | (go_at_call 10; refine HF2.out.mono ?_; rintro e wg ⟨p2, m2, k2, rfl, ys2, ns2, hn2, hF⟩; have HEQ := hide (hF.eq HLK.out); clear hn2 hF HF2)
                    | (go_at_call 14; refine HEQ.out.mono ?_; rintro e wh ⟨rfl, hD⟩; have HDE := hide hD; clear hD HEQ))
                  go_roundw
                  case rel => exact ⟨i + 1, z - (r : Int), rfl, by simp, by omega, by omega, by omega, S4, T5, HDE.out, HT5.out.tor, HT5.out.room, HT5.out.n60⟩
                  case measure => simp [intOf]; omega
          · have hk' : ¬ (V : Int) = (n : Int) - 1 := by omega
            have hkb : ((V : Int) == (n : Int) - 1) = false := by simpa using hk'
            have HNT : Hid (S.ps.wr + 1 < n ∨ ¬ Tak S.ps dw nm tt bs z2) := .inl (by have h1 := HTO.out.ain; have h2 := HTO.out.wr; have h3 : T.wr = T.ps.wr := rfl; have h4 := HV.out; omega)
            go_upto_region 23 with (go_at_call 11; refine HWB.out.mono ?_; rintro e w4 ⟨rfl, hK⟩; have HK4 := hide hK; clear hK HWB HK3)
            have HN3 := hide (con_nodup HK4.out.duo.a)
            have HDA := hide (HK4.out.doA HTO.out.arm.1 HSW.out.1 dw on nm tt pb nb cb z2 kp ls (.slice pf nf cf) bs HOP.out.by_ HNB.out HOP.out.sz)
            have y0 : w4.cell? ⟨wr.heap.size, 0, none⟩ = some (.int .i64 dw) := cell_of_row _ _ _ _ _ _ HK4.out.at_; have y1 : w4.cell? ⟨wr.heap.size, 1, none⟩ = some (.int .i64 on) := cell_of_row _ _ _ _ _ _ HK4.out.at_; have y2 : w4.cell? ⟨wr.heap.size, 2, none⟩ = some (.string nm) := cell_of_row _ _ _ _ _ _ HK4.out.at_; have y3 : w4.cell? ⟨wr.heap.size, 3, none⟩ = some (.string tt) := cell_of_row _ _ _ _ _ _ HK4.out.at_; have y4 : w4.cell? ⟨wr.heap.size, 4, none⟩ = some (.slice pb nb cb) := cell_of_row _ _ _ _ _ _ HK4.out.at_; have y5 : w4.cell? ⟨wr.heap.size, 5, none⟩ = some (.int .i64 z2) := cell_of_row _ _ _ _ _ _ HK4.out.at_; have y6 : w4.cell? ⟨wr.heap.size, 6, none⟩ = some (.int .i64 kp) := cell_of_row _ _ _ _ _ _ HK4.out.at_; have y7 : w4.cell? ⟨wr.heap.size, 7, none⟩ = some (.int .i64 ls) := cell_of_row _ _ _ _ _ _ HK4.out.at_; have y8 : w4.cell? ⟨wr.heap.size, 8, none⟩ = some (.slice pf nf cf) := cell_of_row _ _ _ _ _ _ HK4.out.at_
            go_upto_region 25 with (first
              | (go_at_call 12; refine HDA.out.mono ?_; rintro e wa ⟨za, isa, S4, rfl, hR, hK⟩; have HRA := hide hR; have HDB := hide (hK.doB HTO.out.arm.2 HSW.out.2 dw on nm tt pb nb cb z2 kp ls (.slice pf nf cf) bs HOP.out.by_ HNB.out HOP.out.sz); clear y0 y1 y2 y3 y4 y5 y6 y7 y8; have v0 : wa.cell? ⟨wr.heap.size, 0, none⟩ = some (.int .i64 dw) := cell_of_row _ _ _ _ _ _ hK.at_; have v1 : wa.cell? ⟨wr.heap.size, 1, none⟩ = some (.int .i64 on) := cell_of_row _ _ _ _ _ _ hK.at_; have v2 : wa.cell? ⟨wr.heap.size, 2, none⟩ = some (.string nm) := cell_of_row _ _ _ _ _ _ hK.at_; have v3 : wa.cell? ⟨wr.heap.size, 3, none⟩ = some (.string tt) := cell_of_row _ _ _ _ _ _ hK.at_; have v4 : wa.cell? ⟨wr.heap.size, 4, none⟩ = some (.slice pb nb cb) := cell_of_row _ _ _ _ _ _ hK.at_; have v5 : wa.cell? ⟨wr.heap.size, 5, none⟩ = some (.int .i64 z2) := cell_of_row _ _ _ _ _ _ hK.at_; have v6 : wa.cell? ⟨wr.heap.size, 6, none⟩ = some (.int .i64 kp) := cell_of_row _ _ _ _ _ _ hK.at_; have v7 : wa.cell? ⟨wr.heap.size, 7, none⟩ = some (.int .i64 ls) := cell_of_row _ _ _ _ _ _ hK.at_; have v8 : wa.cell? ⟨wr.heap.size, 8, none⟩ = some (.slice pf nf cf) := cell_of_row _ _ _ _ _ _ hK.at_; clear hR hK HDA)
              | (go_at_call 12; refine HDB.out.mono ?_; rintro e wb ⟨zy, is2, T5, rfl, hR, hK⟩; obtain ⟨k1, k2, k3⟩ := tor_step HTO.out HN3.out HNT.out HRA.out hR; subst k1; subst k2; have HT5 : Hid (TrS w0 wb da db n m (i + 1) keep lose S4 T5) := ⟨hK.duo, k3, room_same HTR.out HTO.out HN3.out HRA.out, HTN.out⟩; clear v0 v1 v2 v3 v4 v5 v6 v7 v8; clear hR hK HDB k3 HRA))
            have HFT := hide (like_fin HT5.out.tor.like HT5.out.tor.fin)
            have HLK := hide HT5.out.tor.like
            have HOT : Hid (T5.off = false) := HT5.out.tor.like.2.1.symm.trans HT5.out.tor.off
            obtain ⟨V5, hV5⟩ : ∃ V5, S4.wr = V5 := ⟨_, rfl⟩
            have HV5 : Hid (S4.wr = V5 ∧ T5.wr = V5) := ⟨hV5, HT5.out.tor.wr.1.trans hV5⟩
            have HOB := hide HT5.out.duo.offB
            rw [HOT.out] at HOB
            have HF0 := hide (HT5.out.duo.filesA HT5.out.tor.fin)
            clear hV5
            cases is2 with
            | false =>
              clear HOB
              go_wp2_with (first
                | (go_at_call 10; refine HF0.out.mono ?_; rintro e wf ⟨p1, m1, k1, rfl, ys1, ns1, hn1, hF⟩; have HF2 := hide (hF.filesB HFT.out); clear hn1 hF HF0)
                | (go_at_call 10; refine HF2.out.mono ?_; rintro e wg ⟨p2, m2, k2, rfl, ys2, ns2, hn2, hF⟩; have HEQ := hide (hF.eq HLK.out); clear hn2 hF HF2)
                | (go_at_call 14; refine HEQ.out.mono ?_; rintro e wh ⟨rfl, hD⟩; have HDE := hide hD; clear hD HEQ))
              go_roundw
              case rel => exact ⟨i + 1, z - (r : Int), rfl, by simp, by omega, by omega, by omega, S4, T5, HDE.out, HT5.out.tor, HT5.out.room, HT5.out.n60⟩
              case measure => simp [intOf]; omega
            | true =>
              clear HF0
              go_wp2_with (first
                | (go_at_call 19; refine HOB.out.mono ?_; rintro e wc ⟨rfl, hD⟩; have HW1 := hide hD.writesA; rw [HV5.out.1] at HW1; clear hD HOB)
                | (go_at_call 11; refine HW1.out.mono ?_; rintro e wd ⟨rfl, hD⟩; have HW2 := hide hD.writesB; rw [HV5.out.2] at HW2; clear hD HW1)
                | (go_at_call 11; refine HW2.out.mono ?_; rintro e we ⟨rfl, hD⟩; have HF1 := hide (hD.filesA HT5.out.tor.fin); clear hD HW2)
                | (go_at_call 10; refine HF1.out.mono ?_; rintro e wf ⟨p1, m1, k1, rfl, ys1, ns1, hn1, hF⟩; have HF2 := hide (hF.filesB HFT.out); clear hn1 hF HF1)
                | (go_at_call 10; refine HF2.out.mono ?_; rintro e wg ⟨p2, m2, k2, rfl, ys2, ns2, hn2, hF⟩; have HEQ := hide (hF.eq HLK.out); clear hn2 hF HF2)
                | (go_at_call 14; refine HEQ.out.mono ?_; rintro e wh ⟨rfl, hD⟩; have HDE := hide hD; clear hD HEQ))
              go_roundw
              case rel => exact ⟨i + 1, z - (r : Int), rfl, by simp, by omega, by omega, by omega, S4, T5, HDE.out, HT5.out.tor, HT5.out.room, HT5.out.n60⟩
              case measure => simp [intOf]; omega
      · have hlt4' : ¬ (i : Int) < 400 := by omega
        have HSE := HS
        obtain ⟨S, T, hS⟩ := HSE.out
        have HF1 := hide (hS.duo.filesA hS.tor.fin)
        have HFT := hide (like_fin hS.tor.like hS.tor.fin)
        have HLK := hide hS.tor.like
        have HOT : Hid (T.off = false) := hS.tor.like.2.1.symm.trans hS.tor.off
        clear HSE hS
        go_wp2_with (first
          | (go_at_call 10; refine HF1.out.mono ?_; rintro e wa ⟨p1, m1, k1, rfl, ys1, ns1, hn1, hF⟩; have HF2 := hide (hF.filesB HFT.out); clear hn1 hF HF1)
          | (go_at_call 10; refine HF2.out.mono ?_; rintro e wb ⟨p2, m2, k2, rfl, ys2, ns2, hn2, hF⟩; have HEQ := hide (hF.eq HLK.out); clear hn2 hF HF2)
          | (go_at_call 14; refine HEQ.out.mono ?_; rintro e wc ⟨rfl, hD⟩; have HOB := hide hD.offB; rw [HOT.out] at HOB; clear hD HEQ)
          | (go_at_call 19; refine HOB.out.mono ?_; rintro e wd ⟨rfl, hD⟩; have HBE := hide hD.bel; clear hD HOB))
        go_ret
        exact ⟨rfl, HB0.out.trans (HBE.out.mono HB0.out.size)⟩
    · have hlt' : ¬ (i : Int) < (nL : Int) := by omega
      have HSE := HS
      obtain ⟨S, T, hS⟩ := HSE.out
      have HF1 := hide (hS.duo.filesA hS.tor.fin)
      have HFT := hide (like_fin hS.tor.like hS.tor.fin)
      have HLK := hide hS.tor.like
      have HOT : Hid (T.off = false) := hS.tor.like.2.1.symm.trans hS.tor.off
      clear HSE hS
      go_wp2_with (first
        | (go_at_call 10; refine HF1.out.mono ?_; rintro e wa ⟨p1, m1, k1, rfl, ys1, ns1, hn1, hF⟩; have HF2 := hide (hF.filesB HFT.out); clear hn1 hF HF1)
        | (go_at_call 10; refine HF2.out.mono ?_; rintro e wb ⟨p2, m2, k2, rfl, ys2, ns2, hn2, hF⟩; have HEQ := hide (hF.eq HLK.out); clear hn2 hF HF2)
        | (go_at_call 14; refine HEQ.out.mono ?_; rintro e wc ⟨rfl, hD⟩; have HOB := hide hD.offB; rw [HOT.out] at HOB; clear hD HEQ)
        | (go_at_call 19; refine HOB.out.mono ?_; rintro e wd ⟨rfl, hD⟩; have HBE := hide hD.bel; clear hD HOB))
      go_ret
      exact ⟨rfl, HB0.out.trans (HBE.out.mono HB0.out.size)⟩

end Go.Proofs.YtlandfghodfjdaaGreat

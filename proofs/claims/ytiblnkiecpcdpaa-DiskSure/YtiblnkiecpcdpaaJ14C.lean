/- DiskSure's walk. -/
import Derived.Test.YtiblnkiecpcdpaaJ14B
import Derived.Lib.SmallJoins
namespace Go.Proofs.Ytiblnkiecpcdpaa
open Go.RowKit
set_option linter.unusedVariables false
set_option linter.unusedSimpArgs false

theorem OpIn.below {w w' : World} {b o : Nat} {dw on : Int} {nm tt : ByteArray} {pb : Option Addr} {nb cb : Nat} {z kp ls : Int} {fl : Value} {bs : List Nat} (h : OpIn w b o dw on nm tt pb nb cb z kp ls fl bs) (hb : Below w.heap.size w w') : OpIn w' b o dw on nm tt pb nb cb z kp ls fl bs := by
  obtain ⟨c0, c1, c2, c3, c4, c5, c6, c7, c8, sz, by_, fl_, r⟩ := h
  refine ⟨cell_bel hb c0, cell_bel hb c1, cell_bel hb c2, cell_bel hb c3, cell_bel hb c4, cell_bel hb c5, cell_bel hb c6, cell_bel hb c7, cell_bel hb c8, sz, ?_, ?_, r⟩
  · obtain ⟨p', n', c', e, h1, h2, h3, h4, h5, h6⟩ := by_
    exact ⟨p', n', c', e, h1, h2, h3, isBy_below h4 hb, h5, h6⟩
  · obtain ⟨vals, fs, h1, h2, h3⟩ := fl_
    refine ⟨vals, fs, h1.below hb, h2, fun j hj => ?_⟩
    obtain ⟨h4, p', n', c', e, q1, q2, q3, q4, q5, q6⟩ := h3 j hj
    exact ⟨h4, p', n', c', e, q1, q2, q3, isBy_below q4 hb, q5, q6⟩

theorem OpsIn.below {w w' : World} {p : Option Addr} {n : Nat} (h : OpsIn w p n) (hb : Below w.heap.size w w') : OpsIn w' p n := fun i hi => by
  obtain ⟨b, o, dw, on, nm, tt, pb, nb, cb, z, kp, ls, fl, bs, hp, h1⟩ := h i hi
  exact ⟨b, o, dw, on, nm, tt, pb, nb, cb, z, kp, ls, fl, bs, hp, h1.below hb⟩

theorem su_never {w w1 : World} {d i : Nat} {v : Value} {c : Con} {S : DS} {ns : List ByteArray} {us : List Value} (h : SuArm w w1 d i v c S ns us) (hi : i ≤ 401) :
    Calls Try.prog 16 #[.pointer (some ⟨d, 0, none⟩), .string nmA, .slice (some ⟨w1.heap.size, 0, none⟩) 5 5] (w1.alloc (.cells #[.int .u8 110, .int .u8 101, .int .u8 118, .int .u8 101, .int .u8 114] 5 (5, 6))) fun e w2 => ∃ z : Int, e = .returned (.int .i64 z) ∧ ((z = 103 ∧ Below w.heap.size w w2) ∨ (z = 104 ∧ ∃ S', SuEnd w w2 d v (sureOf c ns) S' ns us)) := by
  have hb : Below w1.heap.size w1 (w1.alloc (.cells #[.int .u8 110, .int .u8 101, .int .u8 118, .int .u8 101, .int .u8 114] 5 (5, 6))) := (Below.refl _ _).alloc (Nat.le_refl _) _
  refine (h.below hb).append (by omega) (some ⟨w1.heap.size, 0, none⟩) 5 5 (.inl (.inr ⟨w1.heap.size, 0, 5, rfl, fun j hj => ?_⟩)) rfl (Nat.le_refl _) (by simp) (fun k hk hf => ?_)
  · rw [Nat.zero_add, cell_of_row _ _ _ _ _ _ (heap_alloc_new w1 (.cells #[.int .u8 110, .int .u8 101, .int .u8 118, .int .u8 101, .int .u8 114] 5 (5, 6)))]
    have : j < 5 := hj
    match j, this with
    | 0, _ => rfl
    | 1, _ => rfl
    | 2, _ => rfl
    | 3, _ => rfl
    | 4, _ => rfl
  · have : w1.heap.size = k := by simpa [Value.ownBlock] using hk
    have := h.dk.fpLt k hf
    omega

set_option maxRecDepth 100000 in
set_option maxHeartbeats 16000000 in
theorem diskSure_any (r0 r1 : Int) (pL : Option Addr) (nL cL : Nat) (w : World) (hL : OpsIn w pL nL) (hnL : nL ≤ 140737488355328) (hr0 : -9223372036854775808 ≤ r0 ∧ r0 ≤ 9223372036854775807) :
    Calls Try.prog 3 #[.agg #[.int .i64 r0, .int .i64 r1, .slice pL nL cL]] w fun e w' => e = .returned (.bool true) ∧ Below w.heap.size w w' := by
  have HX : Hid ((w.alloc (.cells #[.int .i64 r0, .int .i64 r1, .slice pL nL cL] 25)).heap[w.heap.size]? = some (.cells #[.int .i64 r0, .int .i64 r1, .slice pL nL cL] 25 (0, 0))) := heap_alloc_new _ _
  have HB0 : Hid (Below w.heap.size w (w.alloc (.cells #[.int .i64 r0, .int .i64 r1, .slice pL nL cL] 25))) := (Below.refl _ _).alloc (Nat.le_refl _) _
  have HL := hide (hL.below HB0.out)
  clear hL
  go_enter Try.func3, Try.ntmps3
  go_upto_region 1 with fail
  obtain ⟨w0, hw0⟩ : ∃ w0, w.alloc (.cells #[.int .i64 r0, .int .i64 r1, .slice pL nL cL] 25) = w0 := ⟨_, rfl⟩
  rw [hw0] at HX HB0 HL ⊢
  clear hw0
  have b0 : w0.cell? ⟨w.heap.size, 0, none⟩ = some (.int .i64 r0) := by rw [cell_of_row _ _ _ _ _ _ HX.out]; rfl
  have HNW : Hid (∀ m : Nat, m < 16384 → Calls Try.prog 7 #[.int .i64 (1 + (m : Int))] w0 fun e w2 => ∃ (S : DS), e = .returned (.tuple #[.pointer (some ⟨S.d, 0, none⟩), .int .i64 0]) ∧ SuSt w0 w2 S.d (1 + m) 0 (.slice none 0 0) S [] []) := fun m hm => by
    have := su_new w0 w0 (Below.refl _ _) (1 + m) (by omega) (by omega)
    rw [show (((1 + m : Nat)) : Int) = 1 + (m : Int) from by omega] at this
    exact this
  go_upto_block 0 with (first
    | (go_at_call 8; refine (num10_any _ _).mono ?_; rintro e wn ⟨rfl, hwn⟩; have hwn2 := hwn.symm; subst hwn2)
    | (go_at_call 6; refine (within10_any r0 16384 _ hr0.1 hr0.2 (by decide) (by decide)).mono ?_; rintro e wn ⟨m, rfl, hm, hwn⟩; have hwn2 := hwn.symm; subst hwn2)
    | (go_at_call 7; refine (HNW.out m hm).mono ?_; rintro e w1 ⟨S, rfl, hS⟩; have H1 := hide hS; clear hS HNW; obtain ⟨d, hd⟩ : ∃ d, S.d = d := ⟨_, rfl⟩; rw [hd] at H1 ⊢; clear hd)
    | (go_at_call 9; refine (works10_any _).mono ?_; rintro e w2 ⟨rfl, hB2⟩; have HS0 := hide (H1.out.below hB2); clear hB2 H1))
  clear b0
  go_wp2_with fail
  go_loopw [6, 7, 8] (fun t6 t7 t8 wr => ∃ (pv : Option Addr) (nv cv i : Nat) (z : Int), t6 = .slice pv nv cv ∧ t7 = .int .i64 z ∧ t8 = .int .i64 (i : Int) ∧ (0 ≤ z ∧ z ≤ 131072) ∧ i ≤ 400 ∧ i ≤ nL ∧ Hid (∃ (S : DS) (ns : List ByteArray) (us : List Value), i ≤ 401 ∧ nv = ns.length ∧ SuSt w0 wr d (1 + m) i (.slice pv nv cv) S ns us)) (fun _ _ t8 _ => 400 - (intOf t8).toNat)
  case atStart => exact ⟨none, 0, 0, 0, 131072, rfl, rfl, rfl, ⟨by decide, by decide⟩, by decide, by omega, S, [], [], by decide, rfl, HS0.out⟩
  case round =>
    obtain ⟨pv, nv, cv, i, z, rfl, rfl, rfl, hz, hi4, hin, HS⟩ := hrel
    clear HS0
    have hcell : wr.cell? ⟨w.heap.size, 2, none⟩ = some (.slice pL nL cL) := by
      obtain ⟨S, ns, us, _, _, hS⟩ := HS.out
      have hb := hS.bel.block _ (heap_lt HX.out)
      rw [cell_of_row _ _ _ _ _ _ (hb.trans HX.out)]; rfl
    by_cases hlt : i < nL
    · have hlt' : (i : Int) < (nL : Int) := by omega
      by_cases hlt4 : i < 400
      · have hlt4' : (i : Int) < 400 := by omega
        obtain ⟨b, o, dw, on, nm, tt, pb, nb, cb, z2, kp, ls, fl, bs, rfl, hop⟩ := HL.out i hlt
        obtain ⟨S, ns, us, _, hnv, hS⟩ := HS.out
        have hop' := hop.below hS.bel
        obtain ⟨vals, fs, ⟨hfa, pf, cf, rfl, hfb⟩, hfc, hfd⟩ := hop'.fl_
        obtain ⟨nf, hnf⟩ : ∃ nf, fs.length = nf := ⟨_, rfl⟩
        obtain ⟨c0, c1, c2, c3, c4, c5, c6, c7, c8, -, -, -, -⟩ := hop'
        rw [hnf] at c8
        have HSZ := hide hop.sz
        have HBY := hide hop.by_
        have HNV := hide hnv
        have HT := hide hS
        have HBW : Hid (Below wr.heap.size wr (wr.alloc (.cells #[.int .i64 dw, .int .i64 on, .string nm, .string tt, .slice pb nb cb, .int .i64 z2, .int .i64 kp, .int .i64 ls, .slice pf nf cf] 36))) := (Below.refl _ _).alloc (Nat.le_refl _) _
        have HO : Hid ((wr.alloc (.cells #[.int .i64 dw, .int .i64 on, .string nm, .string tt, .slice pb nb cb, .int .i64 z2, .int .i64 kp, .int .i64 ls, .slice pf nf cf] 36)).heap[wr.heap.size]? = some (.cells #[.int .i64 dw, .int .i64 on, .string nm, .string tt, .slice pb nb cb, .int .i64 z2, .int .i64 kp, .int .i64 ls, .slice pf nf cf] 36 (0, 0))) := heap_alloc_new _ _
        have HSI : Hid (Calls Try.prog 10 #[opV dw on nm tt (.slice pb nb cb) z2 kp ls (.slice pf nf cf)] (wr.alloc (.cells #[.int .i64 dw, .int .i64 on, .string nm, .string tt, .slice pb nb cb, .int .i64 z2, .int .i64 kp, .int .i64 ls, .slice pf nf cf] 36)) fun e w' => (∃ r : Nat, e = .returned (.int .i64 (r : Int)) ∧ nb + nm.size + tt.size ≤ r ∧ r ≤ 1000000000000000) ∧ Below (wr.alloc (.cells #[.int .i64 dw, .int .i64 on, .string nm, .string tt, .slice pb nb cb, .int .i64 z2, .int .i64 kp, .int .i64 ls, .slice pf nf cf] 36)).heap.size (wr.alloc (.cells #[.int .i64 dw, .int .i64 on, .string nm, .string tt, .slice pb nb cb, .int .i64 z2, .int .i64 kp, .int .i64 ls, .slice pf nf cf] 36)) w') := by
          have hR : FilesR (wr.alloc (.cells #[.int .i64 dw, .int .i64 on, .string nm, .string tt, .slice pb nb cb, .int .i64 z2, .int .i64 kp, .int .i64 ls, .slice pf nf cf] 36)) (.slice pf nf cf) vals fs := by
            have h1 : FilesR wr (.slice pf nf cf) vals fs := ⟨hfa, pf, cf, by rw [hnf], hfb⟩
            exact h1.below HBW.out
          obtain ⟨_, _, _, e, h1, h2, _⟩ := HBY.out
          simp only [Value.slice.injEq] at e
          obtain ⟨-, rfl, -⟩ := e
          refine size10_any dw on nm tt pb nb cb z2 kp ls _ vals fs _ hR (by omega) (by omega) (by have := HSZ.out.1; omega) (by have := HSZ.out.2; omega) fun j hj => ?_
          obtain ⟨k1, p', n', c', k2, k3, _⟩ := hfd j hj
          exact ⟨by omega, p', n', c', k2, by omega⟩
        clear hop hfa hfb hfc hfd hnf hnv hS
        go_upto_region 11 with fail
        obtain ⟨wo, hwo⟩ : ∃ wo, wr.alloc (.cells #[.int .i64 dw, .int .i64 on, .string nm, .string tt, .slice pb nb cb, .int .i64 z2, .int .i64 kp, .int .i64 ls, .slice pf nf cf] 36) = wo := ⟨_, rfl⟩
        rw [hwo] at HBW HO HSI ⊢
        clear hwo c0 c1 c2 c3 c4 c5 c6 c7 c8 hcell
        have y0 : wo.cell? ⟨wr.heap.size, 0, none⟩ = some (.int .i64 dw) := cell_of_row _ _ _ _ _ _ HO.out
        have y1 : wo.cell? ⟨wr.heap.size, 1, none⟩ = some (.int .i64 on) := cell_of_row _ _ _ _ _ _ HO.out
        have y2 : wo.cell? ⟨wr.heap.size, 2, none⟩ = some (.string nm) := cell_of_row _ _ _ _ _ _ HO.out
        have y3 : wo.cell? ⟨wr.heap.size, 3, none⟩ = some (.string tt) := cell_of_row _ _ _ _ _ _ HO.out
        have y4 : wo.cell? ⟨wr.heap.size, 4, none⟩ = some (.slice pb nb cb) := cell_of_row _ _ _ _ _ _ HO.out
        have y5 : wo.cell? ⟨wr.heap.size, 5, none⟩ = some (.int .i64 z2) := cell_of_row _ _ _ _ _ _ HO.out
        have y6 : wo.cell? ⟨wr.heap.size, 6, none⟩ = some (.int .i64 kp) := cell_of_row _ _ _ _ _ _ HO.out
        have y7 : wo.cell? ⟨wr.heap.size, 7, none⟩ = some (.int .i64 ls) := cell_of_row _ _ _ _ _ _ HO.out
        have y8 : wo.cell? ⟨wr.heap.size, 8, none⟩ = some (.slice pf nf cf) := cell_of_row _ _ _ _ _ _ HO.out
        go_upto_region 12 with (go_at_call 10; refine HSI.out.mono ?_; rintro e w3 ⟨⟨r, rfl, hr1, hr2⟩, hb3⟩; have HB3 := hide hb3; clear hb3 HSI y0 y1 y2 y3 y4 y5 y6 y7 y8)
        have HT3 := hide ((HT.out.below HBW.out).below HB3.out)
        have HO3 : Hid (w3.heap[wr.heap.size]? = some (.cells #[.int .i64 dw, .int .i64 on, .string nm, .string tt, .slice pb nb cb, .int .i64 z2, .int .i64 kp, .int .i64 ls, .slice pf nf cf] 36 (0, 0)) ∧ Qo w3 S wr.heap.size) := by
          have hl : wr.heap.size < wo.heap.size := heap_lt HO.out
          exact ⟨(HB3.out.block _ hl).trans HO.out, Nat.lt_of_lt_of_le hl HB3.out.size, fun hf => by have := HT.out.dk.fpLt _ hf; omega⟩
        clear HO HT HBW HB3
        by_cases hz0 : z - (r : Int) < 0
        · have HSE : Hid (∃ (S : DS) (ns : List ByteArray) (us : List Value), i ≤ 401 ∧ nv = ns.length ∧ SuSt w0 w3 d (1 + m) i (.slice pv nv cv) S ns us) := ⟨S, ns, us, by omega, HNV.out, HT3.out⟩
          clear HT3 HO3
          have HEA : Hid (∃ (S : DS) (ns : List ByteArray) (us : List Value), i ≤ 401 ∧ nv = ns.length ∧ SuSt w0 w3 d (1 + m) i (.slice pv nv cv) S ns us) := HSE.out
          obtain ⟨S, ns, us, hi4, hnv, hS⟩ := HEA.out
          have HAR := hide hS.armed
          have HLE := hide (sureOf_le (hS.dk.fine hS.fin) ns)
          clear HEA HSE hS hnv
          go_upto_region 26 with (first
            | (simp only [hcv])
            | (go_at_call 15; refine HAR.out.mono ?_; rintro e wa ⟨rfl, Sa, hA⟩; have HA := hide hA; clear hA HAR; have hcv := Go.Joins.run_convert_bytes_const_at (P := Try.prog) wa 34 5 #[.int .u8 110, .int .u8 101, .int .u8 118, .int .u8 101, .int .u8 114] 5 5 wa.heap.size rfl Try.underlying34 (by kernel_rfl); rw [show (Array.size (α := Value) #[.int .u8 110, .int .u8 101, .int .u8 118, .int .u8 101, .int .u8 114]) = 5 from rfl] at hcv)
            | (go_at_call 16; refine (su_never HA.out hi4).mono ?_; rintro e wb ⟨zc, rfl, hE⟩; have HE := hide hE; clear hE HA hcv))
          obtain ⟨zc1, zc2⟩ | ⟨zc1, hE⟩ := HE.out
          · subst zc1
            have HF := hide zc2
            clear zc2 HE
            go_wp2_with (first
              | (go_at_call 8; refine (num10_any _ _).mono ?_; rintro e wn ⟨rfl, hwn⟩; have hwn2 := hwn.symm; subst hwn2)
              | (go_at_call 9; refine (works10_any _).mono ?_; rintro e wc ⟨rfl, hB2⟩; have HG := hide (HF.out.trans (hB2.mono HF.out.size)); clear hB2 HF))
            go_ret
            exact ⟨rfl, HB0.out.trans (HG.out.mono HB0.out.size)⟩
          · subst zc1
            have HF := hide hE
            clear hE HE
            obtain ⟨S2, hE⟩ := HF.out
            have HFI := hide hE.files
            clear hE HF
            go_wp2_with (first
              | (go_at_call 8; refine (num10_any _ _).mono ?_; rintro e wn ⟨rfl, hwn⟩; have hwn2 := hwn.symm; subst hwn2)
              | (go_at_call 13; refine HFI.out.mono ?_; rintro e wc ⟨px, nx, cx, rfl, ys, hq, hbx⟩; have HQ := hide hq; have HBX := hide hbx; clear hq hbx HFI)
              | (go_at_call 17; refine (eqFiles_same _ _ ys us _ _ HQ.out.1 HQ.out.2.2.1 HQ.out.2.1 HQ.out.2.2.2.1 (by have := HQ.out.2.2.2.2; omega) HLE.out).mono ?_; rintro e wd ⟨rfl, hB2⟩; have HG := hide (HBX.out.trans (hB2.mono HBX.out.size)); clear hB2 HBX HQ)
              | (go_at_call 9; refine (works10_any _).mono ?_; rintro e wc ⟨rfl, hB2⟩; have HK := hide (HG.out.trans (hB2.mono HG.out.size)); clear hB2 HG))
            go_ret
            exact ⟨rfl, HB0.out.trans (HK.out.mono HB0.out.size)⟩
        · have hzr : 0 ≤ z - (r : Int) := by omega
          have HNB : Hid (nb ≤ 1000000000) := by show _ ≤ _; omega
          have HDO := hide (su_do HT3.out (by omega) dw on nm tt pb nb cb z2 kp ls (.slice pf nf cf) bs HBY.out HNB.out HSZ.out)
          have y0 : w3.cell? ⟨wr.heap.size, 0, none⟩ = some (.int .i64 dw) := cell_of_row _ _ _ _ _ _ HO3.out.1
          have y1 : w3.cell? ⟨wr.heap.size, 1, none⟩ = some (.int .i64 on) := cell_of_row _ _ _ _ _ _ HO3.out.1
          have y2 : w3.cell? ⟨wr.heap.size, 2, none⟩ = some (.string nm) := cell_of_row _ _ _ _ _ _ HO3.out.1
          have y3 : w3.cell? ⟨wr.heap.size, 3, none⟩ = some (.string tt) := cell_of_row _ _ _ _ _ _ HO3.out.1
          have y4 : w3.cell? ⟨wr.heap.size, 4, none⟩ = some (.slice pb nb cb) := cell_of_row _ _ _ _ _ _ HO3.out.1
          have y5 : w3.cell? ⟨wr.heap.size, 5, none⟩ = some (.int .i64 z2) := cell_of_row _ _ _ _ _ _ HO3.out.1
          have y6 : w3.cell? ⟨wr.heap.size, 6, none⟩ = some (.int .i64 kp) := cell_of_row _ _ _ _ _ _ HO3.out.1
          have y7 : w3.cell? ⟨wr.heap.size, 7, none⟩ = some (.int .i64 ls) := cell_of_row _ _ _ _ _ _ HO3.out.1
          have y8 : w3.cell? ⟨wr.heap.size, 8, none⟩ = some (.slice pf nf cf) := cell_of_row _ _ _ _ _ _ HO3.out.1
          go_upto_region 14 with (go_at_call 11; refine HDO.out.mono ?_; rintro e w4 ⟨zc, is, S4, rfl, hf4, hor⟩; have HF4 := hide hf4; have HOR := hide hor; clear hf4 hor HDO y0 y1 y2 y3 y4 y5 y6 y7 y8)
          obtain ⟨his, hzc, hM⟩ | ⟨hno, hM⟩ := HOR.out
          · subst his
            subst hzc
            have HM := hide hM
            have HO4 : Hid (w4.heap[wr.heap.size]? = some (.cells #[.int .i64 dw, .int .i64 on, .string nm, .string tt, .slice pb nb cb, .int .i64 z2, .int .i64 kp, .int .i64 ls, .slice pf nf cf] 36 (0, 0)) ∧ Qo w4 S4 wr.heap.size) := ⟨((HO3.out.2.fr HF4.out).2).trans HO3.out.1, (HO3.out.2.fr HF4.out).1⟩
            clear HOR hM HF4 HO3 HT3
            go_upto_region 15 with (go_at_call 8; refine (num10_any _ _).mono ?_; rintro e wn ⟨rfl, hwn⟩; have hwn2 := hwn.symm; subst hwn2)
            have HMD := hide (HM.out.below (below_drew w4))
            have HFI := hide HMD.out.files
            have y0 : w4.drew.cell? ⟨wr.heap.size, 0, none⟩ = some (.int .i64 dw) := cell_of_row _ _ _ _ _ _ HO4.out.1
            have y1 : w4.drew.cell? ⟨wr.heap.size, 1, none⟩ = some (.int .i64 on) := cell_of_row _ _ _ _ _ _ HO4.out.1
            have y2 : w4.drew.cell? ⟨wr.heap.size, 2, none⟩ = some (.string nm) := cell_of_row _ _ _ _ _ _ HO4.out.1
            have y3 : w4.drew.cell? ⟨wr.heap.size, 3, none⟩ = some (.string tt) := cell_of_row _ _ _ _ _ _ HO4.out.1
            have y4 : w4.drew.cell? ⟨wr.heap.size, 4, none⟩ = some (.slice pb nb cb) := cell_of_row _ _ _ _ _ _ HO4.out.1
            have y5 : w4.drew.cell? ⟨wr.heap.size, 5, none⟩ = some (.int .i64 z2) := cell_of_row _ _ _ _ _ _ HO4.out.1
            have y6 : w4.drew.cell? ⟨wr.heap.size, 6, none⟩ = some (.int .i64 kp) := cell_of_row _ _ _ _ _ _ HO4.out.1
            have y7 : w4.drew.cell? ⟨wr.heap.size, 7, none⟩ = some (.int .i64 ls) := cell_of_row _ _ _ _ _ _ HO4.out.1
            have y8 : w4.drew.cell? ⟨wr.heap.size, 8, none⟩ = some (.slice pf nf cf) := cell_of_row _ _ _ _ _ _ HO4.out.1
            refine wp_region_held_drew (S := fun w' => w'.cell? ⟨wr.heap.size, 0, none⟩ = some (.int .i64 dw) ∧ w'.cell? ⟨wr.heap.size, 1, none⟩ = some (.int .i64 on) ∧ w'.cell? ⟨wr.heap.size, 2, none⟩ = some (.string nm) ∧ w'.cell? ⟨wr.heap.size, 3, none⟩ = some (.string tt) ∧ w'.cell? ⟨wr.heap.size, 4, none⟩ = some (.slice pb nb cb) ∧ w'.cell? ⟨wr.heap.size, 5, none⟩ = some (.int .i64 z2) ∧ w'.cell? ⟨wr.heap.size, 6, none⟩ = some (.int .i64 kp) ∧ w'.cell? ⟨wr.heap.size, 7, none⟩ = some (.int .i64 ls) ∧ w'.cell? ⟨wr.heap.size, 8, none⟩ = some (.slice pf nf cf)) (by kernel_rfl) ⟨y0, y1, y2, y3, y4, y5, y6, y7, y8⟩ (fun hHeld => ?_)
            refine wpAnyH_take (i := 0) (v := ?_) rfl (by kernel_rfl) (by kernel_rfl) (by kernel_rfl) (fun _ _ _ h => h) (Or.inl ⟨by rfl, ?_⟩) hHeld ?_
            rotate_left
            · (intro wq hSw; (try dsimp only at hSw); (try obtain ⟨s0, s1, s2, s3, s4, s5, s6, s7, s8⟩ := hSw); (go_simp <;> with_reducible rfl))
            try simp only [Act.put, List.getElem_toArray, List.getElem_cons_zero, List.getElem_cons_succ, List.setIfInBounds_toArray, List.set_cons_zero, List.set_cons_succ]
            refine wpAnyH_take (i := 1) (v := ?_) rfl (by kernel_rfl) (by kernel_rfl) (by kernel_rfl) (fun _ _ _ h => h) (Or.inl ⟨by rfl, ?_⟩) hHeld ?_
            rotate_left
            · (intro wq hSw; (try dsimp only at hSw); (try obtain ⟨s0, s1, s2, s3, s4, s5, s6, s7, s8⟩ := hSw); (go_simp <;> with_reducible rfl))
            try simp only [Act.put, List.getElem_toArray, List.getElem_cons_zero, List.getElem_cons_succ, List.setIfInBounds_toArray, List.set_cons_zero, List.set_cons_succ]
            refine wpAnyH_take (i := 3) (v := ?_) rfl (by kernel_rfl) (by kernel_rfl) (by kernel_rfl) (fun _ _ _ h => h) (Or.inl ⟨by rfl, ?_⟩) hHeld ?_
            rotate_left
            · (intro wq hSw; (try dsimp only at hSw); (try obtain ⟨s0, s1, s2, s3, s4, s5, s6, s7, s8⟩ := hSw); (go_simp <;> with_reducible rfl))
            try simp only [Act.put, List.getElem_toArray, List.getElem_cons_zero, List.getElem_cons_succ, List.setIfInBounds_toArray, List.set_cons_zero, List.set_cons_succ]
            refine wpAnyH_ready (rs := [2]) (by kernel_rfl) (by simp) ?_
            refine AllReadyH.cons rfl (fun K hK => ?_) AllReadyH.nil
            go_simp
            refine HFI.out.mono ?_
            rintro _ w5 ⟨p5, n5, k5, rfl, ys, ns', hg5, hm5, hf5⟩
            have HO5 : Hid (w5.heap[wr.heap.size]? = some (.cells #[.int .i64 dw, .int .i64 on, .string nm, .string tt, .slice pb nb cb, .int .i64 z2, .int .i64 kp, .int .i64 ls, .slice pf nf cf] 36 (0, 0)) ∧ Qo w5 S4 wr.heap.size) := ⟨((HO4.out.2.fr (w := w4.drew) hf5).2).trans HO4.out.1, (HO4.out.2.fr (w := w4.drew) hf5).1⟩
            have HST := hide (hm5.go hg5 on pb nb cb kp ls (.slice pf nf cf))
            clear hg5 hm5 hf5 HFI HMD
            have x0 : w5.cell? ⟨wr.heap.size, 0, none⟩ = some (.int .i64 dw) := cell_of_row _ _ _ _ _ _ HO5.out.1
            have x1 : w5.cell? ⟨wr.heap.size, 1, none⟩ = some (.int .i64 on) := cell_of_row _ _ _ _ _ _ HO5.out.1
            have x2 : w5.cell? ⟨wr.heap.size, 2, none⟩ = some (.string nm) := cell_of_row _ _ _ _ _ _ HO5.out.1
            have x3 : w5.cell? ⟨wr.heap.size, 3, none⟩ = some (.string tt) := cell_of_row _ _ _ _ _ _ HO5.out.1
            have x4 : w5.cell? ⟨wr.heap.size, 4, none⟩ = some (.slice pb nb cb) := cell_of_row _ _ _ _ _ _ HO5.out.1
            have x5 : w5.cell? ⟨wr.heap.size, 5, none⟩ = some (.int .i64 z2) := cell_of_row _ _ _ _ _ _ HO5.out.1
            have x6 : w5.cell? ⟨wr.heap.size, 6, none⟩ = some (.int .i64 kp) := cell_of_row _ _ _ _ _ _ HO5.out.1
            have x7 : w5.cell? ⟨wr.heap.size, 7, none⟩ = some (.int .i64 ls) := cell_of_row _ _ _ _ _ _ HO5.out.1
            have x8 : w5.cell? ⟨wr.heap.size, 8, none⟩ = some (.slice pf nf cf) := cell_of_row _ _ _ _ _ _ HO5.out.1
            refine hK.out _ _ ⟨x0, x1, x2, x3, x4, x5, x6, x7, x8⟩ (fun hHeld => ?_)
            clear hK K
            try simp only [Act.put, List.getElem_toArray, List.getElem_cons_zero, List.getElem_cons_succ, List.setIfInBounds_toArray, List.set_cons_zero, List.set_cons_succ]
            refine wpAnyH_ready (rs := [4]) (by kernel_rfl) (by simp) ?_
            refine AllReadyH.cons rfl (fun K hK => ?_) AllReadyH.nil
            go_simp
            refine HST.out.mono ?_
            rintro _ w6 ⟨p6, n6, k6, rfl, us', hn6, hS6, hb6⟩
            have HO6 : Hid (w6.heap[wr.heap.size]? = some (.cells #[.int .i64 dw, .int .i64 on, .string nm, .string tt, .slice pb nb cb, .int .i64 z2, .int .i64 kp, .int .i64 ls, .slice pf nf cf] 36 (0, 0))) := (hb6.block _ HO5.out.2.1).trans HO5.out.1
            have HN6 := hide hn6
            have HS6 := hide hS6
            clear hn6 hS6 hb6 HST HO5
            have v0 : w6.cell? ⟨wr.heap.size, 0, none⟩ = some (.int .i64 dw) := cell_of_row _ _ _ _ _ _ HO6.out
            have v1 : w6.cell? ⟨wr.heap.size, 1, none⟩ = some (.int .i64 on) := cell_of_row _ _ _ _ _ _ HO6.out
            have v2 : w6.cell? ⟨wr.heap.size, 2, none⟩ = some (.string nm) := cell_of_row _ _ _ _ _ _ HO6.out
            have v3 : w6.cell? ⟨wr.heap.size, 3, none⟩ = some (.string tt) := cell_of_row _ _ _ _ _ _ HO6.out
            have v4 : w6.cell? ⟨wr.heap.size, 4, none⟩ = some (.slice pb nb cb) := cell_of_row _ _ _ _ _ _ HO6.out
            have v5 : w6.cell? ⟨wr.heap.size, 5, none⟩ = some (.int .i64 z2) := cell_of_row _ _ _ _ _ _ HO6.out
            have v6 : w6.cell? ⟨wr.heap.size, 6, none⟩ = some (.int .i64 kp) := cell_of_row _ _ _ _ _ _ HO6.out
            have v7 : w6.cell? ⟨wr.heap.size, 7, none⟩ = some (.int .i64 ls) := cell_of_row _ _ _ _ _ _ HO6.out
            have v8 : w6.cell? ⟨wr.heap.size, 8, none⟩ = some (.slice pf nf cf) := cell_of_row _ _ _ _ _ _ HO6.out
            refine hK.out _ _ ⟨v0, v1, v2, v3, v4, v5, v6, v7, v8⟩ (fun hHeld => ?_)
            clear hK K
            try simp only [Act.put, List.getElem_toArray, List.getElem_cons_zero, List.getElem_cons_succ, List.setIfInBounds_toArray, List.set_cons_zero, List.set_cons_succ]
            refine wpAnyH_take (i := 5) (v := ?_) rfl (by kernel_rfl) (by kernel_rfl) (by kernel_rfl) (fun _ _ _ h => h) (Or.inl ⟨by rfl, ?_⟩) hHeld ?_
            rotate_left
            · (intro wq hSw; (try dsimp only at hSw); (try obtain ⟨s0, s1, s2, s3, s4, s5, s6, s7, s8⟩ := hSw); (go_simp <;> with_reducible rfl))
            try simp only [Act.put, List.getElem_toArray, List.getElem_cons_zero, List.getElem_cons_succ, List.setIfInBounds_toArray, List.set_cons_zero, List.set_cons_succ]
            refine wpAnyH_done (by kernel_rfl) ?_ _
            clear y0 y1 y2 y3 y4 y5 y6 y7 y8 x0 x1 x2 x3 x4 x5 x6 x7 x8 v0 v1 v2 v3 v4 v5 v6 v7 v8 HO4 HO6
            have hn256 : n6 ≤ 256 := by rw [HN6.out]; exact HS6.out.ct
            go_wp2_with fail
            go_loopw [12] (fun t12 wr => ∃ k : Nat, t12 = .int .i64 (k : Int) ∧ k ≤ n6 ∧ Hid (SuSt w0 wr d (1 + m) (i + 1) (.slice p6 n6 k6) S4 ns' us')) (fun t12 _ => n6 - (intOf t12).toNat)
            case atStart => exact ⟨0, rfl, Nat.zero_le _, HS6.out⟩
            case round =>
              obtain ⟨k, rfl, hk, HSX⟩ := hrel
              by_cases hlk : k < n6
              · have hlk' : (k : Int) < (n6 : Int) := by omega
                obtain ⟨g, nn, cc, x, su, pq, cq, hv, hc1, hc2, hx⟩ := HSX.out.at k (by rw [← HN6.out]; exact hlk)
                simp only [Value.slice.injEq] at hv
                obtain ⟨rfl, rfl, rfl⟩ := hv
                have HSU := hide (HSX.out.sure x su hx)
                have HGB : Hid (g < wr.heap.size ∧ ¬ Fp S4 g) := ⟨(HSX.out.own.lt g rfl).2, HSX.out.apart g rfl⟩
                have HC2 := hide hc2
                clear hx hc2
                go_upto_region 20 with (go_at_call 14; refine HSU.out.mono ?_; rintro e wy ⟨rfl, hsy, hfy⟩; have HSY := hide hsy; have hc2 : wy.cell? ⟨g, k * 2 + 1, none⟩ = some (.slice pq su cq) := (World.cell?_of_block (w := wr) (w' := wy) (a := ⟨g, k * 2 + 1, none⟩) (hfy.block g HGB.out.1 HGB.out.2).2).trans HC2.out; clear hsy hfy HSU hc1)
                go_wp2_with (go_at_call 8; refine (num10_any _ _).mono ?_; rintro e wn ⟨rfl, hwn⟩; have hwn2 := hwn.symm; subst hwn2)
                go_roundw
                case rel => exact ⟨k + 1, by simp, by omega, HSY.out⟩
                case measure => simp [intOf]; omega
              · have hlk' : ¬ (k : Int) < (n6 : Int) := by omega
                have HFN : Hid (Calls Try.prog 13 #[.pointer (some ⟨d, 0, none⟩)] wr fun e w2 => ∃ (p : Option Addr) (c : Nat), e = .returned (.slice p n6 c) ∧ SuSt w0 w2 d (1 + m) (i + 1) (.slice p6 n6 k6) S4 ns' us') := by
                  refine HSX.out.filesN.mono ?_
                  rintro e w' ⟨p, c, rfl, h1, _⟩
                  exact ⟨p, c, by rw [HN6.out], h1⟩
                go_wp2_with (go_at_call 13; refine HFN.out.mono ?_; rintro e wz ⟨p7, c7, rfl, hs7⟩; have HS7 := hide hs7; clear hs7 HFN)
                go_roundw
                case rel => exact ⟨p6, n6, k6, i + 1, z - (r : Int), rfl, rfl, by simp, by omega, by omega, by omega, S4, ns', us', by omega, HN6.out, HS7.out⟩
                case measure => simp [intOf]; omega
          · have HM := hide hM
            cases is with
            | false =>
              clear HOR hno hM HF4 HO3 HT3
              go_wp2_with (go_at_call 8; refine (num10_any _ _).mono ?_; rintro e wn ⟨rfl, hwn⟩; have hwn2 := hwn.symm; subst hwn2)
              go_roundw
              case rel => exact ⟨pv, nv, cv, i + 1, z - (r : Int), rfl, rfl, by simp, by omega, by omega, by omega, S4, ns, us, by omega, HNV.out, HM.out.fr HM.out.dk rfl rfl (Fr.refl _ _) (Nat.le_succ _)⟩
              case measure => simp [intOf]; omega
            | true =>
              have hzc : ¬ zc = 0 := fun e => hno ⟨rfl, e⟩
              clear HOR hno hM HF4 HO3 HT3
              go_wp2_with (go_at_call 8; refine (num10_any _ _).mono ?_; rintro e wn ⟨rfl, hwn⟩; have hwn2 := hwn.symm; subst hwn2)
              go_roundw
              case rel => exact ⟨pv, nv, cv, i + 1, z - (r : Int), rfl, rfl, by simp, by omega, by omega, by omega, S4, ns, us, by omega, HNV.out, HM.out.fr HM.out.dk rfl rfl (Fr.refl _ _) (Nat.le_succ _)⟩
              case measure => simp [intOf]; omega
      · have hlt4' : ¬ (i : Int) < 400 := by omega
        have HSE := HS
        have HEA : Hid (∃ (S : DS) (ns : List ByteArray) (us : List Value), i ≤ 401 ∧ nv = ns.length ∧ SuSt w0 wr d (1 + m) i (.slice pv nv cv) S ns us) := HSE.out
        obtain ⟨S, ns, us, hi4, hnv, hS⟩ := HEA.out
        have HAR := hide hS.armed
        have HLE := hide (sureOf_le (hS.dk.fine hS.fin) ns)
        clear HEA HSE hS hnv
        go_upto_region 26 with (first
          | (simp only [hcv])
          | (go_at_call 15; refine HAR.out.mono ?_; rintro e wa ⟨rfl, Sa, hA⟩; have HA := hide hA; clear hA HAR; have hcv := Go.Joins.run_convert_bytes_const_at (P := Try.prog) wa 34 5 #[.int .u8 110, .int .u8 101, .int .u8 118, .int .u8 101, .int .u8 114] 5 5 wa.heap.size rfl Try.underlying34 (by kernel_rfl); rw [show (Array.size (α := Value) #[.int .u8 110, .int .u8 101, .int .u8 118, .int .u8 101, .int .u8 114]) = 5 from rfl] at hcv)
          | (go_at_call 16; refine (su_never HA.out hi4).mono ?_; rintro e wb ⟨zc, rfl, hE⟩; have HE := hide hE; clear hE HA hcv))
        obtain ⟨zc1, zc2⟩ | ⟨zc1, hE⟩ := HE.out
        · subst zc1
          have HF := hide zc2
          clear zc2 HE
          go_wp2_with (first
            | (go_at_call 8; refine (num10_any _ _).mono ?_; rintro e wn ⟨rfl, hwn⟩; have hwn2 := hwn.symm; subst hwn2)
            | (go_at_call 9; refine (works10_any _).mono ?_; rintro e wc ⟨rfl, hB2⟩; have HG := hide (HF.out.trans (hB2.mono HF.out.size)); clear hB2 HF))
          go_ret
          exact ⟨rfl, HB0.out.trans (HG.out.mono HB0.out.size)⟩
        · subst zc1
          have HF := hide hE
          clear hE HE
          obtain ⟨S2, hE⟩ := HF.out
          have HFI := hide hE.files
          clear hE HF
          go_wp2_with (first
            | (go_at_call 8; refine (num10_any _ _).mono ?_; rintro e wn ⟨rfl, hwn⟩; have hwn2 := hwn.symm; subst hwn2)
            | (go_at_call 13; refine HFI.out.mono ?_; rintro e wc ⟨px, nx, cx, rfl, ys, hq, hbx⟩; have HQ := hide hq; have HBX := hide hbx; clear hq hbx HFI)
            | (go_at_call 17; refine (eqFiles_same _ _ ys us _ _ HQ.out.1 HQ.out.2.2.1 HQ.out.2.1 HQ.out.2.2.2.1 (by have := HQ.out.2.2.2.2; omega) HLE.out).mono ?_; rintro e wd ⟨rfl, hB2⟩; have HG := hide (HBX.out.trans (hB2.mono HBX.out.size)); clear hB2 HBX HQ)
            | (go_at_call 9; refine (works10_any _).mono ?_; rintro e wc ⟨rfl, hB2⟩; have HK := hide (HG.out.trans (hB2.mono HG.out.size)); clear hB2 HG))
          go_ret
          exact ⟨rfl, HB0.out.trans (HK.out.mono HB0.out.size)⟩
    · have hlt' : ¬ (i : Int) < (nL : Int) := by omega
      have HSE := HS
      have HEA : Hid (∃ (S : DS) (ns : List ByteArray) (us : List Value), i ≤ 401 ∧ nv = ns.length ∧ SuSt w0 wr d (1 + m) i (.slice pv nv cv) S ns us) := HSE.out
      obtain ⟨S, ns, us, hi4, hnv, hS⟩ := HEA.out
      have HAR := hide hS.armed
      have HLE := hide (sureOf_le (hS.dk.fine hS.fin) ns)
      clear HEA HSE hS hnv
      go_upto_region 26 with (first
        | (simp only [hcv])
        | (go_at_call 15; refine HAR.out.mono ?_; rintro e wa ⟨rfl, Sa, hA⟩; have HA := hide hA; clear hA HAR; have hcv := Go.Joins.run_convert_bytes_const_at (P := Try.prog) wa 34 5 #[.int .u8 110, .int .u8 101, .int .u8 118, .int .u8 101, .int .u8 114] 5 5 wa.heap.size rfl Try.underlying34 (by kernel_rfl); rw [show (Array.size (α := Value) #[.int .u8 110, .int .u8 101, .int .u8 118, .int .u8 101, .int .u8 114]) = 5 from rfl] at hcv)
        | (go_at_call 16; refine (su_never HA.out hi4).mono ?_; rintro e wb ⟨zc, rfl, hE⟩; have HE := hide hE; clear hE HA hcv))
      obtain ⟨zc1, zc2⟩ | ⟨zc1, hE⟩ := HE.out
      · subst zc1
        have HF := hide zc2
        clear zc2 HE
        go_wp2_with (first
          | (go_at_call 8; refine (num10_any _ _).mono ?_; rintro e wn ⟨rfl, hwn⟩; have hwn2 := hwn.symm; subst hwn2)
          | (go_at_call 9; refine (works10_any _).mono ?_; rintro e wc ⟨rfl, hB2⟩; have HG := hide (HF.out.trans (hB2.mono HF.out.size)); clear hB2 HF))
        go_ret
        exact ⟨rfl, HB0.out.trans (HG.out.mono HB0.out.size)⟩
      · subst zc1
        have HF := hide hE
        clear hE HE
        obtain ⟨S2, hE⟩ := HF.out
        have HFI := hide hE.files
        clear hE HF
        go_wp2_with (first
          | (go_at_call 8; refine (num10_any _ _).mono ?_; rintro e wn ⟨rfl, hwn⟩; have hwn2 := hwn.symm; subst hwn2)
          | (go_at_call 13; refine HFI.out.mono ?_; rintro e wc ⟨px, nx, cx, rfl, ys, hq, hbx⟩; have HQ := hide hq; have HBX := hide hbx; clear hq hbx HFI)
          | (go_at_call 17; refine (eqFiles_same _ _ ys us _ _ HQ.out.1 HQ.out.2.2.1 HQ.out.2.1 HQ.out.2.2.2.1 (by have := HQ.out.2.2.2.2; omega) HLE.out).mono ?_; rintro e wd ⟨rfl, hB2⟩; have HG := hide (HBX.out.trans (hB2.mono HBX.out.size)); clear hB2 HBX HQ)
          | (go_at_call 9; refine (works10_any _).mono ?_; rintro e wc ⟨rfl, hB2⟩; have HK := hide (HG.out.trans (hB2.mono HG.out.size)); clear hB2 HG))
        go_ret
        exact ⟨rfl, HB0.out.trans (HK.out.mono HB0.out.size)⟩

end Go.Proofs.Ytiblnkiecpcdpaa

/- FloatErrors: its walk. -/
import Derived.Test.YtmkploknoohliaaSC
import Derived.Test.YtmkploknoohliaaFK
namespace Go.Proofs.Ytmkploknoohliaa
open Go.RowKit
open Flt
set_option linter.unusedVariables false
set_option linter.unusedSimpArgs false

set_option maxRecDepth 100000 in
set_option maxHeartbeats 8000000 in
theorem errors_any (a0 : Option Addr) (len0 cap0 : Nat) (w : World) (h : IsTwos w a0 len0) :
    Calls Try.prog 3 #[.slice a0 len0 cap0] w fun e w' => e = .returned (.bool true) ∧ Below w.heap.size w w' := by
  obtain ⟨hlen, hcell⟩ := h
  have HC := fhide hcell
  clear hcell
  go_enter Try.func3, Try.ntmps3
  go_wp2_with fail
  go_loopw [3] (fun t3 wr => ∃ i : Nat, i ≤ len0 ∧ i ≤ 2000 ∧ t3 = .int .i64 i ∧ Hid (Below w.heap.size w wr)) (fun t3 _ => 2000 - (intOf t3).toNat)
  case atStart => exact ⟨0, by omega, by omega, rfl, Below.refl _ _⟩
  case round =>
    obtain ⟨i, hi, hi20, rfl, HI⟩ := hrel
    by_cases hgo : i < len0 ∧ i < 2000
    · have g1 : (i : Int) < (len0 : Int) := by omega
      have g2 : (i : Int) < 2000 := by omega
      obtain ⟨g, o, rfl, hg, hj⟩ := HC.out (by omega)
      obtain ⟨A, B, hA, hB, cA, cB⟩ := hj i hgo.1
      have cA0 : wr.cell? ⟨g, o + i * 2, none⟩ = some (.int .u64 A) := by rw [HI.out.cell (p := ⟨g, o + i * 2, none⟩) hg]; exact cA
      have cB0 : wr.cell? ⟨g, o + i * 2 + 1, none⟩ = some (.int .u64 B) := by rw [HI.out.cell (p := ⟨g, o + i * 2 + 1, none⟩) hg]; exact cB
      have HA := fhide (And.intro hA hB)
      clear hj hgo cA cB hA hB
      by_cases fa : A % 9223372036854775808 < 9218868437227405312
      rotate_left
      · obtain ⟨s, hAdd⟩ := @kAny A B
        have hN := kNot HA.out.1 fa
        clear fa
        go_wp2_with fail
        refine (hAdd.out _).mono ?_
        rintro e x1 ⟨rfl, hb1⟩
        have J1 := fhide (HI.out.trans (hb1.mono HI.out.size))
        clear hb1 HI
        go_wp2_with fail
        refine (hN.out _).mono ?_
        rintro e x2 ⟨rfl, hw2⟩
        have hw2 := hw2.symm
        subst hw2
        go_wp2_with fail
        go_roundw
        case rel => exact ⟨i + 1, by omega, by omega, by go_num, J1⟩
        case measure => simp [intOf]; omega
      have hFa := kFin HA.out.1 fa
      by_cases fb : B % 9223372036854775808 < 9218868437227405312
      rotate_left
      · obtain ⟨s, hAdd⟩ := @kAny A B
        have hN := kNot HA.out.2 fb
        clear fa fb
        go_wp2_with fail
        refine (hAdd.out _).mono ?_
        rintro e x3 ⟨rfl, hb3⟩
        have J3 := fhide (HI.out.trans (hb3.mono HI.out.size))
        clear hb3 HI
        go_wp2_with fail
        refine (hFa.out _).mono ?_
        rintro e x4 ⟨rfl, hw4⟩
        have hw4 := hw4.symm
        subst hw4
        go_wp2_with fail
        refine (hN.out _).mono ?_
        rintro e x5 ⟨rfl, hw5⟩
        have hw5 := hw5.symm
        subst hw5
        go_wp2_with fail
        go_roundw
        case rel => exact ⟨i + 1, by omega, by omega, by go_num, J3⟩
        case measure => simp [intOf]; omega
      have hFb := kFin HA.out.2 fb
      obtain ⟨s, hs, hsl, hsc⟩ := err_case A B fa fb
      have hAdd := kAdd hs
      clear hs
      by_cases fs : s % 9223372036854775808 < 9218868437227405312
      rotate_left
      · have hN := kNot hsl fs
        clear fs hsl hsc fa fb
        go_wp2_with fail
        refine (hAdd.out _).mono ?_
        rintro e x6 ⟨rfl, hb6⟩
        have J6 := fhide (HI.out.trans (hb6.mono HI.out.size))
        clear hb6 HI
        go_wp2_with fail
        refine (hFa.out _).mono ?_
        rintro e x7 ⟨rfl, hw7⟩
        have hw7 := hw7.symm
        subst hw7
        go_wp2_with fail
        refine (hFb.out _).mono ?_
        rintro e x8 ⟨rfl, hw8⟩
        have hw8 := hw8.symm
        subst hw8
        go_wp2_with fail
        refine (hN.out _).mono ?_
        rintro e x9 ⟨rfl, hw9⟩
        have hw9 := hw9.symm
        subst hw9
        go_wp2_with fail
        go_roundw
        case rel => exact ⟨i + 1, by omega, by omega, by go_num, J6⟩
        case measure => simp [intOf]; omega
      have hFs := kFin hsl fs
      obtain ⟨c, hc, hcl, hcd⟩ := hsc fs
      have hSc := kSub hc
      clear hc
      by_cases fc : c % 9223372036854775808 < 9218868437227405312
      rotate_left
      · obtain ⟨d, hSd⟩ := @kAnyS s c
        have hN := kNot hcl fc
        clear fc hcl hcd fa fb fs hsl hsc
        go_wp2_with fail
        refine (hAdd.out _).mono ?_
        rintro e x10 ⟨rfl, hb10⟩
        have J10 := fhide (HI.out.trans (hb10.mono HI.out.size))
        clear hb10 HI
        go_wp2_with fail
        refine (hFa.out _).mono ?_
        rintro e x11 ⟨rfl, hw11⟩
        have hw11 := hw11.symm
        subst hw11
        go_wp2_with fail
        refine (hFb.out _).mono ?_
        rintro e x12 ⟨rfl, hw12⟩
        have hw12 := hw12.symm
        subst hw12
        go_wp2_with fail
        refine (hFs.out _).mono ?_
        rintro e x13 ⟨rfl, hw13⟩
        have hw13 := hw13.symm
        subst hw13
        go_wp2_with fail
        refine (hSc.out _).mono ?_
        rintro e x14 ⟨rfl, hb14⟩
        have J14 := fhide (J10.out.trans (hb14.mono J10.out.size))
        clear hb14 J10
        go_wp2_with fail
        refine (hSd.out _).mono ?_
        rintro e x15 ⟨rfl, hb15⟩
        have J15 := fhide (J14.out.trans (hb15.mono J14.out.size))
        clear hb15 J14
        go_wp2_with fail
        refine (hN.out _).mono ?_
        rintro e x16 ⟨rfl, hw16⟩
        have hw16 := hw16.symm
        subst hw16
        go_wp2_with fail
        go_roundw
        case rel => exact ⟨i + 1, by omega, by omega, by go_num, J15⟩
        case measure => simp [intOf]; omega
      have hFc := kFin hcl fc
      obtain ⟨d, hd, hdl, hdx⟩ := hcd fc
      have hSd := kSub hd
      clear hd
      by_cases fd : d % 9223372036854775808 < 9218868437227405312
      rotate_left
      · have hN := kNot hdl fd
        clear fd hdl hdx fc hcl hcd fa fb fs hsl hsc
        go_wp2_with fail
        refine (hAdd.out _).mono ?_
        rintro e x17 ⟨rfl, hb17⟩
        have J17 := fhide (HI.out.trans (hb17.mono HI.out.size))
        clear hb17 HI
        go_wp2_with fail
        refine (hFa.out _).mono ?_
        rintro e x18 ⟨rfl, hw18⟩
        have hw18 := hw18.symm
        subst hw18
        go_wp2_with fail
        refine (hFb.out _).mono ?_
        rintro e x19 ⟨rfl, hw19⟩
        have hw19 := hw19.symm
        subst hw19
        go_wp2_with fail
        refine (hFs.out _).mono ?_
        rintro e x20 ⟨rfl, hw20⟩
        have hw20 := hw20.symm
        subst hw20
        go_wp2_with fail
        refine (hSc.out _).mono ?_
        rintro e x21 ⟨rfl, hb21⟩
        have J21 := fhide (J17.out.trans (hb21.mono J17.out.size))
        clear hb21 J17
        go_wp2_with fail
        refine (hSd.out _).mono ?_
        rintro e x22 ⟨rfl, hb22⟩
        have J22 := fhide (J21.out.trans (hb22.mono J21.out.size))
        clear hb22 J21
        go_wp2_with fail
        refine (hFc.out _).mono ?_
        rintro e x23 ⟨rfl, hw23⟩
        have hw23 := hw23.symm
        subst hw23
        go_wp2_with fail
        refine (hN.out _).mono ?_
        rintro e x24 ⟨rfl, hw24⟩
        have hw24 := hw24.symm
        subst hw24
        go_wp2_with fail
        go_roundw
        case rel => exact ⟨i + 1, by omega, by omega, by go_num, J22⟩
        case measure => simp [intOf]; omega
      have hFd := kFin hdl fd
      obtain ⟨x, y, l, hx, hy, hl, hll, fl, hsum⟩ := hdx fd
      have hSx := kSub hx
      have hSy := kSub hy
      have hAl := kAdd hl
      have hFl := kFin hll fl
      have hOa := fhide (fun w : World => of_any A w HA.out.1)
      have hOb := fhide (fun w : World => of_any B w HA.out.2)
      have hOs := fhide (fun w : World => of_any s w hsl)
      have hOl := fhide (fun w : World => of_any l w hll)
      obtain ⟨T, hT⟩ : ∃ T : Nat, T = 1074 := ⟨_, rfl⟩
      obtain ⟨p, hp, hpl, hpc⟩ := prod_case T A B hT HA.out.1 HA.out.2 fa fb
      have hMp := kMul hp
      have habs := b64_abs p hpl
      have hUa := kUnits HA.out.1
      have hUb := kUnits HA.out.2
      have hT1 : Hid (∀ (w : World) (v : Value) (N : Nat), LimB 101 w v N → Calls Try.prog 15 #[v, .int .i64 1074] w fun e w' => ∃ r, e = .returned r ∧ LimB 200 w' r (N * 2 ^ T) ∧ Below w.heap.size w w') := by
        intro w v N hv
        have h2 := lUp2 (n := T) hv (by omega) (by omega)
        rw [show ((T : Nat) : Int) = 1074 by omega] at h2
        refine h2.mono ?_
        rintro e w' ⟨r, rfl, ⟨k, k1, k2, k3⟩, hb⟩
        exact ⟨r, rfl, ⟨k, k1, k2, by omega⟩, hb⟩
      obtain ⟨xs, ys, hx1, hx2, hx3⟩ := xor_sign A B HA.out.1 HA.out.2
      have hsum : sW (decide (9223372036854775808 ≤ A)) (V Ieee.double (A % 9223372036854775808)) + sW (decide (9223372036854775808 ≤ B)) (V Ieee.double (B % 9223372036854775808)) = sW (decide (9223372036854775808 ≤ s)) (V Ieee.double (s % 9223372036854775808)) + sW (decide (9223372036854775808 ≤ l)) (V Ieee.double (l % 9223372036854775808)) := by
        rw [sv_sW A HA.out.1, sv_sW B HA.out.2, sv_sW s hsl, sv_sW l hll]; exact hsum
      have HPC := fhide hpc
      have HSUM := fhide hsum
      have HPL := fhide hpl
      clear hp hpl hpc hx hy hl hll fl hsum hdx fd hdl fc hcl hcd fs hsl hsc fa fb hT HA
      generalize hVa : V Ieee.double (A % 9223372036854775808) = Va at *
      generalize hVb : V Ieee.double (B % 9223372036854775808) = Vb at *
      generalize V Ieee.double (s % 9223372036854775808) = Vs at *
      generalize V Ieee.double (l % 9223372036854775808) = Vl at *
      generalize decide (9223372036854775808 ≤ A) = sa at *
      generalize decide (9223372036854775808 ≤ B) = sb at *
      generalize decide (9223372036854775808 ≤ s) = ss at *
      generalize decide (9223372036854775808 ≤ l) = sl at *
      clear hVa hVb
      go_wp2_with fail
      refine (hAdd.out _).mono ?_
      rintro e x25 ⟨rfl, hb25⟩
      have J25 := fhide (HI.out.trans (hb25.mono HI.out.size))
      clear hb25 HI
      go_wp2_with fail
      refine (hFa.out _).mono ?_
      rintro e x26 ⟨rfl, hw26⟩
      have hw26 := hw26.symm
      subst hw26
      go_wp2_with fail
      refine (hFb.out _).mono ?_
      rintro e x27 ⟨rfl, hw27⟩
      have hw27 := hw27.symm
      subst hw27
      go_wp2_with fail
      refine (hFs.out _).mono ?_
      rintro e x28 ⟨rfl, hw28⟩
      have hw28 := hw28.symm
      subst hw28
      go_wp2_with fail
      refine (hSc.out _).mono ?_
      rintro e x29 ⟨rfl, hb29⟩
      have J29 := fhide (J25.out.trans (hb29.mono J25.out.size))
      clear hb29 J25
      go_wp2_with fail
      refine (hSd.out _).mono ?_
      rintro e x30 ⟨rfl, hb30⟩
      have J30 := fhide (J29.out.trans (hb30.mono J29.out.size))
      clear hb30 J29
      go_wp2_with fail
      refine (hFc.out _).mono ?_
      rintro e x31 ⟨rfl, hw31⟩
      have hw31 := hw31.symm
      subst hw31
      go_wp2_with fail
      refine (hFd.out _).mono ?_
      rintro e x32 ⟨rfl, hw32⟩
      have hw32 := hw32.symm
      subst hw32
      go_wp2_with fail
      refine (hSx.out _).mono ?_
      rintro e x33 ⟨rfl, hb33⟩
      have J33 := fhide (J30.out.trans (hb33.mono J30.out.size))
      clear hb33 J30
      go_wp2_with fail
      refine (hSy.out _).mono ?_
      rintro e x34 ⟨rfl, hb34⟩
      have J34 := fhide (J33.out.trans (hb34.mono J33.out.size))
      clear hb34 J33
      go_wp2_with fail
      refine (hAl.out _).mono ?_
      rintro e x35 ⟨rfl, hb35⟩
      have J35 := fhide (J34.out.trans (hb35.mono J34.out.size))
      clear hb35 J34
      go_wp2_with fail
      refine (hFl.out _).mono ?_
      rintro e x36 ⟨rfl, hw36⟩
      have hw36 := hw36.symm
      subst hw36
      go_wp2_with fail
      refine (hOa.out _).mono ?_
      rintro e x37 ⟨ra, rfl, hl, hb37⟩
      have J37 := fhide (J35.out.trans (hb37.mono J35.out.size))
      have L37a := fhide hl
      clear hb37 J35 hl
      go_wp2_with fail
      refine (hOb.out _).mono ?_
      rintro e x38 ⟨rb, rfl, hl, hb38⟩
      have J38 := fhide (J37.out.trans (hb38.mono J37.out.size))
      have L38a := fhide (L37a.out.below hb38)
      have L38b := fhide hl
      clear hb38 J37 L37a hl
      go_wp2_with fail
      refine (plus_any _ _ _ _ _ _ _ L38a.out L38b.out (by omega)).mono ?_
      rintro e x39 ⟨n1, r1, N1, rfl, hl, hn1, hn1s, hb39⟩
      have J39 := fhide (J38.out.trans (hb39.mono J38.out.size))
      have L39a := fhide (L38a.out.below hb39)
      have L39b := fhide (L38b.out.below hb39)
      have L39c := fhide hl
      clear hb39 J38 L38a L38b hl
      clear L39a
      clear L39b
      have Hn1 := fhide hn1
      clear hn1 hn1s
      go_wp2_with fail
      refine (hOs.out _).mono ?_
      rintro e x40 ⟨rs, rfl, hl, hb40⟩
      have J40 := fhide (J39.out.trans (hb40.mono J39.out.size))
      have L40c := fhide (L39c.out.below hb40)
      have L40s := fhide hl
      clear hb40 J39 L39c hl
      go_wp2_with fail
      refine (hOl.out _).mono ?_
      rintro e x41 ⟨rl, rfl, hl, hb41⟩
      have J41 := fhide (J40.out.trans (hb41.mono J40.out.size))
      have L41c := fhide (L40c.out.below hb41)
      have L41s := fhide (L40s.out.below hb41)
      have L41l := fhide hl
      clear hb41 J40 L40c L40s hl
      go_wp2_with fail
      refine (plus_any _ _ _ _ _ _ _ L41s.out L41l.out (by omega)).mono ?_
      rintro e x42 ⟨n2, r2, N2, rfl, hl, hn2, hn2s, hb42⟩
      have J42 := fhide (J41.out.trans (hb42.mono J41.out.size))
      have L42c := fhide (L41c.out.below hb42)
      have L42s := fhide (L41s.out.below hb42)
      have L42l := fhide (L41l.out.below hb42)
      have L42d := fhide hl
      clear hb42 J41 L41c L41s L41l hl
      clear L42s
      clear L42l
      have Hn2 := fhide (show sW n1 N1 = sW n2 N2 by rw [Hn1.out, hn2]; exact HSUM.out)
      clear hn2 hn2s Hn1 HSUM
      go_wp2_with fail
      refine (eqWhole_true _ _ _ _ _ _ _ L42c.out L42d.out Hn2.out).mono ?_
      rintro e x43 ⟨rfl, hb43⟩
      have J43 := fhide (J42.out.trans (hb43.mono J42.out.size))
      have L43c := fhide (L42c.out.below hb43)
      have L43d := fhide (L42d.out.below hb43)
      clear hb43 J42 L42c L42d
      clear L43c
      clear L43d
      clear Hn2
      go_wp2_with fail
      refine (hMp.out _).mono ?_
      rintro e x44 ⟨rfl, hb44⟩
      have J44 := fhide (J43.out.trans (hb44.mono J43.out.size))
      clear hb44 J43
      by_cases fp : p % 9223372036854775808 < 9218868437227405312
      rotate_left
      · have hN := kNot HPL.out fp
        clear fp
        go_wp2_with fail
        refine (hN.out _).mono ?_
        rintro e x45 ⟨rfl, hw45⟩
        have hw45 := hw45.symm
        subst hw45
        go_wp2_with fail
        go_roundw
        case rel => exact ⟨i + 1, by omega, by omega, by go_num, J44⟩
        case measure => simp [intOf]; omega
      have hFp := kFin HPL.out fp
      by_cases p58 : p % 9223372036854775808 < 288230376151711744
      · obtain ⟨pp, hpp⟩ : ∃ pp : Nat, p % 9223372036854775808 = pp := ⟨_, rfl⟩
        rw [hpp] at habs p58
        have h58 : decide ((pp : Int) < 288230376151711744) = true := decide_eq_true (by omega)
        clear hpp fp p58
        go_wp2_with (simp only [habs])
        refine (hFp.out _).mono ?_
        rintro e x46 ⟨rfl, hw46⟩
        have hw46 := hw46.symm
        subst hw46
        go_wp2_with (simp only [habs])
        go_roundw
        case rel => exact ⟨i + 1, by omega, by omega, by go_num, J44⟩
        case measure => simp [intOf]; omega
      obtain ⟨c2, q, Z, hxc, hfq, hql, fq, hZ, hpq, hps, hpv⟩ := HPC.out fp (by omega)
      have hFq2 := kFma hfq
      have hFq := kFin hql fq
      have hOp := fhide (fun w : World => of_any p w HPL.out)
      have hOq := fhide (fun w : World => of_any q w hql)
      generalize V Ieee.double (p % 9223372036854775808) = Vp at *
      generalize V Ieee.double (q % 9223372036854775808) = Vq at *
      generalize decide (9223372036854775808 ≤ p) = sp at *
      generalize decide (9223372036854775808 ≤ q) = sq at *
      obtain ⟨pp, hpp⟩ : ∃ pp : Nat, p % 9223372036854775808 = pp := ⟨_, rfl⟩
      rw [hpp] at habs p58
      have h58 : decide ((pp : Int) < 288230376151711744) = false := decide_eq_false (by omega)
      clear p58
      have HZ := fhide (And.intro hZ (And.intro hpq (And.intro hps hpv)))
      clear fp HPC hpp hfq hql fq hZ hpq hps hpv
      go_wp2_with (simp only [habs])
      refine (hFp.out _).mono ?_
      rintro e x47 ⟨rfl, hw47⟩
      have hw47 := hw47.symm
      subst hw47
      go_wp2_with (simp only [habs, hxc])
      refine (hFq2.out _).mono ?_
      rintro e x48 ⟨rfl, hb48⟩
      have J48 := fhide (J44.out.trans (hb48.mono J44.out.size))
      clear hb48 J44
      go_wp2_with fail
      refine (hUa.out _).mono ?_
      rintro e x49 ⟨ra, rfl, hl, hb49⟩
      have J49 := fhide (J48.out.trans (hb49.mono J48.out.size))
      have L49a := fhide hl
      clear hb49 J48 hl
      go_wp2_with fail
      refine (hUb.out _).mono ?_
      rintro e x50 ⟨rb, rfl, hl, hb50⟩
      have J50 := fhide (J49.out.trans (hb50.mono J49.out.size))
      have L50a := fhide (L49a.out.below hb50)
      have L50b := fhide hl
      clear hb50 J49 L49a hl
      go_wp2_with fail
      refine (lTimes L50a.out L50b.out (by omega) (by omega)).mono ?_
      rintro e x51 ⟨rx, rfl, hl, hb51⟩
      have J51 := fhide (J50.out.trans (hb51.mono J50.out.size))
      have L51a := fhide (L50a.out.below hb51)
      have L51b := fhide (L50b.out.below hb51)
      have L51x := fhide hl
      clear hb51 J50 L50a L50b hl
      clear L51a
      clear L51b
      go_wp2_with fail
      refine (hOp.out _).mono ?_
      rintro e x52 ⟨rp, rfl, hl, hb52⟩
      have J52 := fhide (J51.out.trans (hb52.mono J51.out.size))
      have L52x := fhide (L51x.out.below hb52)
      have L52p := fhide hl
      clear hb52 J51 L51x hl
      go_wp2_with fail
      refine (hOq.out _).mono ?_
      rintro e x53 ⟨rq, rfl, hl, hb53⟩
      have J53 := fhide (J52.out.trans (hb53.mono J52.out.size))
      have L53x := fhide (L52x.out.below hb53)
      have L53p := fhide (L52p.out.below hb53)
      have L53q := fhide hl
      clear hb53 J52 L52x L52p hl
      go_wp2_with fail
      refine (plus_any _ _ _ _ _ _ _ L53p.out L53q.out (by omega)).mono ?_
      rintro e x54 ⟨n3, r3, N3, rfl, hl, hn3, hn3s, hb54⟩
      have J54 := fhide (J53.out.trans (hb54.mono J53.out.size))
      have L54x := fhide (L53x.out.below hb54)
      have L54p := fhide (L53p.out.below hb54)
      have L54q := fhide (L53q.out.below hb54)
      have L54y := fhide hl
      clear hb54 J53 L53x L53p L53q hl
      clear L54p
      clear L54q
      have hns : n3 = sp := hn3s HZ.out.2.2.2
      have hN3 : N3 = Z := by
        have h5 := hn3
        rw [HZ.out.2.1, hns] at h5
        unfold sW at h5
        cases sp <;> simp at h5 <;> omega
      have hx4 : (((ys : Int) != 0) : Bool) = n3 := by rw [hx3, hns, HZ.out.2.2.1]
      have hNN : Va * Vb = N3 * 2 ^ T := by rw [hN3]; exact HZ.out.1
      have HNN := fhide hNN
      clear hn3 hn3s hns hN3 hNN hx3 HZ
      obtain ⟨a3, k3, p3, h3⟩ := L54y.out.slice
      subst h3
      obtain ⟨W9, hW9, w0, w1, w2, w3⟩ := whole_local x54 n3 a3 k3 p3 32
      have Lx := fhide (w3 _ _ _ L54x.out)
      have Ly := fhide (w3 _ _ _ L54y.out)
      have J9 := fhide (J54.out.trans (w2.mono J54.out.size))
      clear w2 w3 L54x L54y
      go_wp2_with fail
      rw [← hW9]
      refine (hFq.out _).mono ?_
      rintro e z9 ⟨rfl, hz9⟩
      have hz9 := hz9.symm
      subst hz9
      clear hW9
      have hn33 : (n3 != n3) = false := by cases n3 <;> rfl
      go_wp2_with fail
      refine (hT1.out _ _ _ Ly.out).mono ?_
      rintro e z1 ⟨ru, rfl, hlu, hbu⟩
      have Lu := fhide hlu
      rw [← HNN.out] at Lu
      have Lx1 := fhide (Lx.out.below hbu)
      have w01 : z1.cell? ⟨x54.heap.size, 0, none⟩ = some (Value.bool n3) := by rw [hbu.cell (p := ⟨x54.heap.size, 0, none⟩) (block_lt_of_cell w0)]; exact w0
      have J10 := fhide (J9.out.trans (hbu.mono J9.out.size))
      clear hlu hbu Lx Ly J9
      go_wp2_with fail
      refine (lEq Lx1.out Lu.out).mono ?_
      rintro e z2 ⟨rfl, hbe⟩
      have w02 : z2.cell? ⟨x54.heap.size, 0, none⟩ = some (Value.bool n3) := by rw [hbe.cell (p := ⟨x54.heap.size, 0, none⟩) (block_lt_of_cell w01)]; exact w01
      have J11 := fhide (J10.out.trans (hbe.mono J10.out.size))
      clear hbe Lx1 Lu J10 w01
      go_wp2_with (simp only [hx1, hx2, hx4, hn33])
      go_roundw
      case rel => exact ⟨i + 1, by omega, by omega, by go_num, J11⟩
      case measure => simp [intOf]; omega
    · by_cases hl : i < len0
      · have g1 : (i : Int) < (len0 : Int) := by omega
        have g2 : ¬ (i : Int) < 2000 := by omega
        go_wp2_with fail
        refine (wakes_any _).mono ?_
        rintro e v14 ⟨rfl, hb14⟩
        go_wp2_with fail
        go_ret
        exact ⟨rfl, HI.out.trans (hb14.mono HI.out.size)⟩
      · have g1 : ¬ (i : Int) < (len0 : Int) := by omega
        go_wp2_with fail
        refine (wakes_any _).mono ?_
        rintro e v14 ⟨rfl, hb14⟩
        go_wp2_with fail
        go_ret
        exact ⟨rfl, HI.out.trans (hb14.mono HI.out.size)⟩
end Go.Proofs.Ytmkploknoohliaa

/- TimesMoved: the walk. -/
import Derived.Test.YthdolmhbmbgdpaaT1W
namespace Go.Proofs.Ythdolmhbmbgdpaa
open Go.RowKit
open M
set_option linter.unusedVariables false

set_option maxRecDepth 100000 in
set_option maxHeartbeats 8000000 in
theorem moved_any (aL aB aN : Option Addr) (nL cL nB cB nN cN : Nat) (w : World) (hL : RowsOf IsT w aL nL) (hN : RowsOf IsN w aN nN) :
    Calls Try.prog 7 #[.agg #[.slice aL nL cL, .slice aB nB cB, .slice aN nN cN]] w fun e w' => e = .returned (.bool true) ∧ Below w.heap.size w w' := by
  obtain ⟨i5, hi5⟩ := info64
  have Hi := hide hi5
  have HL := hide hL
  have HN := hide hN
  have hnL := hL.1
  have hnN := hN.1
  clear hL hN hi5
  have HX : Hid ((w.alloc (.cells #[.slice aL nL cL, .slice aB nB cB, .slice aN nN cN] 26)).heap[w.heap.size]? = some (.cells #[.slice aL nL cL, .slice aB nB cB, .slice aN nN cN] 26 (0, 0))) := heap_alloc_new _ _
  have HB0 : Hid (Below w.heap.size w (w.alloc (.cells #[.slice aL nL cL, .slice aB nB cB, .slice aN nN cN] 26))) := (Below.refl _ _).alloc (Nat.le_refl _) _
  go_enter Try.func7, Try.ntmps7
  go_wp2_with fail
  generalize w.alloc (.cells #[.slice aL nL cL, .slice aB nB cB, .slice aN nN cN] 26) = w0 at *
  go_loopw [3, 4] (fun t3 t4 wr => ∃ all k : Nat, t3 = .int .i64 (all : Int) ∧ t4 = .int .i64 (k : Int) ∧ Hid (all ≤ 16384 ∧ k ≤ 100 ∧ Below w0.heap.size w0 wr)) (fun _ t4 _ => 100 - (intOf t4).toNat)
  case atStart => exact ⟨0, 0, rfl, rfl, by omega, by omega, Below.refl _ _⟩
  case round =>
    obtain ⟨all, k, rfl, rfl, HI⟩ := hrel
    have h0s : w.heap.size < w0.heap.size := size_lt_of_row HX.out
    have cX : wr.cell? ⟨w.heap.size, 0, none⟩ = some (.slice aL nL cL) := by rw [HI.out.2.2.cell (p := ⟨w.heap.size, 0, none⟩) h0s, cell_of_row _ _ _ _ _ _ HX.out]; rfl
    have cY : wr.cell? ⟨w.heap.size, 2, none⟩ = some (.slice aN nN cN) := by rw [HI.out.2.2.cell (p := ⟨w.heap.size, 2, none⟩) h0s, cell_of_row _ _ _ _ _ _ HX.out]; rfl
    have hk100 : k ≤ 100 := HI.out.2.1
    have hall : all ≤ 16384 := HI.out.1
    have HBw : Hid (Below w.heap.size w wr) := HB0.out.trans (HI.out.2.2.mono HB0.out.size)
    by_cases h1 : k < nL
    · by_cases h2 : k < 100
      · obtain ⟨b, o, rfl, hc⟩ := HL.out.2 (by omega)
        obtain ⟨v, hv, p, n, cap, f, rfl, ⟨hn, hcap⟩, hT, hf⟩ := hc k h1
        have cV : wr.cell? ⟨b, o + k, none⟩ = some (.slice p n cap) := by rw [HBw.out.cell (p := ⟨b, o + k, none⟩) (block_lt_of_cell hv)]; exact hv
        have HT : Hid (TRow wr p n f) := hT.below HBw.out
        have HF := hide hf
        clear hc hv hT hf
        by_cases hbig : 4096 < n
        · have hb' : decide ((4096 : Int) < (n : Int)) = true := by rw [decide_eq_true_iff]; omega
          by_cases hov : all + n ≤ 9223372036854775807
          · by_cases hsum : 16384 < all + n
            · go_wp2_with fail
              refine (works_any wr).mono ?_
              rintro e w' ⟨rfl, hB⟩
              go_wp2_with fail
              go_ret
              exact ⟨rfl, HBw.out.trans (hB.mono HBw.out.size)⟩
            · go_wp2_with fail
              refine (works_any wr).mono ?_
              rintro e w' ⟨rfl, hB⟩
              go_wp2_with fail
              go_ret
              exact ⟨rfl, HBw.out.trans (hB.mono HBw.out.size)⟩
          · obtain ⟨sm, hsm⟩ : ∃ sm : Int, sm = (all : Int) + (n : Int) - 18446744073709551616 := ⟨_, rfl⟩
            have e1 : wrap64 ((all : Int) + (n : Int)) = sm := by rw [hsm]; unfold wrap64; omega
            have e3 : decide ((16384 : Int) < sm) = false := by rw [decide_eq_false_iff_not]; omega
            have HSM := hide hsm
            clear hsm
            go_wp2_with fail
            refine (works_any wr).mono ?_
            rintro e w' ⟨rfl, hB⟩
            go_wp2_with fail
            go_ret
            exact ⟨rfl, HBw.out.trans (hB.mono HBw.out.size)⟩
        · by_cases hsum : 16384 < all + n
          · go_wp2_with fail
            refine (works_any wr).mono ?_
            rintro e w' ⟨rfl, hB⟩
            go_wp2_with fail
            go_ret
            exact ⟨rfl, HBw.out.trans (hB.mono HBw.out.size)⟩
          · have Hsum := hide hsum
            have hn4 : n ≤ 4096 := by omega
            go_wp2_with fail
            refine (rising_any p n cap f wr HT.out (by omega)).mono ?_
            rintro e w2 ⟨v, rfl, hv, m2, hw2⟩
            have HB2 : Hid (Below wr.heap.size wr w2) := by rw [hw2]; exact below_drewN (Below.refl _ _) m2
            have HT2 : Hid (TRow w2 p n f) := by rw [hw2]; exact HT.out
            clear hw2
            have Hv := hide hv
            clear hv
            cases v with
            | false =>
              go_wp2_with fail
              go_roundw
              case rel => exact ⟨all + n, k + 1, rfl, by simp, by have := Hsum.out; omega, by omega, HI.out.2.2.trans (HB2.out.mono HI.out.2.2.size)⟩
              case measure => simp [intOf]; omega
            | true =>
              by_cases hz : n = 0
              · have hz' : ((n : Int) == 0) = true := by rw [beq_iff_eq]; omega
                have Hz := hide hz
                clear hz
                go_wp2_with fail
                go_roundw
                case rel => exact ⟨all + n, k + 1, rfl, by simp, by have := Hsum.out; omega, by omega, HI.out.2.2.trans (HB2.out.mono HI.out.2.2.size)⟩
                case measure => simp [intOf]; omega
              · obtain ⟨m, rfl⟩ : ∃ m, n = m + 1 := ⟨n - 1, by omega⟩
                have HR : Hid (Rises f (m + 1)) := Hv.out.1 (by trivial)
                clear hz Hv
                obtain ⟨pb, po, rfl, hc⟩ := HT2.out (by omega)
                have HC := hide hc
                have c0 : w2.cell? ⟨pb, po, none⟩ = some (.int .i64 (f 0)) := hc 0 (by omega)
                have cL0 : w2.cell? ⟨pb, po + m, none⟩ = some (.int .i64 (f m)) := hc m (by omega)
                have cX2 : w2.cell? ⟨w.heap.size, 2, none⟩ = some (.slice aN nN cN) := by rw [HB2.out.cell (p := ⟨w.heap.size, 2, none⟩) (block_lt_of_cell cY)]; exact cY
                clear hc
                have r0 := HF.out 0 (by omega)
                have r1 := HF.out m (by omega)
                obtain ⟨x0, hx0⟩ : ∃ x0, x0 = f 0 := ⟨_, rfl⟩
                obtain ⟨xl, hxl⟩ : ∃ xl, xl = f m := ⟨_, rfl⟩
                rw [← hx0] at c0 r0
                rw [← hxl] at cL0 r1
                have HX0 := hide hx0
                have HXL := hide hxl
                clear hx0 hxl
                have hne0 : ((m : Int) + 1 == 0) = false := by rw [beq_eq_false_iff_ne]; omega
                have HBw2 : Hid (Below w.heap.size w w2) := HBw.out.trans (HB2.out.mono HBw.out.size)
                go_upto_if 52 with fail
                go_cut [6] from 13 to 161 (fun t6 wc => ∃ b0 : Int, t6 = .int .i64 b0 ∧ Hid (I64 b0) ∧ w2 = wc)
                case first =>
                  by_cases hkN : k < nN
                  · obtain ⟨nb, no, rfl, hcN⟩ := HN.out.2 (by omega)
                    obtain ⟨vz, hvz, z, rfl, hz⟩ := hcN k hkN
                    have cN1 : w2.cell? ⟨nb, no + k, none⟩ = some (.int .i64 z) := by rw [HBw2.out.cell (p := ⟨nb, no + k, none⟩) (block_lt_of_cell hvz)]; exact hvz
                    clear hcN hvz
                    go_wp2_with fail
                    go_meet
                    case rel => exact ⟨_, rfl, (by show I64 _; unfold I64 wrap64; omega), rfl⟩
                  · go_wp2_with fail
                    go_meet
                    case rel => exact ⟨0, rfl, (by show I64 _; unfold I64; omega), rfl⟩
                case rest =>
                  obtain ⟨b0, rfl, Hb0, rfl⟩ := hcut
                  have b00 := Hb0.out.1
                  have b01 := Hb0.out.2
                  have r00 := r0.1
                  have r01 := r0.2
                  have r10 := r1.1
                  have r11 := r1.2
                  go_upto_region 12 with fail
                  go_cut [83] from 13 to 161 (fun t83 wc => SaysNot t83 (∀ i, i < m + 1 → I64 (f i + b0)) ∧ w2 = wc)
                  case first =>
                    by_cases s1 : b0 < 0
                    · have s1' : decide (b0 < 0) = true := by rw [decide_eq_true_iff]; exact s1
                      have s2' : decide ((0 : Int) < b0) = false := by rw [decide_eq_false_iff_not]; omega
                      have es : wrap64 (-9223372036854775808 - b0) = -9223372036854775808 - b0 := by unfold wrap64; omega
                      by_cases q : x0 < -9223372036854775808 - b0
                      · have q' : decide (x0 < -9223372036854775808 - b0) = true := by rw [decide_eq_true_iff]; exact q
                        go_wp2_with fail
                        go_meet
                        case rel => exact ⟨SaysNot.yes, rfl⟩
                      · have q' : decide (x0 < -9223372036854775808 - b0) = false := by rw [decide_eq_false_iff_not]; exact q
                        go_wp2_with fail
                        go_meet
                        case rel => exact ⟨SaysNot.no (moved_range HR.out b0 (by rw [← HX0.out]; omega) (by rw [← HXL.out]; omega)), rfl⟩
                    · have s1' : decide (b0 < 0) = false := by rw [decide_eq_false_iff_not]; exact s1
                      by_cases s2 : 0 < b0
                      · have s2' : decide ((0 : Int) < b0) = true := by rw [decide_eq_true_iff]; exact s2
                        have es : wrap64 (9223372036854775807 - b0) = 9223372036854775807 - b0 := by unfold wrap64; omega
                        by_cases q : 9223372036854775807 - b0 < xl
                        · have q' : decide (9223372036854775807 - b0 < xl) = true := by rw [decide_eq_true_iff]; exact q
                          go_wp2_with fail
                          go_meet
                          case rel => exact ⟨SaysNot.yes, rfl⟩
                        · have q' : decide (9223372036854775807 - b0 < xl) = false := by rw [decide_eq_false_iff_not]; exact q
                          go_wp2_with fail
                          go_meet
                          case rel => exact ⟨SaysNot.no (moved_range HR.out b0 (by rw [← HX0.out]; omega) (by rw [← HXL.out]; omega)), rfl⟩
                      · have s2' : decide ((0 : Int) < b0) = false := by rw [decide_eq_false_iff_not]; exact s2
                        go_wp2_with fail
                        go_meet
                        case rel => exact ⟨SaysNot.no (moved_range HR.out b0 (by rw [← HX0.out]; omega) (by rw [← HXL.out]; omega)), rfl⟩
                  case rest =>
                    obtain ⟨hbad, rfl⟩ := hcut
                    obtain ⟨bad, rfl, hbad⟩ := hbad
                    have Hbad := hide hbad
                    clear hbad
                    go_upto_if 83 with fail
                    go_cut [6] from 13 to 161 (fun t6 wc => ∃ by_ : Int, t6 = .int .i64 by_ ∧ Hid (∀ i, i < m + 1 → I64 (f i + by_)) ∧ w2 = wc)
                    case first =>
                      cases bad with
                      | false =>
                        go_wp2_with fail
                        go_meet
                        case rel => exact ⟨b0, rfl, Hbad.out (by trivial), rfl⟩
                      | true =>
                        by_cases x0n : x0 < 0
                        · have x0n' : decide (x0 < 0) = true := by rw [decide_eq_true_iff]; exact x0n
                          have x0p : decide ((0 : Int) ≤ x0) = false := by rw [decide_eq_false_iff_not]; omega
                          have en : wrap64 (x0 + 1) = x0 + 1 := by unfold wrap64; omega
                          obtain ⟨b2, hb2⟩ : ∃ b2 : Int, b2 = -(x0 + 1) := ⟨_, rfl⟩
                          have en2 : wrap64 (-(x0 + 1)) = b2 := by rw [hb2]; unfold wrap64; omega
                          have en3 : -(x0 + 1) = b2 := hb2.symm
                          have en4 : wrap64 (9223372036854775807 - b2) = 9223372036854775807 - b2 := by unfold wrap64; omega
                          have HB2 := hide hb2
                          have hb20 : 0 ≤ b2 := by omega
                          have hb21 : b2 ≤ 9223372036854775807 := by omega
                          clear hb2
                          by_cases xb : 9223372036854775807 - b2 < xl
                          · have xb' : decide (9223372036854775807 - b2 < xl) = true := by rw [decide_eq_true_iff]; exact xb
                            go_wp2_with fail
                            go_meet
                            case rel => exact ⟨0, rfl, moved_range HR.out (0) (by rw [← HX0.out]; omega) (by rw [← HXL.out]; omega), rfl⟩
                          · have xb' : decide (9223372036854775807 - b2 < xl) = false := by rw [decide_eq_false_iff_not]; exact xb
                            go_wp2_with fail
                            go_meet
                            case rel => exact ⟨b2, rfl, moved_range HR.out (b2) (by rw [← HX0.out]; have := HB2.out; omega) (by rw [← HXL.out]; omega), rfl⟩
                        · have x0n' : decide (x0 < 0) = false := by rw [decide_eq_false_iff_not]; exact x0n
                          have x0p : decide ((0 : Int) ≤ x0) = true := by rw [decide_eq_true_iff]; omega
                          go_wp2_with fail
                          go_meet
                          case rel => exact ⟨0, rfl, moved_range HR.out (0) (by rw [← HX0.out]; omega) (by rw [← HXL.out]; omega), rfl⟩
                    case rest =>
                      obtain ⟨by_, rfl, Hby, hwd⟩ := hcut
                      subst hwd
                      clear b00 b01 r00 r01 r10 r11 c0 cL0 r0 r1 Hb0 Hbad
                      go_wp2_with fail
                      have HIW : Hid (Below w0.heap.size w0 w2) := HI.out.2.2.trans (HB2.out.mono HI.out.2.2.size)
                      go_loopw [7, 8] (fun t7 t8 wi => ∃ i : Nat, t8 = .int .i64 (i : Int) ∧ Hid (i ≤ m + 1) ∧ Hid (TSt w2.heap.size w2 (fun i => f i + by_) i t7 wi)) (fun _ t8 _ => m + 1 - (intOf t8).toNat)
                      case atStart => exact ⟨0, rfl, (by show 0 ≤ m + 1; omega), TSt.nil _ _⟩
                      case round =>
                        obtain ⟨i, rfl, hi, HS⟩ := hrel
                        by_cases hlt : i < m + 1
                        · have Hnext := hide (fun (w4 : World) (g4 cap4 : Nat) (y : Int) (hy : y = f i + by_) => TSt.next (w4 := w4) (g := g4) (cap := cap4) HS.out hy)
                          have ci : wr.cell? ⟨pb, po + i, none⟩ = some (.int .i64 (f i)) := by rw [HS.out.2.1.cell (p := ⟨pb, po + i, none⟩) (block_lt_of_cell (HC.out i hlt))]; exact HC.out i hlt
                          have hyr := Hby.out i hlt
                          obtain ⟨xi, hxi⟩ : ∃ xi, xi = f i := ⟨_, rfl⟩
                          rw [← hxi] at ci hyr Hnext
                          obtain ⟨y, hy⟩ : ∃ y, y = xi + by_ := ⟨_, rfl⟩
                          have ey : wrap64 (xi + by_) = y := by rw [hy]; obtain ⟨h1, h2⟩ := hyr; unfold wrap64; omega
                          have HY := hide hy
                          clear hy hyr hxi
                          go_wp2_with (at_builtin; refine wpList_append_lies _ rfl _ _ _ rfl w2.heap.size 2 i5 (.int .i64 0) 1 8 Try.underlying27 Hi.out.1 Hi.out.2.1 Hi.out.2.2.1 Hi.out.2.2.2 rfl (by decide) _ i (timesV i (fun i => f i + by_)) rfl (HS.out.1.alloc _) ⟨wr.heap.size, 0, none⟩ 1 1 [.int .i64 y] rfl rfl ?d2 ?d3 (by decide) ?d4 ?d5 ?d7 _ rfl ?d6)
                          case d2 => intro j u hj; exact cell_new1 wr _ 2 j u hj
                          case d3 => intro u hu; simp at hu; subst hu; rfl
                          case d4 => unfold maxLen; omega
                          case d5 => omega
                          case d7 => have := HS.out.2.1.size; simp; omega
                          case d6 =>
                            intro g4 cap4 w4 ho4 hg4 hat4 hlt4
                            have H4 : Hid (TSt w2.heap.size w2 (fun i => f i + by_) (i + 1) (.slice (some ⟨g4, 0, none⟩) (i + 1) cap4) w4) := Hnext.out w4 g4 cap4 y HY.out ho4 hg4
                            clear ho4 hg4 hat4 hlt4 HS Hnext
                            go_wp2_with fail
                            go_roundw
                            case rel => exact ⟨i + 1, by simp, (by show i + 1 ≤ m + 1; omega), H4.out⟩
                            case measure => simp [intOf]; omega
                        · obtain rfl : i = m + 1 := by have := hi.out; omega
                          obtain ⟨ad2, cap2, hv2, hcap2, hrow2⟩ := HS.out.row
                          subst hv2
                          have HR3 := hide hrow2
                          have HB3 : Hid (Below w2.heap.size w2 wr) := HS.out.2.1
                          have HT3 : Hid (TRow wr (some ⟨pb, po, none⟩) (m + 1) f) := HT2.out.below HB3.out
                          clear hrow2 HS hlt
                          go_wp2_with fail
                          refine (pack_ok _ (m + 1) cap f wr HT3.out hn4 HF.out HR.out).mono ?_
                          rintro e w3 ⟨g1, L1, hL1, hg1, rfl, G1, B1⟩
                          have HL1 := hide hL1
                          have HG1 := hide G1
                          have HBB : Hid (Below w2.heap.size w2 w3) := HB3.out.trans (B1.mono HB3.out.size)
                          have HR4 : Hid (TRow w3 ad2 (m + 1) (fun i => f i + by_)) := HR3.out.below B1
                          clear hL1 G1 B1
                          go_wp2_with fail
                          refine (pack_ok ad2 (m + 1) cap2 (fun i => f i + by_) w3 HR4.out hn4 Hby.out (Rises.moved HR.out by_)).mono ?_
                          rintro e w4 ⟨g2, L2, hL2, hg2, rfl, G2, B2⟩
                          have HMS := hide (moved_same f (fun i => f i + by_) by_ m (fun j _ => rfl))
                          obtain rfl : L2 = L1 := by rw [hL2, HL1.out]; exact HMS.out.1
                          have hL8 : 8 ≤ L2 := by rw [HL1.out]; exact HMS.out.2.1
                          have HL2 := hide hL2
                          have HG2 := hide G2
                          have HG1' : Hid (w4.heap[g1]? = some (.cells (bytesV (packed (tbn f (m + 1)))).toArray 5 (0, 0))) := by show _ = _; rw [B2.block g1 (size_lt_of_row HG1.out)]; exact HG1.out
                          have HB4 : Hid (Below w2.heap.size w2 w4) := HBB.out.trans (B2.mono HBB.out.size)
                          have hd8 : decide ((L2 : Int) < 8) = false := by rw [decide_eq_false_iff_not]; omega
                          clear hL2 G2 B2
                          by_cases hL : L2 = 8
                          · subst hL
                            have v1 : ∀ N o c, (convert 28 9 (.slice (some ⟨g1, o, none⟩) 0 c)).run Try.prog (w4.drewN N) = .ok (.string (strOf [])) (w4.drewN N) := fun N o c => convert_by _ _ _ (.inr ⟨_, _, rfl, rfl⟩)
                            have v2 : ∀ N o c, (convert 28 9 (.slice (some ⟨g2, o, none⟩) 0 c)).run Try.prog (w4.drewN N) = .ok (.string (strOf [])) (w4.drewN N) := fun N o c => convert_by _ _ _ (.inr ⟨_, _, rfl, rfl⟩)
                            generalize strOf [] = s1 at *
                            clear hd8
                            go_wp2_with fail
                            go_quiet ((go_at_call 10; exact Calls.quiet_of_same (num_any _ _)))
                            go_wp2_with fail
                            go_roundw
                            case rel => exact ⟨all + (m + 1), k + 1, by simp, by simp, by have := Hsum.out; omega, by omega, below_drewN (HIW.out.trans (HB4.out.mono HIW.out.size)) _⟩
                            case measure => simp [intOf]; omega
                          · obtain ⟨s1, hs1⟩ : ∃ s1, s1 = strOf ((packed (tbn f (m + 1))).drop 8) := ⟨_, rfl⟩
                            obtain ⟨q, rfl⟩ : ∃ q, L2 = q + 9 := ⟨L2 - 9, by omega⟩
                            have v1 : ∀ N, (convert 28 9 (.slice (some ⟨g1, 8, none⟩) (q + 1) (q + 1))).run Try.prog (w4.drewN N) = .ok (.string s1) (w4.drewN N) := fun N => by
                              have e : q + 1 = (packed (tbn f (m + 1))).length - 8 := by rw [← HL1.out]; omega
                              rw [hs1]
                              conv => lhs; rw [e]
                              exact convert_bytes _ _ _ (isBytes_drop (by rw [← HL1.out]; omega) _ HG1'.out)
                            have v2 : ∀ N, (convert 28 9 (.slice (some ⟨g2, 8, none⟩) (q + 1) (q + 1))).run Try.prog (w4.drewN N) = .ok (.string s1) (w4.drewN N) := fun N => by
                              have e : q + 1 = (packed (tbn (fun i => f i + by_) (m + 1))).length - 8 := by rw [← HL2.out]; omega
                              rw [hs1, ← HMS.out.2.2]
                              conv => lhs; rw [e]
                              exact convert_bytes _ _ _ (isBytes_drop (by rw [← HL2.out]; omega) _ HG2.out)
                            have HS1 := hide hs1
                            clear hs1 hd8
                            have hd8 : decide ((q : Int) + 9 < 8) = false := by rw [decide_eq_false_iff_not]; omega
                            go_wp2_with fail
                            go_quiet ((go_at_call 10; exact Calls.quiet_of_same (num_any _ _)))
                            go_wp2_with fail
                            go_roundw
                            case rel => exact ⟨all + (m + 1), k + 1, by simp, by simp, by have := Hsum.out; omega, by omega, below_drewN (HIW.out.trans (HB4.out.mono HIW.out.size)) _⟩
                            case measure => simp [intOf]; omega
      · go_wp2_with fail
        refine (works_any wr).mono ?_
        rintro e w' ⟨rfl, hB⟩
        go_wp2_with fail
        go_ret
        exact ⟨rfl, HBw.out.trans (hB.mono HBw.out.size)⟩
    · go_wp2_with fail
      refine (works_any wr).mono ?_
      rintro e w' ⟨rfl, hB⟩
      go_wp2_with fail
      go_ret
      exact ⟨rfl, HBw.out.trans (hB.mono HBw.out.size)⟩

end Go.Proofs.Ythdolmhbmbgdpaa

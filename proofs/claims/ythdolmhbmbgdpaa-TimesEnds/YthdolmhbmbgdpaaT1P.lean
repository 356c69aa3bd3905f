/- TimesBack: the walk. -/
import Derived.Test.YthdolmhbmbgdpaaT1I
namespace Go.Proofs.Ythdolmhbmbgdpaa
open Go.RowKit
open M
set_option linter.unusedVariables false

theorem packed_prefix (l r : List Bool) (k : Nat) (hk : 8 * k ≤ l.length) : (packed (l ++ r)).take k = (packed l).take k := by
  apply List.ext_getElem?
  intro i
  by_cases hi : i < k
  · rw [List.getElem?_take_of_lt hi, List.getElem?_take_of_lt hi]
    simp only [packed, List.getElem?_map, List.length_append]
    rw [List.getElem?_range (by omega), List.getElem?_range (by omega), Option.map_some, Option.map_some, byteAt_full l r i (by omega)]
  · rw [List.getElem?_eq_none (by simp; omega), List.getElem?_eq_none (by simp; omega)]

theorem back_len (f : Nat → Int) (n : Nat) : (packed (tbn f n)).length ≤ 9 * n := by
  cases n with
  | zero => simp [tbn]
  | succ n => have := tbn_length f n; rw [packed_length]; omega

theorem back_pre (f : Nat → Int) (n : Nat) : (packed (tbn f n)).length ≤ (packed (tbn f (n + 1))).length ∧
    (packed (tbn f (n + 1))).take ((packed (tbn f n)).length - 1) = (packed (tbn f n)).take ((packed (tbn f n)).length - 1) := by
  obtain ⟨r, hr⟩ := tbn_pre f n
  rw [hr]
  refine ⟨by rw [packed_length, packed_length, List.length_append]; omega, packed_prefix _ _ _ ?_⟩
  rw [packed_length]; omega

/-- Where the same bytes are taken as one time fewer. -/
theorem back_same (f g : Nat → Int) (n : Nat) (hf : ∀ i, i < n + 1 → I64 (f i)) (hP : Packs (packed (tbn f (n + 1))) g n) (hU : ∀ h, Begins (rbits (packed (tbn f (n + 1)))) h n → ∀ i, i < n → g i = h i) : packed (tbn f n) = packed (tbn f (n + 1)) := by
  obtain ⟨r, hr⟩ := tbn_pre f n
  have := hU f ⟨fun i hi => hf i (by omega), by rw [rbits_packed, hr, List.append_assoc]; exact ⟨_, rfl⟩⟩
  rw [← tbn_congr g f n this]
  exact hP.2.2

theorem isBytes_take {w : World} {g : Nat} {bs : List Nat} {cap : Nat} (k : Nat) (hk : k ≤ bs.length) (h : w.heap[g]? = some (.cells (bytesV bs).toArray 5 (0, 0))) : IsBytes w (.slice (some ⟨g, 0, none⟩) k cap) (bs.take k) := by
  have hl : (bs.take k).length = k := by simp; omega
  refine .inr ⟨g, 0, cap, by rw [hl], fun i hi => ?_⟩
  rw [hl] at hi
  rw [cell_of_row _ _ _ _ _ _ h]
  have : i < bs.length := by omega
  simp [bytesV, List.getD, this, hi]

set_option maxRecDepth 100000 in
set_option maxHeartbeats 4000000 in
theorem back_any (aL aB aN : Option Addr) (nL cL nB cB nN cN : Nat) (w : World) (hL : RowsOf IsT w aL nL) :
    Calls Try.prog 3 #[.agg #[.slice aL nL cL, .slice aB nB cB, .slice aN nN cN]] w fun e w' => e = .returned (.bool true) ∧ Below w.heap.size w w' := by
  have HL := hide hL
  have hnL := hL.1
  clear hL
  have HX : Hid ((w.alloc (.cells #[.slice aL nL cL, .slice aB nB cB, .slice aN nN cN] 26)).heap[w.heap.size]? = some (.cells #[.slice aL nL cL, .slice aB nB cB, .slice aN nN cN] 26 (0, 0))) := heap_alloc_new _ _
  have HB0 : Hid (Below w.heap.size w (w.alloc (.cells #[.slice aL nL cL, .slice aB nB cB, .slice aN nN cN] 26))) := (Below.refl _ _).alloc (Nat.le_refl _) _
  go_enter Try.func3, Try.ntmps3
  go_wp2_with fail
  generalize w.alloc (.cells #[.slice aL nL cL, .slice aB nB cB, .slice aN nN cN] 26) = w0 at *
  go_loopw [3, 4] (fun t3 t4 wr => ∃ all k : Nat, t3 = .int .i64 (all : Int) ∧ t4 = .int .i64 (k : Int) ∧ Hid (all ≤ 16384 ∧ k ≤ 100 ∧ Below w0.heap.size w0 wr)) (fun _ t4 _ => 100 - (intOf t4).toNat)
  case atStart => exact ⟨0, 0, rfl, rfl, by omega, by omega, Below.refl _ _⟩
  case round =>
    obtain ⟨all, k, rfl, rfl, hI⟩ := hrel
    have h0s : w.heap.size < w0.heap.size := size_lt_of_row HX.out
    have cX : wr.cell? ⟨w.heap.size, 0, none⟩ = some (.slice aL nL cL) := by rw [hI.out.2.2.cell (p := ⟨w.heap.size, 0, none⟩) h0s, cell_of_row _ _ _ _ _ _ HX.out]; rfl
    have hk100 : k ≤ 100 := hI.out.2.1
    have hall : all ≤ 16384 := hI.out.1
    have HBw : Hid (Below w.heap.size w wr) := HB0.out.trans (hI.out.2.2.mono HB0.out.size)
    by_cases h1 : k < nL
    · by_cases h2 : k < 100
      · obtain ⟨b, o, rfl, hc⟩ := HL.out.2 (by omega)
        obtain ⟨v, hv, p, n, cap, f, rfl, ⟨hn, hcap⟩, hT, hf⟩ := hc k h1
        have cV : wr.cell? ⟨b, o + k, none⟩ = some (.slice p n cap) := by rw [HBw.out.cell (p := ⟨b, o + k, none⟩) (block_lt_of_cell hv)]; exact hv
        have HT : Hid (TRow wr p n f) := hT.below HBw.out
        have HF := hide hf
        clear hc hv hT hf
        by_cases hbig : 4096 < n
        · have hb' : decide ((4096 : Int) < (n : Int)) = true := by rw [decide_eq_true_iff]; omega
          by_cases hov : all + n ≤ 9223372036854775807
          · by_cases hsum : 16384 < all + n
            · go_wp2_with fail
              refine (works_any wr).mono ?_
              rintro e w' ⟨rfl, hB⟩
              go_wp2_with fail
              go_ret
              exact ⟨rfl, HBw.out.trans (hB.mono HBw.out.size)⟩
            · go_wp2_with fail
              refine (works_any wr).mono ?_
              rintro e w' ⟨rfl, hB⟩
              go_wp2_with fail
              go_ret
              exact ⟨rfl, HBw.out.trans (hB.mono HBw.out.size)⟩
          · obtain ⟨sm, hsm⟩ : ∃ sm : Int, sm = (all : Int) + (n : Int) - 18446744073709551616 := ⟨_, rfl⟩
            have e1 : wrap64 ((all : Int) + (n : Int)) = sm := by rw [hsm]; unfold wrap64; omega
            have e2 : IntKind.i64.wrap ((all : Int) + (n : Int)) = sm := by rw [hsm]; simp only [IntKind.wrap, IntKind.bits, IntKind.signed]; simp; omega
            have e3 : decide ((16384 : Int) < sm) = false := by rw [decide_eq_false_iff_not]; omega
            have HSM := hide hsm
            clear hsm
            go_wp2_with fail
            refine (works_any wr).mono ?_
            rintro e w' ⟨rfl, hB⟩
            go_wp2_with fail
            go_ret
            exact ⟨rfl, HBw.out.trans (hB.mono HBw.out.size)⟩
        · by_cases hsum : 16384 < all + n
          · go_wp2_with fail
            refine (works_any wr).mono ?_
            rintro e w' ⟨rfl, hB⟩
            go_wp2_with fail
            go_ret
            exact ⟨rfl, HBw.out.trans (hB.mono HBw.out.size)⟩
          · have HN := hide hbig
            have Hsum := hide hsum
            have HI := hI
            have hn4 : n ≤ 4096 := by omega
            clear hI
            by_cases hr : Rises f n
            · have HR := hide hr
              clear hr
              go_wp2_with fail
              refine (pack_ok p n cap f wr HT.out hn4 HF.out HR.out).mono ?_
              rintro e w1 ⟨g, L, hL, hg, rfl, G1, B1⟩
              have HL1 : Hid (L = (packed (tbn f n)).length) := hL
              have HG1 := hide G1
              have HB1 := hide B1
              have HT1 : Hid (TRow w1 p n f) := HT.out.below B1
              clear hL G1 B1
              go_wp2_with fail
              refine (rising_any p n cap f w1 HT1.out (by omega)).mono ?_
              rintro e w2 ⟨v, rfl, hv, m2, hw2⟩
              obtain rfl : v = true := hv.2 HR.out
              have HB2 : Hid (Below wr.heap.size wr w2) := by rw [hw2]; exact below_drewN HB1.out m2
              have HG2 : Hid (w2.heap[g]? = some (.cells (bytesV (packed (tbn f n))).toArray 5 (0, 0))) := by rw [hw2]; exact HG1.out
              clear hw2 hv
              have HI2 : Hid (IsBytes w2 (.slice (some ⟨g, 0, none⟩) L L) (packed (tbn f n))) := by rw [HL1.out]; exact isBytes_row HG2.out
              have HLL : Hid (L ≤ 9 * n) := by rw [HL1.out]; exact back_len f n
              go_wp2_with fail
              refine (unpack_any _ _ n w2 (.inl HI2.out) (packed_lt _) (by rw [← HL1.out]; have := HLL.out; omega) hn4).mono ?_
              rintro e w3 (⟨rfl, B3, hno⟩ | ⟨g3, f3, rfl, hg3, R3, B3, P3, hU3⟩)
              · exact absurd ⟨f, HF.out, HR.out, rfl⟩ hno
              have HB3 : Hid (Below wr.heap.size wr w3) := HB2.out.trans (B3.mono HB2.out.size)
              have HT3 : Hid (TRow w3 p n f) := HT.out.below HB3.out
              have HE3 : Hid (∀ i, i < n → f3 i = f i) := hU3 f (begins_of ⟨HF.out, HR.out, rfl⟩)
              have HG3 : Hid (w3.heap[g]? = some (.cells (bytesV (packed (tbn f n))).toArray 5 (0, 0))) := by rw [B3.block g (size_lt_of_row HG2.out)]; exact HG2.out
              have HR3 := hide R3
              clear B3 P3 hU3 R3
              have hLi : ¬ (9 * (n : Int)) < (L : Int) := by have := HLL.out; omega
              go_wp2_with fail
              refine (num_any _ _).mono ?_
              rintro e w4 ⟨rfl, rfl⟩
              go_wp2_with fail
              refine (num_any _ _).mono ?_
              rintro e w4 ⟨rfl, rfl⟩
              go_wp2_with fail
              refine (same_any _ p n n n cap f3 f w4 HR3.out HT3.out (by omega) (by omega)).mono ?_
              rintro e w5 ⟨v, rfl, hv, m5, hw5⟩
              obtain rfl : v = true := hv.2 ⟨rfl, HE3.out⟩
              have HB5 : Hid (Below wr.heap.size wr w5) := by rw [hw5]; exact below_drewN HB3.out m5
              have HG5 : Hid (w5.heap[g]? = some (.cells (bytesV (packed (tbn f n))).toArray 5 (0, 0))) := by rw [hw5]; exact HG3.out
              clear hw5 hv HR3 HT3 HB3 HG3
              by_cases hz : n = 0
              · have hz' : ¬ (0 : Int) < (n : Int) := by omega
                have Hz := hide hz
                clear hz
                go_wp2_with fail
                go_roundw
                case rel => exact ⟨all + n, k + 1, rfl, by simp, by have := Hsum.out; omega, by omega, HI.out.2.2.trans (HB5.out.mono HI.out.2.2.size)⟩
                case measure => simp [intOf]; omega
              · have hz' : (0 : Int) < (n : Int) := by omega
                obtain ⟨m, hm⟩ : ∃ m, n = m + 1 := ⟨n - 1, by omega⟩
                subst hm
                have hm1 : ((m + 1 : Nat) : Int) - 1 = (m : Int) := by omega
                obtain ⟨pb, po, rfl, _⟩ := HT.out (by omega)
                have HT5 : Hid (TRow w5 (some ⟨pb, po, none⟩) m f) := (HT.out.below HB5.out).take (by omega)
                have HRm : Hid (Rises f m) := fun i hi => HR.out i (by omega)
                clear hz hz'
                go_wp2_with fail
                refine (pack_ok _ m cap f w5 HT5.out (by omega) (fun i hi => HF.out i (by omega)) HRm.out).mono ?_
                rintro e w6 ⟨g6, L6, hL6, hg6, rfl, G6, B6⟩
                have HL6 : Hid (L6 = (packed (tbn f m)).length) := hL6
                have HB6 : Hid (Below wr.heap.size wr w6) := HB5.out.trans (B6.mono HB5.out.size)
                have HG6 : Hid (w6.heap[g]? = some (.cells (bytesV (packed (tbn f (m + 1)))).toArray 5 (0, 0))) := by show _ = _; rw [B6.block g (size_lt_of_row HG5.out)]; exact HG5.out
                have HC6 := hide G6
                clear hL6 G6 B6
                have HI6 : Hid (IsBytes w6 (.slice (some ⟨g, 0, none⟩) L L) (packed (tbn f (m + 1)))) := by rw [HL1.out]; exact isBytes_row HG6.out
                go_wp2_with fail
                refine (unpack_any _ _ m w6 (.inl HI6.out) (packed_lt _) (by rw [← HL1.out]; have := HLL.out; omega) (by omega)).mono ?_
                have hq : L6 ≤ L := by rw [HL6.out, HL1.out]; exact (back_pre f m).1
                rintro e w7 (⟨rfl, B7, hno⟩ | ⟨g7, f7, rfl, hg7, R7, B7, P7, hU7⟩)
                · have HB7 : Hid (Below wr.heap.size wr w7) := HB6.out.trans (B7.mono HB6.out.size)
                  have HG7 : Hid (w7.heap[g]? = some (.cells (bytesV (packed (tbn f (m + 1)))).toArray 5 (0, 0))) := by show _ = _; rw [B7.block g (size_lt_of_row HG6.out)]; exact HG6.out
                  have HC7 : Hid (w7.heap[g6]? = some (.cells (bytesV (packed (tbn f m))).toArray 5 (0, 0))) := by show _ = _; rw [B7.block g6 (size_lt_of_row HC6.out)]; exact HC6.out
                  clear B7
                  by_cases hl1 : 1 < L6
                  · obtain ⟨q, rfl⟩ : ∃ q, L6 = q + 1 := ⟨L6 - 1, by omega⟩
                    obtain ⟨s1, hs1⟩ : ∃ s1, s1 = strOf ((packed (tbn f m)).take q) := ⟨_, rfl⟩
                    have v1 : ∀ N, (convert 28 9 (.slice (some ⟨g6, 0, none⟩) q (q + 1))).run Try.prog (w7.drewN N) = .ok (.string s1) (w7.drewN N) := fun N => by
                      rw [hs1]; exact convert_bytes _ _ _ (isBytes_take q (by rw [← HL6.out]; omega) HC7.out)
                    have v2 : ∀ N, (convert 28 9 (.slice (some ⟨g, 0, none⟩) q L)).run Try.prog (w7.drewN N) = .ok (.string s1) (w7.drewN N) := fun N => by
                      have e := (back_pre f m).2
                      rw [← HL6.out, Nat.add_sub_cancel] at e
                      rw [hs1, ← e]; exact convert_bytes _ _ _ (isBytes_take q (by rw [← HL1.out]; omega) HG7.out)
                    have hq1 : ((q + 1 : Nat) : Int) - 1 = (q : Int) := by omega
                    have HS1 := hide hs1
                    clear hs1
                    have hd1 : decide ((L : Int) < (q : Int) + 1) = false := by rw [decide_eq_false_iff_not]; omega
                    have hd2 : decide ((1 : Int) < (q : Int) + 1) = true := by rw [decide_eq_true_iff]; omega
                    go_wp2_with fail
                    go_quiet ((go_at_call 10; exact Calls.quiet_of_same (num_any _ _)))
                    go_wp2_with fail
                    go_roundw
                    case rel => exact ⟨all + (m + 1), k + 1, by simp, by simp, by have := Hsum.out; omega, by omega, below_drewN (HI.out.2.2.trans (HB7.out.mono HI.out.2.2.size)) _⟩
                    case measure => simp [intOf]; omega
                  · obtain rfl : L6 = 0 := by
                      have e := HL6.out
                      cases m with
                      | zero => rw [e]; simp [tbn]
                      | succ m =>
                        obtain ⟨r, hr⟩ := tbn_prefix f 1 (m + 1) (by omega)
                        rw [hr, tbn_one, packed_length, List.length_append, bitsOf_length] at e
                        omega
                    clear hl1 hq
                    have hd1 : decide ((L : Int) < 0) = false := by rw [decide_eq_false_iff_not]; omega
                    go_wp2_with fail
                    go_quiet ((go_at_call 10; exact Calls.quiet_of_same (num_any _ _)))
                    go_wp2_with fail
                    go_roundw
                    case rel => exact ⟨all + (m + 1), k + 1, by simp, by simp, by have := Hsum.out; omega, by omega, below_drewN (HI.out.2.2.trans (HB7.out.mono HI.out.2.2.size)) _⟩
                    case measure => simp [intOf]; omega
                · have HSM : Hid (packed (tbn f m) = packed (tbn f (m + 1))) := back_same f f7 m HF.out P7 hU7
                  clear hU7 P7 R7 hg7
                  have HB7 : Hid (Below wr.heap.size wr w7) := HB6.out.trans (B7.mono HB6.out.size)
                  have HG7 : Hid (w7.heap[g]? = some (.cells (bytesV (packed (tbn f (m + 1)))).toArray 5 (0, 0))) := by show _ = _; rw [B7.block g (size_lt_of_row HG6.out)]; exact HG6.out
                  have HC7 : Hid (w7.heap[g6]? = some (.cells (bytesV (packed (tbn f m))).toArray 5 (0, 0))) := by show _ = _; rw [B7.block g6 (size_lt_of_row HC6.out)]; exact HC6.out
                  clear B7
                  obtain ⟨s2, hs2⟩ : ∃ s2, s2 = strOf (packed (tbn f (m + 1))) := ⟨_, rfl⟩
                  have v3 : ∀ N, (convert 28 9 (.slice (some ⟨g6, 0, none⟩) L6 L6)).run Try.prog (w7.drewN N) = .ok (.string s2) (w7.drewN N) := fun N => by
                    rw [hs2, ← HSM.out, HL6.out]; exact convert_bytes _ _ _ (isBytes_row HC7.out)
                  have v4 : ∀ N, (convert 28 9 (.slice (some ⟨g, 0, none⟩) L L)).run Try.prog (w7.drewN N) = .ok (.string s2) (w7.drewN N) := fun N => by
                    rw [hs2, HL1.out]; exact convert_bytes _ _ _ (isBytes_row HG7.out)
                  have HS2 := hide hs2
                  clear hs2
                  by_cases hl1 : 1 < L6
                  · obtain ⟨q, rfl⟩ : ∃ q, L6 = q + 1 := ⟨L6 - 1, by omega⟩
                    obtain ⟨s1, hs1⟩ : ∃ s1, s1 = strOf ((packed (tbn f m)).take q) := ⟨_, rfl⟩
                    have v1 : ∀ N, (convert 28 9 (.slice (some ⟨g6, 0, none⟩) q (q + 1))).run Try.prog (w7.drewN N) = .ok (.string s1) (w7.drewN N) := fun N => by
                      rw [hs1]; exact convert_bytes _ _ _ (isBytes_take q (by rw [← HL6.out]; omega) HC7.out)
                    have v2 : ∀ N, (convert 28 9 (.slice (some ⟨g, 0, none⟩) q L)).run Try.prog (w7.drewN N) = .ok (.string s1) (w7.drewN N) := fun N => by
                      have e := (back_pre f m).2
                      rw [← HL6.out, Nat.add_sub_cancel] at e
                      rw [hs1, ← e]; exact convert_bytes _ _ _ (isBytes_take q (by rw [← HL1.out]; omega) HG7.out)
                    have hq1 : ((q + 1 : Nat) : Int) - 1 = (q : Int) := by omega
                    have HS1 := hide hs1
                    clear hs1
                    have hd1 : decide ((L : Int) < (q : Int) + 1) = false := by rw [decide_eq_false_iff_not]; omega
                    have hd2 : decide ((1 : Int) < (q : Int) + 1) = true := by rw [decide_eq_true_iff]; omega
                    go_wp2_with fail
                    go_quiet ((go_at_call 10; exact Calls.quiet_of_same (num_any _ _)))
                    go_wp2_with fail
                    go_roundw
                    case rel => exact ⟨all + (m + 1), k + 1, by simp, by simp, by have := Hsum.out; omega, by omega, below_drewN (HI.out.2.2.trans (HB7.out.mono HI.out.2.2.size)) _⟩
                    case measure => simp [intOf]; omega
                  · obtain rfl : L6 = 0 := by
                      have e := HL6.out
                      cases m with
                      | zero => rw [e]; simp [tbn]
                      | succ m =>
                        obtain ⟨r, hr⟩ := tbn_prefix f 1 (m + 1) (by omega)
                        rw [hr, tbn_one, packed_length, List.length_append, bitsOf_length] at e
                        omega
                    clear hl1 hq
                    have hd1 : decide ((L : Int) < 0) = false := by rw [decide_eq_false_iff_not]; omega
                    go_wp2_with fail
                    go_quiet ((go_at_call 10; exact Calls.quiet_of_same (num_any _ _)))
                    go_wp2_with fail
                    go_roundw
                    case rel => exact ⟨all + (m + 1), k + 1, by simp, by simp, by have := Hsum.out; omega, by omega, below_drewN (HI.out.2.2.trans (HB7.out.mono HI.out.2.2.size)) _⟩
                    case measure => simp [intOf]; omega
            · have HR := hide hr
              clear hr
              go_wp2_with fail
              refine (pack_bad p n cap f wr HT.out hn4 HR.out).mono ?_
              rintro e w1 ⟨rfl, m1, hw1⟩
              have HB1 : Hid (Below wr.heap.size wr w1) := by rw [hw1]; exact below_drewN (Below.refl _ _) m1
              have HT1 : Hid (TRow w1 p n f) := HT.out.below HB1.out
              clear hw1
              go_wp2_with fail
              refine (rising_any p n cap f w1 HT1.out (by omega)).mono ?_
              rintro e w2 ⟨v, rfl, hv, m2, hw2⟩
              obtain rfl : v = false := by cases v with
                | false => rfl
                | true => exact absurd (hv.1 rfl) HR.out
              have HB2 : Hid (Below wr.heap.size wr w2) := by rw [hw2]; exact below_drewN HB1.out m2
              clear hw2 hv
              go_wp2_with fail
              refine (num_any _ _).mono ?_
              rintro e w3 ⟨rfl, rfl⟩
              go_wp2_with fail
              go_roundw
              case rel => exact ⟨all + n, k + 1, rfl, by simp, by have := Hsum.out; omega, by omega, HI.out.2.2.trans (HB2.out.mono HI.out.2.2.size)⟩
              case measure => simp [intOf]; omega
      · go_wp2_with fail
        refine (works_any wr).mono ?_
        rintro e w' ⟨rfl, hB⟩
        go_wp2_with fail
        go_ret
        exact ⟨rfl, HBw.out.trans (hB.mono HBw.out.size)⟩
    · go_wp2_with fail
      refine (works_any wr).mono ?_
      rintro e w' ⟨rfl, hB⟩
      go_wp2_with fail
      go_ret
      exact ⟨rfl, HBw.out.trans (hB.mono HBw.out.size)⟩

end Go.Proofs.Ythdolmhbmbgdpaa

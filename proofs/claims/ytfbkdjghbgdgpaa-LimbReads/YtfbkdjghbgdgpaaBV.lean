/- LimbReads' walk. -/
import Derived.Test.YtfbkdjghbgdgpaaBQ
import Derived.Test.YtfbkdjghbgdgpaaBR
import Derived.Test.YtfbkdjghbgdgpaaBS
import Derived.Test.YtfbkdjghbgdgpaaBU
namespace Go.Proofs.Ytfbkdjghbgdgpaa
open Go.RowKit
open M
set_option linter.unusedVariables false
set_option linter.unusedSimpArgs false

/-- What OfBytes tells: the error, the number. -/
def fbC (L N : Nat) : Int := if 0 < L ∧ db N (L - 1) = 0 then 26 else if 32768 < L then 21 else 0
def fbN (L N : Nat) : Nat := if 0 < L ∧ db N (L - 1) = 0 then 0 else if 32768 < L then 0 else N

theorem OfBytes_all (v : Value) (L N : Nat) (w : World) (h : RowB w v L N) (hL : L ≤ 1000000) :
    Calls Try.prog 8 #[v] w fun e w' => ∃ u, e = .returned (.tuple #[u, .int .i64 (fbC L N)]) ∧ ∃ n, Own w' w.heap.size u n (fbN L N) ∧ Nrm n (fbN L N) ∧ n ≤ 8193 ∧ Below w.heap.size w w' := by
  unfold fbC fbN
  by_cases h0 : 0 < L ∧ db N (L - 1) = 0
  · rw [if_pos h0, if_pos h0]
    exact (OfBytes_zero v L N w h h0.1 h0.2).mono fun e w' ⟨he, hw⟩ => ⟨_, he, 0, Own.nil _ _, nrm_zero, by omega, by rw [hw]; exact Below.refl _ _⟩
  · rw [if_neg h0, if_neg h0]
    by_cases h1 : 32768 < L
    · rw [if_pos h1, if_pos h1]
      exact (OfBytes_over v L N w h h1 hL (fun e => h0 ⟨by omega, e⟩)).mono fun e w' ⟨he, hw⟩ => ⟨_, he, 0, Own.nil _ _, nrm_zero, by omega, by rw [hw]; exact Below.refl _ _⟩
    · rw [if_neg h1, if_neg h1]
      exact (OfBytes_own v L N w h (by omega) (fun hl e => h0 ⟨hl, e⟩)).mono fun e w' ⟨u, he, ⟨n, ho, hn, hf⟩, hb⟩ => ⟨u, he, n, ho, hn, by have := hn.fits.2 hf; omega, hb⟩

theorem rOfBytes_all (v : Value) (L N : Nat) (w : World) (h : RowB w v L N) (hL : L ≤ 1000000) :
    Calls Try.prog 9 #[v] w fun e w' => ∃ u, e = .returned (.tuple #[u, .int .i64 (fbC L N)]) ∧ ∃ n, Own w' w.heap.size u n (fbN L N) ∧ Nrm n (fbN L N) ∧ n ≤ 8193 ∧ Below w.heap.size w w' := by
  unfold fbC fbN
  by_cases h0 : 0 < L ∧ db N (L - 1) = 0
  · rw [if_pos h0, if_pos h0]
    exact (rOfBytes_zero v L N w h h0.1 h0.2).mono fun e w' ⟨he, hw⟩ => ⟨_, he, 0, Own.nil _ _, nrm_zero, by omega, by rw [hw]; exact Below.refl _ _⟩
  · rw [if_neg h0, if_neg h0]
    by_cases h1 : 32768 < L
    · rw [if_pos h1, if_pos h1]
      exact (rOfBytes_over v L N w h h1 hL (fun e => h0 ⟨by omega, e⟩)).mono fun e w' ⟨he, hw⟩ => ⟨_, he, 0, Own.nil _ _, nrm_zero, by omega, by rw [hw]; exact Below.refl _ _⟩
    · rw [if_neg h1, if_neg h1]
      exact (rOfBytes_own v L N w h (by omega) (fun hl e => h0 ⟨hl, e⟩)).mono fun e w' ⟨u, he, ⟨n, ho, hn, hf⟩, hb⟩ => ⟨u, he, n, ho, hn, hf, hb⟩

/-- What OfText tells. -/
def FT (s : ByteArray) (c : Int) (M : Nat) : Prop :=
  (¬ IsDec s ∧ c = 25 ∧ M = 0) ∨ (IsDec s ∧ ¬ Fits (dv (sd s) s.size) ∧ c = 21 ∧ M = 0) ∨ (IsDec s ∧ Fits (dv (sd s) s.size) ∧ c = 0 ∧ M = dv (sd s) s.size)

theorem FT.uniq {s : ByteArray} {c c' : Int} {M M' : Nat} (h : FT s c M) (h' : FT s c' M') : c' = c ∧ M' = M := by
  rcases h with ⟨h1, rfl, rfl⟩ | ⟨h1, h2, rfl, rfl⟩ | ⟨h1, h2, rfl, rfl⟩ <;> rcases h' with ⟨k1, rfl, rfl⟩ | ⟨k1, k2, rfl, rfl⟩ | ⟨k1, k2, rfl, rfl⟩ <;> first | exact ⟨rfl, rfl⟩ | exact absurd k1 h1 | exact absurd h1 k1 | exact absurd k2 h2 | exact absurd h2 k2

theorem OfText_all (s : ByteArray) (w : World) (hs : s.size ≤ 1000000) :
    Calls Try.prog 12 #[.string s] w fun e w' => ∃ u c, e = .returned (.tuple #[u, .int .i64 c]) ∧ ∃ M n, FT s c M ∧ Own w' w.heap.size u n M ∧ Nrm n M ∧ n ≤ 8193 ∧ Below w.heap.size w w' := by
  by_cases h : IsDec s
  · refine (OfText_dec s w (by omega) h).mono ?_
    rintro e w' ⟨u, c, rfl, ht, hb⟩
    rcases ht with ⟨h1, rfl, n, h2, h3⟩ | ⟨h1, rfl, rfl⟩
    · exact ⟨u, 0, rfl, _, n, .inr (.inr ⟨h, h1, rfl, rfl⟩), h2, h3, by have := h3.fits.2 h1; omega, hb⟩
    · exact ⟨_, 21, rfl, 0, 0, .inr (.inl ⟨h, h1, rfl, rfl⟩), Own.nil _ _, nrm_zero, by omega, hb⟩
  · exact (OfText_bad s w (by omega) h).mono fun e w' ⟨he, hw⟩ => ⟨_, 25, he, 0, 0, .inl ⟨h, rfl, rfl⟩, Own.nil _ _, nrm_zero, by omega, by rw [hw]; exact Below.refl _ _⟩

theorem rOfText_all (s : ByteArray) (w : World) (hs : s.size ≤ 100000) :
    Calls Try.prog 13 #[.string s] w fun e w' => ∃ u c, e = .returned (.tuple #[u, .int .i64 c]) ∧ ∃ M n, FT s c M ∧ Own w' w.heap.size u n M ∧ Nrm n M ∧ n ≤ 8193 ∧ Below w.heap.size w w' := by
  refine (rOfText_any s w hs).mono ?_
  rintro e w' ⟨u, c, rfl, hr, hb⟩
  rcases hr with ⟨h1, rfl, rfl⟩ | ⟨h1, h2, rfl, rfl⟩ | ⟨h, h2, ht⟩
  · exact ⟨_, 25, rfl, 0, 0, .inl ⟨h1, rfl, rfl⟩, Own.nil _ _, nrm_zero, by omega, hb⟩
  · exact ⟨_, 21, rfl, 0, 0, .inr (.inl ⟨h1, dec_over h1 h2, rfl, rfl⟩), Own.nil _ _, nrm_zero, by omega, hb⟩
  · rcases ht with ⟨h1, rfl, n, h2, h3⟩ | ⟨h1, rfl, rfl⟩
    · exact ⟨u, 0, rfl, _, n, .inr (.inr ⟨h, h1, rfl, rfl⟩), h2, h3, by have := h3.fits.2 h1; omega, hb⟩
    · exact ⟨_, 21, rfl, 0, 0, .inr (.inl ⟨h, h1, rfl, rfl⟩), Own.nil _ _, nrm_zero, by omega, hb⟩

/-- The bytes in their order. -/
def rb (L N : Nat) : List Nat := (List.range L).map fun i => db N (L - 1 - i)
theorem rb_length (L N : Nat) : (rb L N).length = L := by simp [rb]
theorem rb_get (L N i : Nat) (h : i < L) : (rb L N).getD i 0 = db N (L - 1 - i) := by simp [rb, List.getD, h]

/-- Bytes that came in. -/
def InB (w : World) (v : Value) (L N : Nat) : Prop := RowB w v L N ∧ IsBy w v (rb L N)

theorem IsBy.below {w w' : World} {v : Value} {bs : List Nat} (h : IsBy w v bs) (hb : Below w.heap.size w w') : IsBy w' v bs := by
  rcases h with (h | ⟨g, o, cap, rfl, hc⟩) | h
  · exact .inl (.inl h)
  · exact .inl (.inr ⟨g, o, cap, rfl, fun i hi => by rw [hb.cell (p := ⟨g, o + i, none⟩) (lt_of_cell (hc i hi))]; exact hc i hi⟩)
  · exact .inr h

theorem RowB.below {w w' : World} {v : Value} {L N : Nat} (h : RowB w v L N) (hb : Below w.heap.size w w') : RowB w' v L N := by
  obtain ⟨h1, ad, cap, hv, hc, hcell⟩ := h
  refine ⟨h1, ad, cap, hv, hc, fun hL => ?_⟩
  obtain ⟨g, o, ha, hg, hj⟩ := hcell hL
  exact ⟨g, o, ha, Nat.lt_of_lt_of_le hg hb.size, fun j hj' => by rw [hb.cell (p := ⟨g, o + (L - 1 - j), none⟩) hg]; exact hj j hj'⟩

theorem InB.below {w w' : World} {v : Value} {L N : Nat} (h : InB w v L N) (hb : Below w.heap.size w w') : InB w' v L N := ⟨h.1.below hb, h.2.below hb⟩

theorem Lent.rowB {w : World} {base g cap L N : Nat} (h : Lent w base g cap (rb L N)) (hN : N < 256 ^ L) : RowB w (.slice (some ⟨g, 0, none⟩) L cap) L N := by
  have hl := h.lies
  rw [rb_length] at hl
  refine ⟨hN, _, cap, rfl, by omega, fun hL => ⟨g, 0, rfl, hl.2.2.1, fun j hj => ?_⟩⟩
  rw [Nat.zero_add, h.byte (L - 1 - j) (by rw [rb_length]; omega), rb_get _ _ _ (by omega), show L - 1 - (L - 1 - j) = j by omega]

/-- A slice of Texts that came in. -/
def IsTexts (w : World) (a : Option Addr) (n : Nat) : Prop :=
  n ≤ 9223372036854775807 ∧ (0 < n → ∃ g o, a = some ⟨g, o, none⟩ ∧ g < w.heap.size ∧ ∀ j, j < n → ∃ (v : Value) (s : ByteArray) (L N : Nat),
    w.cell? ⟨g, o + j * 2, none⟩ = some v ∧ w.cell? ⟨g, o + j * 2 + 1, none⟩ = some (.string s) ∧ InB w v L N ∧ L ≤ 9223372036854775807 ∧ s.size ≤ 9223372036854775807)

set_option maxRecDepth 100000 in
set_option maxHeartbeats 8000000 in
theorem reads_any (aL : Option Addr) (nL cL : Nat) (w : World) (h : IsTexts w aL nL) :
    Calls Try.prog 3 #[.slice aL nL cL] w fun e w' => e = .returned (.bool true) ∧ Below w.heap.size w w' := by
  have hn := h.1
  have HI := hide h.2
  clear h
  obtain ⟨M, hM⟩ : ∃ M, M = min nL 20 := ⟨_, rfl⟩
  have HMm : Hid ((∀ i, i ≤ M → ¬ (i < nL ∧ i < 20) → i = M) ∧ ∀ i, i < nL → i < 20 → i < M) := ⟨fun i hi h => by omega, fun i h1 h2 => by omega⟩
  clear hM
  go_enter Try.func3, Try.ntmps3
  go_wp2_with fail
  go_loopw [3] (fun t3 wr => ∃ i : Nat, i ≤ M ∧ t3 = .int .i64 i ∧ Hid (Below w.heap.size w wr)) (fun t3 _ => M - (intOf t3).toNat)
  case atStart => exact ⟨0, by omega, rfl, Below.refl _ _⟩
  case round =>
    obtain ⟨i, hi, rfl, HB⟩ := hrel
    by_cases hlt : i < nL ∧ i < 20
    · obtain ⟨hl1, hl2⟩ := hlt
      have hl1' : (i : Int) < (nL : Int) := by omega
      have hl2' : (i : Int) < 20 := by omega
      have hiM : i < M := HMm.out.2 i hl1 hl2
      obtain ⟨g, o, rfl, hg, hj⟩ := HI.out (by omega)
      obtain ⟨v, s, L, N, hv0, hs0, hin, hL, hS⟩ := hj i hl1
      have HV : Hid (∀ w2, Below w.heap.size w w2 → w2.cell? ⟨g, o + i * 2, none⟩ = some v) := fun w2 h2 => by rw [h2.cell (p := ⟨g, o + i * 2, none⟩) hg]; exact hv0
      have HSt : Hid (∀ w2, Below w.heap.size w w2 → w2.cell? ⟨g, o + i * 2 + 1, none⟩ = some (.string s)) := fun w2 h2 => by rw [h2.cell (p := ⟨g, o + i * 2 + 1, none⟩) hg]; exact hs0
      have HIn : Hid (∀ w2, Below w.heap.size w w2 → InB w2 v L N) := fun w2 h2 => hin.below h2
      have hNL : Hid (N < 256 ^ L) := hin.1.1
      obtain ⟨_, adv, capv, rfl, _, _⟩ := hin.1
      clear hj hv0 hs0 hin
      have hv := HV.out wr HB.out
      have hs := HSt.out wr HB.out
      obtain ⟨Ls, hLs⟩ : ∃ Ls, s.size = Ls := ⟨_, rfl⟩
      have hLsb : Ls ≤ 9223372036854775807 := by omega
      by_cases hB : 40960 < L
      · have hB' : (40960 : Int) < (L : Int) := by omega
        go_wp2_with fail
        go_roundw
        case rel => exact ⟨i + 1, by omega, by go_num, HB.out⟩
        case measure => simp [intOf]; omega
      · have hB' : ¬ (40960 : Int) < (L : Int) := by omega
        by_cases hSb : 90112 < Ls
        · have hSb' : (90112 : Int) < (Ls : Int) := by omega
          go_wp2_with fail
          go_roundw
          case rel => exact ⟨i + 1, by omega, by go_num, HB.out⟩
          case measure => simp [intOf]; omega
        · have hSb' : ¬ (90112 : Int) < (Ls : Int) := by omega
          go_wp2_with fail
          refine (lend_any _ (rb L N) wr (HIn.out wr HB.out).2 (by rw [rb_length]; omega)).mono ?_
          rintro e w1 ⟨gx, cx, rfl, hlent, hb1⟩
          rw [rb_length]
          have H1 : Hid (Lent w1 wr.heap.size gx cx (rb L N) ∧ Below w.heap.size w w1) := ⟨hlent, HB.out.trans (hb1.mono HB.out.size)⟩
          clear hlent hb1 hv hs
          go_wp2_with fail
          refine (OfBytes_all _ L N w1 (H1.out.1.rowB hNL.out) (by omega)).mono ?_
          rintro e w2 ⟨a, rfl, n, ho, hnr, hnb, hb2⟩
          have H2 : Hid (Own w2 w1.heap.size a n (fbN L N) ∧ Nrm n (fbN L N) ∧ Below w1.heap.size w1 w2 ∧ Below w.heap.size w w2) := ⟨ho, hnr, hb2, H1.out.2.trans (hb2.mono H1.out.2.size)⟩
          clear ho hnr hb2
          have hv := HV.out w2 H2.out.2.2.2
          go_wp2_with fail
          refine (rOfBytes_all _ L N w2 (HIn.out w2 H2.out.2.2.2).1 (by omega)).mono ?_
          rintro e w3 ⟨b, rfl, n3, ho, hnr, _, hb3⟩
          have H3 : Hid (Own w3 w1.heap.size a n (fbN L N) ∧ Row w3 b n (fbN L N) ∧ Below w1.heap.size w1 w3 ∧ Below w.heap.size w w3) :=
            ⟨H2.out.1.below hb3, by rw [H2.out.2.1.uniq hnr]; exact ho.row, H2.out.2.2.1.trans (hb3.mono H2.out.2.2.1.size), H2.out.2.2.2.trans (hb3.mono H2.out.2.2.2.size)⟩
          clear ho hnr hb3 H2 hv
          go_wp2_with fail
          refine (same_true a b n (fbN L N) w1.heap.size (fbC L N) w3 H3.out.1 H3.out.2.1 H3.out.2.2.1.size (by omega)).mono ?_
          rintro e w4 ⟨rfl, hb4⟩
          have H4 : Hid (Lent w4 wr.heap.size gx cx (rb L N) ∧ Below w.heap.size w w4) := ⟨H1.out.1.below (H3.out.2.2.1.trans hb4), H1.out.2.trans ((H3.out.2.2.1.trans hb4).mono H1.out.2.size)⟩
          clear hb4 H3 H1
          have hv := HV.out w4 H4.out.2
          go_wp2_with fail
          refine (intact_any wr.heap.size gx cx L _ (rb L N) w4 (rb_length L N).symm (by omega) H4.out.1 (HIn.out w4 H4.out.2).2).mono ?_
          rintro e w5 ⟨rfl, m5, rfl⟩
          have H5 : Hid (Below w.heap.size w (w4.drewN m5)) := below_drewN H4.out.2 m5
          generalize w4.drewN m5 = w5 at *
          clear H4 hv
          have hs := HSt.out w5 H5.out
          go_wp2_with fail
          refine (OfText_all s w5 (by omega)).mono ?_
          rintro e w6 ⟨a2, c2, rfl, V, n2, hft, ho, hnr, hnb2, hb6⟩
          have H6 : Hid (FT s c2 V ∧ Own w6 w5.heap.size a2 n2 V ∧ Nrm n2 V ∧ Below w5.heap.size w5 w6 ∧ Below w.heap.size w w6) := ⟨hft, ho, hnr, hb6, H5.out.trans (hb6.mono H5.out.size)⟩
          clear hft ho hnr hb6 hs
          have hs := HSt.out w6 H6.out.2.2.2.2
          by_cases hmid : Ls < 4000 ∨ 81920 < Ls
          · have hmid2 : Hid (Ls < 4000 ∨ 81920 < Ls) := hmid
            by_cases h4000 : Ls < 4000
            all_goals
              first
              | (have h40' : (Ls : Int) < 4000 := (by omega))
              | (have h40' : ¬ (Ls : Int) < 4000 := (by omega)
                 have h81' : (81920 : Int) < (Ls : Int) := (by omega))
              clear hmid
              go_wp2_with fail
              refine (rOfText_all s w6 (by omega)).mono ?_
              rintro e w7 ⟨b2, c3, rfl, V3, n3, hft, ho, hnr, _, hb7⟩
              obtain ⟨rfl, rfl⟩ := H6.out.1.uniq hft
              have H7 : Hid (Own w7 w5.heap.size a2 n2 V3 ∧ Row w7 b2 n2 V3 ∧ Below w5.heap.size w5 w7 ∧ Below w.heap.size w w7) :=
                ⟨H6.out.2.1.below hb7, by rw [H6.out.2.2.1.uniq hnr]; exact ho.row, H6.out.2.2.2.1.trans (hb7.mono H6.out.2.2.2.1.size), H6.out.2.2.2.2.trans (hb7.mono H6.out.2.2.2.2.size)⟩
              clear hft ho hnr hb7 H6
              go_wp2_with fail
              refine (same_true a2 b2 n2 V3 w5.heap.size c3 w7 H7.out.1 H7.out.2.1 H7.out.2.2.1.size (by omega)).mono ?_
              rintro e w8 ⟨rfl, hb8⟩
              have H8 : Hid (Below w.heap.size w w8) := H5.out.trans ((H7.out.2.2.1.trans hb8).mono H5.out.size)
              clear hb8 H7
              go_wp2_with fail
              go_roundw
              case rel => exact ⟨i + 1, by omega, by go_num, H8.out⟩
              case measure => simp [intOf]; omega
          · have h40' : ¬ (Ls : Int) < 4000 := by omega
            have h81' : ¬ (81920 : Int) < (Ls : Int) := by omega
            go_wp2_with fail
            go_roundw
            case rel => exact ⟨i + 1, by omega, by go_num, H6.out.2.2.2.2⟩
            case measure => simp [intOf]; omega
    · have hend : i = M := HMm.out.1 i hi hlt
      by_cases hin : i < nL
      · have hin1 : (i : Int) < (nL : Int) := by omega
        have hin2 : ¬ (i : Int) < 20 := by omega
        go_wp2_with fail
        refine (wakes_any _).mono ?_
        rintro e wz ⟨rfl, hbz⟩
        have HZ := hide hbz
        clear hbz
        go_wp2_with fail
        go_ret
        exact ⟨rfl, HB.out.trans (HZ.out.mono HB.out.size)⟩
      · have hin1 : ¬ (i : Int) < (nL : Int) := by omega
        go_wp2_with fail
        refine (wakes_any _).mono ?_
        rintro e wz ⟨rfl, hbz⟩
        have HZ := hide hbz
        clear hbz
        go_wp2_with fail
        go_ret
        exact ⟨rfl, HB.out.trans (HZ.out.mono HB.out.size)⟩

end Go.Proofs.Ytfbkdjghbgdgpaa

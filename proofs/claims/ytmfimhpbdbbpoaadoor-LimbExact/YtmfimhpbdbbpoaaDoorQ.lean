/- num, wakes. -/
import Derived.Test.YtmfimhpbdbbpoaaDoorO
import Derived.Laws.BytesArg
/- Text, DivMod, wakes. -/
namespace Go.Proofs.YtmfimhpbdbbpoaaDoor
open Go.RowKit
open M
set_option linter.unusedVariables false
set_option linter.unusedSimpArgs false

/-- The text of these bytes. -/
def strOf (bs : List Nat) : ByteArray := strOfNums (bs.map fun (n : Nat) => (n : Int))

theorem convert_bytes (w : World) (g cap : Nat) (bs : List Nat) (hc : ∀ i, i < bs.length → w.cell? ⟨g, i, none⟩ = some (.int .u8 (bs.getD i 0 : Nat))) :
    (convert 46 9 (.slice (some ⟨g, 0, none⟩) bs.length cap)).run Tryd.prog w = .ok (.string (strOf bs)) w :=
  run_convert_bytes_arg w 46 5 Tryd.underlying46 Tryd.underlying5 g 0 bs.length cap (bs.map fun (n : Nat) => (n : Int)) (by simp) (fun i hi => by rw [Nat.zero_add, hc i hi]; simp [List.getD, hi]) 9 Tryd.underlying9

theorem txt_get (L N i : Nat) (h : i < L) : (txt L N).getD i 0 = 48 + d10 N (L - 1 - i) := by simp [txt, List.getD, h]

/-- So many digits has the number; 0 has one. -/
def Dec0 (L N : Nat) : Prop := N < 10 ^ L ∧ 0 < L ∧ (L = 1 ∨ 10 ^ (L - 1) ≤ N)
theorem dec0_of {L N : Nat} (h : Dec L N) : Dec0 L N := ⟨h.1, h.2.2, .inr h.2.1⟩
theorem dec0_zero : Dec0 1 0 := ⟨by simp, by omega, .inl rfl⟩
theorem Dec0.uniq {L L' N : Nat} (h : Dec0 L N) (h' : Dec0 L' N) : L = L' := by
  obtain ⟨h1, h2, h3⟩ := h
  obtain ⟨g1, g2, g3⟩ := h'
  rcases Nat.lt_trichotomy L L' with hl | hl | hl
  · rcases g3 with g3 | g3
    · omega
    · have := Nat.pow_le_pow_right (n := 10) (by omega) (show L ≤ L' - 1 from by omega); omega
  · exact hl
  · rcases h3 with h3 | h3
    · omega
    · have := Nat.pow_le_pow_right (n := 10) (by omega) (show L' ≤ L - 1 from by omega); omega

set_option maxRecDepth 100000 in
set_option maxHeartbeats 1000000 in
theorem Text_ok {v : Value} {N : Nat} {w : World} (h : Num w v N) :
    Calls Tryd.prog 24 #[v] w fun e w' => ∃ L, e = .returned (.string (strOf (txt L N))) ∧ Dec0 L N ∧ Below w.heap.size w w' := by
  obtain ⟨k, h1, h2, h3⟩ := h
  have H := hide h1
  have HN := hide h2
  have HC := hide (check_ok v k N w h1 h2 h3)
  obtain ⟨_, _, ad, cap, rfl, _, _⟩ := h1
  clear h2
  by_cases hk0 : k = 0
  · have HZ : Hid (N = 0) := HN.out.zero_iff.1 hk0
    subst hk0
    go_enter Tryd.func24, Tryd.ntmps24
    go_wp2_with fail
    refine HC.out.mono ?_
    rintro e w1 ⟨rfl, rfl⟩
    go_wp2_with fail
    go_ret
    rw [HZ.out]
    exact ⟨1, by simp [strOf, txt, d10, strOfNums], dec0_zero, Below.refl _ _⟩
  · have hkz : ((k : Int) == 0) = false := by rw [beq_eq_false_iff_ne]; omega
    have hN0 : 0 < N := by
      rcases Nat.eq_zero_or_pos N with h0 | h0
      · exact absurd (HN.out.zero_iff.2 h0) hk0
      · exact h0
    go_enter Tryd.func24, Tryd.ntmps24
    go_wp2_with fail
    refine HC.out.mono ?_
    rintro e w1 ⟨rfl, rfl⟩
    go_wp2_with fail
    refine (digitsOf_any _ k N _ H.out HN.out h3 hN0).mono ?_
    rintro e w2 ⟨g, L, rfl, hdec, hg, hgl, hcells, hL, hb⟩
    have H2 := hide (And.intro hdec (And.intro hcells hb))
    have hL0 : 0 < L := hdec.2.2
    clear hdec hcells hb
    go_wp2_with fail
    refine (reverse_any g L L (fun j => 48 + d10 N j) w2 hL0 (by omega) H2.out.2.1).mono ?_
    rintro e w3 ⟨rfl, hO, hr⟩
    have hcv := convert_bytes w3 g L (txt L N) (fun i hi => by rw [txt_length] at hi; rw [txt_get L N i hi]; exact hr i hi)
    rw [txt_length] at hcv
    have H3 : Hid (Dec0 L N ∧ Below w1.heap.size w1 w3) := ⟨dec0_of H2.out.1, H2.out.2.2.trans (hO.below hg H2.out.2.2.size)⟩
    have Htx : ∃ tx, tx = strOf (txt L N) := ⟨_, rfl⟩
    obtain ⟨tx, htx⟩ := Htx
    rw [← htx] at hcv
    have HX := hide htx
    clear htx hr hO
    go_wp2_with fail
    go_ret
    exact ⟨L, by rw [← HX.out]; rfl, H3.out⟩

/-- What DivMod tells. -/
def Divided (w : World) (base : Nat) (q r : Value) (A C : Nat) : Prop :=
  ∃ mid n1 n2, base ≤ mid ∧ Own w base q n1 (A / C) ∧ Nrm n1 (A / C) ∧ RowX (· < mid) w q n1 (A / C) ∧ Own w mid r n2 (A % C) ∧ Nrm n2 (A % C)

set_option maxRecDepth 100000 in
set_option maxHeartbeats 400000 in
theorem DivMod_of {v u : Value} {A C k m : Nat} {w : World} (h1 : Row w v k A) (h2 : Nrm k A) (h3 : k ≤ 8192) (g1 : Row w u m C) (g2 : Nrm m C) (g3 : m ≤ 8192) (hC : 0 < C)
    (hd : Calls Tryd.prog 81 #[v, u] w fun e w' => ∃ q r, e = .returned (.tuple #[q, r]) ∧ Parts w' q r A C ∧ Below w.heap.size w w') :
    Calls Tryd.prog 45 #[v, u] w fun e w' => ∃ q r, e = .returned (.tuple #[q, r, .int .i64 0]) ∧ Divided w' w.heap.size q r A C ∧ Below w.heap.size w w' := by
  have HC := hide (checkBoth_ok v u k A m C w h1 g1 h2 g2 h3 g3)
  have HD := hide hd
  have hm0 : ((m : Int) == 0) = false := by
    rw [beq_eq_false_iff_ne]
    intro e
    have := g2.zero_iff.1 (by omega)
    omega
  obtain ⟨_, _, ad', cap', rfl, _, _⟩ := g1
  clear h1 h2 g2 hd
  go_enter Tryd.func45, Tryd.ntmps45
  go_wp2_with fail
  refine HC.out.mono ?_
  rintro e w1 ⟨rfl, rfl⟩
  go_wp2_with fail
  refine HD.out.mono ?_
  rintro e w2 ⟨q, r, rfl, ⟨⟨n1, hq, hq'⟩, n2, hr, hr'⟩, hb2⟩
  have H2 := hide (And.intro (And.intro hq hr) (And.intro (And.intro hq' hr') hb2))
  clear hq hq' hr hr' hb2
  go_wp2_with fail
  refine (fresh_any q n1 (A / C) w2 H2.out.1.1).mono ?_
  rintro e w3 ⟨q3, rfl, ho3, hb3⟩
  have H3 := hide (And.intro ho3 hb3)
  clear ho3 hb3
  go_wp2_with fail
  refine (fresh_any r n2 (A % C) w3 (H2.out.1.2.below H3.out.2)).mono ?_
  rintro e w4 ⟨r4, rfl, ho4, hb4⟩
  have H4 : Hid (Divided w4 w1.heap.size q3 r4 A C ∧ Below w1.heap.size w1 w4) := by
    have hs2 := H2.out.2.2.size
    have hs3 := H3.out.2.size
    exact ⟨⟨w3.heap.size, n1, n2, by omega, (H3.out.1.below hb4).mono hs2, H2.out.2.1.1, RowX.below (Row.old H3.out.1.row) hb4, ho4, H2.out.2.1.2⟩, H2.out.2.2.trans ((H3.out.2.mono hs2).trans (hb4.mono (by omega)))⟩
  clear ho4 hb4
  go_wp2_with fail
  go_ret3
  exact ⟨_, _, rfl, H4.out⟩

end Go.Proofs.YtmfimhpbdbbpoaaDoor

namespace Go.Proofs.YtmfimhpbdbbpoaaDoor
open Go.RowKit
open M
set_option linter.unusedVariables false
set_option linter.unusedSimpArgs false

theorem num_any (e : Int) (w : World) : Calls Tryd.prog 12 #[.int .i64 e] w fun r w' => r = .returned (.int .i64 e) ∧ w' = w := by
  go_enter Tryd.func12, Tryd.ntmps12
  go_wp2
  go_ret
  exact ⟨rfl, rfl⟩

theorem fits_of {N k : Nat} (hk : k ≤ 8192) (h : N < 4294967296 ^ k) : Fits N := ⟨k, hk, h⟩

theorem Told.ok {w : World} {base : Nat} {u : Value} {c : Int} {N : Nat} (h : Told w base u c N) (hf : Fits N) : c = 0 ∧ ∃ n, Own w base u n N ∧ Nrm n N := by
  rcases h with ⟨_, h2, h3⟩ | ⟨h1, _⟩
  · exact ⟨h2, h3⟩
  · exact absurd hf h1

theorem wake_q : strOf (txt 38 34028236692093846342648111928434910822) = ⟨#[51, 52, 48, 50, 56, 50, 51, 54, 54, 57, 50, 48, 57, 51, 56, 52, 54, 51, 52, 50, 54, 52, 56, 49, 49, 49, 57, 50, 56, 52, 51, 52, 57, 49, 48, 56, 50, 50]⟩ := by decide +kernel
theorem wake_r : strOf (txt 1 5) = ⟨#[53]⟩ := by decide +kernel

set_option maxRecDepth 100000 in
set_option maxHeartbeats 1000000 in
theorem wakes_any (w : World) : Calls Tryd.prog 15 #[] w fun e w' => e = .returned (.bool true) ∧ Below w.heap.size w w' := by
  go_enter Tryd.func15, Tryd.ntmps15
  go_wp2_with fail
  refine (From_any 18446744073709551615 w (by omega)).mono ?_
  rintro e w1 ⟨r1, rfl, k1, ho1, hn1, hk1, hb1⟩
  have H1 : Hid (Num w1 r1 18446744073709551615 ∧ Below w.heap.size w w1) := ⟨⟨k1, ho1.row, hn1, by omega⟩, hb1⟩
  clear ho1 hn1 hk1 hb1
  go_wp2_with fail
  refine (From_any 18446744073709551615 w1 (by omega)).mono ?_
  rintro e w2 ⟨r2, rfl, k2, ho2, hn2, hk2, hb2⟩
  have H2 : Hid (Num w2 r1 18446744073709551615 ∧ Num w2 r2 18446744073709551615 ∧ Below w.heap.size w w2) := ⟨H1.out.1.below hb2, ⟨k2, ho2.row, hn2, by omega⟩, H1.out.2.trans (hb2.mono H1.out.2.size)⟩
  clear ho2 hn2 hk2 hb2 H1
  go_wp2_with fail
  refine (Mul_ok H2.out.1 H2.out.2.1).mono ?_
  rintro e w3 ⟨r3, c3, rfl, ht3, hb3⟩
  obtain ⟨rfl, n3, ho3, hn3⟩ := ht3.ok (fits_of (k := 4) (by omega) (by decide))
  have H3 : Hid (Num w3 r3 340282366920938463426481119284349108225 ∧ Below w.heap.size w w3) := ⟨ho3.num hn3 (fits_of (k := 4) (by omega) (by decide)), H2.out.2.2.trans (hb3.mono H2.out.2.2.size)⟩
  clear ho3 hn3 hb3 ht3 H2
  go_wp2_with fail
  refine (From_any 10 w3 (by omega)).mono ?_
  rintro e w4 ⟨r4, rfl, k4, ho4, hn4, hk4, hb4⟩
  obtain rfl : k4 = 1 := hn4.uniq ⟨by decide, .inr (by decide)⟩
  have H4 : Hid (Num w4 r3 340282366920938463426481119284349108225 ∧ Row w4 r4 1 10 ∧ Nrm 1 10 ∧ Below w.heap.size w w4) := ⟨H3.out.1.below hb4, ho4.row, hn4, H3.out.2.trans (hb4.mono H3.out.2.size)⟩
  clear ho4 hn4 hk4 hb4 H3
  obtain ⟨k, g1, g2, g3⟩ := H4.out.1
  have HD := hide (DivMod_of g1 g2 g3 H4.out.2.1 H4.out.2.2.1 (by omega) (by omega) (divide_one r3 r4 k _ 10 w4 g1 H4.out.2.1 g2 H4.out.2.2.1 (by decide)))
  clear g1 g2 g3
  go_wp2_with fail
  refine HD.out.mono ?_
  rintro e w5 ⟨q5, r5, rfl, ⟨mid, n1, n2, hmid, hq, hqn, _, hr, hrn⟩, hb5⟩
  have H5 : Hid (Num w5 q5 34028236692093846342648111928434910822 ∧ Num w5 r5 5 ∧ Below w.heap.size w w5) :=
    ⟨hq.num hqn (fits_of (k := 4) (by omega) (by decide)), hr.num hrn (fits_of (k := 1) (by omega) (by decide)), H4.out.2.2.2.trans (hb5.mono H4.out.2.2.2.size)⟩
  clear hq hqn hr hrn hmid hb5 H4 HD
  go_wp2_with fail
  refine (num_any 0 w5).mono ?_
  rintro e w6 ⟨rfl, rfl⟩
  go_wp2_with fail
  refine (num_any 0 w6).mono ?_
  rintro e w7 ⟨rfl, rfl⟩
  go_wp2_with fail
  refine (Text_ok H5.out.1).mono ?_
  rintro e w8 ⟨L, rfl, hd, hb8⟩
  obtain rfl : L = 38 := hd.uniq ⟨by decide, by omega, .inr (by decide)⟩
  have H8 : Hid (Num w8 r5 5 ∧ Below w.heap.size w w8) := ⟨H5.out.2.1.below hb8, H5.out.2.2.trans (hb8.mono H5.out.2.2.size)⟩
  rw [wake_q]
  clear hd hb8 H5
  go_wp2_with fail
  refine (Text_ok H8.out.1).mono ?_
  rintro e w9 ⟨L, rfl, hd, hb9⟩
  obtain rfl : L = 1 := hd.uniq ⟨by decide, by omega, .inl rfl⟩
  have H9 : Hid (Below w.heap.size w w9) := H8.out.2.trans (hb9.mono H8.out.2.size)
  rw [wake_r]
  clear hd hb9 H8
  go_wp2_with fail
  go_ret
  exact ⟨rfl, H9.out⟩

end Go.Proofs.YtmfimhpbdbbpoaaDoor

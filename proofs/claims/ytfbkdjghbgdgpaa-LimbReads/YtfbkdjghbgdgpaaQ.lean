/- num, wakes. -/
import Derived.Test.YtfbkdjghbgdgpaaP
namespace Go.Proofs.Ytfbkdjghbgdgpaa
open Go.RowKit
open M
set_option linter.unusedVariables false
set_option linter.unusedSimpArgs false

theorem num_any (e : Int) (w : World) : Calls Try.prog 23 #[.int .i64 e] w fun r w' => r = .returned (.int .i64 e) ∧ w' = w := by
  go_enter Try.func23, Try.ntmps23
  go_wp2
  go_ret
  exact ⟨rfl, rfl⟩

theorem fits_of {N k : Nat} (hk : k ≤ 8192) (h : N < 4294967296 ^ k) : Fits N := ⟨k, hk, h⟩

theorem Told.ok {w : World} {base : Nat} {u : Value} {c : Int} {N : Nat} (h : Told w base u c N) (hf : Fits N) : c = 0 ∧ ∃ n, Own w base u n N ∧ Nrm n N := by
  rcases h with ⟨_, h2, h3⟩ | ⟨h1, _⟩
  · exact ⟨h2, h3⟩
  · exact absurd hf h1

theorem wake_q : strOf (txt 38 34028236692093846342648111928434910822) = ⟨#[51, 52, 48, 50, 56, 50, 51, 54, 54, 57, 50, 48, 57, 51, 56, 52, 54, 51, 52, 50, 54, 52, 56, 49, 49, 49, 57, 50, 56, 52, 51, 52, 57, 49, 48, 56, 50, 50]⟩ := by decide +kernel
theorem wake_r : strOf (txt 1 5) = ⟨#[53]⟩ := by decide +kernel

set_option maxRecDepth 100000 in
set_option maxHeartbeats 1000000 in
theorem wakes_any (w : World) : Calls Try.prog 14 #[] w fun e w' => e = .returned (.bool true) ∧ Below w.heap.size w w' := by
  go_enter Try.func14, Try.ntmps14
  go_wp2_with fail
  refine (From_any 18446744073709551615 w (by omega)).mono ?_
  rintro e w1 ⟨r1, rfl, k1, ho1, hn1, hk1, hb1⟩
  have H1 : Hid (Num w1 r1 18446744073709551615 ∧ Below w.heap.size w w1) := ⟨⟨k1, ho1.row, hn1, by omega⟩, hb1⟩
  clear ho1 hn1 hk1 hb1
  go_wp2_with fail
  refine (From_any 18446744073709551615 w1 (by omega)).mono ?_
  rintro e w2 ⟨r2, rfl, k2, ho2, hn2, hk2, hb2⟩
  have H2 : Hid (Num w2 r1 18446744073709551615 ∧ Num w2 r2 18446744073709551615 ∧ Below w.heap.size w w2) := ⟨H1.out.1.below hb2, ⟨k2, ho2.row, hn2, by omega⟩, H1.out.2.trans (hb2.mono H1.out.2.size)⟩
  clear ho2 hn2 hk2 hb2 H1
  go_wp2_with fail
  refine (Mul_ok H2.out.1 H2.out.2.1).mono ?_
  rintro e w3 ⟨r3, c3, rfl, ht3, hb3⟩
  obtain ⟨rfl, n3, ho3, hn3⟩ := ht3.ok (fits_of (k := 4) (by omega) (by decide))
  have H3 : Hid (Num w3 r3 340282366920938463426481119284349108225 ∧ Below w.heap.size w w3) := ⟨ho3.num hn3 (fits_of (k := 4) (by omega) (by decide)), H2.out.2.2.trans (hb3.mono H2.out.2.2.size)⟩
  clear ho3 hn3 hb3 ht3 H2
  go_wp2_with fail
  refine (From_any 10 w3 (by omega)).mono ?_
  rintro e w4 ⟨r4, rfl, k4, ho4, hn4, hk4, hb4⟩
  obtain rfl : k4 = 1 := hn4.uniq ⟨by decide, .inr (by decide)⟩
  have H4 : Hid (Num w4 r3 340282366920938463426481119284349108225 ∧ Row w4 r4 1 10 ∧ Nrm 1 10 ∧ Below w.heap.size w w4) := ⟨H3.out.1.below hb4, ho4.row, hn4, H3.out.2.trans (hb4.mono H3.out.2.size)⟩
  clear ho4 hn4 hk4 hb4 H3
  obtain ⟨k, g1, g2, g3⟩ := H4.out.1
  have HD := hide (DivMod_of g1 g2 g3 H4.out.2.1 H4.out.2.2.1 (by omega) (by omega) (divide_one r3 r4 k _ 10 w4 g1 H4.out.2.1 g2 H4.out.2.2.1 (by decide)))
  clear g1 g2 g3
  go_wp2_with fail
  refine HD.out.mono ?_
  rintro e w5 ⟨q5, r5, rfl, ⟨mid, n1, n2, hmid, hq, hqn, _, hr, hrn⟩, hb5⟩
  have H5 : Hid (Num w5 q5 34028236692093846342648111928434910822 ∧ Num w5 r5 5 ∧ Below w.heap.size w w5) :=
    ⟨hq.num hqn (fits_of (k := 4) (by omega) (by decide)), hr.num hrn (fits_of (k := 1) (by omega) (by decide)), H4.out.2.2.2.trans (hb5.mono H4.out.2.2.2.size)⟩
  clear hq hqn hr hrn hmid hb5 H4 HD
  go_wp2_with fail
  refine (num_any 0 w5).mono ?_
  rintro e w6 ⟨rfl, rfl⟩
  go_wp2_with fail
  refine (num_any 0 w6).mono ?_
  rintro e w7 ⟨rfl, rfl⟩
  go_wp2_with fail
  refine (Text_ok H5.out.1).mono ?_
  rintro e w8 ⟨L, rfl, hd, hb8⟩
  obtain rfl : L = 38 := hd.uniq ⟨by decide, by omega, .inr (by decide)⟩
  have H8 : Hid (Num w8 r5 5 ∧ Below w.heap.size w w8) := ⟨H5.out.2.1.below hb8, H5.out.2.2.trans (hb8.mono H5.out.2.2.size)⟩
  rw [wake_q]
  clear hd hb8 H5
  go_wp2_with fail
  refine (Text_ok H8.out.1).mono ?_
  rintro e w9 ⟨L, rfl, hd, hb9⟩
  obtain rfl : L = 1 := hd.uniq ⟨by decide, by omega, .inl rfl⟩
  have H9 : Hid (Below w.heap.size w w9) := H8.out.2.trans (hb9.mono H8.out.2.size)
  rw [wake_r]
  clear hd hb9 H8
  go_wp2_with fail
  go_ret
  exact ⟨rfl, H9.out⟩

end Go.Proofs.Ytfbkdjghbgdgpaa

/- Add, Sub, Mul, Cmp. -/
import Derived.Test.YtanijhgmgldiiaaH
namespace Go.Proofs.Ytanijhgmgldiiaa
open Go.RowKit
open M
set_option linter.unusedVariables false
set_option linter.unusedSimpArgs false

theorem compare_below {S S' : Nat → Prop} (v u : Value) (k A m C : Nat) (w : World) (h : RowX S w v k A) (h' : RowX S' w u m C) (hn : Nrm k A) (hn' : Nrm m C) :
    Calls Try.prog 28 #[v, u] w fun e w' => e = .returned (.int .i64 (cmpI A C)) ∧ Below w.heap.size w w' :=
  (compare_any v u k A m C w h h' hn hn').mono fun e w' ⟨h1, n, h2⟩ => ⟨h1, by rw [h2]; exact below_drewN (Below.refl _ _) n⟩

set_option maxRecDepth 100000 in
set_option maxHeartbeats 400000 in
theorem Add_ok {v u : Value} {A C : Nat} {w : World} (h : Num w v A) (h' : Num w u C) :
    Calls Try.prog 48 #[v, u] w fun e w' => ∃ r c, e = .returned (.tuple #[r, .int .i64 c]) ∧ Told w' w.heap.size r c (A + C) ∧ Below w.heap.size w w' := by
  obtain ⟨k, h1, h2, h3⟩ := h
  obtain ⟨m, g1, g2, g3⟩ := h'
  have H := hide (And.intro h1 g1)
  have HN := hide (And.intro h2 g2)
  clear h1 h2 g1 g2
  go_enter Try.func48, Try.ntmps48
  go_wp2_with fail
  refine (checkBoth_ok v u k A m C w H.out.1 H.out.2 HN.out.1 HN.out.2 h3 g3).mono ?_
  rintro e w1 ⟨rfl, rfl⟩
  go_wp2_with fail
  refine (sum_any v u k A m C _ H.out.1 H.out.2 (by omega) (by omega)).mono ?_
  rintro e w2 ⟨r, rfl, n, hrow, hnrm, hnk, hb⟩
  have HR := hide (And.intro hrow hb)
  clear hrow hb hnrm
  go_wp2_with fail
  refine (tell_any r n (A + C) w2 HR.out.1).mono ?_
  rintro e w3 ⟨r3, c3, rfl, ht, hb3⟩
  have HT := hide (And.intro ht hb3)
  clear ht hb3
  go_wp2_with fail
  go_ret2
  exact ⟨r3, c3, rfl, HT.out.1.mono HR.out.2.size, HR.out.2.trans (HT.out.2.mono HR.out.2.size)⟩

set_option maxRecDepth 100000 in
set_option maxHeartbeats 400000 in
theorem Sub_ok {v u : Value} {A C : Nat} {w : World} (h : Num w v A) (h' : Num w u C) (hle : C ≤ A) :
    Calls Try.prog 47 #[v, u] w fun e w' => ∃ r c, e = .returned (.tuple #[r, .int .i64 c]) ∧ Told w' w.heap.size r c (A - C) ∧ Below w.heap.size w w' := by
  obtain ⟨k, h1, h2, h3⟩ := h
  obtain ⟨m, g1, g2, g3⟩ := h'
  have H := hide (And.intro h1 g1)
  have HN := hide (And.intro h2 g2)
  have hcmp : ¬ cmpI A C < 0 := by rw [cmpI_neg]; omega
  clear h1 h2 g1 g2
  go_enter Try.func47, Try.ntmps47
  go_wp2_with fail
  refine (checkBoth_ok v u k A m C w H.out.1 H.out.2 HN.out.1 HN.out.2 h3 g3).mono ?_
  rintro e w1 ⟨rfl, rfl⟩
  go_wp2_with fail
  refine (compare_below v u k A m C _ H.out.1 H.out.2 HN.out.1 HN.out.2).mono ?_
  rintro e w2 ⟨rfl, hb2⟩
  have HB2 := hide hb2
  clear hb2
  generalize cmpI A C = cc at *
  go_wp2_with fail
  refine (difference_any v u k A m C _ (H.out.1.below HB2.out) (H.out.2.below HB2.out) hle).mono ?_
  rintro e w3 ⟨r, rfl, n, hrow, hnrm, hnk, hb⟩
  have HR := hide (And.intro hrow (HB2.out.trans (hb.mono HB2.out.size)))
  clear hrow hb hnrm
  go_wp2_with fail
  refine (tell_any r n (A - C) w3 HR.out.1).mono ?_
  rintro e w4 ⟨r4, c4, rfl, ht, hb4⟩
  have HT := hide (And.intro ht hb4)
  clear ht hb4
  go_wp2_with fail
  go_ret2
  exact ⟨r4, c4, rfl, HT.out.1.mono HR.out.2.size, HR.out.2.trans (HT.out.2.mono HR.out.2.size)⟩

set_option maxRecDepth 100000 in
set_option maxHeartbeats 400000 in
theorem Sub_less {v u : Value} {A C : Nat} {w : World} (h : Num w v A) (h' : Num w u C) (hlt : A < C) :
    Calls Try.prog 47 #[v, u] w fun e w' => e = .returned (.tuple #[.slice none 0 0, .int .i64 22]) ∧ Below w.heap.size w w' := by
  obtain ⟨k, h1, h2, h3⟩ := h
  obtain ⟨m, g1, g2, g3⟩ := h'
  have H := hide (And.intro h1 g1)
  have HN := hide (And.intro h2 g2)
  have hcmp : cmpI A C < 0 := cmpI_neg.2 hlt
  clear h1 h2 g1 g2
  go_enter Try.func47, Try.ntmps47
  go_wp2_with fail
  refine (checkBoth_ok v u k A m C w H.out.1 H.out.2 HN.out.1 HN.out.2 h3 g3).mono ?_
  rintro e w1 ⟨rfl, rfl⟩
  go_wp2_with fail
  refine (compare_below v u k A m C _ H.out.1 H.out.2 HN.out.1 HN.out.2).mono ?_
  rintro e w2 ⟨rfl, hb2⟩
  have HB2 := hide hb2
  clear hb2
  generalize cmpI A C = cc at *
  go_wp2_with fail
  go_ret2
  exact ⟨rfl, HB2.out⟩

/-- What is too long for sure. -/
theorem prod_long {k m A C : Nat} (h : Nrm k A) (h' : Nrm m C) (hl : 8192 < k + m - 1) (hm : m ≤ 8192) (hk : k ≤ 8192) : ¬ Fits (A * C) := by
  rintro ⟨t, ht, hlt⟩
  have h1 : 4294967296 ^ (k - 1) ≤ A := by
    rcases h.2 with h0 | h0
    · omega
    · exact h0
  have h2 : 4294967296 ^ (m - 1) ≤ C := by
    rcases h'.2 with h0 | h0
    · omega
    · exact h0
  have h3 : 4294967296 ^ (k - 1) * 4294967296 ^ (m - 1) ≤ A * C := Nat.mul_le_mul h1 h2
  rw [← Nat.pow_add] at h3
  have h4 := Nat.pow_le_pow_right (n := 4294967296) (by omega) (show t ≤ k - 1 + (m - 1) from by omega)
  omega


set_option maxHeartbeats 400000 in
theorem Cmp_ok {v u : Value} {A C : Nat} {w : World} (h : Num w v A) (h' : Num w u C) :
    Calls Try.prog 33 #[v, u] w fun e w' => e = .returned (.int .i64 (cmpI A C)) ∧ ∃ n, w' = w.drewN n := by
  obtain ⟨k, h1, h2, h3⟩ := h
  obtain ⟨m, g1, g2, g3⟩ := h'
  have H := hide (And.intro h1 g1)
  have HN := hide (And.intro h2 g2)
  clear h1 h2 g1 g2
  go_enter Try.func33, Try.ntmps33
  go_wp2_with fail
  refine (checkBoth_ok v u k A m C w H.out.1 H.out.2 HN.out.1 HN.out.2 h3 g3).mono ?_
  rintro e w1 ⟨rfl, rfl⟩
  go_wp2_with fail
  refine (compare_any v u k A m C _ H.out.1 H.out.2 HN.out.1 HN.out.2).mono ?_
  rintro e w2 ⟨rfl, n, rfl⟩
  go_wp2_with fail
  go_ret
  exact ⟨rfl, n, rfl⟩

end Go.Proofs.Ytanijhgmgldiiaa

/- What the program and the document answer, side by side. -/
import Derived.Test.YtmfimhpbdbbpoaaDoorCR
import Derived.Test.YtmfimhpbdbbpoaaDoorAF
import Derived.Test.YtmfimhpbdbbpoaaDoorCC
import Derived.Test.YtmfimhpbdbbpoaaDoorCE
import Derived.Test.YtmfimhpbdbbpoaaDoorAB
import Derived.Test.YtmfimhpbdbbpoaaDoorAO
import Derived.Test.YtmfimhpbdbbpoaaDoorBX
namespace Go.Proofs.YtmfimhpbdbbpoaaDoor
open Go.RowKit
open M
set_option linter.unusedVariables false
set_option linter.unusedSimpArgs false

/-- A number of one's own, and a code. -/
def GivesN (fn : Nat) (c : Int) (n R : Nat) (args : Array Value) (w : World) : Prop :=
  Calls Tryd.prog fn args w fun e w' => ∃ r, e = .returned (.tuple #[r, .int .i64 c]) ∧ Own w' w.heap.size r n R ∧ Below w.heap.size w w'
def GivesR (fn : Nat) (c : Int) (n R : Nat) (args : Array Value) (w : World) : Prop :=
  Calls Tryd.prog fn args w fun e w' => ∃ r, e = .returned (.tuple #[r, .int .i64 c]) ∧ Row w' r n R ∧ Below w.heap.size w w'
/-- A number, a truth, a code. -/
def GivesNB (fn : Nat) (b : Bool) (c : Int) (n R : Nat) (args : Array Value) (w : World) : Prop :=
  Calls Tryd.prog fn args w fun e w' => ∃ r, e = .returned (.tuple #[r, .bool b, .int .i64 c]) ∧ Own w' w.heap.size r n R ∧ Below w.heap.size w w'
def GivesRB (fn : Nat) (b : Bool) (c : Int) (n R : Nat) (args : Array Value) (w : World) : Prop :=
  Calls Tryd.prog fn args w fun e w' => ∃ r, e = .returned (.tuple #[r, .bool b, .int .i64 c]) ∧ Row w' r n R ∧ Below w.heap.size w w'
/-- A value. -/
def GivesV (fn : Nat) (x : Value) (args : Array Value) (w : World) : Prop :=
  Calls Tryd.prog fn args w fun e w' => e = .returned x ∧ Below w.heap.size w w'

theorem GivesN.row {fn : Nat} {c : Int} {n R : Nat} {args : Array Value} {w : World} (h : GivesN fn c n R args w) : GivesR fn c n R args w :=
  Calls.mono h fun e w' ⟨r, h1, h2, h3⟩ => ⟨r, h1, h2.row, h3⟩

theorem told_to (N : Nat) : ∃ c n R, n ≤ 8192 ∧ ∀ (w : World) (base : Nat) (u : Value) (c' : Int), Told w base u c' N → c' = c ∧ Own w base u n R := by
  obtain ⟨n, hn⟩ := nrm_exists N
  by_cases h8 : n ≤ 8192
  · refine ⟨0, n, N, h8, fun w base u c' h => ?_⟩
    rcases h with ⟨_, rfl, m, h2, h3⟩ | ⟨h1, _⟩
    · obtain rfl : m = n := Nat.le_antisymm (h3.le hn.1) (hn.le h3.1)
      exact ⟨rfl, h2⟩
    · exact absurd (hn.fits.1 h8) h1
  · refine ⟨21, 0, 0, by omega, fun w base u c' h => ?_⟩
    rcases h with ⟨h1, _⟩ | ⟨_, rfl, rfl⟩
    · exact absurd (hn.fits.2 h1) h8
    · exact ⟨rfl, Own.nil _ _⟩

theorem gives_told {fn : Nat} {N : Nat} {args : Array Value} {w : World} {c : Int} {n R : Nat} (ht : ∀ (w : World) (base : Nat) (u : Value) (c' : Int), Told w base u c' N → c' = c ∧ Own w base u n R)
    (h : Calls Tryd.prog fn args w fun e w' => ∃ r c', e = .returned (.tuple #[r, .int .i64 c']) ∧ Told w' w.heap.size r c' N ∧ Below w.heap.size w w') : GivesN fn c n R args w :=
  Calls.mono h fun e w' ⟨r, c', h1, h2, h3⟩ => by
    obtain ⟨rfl, ho⟩ := ht _ _ _ _ h2
    exact ⟨r, h1, ho, h3⟩

theorem gives_bad {fn : Nat} {args : Array Value} {w : World} {c : Int} (h : Calls Tryd.prog fn args w fun e w' => e = .returned (.tuple #[.slice none 0 0, .int .i64 c]) ∧ w' = w) : GivesN fn c 0 0 args w :=
  Calls.mono h fun e w' ⟨h1, h2⟩ => ⟨_, h1, Own.nil _ _, by rw [h2]; exact Below.refl _ _⟩

theorem gives_badB {fn : Nat} {args : Array Value} {w : World} {c : Int} (h : Calls Tryd.prog fn args w fun e w' => e = .returned (.tuple #[.slice none 0 0, .int .i64 c]) ∧ Below w.heap.size w w') : GivesN fn c 0 0 args w :=
  Calls.mono h fun e w' ⟨h1, h2⟩ => ⟨_, h1, Own.nil _ _, h2⟩

theorem gives_badN {fn : Nat} {args : Array Value} {w : World} {c : Int} (h : Calls Tryd.prog fn args w fun e w' => e = .returned (.tuple #[.slice none 0 0, .bool false, .int .i64 c]) ∧ w' = w) : GivesNB fn false c 0 0 args w :=
  Calls.mono h fun e w' ⟨h1, h2⟩ => ⟨_, h1, Own.nil _ _, by rw [h2]; exact Below.refl _ _⟩

theorem gives_val {fn : Nat} {x : Value} {args : Array Value} {w : World} (h : Calls Tryd.prog fn args w fun e w' => e = .returned x ∧ w' = w) : GivesV fn x args w :=
  Calls.mono h fun e w' ⟨h1, h2⟩ => ⟨h1, by rw [h2]; exact Below.refl _ _⟩

theorem add_spec {k A m C : Nat} (hA : A < 4294967296 ^ k) (hC : C < 4294967296 ^ m) : ∃ c n R, n ≤ 8192 ∧ ∀ (w : World) (v u : Value), Row w v k A → Row w u m C → GivesN 27 c n R #[v, u] w ∧ GivesN 28 c n R #[v, u] w := by
  by_cases hc : chk2 k A m C = 0
  · obtain ⟨⟨h1, h2⟩, h3, h4⟩ := chk2_ok hA hC hc
    obtain ⟨c, n, R, hn, ht⟩ := told_to (A + C)
    exact ⟨c, n, R, hn, fun w v u hv hu => ⟨gives_told ht (Add_ok ⟨k, hv, h1, h2⟩ ⟨m, hu, h3, h4⟩), gives_told ht (rAdd_ok v u k A m C w hv hu h1 h2 h3 h4)⟩⟩
  · exact ⟨_, 0, 0, by omega, fun w v u hv hu => ⟨gives_bad (Add_bad v u k A m C w hv hu hc), gives_bad (rAdd_bad v u k A m C w hv hu hc)⟩⟩

theorem sub_spec {k A m C : Nat} (hA : A < 4294967296 ^ k) (hC : C < 4294967296 ^ m) : ∃ c n R, n ≤ 8192 ∧ ∀ (w : World) (v u : Value), Row w v k A → Row w u m C → GivesN 29 c n R #[v, u] w ∧ GivesN 30 c n R #[v, u] w := by
  by_cases hc : chk2 k A m C = 0
  · obtain ⟨⟨h1, h2⟩, h3, h4⟩ := chk2_ok hA hC hc
    by_cases hle : C ≤ A
    · obtain ⟨c, n, R, hn, ht⟩ := told_to (A - C)
      exact ⟨c, n, R, hn, fun w v u hv hu => ⟨gives_told ht (Sub_ok ⟨k, hv, h1, h2⟩ ⟨m, hu, h3, h4⟩ hle), gives_told ht (rSub_ok v u k A m C w hv hu h1 h2 h3 h4 hle)⟩⟩
    · exact ⟨22, 0, 0, by omega, fun w v u hv hu => ⟨gives_badB (Sub_less ⟨k, hv, h1, h2⟩ ⟨m, hu, h3, h4⟩ (by omega)), gives_badB (rSub_less v u k A m C w hv hu h1 h2 h3 h4 (by omega))⟩⟩
  · exact ⟨_, 0, 0, by omega, fun w v u hv hu => ⟨gives_bad (Sub_bad v u k A m C w hv hu hc), gives_bad (rSub_bad v u k A m C w hv hu hc)⟩⟩

theorem mul_spec {k A m C : Nat} (hA : A < 4294967296 ^ k) (hC : C < 4294967296 ^ m) : ∃ c n R, n ≤ 8192 ∧ ∀ (w : World) (v u : Value), Row w v k A → Row w u m C → GivesN 33 c n R #[v, u] w ∧ GivesN 34 c n R #[v, u] w := by
  by_cases hc : chk2 k A m C = 0
  · obtain ⟨⟨h1, h2⟩, h3, h4⟩ := chk2_ok hA hC hc
    obtain ⟨c, n, R, hn, ht⟩ := told_to (A * C)
    exact ⟨c, n, R, hn, fun w v u hv hu => ⟨gives_told ht (Mul_ok ⟨k, hv, h1, h2⟩ ⟨m, hu, h3, h4⟩), gives_told ht (rMul_ok v u k A m C w hv hu h1 h2 h3 h4)⟩⟩
  · exact ⟨_, 0, 0, by omega, fun w v u hv hu => ⟨gives_bad (Mul_bad v u k A m C w hv hu hc), gives_bad (rMul_bad v u k A m C w hv hu hc)⟩⟩

theorem cmp_spec {k A m C : Nat} (hA : A < 4294967296 ^ k) (hC : C < 4294967296 ^ m) : ∃ x : Int, ∀ (w : World) (v u : Value), Row w v k A → Row w u m C → GivesV 31 (.int .i64 x) #[v, u] w ∧ GivesV 32 (.int .i64 x) #[v, u] w := by
  by_cases hc : chk2 k A m C = 0
  · obtain ⟨⟨h1, h2⟩, h3, h4⟩ := chk2_ok hA hC hc
    exact ⟨cmpI A C, fun w v u hv hu => ⟨Calls.mono (Cmp_ok ⟨k, hv, h1, h2⟩ ⟨m, hu, h3, h4⟩) fun e w' ⟨g1, n, g2⟩ => ⟨g1, by rw [g2]; exact below_drewN (Below.refl _ _) n⟩, rCmp_ok v u k A m C w hv hu h1 h2 h3 h4⟩⟩
  · exact ⟨0, fun w v u hv hu => ⟨gives_val (Cmp_bad v u k A m C w hv hu hc), gives_val (rCmp_bad v u k A m C w hv hu hc)⟩⟩

theorem chk_ok {k A : Nat} (hA : A < 4294967296 ^ k) (h : chk k A = 0) : Nrm k A ∧ k ≤ 8192 :=
  (chk2_ok (m := 0) (C := 0) hA (by simp) (by unfold chk2; rw [if_pos h]; exact chk_nrm nrm_zero (by omega))).1

theorem left_spec {k A : Nat} (hA : A < 4294967296 ^ k) (i : Int) (hi : i < 9223372036854775808) : ∃ c n R, n ≤ 8192 ∧ ∀ (w : World) (v : Value), Row w v k A → GivesN 35 c n R #[v, .int .i64 i] w ∧ GivesN 36 c n R #[v, .int .i64 i] w := by
  by_cases hc : chk k A = 0
  · obtain ⟨h1, h2⟩ := chk_ok hA hc
    by_cases h0 : i < 0
    · exact ⟨24, 0, 0, by omega, fun w v hv => ⟨gives_bad (Left_neg v k A i w hv h1 h2 h0), gives_bad (rLeft_neg v k A i w hv h1 h2 h0)⟩⟩
    · obtain ⟨j, rfl⟩ : ∃ j : Nat, i = j := ⟨i.toNat, by omega⟩
      obtain ⟨c, n, R, hn, ht⟩ := told_to (A * 2 ^ j)
      exact ⟨c, n, R, hn, fun w v hv => ⟨gives_told ht (Left_told v k A j w hv h1 h2 (by omega)), gives_told ht (rLeft_told v k A j w hv h1 h2 (by omega))⟩⟩
  · exact ⟨_, 0, 0, by omega, fun w v hv => ⟨gives_bad (Left_bad v k A i w hv hc), gives_bad (rLeft_bad v k A i w hv hc)⟩⟩

theorem right_spec {k A : Nat} (hA : A < 4294967296 ^ k) (i : Int) (hi : i < 9223372036854775808) : ∃ b c n R, n ≤ 8192 ∧ ∀ (w : World) (v : Value), Row w v k A → Tab w → GivesNB 37 b c n R #[v, .int .i64 i] w ∧ GivesNB 38 b c n R #[v, .int .i64 i] w := by
  by_cases hc : chk k A = 0
  · obtain ⟨h1, h2⟩ := chk_ok hA hc
    by_cases h0 : i < 0
    · exact ⟨false, 24, 0, 0, by omega, fun w v hv _ => ⟨gives_badN (Right_neg v k A i w hv h1 h2 h0), gives_badN (rRight_neg v k A i w hv h1 h2 h0)⟩⟩
    · obtain ⟨j, rfl⟩ : ∃ j : Nat, i = j := ⟨i.toNat, by omega⟩
      obtain ⟨n, hn⟩ := nrm_exists (A / 2 ^ j)
      have hnk : n ≤ k := hn.le (Nat.lt_of_le_of_lt (Nat.div_le_self _ _) hA)
      refine ⟨decide (A % 2 ^ j ≠ 0), 0, n, A / 2 ^ j, by omega, fun w v hv hT => ⟨?_, ?_⟩⟩
      · refine Calls.mono (Right_own v k A j w hv h1 h2 hT (by omega)) fun e w' ⟨r, m, g1, g2, g3, g4⟩ => ?_
        obtain rfl : m = n := Nat.le_antisymm (g3.le hn.1) (hn.le g3.1)
        exact ⟨r, g1, g2, g4⟩
      · refine Calls.mono (rRight_own v k A j w hv h1 h2 (by omega) _ rfl) fun e w' ⟨r, g1, m, g2, g3, g4⟩ => ?_
        obtain rfl : m = n := Nat.le_antisymm (g3.le hn.1) (hn.le g3.1)
        exact ⟨r, g1, g2, g4⟩
  · exact ⟨false, _, 0, 0, by omega, fun w v hv _ => ⟨gives_badN (Right_bad v k A i w hv hc), gives_badN (rRight_bad v k A i w hv hc)⟩⟩

theorem len_spec {k A : Nat} (hA : A < 4294967296 ^ k) : ∃ x : Int, ∀ (w : World) (v : Value), Row w v k A → GivesV 39 (.int .i64 x) #[v] w ∧ GivesV 40 (.int .i64 x) #[v] w := by
  by_cases hc : chk k A = 0
  · obtain ⟨h1, h2⟩ := chk_ok hA hc
    exact ⟨_, fun w v hv => ⟨gives_val (Len_row v k A w hv h1 h2), gives_val (rLen_ok v k A w hv h1 h2)⟩⟩
  · exact ⟨0, fun w v hv => ⟨gives_val (Len_bad v k A w hv hc), gives_val (rLen_bad v k A w hv hc)⟩⟩

theorem low_spec {k A : Nat} (hA : A < 4294967296 ^ k) : ∃ x : Int, ∀ (w : World) (v : Value), Row w v k A → Tab w → GivesV 41 (.int .i64 x) #[v] w ∧ GivesV 42 (.int .i64 x) #[v] w := by
  by_cases hc : chk k A = 0
  · obtain ⟨h1, h2⟩ := chk_ok hA hc
    by_cases h0 : A = 0
    · subst h0
      exact ⟨0, fun w v hv _ => ⟨gives_val (Low_zero v k w hv h1), gives_val (rLow_zero v k w hv h1)⟩⟩
    · obtain ⟨t, ht⟩ := low_exists h0
      exact ⟨t, fun w v hv hT => ⟨gives_val (Low_row v k A t w hv h1 h2 hT ht), gives_val (rLow_row v k A t w hv h1 h2 ht)⟩⟩
  · exact ⟨0, fun w v hv _ => ⟨gives_val (Low_bad v k A w hv hc), gives_val (rLow_bad v k A w hv hc)⟩⟩

theorem bit_spec {k A : Nat} (hA : A < 4294967296 ^ k) (i : Int) (hi : i < 9223372036854775808) : ∃ b, ∀ (w : World) (v : Value), Row w v k A → GivesV 43 (.bool b) #[v, .int .i64 i] w ∧ GivesV 44 (.bool b) #[v, .int .i64 i] w := by
  by_cases hc : chk k A = 0
  · obtain ⟨h1, h2⟩ := chk_ok hA hc
    by_cases h0 : i < 0
    · exact ⟨false, fun w v hv => ⟨gives_val (Bit_neg v k A i w hv h1 h2 h0), gives_val (rBit_neg v k A i w hv h1 h2 h0)⟩⟩
    · obtain ⟨j, rfl⟩ : ∃ j : Nat, i = j := ⟨i.toNat, by omega⟩
      exact ⟨_, fun w v hv => ⟨gives_val (Bit_row v k A j w hv h1 h2 (by omega)), gives_val (rBit_ok v k A j w hv h1 h2 (by omega))⟩⟩
  · exact ⟨false, fun w v hv => ⟨gives_val (Bit_bad v k A i w hv hc), gives_val (rBit_bad v k A i w hv hc)⟩⟩

theorem small_spec {k A : Nat} (hA : A < 4294967296 ^ k) : ∃ (x : Nat) (b : Bool), ∀ (w : World) (v : Value), Row w v k A → GivesV 17 (.tuple #[.int .u64 x, .bool b]) #[v] w ∧ GivesV 18 (.tuple #[.int .u64 x, .bool b]) #[v] w := by
  by_cases hc : chk k A = 0
  · obtain ⟨h1, h2⟩ := chk_ok hA hc
    by_cases h0 : k ≤ 2
    · exact ⟨A, true, fun w v hv => ⟨Small_row v k A w hv h1 h0, gives_val (rSmall_row v k A w hv h1 h0)⟩⟩
    · exact ⟨0, false, fun w v hv => ⟨gives_val (Small_big v k A w hv h1 h2 (by omega)), gives_val (rSmall_big v k A w hv h1 h2 (by omega))⟩⟩
  · exact ⟨0, false, fun w v hv => ⟨gives_val (Small_bad v k A w hv hc), gives_val (rSmall_bad v k A w hv hc)⟩⟩

theorem gcd_spec {k A m C : Nat} (hA : A < 4294967296 ^ k) (hC : C < 4294967296 ^ m) : ∃ c n R, n ≤ 8192 ∧ ∀ (w : World) (v u : Value), Row w v k A → Row w u m C → GivesN 47 c n R #[v, u] w ∧ GivesR 48 c n R #[v, u] w := by
  by_cases hc : chk2 k A m C = 0
  · obtain ⟨⟨h1, h2⟩, h3, h4⟩ := chk2_ok hA hC hc
    obtain ⟨n, hn⟩ := nrm_exists (Nat.gcd A C)
    have hf : Fits (Nat.gcd A C) := by
      rcases Nat.eq_zero_or_pos A with h | h
      · rw [h, Nat.gcd_zero_left]; exact h3.fits.1 h4
      · exact (h1.fits.1 h2).le (Nat.gcd_le_left _ h)
    refine ⟨0, n, Nat.gcd A C, hn.fits.2 hf, fun w v u hv hu => ⟨?_, ?_⟩⟩
    · refine Calls.mono (Gcd_own ⟨k, hv, h1, h2⟩ ⟨m, hu, h3, h4⟩) fun e w' ⟨r, g1, ⟨q, g2, g3⟩, g4⟩ => ?_
      obtain rfl : q = n := Nat.le_antisymm (g3.le hn.1) (hn.le g3.1)
      exact ⟨r, g1, g2, g4⟩
    · refine Calls.mono (rGcd_ok v u k A m C w hv hu h1 h2 h3 h4) fun e w' ⟨r, g1, ⟨q, g2, g3, _⟩, g4⟩ => ?_
      obtain rfl : q = n := Nat.le_antisymm (g3.le hn.1) (hn.le g3.1)
      exact ⟨r, g1, g2, g4⟩
  · exact ⟨_, 0, 0, by omega, fun w v u hv hu => ⟨gives_bad (Gcd_bad v u k A m C w hv hu hc), (gives_bad (rGcd_bad v u k A m C w hv hu hc)).row⟩⟩

theorem root_spec {k A : Nat} (hA : A < 4294967296 ^ k) : ∃ b c n R, n ≤ 8192 ∧ ∀ (w : World) (v : Value), Row w v k A → GivesNB 49 b c n R #[v] w ∧ GivesRB 50 b c n R #[v] w := by
  by_cases hc : chk k A = 0
  · obtain ⟨h1, h2⟩ := chk_ok hA hc
    obtain ⟨s, hs⟩ := sq_exists A
    obtain ⟨n, hn⟩ := nrm_exists s
    have hnk : n ≤ k := hn.le (Nat.lt_of_le_of_lt (sq_le hs) hA)
    refine ⟨decide (s * s = A), 0, n, s, by omega, fun w v hv => ⟨?_, ?_⟩⟩
    · refine Calls.mono (Root_num ⟨k, hv, h1, h2⟩ hs) fun e w' ⟨r, q, g1, g2, g3, g4⟩ => ?_
      obtain rfl : q = n := Nat.le_antisymm (g3.le hn.1) (hn.le g3.1)
      exact ⟨r, g1, g2, g4⟩
    · refine Calls.mono (rRoot_ok v k A s w hv h1 h2 hs) fun e w' ⟨r, q, g1, g2, g3, g4⟩ => ?_
      obtain rfl : q = n := Nat.le_antisymm (g3.le hn.1) (hn.le g3.1)
      exact ⟨r, g1, g2, g4⟩
  · refine ⟨false, _, 0, 0, by omega, fun w v hv => ⟨gives_badN (Root_bad v k A w hv hc), ?_⟩⟩
    exact Calls.mono (rRoot_bad v k A w hv hc) fun e w' ⟨g1, g2⟩ => ⟨_, g1, (Own.nil _ 0).row, by rw [g2]; exact Below.refl _ _⟩

end Go.Proofs.YtmfimhpbdbbpoaaDoor

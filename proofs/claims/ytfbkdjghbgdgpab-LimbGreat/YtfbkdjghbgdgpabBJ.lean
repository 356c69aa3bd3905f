/- Contracts that LimbGreat wants: what is too long. -/
import Derived.Test.YtfbkdjghbgdgpabBI
import Derived.Test.YtfbkdjghbgdgpabUB
import Derived.Test.YtfbkdjghbgdgpabAH
import Derived.Test.YtfbkdjghbgdgpabAO
namespace Go.Proofs.Ytfbkdjghbgdgpab
open Go.RowKit
open M
set_option linter.unusedVariables false
set_option linter.unusedSimpArgs false

theorem Told.bad {w : World} {base : Nat} {u : Value} {c : Int} {N : Nat} (h : Told w base u c N) (hf : ¬ Fits N) : c = 21 ∧ u = .slice none 0 0 := by
  rcases h with ⟨h, _⟩ | ⟨_, h⟩
  · exact absurd h hf
  · exact h

theorem left_num {v : Value} {A n N : Nat} {w : World} (h : Num w v A) (m : Int) (hm : (n : Int) = m) (hn : n < 9223372036854775808) (hN : A * 2 ^ n = N) (hf : Fits N) :
    Calls Try.prog 23 #[v, .int .i64 m] w fun e w' => ∃ r, e = .returned (.tuple #[r, .int .i64 0]) ∧ Num w' r N ∧ Below w.heap.size w w' := by
  subst hm
  obtain ⟨k, h1, h2, h3⟩ := h
  refine (Left_told v k A n w h1 h2 h3 hn).mono ?_
  rintro e w' ⟨u, c, rfl, ht, hb⟩
  rw [hN] at ht
  obtain ⟨rfl, n, ho, hn⟩ := ht.ok hf
  exact ⟨u, rfl, ho.num hn hf, hb⟩

theorem left_long {v : Value} {A n : Nat} {w : World} (h : Num w v A) (m : Int) (hm : (n : Int) = m) (hn : n < 9223372036854775808) (hf : ¬ Fits (A * 2 ^ n)) :
    Calls Try.prog 23 #[v, .int .i64 m] w fun e w' => e = .returned (.tuple #[.slice none 0 0, .int .i64 21]) ∧ Below w.heap.size w w' := by
  subst hm
  obtain ⟨k, h1, h2, h3⟩ := h
  refine (Left_told v k A n w h1 h2 h3 hn).mono ?_
  rintro e w' ⟨u, c, rfl, ht, hb⟩
  obtain ⟨rfl, rfl⟩ := ht.bad hf
  exact ⟨rfl, hb⟩

theorem add_long {v u : Value} {A C : Nat} {w : World} (h : Num w v A) (h' : Num w u C) (hf : ¬ Fits (A + C)) :
    Calls Try.prog 24 #[v, u] w fun e w' => e = .returned (.tuple #[.slice none 0 0, .int .i64 21]) ∧ Below w.heap.size w w' := by
  refine (Add_ok h h').mono ?_
  rintro e w' ⟨u, c, rfl, ht, hb⟩
  obtain ⟨rfl, rfl⟩ := ht.bad hf
  exact ⟨rfl, hb⟩

theorem mul_long {v u : Value} {A C : Nat} {w : World} (h : Num w v A) (h' : Num w u C) (hf : ¬ Fits (A * C)) :
    Calls Try.prog 28 #[v, u] w fun e w' => e = .returned (.tuple #[.slice none 0 0, .int .i64 21]) ∧ Below w.heap.size w w' := by
  refine (Mul_ok h h').mono ?_
  rintro e w' ⟨u, c, rfl, ht, hb⟩
  obtain ⟨rfl, rfl⟩ := ht.bad hf
  exact ⟨rfl, hb⟩

theorem power_two {n N : Nat} {w : World} (m : Int) (hm : (n : Int) = m) (hn : n ≤ 9223372036854775807) (hN : 2 ^ n = N) (hf : Fits N) :
    Calls Try.prog 31 #[.int .u32 2, .int .i64 m] w fun e w' => ∃ r, e = .returned (.tuple #[r, .int .i64 0]) ∧ Num w' r N ∧ Below w.heap.size w w' := by
  subst hm
  refine (Power_any 2 n w (by omega) hn).mono ?_
  rintro e w' ⟨u, c, rfl, ht, hb⟩
  rw [hN] at ht
  obtain ⟨rfl, n, ho, hn⟩ := ht.ok hf
  exact ⟨u, rfl, ho.num hn hf, hb⟩

theorem power_two_long {n : Nat} {w : World} (m : Int) (hm : (n : Int) = m) (hn : n ≤ 9223372036854775807) (hf : ¬ Fits (2 ^ n)) :
    Calls Try.prog 31 #[.int .u32 2, .int .i64 m] w fun e w' => e = .returned (.tuple #[.slice none 0 0, .int .i64 21]) ∧ Below w.heap.size w w' := by
  subst hm
  refine (Power_any 2 n w (by omega) hn).mono ?_
  rintro e w' ⟨u, c, rfl, ht, hb⟩
  obtain ⟨rfl, rfl⟩ := ht.bad hf
  exact ⟨rfl, hb⟩

theorem check_num {v : Value} {A : Nat} {w : World} (h : Num w v A) :
    Calls Try.prog 25 #[v] w fun e w' => e = .returned (.int .i64 0) ∧ Below w.heap.size w w' := by
  obtain ⟨k, h1, h2, h3⟩ := h
  exact (check_ok v k A w h1 h2 h3).mono fun e w' ⟨h, h'⟩ => ⟨h, by rw [h']; exact Below.refl _ _⟩

theorem chk_long {k N : Nat} (h : 8192 < k) : chk k N = 21 := by unfold chk; rw [if_pos h]

theorem check_long {S : Nat → Prop} {v : Value} {k N : Nat} {w : World} (h : RowX S w v k N) (hk : 8192 < k) :
    Calls Try.prog 25 #[v] w fun e w' => e = .returned (.int .i64 21) ∧ Below w.heap.size w w' := by
  have := check_any v k N w h
  rw [chk_long hk] at this
  exact this.mono fun e w' ⟨h, h'⟩ => ⟨h, by rw [h']; exact Below.refl _ _⟩

set_option maxRecDepth 100000 in
theorem len_long {S : Nat → Prop} {v : Value} {k N : Nat} {w : World} (h : RowX S w v k N) (hk : 8192 < k) :
    Calls Try.prog 20 #[v] w fun e w' => e = .returned (.int .i64 0) ∧ Below w.heap.size w w' := by
  have HC := hide (check_long h hk)
  clear h
  go_enter Try.func20, Try.ntmps20
  go_wp2_with fail
  refine HC.out.mono ?_
  rintro e w1 ⟨rfl, hb⟩
  have HB := hide hb
  clear hb
  go_wp2_with fail
  go_ret
  exact ⟨rfl, HB.out⟩

set_option maxRecDepth 100000 in
theorem sub_long {S : Nat → Prop} {v u : Value} {k N C : Nat} {w : World} (h : RowX S w v k N) (hk : 8192 < k) (h' : Num w u C) :
    Calls Try.prog 26 #[v, u] w fun e w' => e = .returned (.tuple #[.slice none 0 0, .int .i64 21]) ∧ Below w.heap.size w w' := by
  obtain ⟨m, g1, g2, g3⟩ := h'
  have HC := hide (checkBoth_any v u k N m C w h g1)
  rw [chk_long hk, if_neg (by omega)] at HC
  clear h g1 g2
  go_enter Try.func26, Try.ntmps26
  go_wp2_with fail
  refine HC.out.mono ?_
  rintro e w1 ⟨rfl, rfl⟩
  go_wp2_with fail
  go_ret2
  exact ⟨rfl, Below.refl _ _⟩

theorem oftext_long {A L : Nat} (w : World) (h : Dec0 L A) (hl : L ≤ 9223372036854775807) (hf : ¬ Fits A) :
    Calls Try.prog 18 #[.string (strOf (txt L A))] w fun e w' => e = .returned (.tuple #[.slice none 0 0, .int .i64 21]) ∧ Below w.heap.size w w' := by
  refine (OfText_dec _ w (by rw [strOf_size, txt_length]; exact hl) (txt_dec h)).mono ?_
  rintro e w' ⟨r, c, rfl, ht, hb⟩
  rw [txt_val h] at ht
  obtain ⟨rfl, rfl⟩ := ht.bad hf
  exact ⟨rfl, hb⟩

set_option maxRecDepth 100000 in
theorem ofbytes_long (g o L cap x : Nat) (w : World) (hL : 32768 < L) (hL2 : L ≤ 9223372036854775807) (hx : w.cell? ⟨g, o, none⟩ = some (.int .u8 x)) (hx0 : ((x : Int) == 0) = false) :
    Calls Try.prog 16 #[.slice (some ⟨g, o, none⟩) L cap] w fun e w' => e = .returned (.tuple #[.slice none 0 0, .int .i64 21]) ∧ Below w.heap.size w w' := by
  have h0 : (0 : Int) < (L : Int) := by omega
  have h1 : (32768 : Int) < (L : Int) := by omega
  go_enter Try.func16, Try.ntmps16
  go_wp2_with fail
  go_ret2
  exact ⟨rfl, Below.refl _ _⟩

/-- The text of ten times a number. -/
theorem txt_ten (M L : Nat) : strOf (txt L M) ++ ⟨#[48]⟩ = strOf (txt (L + 1) (M * 10)) := by
  rw [txt_snoc, show M * 10 / 10 = M by omega, show M * 10 % 10 = 0 by omega]
  refine ByteArray.ext (Array.toList_inj.1 ?_)
  have e : ∀ bs, (strOf bs).data.toList = bs.map UInt8.ofNat := fun bs => by rw [← ByteArray.toList_eq]; exact strOf_toList bs
  rw [ByteArray.data_append, Array.toList_append, e, e, List.map_append]
  rfl

theorem dec_ten {L M : Nat} (h : Dec0 L M) (hM : 0 < M) : Dec0 (L + 1) (M * 10) := by
  obtain ⟨h1, h2, h3⟩ := h
  refine ⟨?_, by omega, .inr ?_⟩
  · rw [Nat.pow_succ]; omega
  · rw [Nat.add_sub_cancel]
    rcases h3 with h3 | h3
    · rw [h3]; omega
    · obtain ⟨l, rfl⟩ : ∃ l, L = l + 1 := ⟨L - 1, by omega⟩
      rw [Nat.add_sub_cancel] at h3
      rw [Nat.pow_succ]; omega

end Go.Proofs.Ytfbkdjghbgdgpab

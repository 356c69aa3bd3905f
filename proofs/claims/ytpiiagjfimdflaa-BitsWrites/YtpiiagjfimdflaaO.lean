/- A number that is asked for again: where its bits lie ahead it is taken; where only some of them do, the reading is too short. -/
import Derived.Test.YtpiiagjfimdflaaA
namespace Go.Proofs.Ytpiiagjfimdflaa.M

theorem readG_prefix : ∀ (f y k x u : Nat) (p more : List Bool), k + f = 9 → groups f y = p ++ more → more ≠ [] → readG (f + 1) p k x u = (0, 0, 12) := by
  intro f
  induction f with
  | zero =>
    intro y k x u p more hk hp hm
    have hl : (groups 0 y).length = 8 := by simp [groups]
    have h1 : 0 < more.length := List.length_pos_iff.2 hm
    rw [hp, List.length_append] at hl
    exact readG_short _ _ _ _ _ (by omega)
  | succ f ih =>
    intro y k x u p more hk hp hm
    have h1 : 0 < more.length := List.length_pos_iff.2 hm
    by_cases hs : y < 128
    · rw [groups_small _ _ hs] at hp
      have hl : (bitsOf y 8).length = 8 := by simp
      rw [hp, List.length_append] at hl
      exact readG_short _ _ _ _ _ (by omega)
    · by_cases h8 : p.length < 8
      · exact readG_short _ _ _ _ _ h8
      · rw [groups_big _ _ (by omega)] at hp
        have ht : p.take 8 = bitsOf (128 + y % 128) 8 := by
          have := congrArg (List.take 8) hp
          rw [List.take_left' (by simp), List.take_append_of_le_length (by omega)] at this
          exact this.symm
        have hd : groups f (y / 128) = p.drop 8 ++ more := by
          have := congrArg (List.drop 8) hp
          rw [List.drop_left' (by simp), List.drop_append_of_le_length (by omega)] at this
          exact this
        have hn : num (p.take 8) = 128 + y % 128 := by rw [ht, num_bitsOf]; omega
        rw [readG_more _ _ _ _ _ (by omega) (by rw [hn]; omega) (by rw [hn]; omega)]
        exact ih _ _ _ _ _ _ (by omega) hd hm

end Go.Proofs.Ytpiiagjfimdflaa.M

namespace Go.Proofs.Ytpiiagjfimdflaa
open Go.RowKit
open M
set_option linter.unusedVariables false

theorem ones_full (n k : Nat) (rest : List Bool) (hn : n ≤ 64) (h : OnesAt (List.replicate n true ++ [false] ++ rest) k) : k = n := by
  obtain ⟨h0, h1, h2, h3⟩ := h
  have hf : (List.replicate n true ++ [false] ++ rest)[n]? = some false := by
    rw [List.append_assoc, List.getElem?_append_right (by simp)]; simp
  have hle : k ≤ n := by
    rcases Nat.lt_or_ge n k with h | h
    · have := h2 n h; rw [hf] at this; simp at this
    · exact h
  rcases h3 with h3 | h3 | h3
  · omega
  · simp at h3; omega
  · rcases Nat.lt_or_ge k n with h | h
    · rw [List.append_assoc, List.getElem?_append_left (by simpa using h)] at h3
      simp [h] at h3
    · omega

theorem ones_short (n k : Nat) (r more : List Bool) (hn : n ≤ 64) (hm : more ≠ []) (hr : List.replicate n true ++ [false] = r ++ more) (h : OnesAt r k) : r.length ≤ n ∧ k = r.length := by
  obtain ⟨h0, h1, h2, h3⟩ := h
  have hp : 0 < more.length := List.length_pos_iff.2 hm
  have hl := congrArg List.length hr
  simp at hl
  have ht : ∀ j, j < r.length → r[j]? = some true := by
    intro j hj
    have := congrArg (fun l => l[j]?) hr
    rw [List.getElem?_append_left (by simp; omega), List.getElem?_append_left (by simpa using hj)] at this
    rw [← this]
    have : j < n := by omega
    simp [this]
  refine ⟨by omega, ?_⟩
  rcases h3 with h3 | h3 | h3
  · omega
  · exact h3
  · rcases Nat.lt_or_ge k r.length with h | h
    · rw [ht k h] at h3; simp at h3
    · omega

/-- The call of got on a number. -/
def gotArgs (b off : Nat) (d n m : Int) (x : Nat) : Array Value := #[.pointer (some ⟨b, off, none⟩), .agg #[.int .i64 d, .int .i64 n, .int .u64 x, .int .i64 m]]

theorem rb_len (s : ByteArray) (a : Nat) : ((rb s).drop a).length = 8 * s.size - a := by simp [rb]

theorem got_full (b off : Nat) (s : ByteArray) (a : Nat) (d n m : Int) (x : Nat) (rest : List Bool) (w : World) (h : Rd w b off s a 0) (hx : x < 18446744073709551616) (hF : Fit d m x) (hr : (rb s).drop a = opB d m x ++ rest) :
    Calls Try.prog 29 (gotArgs b off d n m x) w fun e w' => e = .returned (.bool true) ∧ ToR b off s (a + (opB d m x).length) 0 w w' := by
  have hle := h.le
  have hlen : a + (opB d m x).length ≤ 8 * s.size := by
    have := congrArg List.length hr
    rw [rb_len, List.length_append] at this
    omega
  rcases hF with ⟨rfl, h0, h1, h2⟩ | ⟨rfl, h0, h1⟩ | rfl | rfl | rfl
  · obtain ⟨M, rfl⟩ : ∃ M : Nat, m = (M : Int) := ⟨m.toNat, by omega⟩
    have e : opB 2 (M : Int) x = bitsOf x M := by simp [opB]
    rw [e] at hr hlen ⊢
    rw [bitsOf_length] at hlen ⊢
    refine (got2 (R := fun v => v = x) n (M : Int) x (fun w1 k => (rbits_ok b off s a M w1 k (by omega) hlen).mono fun e w2 ⟨k1, k2, k3⟩ => ⟨_, k1, ?_, k2, k3⟩) w h hx).mono fun e w2 ⟨v, k1, k2, k3⟩ => ?_
    · rw [hr, List.take_left' (by simp), num_bitsOf]; exact Nat.mod_eq_of_lt (by simpa using h2)
    · subst k2; exact ⟨by rw [k1]; simp, k3⟩
  · obtain ⟨M, rfl⟩ : ∃ M : Nat, m = (M : Int) := ⟨m.toNat, by omega⟩
    have e : opB 3 (M : Int) x = List.replicate M true ++ [false] := by simp [opB]
    rw [e] at hr hlen ⊢
    simp only [List.length_append, List.length_replicate, List.length_singleton] at hlen ⊢
    refine (got3 (a' := a + (M + 1)) (e' := 0) (R := fun v => v = M) n (M : Int) x (fun w1 k => (runary_any b off s a w1 k).mono fun e w2 ⟨kk, k0, k1, k2⟩ => ?_) w h hx).mono fun e w2 ⟨v, k1, k2, k3⟩ => ?_
    · rw [hr] at k0
      have := ones_full M kk rest (by omega) k0
      subst this
      rcases k2 with ⟨k4, _, _⟩ | ⟨_, k4, _, _⟩ | ⟨_, _, k4, k5⟩
      · omega
      · rw [hr] at k4; simp at k4
      · exact ⟨_, k4, rfl, by rw [← Nat.add_assoc]; exact k5, k1⟩
    · subst k2; exact ⟨by rw [k1]; simp, k3⟩
  · have e : opB 1 m x = [x % 2 == 1] := by simp [opB]
    rw [e] at hr hlen ⊢
    simp only [List.length_singleton] at hlen ⊢
    refine (got1 (R := fun v => v = (x % 2 == 1)) n m x (fun w1 k => (rbit_of b off w1 _ _ (rbits_ok b off s a 1 w1 k (by omega) hlen)).mono fun e w2 ⟨k1, k2, k3⟩ => ⟨_, k1, ?_, k2, k3⟩) w h hx).mono fun e w2 ⟨v, k1, k2, k3⟩ => ?_
    · rw [hr]; cases (x % 2 == 1) <;> rfl
    · subst k2
      refine ⟨?_, k3⟩
      rw [k1]
      by_cases h2 : x % 2 = 1
      · have : ((x : Int) % 2 == 1) = true := by rw [beq_iff_eq]; omega
        rw [this, h2]; rfl
      · have h3 : ((x : Int) % 2 == 1) = false := by rw [beq_eq_false_iff_ne]; omega
        have h4 : (x % 2 == 1) = false := by rw [beq_eq_false_iff_ne]; omega
        rw [h3, h4]; rfl
  · have e : opB 4 m x = varB x := by simp [opB]
    rw [e] at hr hlen ⊢
    refine (got4 (R := fun v => v = x) n m x (fun w1 k => (rvar_ok b off s a x (a + (varB x).length) w1 k (by rw [hr]; exact varB_read x a rest hx) hlen).mono fun e w2 ⟨k1, k2, k3⟩ => ⟨_, k1, rfl, k2, k3⟩) w h hx).mono fun e w2 ⟨v, k1, k2, k3⟩ => ?_
    subst k2; exact ⟨by rw [k1]; simp, k3⟩
  · have e : opB 5 m x = varB (zig (i64of x)) := by simp [opB]
    rw [e] at hr hlen ⊢
    have hz := zig_lt _ (i64of_range x hx).1 (i64of_range x hx).2
    refine (got5 (R := fun v => v = i64of x) n m x (fun w1 k => (rzig_of b off w1 (zig (i64of x)) hz _ (rvar_ok b off s a (zig (i64of x)) (a + (varB (zig (i64of x))).length) w1 k (by rw [hr]; exact varB_read _ a rest hz) hlen)).mono fun e w2 ⟨k1, k2, k3⟩ => ⟨_, k1, zag_zig _, k2, k3⟩) w h hx).mono fun e w2 ⟨v, k1, k2, k3⟩ => ?_
    subst k2; exact ⟨by rw [k1]; simp, k3⟩

theorem got_short (b off : Nat) (s : ByteArray) (a : Nat) (d n m : Int) (x : Nat) (more : List Bool) (w : World) (h : Rd w b off s a 0) (hx : x < 18446744073709551616) (hF : Fit d m x) (hm : more ≠ []) (hr : opB d m x = (rb s).drop a ++ more) :
    Calls Try.prog 29 (gotArgs b off d n m x) w fun e w' => (∃ v, e = .returned (.bool v)) ∧ ToR b off s a 12 w w' := by
  have hle := h.le
  have hp : 0 < more.length := List.length_pos_iff.2 hm
  have hlen : 8 * s.size < a + (opB d m x).length := by
    have := congrArg List.length hr
    rw [List.length_append, rb_len] at this
    omega
  rcases hF with ⟨rfl, h0, h1, h2⟩ | ⟨rfl, h0, h1⟩ | rfl | rfl | rfl
  · obtain ⟨M, rfl⟩ : ∃ M : Nat, m = (M : Int) := ⟨m.toNat, by omega⟩
    have e : opB 2 (M : Int) x = bitsOf x M := by simp [opB]
    rw [e, bitsOf_length] at hlen
    exact (got2 (R := fun _ => True) n (M : Int) x (fun w1 k => (rbits_short b off s a M w1 k (by omega) hlen).mono fun e w2 ⟨k1, k2, k3⟩ => ⟨0, k1, trivial, k2, k3⟩) w h hx).mono fun e w2 ⟨v, k1, k2, k3⟩ => ⟨⟨_, k1⟩, k3⟩
  · obtain ⟨M, rfl⟩ : ∃ M : Nat, m = (M : Int) := ⟨m.toNat, by omega⟩
    have e : opB 3 (M : Int) x = List.replicate M true ++ [false] := by simp [opB]
    rw [e] at hr
    refine (got3 (a' := a) (e' := 12) (R := fun _ => True) n (M : Int) x (fun w1 k => (runary_any b off s a w1 k).mono fun e w2 ⟨kk, k0, k1, k2⟩ => ?_) w h hx).mono fun e w2 ⟨v, k1, k2, k3⟩ => ⟨⟨_, k1⟩, k3⟩
    have := ones_short M kk _ more (by omega) hm hr k0
    rcases k2 with ⟨k4, _, _⟩ | ⟨_, k4, k5, k6⟩ | ⟨_, k4, _, _⟩
    · omega
    · exact ⟨0, k5, trivial, k6, k1⟩
    · omega
  · have e : opB 1 m x = [x % 2 == 1] := by simp [opB]
    rw [e, List.length_singleton] at hlen
    exact (got1 (R := fun _ => True) n m x (fun w1 k => (rbit_of b off w1 0 _ (rbits_short b off s a 1 w1 k (by omega) hlen)).mono fun e w2 ⟨k1, k2, k3⟩ => ⟨_, k1, trivial, k2, k3⟩) w h hx).mono fun e w2 ⟨v, k1, k2, k3⟩ => ⟨⟨_, k1⟩, k3⟩
  · have e : opB 4 m x = varB x := by simp [opB]
    rw [e] at hr
    exact (got4 (R := fun _ => True) n m x (fun w1 k => (rvar_err b off s a 12 w1 k (readG_prefix 9 x 0 0 a _ more rfl hr hm) (by omega)).mono fun e w2 ⟨k1, k2, k3⟩ => ⟨0, k1, trivial, k2, k3⟩) w h hx).mono fun e w2 ⟨v, k1, k2, k3⟩ => ⟨⟨_, k1⟩, k3⟩
  · have e : opB 5 m x = varB (zig (i64of x)) := by simp [opB]
    rw [e] at hr
    exact (got5 (R := fun _ => True) n m x (fun w1 k => (rzig_of b off w1 0 (by omega) _ (rvar_err b off s a 12 w1 k (readG_prefix 9 _ 0 0 a _ more rfl hr hm) (by omega))).mono fun e w2 ⟨k1, k2, k3⟩ => ⟨_, k1, trivial, k2, k3⟩) w h hx).mono fun e w2 ⟨v, k1, k2, k3⟩ => ⟨⟨_, k1⟩, k3⟩

theorem got_bad (b off : Nat) (s : ByteArray) (a : Nat) (e0 : Int) (d n m : Int) (x : Nat) (w : World) (h : Rd w b off s a e0) (hx : x < 18446744073709551616) (hF : Fit d m x) (he : e0 ≠ 0) :
    Calls Try.prog 29 (gotArgs b off d n m x) w fun e w' => (∃ v, e = .returned (.bool v)) ∧ ToR b off s a e0 w w' := by
  have he' : (e0 == 0) = false := by rw [beq_eq_false_iff_ne]; exact he
  rcases hF with ⟨rfl, h0, h1, h2⟩ | ⟨rfl, h0, h1⟩ | rfl | rfl | rfl
  · exact (got2 (R := fun _ => True) n m x (fun w1 k => (rbits_bad b off s a m e0 w1 k he' h0 h1).mono fun e w2 ⟨k1, k2, k3⟩ => ⟨0, k1, trivial, k2, k3⟩) w h hx).mono fun e w2 ⟨v, k1, k2, k3⟩ => ⟨⟨_, k1⟩, k3⟩
  · exact (got3 (R := fun _ => True) n m x (fun w1 k => (runary_bad b off s a e0 w1 k he').mono fun e w2 ⟨k1, k2, k3⟩ => ⟨0, k1, trivial, k2, k3⟩) w h hx).mono fun e w2 ⟨v, k1, k2, k3⟩ => ⟨⟨_, k1⟩, k3⟩
  · exact (got1 (R := fun _ => True) n m x (fun w1 k => (rbit_of b off w1 0 _ (rbits_bad b off s a 1 e0 w1 k he' (by omega) (by omega))).mono fun e w2 ⟨k1, k2, k3⟩ => ⟨_, k1, trivial, k2, k3⟩) w h hx).mono fun e w2 ⟨v, k1, k2, k3⟩ => ⟨⟨_, k1⟩, k3⟩
  · exact (got4 (R := fun _ => True) n m x (fun w1 k => (rvar_bad b off s a e0 w1 k he').mono fun e w2 ⟨k1, k2, k3⟩ => ⟨0, k1, trivial, k2, k3⟩) w h hx).mono fun e w2 ⟨v, k1, k2, k3⟩ => ⟨⟨_, k1⟩, k3⟩
  · exact (got5 (R := fun _ => True) n m x (fun w1 k => (rzig_of b off w1 0 (by omega) _ (rvar_bad b off s a e0 w1 k he')).mono fun e w2 ⟨k1, k2, k3⟩ => ⟨_, k1, trivial, k2, k3⟩) w h hx).mono fun e w2 ⟨v, k1, k2, k3⟩ => ⟨⟨_, k1⟩, k3⟩

/-- A Reader of the first bits of L, asked for numbers that are laid as L: behind those that are laid as A. -/
def Cut (w : World) (b off : Nat) (s : ByteArray) (A : List Bool) : Prop := (A.length ≤ 8 * s.size ∧ Rd w b off s A.length 0) ∨ (8 * s.size < A.length ∧ ∃ a, Rd w b off s a 12)

theorem got_cut (b off : Nat) (s : ByteArray) (A rest : List Bool) (d n m : Int) (x : Nat) (w : World) (h : Cut w b off s A) (hx : x < 18446744073709551616) (hF : Fit d m x) (hL : ∃ k, rb s = (A ++ opB d m x ++ rest).take k) :
    Calls Try.prog 29 (gotArgs b off d n m x) w fun e w' => (∃ v, e = .returned (.bool v)) ∧ Cut w' b off s (A ++ opB d m x) ∧ Only b off (off + 3) w w' := by
  obtain ⟨k, hk⟩ := hL
  have hsz : 8 * s.size = ((A ++ opB d m x ++ rest).take k).length := by rw [← hk]; simp [rb]
  rcases h with ⟨h1, h2⟩ | ⟨h1, a, h2⟩
  · have hd : (rb s).drop A.length = (opB d m x ++ rest).take (k - A.length) := by
      rw [hk, List.append_assoc, List.drop_take, List.drop_left' rfl]
    simp only [List.length_take, List.length_append] at hsz
    by_cases hf : A.length + (opB d m x).length ≤ 8 * s.size
    · refine (got_full b off s A.length d n m x (rest.take (k - A.length - (opB d m x).length)) w h2 hx hF ?_).mono fun e w' ⟨k1, k2, k3⟩ => ⟨⟨_, k1⟩, .inl ⟨by simpa using hf, by simpa using k2⟩, k3⟩
      rw [hd, List.take_append, List.take_of_length_le (by omega)]
    · refine (got_short b off s A.length d n m x ((opB d m x).drop (k - A.length)) w h2 hx hF ?_ ?_).mono fun e w' ⟨k1, k2, k3⟩ => ⟨k1, .inr ⟨by simp; omega, _, k2⟩, k3⟩
      · intro e
        have := congrArg List.length e
        simp at this
        omega
      · rw [hd, List.take_append_of_le_length (by omega), List.take_append_drop]
  · exact (got_bad b off s a 12 d n m x w h2 hx hF (by omega)).mono fun e w' ⟨k1, k2, k3⟩ => ⟨k1, .inr ⟨by simp; omega, _, k2⟩, k3⟩

end Go.Proofs.Ytpiiagjfimdflaa

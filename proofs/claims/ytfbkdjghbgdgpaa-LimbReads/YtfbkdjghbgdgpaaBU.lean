/- OfText of any text: the program's, the document's. -/
import Derived.Test.YtfbkdjghbgdgpaaBT
namespace Go.Proofs.Ytfbkdjghbgdgpaa
open Go.RowKit
open M
set_option linter.unusedVariables false
set_option linter.unusedSimpArgs false

set_option maxRecDepth 100000 in
theorem OfText_bad (s : ByteArray) (w : World) (hs : s.size ≤ 9223372036854775807) (h : ¬ IsDec s) :
    Calls Try.prog 12 #[.string s] w fun e w' => e = .returned (.tuple #[.slice none 0 0, .int .i64 25]) ∧ w' = w := by
  have HD := hide (isDecimal_any s w hs)
  have HN := hide h
  clear h
  go_enter Try.func12, Try.ntmps12
  go_wp2_with fail
  refine HD.out.mono ?_
  rintro e w1 ⟨⟨b, rfl, hb⟩, rfl⟩
  have hbf : b = false := by
    cases b with
    | false => rfl
    | true => exact absurd (hb.1 rfl) HN.out
  subst hbf
  clear hb
  go_wp2_with fail
  go_ret2
  exact ⟨rfl, rfl⟩

/-- What the document's OfText tells. -/
def RT (s : ByteArray) (w : World) (base : Nat) (u : Value) (c : Int) : Prop :=
  (¬ IsDec s ∧ c = 25 ∧ u = .slice none 0 0) ∨ (IsDec s ∧ 81920 < s.size ∧ c = 21 ∧ u = .slice none 0 0) ∨ (IsDec s ∧ s.size ≤ 81920 ∧ Told w base u c (dv (sd s) s.size))

set_option maxRecDepth 100000 in
set_option maxHeartbeats 2000000 in
theorem rOfText_any (s : ByteArray) (w : World) (hs : s.size ≤ 100000) :
    Calls Try.prog 13 #[.string s] w fun e w' => ∃ u c, e = .returned (.tuple #[u, .int .i64 c]) ∧ RT s w' w.heap.size u c ∧ Below w.heap.size w w' := by
  obtain ⟨L, hL⟩ : ∃ L, s.size = L := ⟨_, rfl⟩
  by_cases hL0 : L = 0
  · have hz : (L : Int) = 0 := by omega
    have HB : Hid (¬ IsDec s) := fun h => h.2.elim (fun h => by omega) fun ⟨h, _⟩ => by omega
    go_enter Try.func13, Try.ntmps13
    go_wp2_with fail
    go_ret2
    exact ⟨_, 25, rfl, .inl ⟨HB.out, rfl, rfl⟩, Below.refl _ _⟩
  have hz : ((L : Int) == 0) = false := by simp; omega
  have h0in : 0 < s.size := by omega
  obtain ⟨x0, hx0⟩ : ∃ x, (s[0]'h0in).toNat = x := ⟨_, rfl⟩
  have HX0 := hide hx0
  by_cases hz1 : 1 < L ∧ x0 = 48
  · obtain ⟨h1, rfl⟩ := hz1
    have h1' : (1 : Int) < (L : Int) := by omega
    have HB : Hid (¬ IsDec s) := fun h => h.2.elim (fun h => by omega) fun ⟨_, h⟩ => h HX0.out
    go_enter Try.func13, Try.ntmps13
    go_wp2_with fail
    go_ret2
    exact ⟨_, 25, rfl, .inl ⟨HB.out, rfl, rfl⟩, Below.refl _ _⟩
  have HD : Hid (AllDec s → IsDec s) := fun hA => ⟨hA, by
    by_cases h1 : 1 < L
    · exact .inr ⟨by omega, by rw [HX0.out]; exact fun e => hz1 ⟨h1, e⟩⟩
    · exact .inl (by omega)⟩
  have HZ := hide hz1
  have hx0l : x0 < 256 := by rw [← hx0]; exact UInt8.toNat_lt _
  by_cases h1 : 1 < L
  all_goals
    first
    | (have h1' : (1 : Int) < (L : Int) := (by omega)
       have h48 : ((x0 : Int) == 48) = false := (by simp; intro e; exact HZ.out ⟨h1, by omega⟩))
    | (have h1' : ¬ (1 : Int) < (L : Int) := (by omega))
    clear hz1
    go_enter Try.func13, Try.ntmps13
    go_wp2_with fail
    go_loop [4] (fun t4 => ∃ i : Nat, i ≤ L ∧ t4 = .int .i64 i ∧ Hid (∀ (k : Nat) (h : k < s.size), k < i → 48 ≤ (s[k]'h).toNat ∧ (s[k]'h).toNat ≤ 57)) (fun t4 => L - (intOf t4).toNat)
    case atStart => exact ⟨0, by omega, rfl, fun k _ h => by omega⟩
    case round =>
      obtain ⟨i, hi, rfl, HI⟩ := hrel
      by_cases hlt : i < L
      · have hlt' : (i : Int) < (L : Int) := by omega
        have hin : i < s.size := by omega
        obtain ⟨x, hx⟩ : ∃ x, (s[i]'hin).toNat = x := ⟨_, rfl⟩
        have HX := hide hx
        have hxb : x < 256 := by rw [← hx]; exact UInt8.toNat_lt _
        by_cases h4 : x < 48
        · have h4' : (x : Int) < 48 := by omega
          have HB : Hid (¬ IsDec s) := fun h => by have := (h.1 i hin).1; rw [HX.out] at this; omega
          go_wp2_with fail
          go_ret2
          exact ⟨_, 25, rfl, .inl ⟨HB.out, rfl, rfl⟩, Below.refl _ _⟩
        · have h4' : ¬ (x : Int) < 48 := by omega
          by_cases h5 : 57 < x
          · have h5' : (57 : Int) < (x : Int) := by omega
            have HB : Hid (¬ IsDec s) := fun h => by have := (h.1 i hin).2; rw [HX.out] at this; omega
            go_wp2_with fail
            go_ret2
            exact ⟨_, 25, rfl, .inl ⟨HB.out, rfl, rfl⟩, Below.refl _ _⟩
          · have h5' : ¬ (57 : Int) < (x : Int) := by omega
            go_wp2_with fail
            go_round
            case rel =>
              refine ⟨i + 1, by omega, by go_num, fun k h hk => ?_⟩
              by_cases e : k = i
              · subst e; rw [HX.out]; omega
              · exact HI.out k h (by omega)
            case measure => simp [intOf]; omega
      · obtain rfl : i = L := by omega
        have HA : Hid (AllDec s) := fun k h => HI.out k h (by omega)
        by_cases hlong : 81920 < i
        · have hlong' : (81920 : Int) < (i : Int) := by omega
          go_wp2_with fail
          go_ret2
          exact ⟨_, 21, rfl, .inr (.inl ⟨HD.out HA.out, by omega, rfl, rfl⟩), Below.refl _ _⟩
        · have hlong' : ¬ (81920 : Int) < (i : Int) := by omega
          go_wp2_with fail
          refine (ofDigits_any s w (by omega) HA.out).mono ?_
          rintro e w1 ⟨r, rfl, k, ho, hn, hk, hb⟩
          have H1 := hide (And.intro ho (And.intro hn hb))
          clear ho hn hb
          go_wp2_with fail
          refine (fit_any r k _ w1 H1.out.1.row (by omega)).mono ?_
          rintro e w2 ⟨u, c, rfl, ht, hb⟩
          have H2 : Hid (Told w2 w.heap.size u c (dv (sd s) s.size) ∧ Below w.heap.size w w2) := ⟨ht.mono H1.out.2.2.size, H1.out.2.2.trans (hb.mono H1.out.2.2.size)⟩
          clear ht hb
          go_wp2_with fail
          go_ret2
          exact ⟨u, c, rfl, .inr (.inr ⟨HD.out HA.out, by omega, H2.out.1⟩), H2.out.2⟩

/-- A decimal as long as that is no number. -/
theorem dec_over {s : ByteArray} (h : IsDec s) (hs : 81920 < s.size) : ¬ Fits (dv (sd s) s.size) := by
  rintro ⟨k, hk, hlt⟩
  have hd : 1 ≤ sd s 0 := by
    rcases h.2 with h1 | ⟨h1, h2⟩
    · omega
    · have := (h.1 0 (by omega)).1
      unfold sd
      rw [dif_pos (by omega : 0 < s.size)]
      omega
  obtain ⟨n, hn⟩ : ∃ n, s.size = 1 + n := ⟨s.size - 1, by omega⟩
  rw [hn, dv_add] at hlt
  have h1 : dv (sd s) 1 = sd s 0 := by simp [dv]
  rw [h1] at hlt
  have h2 : 10 ^ n ≤ sd s 0 * 10 ^ n := Nat.le_mul_of_pos_left _ hd
  have h3 : 4294967296 ^ k ≤ 10 ^ n := by
    have e : 4294967296 ^ k ≤ (10 ^ 10) ^ k := Nat.pow_le_pow_left (by decide) k
    rw [← Nat.pow_mul] at e
    exact Nat.le_trans e (Nat.pow_le_pow_right (by omega) (by omega))
  omega

end Go.Proofs.Ytfbkdjghbgdgpaa

/- Times in bits, plain: the bits of a zigzag (zb), of a row of times (tbn); that they are told apart, and how long they are. -/
import Derived.Test.YtpdaklklhoenhaaGreatDoorB1I
import Derived.WalkMore
import Derived.ScopeJumps
import Derived.Test.YtpdaklklhoenhaaGreatDoorB1R
/- Reading one number, whatever the Reader's state: where nothing is refused behind it, what has been taken is what the number is laid as. -/
namespace Go.Proofs.YtpdaklklhoenhaaGreatDoor
open Go.RowKit
open M
set_option linter.unusedVariables false

/-- Behind a reading: the state, and, where it was not refused, the bits that it took. -/
def Took (w w' : World) (b off : Nat) (s : ByteArray) (a : Nat) (e0 : Int) (laid : List Bool) : Prop :=
  ∃ (a' : Nat) (e1 : Int), Rd w' b off s a' e1 ∧ Only b off (off + 3) w w' ∧ (e1 = 0 → e0 = 0 ∧ (rb s).take a' = (rb s).take a ++ laid)

theorem take_more (l : List Bool) (a n : Nat) (m : List Bool) (h : (l.drop a).take n = m) : l.take (a + n) = l.take a ++ m := by
  rw [List.take_add, h]

theorem rd_bits (b off : Nat) (s : ByteArray) (a n : Nat) (e0 : Int) (w : World) (h : Rd w b off s a e0) (hn : n ≤ 64) :
    Calls Tryz.prog 81 #[.pointer (some ⟨b, off, none⟩), .int .i64 n] w fun e w' => ∃ x : Nat, e = .returned (.int .u64 (x : Int)) ∧ x < 2 ^ n ∧ Took w w' b off s a e0 (bitsOf x n) := by
  have hpos : 0 < 2 ^ n := Nat.pos_of_ne_zero (by simp)
  by_cases he : e0 = 0
  · subst he
    by_cases hs : a + n ≤ 8 * s.size
    · refine (rbits_ok b off s a n w h hn hs).mono fun e w' ⟨h1, h2, h3⟩ => ?_
      have hlen : (((rb s).drop a).take n).length = n := by simp [rb]; omega
      have hbits := bitsOf_num (((rb s).drop a).take n)
      rw [hlen] at hbits
      refine ⟨_, h1, ?_, a + n, 0, h2, h3, fun _ => ⟨rfl, take_more _ _ _ _ hbits.symm⟩⟩
      have := num_lt (((rb s).drop a).take n)
      rwa [hlen] at this
    · refine (rbits_short b off s a n w h hn (by omega)).mono fun e w' ⟨h1, h2, h3⟩ => ?_
      exact ⟨0, h1, hpos, a, 12, h2, h3, fun h => by omega⟩
  · refine (rbits_bad b off s a n e0 w h (by rw [beq_eq_false_iff_ne]; exact he) (by omega) (by omega)).mono fun e w' ⟨h1, h2, h3⟩ => ?_
    exact ⟨0, h1, hpos, a, e0, h2, h3, fun h => absurd h he⟩

theorem rd_bit (b off : Nat) (s : ByteArray) (a : Nat) (e0 : Int) (w : World) (h : Rd w b off s a e0) :
    Calls Tryz.prog 112 #[.pointer (some ⟨b, off, none⟩)] w fun e w' => ∃ v : Bool, e = .returned (.bool v) ∧ Took w w' b off s a e0 [v] := by
  by_cases he : e0 = 0
  · subst he
    by_cases hs : a + 1 ≤ 8 * s.size
    · refine (rbit_of b off w _ _ (rbits_ok b off s a 1 w h (by omega) hs)).mono fun e w' ⟨h1, h2, h3⟩ => ?_
      have hin : a < (rb s).length := by simp [rb]; omega
      refine ⟨_, h1, a + 1, 0, h2, h3, fun _ => ⟨rfl, take_more _ _ _ _ ?_⟩⟩
      rw [bit_of _ _ hin, List.drop_eq_getElem_cons hin]
      cases (rb s)[a] <;> rfl
    · refine (rbit_of b off w 0 _ (rbits_short b off s a 1 w h (by omega) (by omega))).mono fun e w' ⟨h1, h2, h3⟩ => ?_
      exact ⟨_, h1, a, 12, h2, h3, fun h => by omega⟩
  · refine (rbit_of b off w 0 _ (rbits_bad b off s a 1 e0 w h (by rw [beq_eq_false_iff_ne]; exact he) (by omega) (by omega))).mono fun e w' ⟨h1, h2, h3⟩ => ?_
    exact ⟨_, h1, a, e0, h2, h3, fun h => absurd h he⟩

theorem ones_form (r : List Bool) (k : Nat) (h : OnesAt r k) (hk : k ≤ 64) (hl : k < r.length) : r.take (k + 1) = List.replicate k true ++ [false] := by
  obtain ⟨_, _, h1, h2⟩ := h
  have hf : r[k]? = some false := by
    rcases h2 with h2 | h2 | h2
    · omega
    · omega
    · exact h2
  apply List.ext_getElem?
  intro j
  by_cases hj : j < k
  · rw [List.getElem?_take_of_lt (by omega), h1 j hj, List.getElem?_append_left (by simpa using hj)]; simp [hj]
  · by_cases hj2 : j = k
    · subst hj2
      rw [List.getElem?_take_of_lt (by omega), hf, List.getElem?_append_right (by simp)]; simp
    · rw [List.getElem?_eq_none (by simp; omega), List.getElem?_eq_none (by simp; omega)]


/-- The three ways of a Var: told apart ahead of the call. -/
theorem var_cases (s : ByteArray) (a : Nat) : (∃ x en, readG 10 ((rb s).drop a) 0 0 a = (x, en, 0) ∧ x < 2 ^ 64 ∧ (a ≤ 8 * s.size → en ≤ 8 * s.size) ∧ (rb s).take en = (rb s).take a ++ varB x) ∨ ∃ c, 0 < c ∧ readG 10 ((rb s).drop a) 0 0 a = (0, 0, c) := by
  rcases readG_err 9 ((rb s).drop a) 0 0 a rfl with h | ⟨h1, h2, h3⟩
  · left
    generalize hr : readG 10 ((rb s).drop a) 0 0 a = r at *
    obtain ⟨x, en, c⟩ := r
    simp only at h
    subst h
    obtain ⟨hx, hen, rest, hl⟩ := varB_form _ _ _ _ hr
    refine ⟨x, en, rfl, hx, fun ha => ?_, ?_⟩
    · have h1 : ((rb s).drop a).length = (varB x).length + rest.length := by rw [hl]; simp
      simp [rb] at h1
      omega
    · rw [hen]
      exact take_more _ _ _ _ (by rw [hl]; exact List.take_left' rfl)
  · right
    generalize hr : readG 10 ((rb s).drop a) 0 0 a = r at *
    obtain ⟨x, en, c⟩ := r
    simp only at h1 h2 h3
    subst h1 h2
    exact ⟨c, by omega, rfl⟩

theorem rd_var (b off : Nat) (s : ByteArray) (a : Nat) (e0 : Int) (w : World) (h : Rd w b off s a e0) :
    Calls Tryz.prog 139 #[.pointer (some ⟨b, off, none⟩)] w fun e w' => ∃ x : Nat, e = .returned (.int .u64 (x : Int)) ∧ x < 18446744073709551616 ∧ Took w w' b off s a e0 (varB x) := by
  by_cases he : e0 = 0
  · subst he
    rcases var_cases s a with ⟨x, en, hr, hx, hen, ht⟩ | ⟨c, hc, hr⟩
    · refine (rvar_ok b off s a x en w h hr (hen h.le)).mono fun e w' ⟨h1, h2, h3⟩ => ?_
      exact ⟨x, h1, hx, en, 0, h2, h3, fun _ => ⟨rfl, ht⟩⟩
    · refine (rvar_err b off s a c w h hr hc).mono fun e w' ⟨h1, h2, h3⟩ => ?_
      exact ⟨0, h1, by omega, a, c, h2, h3, fun h => by omega⟩
  · refine (rvar_bad b off s a e0 w h (by rw [beq_eq_false_iff_ne]; exact he)).mono fun e w' ⟨h1, h2, h3⟩ => ?_
    exact ⟨0, h1, by omega, a, e0, h2, h3, fun h => absurd h he⟩

theorem zag_range (x : Nat) (h : x < 18446744073709551616) : -9223372036854775808 ≤ zag x ∧ zag x ≤ 9223372036854775807 := by
  unfold zag; split <;> omega

theorem rd_zig (b off : Nat) (s : ByteArray) (a : Nat) (e0 : Int) (w : World) (h : Rd w b off s a e0) :
    Calls Tryz.prog 143 #[.pointer (some ⟨b, off, none⟩)] w fun e w' => ∃ y : Int, e = .returned (.int .i64 y) ∧ (-9223372036854775808 ≤ y ∧ y ≤ 9223372036854775807) ∧ Took w w' b off s a e0 (varB (zig y)) := by
  by_cases he : e0 = 0
  · subst he
    rcases var_cases s a with ⟨x, en, hr, hx, hen, ht⟩ | ⟨c, hc, hr⟩
    · refine (rzig_of b off w x hx _ (rvar_ok b off s a x en w h hr (hen h.le))).mono fun e w' ⟨h1, h2, h3⟩ => ?_
      exact ⟨zag x, h1, zag_range x hx, en, 0, h2, h3, fun _ => ⟨rfl, by rw [zig_zag]; exact ht⟩⟩
    · refine (rzig_of b off w 0 (by omega) _ (rvar_err b off s a c w h hr hc)).mono fun e w' ⟨h1, h2, h3⟩ => ?_
      exact ⟨zag 0, h1, zag_range 0 (by omega), a, c, h2, h3, fun h => by omega⟩
  · refine (rzig_of b off w 0 (by omega) _ (rvar_bad b off s a e0 w h (by rw [beq_eq_false_iff_ne]; exact he))).mono fun e w' ⟨h1, h2, h3⟩ => ?_
    exact ⟨zag 0, h1, zag_range 0 (by omega), a, e0, h2, h3, fun h => absurd h he⟩

/-- Bytes whose bits are given. -/
theorem rbits_inj : ∀ (a b : List Nat), (∀ n ∈ a, n < 256) → (∀ n ∈ b, n < 256) → rbits a = rbits b → a = b := by
  intro a
  induction a with
  | nil =>
    intro b _ _ h
    cases b with
    | nil => rfl
    | cons y b => have := congrArg List.length h; simp at this; omega
  | cons x a ih =>
    intro b ha hb h
    cases b with
    | nil => have := congrArg List.length h; simp at this
    | cons y b =>
      rw [rbits_cons, rbits_cons] at h
      obtain ⟨h1, h2⟩ := List.append_inj h (by simp)
      have hx := ha x (by simp)
      have hy := hb y (by simp)
      have hn : num (bitsOf x 8) = num (bitsOf y 8) := by rw [h1]
      rw [num_bitsOf, num_bitsOf] at hn
      rw [show x = y from by omega, ih b (fun n hn => ha n (by simp [hn])) (fun n hn => hb n (by simp [hn])) h2]

/-- A reading that ends with OK: what was taken makes these bytes. -/
theorem packed_back (bs : List Nat) (hb : ∀ n ∈ bs, n < 256) (a : Nat) (ha : a ≤ 8 * bs.length) (h8 : 8 * bs.length - a < 8) (hz : num ((rbits bs).drop a) = 0) : packed ((rbits bs).take a) = bs := by
  apply rbits_inj _ _ (packed_lt _) hb
  rw [rbits_packed]
  have hl : ((rbits bs).take a).length = a := by simp; omega
  have hd : (rbits bs).drop a = List.replicate (8 * ((a + 7) / 8) - a) false := by
    apply num_inj
    · simp; omega
    · rw [hz, num_zeros]
  rw [hl, ← hd, List.take_append_drop]

end Go.Proofs.YtpdaklklhoenhaaGreatDoor

/- A scope through which the run jumps forward, by as many gotos as it likes up to a number. -/
namespace Go.Proofs.YtpdaklklhoenhaaGreatDoor
open Go.RowKit
set_option linter.unusedVariables false

theorem hide {p : Prop} (h : p) : Hid p := h

/-- As Q; by a goto: what the way from its label on tells, with one goto fewer. -/
def SJ (P : Program) (c : Code) (Q : Exit → Act → World → Prop) : Nat → Exit → Act → World → Prop
  | 0, .goto _, _, _ => False
  | n + 1, .goto l, a, w => ∃ rest, findLabel c l = some rest ∧ rest.wp P (SJ P c Q n) a w
  | _, .normal, a, w => Q .normal a w
  | _, .exit id, a, w => Q (.exit id) a w
  | _, .ret, a, w => Q .ret a w
  | _, .panic ch, a, w => Q (.panic ch) a w
  | _, .outgrown, a, w => Q .outgrown a w

theorem wp_scope_fwd {P : Program} {a : Act} {w : World} {Q : Exit → Act → World → Prop} {c : Code} (n : Nat) (h : c.wp P (SJ P c Q n) a w) : (Code.scope c).wp P Q a w := by
  intro b k cs
  have key : ∀ n (rest : Code) a w, rest.wp P (SJ P c Q n) a w → ∃ e a' w', Q e a' w' ∧ Arrives P (lone (b.at a (.code rest :: .inScope c :: k)) cs w) b k cs e a' w' := by
    intro n
    induction n with
    | zero =>
      intro rest a w hr
      obtain ⟨e, a₁, w₁, hq, harr⟩ := hr b (.inScope c :: k) cs
      cases e with
      | normal => exact ⟨.normal, a₁, w₁, hq, Steps.trans harr (.one step_inScope)⟩
      | exit id => exact ⟨.exit id, a₁, w₁, hq, fun k' hk => harr k' (by simp [exitTo, hk])⟩
      | goto l' => exact hq.elim
      | ret => exact ⟨_, a₁, w₁, hq, harr⟩
      | panic ch => exact ⟨_, a₁, w₁, hq, harr⟩
      | outgrown => exact ⟨_, a₁, w₁, hq, harr⟩
    | succ n ih =>
      intro rest a w hr
      obtain ⟨e, a₁, w₁, hq, harr⟩ := hr b (.inScope c :: k) cs
      cases e with
      | normal => exact ⟨.normal, a₁, w₁, hq, Steps.trans harr (.one step_inScope)⟩
      | exit id => exact ⟨.exit id, a₁, w₁, hq, fun k' hk => harr k' (by simp [exitTo, hk])⟩
      | goto l' =>
        obtain ⟨r, hf, hr2⟩ := hq
        have hg : gotoIn l' (.inScope c :: k) = some (.code r :: .inScope c :: k) := by simp [gotoIn, hf]
        obtain ⟨e₂, a₂, w₂, hq₂, harr₂⟩ := ih r a₁ w₁ hr2
        exact ⟨e₂, a₂, w₂, hq₂, .of_steps (harr _ hg) harr₂⟩
      | ret => exact ⟨_, a₁, w₁, hq, harr⟩
      | panic ch => exact ⟨_, a₁, w₁, hq, harr⟩
      | outgrown => exact ⟨_, a₁, w₁, hq, harr⟩
  obtain ⟨e, a₁, w₁, hq, harr⟩ := key n c a w h
  exact ⟨e, a₁, w₁, hq, .of_steps (.one step_scope) harr⟩

theorem SJ_goto {P : Program} {c rest : Code} {Q : Exit → Act → World → Prop} (n : Nat) {l : Nat} {a : Act} {w : World} (hf : findLabel c l = some (.seq .skip rest)) (h : rest.wp P (SJ P c Q n) a w) : SJ P c Q (n + 1) (.goto l) a w :=
  ⟨_, hf, wp_seq (wp_skip h)⟩
theorem SJ_ret {P : Program} {c : Code} {Q : Exit → Act → World → Prop} {n : Nat} {a : Act} {w : World} (h : Q .ret a w) : SJ P c Q n .ret a w := by cases n <;> exact h
theorem SJ_normal {P : Program} {c : Code} {Q : Exit → Act → World → Prop} {n : Nat} {a : Act} {w : World} (h : Q .normal a w) : SJ P c Q n .normal a w := by cases n <;> exact h

end Go.Proofs.YtpdaklklhoenhaaGreatDoor

namespace Go.Proofs.YtpdaklklhoenhaaGreatDoor.M

/-- A zigzag's row of the table. -/
def zb (u : Nat) : List Bool :=
  if u = 0 then [false] else if u ≤ 128 then [true, false] ++ bitsOf (u - 1) 7 else if u ≤ 4224 then [true, true, false] ++ bitsOf (u - 129) 12
  else if u ≤ 1052800 then [true, true, true, false] ++ bitsOf (u - 4225) 20 else [true, true, true, true] ++ bitsOf u 64

theorem zb_0 : zb 0 = [false] := rfl
theorem zb_1 (u : Nat) (h1 : 1 ≤ u) (h2 : u ≤ 128) : zb u = [true, false] ++ bitsOf (u - 1) 7 := by
  unfold zb; rw [if_neg (by omega), if_pos h2]
theorem zb_2 (u : Nat) (h1 : 129 ≤ u) (h2 : u ≤ 4224) : zb u = [true, true, false] ++ bitsOf (u - 129) 12 := by
  unfold zb; rw [if_neg (by omega), if_neg (by omega), if_pos h2]
theorem zb_3 (u : Nat) (h1 : 4225 ≤ u) (h2 : u ≤ 1052800) : zb u = [true, true, true, false] ++ bitsOf (u - 4225) 20 := by
  unfold zb; rw [if_neg (by omega), if_neg (by omega), if_neg (by omega), if_pos h2]
theorem zb_4 (u : Nat) (h1 : 1052801 ≤ u) : zb u = [true, true, true, true] ++ bitsOf u 64 := by
  unfold zb; rw [if_neg (by omega), if_neg (by omega), if_neg (by omega), if_neg (by omega)]

/-- How long a zigzag's bits are. -/
def zbl (u : Nat) : Nat := if u = 0 then 1 else if u ≤ 128 then 9 else if u ≤ 4224 then 15 else if u ≤ 1052800 then 24 else 68

theorem zb_length (u : Nat) : (zb u).length = zbl u := by
  unfold zb zbl
  repeat' split
  all_goals simp

theorem zbl_le (u : Nat) : zbl u ≤ 68 := by unfold zbl; repeat' split
                                            all_goals omega

/-- The rows of the table, told apart. -/
theorem zb_cases (u : Nat) : (u = 0 ∧ zb u = [false]) ∨ (1 ≤ u ∧ u ≤ 128 ∧ zb u = [true, false] ++ bitsOf (u - 1) 7) ∨ (129 ≤ u ∧ u ≤ 4224 ∧ zb u = [true, true, false] ++ bitsOf (u - 129) 12) ∨
    (4225 ≤ u ∧ u ≤ 1052800 ∧ zb u = [true, true, true, false] ++ bitsOf (u - 4225) 20) ∨ (1052801 ≤ u ∧ zb u = [true, true, true, true] ++ bitsOf u 64) := by
  by_cases h0 : u = 0
  · exact .inl ⟨h0, by rw [h0]; rfl⟩
  by_cases h1 : u ≤ 128
  · exact .inr (.inl ⟨by omega, h1, zb_1 u (by omega) h1⟩)
  by_cases h2 : u ≤ 4224
  · exact .inr (.inr (.inl ⟨by omega, h2, zb_2 u (by omega) h2⟩))
  by_cases h3 : u ≤ 1052800
  · exact .inr (.inr (.inr (.inl ⟨by omega, h3, zb_3 u (by omega) h3⟩)))
  · exact .inr (.inr (.inr (.inr ⟨by omega, zb_4 u (by omega)⟩)))

theorem bits_inj (x y n : Nat) (r r' : List Bool) (hx : x < 2 ^ n) (hy : y < 2 ^ n) (h : bitsOf x n ++ r = bitsOf y n ++ r') : x = y ∧ r = r' := by
  obtain ⟨h1, h2⟩ := List.append_inj h (by simp)
  have : num (bitsOf x n) = num (bitsOf y n) := by rw [h1]
  rw [num_bitsOf, num_bitsOf, Nat.mod_eq_of_lt hx, Nat.mod_eq_of_lt hy] at this
  exact ⟨this, h2⟩

/-- No zigzag's bits are the beginning of another one's. -/
theorem zb_inj (u v : Nat) (r r' : List Bool) (hu : u < 18446744073709551616) (hv : v < 18446744073709551616) (h : zb u ++ r = zb v ++ r') : u = v ∧ r = r' := by
  rcases zb_cases u with ⟨h1, e1⟩ | ⟨h1, g1, e1⟩ | ⟨h1, g1, e1⟩ | ⟨h1, g1, e1⟩ | ⟨h1, e1⟩ <;>
  rcases zb_cases v with ⟨h2, e2⟩ | ⟨h2, g2, e2⟩ | ⟨h2, g2, e2⟩ | ⟨h2, g2, e2⟩ | ⟨h2, e2⟩ <;> rw [e1, e2] at h <;> simp only [List.cons_append, List.nil_append, List.cons.injEq, Bool.false_eq_true, Bool.true_eq_false, false_and, and_false, true_and] at h
  · exact ⟨by omega, h⟩
  · obtain ⟨k, hr⟩ := bits_inj _ _ _ _ _ (by omega) (by omega) h; exact ⟨by omega, hr⟩
  · obtain ⟨k, hr⟩ := bits_inj _ _ _ _ _ (by omega) (by omega) h; exact ⟨by omega, hr⟩
  · obtain ⟨k, hr⟩ := bits_inj _ _ _ _ _ (by omega) (by omega) h; exact ⟨by omega, hr⟩
  · obtain ⟨k, hr⟩ := bits_inj _ _ _ _ _ (by omega) (by omega) h; exact ⟨by omega, hr⟩

/-- How long a zigzag's bits must be if they begin with k ones. -/
def zlen (k : Nat) : Nat := if k = 0 then 1 else if k = 1 then 9 else if k = 2 then 15 else if k = 3 then 24 else 68

theorem zb_ones (v k : Nat) (hk : k ≤ 4) (r r' : List Bool) (h : zb v ++ r = List.replicate k true ++ r') : zlen k ≤ (zb v).length := by
  have h5 : k = 0 ∨ k = 1 ∨ k = 2 ∨ k = 3 ∨ k = 4 := by omega
  rcases zb_cases v with ⟨h2, e2⟩ | ⟨h2, g2, e2⟩ | ⟨h2, g2, e2⟩ | ⟨h2, g2, e2⟩ | ⟨h2, e2⟩ <;> rw [e2] at h ⊢ <;> rcases h5 with rfl | rfl | rfl | rfl | rfl <;>
    simp [List.replicate_succ, zlen] at h ⊢

theorem take_eq_drop (R l : List Bool) (a b : Nat) (h : R.take b = R.take a ++ l) : R.drop a = l ++ R.drop b := by
  have e1 := List.take_append_drop b R
  rw [h, List.append_assoc] at e1
  have e2 : R.take a ++ (l ++ R.drop b) = R.take a ++ R.drop a := by rw [e1, List.take_append_drop]
  exact (List.append_cancel_left e2).symm

theorem tkn_len (R l : List Bool) (a b : Nat) (h : R.take b = R.take a ++ l) (ha : a ≤ R.length) (hb : b ≤ R.length) : b = a + l.length := by
  have := congrArg List.length h
  simp at this; omega

/-- The end of taking a zigzag that began with k ones. -/
theorem zb_done (R : List Bool) (a ak a' k : Nat) (laid : List Bool) (u : Nat) (hk4 : k ≤ 4) (hu : u < 18446744073709551616) (hz : List.replicate k true ++ laid = zb u) (hl : (zb u).length = zlen k)
    (hk : R.take ak = R.take a ++ List.replicate k true) (ha : a ≤ R.length) (hak : ak ≤ R.length) (e' : Int) (hs : e' = 0 → R.take a' = R.take ak ++ laid) (hf : ak + laid.length ≤ R.length → e' = 0) :
    (e' = 0 → R.take a' = R.take a ++ zb u) ∧ (∀ v r, v < 18446744073709551616 → R.drop a = zb v ++ r → u = v ∧ e' = 0) := by
  have hS : e' = 0 → R.take a' = R.take a ++ zb u := fun h => by rw [hs h, hk, List.append_assoc, hz]
  refine ⟨hS, fun v r hv hr => ?_⟩
  have e1 := take_eq_drop R _ a ak hk
  have e2 := tkn_len R _ a ak hk ha hak
  have e3 := zb_ones v k hk4 r (R.drop ak) (by rw [← hr, e1])
  have e4 : (R.drop a).length = (zb v).length + r.length := by rw [hr]; simp
  have e5 : (zb u).length = k + laid.length := by rw [← hz]; simp
  simp at e2 e4
  have he : e' = 0 := hf (by omega)
  have e6 := take_eq_drop R _ a a' (hS he)
  exact ⟨(zb_inj u v _ _ hu hv (by rw [← hr, e6])).1, he⟩

/-- A time's distance from the one ahead. -/
def dif (t p : Int) : Nat := ((t - p) % 18446744073709551616).toNat
/-- A difference less the one ahead, as an int64. -/
def bend (d a : Nat) : Int := ((d : Int) - (a : Int) + 9223372036854775808) % 18446744073709551616 - 9223372036854775808

/-- An int64. -/
def I64 (x : Int) : Prop := -9223372036854775808 ≤ x ∧ x ≤ 9223372036854775807

theorem dif_lt (t p : Int) : dif t p < 18446744073709551616 := by unfold dif; omega
theorem bend_range (d a : Nat) : I64 (bend d a) := by unfold bend I64; omega
theorem zig_lt' (x : Int) (h : I64 x) : zig x < 18446744073709551616 := by unfold zig; obtain ⟨h1, h2⟩ := h; split <;> omega
theorem zig_inj (x y : Int) (h : zig x = zig y) : x = y := by unfold zig at h; split at h <;> split at h <;> omega
theorem dif_inj (t t' p : Int) (h : I64 t) (h' : I64 t') (e : dif t p = dif t' p) : t = t' := by
  unfold dif at e; obtain ⟨h1, h2⟩ := h; obtain ⟨h3, h4⟩ := h'; omega
theorem bend_inj (d d' a : Nat) (h : d < 18446744073709551616) (h' : d' < 18446744073709551616) (e : bend d a = bend d' a) : d = d' := by
  unfold bend at e; omega

/-- The difference ahead of time i + 1. -/
def ahd (f : Nat → Int) : Nat → Nat
  | 0 => 0
  | i + 1 => dif (f (i + 1)) (f i)

theorem ahd_lt (f : Nat → Int) (i : Nat) : ahd f i < 18446744073709551616 := by
  cases i with
  | zero => simp [ahd]
  | succ i => exact dif_lt _ _

/-- The zigzag of time i + 1. -/
def zg (f : Nat → Int) (i : Nat) : Nat := zig (bend (dif (f (i + 1)) (f i)) (ahd f i))

theorem zg_lt (f : Nat → Int) (i : Nat) : zg f i < 18446744073709551616 := zig_lt' _ (bend_range _ _)

/-- An int64's bits, as a number. -/
def u64 (x : Int) : Nat := (x % 18446744073709551616).toNat

theorem u64_lt (x : Int) : u64 x < 18446744073709551616 := by unfold u64; omega
theorem u64_inj (x y : Int) (hx : I64 x) (hy : I64 y) (h : u64 x = u64 y) : x = y := by
  unfold u64 at h; obtain ⟨h1, h2⟩ := hx; obtain ⟨h3, h4⟩ := hy; omega

/-- The bits of the first n times. -/
def tbn (f : Nat → Int) : Nat → List Bool
  | 0 => []
  | 1 => bitsOf (u64 (f 0)) 64
  | n + 2 => tbn f (n + 1) ++ zb (zg f n)

theorem tbn_one (f : Nat → Int) : tbn f 1 = bitsOf (u64 (f 0)) 64 := rfl
theorem tbn_step (f : Nat → Int) (n : Nat) : tbn f (n + 2) = tbn f (n + 1) ++ zb (zg f n) := rfl

theorem zg_congr (f g : Nat → Int) (i : Nat) (h : ∀ j, j ≤ i + 1 → f j = g j) : zg f i = zg g i := by
  unfold zg
  rw [h (i + 1) (by omega), h i (by omega)]
  cases i with
  | zero => rfl
  | succ i => simp only [ahd]; rw [h (i + 1) (by omega), h i (by omega)]

theorem tbn_congr (f g : Nat → Int) : ∀ n, (∀ i, i < n → f i = g i) → tbn f n = tbn g n
  | 0, _ => rfl
  | 1, h => by rw [tbn_one, tbn_one, h 0 (by omega)]
  | n + 2, h => by rw [tbn_step, tbn_step, tbn_congr f g (n + 1) (fun i hi => h i (by omega)), zg_congr f g n (fun j hj => h j (by omega))]

theorem tbn_pre (f : Nat → Int) (n : Nat) : ∃ r, tbn f (n + 1) = tbn f n ++ r := by
  cases n with
  | zero => exact ⟨_, rfl⟩
  | succ n => exact ⟨_, rfl⟩

theorem tbn_prefix (f : Nat → Int) (n m : Nat) (h : n ≤ m) : ∃ r, tbn f m = tbn f n ++ r := by
  induction m with
  | zero => obtain rfl : n = 0 := by omega
            exact ⟨[], rfl⟩
  | succ m ih =>
    by_cases e : n = m + 1
    · subst e; exact ⟨[], by simp⟩
    · obtain ⟨r, hr⟩ := ih (by omega)
      obtain ⟨r2, hr2⟩ := tbn_pre f m
      exact ⟨r ++ r2, by rw [hr2, hr, List.append_assoc]⟩

/-- What the next zigzag tells of the next time. -/
theorem zg_inj (f g : Nat → Int) (i : Nat) (hf : I64 (f (i + 1))) (hg : I64 (g (i + 1))) (h : ∀ j, j ≤ i → f j = g j) (e : zg f i = zg g i) : f (i + 1) = g (i + 1) := by
  have e1 := zig_inj _ _ e
  have ea : ahd f i = ahd g i := by
    cases i with
    | zero => rfl
    | succ i => simp only [ahd]; rw [h (i + 1) (by omega), h i (by omega)]
  rw [ea, h i (by omega)] at e1
  exact dif_inj _ _ _ hf hg (bend_inj _ _ _ (dif_lt _ _) (dif_lt _ _) e1)

/-- Rows of as many times whose bits begin alike are the same. -/
theorem tbn_inj (f g : Nat → Int) : ∀ n (r r' : List Bool), (∀ i, i < n → I64 (f i)) → (∀ i, i < n → I64 (g i)) → tbn f n ++ r = tbn g n ++ r' → (∀ i, i < n → f i = g i) ∧ r = r'
  | 0, r, r', _, _, h => ⟨fun i hi => by omega, h⟩
  | 1, r, r', hf, hg, h => by
    obtain ⟨h1, h2⟩ := bits_inj _ _ 64 _ _ (u64_lt _) (u64_lt _) h
    refine ⟨fun i hi => ?_, h2⟩
    obtain rfl : i = 0 := by omega
    exact u64_inj _ _ (hf 0 hi) (hg 0 hi) h1
  | n + 2, r, r', hf, hg, h => by
    rw [tbn_step, tbn_step, List.append_assoc, List.append_assoc] at h
    obtain ⟨h1, h2⟩ := tbn_inj f g (n + 1) _ _ (fun i hi => hf i (by omega)) (fun i hi => hg i (by omega)) h
    obtain ⟨h3, h4⟩ := zb_inj _ _ _ _ (zg_lt f n) (zg_lt g n) h2
    refine ⟨fun i hi => ?_, h4⟩
    by_cases e : i = n + 1
    · subst e; exact zg_inj f g n (hf _ hi) (hg _ hi) (fun j hj => h1 j (by omega)) h3
    · exact h1 i (by omega)

theorem tbn_length (f : Nat → Int) : ∀ n, (tbn f (n + 1)).length ≤ 64 + 68 * n
  | 0 => by rw [tbn_one]; simp
  | n + 1 => by
    rw [tbn_step]
    have := tbn_length f n
    have := zbl_le (zg f n)
    rw [List.length_append, zb_length]; omega

theorem tbn_length' (f : Nat → Int) (n : Nat) : (tbn f n).length ≤ 68 * n := by
  cases n with
  | zero => simp [tbn]
  | succ n => have := tbn_length f n; omega

/-- Each time is above the one ahead. -/
def Rises (f : Nat → Int) (n : Nat) : Prop := ∀ i, i + 1 < n → f i < f (i + 1)

/-- What taking a zigzag makes of a time and a difference. -/
theorem take_next (p : Int) (a u : Nat) (hp : I64 p) (y : Int) (hy : zig y = u) (hyr : I64 y) (d : Nat) (hd : (d : Int) = ((a : Int) + y) % 18446744073709551616) (t : Int)
    (ht : t = (p + (d : Int) + 9223372036854775808) % 18446744073709551616 - 9223372036854775808) : I64 t ∧ dif t p = d ∧ bend (dif t p) a = y ∧ zig (bend (dif t p) a) = u := by
  obtain ⟨h1, h2⟩ := hp
  obtain ⟨h3, h4⟩ := hyr
  have e1 : dif t p = d := by unfold dif; omega
  have e2 : bend (dif t p) a = y := by rw [e1]; unfold bend; omega
  exact ⟨⟨by omega, by omega⟩, e1, e2, by rw [e2, hy]⟩

end Go.Proofs.YtpdaklklhoenhaaGreatDoor.M

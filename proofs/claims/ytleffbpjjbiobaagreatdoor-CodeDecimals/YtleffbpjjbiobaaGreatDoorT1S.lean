/- A scope through which the run jumps forward, by as many gotos as it likes up to a number. -/
import Derived.Test.YtleffbpjjbiobaaGreatDoorB1U
import Derived.WalkMore
import Derived.ScopeJumps
/- The contracts of a Reader's ones and Unary. -/
namespace Go.Proofs.YtleffbpjjbiobaaGreatDoor
open Go.RowKit
open M
set_option linter.unusedVariables false

theorem bit_of (l : List Bool) (j : Nat) (h : j < l.length) : num ((l.drop j).take 1) = if l[j] then 1 else 0 := by
  have e : (l.drop j).take 1 = [l[j]] := by
    rw [List.drop_eq_getElem_cons h]; rfl
  rw [e]; simp [num]

/-- How many ones stand in front: k of them, at most 65; behind them the end, a nought, or too many. -/
def OnesAt (r : List Bool) (k : Nat) : Prop := k ≤ 65 ∧ k ≤ r.length ∧ (∀ j, j < k → r[j]? = some true) ∧ (k = 65 ∨ k = r.length ∨ r[k]? = some false)




end Go.Proofs.YtleffbpjjbiobaaGreatDoor

/- Reading one number, whatever the Reader's state: where nothing is refused behind it, what has been taken is what the number is laid as. -/
namespace Go.Proofs.YtleffbpjjbiobaaGreatDoor
open Go.RowKit
open M
set_option linter.unusedVariables false

/-- Behind a reading: the state, and, where it was not refused, the bits that it took. -/
def Took (w w' : World) (b off : Nat) (s : ByteArray) (a : Nat) (e0 : Int) (laid : List Bool) : Prop :=
  ∃ (a' : Nat) (e1 : Int), Rd w' b off s a' e1 ∧ Only b off (off + 3) w w' ∧ (e1 = 0 → e0 = 0 ∧ (rb s).take a' = (rb s).take a ++ laid)

theorem take_more (l : List Bool) (a n : Nat) (m : List Bool) (h : (l.drop a).take n = m) : l.take (a + n) = l.take a ++ m := by
  rw [List.take_add, h]

theorem rd_bits (b off : Nat) (s : ByteArray) (a n : Nat) (e0 : Int) (w : World) (h : Rd w b off s a e0) (hn : n ≤ 64) :
    Calls Tryz.prog 69 #[.pointer (some ⟨b, off, none⟩), .int .i64 n] w fun e w' => ∃ x : Nat, e = .returned (.int .u64 (x : Int)) ∧ x < 2 ^ n ∧ Took w w' b off s a e0 (bitsOf x n) := by
  have hpos : 0 < 2 ^ n := Nat.pos_of_ne_zero (by simp)
  by_cases he : e0 = 0
  · subst he
    by_cases hs : a + n ≤ 8 * s.size
    · refine (rbits_ok b off s a n w h hn hs).mono fun e w' ⟨h1, h2, h3⟩ => ?_
      have hlen : (((rb s).drop a).take n).length = n := by simp [rb]; omega
      have hbits := bitsOf_num (((rb s).drop a).take n)
      rw [hlen] at hbits
      refine ⟨_, h1, ?_, a + n, 0, h2, h3, fun _ => ⟨rfl, take_more _ _ _ _ hbits.symm⟩⟩
      have := num_lt (((rb s).drop a).take n)
      rwa [hlen] at this
    · refine (rbits_short b off s a n w h hn (by omega)).mono fun e w' ⟨h1, h2, h3⟩ => ?_
      exact ⟨0, h1, hpos, a, 12, h2, h3, fun h => by omega⟩
  · refine (rbits_bad b off s a n e0 w h (by rw [beq_eq_false_iff_ne]; exact he) (by omega) (by omega)).mono fun e w' ⟨h1, h2, h3⟩ => ?_
    exact ⟨0, h1, hpos, a, e0, h2, h3, fun h => absurd h he⟩

theorem rd_bit (b off : Nat) (s : ByteArray) (a : Nat) (e0 : Int) (w : World) (h : Rd w b off s a e0) :
    Calls Tryz.prog 139 #[.pointer (some ⟨b, off, none⟩)] w fun e w' => ∃ v : Bool, e = .returned (.bool v) ∧ Took w w' b off s a e0 [v] := by
  by_cases he : e0 = 0
  · subst he
    by_cases hs : a + 1 ≤ 8 * s.size
    · refine (rbit_of b off w _ _ (rbits_ok b off s a 1 w h (by omega) hs)).mono fun e w' ⟨h1, h2, h3⟩ => ?_
      have hin : a < (rb s).length := by simp [rb]; omega
      refine ⟨_, h1, a + 1, 0, h2, h3, fun _ => ⟨rfl, take_more _ _ _ _ ?_⟩⟩
      rw [bit_of _ _ hin, List.drop_eq_getElem_cons hin]
      cases (rb s)[a] <;> rfl
    · refine (rbit_of b off w 0 _ (rbits_short b off s a 1 w h (by omega) (by omega))).mono fun e w' ⟨h1, h2, h3⟩ => ?_
      exact ⟨_, h1, a, 12, h2, h3, fun h => by omega⟩
  · refine (rbit_of b off w 0 _ (rbits_bad b off s a 1 e0 w h (by rw [beq_eq_false_iff_ne]; exact he) (by omega) (by omega))).mono fun e w' ⟨h1, h2, h3⟩ => ?_
    exact ⟨_, h1, a, e0, h2, h3, fun h => absurd h he⟩

theorem ones_form (r : List Bool) (k : Nat) (h : OnesAt r k) (hk : k ≤ 64) (hl : k < r.length) : r.take (k + 1) = List.replicate k true ++ [false] := by
  obtain ⟨_, _, h1, h2⟩ := h
  have hf : r[k]? = some false := by
    rcases h2 with h2 | h2 | h2
    · omega
    · omega
    · exact h2
  apply List.ext_getElem?
  intro j
  by_cases hj : j < k
  · rw [List.getElem?_take_of_lt (by omega), h1 j hj, List.getElem?_append_left (by simpa using hj)]; simp [hj]
  · by_cases hj2 : j = k
    · subst hj2
      rw [List.getElem?_take_of_lt (by omega), hf, List.getElem?_append_right (by simp)]; simp
    · rw [List.getElem?_eq_none (by simp; omega), List.getElem?_eq_none (by simp; omega)]


/-- The three ways of a Var: told apart ahead of the call. -/
theorem var_cases (s : ByteArray) (a : Nat) : (∃ x en, readG 10 ((rb s).drop a) 0 0 a = (x, en, 0) ∧ x < 2 ^ 64 ∧ (a ≤ 8 * s.size → en ≤ 8 * s.size) ∧ (rb s).take en = (rb s).take a ++ varB x) ∨ ∃ c, 0 < c ∧ readG 10 ((rb s).drop a) 0 0 a = (0, 0, c) := by
  rcases readG_err 9 ((rb s).drop a) 0 0 a rfl with h | ⟨h1, h2, h3⟩
  · left
    generalize hr : readG 10 ((rb s).drop a) 0 0 a = r at *
    obtain ⟨x, en, c⟩ := r
    simp only at h
    subst h
    obtain ⟨hx, hen, rest, hl⟩ := varB_form _ _ _ _ hr
    refine ⟨x, en, rfl, hx, fun ha => ?_, ?_⟩
    · have h1 : ((rb s).drop a).length = (varB x).length + rest.length := by rw [hl]; simp
      simp [rb] at h1
      omega
    · rw [hen]
      exact take_more _ _ _ _ (by rw [hl]; exact List.take_left' rfl)
  · right
    generalize hr : readG 10 ((rb s).drop a) 0 0 a = r at *
    obtain ⟨x, en, c⟩ := r
    simp only at h1 h2 h3
    subst h1 h2
    exact ⟨c, by omega, rfl⟩

theorem rd_var (b off : Nat) (s : ByteArray) (a : Nat) (e0 : Int) (w : World) (h : Rd w b off s a e0) :
    Calls Tryz.prog 67 #[.pointer (some ⟨b, off, none⟩)] w fun e w' => ∃ x : Nat, e = .returned (.int .u64 (x : Int)) ∧ x < 18446744073709551616 ∧ Took w w' b off s a e0 (varB x) := by
  by_cases he : e0 = 0
  · subst he
    rcases var_cases s a with ⟨x, en, hr, hx, hen, ht⟩ | ⟨c, hc, hr⟩
    · refine (rvar_ok b off s a x en w h hr (hen h.le)).mono fun e w' ⟨h1, h2, h3⟩ => ?_
      exact ⟨x, h1, hx, en, 0, h2, h3, fun _ => ⟨rfl, ht⟩⟩
    · refine (rvar_err b off s a c w h hr hc).mono fun e w' ⟨h1, h2, h3⟩ => ?_
      exact ⟨0, h1, by omega, a, c, h2, h3, fun h => by omega⟩
  · refine (rvar_bad b off s a e0 w h (by rw [beq_eq_false_iff_ne]; exact he)).mono fun e w' ⟨h1, h2, h3⟩ => ?_
    exact ⟨0, h1, by omega, a, e0, h2, h3, fun h => absurd h he⟩

theorem zag_range (x : Nat) (h : x < 18446744073709551616) : -9223372036854775808 ≤ zag x ∧ zag x ≤ 9223372036854775807 := by
  unfold zag; split <;> omega

theorem rd_zig (b off : Nat) (s : ByteArray) (a : Nat) (e0 : Int) (w : World) (h : Rd w b off s a e0) :
    Calls Tryz.prog 72 #[.pointer (some ⟨b, off, none⟩)] w fun e w' => ∃ y : Int, e = .returned (.int .i64 y) ∧ (-9223372036854775808 ≤ y ∧ y ≤ 9223372036854775807) ∧ Took w w' b off s a e0 (varB (zig y)) := by
  by_cases he : e0 = 0
  · subst he
    rcases var_cases s a with ⟨x, en, hr, hx, hen, ht⟩ | ⟨c, hc, hr⟩
    · refine (rzig_of b off w x hx _ (rvar_ok b off s a x en w h hr (hen h.le))).mono fun e w' ⟨h1, h2, h3⟩ => ?_
      exact ⟨zag x, h1, zag_range x hx, en, 0, h2, h3, fun _ => ⟨rfl, by rw [zig_zag]; exact ht⟩⟩
    · refine (rzig_of b off w 0 (by omega) _ (rvar_err b off s a c w h hr hc)).mono fun e w' ⟨h1, h2, h3⟩ => ?_
      exact ⟨zag 0, h1, zag_range 0 (by omega), a, c, h2, h3, fun h => by omega⟩
  · refine (rzig_of b off w 0 (by omega) _ (rvar_bad b off s a e0 w h (by rw [beq_eq_false_iff_ne]; exact he))).mono fun e w' ⟨h1, h2, h3⟩ => ?_
    exact ⟨zag 0, h1, zag_range 0 (by omega), a, e0, h2, h3, fun h => absurd h he⟩

/-- Bytes whose bits are given. -/
theorem rbits_inj : ∀ (a b : List Nat), (∀ n ∈ a, n < 256) → (∀ n ∈ b, n < 256) → rbits a = rbits b → a = b := by
  intro a
  induction a with
  | nil =>
    intro b _ _ h
    cases b with
    | nil => rfl
    | cons y b => have := congrArg List.length h; simp at this; omega
  | cons x a ih =>
    intro b ha hb h
    cases b with
    | nil => have := congrArg List.length h; simp at this
    | cons y b =>
      rw [rbits_cons, rbits_cons] at h
      obtain ⟨h1, h2⟩ := List.append_inj h (by simp)
      have hx := ha x (by simp)
      have hy := hb y (by simp)
      have hn : num (bitsOf x 8) = num (bitsOf y 8) := by rw [h1]
      rw [num_bitsOf, num_bitsOf] at hn
      rw [show x = y from by omega, ih b (fun n hn => ha n (by simp [hn])) (fun n hn => hb n (by simp [hn])) h2]

/-- A reading that ends with OK: what was taken makes these bytes. -/
theorem packed_back (bs : List Nat) (hb : ∀ n ∈ bs, n < 256) (a : Nat) (ha : a ≤ 8 * bs.length) (h8 : 8 * bs.length - a < 8) (hz : num ((rbits bs).drop a) = 0) : packed ((rbits bs).take a) = bs := by
  apply rbits_inj _ _ (packed_lt _) hb
  rw [rbits_packed]
  have hl : ((rbits bs).take a).length = a := by simp; omega
  have hd : (rbits bs).drop a = List.replicate (8 * ((a + 7) / 8) - a) false := by
    apply num_inj
    · simp; omega
    · rw [hz, num_zeros]
  rw [hl, ← hd, List.take_append_drop]

end Go.Proofs.YtleffbpjjbiobaaGreatDoor

namespace Go.Proofs.YtleffbpjjbiobaaGreatDoor
open Go.RowKit
set_option linter.unusedVariables false

theorem hide {p : Prop} (h : p) : Hid p := h

/-- As Q; by a goto: what the way from its label on tells, with one goto fewer. -/
def SJ (P : Program) (c : Code) (Q : Exit → Act → World → Prop) : Nat → Exit → Act → World → Prop
  | 0, .goto _, _, _ => False
  | n + 1, .goto l, a, w => ∃ rest, findLabel c l = some rest ∧ rest.wp P (SJ P c Q n) a w
  | _, .normal, a, w => Q .normal a w
  | _, .exit id, a, w => Q (.exit id) a w
  | _, .ret, a, w => Q .ret a w
  | _, .panic ch, a, w => Q (.panic ch) a w
  | _, .outgrown, a, w => Q .outgrown a w

theorem wp_scope_fwd {P : Program} {a : Act} {w : World} {Q : Exit → Act → World → Prop} {c : Code} (n : Nat) (h : c.wp P (SJ P c Q n) a w) : (Code.scope c).wp P Q a w := by
  intro b k cs
  have key : ∀ n (rest : Code) a w, rest.wp P (SJ P c Q n) a w → ∃ e a' w', Q e a' w' ∧ Arrives P (lone (b.at a (.code rest :: .inScope c :: k)) cs w) b k cs e a' w' := by
    intro n
    induction n with
    | zero =>
      intro rest a w hr
      obtain ⟨e, a₁, w₁, hq, harr⟩ := hr b (.inScope c :: k) cs
      cases e with
      | normal => exact ⟨.normal, a₁, w₁, hq, Steps.trans harr (.one step_inScope)⟩
      | exit id => exact ⟨.exit id, a₁, w₁, hq, fun k' hk => harr k' (by simp [exitTo, hk])⟩
      | goto l' => exact hq.elim
      | ret => exact ⟨_, a₁, w₁, hq, harr⟩
      | panic ch => exact ⟨_, a₁, w₁, hq, harr⟩
      | outgrown => exact ⟨_, a₁, w₁, hq, harr⟩
    | succ n ih =>
      intro rest a w hr
      obtain ⟨e, a₁, w₁, hq, harr⟩ := hr b (.inScope c :: k) cs
      cases e with
      | normal => exact ⟨.normal, a₁, w₁, hq, Steps.trans harr (.one step_inScope)⟩
      | exit id => exact ⟨.exit id, a₁, w₁, hq, fun k' hk => harr k' (by simp [exitTo, hk])⟩
      | goto l' =>
        obtain ⟨r, hf, hr2⟩ := hq
        have hg : gotoIn l' (.inScope c :: k) = some (.code r :: .inScope c :: k) := by simp [gotoIn, hf]
        obtain ⟨e₂, a₂, w₂, hq₂, harr₂⟩ := ih r a₁ w₁ hr2
        exact ⟨e₂, a₂, w₂, hq₂, .of_steps (harr _ hg) harr₂⟩
      | ret => exact ⟨_, a₁, w₁, hq, harr⟩
      | panic ch => exact ⟨_, a₁, w₁, hq, harr⟩
      | outgrown => exact ⟨_, a₁, w₁, hq, harr⟩
  obtain ⟨e, a₁, w₁, hq, harr⟩ := key n c a w h
  exact ⟨e, a₁, w₁, hq, .of_steps (.one step_scope) harr⟩

theorem SJ_goto {P : Program} {c rest : Code} {Q : Exit → Act → World → Prop} (n : Nat) {l : Nat} {a : Act} {w : World} (hf : findLabel c l = some (.seq .skip rest)) (h : rest.wp P (SJ P c Q n) a w) : SJ P c Q (n + 1) (.goto l) a w :=
  ⟨_, hf, wp_seq (wp_skip h)⟩
theorem SJ_ret {P : Program} {c : Code} {Q : Exit → Act → World → Prop} {n : Nat} {a : Act} {w : World} (h : Q .ret a w) : SJ P c Q n .ret a w := by cases n <;> exact h
theorem SJ_normal {P : Program} {c : Code} {Q : Exit → Act → World → Prop} {n : Nat} {a : Act} {w : World} (h : Q .normal a w) : SJ P c Q n .normal a w := by cases n <;> exact h

end Go.Proofs.YtleffbpjjbiobaaGreatDoor

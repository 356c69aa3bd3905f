/- Texts in quotes, plain: what a text is told as, what is read of one. -/
import Derived.Lib.DecodeN
namespace Go.Proofs.YtgcmdbpanfeaaabGreatDoor
set_option linter.unusedVariables false
set_option linter.unusedSimpArgs false

/-- May a byte stand in quotes as it is? -/
def bareN (c : Nat) : Prop := 32 ≤ c ∧ c ≠ 127
instance (c : Nat) : Decidable (bareN c) := by unfold bareN; infer_instance
def hexd (n : Nat) : Nat := if n < 10 then 48 + n else 87 + n
/-- A digit of base 16. -/
def hexv (c : Nat) : Option Nat := if 48 ≤ c ∧ c ≤ 57 then some (c - 48) else if 97 ≤ c ∧ c ≤ 102 then some (c - 87) else if 65 ≤ c ∧ c ≤ 70 then some (c - 55) else none
def hex2 : List Nat → Option Nat
  | a :: b :: _ => (hexv a).bind fun x => (hexv b).map fun y => 16 * x + y
  | _ => none
/-- The letter at the front of what stands in quotes: the byte, how many bytes it has there. -/
def letL : List Nat → Option (Nat × Nat)
  | [] => none
  | c :: r => if c ≠ 92 then (if bareN c then some (c, 1) else none) else
    match r with
    | [] => none
    | d :: r2 => if d = 34 ∨ d = 92 then some (d, 2) else if d = 110 then some (10, 2) else if d = 120 then (hex2 r2).map fun x => (x, 4) else none
/-- What stands in quotes, its opening one aside, the closing one counted. -/
def unqF : Nat → List Nat → Option (List Nat × Nat)
  | 0, _ => none
  | _ + 1, [] => none
  | f + 1, c :: r => if c = 34 then some ([], 1) else (letL (c :: r)).bind fun x => (unqF f ((c :: r).drop x.2)).map fun p => (x.1 :: p.1, x.2 + p.2)
def unqL (l : List Nat) : Option (List Nat × Nat) := if l.head? = some 34 then (unqF l.length l.tail).map fun p => (p.1, p.2 + 1) else none
/-- The rune at the front, its bytes. -/
def decL (l : List Nat) : Nat × Nat := Go.Lib.decodeN l.length (l.getD 0 0) (l.getD 1 0) (l.getD 2 0) (l.getD 3 0)
/-- What is told for the front of a text. -/
def tokL (l : List Nat) : List Nat :=
  if (decL l).1 = 34 ∨ (decL l).1 = 92 then [92, l.getD 0 0]
  else if (decL l).1 = 10 then [92, 110]
  else if ((decL l).1 = 65533 ∧ (decL l).2 ≤ 1) ∨ ¬ bareN (l.getD 0 0) then [92, 120, hexd (l.getD 0 0 / 16), hexd (l.getD 0 0 % 16)]
  else l.take (decL l).2
def qtF : Nat → List Nat → List Nat
  | 0, _ => []
  | _ + 1, [] => []
  | f + 1, c :: r => tokL (c :: r) ++ qtF f ((c :: r).drop (decL (c :: r)).2)
def qtL (l : List Nat) : List Nat := 34 :: (qtF l.length l ++ [34])

theorem dec_cases (n b0 b1 b2 b3 : Nat) (hn : 1 ≤ n) (h0 : b0 < 256) :
    (b0 < 128 ∧ Go.Lib.decodeN n b0 b1 b2 b3 = (b0, 1)) ∨ (128 ≤ b0 ∧ Go.Lib.decodeN n b0 b1 b2 b3 = (65533, 1)) ∨
    (128 ≤ b0 ∧ 128 ≤ (Go.Lib.decodeN n b0 b1 b2 b3).1 ∧ 2 ≤ (Go.Lib.decodeN n b0 b1 b2 b3).2 ∧ (Go.Lib.decodeN n b0 b1 b2 b3).2 ≤ 4 ∧ (Go.Lib.decodeN n b0 b1 b2 b3).2 ≤ n ∧ 128 ≤ b1 ∧ (3 ≤ (Go.Lib.decodeN n b0 b1 b2 b3).2 → 128 ≤ b2) ∧ (4 ≤ (Go.Lib.decodeN n b0 b1 b2 b3).2 → 128 ≤ b3)) := by
  unfold Go.Lib.decodeN
  repeat' split
  all_goals first | (exact .inl ⟨by assumption, rfl⟩) | (exact .inr (.inl ⟨by omega, rfl⟩)) | (exact .inr (.inr ⟨by omega, by simp only; omega, by simp only; omega, by simp only; omega, by simp only; omega, by omega, by simp only; omega, by simp only; omega⟩))

theorem getD_some {l : List Nat} {i d : Nat} (h : i < l.length) : l[i]? = some (l.getD i d) := by simp [List.getD, h]

theorem decL_cases (l : List Nat) (hn : l ≠ []) (hb : ∀ x ∈ l, x < 256) :
    (l.getD 0 0 < 128 ∧ decL l = (l.getD 0 0, 1)) ∨ (128 ≤ l.getD 0 0 ∧ decL l = (65533, 1)) ∨
    (128 ≤ l.getD 0 0 ∧ 128 ≤ (decL l).1 ∧ 2 ≤ (decL l).2 ∧ (decL l).2 ≤ 4 ∧ (decL l).2 ≤ l.length ∧ ∀ x ∈ l.take (decL l).2, 128 ≤ x) := by
  have hl : 1 ≤ l.length := by cases l with | nil => exact absurd rfl hn | cons a b => simp
  have h0 : l.getD 0 0 < 256 := by
    cases l with | nil => exact absurd rfl hn | cons a b => simpa using hb a (by simp)
  rcases dec_cases l.length (l.getD 0 0) (l.getD 1 0) (l.getD 2 0) (l.getD 3 0) hl h0 with h | h | ⟨a, b, c, d, e, f, g, k⟩
  · exact .inl h
  · exact .inr (.inl h)
  · refine .inr (.inr ⟨a, b, c, d, e, fun x hx => ?_⟩)
    change (decL l).2 ≤ l.length at e
    change 2 ≤ (decL l).2 at c
    change (decL l).2 ≤ 4 at d
    change 3 ≤ (decL l).2 → _ at g
    change 4 ≤ (decL l).2 → _ at k
    obtain ⟨i, hi, rfl⟩ := List.getElem_of_mem hx
    rw [List.length_take] at hi
    have hil : i < l.length := by omega
    have hi4 : i < 4 := by omega
    have e1 : (l.take (decL l).2)[i]'(by rw [List.length_take]; omega) = l.getD i 0 := by
      rw [List.getElem_take]; simp [List.getD, hil]
    rw [e1]
    match i, hi4 with
    | 0, _ => exact a
    | 1, _ => exact f
    | 2, _ => exact g (by omega)
    | 3, _ => exact k (by omega)

theorem decL_size (l : List Nat) (hn : l ≠ []) (hb : ∀ x ∈ l, x < 256) : 1 ≤ (decL l).2 ∧ (decL l).2 ≤ l.length ∧ (decL l).2 ≤ 4 := by
  have hl : 1 ≤ l.length := by cases l with | nil => exact absurd rfl hn | cons a b => simp
  rcases decL_cases l hn hb with ⟨_, h⟩ | ⟨_, h⟩ | ⟨_, _, h1, h2, h3, _⟩
  · rw [h]; exact ⟨Nat.le_refl _, hl, by simp⟩
  · rw [h]; exact ⟨Nat.le_refl _, hl, by simp⟩
  · exact ⟨by omega, h3, h2⟩

/-- These bytes are just one letter, whatever stands behind them; it is the byte c. -/
structure Tok (t : List Nat) (c : Nat) : Prop where
  ne : t ≠ []
  head : t.head? ≠ some 34
  reads : ∀ r, letL (t ++ r) = some (c, t.length)
  part : ∀ k, 0 < k → k < t.length → letL (t.take k) = none
  bare : ∀ x ∈ t, bareN x ∧ x < 256
/-- A row of letters. -/
inductive Enc : List Nat → List Nat → Prop
  | nil : Enc [] []
  | cons (t : List Nat) (c : Nat) (q s : List Nat) : Tok t c → Enc q s → Enc (t ++ q) (c :: s)

theorem Enc.app {q s q2 s2 : List Nat} (h : Enc q s) (h2 : Enc q2 s2) : Enc (q ++ q2) (s ++ s2) := by
  induction h with
  | nil => exact h2
  | cons t c q s ht _ ih => rw [List.append_assoc]; exact .cons t c _ _ ht ih

theorem hexv_hexd : ∀ n, n < 16 → hexv (hexd n) = some n ∧ bareN (hexd n) ∧ hexd n < 256 := by decide

theorem tok_bare (c : Nat) (h : bareN c) (h2 : c ≠ 92) (h3 : c ≠ 34) (h4 : c < 256) : Tok [c] c where
  ne := by simp
  head := by simpa using h3
  reads r := by simp [letL, h2, h]
  part k h1 h2 := by simp at h2; omega
  bare x hx := by simp at hx; rw [hx]; exact ⟨h, h4⟩

theorem tok_self (c : Nat) (h : c = 34 ∨ c = 92) : Tok [92, c] c where
  ne := by simp
  head := by simp
  reads r := by rcases h with rfl | rfl <;> simp [letL]
  part k h1 h2 := by
    have : k = 1 := by simp at h2; omega
    subst this; rfl
  bare x hx := by rcases h with rfl | rfl <;> (simp at hx; rcases hx with rfl | rfl <;> decide)

theorem tok_n : Tok [92, 110] 10 where
  ne := by simp
  head := by simp
  reads r := by simp [letL]
  part k h1 h2 := by
    have : k = 1 := by simp at h2; omega
    subst this; rfl
  bare x hx := by simp at hx; rcases hx with rfl | rfl <;> decide

theorem tok_x (c : Nat) (h : c < 256) : Tok [92, 120, hexd (c / 16), hexd (c % 16)] c where
  ne := by simp
  head := by simp
  reads r := by
    have h1 := (hexv_hexd (c / 16) (by omega)).1
    have h2 := (hexv_hexd (c % 16) (by omega)).1
    simp only [letL, List.cons_append, List.nil_append, hex2, h1, h2, Option.bind_some, Option.map_some]
    have : 16 * (c / 16) + c % 16 = c := by omega
    rw [this]; simp
  part k h1 h2 := by
    have : k = 1 ∨ k = 2 ∨ k = 3 := by simp at h2; omega
    rcases this with rfl | rfl | rfl
    · rfl
    · simp [letL, hex2]
    · simp [letL, hex2]
  bare x hx := by
    have h1 := (hexv_hexd (c / 16) (by omega)).2
    have h2 := (hexv_hexd (c % 16) (by omega)).2
    simp at hx
    rcases hx with rfl | rfl | rfl | rfl
    · decide
    · decide
    · exact h1
    · exact h2

theorem enc_high : ∀ l : List Nat, (∀ x ∈ l, 128 ≤ x ∧ x < 256) → Enc l l
  | [], _ => .nil
  | c :: r, h => by
    have hc := h c (by simp)
    exact .cons [c] c r r (tok_bare c ⟨by omega, by omega⟩ (by omega) (by omega) hc.2) (enc_high r fun x hx => h x (by simp [hx]))

theorem enc_tok (l : List Nat) (hn : l ≠ []) (hb : ∀ x ∈ l, x < 256) : Enc (tokL l) (l.take (decL l).2) := by
  obtain ⟨c, r, rfl⟩ : ∃ c r, l = c :: r := by cases l with | nil => exact absurd rfl hn | cons c r => exact ⟨c, r, rfl⟩
  have hc : c < 256 := hb c (by simp)
  have one : ∀ t, Tok t c → Enc t [c] := fun t ht => by simpa using Enc.cons t c [] [] ht .nil
  unfold tokL
  rcases decL_cases (c :: r) hn hb with ⟨h1, h⟩ | ⟨h1, h⟩ | ⟨h1, h2, h3, h4, h5, h6⟩
  · have h1' : c < 128 := by simpa using h1
    rw [h]
    simp only [List.getD_cons_zero, List.take_succ_cons, List.take_zero]
    split
    · rename_i hq; exact one _ (tok_self c hq)
    · split
      · rename_i hq; subst hq; exact one _ tok_n
      · split
        · exact one _ (tok_x c hc)
        · rename_i a b d
          exact one _ (tok_bare c (by simp at d; exact d.2) (by omega) (by omega) hc)
  · have h1' : 128 ≤ c := by simpa using h1
    rw [h]
    simp only [List.getD_cons_zero, List.take_succ_cons, List.take_zero]
    rw [if_neg (by omega), if_neg (by omega), if_pos (.inl ⟨trivial, Nat.le_refl _⟩)]
    exact one _ (tok_x c hc)
  · have h1' : 128 ≤ c := by simpa using h1
    rw [if_neg (by omega), if_neg (by omega), if_neg (by
      rintro (⟨a, b⟩ | b)
      · omega
      · exact b ⟨by simp; omega, by simp; omega⟩)]
    exact enc_high _ fun x hx => ⟨h6 x hx, hb x (List.mem_of_mem_take hx)⟩

theorem enc_qt : ∀ (f : Nat) (l : List Nat), l.length ≤ f → (∀ x ∈ l, x < 256) → Enc (qtF f l) l
  | 0, l, h, _ => by
    have : l = [] := List.length_eq_zero_iff.1 (by omega)
    subst this; exact .nil
  | f + 1, [], _, _ => .nil
  | f + 1, c :: r, h, hb => by
    have h1 := decL_size (c :: r) (by simp) hb
    have h2 := enc_tok (c :: r) (by simp) hb
    have h3 := enc_qt f ((c :: r).drop (decL (c :: r)).2) (by rw [List.length_drop]; simp at h ⊢; omega) (fun x hx => hb x (List.mem_of_mem_drop hx))
    have h4 := h2.app h3
    rw [List.take_append_drop] at h4
    exact h4

theorem Enc.bare {q s : List Nat} (h : Enc q s) : ∀ x ∈ q, bareN x ∧ x < 256 := by
  induction h with
  | nil => simp
  | cons t c q s ht _ ih =>
    intro x hx
    rcases List.mem_append.1 hx with hx | hx
    · exact ht.bare x hx
    · exact ih x hx

/-- One step of reading. -/
theorem unqF_tok (f : Nat) (t r : List Nat) (c : Nat) (ht : Tok t c) : unqF (f + 1) (t ++ r) = (unqF f r).map fun p => (c :: p.1, t.length + p.2) := by
  obtain ⟨a, b, rfl⟩ : ∃ a b, t = a :: b := by cases t with | nil => exact absurd rfl ht.ne | cons a b => exact ⟨a, b, rfl⟩
  have h1 : a ≠ 34 := by simpa using ht.head
  have h2 := ht.reads r
  rw [List.cons_append] at h2 ⊢
  rw [unqF, if_neg h1, h2, Option.bind_some]
  have : (a :: (b ++ r)).drop (a :: b).length = r := by
    rw [← List.cons_append, List.drop_append_of_le_length (Nat.le_refl _), List.drop_length, List.nil_append]
  rw [this]

theorem unq_enc {q s : List Nat} (h : Enc q s) (tail : List Nat) : ∀ f, q.length < f → unqF f (q ++ 34 :: tail) = some (s, q.length + 1) := by
  induction h with
  | nil =>
    intro f hf
    match f, hf with
    | f + 1, _ => simp [unqF]
  | cons t c q s ht _ ih =>
    intro f hf
    have hp : 0 < t.length := List.length_pos_iff.2 ht.ne
    rw [List.length_append] at hf
    match f, hf with
    | f + 1, hf =>
      rw [List.append_assoc, unqF_tok f t _ c ht, ih f (by omega)]
      simp; omega

theorem unqF_nil (f : Nat) : unqF f [] = none := by cases f <;> rfl

theorem unq_part {q s : List Nat} (h : Enc q s) : ∀ f k, k ≤ q.length → unqF f ((q ++ [34]).take k) = none := by
  induction h with
  | nil =>
    intro f k hk
    have : k = 0 := by simpa using hk
    subst this; exact unqF_nil f
  | cons t c q s ht _ ih =>
    intro f k hk
    match f with
    | 0 => rfl
    | f + 1 =>
    by_cases h1 : k < t.length
    · have e : (t ++ q ++ [34]).take k = t.take k := by rw [List.append_assoc, List.take_append_of_le_length (by omega)]
      rw [e]
      by_cases h0 : k = 0
      · subst h0; exact unqF_nil _
      · have h2 := ht.part k (by omega) h1
        obtain ⟨a, b, rfl⟩ : ∃ a b, t = a :: b := by cases t with | nil => exact absurd rfl ht.ne | cons a b => exact ⟨a, b, rfl⟩
        obtain ⟨j, rfl⟩ : ∃ j, k = j + 1 := ⟨k - 1, by omega⟩
        rw [List.take_succ_cons] at h2 ⊢
        have h3 : a ≠ 34 := by simpa using ht.head
        rw [unqF, if_neg h3, h2]; rfl
    · have e : (t ++ q ++ [34]).take k = t ++ (q ++ [34]).take (k - t.length) := by
        rw [List.append_assoc, List.take_append, List.take_of_length_le (by omega)]
      rw [e, unqF_tok f t _ c ht, ih f _ (by rw [List.length_append] at hk; omega)]; rfl

theorem qtL_length (s : List Nat) : (qtL s).length = (qtF s.length s).length + 2 := by simp [qtL]

/-- What is told in quotes is read as it was, whatever stands behind it. -/
theorem unq_qt (s tail : List Nat) (hb : ∀ x ∈ s, x < 256) : unqL (qtL s ++ tail) = some (s, (qtL s).length) := by
  have h := unq_enc (enc_qt s.length s (Nat.le_refl _) hb) tail (qtL s ++ tail).length (by simp [qtL]; omega)
  unfold unqL
  rw [if_pos (by simp [qtL])]
  have e : (qtL s ++ tail).tail = qtF s.length s ++ 34 :: tail := by simp [qtL]
  rw [e, h, qtL_length]; rfl

/-- No beginning of it is. -/
theorem unq_qt_part (s : List Nat) (hb : ∀ x ∈ s, x < 256) (k : Nat) (hk : k < (qtL s).length) : unqL ((qtL s).take k) = none := by
  rw [qtL_length] at hk
  unfold unqL
  by_cases h0 : k = 0
  · subst h0; rfl
  · obtain ⟨j, rfl⟩ : ∃ j, k = j + 1 := ⟨k - 1, by omega⟩
    have e : (qtL s).take (j + 1) = 34 :: (qtF s.length s ++ [34]).take j := by simp [qtL]
    rw [e, if_pos (by simp), List.tail_cons, unq_part (enc_qt s.length s (Nat.le_refl _) hb) _ j (by omega)]; rfl

theorem qtL_bare (s : List Nat) (hb : ∀ x ∈ s, x < 256) : ∀ x ∈ qtL s, bareN x ∧ x < 256 := by
  intro x hx
  simp only [qtL, List.mem_cons, List.mem_append, List.not_mem_nil, or_false] at hx
  rcases hx with rfl | hx | rfl
  · decide
  · exact (enc_qt s.length s (Nat.le_refl _) hb).bare x hx
  · decide

theorem tokL_le (l : List Nat) (hn : l ≠ []) (hb : ∀ x ∈ l, x < 256) : (tokL l).length ≤ 4 * (decL l).2 := by
  have h := decL_size l hn hb
  unfold tokL
  repeat' split
  all_goals simp
  all_goals omega

theorem qtF_le : ∀ (f : Nat) (l : List Nat), l.length ≤ f → (∀ x ∈ l, x < 256) → (qtF f l).length ≤ 4 * l.length
  | 0, l, h, _ => by simp [qtF]
  | f + 1, [], _, _ => by simp [qtF]
  | f + 1, c :: r, h, hb => by
    have h1 := decL_size (c :: r) (by simp) hb
    have h2 := tokL_le (c :: r) (by simp) hb
    have h3 := qtF_le f ((c :: r).drop (decL (c :: r)).2) (by rw [List.length_drop]; simp at h ⊢; omega) (fun x hx => hb x (List.mem_of_mem_drop hx))
    rw [List.length_drop] at h3
    rw [qtF, List.length_append]
    omega

theorem qtL_le (s : List Nat) (hb : ∀ x ∈ s, x < 256) : (qtL s).length ≤ 4 * s.length + 2 := by
  have := qtF_le s.length s (Nat.le_refl _) hb
  rw [qtL_length]; omega

end Go.Proofs.YtgcmdbpanfeaaabGreatDoor

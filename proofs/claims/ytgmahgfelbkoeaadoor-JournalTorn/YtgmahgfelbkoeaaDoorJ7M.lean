/- A file of records that ends anywhere. -/
import Derived.Test.YtgmahgfelbkoeaaDoorJ7A
import Derived.Test.YtgmahgfelbkoeaaDoorJ6C
namespace Go.Proofs.YtgmahgfelbkoeaaDoor
open Go.RowKit
set_option linter.unusedVariables false
set_option linter.unusedSimpArgs false

theorem recHead_torn (r : List (List Nat)) (t : List Nat) (m : Nat) (hr : Okr r) (hm : m < (recB r).length) : recHead ((recB r ++ t).take m) = .stop := by
  have hl := recB_len r
  have hb := hr.2
  have hlen : ((recB r ++ t).take m).length = m := by rw [List.length_take, List.length_append]; omega
  unfold recHead
  rw [hlen]
  by_cases h8 : m < 8
  · rw [if_pos h8]
  · rw [if_neg h8]
    have hn : num4 ((recB r ++ t).take m) = (bodyB r).length := by
      have e : (recB r ++ t).take m = four (bodyB r).length ++ ((four (crcO (four (bodyB r).length ++ bodyB r)) ++ bodyB r ++ t).take (m - 4)) := by
        have e1 : recB r ++ t = four (bodyB r).length ++ (four (crcO (four (bodyB r).length ++ bodyB r)) ++ bodyB r ++ t) := by unfold recB; simp only [List.append_assoc]
        rw [e1, List.take_append, four_len, List.take_of_length_le (by rw [four_len]; omega)]
      rw [e]
      exact num4_four _ (by omega) _
    rw [hn, if_neg (by omega), if_pos (by omega)]

theorem recs_take_len (ff : List (List (List Nat))) : ∀ k, k + 1 ≤ ff.length → (recsB (ff.take k)).length + 8 ≤ (recsB (ff.take (k + 1))).length := fun k hk => by
  rw [List.take_succ_eq_append_getElem (by omega), recsB_app, List.length_append]
  have := recB_len (ff[k]'(by omega))
  simp only [recsB, List.append_nil]
  omega

theorem tkRecs_torn : ∀ (k : Nat) (ff recs : List (List (List Nat))) (f m : Nat), (∀ r ∈ ff, Okr r) → m ≤ (recsB ff).length → k ≤ ff.length → (recsB (ff.take k)).length ≤ m → (k = ff.length ∨ m < (recsB (ff.take (k + 1))).length) → m < f → tkRecs f ((recsB ff).take m) recs = some (recs ++ ff.take k, m - (recsB (ff.take k)).length)
  | 0, [], recs, f, m, _, hm, _, _, _, hf => by
    have h0 : m = 0 := by simpa [recsB] using hm
    subst h0
    obtain ⟨f', rfl⟩ : ∃ f', f = f' + 1 := ⟨f - 1, by omega⟩
    simp only [recsB, List.take_zero]
    rw [tkRecs_end recHead_none]
    simp [recsB]
  | 0, r :: t, recs, f, m, hok, hm, _, _, h2, hf => by
    have h2' : m < (recB r).length := by
      rcases h2 with h | h
      · simp at h
      · simpa [recsB] using h
    have hs := recHead_torn r (recsB t) m (hok r (by simp)) h2'
    have hlen : ((recB r ++ recsB t).take m).length = m := by rw [List.length_take, List.length_append]; omega
    rw [recsB, tkRecs_stop (by rw [hlen]; exact hf) hs, hlen]
    simp [recsB]
  | k + 1, [], recs, f, m, _, _, hk, _, _, _ => by simp at hk
  | k + 1, r :: t, recs, f, m, hok, hm, hk, h1, h2, hf => by
    have hr := hok r (by simp)
    have hl := recB_len r
    simp only [recsB, List.length_append, List.take_succ_cons, List.length_cons] at hm hk h1 h2
    obtain ⟨f', rfl⟩ : ∃ f', f = f' + 1 := ⟨f - 1, by omega⟩
    have h3 := tkRows_body r [] ((bodyB r).length + 1) (by simpa using hr.1) (by have := hr.2; omega) (by omega)
    rw [List.nil_append] at h3
    have e : (recsB (r :: t)).take m = recB r ++ (recsB t).take (m - (recB r).length) := by
      rw [recsB, List.take_append, List.take_of_length_le (by omega)]
    rw [e, tkRecs_rec (recHead_rec r _ hr) h3, tkRecs_torn k t (recs ++ [r]) f' (m - (recB r).length) (fun x hx => hok x (by simp [hx])) (by omega) (by omega) (by omega) (by omega) (by omega)]
    simp only [List.append_assoc, List.singleton_append, List.take_succ_cons, recsB, List.length_append, Option.some.injEq, Prod.mk.injEq, true_and]
    omega

/-- How many records stand whole ahead of n. -/
structure Whole (ff : List (List (List Nat))) (n k : Nat) : Prop where
  le : k ≤ ff.length
  at_ : n < 8 ∧ k = 0 ∨ pl ff k ≤ n
  end_ : k = ff.length ∨ n < pl ff (k + 1)

theorem pl_mono (ff : List (List (List Nat))) : ∀ (b a : Nat), a ≤ b → b ≤ ff.length → pl ff a ≤ pl ff b
  | 0, a, h, _ => by rw [show a = 0 from by omega]; exact Nat.le_refl _
  | b + 1, a, h, hb => by
    by_cases e : a = b + 1
    · rw [e]; exact Nat.le_refl _
    · have h1 := pl_mono ff b a (by omega) (by omega)
      have h2 := recs_take_len ff b hb
      unfold pl at *
      omega
theorem pl_one (ff : List (List (List Nat))) (h : 1 ≤ ff.length) : 16 ≤ pl ff 1 := by
  have := recs_take_len ff 0 h
  rw [Nat.zero_add] at this
  unfold pl
  omega
theorem pl_zero (ff : List (List (List Nat))) : pl ff 0 = 8 := by simp [pl, recsB]

theorem whole_of (ff : List (List (List Nat))) (n : Nat) : ∃ k, Whole ff n k := by
  by_cases h8 : n < 8
  · refine ⟨0, by omega, .inl ⟨h8, rfl⟩, ?_⟩
    by_cases h0 : ff.length = 0
    · exact .inl h0.symm
    · right; have := pl_one ff (by omega); rw [Nat.zero_add]; omega
  · have : ∀ m, m ≤ ff.length → ∃ k, k ≤ m ∧ pl ff k ≤ n ∧ (k = m ∨ n < pl ff (k + 1)) := by
      intro m
      induction m with
      | zero => intro _; exact ⟨0, Nat.le_refl _, by rw [pl_zero]; omega, .inl rfl⟩
      | succ m ih =>
        intro hm
        obtain ⟨k, h1, h2, h3⟩ := ih (by omega)
        rcases h3 with h3 | h3
        · subst h3
          by_cases h4 : pl ff (k + 1) ≤ n
          · exact ⟨k + 1, Nat.le_refl _, h4, .inl rfl⟩
          · exact ⟨k, by omega, h2, .inr (by omega)⟩
        · exact ⟨k, by omega, h2, .inr h3⟩
    obtain ⟨k, h1, h2, h3⟩ := this ff.length (Nat.le_refl _)
    exact ⟨k, h1, .inr h2, h3⟩

theorem file_take (ff : List (List (List Nat))) (k : Nat) (hk : k ≤ ff.length) : (headB ++ recsB ff).take (pl ff k) = headB ++ recsB (ff.take k) := by
  have e : recsB ff = recsB (ff.take k) ++ recsB (ff.drop k) := by rw [← recsB_app, List.take_append_drop]
  rw [e, ← List.append_assoc]
  exact List.take_left' (by rw [List.length_append]; rfl)

/-- What Open takes of a file that ends at n, not within its head. -/
theorem tk_torn (ff : List (List (List Nat))) (n k : Nat) (hok : ∀ r ∈ ff, Okr r) (hn : n ≤ (headB ++ recsB ff).length) (h8 : 8 ≤ n) (h : Whole ff n k) : tkRecs (((headB ++ recsB ff).take n).length + 1) (((headB ++ recsB ff).take n).drop 8) [] = some (ff.take k, n - pl ff k) := by
  have hl : (headB ++ recsB ff).length = 8 + (recsB ff).length := by rw [List.length_append]; rfl
  have e : ((headB ++ recsB ff).take n).drop 8 = (recsB ff).take (n - 8) := by
    rw [List.take_append, List.take_of_length_le (by show 8 ≤ n; exact h8)]
    exact List.drop_left' rfl
  have hp : pl ff k ≤ n := by rcases h.at_ with h1 | h1; omega; exact h1
  rw [e, List.length_take, show min n (headB ++ recsB ff).length = n from by omega, tkRecs_torn k ff [] (n + 1) (n - 8) hok (by omega) h.le (by unfold pl at hp; omega) (by rcases h.end_ with h1 | h1; exact .inl h1; right; unfold pl at h1; omega) (by omega), List.nil_append]
  congr 2
  unfold pl
  omega

end Go.Proofs.YtgmahgfelbkoeaaDoor

/- What is laid record by record is taken again. Plain mathematics. -/
import Derived.Test.YtgmahgfelbkoeaaDoorJ2F
namespace Go.Proofs.YtgmahgfelbkoeaaDoor
set_option linter.unusedVariables false

theorem bodyB_app (a b : List (List Nat)) : bodyB (a ++ b) = bodyB a ++ bodyB b := by
  induction a with
  | nil => rfl
  | cons r t ih => simp [bodyB, ih]

theorem bodyP_B (q : Nat → List Nat) (m : Nat) : bodyP q m = bodyB ((List.range m).map q) := by
  induction m with
  | zero => rfl
  | succ m ih => rw [bodyP, ih, List.range_succ, List.map_append, bodyB_app]; simp [bodyB]

theorem recP_B (q : Nat → List Nat) (m : Nat) : recP q m = recB ((List.range m).map q) := by
  unfold recP recB; rw [bodyP_B]

theorem four_len (x : Nat) : (four x).length = 4 := rfl

theorem row_len (r : List Nat) (t : List (List Nat)) : (bodyB (r :: t)).length = 4 + r.length + (bodyB t).length := by
  simp [bodyB, four_len]; omega

theorem rowHead_row (r : List Nat) (t : List (List Nat)) (k : Nat) (hr : r.length < 4294967296) (hk : k < 4096) : rowHead (bodyB (r :: t)) k = .go r (bodyB t) := by
  have h4 : num4 (bodyB (r :: t)) = r.length := by
    simp only [bodyB, List.append_assoc]; exact num4_four _ hr _
  have hl := row_len r t
  unfold rowHead
  rw [h4, if_neg (by omega), if_neg (by omega), if_neg (by omega), if_neg (by omega)]
  congr 1
  · simp only [bodyB, List.append_assoc]
    rw [List.drop_left' (four_len _), List.take_left' rfl]
  · rw [← List.drop_drop]
    simp only [bodyB, List.append_assoc]
    rw [List.drop_left' (four_len _), List.drop_left' rfl]

theorem tkRows_body : ∀ (rs rows : List (List Nat)) (f : Nat), rows.length + rs.length ≤ 4096 → (bodyB rs).length < 4294967296 → (bodyB rs).length < f → tkRows f (bodyB rs) rows = some (rows ++ rs)
  | [], rows, f + 1, _, _, _ => by
    rw [tkRows_step]; simp [bodyB, rowHead]
  | r :: t, rows, f + 1, h1, h2, h3 => by
    have hl := row_len r t
    rw [tkRows_step, rowHead_row r t _ (by omega) (by simp at h1; omega)]
    show tkRows f (bodyB t) (rows ++ [r]) = _
    rw [tkRows_body t (rows ++ [r]) f (by simp at h1 ⊢; omega) (by omega) (by omega)]
    simp

/-- A record that may be laid. -/
def Okr (r : List (List Nat)) : Prop := r.length ≤ 4096 ∧ (bodyB r).length ≤ 4194304

/-- Records, one behind the other. -/
def recsB : List (List (List Nat)) → List Nat
  | [] => []
  | r :: t => recB r ++ recsB t

theorem recsB_app (a b : List (List (List Nat))) : recsB (a ++ b) = recsB a ++ recsB b := by
  induction a with
  | nil => rfl
  | cons r t ih => simp [recsB, ih]

theorem recB_len (r : List (List Nat)) : (recB r).length = 8 + (bodyB r).length := by
  simp only [recB, List.length_append, four_len]

theorem recHead_rec (r : List (List Nat)) (t : List Nat) (hr : Okr r) : recHead (recB r ++ t) = .go (bodyB r) t := by
  have hb := hr.2
  have h4 : num4 (recB r ++ t) = (bodyB r).length := by
    unfold recB; simp only [List.append_assoc]; exact num4_four _ (by omega) _
  have hl : (recB r ++ t).length = 8 + (bodyB r).length + t.length := by rw [List.length_append, recB_len]
  have d4 : (recB r ++ t).drop 4 = four (crcO (four (bodyB r).length ++ bodyB r)) ++ (bodyB r ++ t) := by
    unfold recB; simp only [List.append_assoc]; rw [List.drop_left' (four_len _)]
  have d8 : (recB r ++ t).drop 8 = bodyB r ++ t := by
    rw [show (8 : Nat) = 4 + 4 from rfl, ← List.drop_drop, d4, List.drop_left' (four_len _)]
  have t4 : (recB r ++ t).take 4 = four (bodyB r).length := by
    unfold recB; simp only [List.append_assoc]; rw [List.take_left' (four_len _)]
  have n4 : num4 ((recB r ++ t).drop 4) = crcO (four (bodyB r).length ++ bodyB r) := by
    rw [d4]; exact num4_four _ (crcO_lt _) _
  unfold recHead
  rw [h4, n4, t4, d8, if_neg (by omega), if_neg (by omega), if_neg (by omega), List.take_left' rfl, if_neg (by simp)]
  congr 1
  rw [← List.drop_drop, d8, List.drop_left' rfl]

theorem tkRecs_rec {f : Nat} {left b l : List Nat} {recs : List (List (List Nat))} {rows : List (List Nat)} (h : recHead left = .go b l) (h2 : tkRows (b.length + 1) b [] = some rows) : tkRecs (f + 1) left recs = tkRecs f l (recs ++ [rows]) := by
  rw [tkRecs_step, h]
  simp only [h2]
theorem tkRecs_end {f : Nat} {left : List Nat} {recs : List (List (List Nat))} (h : recHead left = .stop) : tkRecs (f + 1) left recs = some (recs, left.length) := by
  rw [tkRecs_step, h]
theorem recHead_none : recHead [] = .stop := rfl

theorem tkRecs_recs (rr : List (List (List Nat))) : ∀ (recs : List (List (List Nat))) (f : Nat), (∀ r ∈ rr, Okr r) → (recsB rr).length < f → tkRecs f (recsB rr) recs = some (recs ++ rr, 0) := by
  induction rr with
  | nil =>
    intro recs f _ h2
    obtain ⟨f', rfl⟩ : ∃ f', f = f' + 1 := ⟨f - 1, by omega⟩
    rw [recsB, tkRecs_end recHead_none, List.append_nil, List.length_nil]
  | cons r t ih =>
    intro recs f h1 h2
    have hr := h1 r (by simp)
    have hl : (recsB (r :: t)).length = 8 + (bodyB r).length + (recsB t).length := by rw [recsB, List.length_append, recB_len]
    obtain ⟨f', rfl⟩ : ∃ f', f = f' + 1 := ⟨f - 1, by omega⟩
    have h3 := tkRows_body r [] ((bodyB r).length + 1) (by simpa using hr.1) (by have := hr.2; omega) (by omega)
    rw [List.nil_append] at h3
    rw [recsB, tkRecs_rec (recHead_rec r _ hr) h3, ih (recs ++ [r]) f' (fun x hx => h1 x (by simp [hx])) (by omega), List.append_assoc, List.singleton_append]

/-- A file of records tells them again. -/
theorem tk_file (rr : List (List (List Nat))) (h : ∀ r ∈ rr, Okr r) : tkRecs ((headB ++ recsB rr).length + 1) ((headB ++ recsB rr).drop 8) [] = some (rr, 0) := by
  rw [List.drop_left' (show headB.length = 8 from rfl), tkRecs_recs rr [] _ h (by simp; omega)]
  rfl

end Go.Proofs.YtgmahgfelbkoeaaDoor

/- CodeMoves: what a column's sizes are when it is turned round, changed by the same bits, moved by the same. Plain mathematics. -/
import Derived.Test.YtgjjkopmoobilaaGreatDoorC5O
import Derived.Test.YtgjjkopmoobilaaGreatDoorCards
import Derived.Test.YtgjjkopmoobilaaGreatDoorTie
import Derived.LaidMore
import Derived.Lay
import Derived.SevenTiedAt
import Derived.Test.YtgjjkopmoobilaaGreatDoorP1T
import Derived.Test.YtgjjkopmoobilaaGreatDoorC2I
/- The library's table, as the card ties it. -/
namespace Go.Proofs.YtgjjkopmoobilaaGreatDoor
open Go.ChangeShapes Go.WideShapes Go.ChangeAt Go.RowKit
open M
set_option linter.unusedVariables false

def laidTab : List (String × DataW Unit) := [("math/bits.deBruijn64tab", Rows.laid_math_bits_deBruijn64tab)]

theorem gTab : Tryz.prog.globalNamed "math/bits.deBruijn64tab" = some 1 := by kernel_rfl
theorem tTab : (Tryz.prog.globals[1]?).map (·.type) = some 217 := by kernel_rfl
theorem cells8 : Tryz.prog.cellsOf 5 = 1 := by kernel_rfl

theorem tab_list {H : Type} : (Rows.laid_math_bits_deBruijn64tab : DataW H) = .agg (Lib.deBruijn64tab.map fun n : Nat => .lit (.int .u8 (n : Int))) := rfl

theorem tab_of_laid {W : World} (h : laidMetH Tryz.prog laidTab W) : Tab64 W := by
  rw [MakeChecks.laidMetH_plain _ _ _ (by kernel_rfl)] at h
  obtain ⟨ps, ⟨g, t, cs, fuel, p, q, hg, ht, hv, hd, _, _⟩, _, _⟩ := h
  obtain rfl := Option.some.inj (gTab.symm.trans hg)
  obtain rfl := Option.some.inj (tTab.symm.trans ht)
  obtain ⟨xs, m, _, ex, hlen, hl, hel⟩ := DataW.trod_array Tryz.underlying217 hd
  rw [tab_list] at ex
  have ex2 := DataW.agg.inj (Prod.mk.inj ex).1
  intro j hj
  rw [World.var?_cell gTab hv j]
  have hjx : j < xs.length := by omega
  have k := hel j hj
  rw [cells8, Nat.mul_one, List.getElem?_eq_getElem hjx] at k
  obtain ⟨z, a, b, _⟩ := DataW.trod_int Tryz.underlying5 k
  have hz : (Lib.deBruijn64tab.map fun n : Nat => (.lit (.int .u8 (n : Int)) : DataW Unit))[j]? = some (.lit (.int .u8 z)) := by
    rw [ex2, List.getElem?_map, List.getElem?_eq_getElem hjx, Option.map_some, b]
  have hjt : j < Lib.deBruijn64tab.length := hj
  rw [List.getElem?_map, List.getElem?_eq_getElem hjt, Option.map_some] at hz
  simp only [Option.some.injEq, DataW.lit.injEq, Lit.int.injEq, true_and] at hz
  have hc : cs.toList[j]? = some (.int .u8 z) := by
    have := congrArg (·[0]?) a
    simpa [List.getElem?_take, List.getElem?_drop] using this
  have hg2 : Lib.deBruijn64tab.getD j 0 = Lib.deBruijn64tab[j] := by simp [List.getD, List.getElem?_eq_getElem hjt]
  rw [hg2, hz, ← hc]
  simp

end Go.Proofs.YtgjjkopmoobilaaGreatDoor

/- What comes in: two columns and what moves them. -/
namespace Go.Proofs.YtgjjkopmoobilaaGreatDoor
open Go.ChangeShapes Go.WideShapes Go.Deep Go.Joins
open Go.RowKit (Below)
open M
set_option linter.unusedVariables false
section
variable {H : Type} {enc : TypeId × Value → H} {w : World} {base : Nat} {spare : Nat → Bool} {held : Bool}

set_option maxRecDepth 100000 in
theorem open_moved {r : Reach} {b0 : Nat} {v : Value} {d : DataW H} {p : List MemPlace} (hv : Value.okWide Tryz.prog w r b0 66 v) (h : DataW.Trod enc Tryz.prog w base spare held 66 v d p) (hz : Sz 66 d) :
    ∃ v0 v1 by_, v = .agg #[v0, v1, .int .u64 ((by_ : Nat) : Int)] ∧ by_ < 18446744073709551616 ∧ IsU64 w v0 ∧ IsU32 w v1 := by
  obtain ⟨v0, v1, v2, y0, y1, y2, n, rfl, hd, _, h0, h1, h2⟩ := open_agg3 Tryz.underlying66 (by kernel_rfl) (by kernel_rfl) hv h
  subst hd
  have z0 : Sz 28 y0.1 := fun n hn => hz n (by
    simp only [DataW.weights, Tryz.underlying66]
    exact DataW.weights_mem_each (j := 0) rfl rfl n hn)
  have z1 : Sz 30 y1.1 := fun n hn => hz n (by
    simp only [DataW.weights, Tryz.underlying66]
    exact DataW.weights_mem_each (j := 1) rfl rfl n hn)
  obtain ⟨q, rfl, hq⟩ := open_v64 h2
  exact ⟨v0, v1, q, rfl, hq, open_u64 h0 z0, open_u32 h1 z1⟩

end
end Go.Proofs.YtgjjkopmoobilaaGreatDoor

/- Columns of which every value is changed by the same bits; bytes behind the first value's; plain. -/
namespace Go.Proofs.YtgjjkopmoobilaaGreatDoor.M
set_option linter.unusedVariables false

theorem xor_turn (a b c : Nat) : (a ^^^ c) ^^^ (b ^^^ c) = a ^^^ b := by
  rw [Nat.xor_assoc, ← Nat.xor_assoc c b c, Nat.xor_comm c b, Nat.xor_assoc b c c, Nat.xor_self, Nat.xor_zero]

/-- The bits behind the first value's. -/
def rst (W K : Nat) (f : Nat → Nat) : Nat → List Bool
  | 0 => []
  | n + 1 => rst W K f n ++ xbf W K f n

theorem cbn_rst (W K : Nat) (f : Nat → Nat) : ∀ n, cbn W K f (n + 1) = bitsOf (f 0) W ++ rst W K f n
  | 0 => by rw [cbn_one]; simp [rst]
  | n + 1 => by rw [cbn_step, cbn_rst W K f n, List.append_assoc]; rfl

theorem win_turn (W K c : Nat) (f g : Nat → Nat) : ∀ n, (∀ i, i ≤ n → g i = f i ^^^ c) → win W K g n = win W K f n
  | 0, _ => rfl
  | n + 1, h => by simp only [win]; rw [win_turn W K c f g n (fun i hi => h i (by omega)), h (n + 1) (by omega), h n (by omega), xor_turn]

theorem rst_turn (W K c : Nat) (f g : Nat → Nat) : ∀ n, (∀ i, i ≤ n → g i = f i ^^^ c) → rst W K g n = rst W K f n
  | 0, _ => rfl
  | n + 1, h => by
    simp only [rst]
    rw [rst_turn W K c f g n (fun i hi => h i (by omega))]
    unfold xbf
    rw [win_turn W K c f g n (fun i hi => h i (by omega)), h (n + 1) (by omega), h n (by omega), xor_turn]

theorem byteAt_drop (l r : List Bool) (k i : Nat) (h : l.length = 8 * k) : byteAt (l ++ r) (k + i) = byteAt r i := by
  unfold byteAt
  have e : (l ++ r).drop (8 * (k + i)) = r.drop (8 * i) := by
    rw [show 8 * (k + i) = l.length + 8 * i by omega, List.drop_append]
    simp
  rw [e]

theorem packed_drop (l r : List Bool) (k : Nat) (h : l.length = 8 * k) : (packed (l ++ r)).drop k = packed r := by
  apply List.ext_getElem
  · simp; omega
  · intro i h1 h2
    simp [packed, byteAt_drop l r k i h]

/-- Lengths and bytes behind the first value's are the same. -/
theorem turn_bytes (W K c k : Nat) (f g : Nat → Nat) (n : Nat) (hW : W = 8 * k) (h : ∀ i, i < n + 1 → g i = f i ^^^ c) :
    (packed (cbn W K g (n + 1))).length = (packed (cbn W K f (n + 1))).length ∧ (packed (cbn W K g (n + 1))).drop k = (packed (cbn W K f (n + 1))).drop k ∧ k ≤ (packed (cbn W K f (n + 1))).length := by
  have e := rst_turn W K c f g n (fun i hi => h i (by omega))
  rw [cbn_rst, cbn_rst, e]
  refine ⟨by simp, ?_, by simp; omega⟩
  rw [packed_drop _ _ k (by simp [hW]), packed_drop _ _ k (by simp [hW])]

end Go.Proofs.YtgjjkopmoobilaaGreatDoor.M

namespace Go.Proofs.YtgjjkopmoobilaaGreatDoor
open M
set_option linter.unusedVariables false

/-! Unlike values. -/

theorem uq_nodup (f : Nat → Nat) (n : Nat) : (uq f n).Nodup := by
  induction n with
  | zero => exact List.nodup_nil
  | succ n ih =>
    rw [uq]
    split
    · exact ih
    · rename_i h
      rw [List.nodup_append]
      exact ⟨ih, by simp, fun a ha b hb => by simp at hb; subst hb; intro e; subst e; exact h ha⟩

theorem len_of_sub {l m : List Nat} (hl : l.Nodup) (h : ∀ x ∈ l, x ∈ m) : l.length ≤ m.length := by
  induction l generalizing m with
  | nil => simp
  | cons a l ih =>
    have hm : a ∈ m := h a (by simp)
    have hn := List.nodup_cons.1 hl
    have h2 : ∀ x ∈ l, x ∈ m.erase a := fun x hx => by
      have hne : x ≠ a := fun e => hn.1 (e ▸ hx)
      exact (List.mem_erase_of_ne hne).2 (h x (by simp [hx]))
    have := ih hn.2 h2
    rw [List.length_erase_of_mem hm] at this
    have : 0 < m.length := List.length_pos_of_mem hm
    simp; omega

theorem uq_len_eq (f g : Nat → Nat) (n m : Nat) (h : ∀ i, i < n → ∃ j, j < m ∧ g j = f i) (h' : ∀ j, j < m → ∃ i, i < n ∧ f i = g j) : (uq f n).length = (uq g m).length := by
  refine Nat.le_antisymm (len_of_sub (uq_nodup f n) fun x hx => ?_) (len_of_sub (uq_nodup g m) fun x hx => ?_)
  · obtain ⟨i, hi, rfl⟩ := uq_of f x n hx
    obtain ⟨j, hj, e⟩ := h i hi
    rw [← e]; exact uq_mem g j m hj
  · obtain ⟨j, hj, rfl⟩ := uq_of g x m hx
    obtain ⟨i, hi, e⟩ := h' j hj
    rw [← e]; exact uq_mem f i n hi

theorem uq_turn (f g : Nat → Nat) (n : Nat) (h : ∀ i, i < n → g i = f (n - 1 - i)) : (uq g n).length = (uq f n).length :=
  uq_len_eq g f n n (fun i hi => ⟨n - 1 - i, by omega, (h i hi).symm⟩) (fun j hj => ⟨n - 1 - j, by omega, by rw [h _ (by omega)]; congr 1; omega⟩)

theorem xor_inj (c a b : Nat) (h : a ^^^ c = b ^^^ c) : a = b := by
  have := congrArg (· ^^^ c) h
  simpa [Nat.xor_assoc] using this

theorem uq_xor (c : Nat) (f g : Nat → Nat) : ∀ n, (∀ i, i < n → g i = f i ^^^ c) → uq g n = (uq f n).map (· ^^^ c)
  | 0, _ => rfl
  | n + 1, h => by
    rw [uq, uq, uq_xor c f g n fun i hi => h i (by omega), h n (by omega)]
    by_cases e : f n ∈ uq f n
    · rw [if_pos e, if_pos (List.mem_map.2 ⟨_, e, rfl⟩)]
    · rw [if_neg e, if_neg (fun h => by obtain ⟨x, hx, e2⟩ := List.mem_map.1 h; rw [xor_inj c _ _ e2] at hx; exact e hx)]
      simp

/-- Dict's length hangs on how many are unlike. -/
theorem dcB_len (W : Nat) (f : Nat → Nat) (n : Nat) : (dcB W f n).length = 8 + W * (uq f n).length + bitLen ((uq f n).length - 1) * n := by
  rw [dcB, List.length_append, List.length_append, plL_length, pcB_length, bitsOf_length]

theorem dcO_len (W : Nat) (f g : Nat → Nat) (n : Nat) (h : (uq g n).length = (uq f n).length) : (dcO W g n).map List.length = (dcO W f n).map List.length := by
  unfold dcO
  rw [h]
  split
  · simp only [Option.map_some, dcB_len, h]
  · rfl

/-! Runs. -/

/-- The lengths of a list's runs. -/
def rl : List Nat → List Nat
  | [] => []
  | a :: t => match t with
    | [] => [1]
    | b :: _ => if a = b then (match rl t with | r :: rs => (r + 1) :: rs | [] => []) else 1 :: rl t

theorem rl_one (a : Nat) : rl [a] = [1] := rfl
theorem rl_same (a : Nat) (t : List Nat) : rl (a :: a :: t) = (match rl (a :: t) with | r :: rs => (r + 1) :: rs | [] => []) := by rw [rl]; simp
theorem rl_other (a b : Nat) (t : List Nat) (h : a ≠ b) : rl (a :: b :: t) = 1 :: rl (b :: t) := by rw [rl]; simp [h]
theorem rl_ne (a : Nat) (t : List Nat) : ∃ r rs, rl (a :: t) = r :: rs := by
  induction t generalizing a with
  | nil => exact ⟨1, [], rfl⟩
  | cons b t ih =>
    by_cases e : a = b
    · subst e
      obtain ⟨r, rs, h⟩ := ih a
      exact ⟨r + 1, rs, by rw [rl_same, h]⟩
    · exact ⟨1, _, rl_other a b t e⟩

/-- One more at the end of a list of lengths' last. -/
def incLast : List Nat → List Nat
  | [] => []
  | [a] => [a + 1]
  | a :: b :: t => a :: incLast (b :: t)

theorem incLast_append (l : List Nat) (a : Nat) : incLast (l ++ [a]) = l ++ [a + 1] := by
  induction l with
  | nil => rfl
  | cons b l ih =>
    cases l with
    | nil => rfl
    | cons c l => simp only [List.cons_append] at ih ⊢; rw [incLast, ih]

theorem rl_snoc_same (l : List Nat) (y : Nat) : rl (l ++ [y, y]) = incLast (rl (l ++ [y])) := by
  induction l with
  | nil => rw [List.nil_append, List.nil_append, rl_same, rl_one]; rfl
  | cons a l ih =>
    cases l with
    | nil =>
      by_cases e : a = y
      · subst e; simp only [List.nil_append, List.cons_append] at ih ⊢; rw [rl_same, ih, rl_one]; rfl
      · simp only [List.nil_append, List.cons_append] at ih ⊢; rw [rl_other _ _ _ e, ih, rl_other _ _ _ e, rl_one]; rfl
    | cons b l =>
      simp only [List.cons_append] at ih ⊢
      obtain ⟨r, rs, h⟩ := rl_ne b (l ++ [y])
      by_cases e : a = b
      · subst e
        rw [rl_same, ih, rl_same, h]
        cases rs <;> rfl
      · rw [rl_other _ _ _ e, ih, rl_other _ _ _ e, h]; rfl

theorem rl_snoc_other (l : List Nat) (y x : Nat) (hn : y ≠ x) : rl (l ++ [y, x]) = rl (l ++ [y]) ++ [1] := by
  induction l with
  | nil => rw [List.nil_append, List.nil_append, rl_other _ _ _ hn, rl_one, rl_one]; rfl
  | cons a l ih =>
    cases l with
    | nil =>
      by_cases e : a = y
      · subst e; simp only [List.nil_append, List.cons_append] at ih ⊢; rw [rl_same, ih, rl_same, rl_one]; rfl
      · simp only [List.nil_append, List.cons_append] at ih ⊢; rw [rl_other _ _ _ e, ih, rl_other _ _ _ e, rl_one]; rfl
    | cons b l =>
      simp only [List.cons_append] at ih ⊢
      obtain ⟨r, rs, h⟩ := rl_ne b (l ++ [y])
      by_cases e : a = b
      · subst e
        rw [rl_same, ih, rl_same, h]; rfl
      · rw [rl_other _ _ _ e, ih, rl_other _ _ _ e, h]; rfl

theorem rl_reverse : ∀ l : List Nat, rl l.reverse = (rl l).reverse
  | [] => rfl
  | [a] => rfl
  | a :: b :: t => by
    have ih := rl_reverse (b :: t)
    obtain ⟨r, rs, h⟩ := rl_ne b t
    rw [List.reverse_cons] at ih
    rw [List.reverse_cons, List.reverse_cons, List.append_assoc]
    by_cases e : a = b
    · subst e
      rw [List.singleton_append, rl_snoc_same, ih, rl_same, h, List.reverse_cons, incLast_append, List.reverse_cons]
    · rw [List.singleton_append, rl_snoc_other _ _ _ (fun h => e h.symm), ih, rl_other _ _ _ e, List.reverse_cons]

/-- The values from i on, k of them. -/
def vl (f : Nat → Nat) (i k : Nat) : List Nat := (List.range k).map fun j => f (i + j)
theorem vl_cons (f : Nat → Nat) (i k : Nat) : vl f i (k + 1) = f i :: vl f (i + 1) k := by
  unfold vl
  rw [List.range_succ_eq_map]
  simp only [List.map_cons, List.map_map, Nat.add_zero, List.cons.injEq, true_and]
  exact List.map_congr_left fun j _ => by simp only [Function.comp_apply]; congr 1; omega

/-- The first run, and what comes behind it. -/
theorem rl_vl (f : Nat → Nat) (i k : Nat) : rl (vl f i (k + 1)) = aheadOf f (f i) i (k + 1) :: rl (vl f (i + aheadOf f (f i) i (k + 1)) (k + 1 - aheadOf f (f i) i (k + 1))) := by
  induction k generalizing i with
  | zero => rw [vl_cons]; simp [vl, aheadOf, rl]
  | succ k ih =>
    rw [vl_cons, vl_cons]
    by_cases e : f i = f (i + 1)
    · have h1 := ih (i + 1)
      rw [vl_cons, ← e] at h1
      have ha : aheadOf f (f i) i (k + 2) = aheadOf f (f i) (i + 1) (k + 1) + 1 := by rw [aheadOf, if_pos rfl]
      rw [← e, rl_same, h1, ha]
      simp only
      rw [show i + 1 + aheadOf f (f i) (i + 1) (k + 1) = i + (aheadOf f (f i) (i + 1) (k + 1) + 1) from by omega, show k + 1 - aheadOf f (f i) (i + 1) (k + 1) = k + 1 + 1 - (aheadOf f (f i) (i + 1) (k + 1) + 1) from by omega]
    · have ha : aheadOf f (f i) i (k + 2) = 1 := by rw [aheadOf, if_pos rfl, aheadOf, if_neg (fun h => e h.symm)]
      rw [rl_other _ _ _ e, ha, ← vl_cons]; rfl

/-- How many bits runs of these lengths need. -/
def rlen (W : Nat) (l : List Nat) : Nat := (l.map fun r => W + (varB (r - 1)).length).sum

theorem rnB_rl (W : Nat) (f : Nat → Nat) (u i k : Nat) (h : k ≤ u) : (rnB W f u i k).length = rlen W (rl (vl f i k)) := by
  induction u generalizing i k with
  | zero => obtain rfl : k = 0 := by omega
            rfl
  | succ u ih =>
    match k with
    | 0 => rfl
    | k + 1 =>
      have hp := aheadOf_pos f i k
      rw [rnB, rl_vl, List.length_append, List.length_append, bitsOf_length, ih _ _ (by omega)]
      simp [rlen]

theorem vl_turn (f g : Nat → Nat) (n : Nat) (h : ∀ i, i < n → g i = f (n - 1 - i)) : vl g 0 n = (vl f 0 n).reverse := by
  apply List.ext_getElem
  · simp [vl]
  · intro i h1 h2
    simp only [vl, List.length_map, List.length_range] at h1
    simp only [vl, List.getElem_map, List.getElem_range, List.getElem_reverse, List.length_map, List.length_range, Nat.zero_add]
    exact h i h1

theorem rnB_turn (W : Nat) (f g : Nat → Nat) (n : Nat) (h : ∀ i, i < n → g i = f (n - 1 - i)) : (rnB W g n 0 n).length = (rnB W f n 0 n).length := by
  rw [rnB_rl _ _ _ _ _ (Nat.le_refl _), rnB_rl _ _ _ _ _ (Nat.le_refl _), vl_turn f g n h, rl_reverse]
  unfold rlen
  rw [List.map_reverse, List.sum_reverse]

theorem aheadOf_xor (c : Nat) (f g : Nat → Nat) (v i k : Nat) (h : ∀ j, j < i + k → g j = f j ^^^ c) : aheadOf g (v ^^^ c) i k = aheadOf f v i k := by
  induction k generalizing i with
  | zero => rfl
  | succ k ih =>
    rw [aheadOf, aheadOf, h i (by omega), ih (i + 1) (fun j hj => h j (by omega))]
    by_cases e : f i = v
    · rw [if_pos e, if_pos (by rw [e])]
    · rw [if_neg e, if_neg (fun he => e (xor_inj c _ _ he))]

theorem rnB_xor (W c : Nat) (f g : Nat → Nat) (u i k : Nat) (h : ∀ j, j < i + k → g j = f j ^^^ c) : (rnB W g u i k).length = (rnB W f u i k).length := by
  induction u generalizing i k with
  | zero => cases k <;> rfl
  | succ u ih =>
    match k with
    | 0 => rfl
    | k + 1 =>
      have hle := aheadOf_le f (f i) i (k + 1)
      have e : aheadOf g (g i) i (k + 1) = aheadOf f (f i) i (k + 1) := by rw [h i (by omega)]; exact aheadOf_xor c f g (f i) i (k + 1) h
      rw [rnB, rnB, e]
      simp only [List.length_append, bitsOf_length]
      rw [ih _ _ (fun j hj => h j (by omega))]

/-! Stride. -/

theorem rsS_mod (M : Nat) (f : Nat → Nat) (i : Nat) (hM : 0 < M) (hf : ∀ j, j ≤ i → f j < M) : ((rsS M f i : Nat) : Int) = ((f i : Int) - exS M f i) % M := by
  have he := exS_lt M f hM i fun j hj => hf j (by omega)
  unfold rsS
  rw [Int.natCast_emod, show ((f i + M - exS M f i : Nat) : Int) = ((f i : Int) - exS M f i) + M from by omega, Int.add_emod_right]

theorem exS_two (M : Nat) (f : Nat → Nat) (i : Nat) (hM : 0 < M) (hf : ∀ j, j ≤ i + 1 → f j < M) : ((exS M f (i + 2) : Nat) : Int) = (2 * (f (i + 1) : Int) - f i) % M := by
  have := hf i (by omega)
  rw [exS, Int.natCast_emod, show ((2 * f (i + 1) + M - f i : Nat) : Int) = (2 * (f (i + 1) : Int) - f i) + M from by omega, Int.add_emod_right]

theorem sub_emod_r (a b m : Int) : (a - b % m) % m = (a - b) % m := by
  rw [Int.emod_def b m, show a - (b - m * (b / m)) = (a - b) + m * (b / m) from by omega, Int.add_mul_emod_self_left]

theorem rsS_moved (M c : Nat) (f g : Nat → Nat) (i : Nat) (hM : 0 < M) (hf : ∀ j, j ≤ i + 1 → f j < M) (hg : ∀ j, j ≤ i + 1 → g j = (f j + c) % M) : rsS M g (i + 1) = rsS M f (i + 1) := by
  have hg2 : ∀ j, j ≤ i + 1 → g j < M := fun j hj => by rw [hg j hj]; exact Nat.mod_lt _ hM
  have hgi : ∀ j, j ≤ i + 1 → ((g j : Nat) : Int) = ((f j : Int) + c) - M * (((f j : Int) + c) / M) := fun j hj => by
    rw [hg j hj, Int.natCast_emod, Int.emod_def]; simp
  apply Int.ofNat.inj
  show ((rsS M g (i + 1) : Nat) : Int) = ((rsS M f (i + 1) : Nat) : Int)
  rw [rsS_mod M g (i + 1) hM hg2, rsS_mod M f (i + 1) hM hf]
  match i with
  | 0 =>
    show (((g 1 : Nat) : Int) - (g 0 : Nat)) % M = (((f 1 : Nat) : Int) - (f 0 : Nat)) % M
    rw [hgi 1 (by omega), hgi 0 (by omega)]
    generalize ((f 1 : Int) + c) / M = q1
    generalize ((f 0 : Int) + c) / M = q0
    rw [show (f 1 : Int) + c - M * q1 - ((f 0 : Int) + c - M * q0) = ((f 1 : Int) - f 0) + M * (q0 - q1) from by rw [Int.mul_sub]; omega, Int.add_mul_emod_self_left]
  | i + 1 =>
    rw [exS_two M g i hM (fun j hj => hg2 j (by omega)), exS_two M f i hM (fun j hj => hf j (by omega)), sub_emod_r, sub_emod_r]
    rw [hgi (i + 2) (by omega), hgi (i + 1) (by omega), hgi i (by omega)]
    generalize ((f (i + 2) : Int) + c) / M = q2
    generalize ((f (i + 1) : Int) + c) / M = q1
    generalize ((f i : Int) + c) / M = q0
    rw [show (f (i + 2) : Int) + c - M * q2 - (2 * ((f (i + 1) : Int) + c - M * q1) - ((f i : Int) + c - M * q0)) = ((f (i + 2) : Int) - (2 * f (i + 1) - f i)) + M * (2 * q1 - q2 - q0) from by grind, Int.add_mul_emod_self_left]

/-- The bits behind the first value's. -/
def stT (H M : Nat) (f : Nat → Nat) : Nat → List Bool
  | 0 => []
  | n + 1 => stT H M f n ++ varB (zig (sgW H M (rsS M f (n + 1))))

theorem stB_head (H M : Nat) (f : Nat → Nat) (n : Nat) : stB H M f (n + 1) = varB (zig (sgW H M (rsS M f 0))) ++ stT H M f n := by
  induction n with
  | zero => simp [stB, stT]
  | succ n ih => rw [stB, ih, stT, List.append_assoc]

theorem stT_moved (H M c : Nat) (f g : Nat → Nat) (n : Nat) (hM : 0 < M) (hf : ∀ j, j ≤ n → f j < M) (hg : ∀ j, j ≤ n → g j = (f j + c) % M) : stT H M g n = stT H M f n := by
  induction n with
  | zero => rfl
  | succ n ih => rw [stT, stT, ih (fun j hj => hf j (by omega)) (fun j hj => hg j (by omega)), rsS_moved M c f g n hM (fun j hj => hf j (by omega)) (fun j hj => hg j (by omega))]

/-- Bytes behind the first that is below 128. -/
def tailL : List Nat → List Nat
  | [] => []
  | a :: t => if 128 ≤ a then tailL t else t

theorem packed_byte (x : Nat) (r : List Bool) (h : x < 256) : packed (bitsOf x 8 ++ r) = x :: packed r := by
  apply List.ext_getElem
  · simp; omega
  · intro i h1 h2
    match i with
    | 0 =>
      simp only [packed, List.getElem_map, List.getElem_range, List.getElem_cons_zero]
      rw [byteAt_full _ _ 0 (by simp)]
      unfold byteAt
      rw [Nat.mul_zero, List.drop_zero, List.take_of_length_le (by simp), num_bitsOf, bitsOf_length, Nat.mod_eq_of_lt (by simpa using h)]
      simp
    | i + 1 =>
      simp only [packed, List.getElem_map, List.getElem_range, List.getElem_cons_succ]
      rw [Nat.add_comm i 1]
      exact byteAt_drop _ _ 1 i (by simp)

theorem tail_groups (k x : Nat) (r : List Bool) (h : x < 128 ^ (k + 1)) : tailL (packed (groups k x ++ r)) = packed r := by
  induction k generalizing x with
  | zero => rw [groups_small _ _ (by simpa using h), packed_byte _ _ (by simp at h; omega), tailL, if_neg (by simp at h; omega)]
  | succ k ih =>
    by_cases hx : x < 128
    · rw [groups_small _ _ hx, packed_byte _ _ (by omega), tailL, if_neg (by omega)]
    · rw [groups_big _ _ (by omega), List.append_assoc, packed_byte _ _ (by omega), tailL, if_pos (by omega)]
      exact ih _ (Nat.div_lt_of_lt_mul (by rw [Nat.mul_comm, ← Nat.pow_succ]; exact h))

theorem tail_moved (H M c : Nat) (f g : Nat → Nat) (n : Nat) (hM : M = 2 * H) (h0 : 0 < H) (h64 : M ≤ 18446744073709551616) (hf : ∀ j, j < n → f j < M) (hg : ∀ j, j < n → g j = (f j + c) % M) : tailL (packed (stB H M g n)) = tailL (packed (stB H M f n)) := by
  match n with
  | 0 => rfl
  | n + 1 =>
    have z : ∀ u : Nat → Nat, zig (sgW H M (rsS M u 0)) < 128 ^ 10 := fun u => by
      have := sgW_range H M _ hM (rsS_lt M u (by omega) 0)
      have e : (128 : Nat) ^ 10 = 1180591620717411303424 := by decide
      rw [e]; unfold zig; split <;> omega
    rw [stB_head, stB_head]
    unfold varB
    rw [tail_groups 9 _ _ (z g), tail_groups 9 _ _ (z f), stT_moved H M c f g n (by omega) (fun j hj => hf j (by omega)) (fun j hj => hg j (by omega))]

end Go.Proofs.YtgjjkopmoobilaaGreatDoor

/- The contracts of code's width, layValue, takeValue (64 bits). -/
import Derived.Test.YtgjjkopmoobilaaGreatDoorP1Q64
import Derived.Test.YtgjjkopmoobilaaGreatDoorB1P
import Derived.Test.YtgjjkopmoobilaaGreatDoorP1T
import Derived.Deep.RegionHeld3
import Derived.Laws.Tables
import Derived.Great.Walk
/- The law's own functions: num, same (of fathomlaw8). -/
namespace Go.Proofs.YtgjjkopmoobilaaGreatDoor
open Go.RowKit
open M
set_option linter.unusedVariables false

theorem num8_any (n : Int) (w : World) : Calls Tryz.prog 15 #[.int .i64 n] w fun e w' => e = .returned (.int .i64 n) ∧ w' = w := by
  go_enter Tryz.func15, Tryz.ntmps15
  go_wp2
  go_ret
  exact ⟨rfl, rfl⟩

/-- A Bool that says whether P. -/
def Says8 (P : Prop) (w : World) (e : Ending) (w' : World) : Prop := ∃ v : Bool, e = .returned (.bool v) ∧ (v = true ↔ P) ∧ ∃ m, w' = w.drewN m

set_option maxHeartbeats 1000000 in
theorem same8_any (p q : Option Addr) (n n' cap cap' : Nat) (f g : Nat → Nat) (w : World) (h : URow64 w p n f) (h' : URow64 w q n' g) (hn : n ≤ 281474976710656) (hn' : n' ≤ 281474976710656) :
    Calls Tryz.prog 22 #[.slice p n cap, .slice q n' cap'] w (Says8 (n = n' ∧ ∀ i, i < n → f i = g i) w) := by
  have H := hide h
  have H' := hide h'
  clear h h'
  by_cases hne : n = n'
  · subst hne
    go_enter Tryz.func22, Tryz.ntmps22
    go_wp2_with fail
    go_loopw [5] (fun i wr => ∃ k : Nat, Hid (∀ j, j < k → f j = g j) ∧ i = .int .i64 (k : Int) ∧ Hid (∃ m, wr = w.drewN m)) (fun i _ => n - (intOf i).toNat)
    case atStart => exact ⟨0, fun j hj => by omega, rfl, 0, rfl⟩
    case round =>
      obtain ⟨k, hr, rfl, hm⟩ := hrel
      by_cases hlt : k < n
      · obtain ⟨b, o, rfl, hc⟩ := H.out (by omega)
        obtain ⟨b', o', rfl, hc'⟩ := H'.out (by omega)
        obtain ⟨x, hx⟩ : ∃ x, f k = x := ⟨_, rfl⟩
        obtain ⟨y, hy⟩ : ∃ y, g k = y := ⟨_, rfl⟩
        have c1 : wr.cell? ⟨b, o + k, none⟩ = some (.int .u64 (x : Int)) := by obtain ⟨m, rfl⟩ := hm.out; rw [← hx]; exact hc k hlt
        have c2 : wr.cell? ⟨b', o' + k, none⟩ = some (.int .u64 (y : Int)) := by obtain ⟨m, rfl⟩ := hm.out; rw [← hy]; exact hc' k hlt
        have HXY := hide (And.intro hx hy)
        clear hc hc' hx hy
        by_cases hle : x = y
        · have hb : ((x : Int) != (y : Int)) = false := by simp [hle]
          go_wp2_with fail
          go_region
          go_wp2_with fail
          go_roundw
          case rel => exact ⟨k + 1, fun j hj => by
            by_cases e : j = k
            · subst e; rw [HXY.out.1, HXY.out.2]; exact hle
            · exact hr.out j (by omega), by simp, by obtain ⟨m, rfl⟩ := hm.out; exact ⟨m + 1, rfl⟩⟩
          case measure => simp [intOf]; omega
        · have hb : ((x : Int) != (y : Int)) = true := by simp; omega
          go_wp2_with fail
          go_region
          go_wp2_with fail
          go_ret
          obtain ⟨m, rfl⟩ := hm.out
          exact ⟨false, rfl, ⟨fun h => (by cases h), fun h => absurd (h.2 k hlt) (by rw [HXY.out.1, HXY.out.2]; exact hle)⟩, m + 1, rfl⟩
      · go_wp2_with fail
        go_ret
        exact ⟨true, rfl, ⟨fun _ => ⟨by trivial, fun j hj => hr.out j (by omega)⟩, fun _ => rfl⟩, hm.out⟩
  · have hb : ((n : Int) != (n' : Int)) = true := by simp; omega
    go_enter Tryz.func22, Tryz.ntmps22
    go_wp2_with fail
    go_ret
    exact ⟨false, rfl, ⟨fun h => (by cases h), fun h => absurd h.1 hne⟩, 0, rfl⟩

end Go.Proofs.YtgjjkopmoobilaaGreatDoor

/- The bits of a column's codings: Plain, Stride, Runs. Plain mathematics. -/
namespace Go.Proofs.YtgjjkopmoobilaaGreatDoor
open M
set_option linter.unusedVariables false

/-- n values of W bits each, as they are. -/
def plB (W : Nat) (f : Nat → Nat) : Nat → List Bool
  | 0 => []
  | n + 1 => plB W f n ++ bitsOf (f n) W

theorem plB_length (W : Nat) (f : Nat → Nat) (n : Nat) : (plB W f n).length = W * n := by
  induction n with
  | zero => rfl
  | succ n ih => rw [plB, List.length_append, ih, bitsOf_length, Nat.mul_succ]

theorem plB_congr (W : Nat) (f g : Nat → Nat) (n : Nat) (h : ∀ i, i < n → f i = g i) : plB W f n = plB W g n := by
  induction n with
  | zero => rfl
  | succ n ih => rw [plB, plB, ih fun i hi => h i (by omega), h n (by omega)]

/-- What is expected of value i, modulo M. -/
def exS (M : Nat) (f : Nat → Nat) : Nat → Nat
  | 0 => 0
  | 1 => f 0
  | i + 2 => (2 * f (i + 1) + M - f i) % M

/-- A number of W bits read as a signed one (H = 2^(W-1), M = 2^W). -/
def sgW (H M x : Nat) : Int := if x < H then (x : Int) else (x : Int) - M

/-- What is laid of value i. -/
def rsS (M : Nat) (f : Nat → Nat) (i : Nat) : Nat := (f i + M - exS M f i) % M

theorem exS_lt (M : Nat) (f : Nat → Nat) (hM : 0 < M) (i : Nat) (h : ∀ j, j < i → f j < M) : exS M f i < M := by
  match i with
  | 0 => exact hM
  | 1 => exact h 0 (by omega)
  | i + 2 => exact Nat.mod_lt _ hM

theorem rsS_lt (M : Nat) (f : Nat → Nat) (hM : 0 < M) (i : Nat) : rsS M f i < M := Nat.mod_lt _ hM

theorem rsS_back (M : Nat) (f : Nat → Nat) (hM : 0 < M) (i : Nat) (h : ∀ j, j ≤ i → f j < M) : (exS M f i + rsS M f i) % M = f i := by
  have he := exS_lt M f hM i fun j hj => h j (by omega)
  have hf := h i (by omega)
  unfold rsS
  by_cases hle : exS M f i ≤ f i
  · have e : f i + M - exS M f i = (f i - exS M f i) + M := by omega
    rw [e, Nat.add_mod_right, Nat.mod_eq_of_lt (show f i - exS M f i < M by omega), show exS M f i + (f i - exS M f i) = f i from by omega, Nat.mod_eq_of_lt hf]
  · rw [Nat.mod_eq_of_lt (show f i + M - exS M f i < M by omega), show exS M f i + (f i + M - exS M f i) = f i + M from by omega, Nat.add_mod_right, Nat.mod_eq_of_lt hf]

theorem sgW_range (H M x : Nat) (hM : M = 2 * H) (hx : x < M) : -(H : Int) ≤ sgW H M x ∧ sgW H M x < (H : Int) := by
  unfold sgW; split <;> omega

theorem sgW_mod (H M x : Nat) (hM : M = 2 * H) (hx : x < M) : sgW H M x % (M : Int) = (x : Int) := by
  unfold sgW
  split
  · exact Int.emod_eq_of_lt (by omega) (by omega)
  · rw [show ((x : Int) - M) = (x : Int) + M * (-1) from by omega, Int.add_mul_emod_self_left]
    exact Int.emod_eq_of_lt (by omega) (by omega)

/-- The bits of n values by Stride. -/
def stB (H M : Nat) (f : Nat → Nat) : Nat → List Bool
  | 0 => []
  | n + 1 => stB H M f n ++ varB (zig (sgW H M (rsS M f n)))

theorem exS_congr (M : Nat) (f g : Nat → Nat) (i : Nat) (h : ∀ j, j < i → f j = g j) : exS M f i = exS M g i := by
  match i with
  | 0 => rfl
  | 1 => exact h 0 (by omega)
  | i + 2 => rw [exS, exS, h i (by omega), h (i + 1) (by omega)]

theorem stB_congr (H M : Nat) (f g : Nat → Nat) (n : Nat) (h : ∀ i, i < n → f i = g i) : stB H M f n = stB H M g n := by
  induction n with
  | zero => rfl
  | succ n ih => rw [stB, stB, ih fun i hi => h i (by omega), rsS, rsS, h n (by omega), exS_congr M f g n fun j hj => h j (by omega)]

/-- How many values from i on, of those before n, are the value at i. -/
def aheadOf (f : Nat → Nat) (v : Nat) : Nat → Nat → Nat
  | _, 0 => 0
  | i, k + 1 => if f i = v then aheadOf f v (i + 1) k + 1 else 0

theorem aheadOf_le (f : Nat → Nat) (v i k : Nat) : aheadOf f v i k ≤ k := by
  induction k generalizing i with
  | zero => exact Nat.le_refl _
  | succ k ih => have := ih (i + 1); rw [aheadOf]; split <;> omega

theorem aheadOf_eq (f : Nat → Nat) (v i k : Nat) (j : Nat) (hj : j < aheadOf f v i k) : f (i + j) = v := by
  induction k generalizing i j with
  | zero => simp [aheadOf] at hj
  | succ k ih =>
    rw [aheadOf] at hj
    split at hj
    · rename_i h
      match j with
      | 0 => exact h
      | j + 1 => rw [show i + (j + 1) = i + 1 + j from by omega]; exact ih (i + 1) j (by omega)
    · omega

theorem aheadOf_pos (f : Nat → Nat) (i k : Nat) : 0 < aheadOf f (f i) i (k + 1) := by rw [aheadOf, if_pos rfl]; omega

/-- What ends a run: the first value that is another one. -/
theorem aheadOf_of (f : Nat → Nat) (v i k m : Nat) (hm : m ≤ k) (hs : ∀ j, j < m → f (i + j) = v) (he : m < k → f (i + m) ≠ v) : aheadOf f v i k = m := by
  induction k generalizing i m with
  | zero => simp [aheadOf]; omega
  | succ k ih =>
    rw [aheadOf]
    match m with
    | 0 => rw [if_neg]; exact fun h => he (by omega) h
    | m + 1 =>
      rw [if_pos (show f i = v from hs 0 (by omega)), ih (i + 1) m (by omega) (fun j hj => ?_) (fun hj => ?_)]
      · rw [show i + 1 + j = i + (j + 1) from by omega]; exact hs (j + 1) (by omega)
      · rw [show i + 1 + m = i + (m + 1) from by omega]; exact he (by omega)

/-- The bits by Runs of k values from i on (of at most u runs). -/
def rnB (W : Nat) (f : Nat → Nat) : Nat → Nat → Nat → List Bool
  | 0, _, _ => []
  | _, _, 0 => []
  | u + 1, i, k + 1 => bitsOf (f i) W ++ varB (aheadOf f (f i) i (k + 1) - 1) ++ rnB W f u (i + aheadOf f (f i) i (k + 1)) (k + 1 - aheadOf f (f i) i (k + 1))

/-- So many runs are enough. -/
theorem rnB_enough (W : Nat) (f : Nat → Nat) (u u' i k : Nat) (h : k ≤ u) (h' : k ≤ u') : rnB W f u i k = rnB W f u' i k := by
  induction u generalizing u' i k with
  | zero => obtain rfl : k = 0 := by omega
            cases u' <;> rfl
  | succ u ih =>
    match k, u' with
    | 0, 0 => rfl
    | 0, u' + 1 => rfl
    | k + 1, u' + 1 =>
      have hp := aheadOf_pos f i k
      rw [rnB, rnB, ih u' _ _ (by omega) (by omega)]

end Go.Proofs.YtgjjkopmoobilaaGreatDoor

/- The bits of a column by Decimal, over whatever arithmetic. Plain mathematics. -/
namespace Go.Proofs.YtgjjkopmoobilaaGreatDoor
open M
set_option linter.unusedVariables false

/-- The arithmetic of a width: products, quotients, whole numbers as floats, the nearest whole number; how far p and k go. -/
structure Dm where
  mul : Nat → Nat → Nat
  div : Nat → Nat → Nat
  int : Int → Nat
  near : Nat → Option Int
  mostP : Nat
  most : Int

namespace Dm
variable (F : Dm)

def pow : Nat → Nat
  | 0 => F.int 1
  | p + 1 => F.mul (pow p) (F.int 10)

def val (p : Nat) (k : Int) : Nat := F.div (F.int k) (F.pow p)

/-- Which whole number a value is at a scale. -/
def wh (p v : Nat) : Option Int :=
  match F.near (F.mul v (F.pow p)) with
  | none => none
  | some k => if k < -F.most ∨ F.most < k ∨ F.val p k ≠ v then none else some k

theorem wh_val {p v : Nat} {k : Int} (h : F.wh p v = some k) : F.val p k = v ∧ -F.most ≤ k ∧ k ≤ F.most := by
  unfold wh at h
  split at h
  · cases h
  · split at h
    · cases h
    · rename_i hn
      simp only [Option.some.injEq] at h
      subst h
      simp only [not_or, Int.not_lt, Decidable.not_not] at hn
      exact ⟨hn.2.2, hn.1, hn.2.1⟩

/-- How many of m values from i on are nothing. -/
def cnt (p : Nat) (f : Nat → Nat) : Nat → Nat → Nat
  | _, 0 => 0
  | i, m + 1 => if (F.wh p (f i)).isSome then cnt p f (i + 1) m else cnt p f (i + 1) m + 1

theorem cnt_end (p : Nat) (f : Nat → Nat) (i m : Nat) : F.cnt p f i (m + 1) = F.cnt p f i m + (if (F.wh p (f (i + m))).isSome then 0 else 1) := by
  induction m generalizing i with
  | zero => simp only [cnt, Nat.add_zero, Nat.zero_add]
  | succ m ih =>
    rw [cnt, ih (i + 1), cnt, show i + 1 + m = i + (m + 1) from by omega]
    by_cases h : (F.wh p (f i)).isSome = true <;> simp only [h, if_true, if_false, Bool.false_eq_true] <;> omega

theorem cnt_le (p : Nat) (f : Nat → Nat) (i m : Nat) : F.cnt p f i m ≤ m := by
  induction m generalizing i with
  | zero => exact Nat.le_refl _
  | succ m ih => have := ih (i + 1); rw [cnt]; split <;> omega

theorem cnt_congr (p : Nat) (f g : Nat → Nat) (i m : Nat) (h : ∀ j, i ≤ j → j < i + m → f j = g j) : F.cnt p f i m = F.cnt p g i m := by
  induction m generalizing i with
  | zero => rfl
  | succ m ih => rw [cnt, cnt, h i (Nat.le_refl _) (by omega), ih (i + 1) fun j h1 h2 => h j (by omega) (by omega)]

/-- The best scale of the first q, and how many values are nothing at it. -/
def bs (f : Nat → Nat) (n : Nat) : Nat → Nat × Nat
  | 0 => (0, F.cnt 0 f 0 n)
  | q + 1 => if (bs f n q).2 = 0 then bs f n q else if F.cnt (q + 1) f 0 n < (bs f n q).2 then (q + 1, F.cnt (q + 1) f 0 n) else bs f n q

theorem bs_le (f : Nat → Nat) (n q : Nat) : (F.bs f n q).1 ≤ q := by
  induction q with
  | zero => exact Nat.le_refl _
  | succ q ih => rw [bs]; split
                 · omega
                 · split
                   · exact Nat.le_refl _
                   · omega

theorem bs_stop (f : Nat → Nat) (n q r : Nat) (h : q ≤ r) (h0 : (F.bs f n q).2 = 0) : F.bs f n r = F.bs f n q := by
  induction r with
  | zero => rw [show q = 0 from by omega]
  | succ r ih =>
    by_cases e : q = r + 1
    · rw [e]
    · have := ih (by omega)
      rw [bs, this, if_pos h0]

theorem bs_congr (f g : Nat → Nat) (n q : Nat) (h : ∀ j, j < n → f j = g j) : F.bs f n q = F.bs g n q := by
  have hc : ∀ p, F.cnt p f 0 n = F.cnt p g 0 n := fun p => F.cnt_congr p f g 0 n fun j _ h2 => h j (by omega)
  induction q with
  | zero => rw [bs, bs, hc]
  | succ q ih => rw [bs, bs, ih, hc]

theorem bs_cnt (f : Nat → Nat) (n q : Nat) : (F.bs f n q).2 = F.cnt (F.bs f n q).1 f 0 n := by
  induction q with
  | zero => rfl
  | succ q ih => rw [bs]; split
                 · exact ih
                 · split
                   · rfl
                   · exact ih

/-- The values that are nothing among m from i on, c whole ones ahead. -/
def nt (W p : Nat) (f : Nat → Nat) : Nat → Nat → Nat → List Bool
  | _, 0, _ => []
  | i, m + 1, c => if (F.wh p (f i)).isSome then nt W p f (i + 1) m (c + 1) else varB c ++ (bitsOf (f i) W ++ nt W p f (i + 1) m 0)

/-- All others among m from i on, behind the whole number a. -/
def wb (p : Nat) (f : Nat → Nat) : Nat → Nat → Int → List Bool
  | _, 0, _ => []
  | i, m + 1, a => match F.wh p (f i) with
    | some k => varB (zig (k - a)) ++ wb p f (i + 1) m k
    | none => wb p f (i + 1) m a

theorem nt_congr (W p : Nat) (f g : Nat → Nat) (i m c : Nat) (h : ∀ j, i ≤ j → j < i + m → f j = g j) : F.nt W p f i m c = F.nt W p g i m c := by
  induction m generalizing i c with
  | zero => rfl
  | succ m ih => rw [nt, nt, h i (Nat.le_refl _) (by omega), ih (i + 1) (c + 1) fun j h1 h2 => h j (by omega) (by omega), ih (i + 1) 0 fun j h1 h2 => h j (by omega) (by omega)]

theorem wb_congr (p : Nat) (f g : Nat → Nat) (i m : Nat) (a : Int) (h : ∀ j, i ≤ j → j < i + m → f j = g j) : F.wb p f i m a = F.wb p g i m a := by
  induction m generalizing i a with
  | zero => rfl
  | succ m ih =>
    rw [wb, wb, h i (Nat.le_refl _) (by omega)]
    split
    · rw [ih (i + 1) _ fun j h1 h2 => h j (by omega) (by omega)]
    · exact ih (i + 1) _ fun j h1 h2 => h j (by omega) (by omega)

theorem nt_none (W p : Nat) (f : Nat → Nat) (i m c : Nat) (h : F.cnt p f i m = 0) : F.nt W p f i m c = [] ∧ ∀ j, i ≤ j → j < i + m → (F.wh p (f j)).isSome = true := by
  induction m generalizing i c with
  | zero => exact ⟨rfl, fun j h1 h2 => by omega⟩
  | succ m ih =>
    rw [cnt] at h
    by_cases hs : (F.wh p (f i)).isSome = true
    · rw [if_pos hs] at h
      obtain ⟨h1, h2⟩ := ih (i + 1) (c + 1) h
      refine ⟨by rw [nt, if_pos hs, h1], fun j h3 h4 => ?_⟩
      by_cases e : j = i
      · rw [e]; exact hs
      · exact h2 j (by omega) (by omega)
    · rw [if_neg hs] at h; omega

/-- The next value that is nothing. -/
theorem nt_next (W p : Nat) (f : Nat → Nat) (i m c : Nat) (h : 0 < F.cnt p f i m) : ∃ j, j < m ∧ (F.wh p (f (i + j))).isSome = false ∧ (∀ t, t < j → (F.wh p (f (i + t))).isSome = true) ∧ F.cnt p f i m = F.cnt p f (i + j + 1) (m - (j + 1)) + 1 ∧
    F.nt W p f i m c = varB (c + j) ++ (bitsOf (f (i + j)) W ++ F.nt W p f (i + j + 1) (m - (j + 1)) 0) := by
  induction m generalizing i c with
  | zero => simp [cnt] at h
  | succ m ih =>
    rw [cnt] at h ⊢
    rw [nt]
    by_cases hs : (F.wh p (f i)).isSome = true
    · rw [if_pos hs] at h ⊢
      rw [if_pos hs]
      obtain ⟨j, h1, h2, h3, h4, h5⟩ := ih (i + 1) (c + 1) h
      refine ⟨j + 1, by omega, by rw [show i + (j + 1) = i + 1 + j from by omega]; exact h2, fun t ht => ?_, ?_, ?_⟩
      · match t with
        | 0 => exact hs
        | t + 1 => rw [show i + (t + 1) = i + 1 + t from by omega]; exact h3 t (by omega)
      · rw [h4, show i + (j + 1) + 1 = i + 1 + j + 1 from by omega, show m + 1 - (j + 1 + 1) = m - (j + 1) from by omega]
      · rw [h5, show i + (j + 1) + 1 = i + 1 + j + 1 from by omega, show m + 1 - (j + 1 + 1) = m - (j + 1) from by omega, show c + 1 + j = c + (j + 1) from by omega, show i + (j + 1) = i + 1 + j from by omega]
    · rw [if_neg hs, if_neg hs]
      exact ⟨0, by omega, by simpa using hs, fun t ht => by omega, by simp, by simp⟩

theorem nt_len (W p : Nat) (hW : W ≤ 64) (f : Nat → Nat) (i m c : Nat) (hv : ∀ x, (varB x).length ≤ 80) : (F.nt W p f i m c).length ≤ 144 * m := by
  induction m generalizing i c with
  | zero => simp [nt]
  | succ m ih =>
    rw [nt]; split
    · have := ih (i + 1) (c + 1); omega
    · rw [List.length_append, List.length_append, bitsOf_length]
      have := ih (i + 1) 0; have := hv c; omega

theorem wb_len (p : Nat) (f : Nat → Nat) (i m : Nat) (a : Int) (hv : ∀ x, (varB x).length ≤ 80) : (F.wb p f i m a).length ≤ 80 * m := by
  induction m generalizing i a with
  | zero => simp [wb]
  | succ m ih =>
    rw [wb]; split
    · rename_i k _
      rw [List.length_append]
      have := ih (i + 1) k; have := hv (zig (k - a)); omega
    · have := ih (i + 1) a; omega

/-- The bits of a column by Decimal. -/
def dm (W : Nat) (f : Nat → Nat) (n : Nat) : List Bool :=
  bitsOf (F.bs f n F.mostP).1 5 ++ (varB (F.cnt (F.bs f n F.mostP).1 f 0 n) ++ (F.nt W (F.bs f n F.mostP).1 f 0 n 0 ++ F.wb (F.bs f n F.mostP).1 f 0 n 0))

theorem dm_congr (W : Nat) (f g : Nat → Nat) (n : Nat) (h : ∀ j, j < n → f j = g j) : F.dm W f n = F.dm W g n := by
  unfold dm
  rw [F.bs_congr f g n _ h, F.cnt_congr _ f g 0 n fun j _ h2 => h j (by omega), F.nt_congr W _ f g 0 n 0 fun j _ h2 => h j (by omega), F.wb_congr _ f g 0 n 0 fun j _ h2 => h j (by omega)]

end Dm
end Go.Proofs.YtgjjkopmoobilaaGreatDoor

namespace Go.Proofs.YtgjjkopmoobilaaGreatDoor
open Go.RowKit
open M
set_option linter.unusedVariables false
set_option linter.unusedSimpArgs false

theorem clen64_any (x : Nat) (w : World) (hx : x < 18446744073709551616) : Calls Tryz.prog 112 #[.int .u64 x] w fun e w' => e = .returned (.int .i64 (bitLen x : Nat)) ∧ w' = w := by
  have HL := hide (len64_all x w hx)
  go_enter Tryz.func112, Tryz.ntmps112
  go_wp2_with fail
  refine HL.out.mono ?_
  rintro e w1 ⟨rfl, rfl⟩
  go_wp2_with fail
  go_ret
  exact ⟨rfl, rfl⟩

theorem cwidth64_any (w : World) : Calls Tryz.prog 104 #[] w fun e w' => e = .returned (.int .i64 64) ∧ w' = w := by
  have hx : bits BinOp.xor IntKind.u64 0 18446744073709551615 = 18446744073709551615 := by decide +kernel
  have HL := hide (clen64_any 18446744073709551615 w (by omega))
  rw [show bitLen 18446744073709551615 = 64 from by decide +kernel] at HL
  go_enter Tryz.func104, Tryz.ntmps104
  go_wp2_with fail
  refine HL.out.mono ?_
  rintro e w1 ⟨rfl, rfl⟩
  go_wp2_with fail
  go_ret
  exact ⟨rfl, rfl⟩

theorem layValue64_any (b off lo : Nat) (v : Nat) (w : World) (l : List Bool) (hW : Wr w lo b off l 0) (hb : b < lo) (hlo : lo ≤ w.heap.size) (hlen : l.length + 64 < 1000000000000) (hv : v < 18446744073709551616) :
    Calls Tryz.prog 84 #[.pointer (some ⟨b, off, none⟩), .int .u64 v] w fun e w' => e = .returned (.tuple #[]) ∧ Wr w' lo b off (l ++ bitsOf v 64) 0 ∧ Only b off (off + 123) w w' := by
  have r0 : IntKind.u64.wrap (v : Int) = (v : Int) := by rw [IntKind.wrap_u64]; omega
  have HW := hide hW
  clear hW
  go_enter Tryz.func84, Tryz.ntmps84
  go_wp2_with fail
  refine (cwidth64_any _).mono ?_
  rintro e w1 ⟨rfl, rfl⟩
  go_wp2_with fail
  refine (wbits_any b off lo 64 v _ l HW.out hb hlo hlen (by omega) (by omega) (by omega)).mono ?_
  rintro e w1 ⟨rfl, W1, O1⟩
  go_wp2_with fail
  go_end0
  exact ⟨rfl, W1, O1⟩

/-- What takeValue tells. -/
def ValueEnd64 (w : World) (b off : Nat) (s : ByteArray) (a : Nat) (e0 : Int) (e : Ending) (w' : World) : Prop :=
  ∃ (x a' : Nat) (e1 : Int), e = .returned (.int .u64 (x : Int)) ∧ x < 18446744073709551616 ∧ Tk w w' b off s a e0 a' e1 (bitsOf x 64)

theorem takeValue64_any (b off : Nat) (s : ByteArray) (a : Nat) (e0 : Int) (w : World) (h : Rd w b off s a e0) :
    Calls Tryz.prog 64 #[.pointer (some ⟨b, off, none⟩)] w (ValueEnd64 w b off s a e0) := by
  have H := hide h
  clear h
  go_enter Tryz.func64, Tryz.ntmps64
  go_wp2_with fail
  refine (cwidth64_any _).mono ?_
  rintro e w1 ⟨rfl, rfl⟩
  go_wp2_with fail
  refine (tk_bits b off s a 64 e0 _ H.out (by omega)).mono ?_
  rintro e w2 ⟨x, a', e1, rfl, hx, T⟩
  have HT := hide T
  clear T
  have hx' : x < 18446744073709551616 := by simpa using hx
  have r0 : IntKind.u64.wrap (x : Int) = (x : Int) := by rw [IntKind.wrap_u64]; omega
  go_wp2_with fail
  go_ret
  exact ⟨x, a', e1, rfl, hx', HT.out⟩

end Go.Proofs.YtgjjkopmoobilaaGreatDoor

/- What a Writer in memory holds (Wr), what a call may turn (Only), and the contracts of the Writer's methods. -/
import Derived.Test.YtleffbpjjbiobaaGreatDoorC1M
import Derived.Test.YtleffbpjjbiobaaGreatDoorProg
import Derived.WalkKit
import Derived.WalkSpells
import Derived.WalkLawsBesides
import Derived.Deep.QuietTactic
import Derived.BigQuiet
import Derived.BigRegion
import Derived.Deep.MidRow
import Derived.Deep.RegionHeldLaw
/- The bits of a column by Decimal, over whatever arithmetic. Plain mathematics. -/
namespace Go.Proofs.YtleffbpjjbiobaaGreatDoor
open M
set_option linter.unusedVariables false

/-- The arithmetic of a width: products, quotients, whole numbers as floats, the nearest whole number; how far p and k go. -/
structure Dm where
  mul : Nat → Nat → Nat
  div : Nat → Nat → Nat
  int : Int → Nat
  near : Nat → Option Int
  mostP : Nat
  most : Int

namespace Dm
variable (F : Dm)

def pow : Nat → Nat
  | 0 => F.int 1
  | p + 1 => F.mul (pow p) (F.int 10)

def val (p : Nat) (k : Int) : Nat := F.div (F.int k) (F.pow p)

/-- Which whole number a value is at a scale. -/
def wh (p v : Nat) : Option Int :=
  match F.near (F.mul v (F.pow p)) with
  | none => none
  | some k => if k < -F.most ∨ F.most < k ∨ F.val p k ≠ v then none else some k

theorem wh_val {p v : Nat} {k : Int} (h : F.wh p v = some k) : F.val p k = v ∧ -F.most ≤ k ∧ k ≤ F.most := by
  unfold wh at h
  split at h
  · cases h
  · split at h
    · cases h
    · rename_i hn
      simp only [Option.some.injEq] at h
      subst h
      simp only [not_or, Int.not_lt, Decidable.not_not] at hn
      exact ⟨hn.2.2, hn.1, hn.2.1⟩

/-- How many of m values from i on are nothing. -/
def cnt (p : Nat) (f : Nat → Nat) : Nat → Nat → Nat
  | _, 0 => 0
  | i, m + 1 => if (F.wh p (f i)).isSome then cnt p f (i + 1) m else cnt p f (i + 1) m + 1

theorem cnt_end (p : Nat) (f : Nat → Nat) (i m : Nat) : F.cnt p f i (m + 1) = F.cnt p f i m + (if (F.wh p (f (i + m))).isSome then 0 else 1) := by
  induction m generalizing i with
  | zero => simp only [cnt, Nat.add_zero, Nat.zero_add]
  | succ m ih =>
    rw [cnt, ih (i + 1), cnt, show i + 1 + m = i + (m + 1) from by omega]
    by_cases h : (F.wh p (f i)).isSome = true <;> simp only [h, if_true, if_false, Bool.false_eq_true] <;> omega

theorem cnt_le (p : Nat) (f : Nat → Nat) (i m : Nat) : F.cnt p f i m ≤ m := by
  induction m generalizing i with
  | zero => exact Nat.le_refl _
  | succ m ih => have := ih (i + 1); rw [cnt]; split <;> omega

theorem cnt_congr (p : Nat) (f g : Nat → Nat) (i m : Nat) (h : ∀ j, i ≤ j → j < i + m → f j = g j) : F.cnt p f i m = F.cnt p g i m := by
  induction m generalizing i with
  | zero => rfl
  | succ m ih => rw [cnt, cnt, h i (Nat.le_refl _) (by omega), ih (i + 1) fun j h1 h2 => h j (by omega) (by omega)]

/-- The best scale of the first q, and how many values are nothing at it. -/
def bs (f : Nat → Nat) (n : Nat) : Nat → Nat × Nat
  | 0 => (0, F.cnt 0 f 0 n)
  | q + 1 => if (bs f n q).2 = 0 then bs f n q else if F.cnt (q + 1) f 0 n < (bs f n q).2 then (q + 1, F.cnt (q + 1) f 0 n) else bs f n q

theorem bs_le (f : Nat → Nat) (n q : Nat) : (F.bs f n q).1 ≤ q := by
  induction q with
  | zero => exact Nat.le_refl _
  | succ q ih => rw [bs]; split
                 · omega
                 · split
                   · exact Nat.le_refl _
                   · omega

theorem bs_stop (f : Nat → Nat) (n q r : Nat) (h : q ≤ r) (h0 : (F.bs f n q).2 = 0) : F.bs f n r = F.bs f n q := by
  induction r with
  | zero => rw [show q = 0 from by omega]
  | succ r ih =>
    by_cases e : q = r + 1
    · rw [e]
    · have := ih (by omega)
      rw [bs, this, if_pos h0]

theorem bs_congr (f g : Nat → Nat) (n q : Nat) (h : ∀ j, j < n → f j = g j) : F.bs f n q = F.bs g n q := by
  have hc : ∀ p, F.cnt p f 0 n = F.cnt p g 0 n := fun p => F.cnt_congr p f g 0 n fun j _ h2 => h j (by omega)
  induction q with
  | zero => rw [bs, bs, hc]
  | succ q ih => rw [bs, bs, ih, hc]

theorem bs_cnt (f : Nat → Nat) (n q : Nat) : (F.bs f n q).2 = F.cnt (F.bs f n q).1 f 0 n := by
  induction q with
  | zero => rfl
  | succ q ih => rw [bs]; split
                 · exact ih
                 · split
                   · rfl
                   · exact ih

/-- The values that are nothing among m from i on, c whole ones ahead. -/
def nt (W p : Nat) (f : Nat → Nat) : Nat → Nat → Nat → List Bool
  | _, 0, _ => []
  | i, m + 1, c => if (F.wh p (f i)).isSome then nt W p f (i + 1) m (c + 1) else varB c ++ (bitsOf (f i) W ++ nt W p f (i + 1) m 0)

/-- All others among m from i on, behind the whole number a. -/
def wb (p : Nat) (f : Nat → Nat) : Nat → Nat → Int → List Bool
  | _, 0, _ => []
  | i, m + 1, a => match F.wh p (f i) with
    | some k => varB (zig (k - a)) ++ wb p f (i + 1) m k
    | none => wb p f (i + 1) m a

theorem nt_congr (W p : Nat) (f g : Nat → Nat) (i m c : Nat) (h : ∀ j, i ≤ j → j < i + m → f j = g j) : F.nt W p f i m c = F.nt W p g i m c := by
  induction m generalizing i c with
  | zero => rfl
  | succ m ih => rw [nt, nt, h i (Nat.le_refl _) (by omega), ih (i + 1) (c + 1) fun j h1 h2 => h j (by omega) (by omega), ih (i + 1) 0 fun j h1 h2 => h j (by omega) (by omega)]

theorem wb_congr (p : Nat) (f g : Nat → Nat) (i m : Nat) (a : Int) (h : ∀ j, i ≤ j → j < i + m → f j = g j) : F.wb p f i m a = F.wb p g i m a := by
  induction m generalizing i a with
  | zero => rfl
  | succ m ih =>
    rw [wb, wb, h i (Nat.le_refl _) (by omega)]
    split
    · rw [ih (i + 1) _ fun j h1 h2 => h j (by omega) (by omega)]
    · exact ih (i + 1) _ fun j h1 h2 => h j (by omega) (by omega)

theorem nt_none (W p : Nat) (f : Nat → Nat) (i m c : Nat) (h : F.cnt p f i m = 0) : F.nt W p f i m c = [] ∧ ∀ j, i ≤ j → j < i + m → (F.wh p (f j)).isSome = true := by
  induction m generalizing i c with
  | zero => exact ⟨rfl, fun j h1 h2 => by omega⟩
  | succ m ih =>
    rw [cnt] at h
    by_cases hs : (F.wh p (f i)).isSome = true
    · rw [if_pos hs] at h
      obtain ⟨h1, h2⟩ := ih (i + 1) (c + 1) h
      refine ⟨by rw [nt, if_pos hs, h1], fun j h3 h4 => ?_⟩
      by_cases e : j = i
      · rw [e]; exact hs
      · exact h2 j (by omega) (by omega)
    · rw [if_neg hs] at h; omega

/-- The next value that is nothing. -/
theorem nt_next (W p : Nat) (f : Nat → Nat) (i m c : Nat) (h : 0 < F.cnt p f i m) : ∃ j, j < m ∧ (F.wh p (f (i + j))).isSome = false ∧ (∀ t, t < j → (F.wh p (f (i + t))).isSome = true) ∧ F.cnt p f i m = F.cnt p f (i + j + 1) (m - (j + 1)) + 1 ∧
    F.nt W p f i m c = varB (c + j) ++ (bitsOf (f (i + j)) W ++ F.nt W p f (i + j + 1) (m - (j + 1)) 0) := by
  induction m generalizing i c with
  | zero => simp [cnt] at h
  | succ m ih =>
    rw [cnt] at h ⊢
    rw [nt]
    by_cases hs : (F.wh p (f i)).isSome = true
    · rw [if_pos hs] at h ⊢
      rw [if_pos hs]
      obtain ⟨j, h1, h2, h3, h4, h5⟩ := ih (i + 1) (c + 1) h
      refine ⟨j + 1, by omega, by rw [show i + (j + 1) = i + 1 + j from by omega]; exact h2, fun t ht => ?_, ?_, ?_⟩
      · match t with
        | 0 => exact hs
        | t + 1 => rw [show i + (t + 1) = i + 1 + t from by omega]; exact h3 t (by omega)
      · rw [h4, show i + (j + 1) + 1 = i + 1 + j + 1 from by omega, show m + 1 - (j + 1 + 1) = m - (j + 1) from by omega]
      · rw [h5, show i + (j + 1) + 1 = i + 1 + j + 1 from by omega, show m + 1 - (j + 1 + 1) = m - (j + 1) from by omega, show c + 1 + j = c + (j + 1) from by omega, show i + (j + 1) = i + 1 + j from by omega]
    · rw [if_neg hs, if_neg hs]
      exact ⟨0, by omega, by simpa using hs, fun t ht => by omega, by simp, by simp⟩

theorem nt_len (W p : Nat) (hW : W ≤ 64) (f : Nat → Nat) (i m c : Nat) (hv : ∀ x, (varB x).length ≤ 80) : (F.nt W p f i m c).length ≤ 144 * m := by
  induction m generalizing i c with
  | zero => simp [nt]
  | succ m ih =>
    rw [nt]; split
    · have := ih (i + 1) (c + 1); omega
    · rw [List.length_append, List.length_append, bitsOf_length]
      have := ih (i + 1) 0; have := hv c; omega

theorem wb_len (p : Nat) (f : Nat → Nat) (i m : Nat) (a : Int) (hv : ∀ x, (varB x).length ≤ 80) : (F.wb p f i m a).length ≤ 80 * m := by
  induction m generalizing i a with
  | zero => simp [wb]
  | succ m ih =>
    rw [wb]; split
    · rename_i k _
      rw [List.length_append]
      have := ih (i + 1) k; have := hv (zig (k - a)); omega
    · have := ih (i + 1) a; omega

/-- The bits of a column by Decimal. -/
def dm (W : Nat) (f : Nat → Nat) (n : Nat) : List Bool :=
  bitsOf (F.bs f n F.mostP).1 5 ++ (varB (F.cnt (F.bs f n F.mostP).1 f 0 n) ++ (F.nt W (F.bs f n F.mostP).1 f 0 n 0 ++ F.wb (F.bs f n F.mostP).1 f 0 n 0))

theorem dm_congr (W : Nat) (f g : Nat → Nat) (n : Nat) (h : ∀ j, j < n → f j = g j) : F.dm W f n = F.dm W g n := by
  unfold dm
  rw [F.bs_congr f g n _ h, F.cnt_congr _ f g 0 n fun j _ h2 => h j (by omega), F.nt_congr W _ f g 0 n 0 fun j _ h2 => h j (by omega), F.wb_congr _ f g 0 n 0 fun j _ h2 => h j (by omega)]

end Dm
end Go.Proofs.YtleffbpjjbiobaaGreatDoor

/- CodeDecimals: a column of quotients k / 10 ^ p by Decimal needs no more bits than the differences of these k. Plain mathematics. -/
namespace Go.Proofs.YtleffbpjjbiobaaGreatDoor
open M
set_option linter.unusedVariables false

theorem groups_monoD (k x y : Nat) (h : x ≤ y) : (groups k x).length ≤ (groups k y).length := by
  induction k generalizing x y with
  | zero => simp [groups]
  | succ k ih =>
    by_cases hy : y < 128
    · rw [groups_small _ _ hy, groups_small _ _ (by omega)]; simp
    · rw [groups_big k y (by omega)]
      by_cases hx : x < 128
      · rw [groups_small _ _ hx]; simp
      · rw [groups_big k x (by omega), List.length_append, List.length_append]
        have := ih (x / 128) (y / 128) (Nat.div_le_div_right h)
        simp only [bitsOf_length]; omega

theorem varB_monoD (x y : Nat) (h : x ≤ y) : (varB x).length ≤ (varB y).length := groups_monoD 9 x y h

theorem zig_scale (a : Int) (E : Nat) (hE : 1 ≤ E) : zig a ≤ zig (a * E) := by
  unfold zig
  obtain ⟨e, rfl⟩ : ∃ e : Nat, E = e + 1 := ⟨E - 1, by omega⟩
  have e1 : a * ((e + 1 : Nat) : Int) = a * (e : Int) + a := by rw [Int.natCast_add, Int.mul_add]; simp
  rw [e1]
  by_cases h : a < 0
  · have h2 : a * (e : Int) ≤ 0 := Int.mul_nonpos_of_nonpos_of_nonneg (by omega) (by omega)
    rw [if_pos h, if_pos (by omega)]; omega
  · have h2 : 0 ≤ a * (e : Int) := Int.mul_nonneg (by omega) (by omega)
    rw [if_neg h, if_neg (by omega)]; omega

/-- How many bits the differences of whole numbers need. -/
def lsum (k : Nat → Int) : Nat → Nat → Int → Nat
  | _, 0, _ => 0
  | i, m + 1, a => (varB (zig (k i - a))).length + lsum k (i + 1) m (k i)

theorem lsum_end (k : Nat → Int) (i m : Nat) (a : Int) : lsum k i (m + 1) a = lsum k i m a + (varB (zig (k (i + m) - (if m = 0 then a else k (i + m - 1))))).length := by
  induction m generalizing i a with
  | zero => simp [lsum]
  | succ m ih =>
    rw [lsum, ih (i + 1) (k i), lsum]
    have e : (if m = 0 then k i else k (i + 1 + m - 1)) = (if m + 1 = 0 then a else k (i + (m + 1) - 1)) := by
      rw [if_neg (by omega : ¬ m + 1 = 0)]
      by_cases h : m = 0
      · subst h; simp
      · rw [if_neg h]; congr 1; omega
    rw [e, show i + 1 + m = i + (m + 1) from by omega]; omega

namespace Dm
variable (F : Dm)

theorem cnt_zero (p : Nat) (f : Nat → Nat) (i m : Nat) (h : ∀ j, i ≤ j → j < i + m → (F.wh p (f j)).isSome = true) : F.cnt p f i m = 0 := by
  induction m generalizing i with
  | zero => rfl
  | succ m ih => rw [cnt, if_pos (h i (Nat.le_refl _) (by omega))]; exact ih (i + 1) fun j h1 h2 => h j (by omega) (by omega)

/-- Where at some scale none is nothing, the best scale is no greater, and none is nothing there. -/
theorem bs_none (f : Nat → Nat) (n p q : Nat) (hpq : p ≤ q) (h : F.cnt p f 0 n = 0) : (F.bs f n q).2 = 0 ∧ (F.bs f n q).1 ≤ p := by
  have h0 : (F.bs f n p).2 = 0 := by
    cases p with
    | zero => rw [bs_cnt]; exact h
    | succ p =>
      rw [bs]
      split
      · assumption
      · split
        · exact h
        · rename_i hn hm
          omega
  rw [F.bs_stop f n p q hpq h0]
  exact ⟨h0, F.bs_le f n p⟩

theorem wb_le (q : Nat) (f : Nat → Nat) (k : Nat → Int) (E : Nat) (hE : 1 ≤ E) (i m : Nat) (a : Int) (h : ∀ j, i ≤ j → j < i + m → ∃ k', F.wh q (f j) = some k' ∧ k' * E = k j) :
    (F.wb q f i m a).length ≤ lsum k i m (a * E) := by
  induction m generalizing i a with
  | zero => exact Nat.le_refl _
  | succ m ih =>
    obtain ⟨k', h1, h2⟩ := h i (Nat.le_refl _) (by omega)
    rw [wb, h1, lsum]
    show (varB (zig (k' - a)) ++ F.wb q f (i + 1) m k').length ≤ _
    rw [List.length_append, ← h2]
    have h3 := ih (i + 1) k' fun j h1 h2 => h j (by omega) (by omega)
    rw [h2] at h3
    have h4 : (varB (zig (k' - a))).length ≤ (varB (zig (k' * E - a * E))).length := varB_monoD _ _ (by rw [← Int.sub_mul]; exact zig_scale _ _ hE)
    rw [h2] at h4 ⊢
    omega

/-- What is asked of an arithmetic: whole numbers of few digits come back at their scale, and stand for one number at any lesser one. -/
structure Few : Prop where
  back : ∀ (p : Nat) (k : Int), p ≤ F.mostP → -F.most ≤ k → k ≤ F.most → F.wh p (F.val p k) = some k
  one : ∀ (q p : Nat) (k' k : Int), q ≤ p → p ≤ F.mostP → -F.most ≤ k → k ≤ F.most → -F.most ≤ k' → k' ≤ F.most → F.val q k' = F.val p k → k' * ((10 ^ (p - q) : Nat) : Int) = k

/-- So a column of quotients has no nothing, and needs no more bits. -/
theorem dm_few (H : F.Few) (W : Nat) (f : Nat → Nat) (k : Nat → Int) (n p : Nat) (hp : p ≤ F.mostP) (hk : ∀ i, i < n → -F.most ≤ k i ∧ k i ≤ F.most) (hf : ∀ i, i < n → f i = F.val p (k i)) :
    ∃ (q : Nat) (r : List Bool), F.dm W f n = bitsOf q 5 ++ (bitsOf 0 8 ++ r) ∧ r.length ≤ lsum k 0 n 0 := by
  have h0 : F.cnt p f 0 n = 0 := F.cnt_zero p f 0 n fun j _ h2 => by
    rw [hf j (by omega), H.back p (k j) hp (hk j (by omega)).1 (hk j (by omega)).2]; rfl
  obtain ⟨b1, b2⟩ := F.bs_none f n p F.mostP hp h0
  have b3 := F.bs_cnt f n F.mostP
  rw [b1] at b3
  unfold dm
  generalize (F.bs f n F.mostP).1 = q at *
  obtain ⟨c1, c2⟩ := F.nt_none W q f 0 n 0 b3.symm
  refine ⟨q, F.wb q f 0 n 0, ?_, ?_⟩
  · rw [c1, ← b3, List.nil_append]
    show _ ++ (varB 0 ++ _) = _
    unfold varB
    rw [groups_small _ _ (by omega)]
  · have := F.wb_le q f k (10 ^ (p - q)) (Nat.pos_of_ne_zero (by simp)) 0 n 0 fun j _ h2 => by
      have hs := c2 j (by omega) (by omega)
      obtain ⟨k', hk'⟩ := Option.isSome_iff_exists.1 hs
      obtain ⟨v1, v2, v3⟩ := F.wh_val hk'
      refine ⟨k', hk', H.one q p k' (k j) b2 hp (hk j (by omega)).1 (hk j (by omega)).2 v2 v3 ?_⟩
      rw [v1, hf j (by omega)]
    rw [Int.zero_mul] at this
    exact this

end Dm
end Go.Proofs.YtleffbpjjbiobaaGreatDoor

namespace Go.Proofs.YtleffbpjjbiobaaGreatDoor
open Go.RowKit
open M

set_option maxHeartbeats 400000 in
theorem lowOnes_any (k : Nat) (w : World) (h1 : k ≤ 8) :
    Calls Tryz.prog 145 #[.int .i64 k] w fun e w' => e = .returned (.int .u8 (255 / 2 ^ (8 - k))) ∧ w' = w := by
  go_enter Tryz.func145, Tryz.ntmps145
  go_wp2
  go_ret
  exact ⟨rfl, rfl⟩


/-- A Writer's cells: the pointer to the full chunks, the 120 bytes behind them, the number of bits, the first refusal. -/
structure Raw (w : World) (b off : Nat) (p : Option Addr) (f : Nat → Nat) (n : Nat) (e : Int) : Prop where
  full : w.cell? ⟨b, off, none⟩ = some (.pointer p)
  last : ∀ j, j < 120 → w.cell? ⟨b, off + 1 + j, none⟩ = some (.int .u8 (f j))
  len : w.cell? ⟨b, off + 121, none⟩ = some (.int .i64 n)
  err : w.cell? ⟨b, off + 122, none⟩ = some (.int .i64 e)
  fz : ∀ j, j < 123 → w.frozen? ⟨b, off + j, none⟩ = false

/-- Of what was there only the cells from lo to hi of block b may have turned. -/
structure Only (b lo hi : Nat) (w w' : World) : Prop where
  os : w'.os = w.os
  tape : w'.tape = w.tape
  output : w'.output = w.output
  size : w.heap.size ≤ w'.heap.size
  block : ∀ k, k < w.heap.size → k ≠ b → w'.heap[k]? = w.heap[k]?
  cell : ∀ j, (j < lo ∨ hi ≤ j) → w'.cell? ⟨b, j, none⟩ = w.cell? ⟨b, j, none⟩
  frozen : ∀ j, w'.frozen? ⟨b, j, none⟩ = w.frozen? ⟨b, j, none⟩

theorem Only.refl (b lo hi : Nat) (w : World) : Only b lo hi w w := ⟨rfl, rfl, rfl, Nat.le_refl _, fun _ _ _ => rfl, fun _ _ => rfl, fun _ => rfl⟩

theorem Only.trans {b lo hi : Nat} {u v w : World} (h : Only b lo hi u v) (k : Only b lo hi v w) : Only b lo hi u w :=
  ⟨k.os.trans h.os, k.tape.trans h.tape, k.output.trans h.output, Nat.le_trans h.size k.size,
   fun i hi hb => (k.block i (Nat.lt_of_lt_of_le hi h.size) hb).trans (h.block i hi hb), fun j hj => (k.cell j hj).trans (h.cell j hj), fun j => (k.frozen j).trans (h.frozen j)⟩

theorem Only.drew {b lo hi : Nat} {u w : World} (h : Only b lo hi u w) : Only b lo hi u w.drew := ⟨h.os, h.tape, h.output, h.size, h.block, h.cell, h.frozen⟩

theorem Only.drewN {b lo hi : Nat} {u w : World} (h : Only b lo hi u w) (n : Nat) : Only b lo hi u (w.drewN n) := ⟨h.os, h.tape, h.output, h.size, h.block, h.cell, h.frozen⟩

theorem Only.alloc {b lo hi : Nat} {u w : World} (h : Only b lo hi u w) (hb : b < w.heap.size) (o : Obj) : Only b lo hi u (w.alloc o) := by
  refine h.trans ⟨rfl, rfl, rfl, by simp, fun k hk _ => Below.heap_alloc _ _ _ hk, fun j _ => ?_, fun j => ?_⟩
  · exact World.cell?_of_block (w := w) (Below.heap_alloc _ _ _ hb)
  · exact World.frozen?_of_block (w := w) (Below.heap_alloc _ _ _ hb)

theorem cell_setCell_ne (w : World) (b i j : Nat) (v : Value) (h : j ≠ i) : (w.setCell ⟨b, i, none⟩ v).cell? ⟨b, j, none⟩ = w.cell? ⟨b, j, none⟩ := by
  simp only [World.cell?, World.setCell, Array.getElem?_modify]
  simp only [if_true]
  cases w.heap[b]? with
  | none => rfl
  | some o => cases o <;> simp
              rw [Array.getElem?_setIfInBounds_ne (by omega)]

theorem cell_setCell_eq (w : World) (b i : Nat) (v u : Value) (h : w.cell? ⟨b, i, none⟩ = some u) : (w.setCell ⟨b, i, none⟩ v).cell? ⟨b, i, none⟩ = some v := by
  simp only [World.cell?, World.setCell, Array.getElem?_modify] at h ⊢
  simp only [if_true]
  cases hb : w.heap[b]? with
  | none => simp [hb] at h
  | some o => cases o <;> simp [hb] at h ⊢
              rename_i c e f
              have hi : i < c.size := by
                rcases Nat.lt_or_ge i c.size with h1 | h1
                · exact h1
                · simp [h1] at h
              simp [hi]

theorem frozen_setCell (w : World) (a : Addr) (v : Value) (p : Addr) : (w.setCell a v).frozen? p = w.frozen? p := by
  simp only [World.frozen?, World.setCell, Array.getElem?_modify]
  by_cases h : a.block = p.block
  · rw [if_pos h]
    cases w.heap[p.block]? with
    | none => rfl
    | some o => cases o <;> simp
  · rw [if_neg h]

theorem Only.setCell {b lo hi : Nat} {u w : World} (h : Only b lo hi u w) (i : Nat) (h1 : lo ≤ i) (h2 : i < hi) (v : Value) : Only b lo hi u (w.setCell ⟨b, i, none⟩ v) := by
  refine h.trans ⟨rfl, rfl, rfl, by simp [World.setCell], fun k _ hb => Below.heap_setCell _ _ _ _ hb, fun j hj => cell_setCell_ne _ _ _ _ _ (by omega), fun j => frozen_setCell _ _ _ _⟩

theorem Raw.drew {w : World} {b off : Nat} {p : Option Addr} {f : Nat → Nat} {n : Nat} {e : Int} (h : Raw w b off p f n e) : Raw w.drew b off p f n e := ⟨h.full, h.last, h.len, h.err, h.fz⟩
theorem Raw.drewN {w : World} {b off : Nat} {p : Option Addr} {f : Nat → Nat} {n : Nat} {e : Int} (h : Raw w b off p f n e) (m : Nat) : Raw (w.drewN m) b off p f n e := ⟨h.full, h.last, h.len, h.err, h.fz⟩

theorem Raw.setLast {w : World} {b off : Nat} {p : Option Addr} {f : Nat → Nat} {n : Nat} {e : Int} (h : Raw w b off p f n e) (q v : Nat) (hq : q < 120) :
    Raw (w.setCell ⟨b, off + 1 + q, none⟩ (.int .u8 v)) b off p (fun j => if j = q then v else f j) n e := by
  refine ⟨?_, fun j hj => ?_, ?_, ?_, fun j hj => ?_⟩
  · rw [cell_setCell_ne _ _ _ _ _ (by omega)]; exact h.full
  · by_cases e1 : j = q
    · subst e1; rw [cell_setCell_eq _ _ _ _ _ (h.last j hj)]; simp
    · rw [cell_setCell_ne _ _ _ _ _ (by omega), h.last j hj]; simp [e1]
  · rw [cell_setCell_ne _ _ _ _ _ (by omega)]; exact h.len
  · rw [cell_setCell_ne _ _ _ _ _ (by omega)]; exact h.err
  · rw [frozen_setCell]; exact h.fz j hj

theorem Raw.setLen {w : World} {b off : Nat} {p : Option Addr} {f : Nat → Nat} {n : Nat} {e : Int} (h : Raw w b off p f n e) (m : Nat) :
    Raw (w.setCell ⟨b, off + 121, none⟩ (.int .i64 m)) b off p f m e := by
  refine ⟨?_, fun j hj => ?_, ?_, ?_, fun j hj => ?_⟩
  · rw [cell_setCell_ne _ _ _ _ _ (by omega)]; exact h.full
  · rw [cell_setCell_ne _ _ _ _ _ (by omega), h.last j hj]
  · exact cell_setCell_eq _ _ _ _ _ h.len
  · rw [cell_setCell_ne _ _ _ _ _ (by omega)]; exact h.err
  · rw [frozen_setCell]; exact h.fz j hj

theorem Raw.setErr {w : World} {b off : Nat} {p : Option Addr} {f : Nat → Nat} {n : Nat} {e : Int} (h : Raw w b off p f n e) (m : Int) :
    Raw (w.setCell ⟨b, off + 122, none⟩ (.int .i64 m)) b off p f n m := by
  refine ⟨?_, fun j hj => ?_, ?_, ?_, fun j hj => ?_⟩
  · rw [cell_setCell_ne _ _ _ _ _ (by omega)]; exact h.full
  · rw [cell_setCell_ne _ _ _ _ _ (by omega), h.last j hj]
  · rw [cell_setCell_ne _ _ _ _ _ (by omega)]; exact h.len
  · exact cell_setCell_eq _ _ _ _ _ h.err
  · rw [frozen_setCell]; exact h.fz j hj


theorem wrefuse_zero (b off : Nat) (m : Int) (w : World) (hn : w.cell? ⟨b, off + 122, none⟩ = some (.int .i64 0)) (hf : w.frozen? ⟨b, off + 122, none⟩ = false) :
    Calls Tryz.prog 126 #[.pointer (some ⟨b, off, none⟩), .int .i64 m] w fun e w' => e = .returned (.tuple #[]) ∧ w' = w.setCell ⟨b, off + 122, none⟩ (.int .i64 m) := by
  go_enter Tryz.func126, Tryz.ntmps126
  go_wp2
  go_end0
  exact ⟨rfl, rfl⟩

theorem wrefuse_not (b off : Nat) (m e0 : Int) (w : World) (hn : w.cell? ⟨b, off + 122, none⟩ = some (.int .i64 e0)) (hf : (e0 == 0) = false) :
    Calls Tryz.prog 126 #[.pointer (some ⟨b, off, none⟩), .int .i64 m] w fun e w' => e = .returned (.tuple #[]) ∧ w' = w := by
  go_enter Tryz.func126, Tryz.ntmps126
  go_wp2
  go_end0
  exact ⟨rfl, rfl⟩


theorem Only.setCells {b lo hi : Nat} (vs : List Value) : ∀ {u w : World} (o : Nat), Only b lo hi u w → lo ≤ o → o + vs.length ≤ hi → Only b lo hi u (w.setCells b o vs) := by
  induction vs with
  | nil => intro u w o h _ _; exact h
  | cons v vs ih =>
    intro u w o h h1 h2
    simp only [List.length_cons] at h2
    exact ih (o + 1) (h.setCell o h1 (by omega) v) (by omega) (by omega)

/-- A chunk that is full: the pointer to the one ahead, 120 bytes. -/
def Chunk (w : World) (c : Nat) (q : Option Addr) (f : Nat → Nat) : Prop :=
  w.cell? ⟨c, 0, none⟩ = some (.pointer q) ∧ ∀ j, j < 120 → w.cell? ⟨c, 1 + j, none⟩ = some (.int .u8 (f j))

theorem keep_world {w : World} {b off : Nat} {p : Option Addr} {f : Nat → Nat} {n : Nat} {e : Int} (h : Raw w b off p f n e) (cs : List Value) (hcs : cs = (List.range 120).map fun j => Value.int .u8 (f j)) (w' : World)
    (hw : w' = (((w.setCell ⟨b, off, none⟩ (.pointer (some ⟨w.heap.size, 0, none⟩))).alloc (.cells (.pointer p :: cs).toArray 167)).drew).setCells b (off + 1) (List.replicate 120 (Value.int .u8 0))) :
    Raw w' b off (some ⟨w.heap.size, 0, none⟩) (fun _ => 0) n e ∧ Chunk w' w.heap.size p f ∧ Only b off (off + 123) w w' ∧ w.heap.size < w'.heap.size := by
  have hbs : b < w.heap.size := block_lt_of_cell h.full
  generalize hw1 : ((w.setCell ⟨b, off, none⟩ (.pointer (some ⟨w.heap.size, 0, none⟩))).alloc (.cells (.pointer p :: cs).toArray 167)).drew = w1 at hw
  have o1 : Only b off (off + 123) w w1 := by
    rw [← hw1]
    exact (((Only.refl b off (off + 123) w).setCell off (Nat.le_refl _) (by omega) _).alloc (by simpa [World.setCell] using hbs) _).drew
  have hcell : ∀ i, i ≠ off → w1.cell? ⟨b, i, none⟩ = w.cell? ⟨b, i, none⟩ := fun i hi => by
    rw [← hw1, ← cell_setCell_ne w b off i (.pointer (some ⟨w.heap.size, 0, none⟩)) hi]
    exact World.cell?_of_block (w := w.setCell ⟨b, off, none⟩ _) (Below.heap_alloc _ _ _ (by simpa [World.setCell] using hbs))
  have hoff : w1.cell? ⟨b, off, none⟩ = some (.pointer (some ⟨w.heap.size, 0, none⟩)) := by
    rw [← hw1, ← cell_setCell_eq w b off (.pointer (some ⟨w.heap.size, 0, none⟩)) _ h.full]
    exact World.cell?_of_block (w := w.setCell ⟨b, off, none⟩ _) (Below.heap_alloc _ _ _ (by simpa [World.setCell] using hbs))
  have hnew : w1.heap[w.heap.size]? = some (.cells (.pointer p :: cs).toArray 167 (0, 0)) := by
    rw [← hw1]
    have := heap_alloc_new (w.setCell ⟨b, off, none⟩ (.pointer (some ⟨w.heap.size, 0, none⟩))) (.cells (.pointer p :: cs).toArray 167)
    have e : (w.setCell ⟨b, off, none⟩ (.pointer (some ⟨w.heap.size, 0, none⟩))).heap.size = w.heap.size := by simp [World.setCell]
    rw [e] at this
    exact this
  have hs1 : w.heap.size < w1.heap.size := by
    rw [← hw1]; simp [World.setCell]
  have o2 : Only b off (off + 123) w w' := by rw [hw]; exact o1.setCells _ _ (by omega) (by simp)
  have hout : ∀ x : Addr, (x.block = b → x.spot = none → x.off < off + 1 ∨ off + 121 ≤ x.off) → w'.cell? x = w1.cell? x := fun x hx => by
    rw [hw]; exact World.cell?_setCells_out b _ _ _ _ (by simpa using hx)
  refine ⟨⟨?_, fun j hj => ?_, ?_, ?_, fun j hj => ?_⟩, ⟨?_, fun j hj => ?_⟩, o2, ?_⟩
  · rw [hout _ (fun _ _ => by left; simp)]; exact hoff
  · rw [hw, World.cell?_setCells_in b _ _ _ (fun i hi => by rw [hcell _ (by omega), h.last i (by simpa using hi)]; rfl) j (by simpa using hj), List.getElem_replicate]; rfl
  · rw [hout _ (fun _ _ => by right; simp), hcell _ (by omega)]; exact h.len
  · rw [hout _ (fun _ _ => by right; simp), hcell _ (by omega)]; exact h.err
  · rw [o2.frozen]; exact h.fz j hj
  · rw [hout _ (fun hb _ => by simp at hb; omega), cell_of_row _ _ _ _ _ _ hnew]; rfl
  · rw [hout _ (fun hb _ => by simp at hb; omega), cell_of_row _ _ _ _ _ _ hnew, hcs, Nat.add_comm 1 j]; simp [hj]
  · have := o2.size; have e : w1.heap.size ≤ w'.heap.size := by rw [hw]; exact ((Only.refl b (off + 1) (off + 121) w1).setCells _ _ (Nat.le_refl _) (by simp)).size
    omega

theorem fold_fill (cs : List Value) : ∀ (k : Nat) (A : Array Value) (o : Nat), o + k + cs.length ≤ A.size →
    (cs.zipIdx k).foldl (fun a x => a.setIfInBounds (o + x.2) x.1) A = (A.toList.take (o + k) ++ cs ++ A.toList.drop (o + k + cs.length)).toArray := by
  induction cs with
  | nil => intro k A o h; simp
  | cons c cs ih =>
    intro k A o h
    simp only [List.length_cons] at h
    rw [List.zipIdx_cons, List.foldl_cons, ih (k + 1) _ o (by simp; omega)]
    congr 1
    simp only [Array.toList_setIfInBounds, List.length_cons]
    have e1 : (A.toList.set (o + k) c).take (o + (k + 1)) = A.toList.take (o + k) ++ [c] := by
      rw [show o + (k + 1) = (o + k) + 1 from by omega, List.take_succ_eq_append_getElem (by simp; omega)]
      simp [List.take_set_of_le]
    have e2 : (A.toList.set (o + k) c).drop (o + (k + 1) + cs.length) = A.toList.drop (o + k + (cs.length + 1)) := by
      rw [List.drop_set_of_lt (by omega), show o + (k + 1) + cs.length = o + k + (cs.length + 1) from by omega]
    rw [e1, e2]; simp

theorem build_chunk (q : Option Addr) (cs : List Value) (h : cs.length = 120) (w : World) :
    (Instr.build 167 #[(0, .pointer q), (1, .agg cs.toArray)]).run Tryz.prog w = .ok (.agg (.pointer q :: cs).toArray) w := by
  have hz : (zeroValue 167).run Tryz.prog w = .ok (.agg (Value.pointer none :: List.replicate 120 (Value.int .u8 0)).toArray) w := by kernel_rfl
  have hs1 : (sizeOf 122).run Tryz.prog w = .ok 1 w := by kernel_rfl
  have hs2 : (sizeOf 123).run Tryz.prog w = .ok 120 w := by kernel_rfl
  have hf := fold_fill cs 0 (Value.pointer q :: List.replicate 120 (Value.int .u8 0)).toArray 1 (by simp [h])
  unfold Instr.build
  rw [Sem.run_bind, hz]
  simp only [Result.andThen_ok]
  rw [Sem.run_bind, run_underlying Tryz.underlying167 w]
  simp only [Result.andThen_ok]
  simp [hs1, Instr.fill, Value.cells, h]
  refine hf.trans ?_
  rw [h, List.drop_eq_nil_of_le (by simp), List.append_nil]
  rfl

theorem exec_build (q : Option Addr) (cs : List Value) (h : cs.length = 120) {o : Oper} {ρ : Operand → Value} (ho : o.op = .build 167 #[(0, .tmp 6), (1, .tmp 10)]) (h6 : ρ (.tmp 6) = .pointer q) (h10 : ρ (.tmp 10) = .agg cs.toArray) (w : World) :
    (execOp ρ o).run Tryz.prog w = .ok (.value (.agg (.pointer q :: cs).toArray)) w := by
  unfold execOp
  rw [ho]
  simp [h6, h10, build_chunk q cs h]

/-- The load of a long array, as one step of a region that draws. -/
theorem step_load_mid {P : Program} {ops : Array Oper} {op : Oper} {a : Act} {w : World} {K : Act → World → Prop} {Q : Exit → Act → World → Prop} {E : Prop}
    (hg : op.guard = none) (ty : TypeId) (x : Operand) (ho : op.op = .load ty x) (b o : Nat) (hx : a.eval x = .pointer (some ⟨b, o, none⟩)) (cs : List Value) (d : TypeDesc) (hc : w.rangeAt b o cs)
    (hu : P.underlying ty = some d) (hd : d.isRow = true) (hi : (P.info? ty).map (·.size) = some cs.length) (h : K (a.put op.dst (.agg cs.toArray)) w) :
    if Region.wanted op (yielded ops a.tmps) = true then Oper.wp P op a w K Q else E := by
  have hw : Region.wanted op (yielded ops a.tmps) = true := by simp [Region.wanted, hg]
  rw [if_pos hw]
  exact wp_load_mid ty x ho b o hx cs d hc hu hd hi h

set_option maxRecDepth 100000 in
set_option maxHeartbeats 400000 in
theorem keepLast_any (b off : Nat) (p : Option Addr) (f : Nat → Nat) (n : Nat) (e0 : Int) (w : World) (h : Raw w b off p f n e0) :
    Calls Tryz.prog 162 #[.pointer (some ⟨b, off, none⟩)] w fun e w' => e = .returned (.tuple #[]) ∧
      Raw w' b off (some ⟨w.heap.size, 0, none⟩) (fun _ => 0) n e0 ∧ Chunk w' w.heap.size p f ∧ Only b off (off + 123) w w' ∧ w.heap.size < w'.heap.size := by
  have h1 := h.full
  have h2 := h.fz 0 (by omega)
  simp only [Nat.add_zero] at h2
  obtain ⟨cs, hcd, hcs, hr⟩ : ∃ cs : List Value, Hid (cs = (List.range 120).map fun j => Value.int .u8 (f j)) ∧ cs.length = 120 ∧ w.rangeAt b (off + 1) cs := ⟨(List.range 120).map fun j => Value.int .u8 (f j), rfl, by simp, fun j v hj => by
    rw [List.getElem?_map, Option.map_eq_some_iff] at hj
    obtain ⟨i, hi, rfl⟩ := hj
    rw [List.getElem?_eq_some_iff] at hi
    obtain ⟨hi, rfl⟩ := hi
    simp at hi ⊢
    exact h.last j hi⟩
  have hu24 : Tryz.prog.underlying 123 = some (.array 120 5) := Tryz.underlying123
  have hi24 : (Tryz.prog.info? 123).map (·.size) = some cs.length := by rw [hcs]; kernel_rfl
  have hb := build_chunk p cs hcs
  have hbs : b < w.heap.size := block_lt_of_cell h1
  go_enter Tryz.func162, Tryz.ntmps162
  go_wp2
  refine Code.wp_mono (Q := fun e a w' => e = .normal ∧ a = ⟨#[.pointer (some ⟨b, off, none⟩), undef, .pointer (some ⟨b, off, none⟩), .pointer (some ⟨b, off, none⟩), .pointer (some ⟨b, off, none⟩), .pointer (some ⟨b, off, none⟩), .pointer p,
    .pointer (some ⟨b, off, none⟩), .pointer (some ⟨b, off, none⟩), .pointer (some ⟨b, off + 1, none⟩), .agg cs.toArray, .agg (.pointer p :: cs).toArray, .pointer (some ⟨w.heap.size, 0, none⟩), .pointer (some ⟨b, off, none⟩), .pointer (some ⟨b, off, none⟩), undef, undef, undef, undef], []⟩ ∧
    w' = ((w.setCell ⟨b, off, none⟩ (.pointer (some ⟨w.heap.size, 0, none⟩))).alloc (.cells (.pointer p :: cs).toArray 167)).drew) ?_ ?_
  · rintro e a w' ⟨rfl, rfl, rfl⟩
    have hz24 : ∀ w : World, (Instr.build 123 #[]).run Tryz.prog w = .ok (.agg (List.replicate 120 (Value.int .u8 0)).toArray) w := fun _ => by kernel_rfl
    have hz25 : ∀ w : World, (zeroValue 123).run Tryz.prog w = .ok (.agg (List.replicate 120 (Value.int .u8 0)).toArray) w := fun _ => by kernel_rfl
    generalize hW1 : ((w.setCell ⟨b, off, none⟩ (.pointer (some ⟨w.heap.size, 0, none⟩))).alloc (.cells (.pointer p :: cs).toArray 167)).drew = W1
    have HW1 : Hid (((w.setCell ⟨b, off, none⟩ (.pointer (some ⟨w.heap.size, 0, none⟩))).alloc (.cells (.pointer p :: cs).toArray 167)).drew = W1) := hW1
    clear hW1
    go_wp2_with (refine wpList_store_mid rfl 123 _ _ rfl b (off + 1) (List.replicate 120 (Value.int .u8 0)).toArray rfl rfl ?_ ?_ ?_ ?_)
    · intro j hj
      simp only [List.size_toArray, List.length_replicate] at hj
      have e1 : W1.cell? ⟨b, off + 1 + j, none⟩ = w.cell? ⟨b, off + 1 + j, none⟩ := by
        rw [← HW1.out, ← cell_setCell_ne w b off (off + 1 + j) (.pointer (some ⟨w.heap.size, 0, none⟩)) (by omega)]
        exact World.cell?_of_block (w := w.setCell ⟨b, off, none⟩ _) (Below.heap_alloc _ _ _ (by simpa [World.setCell] using hbs))
      have e2 : W1.frozen? ⟨b, off + 1 + j, none⟩ = w.frozen? ⟨b, off + 1 + j, none⟩ := by
        rw [← HW1.out, ← frozen_setCell w ⟨b, off, none⟩ (.pointer (some ⟨w.heap.size, 0, none⟩))]
        exact World.frozen?_of_block (w := w.setCell ⟨b, off, none⟩ _) (Below.heap_alloc _ _ _ (by simpa [World.setCell] using hbs))
      rw [e1, e2, h.last j hj, show off + 1 + j = off + (1 + j) from by omega, h.fz (1 + j) (by omega)]
      exact ⟨rfl, rfl⟩
    · kernel_rfl
    · kernel_rfl
    · go_wp2
      go_end0
      exact ⟨rfl, keep_world h cs hcd.out _ (by rw [← HW1.out]; rfl)⟩
  · rename_i Q1 K1 hc1
    clear hc1 K1 Q1
    refine wp_region_any (by kernel_rfl) ?_
    change wpAny _ _ _ _ _ _ _ (World.drew _)
    refine wpAny_take (i := 0) (v := ?_) rfl (by kernel_rfl) (by kernel_rfl) (by kernel_rfl) (fun _ _ _ h => absurd h.1 (by simp)) (Or.inl ⟨by rfl, ?_⟩) ?_
    rotate_left
    · intro w; go_simp; with_reducible rfl
    refine wpAny_take (i := 1) (v := ?_) rfl (by kernel_rfl) (by kernel_rfl) (by kernel_rfl) (fun _ _ _ h => absurd h.1 (by simp)) (Or.inl ⟨by rfl, ?_⟩) ?_
    rotate_left
    · intro w; go_simp; with_reducible rfl
    refine wpAny_take (i := 2) (v := ?_) rfl (by kernel_rfl) (by kernel_rfl) (by kernel_rfl) (fun _ _ _ h => absurd h.1 (by simp)) (Or.inl ⟨by rfl, ?_⟩) ?_
    rotate_left
    · intro w; go_simp; with_reducible rfl
    refine wpAny_take (i := 3) (v := ?_) rfl (by kernel_rfl) (by kernel_rfl) (by kernel_rfl) (fun _ _ _ h => absurd h.1 (by simp)) (Or.inl ⟨by rfl, ?_⟩) ?_
    rotate_left
    · intro w; go_simp; with_reducible rfl
    refine wpAny_take (i := 5) (v := ?_) rfl (by kernel_rfl) (by kernel_rfl) (by kernel_rfl) (fun _ _ _ h => absurd h.1 (by simp)) (Or.inl ⟨by rfl, ?_⟩) ?_
    rotate_left
    · intro w; go_simp; with_reducible rfl
    refine wpAny_take (i := 6) (v := ?_) rfl (by kernel_rfl) (by kernel_rfl) (by kernel_rfl) (fun _ _ _ h => absurd h.1 (by simp)) (Or.inl ⟨by rfl, ?_⟩) ?_
    rotate_left
    · intro w; go_simp; with_reducible rfl
    refine wpAny_take (i := 7) (v := ?_) rfl (by kernel_rfl) (by kernel_rfl) (by kernel_rfl) (fun _ _ _ h => absurd h.1 (by simp)) (Or.inl ⟨by rfl, ?_⟩) ?_
    rotate_left
    · intro w; go_simp; with_reducible rfl
    change wpAny _ _ _ _ _ _ ⟨#[.pointer (some ⟨b, off, none⟩), undef, .pointer (some ⟨b, off, none⟩), .pointer (some ⟨b, off, none⟩), .pointer (some ⟨b, off, none⟩), .pointer (some ⟨b, off, none⟩), undef,
      .pointer (some ⟨b, off, none⟩), .pointer (some ⟨b, off, none⟩), .pointer (some ⟨b, off + 1, none⟩), undef, undef, undef, undef, undef, undef, undef, undef, undef], []⟩ _
    refine wpAny_ready (rs := [4, 8]) (by kernel_rfl) (by simp) ?_
    refine AllReady.cons rfl (fun K hK => ?_) (AllReady.cons rfl (fun K hK => ?_) AllReady.nil)
    · go_simp
      refine hK _ _ ?_
      clear hK K
      refine wpAny_ready (rs := [8]) (by kernel_rfl) (by simp) ?_
      refine AllReady.cons rfl (fun K hK => ?_) AllReady.nil
      refine step_load_mid rfl 123 _ rfl b (off + 1) rfl cs _ hr hu24 rfl hi24 ?_
      refine hK _ _ ?_
      clear hK K
      refine wpAny_take (i := 9) (v := .agg (.pointer p :: cs).toArray) rfl (by kernel_rfl) (by kernel_rfl) (by kernel_rfl) (fun _ _ _ h => absurd h.1 (by simp)) (Or.inl ⟨by rfl, ?_⟩) ?_
      · intro w; exact exec_build p cs hcs rfl rfl rfl w
      refine wpAny_ready (rs := [10]) (by kernel_rfl) (by simp) ?_
      refine AllReady.cons rfl (fun K hK => ?_) AllReady.nil
      go_simp
      refine hK _ _ ?_
      clear hK K
      refine wpAny_ready (rs := [11]) (by kernel_rfl) (by simp) ?_
      refine AllReady.cons rfl (fun K hK => ?_) AllReady.nil
      go_simp
      refine hK _ _ ?_
      clear hK K
      refine wpAny_ready (rs := [12]) (by kernel_rfl) (by simp) ?_
      refine AllReady.cons rfl (fun K hK => ?_) AllReady.nil
      go_simp
      refine hK _ _ ?_
      clear hK K
      refine wpAny_ready (rs := [13]) (by kernel_rfl) (by simp) ?_
      refine AllReady.cons rfl (fun K hK => ?_) AllReady.nil
      go_simp
      refine hK _ _ ?_
      clear hK K
      refine wpAny_done (by kernel_rfl) ?_ _
      exact ⟨rfl, rfl, rfl⟩
    · refine step_load_mid rfl 123 _ rfl b (off + 1) rfl cs _ hr hu24 rfl hi24 ?_
      refine hK _ _ ?_
      clear hK K
      refine wpAny_ready (rs := [4]) (by kernel_rfl) (by simp) ?_
      refine AllReady.cons rfl (fun K hK => ?_) AllReady.nil
      go_simp
      refine hK _ _ ?_
      clear hK K
      refine wpAny_take (i := 9) (v := .agg (.pointer p :: cs).toArray) rfl (by kernel_rfl) (by kernel_rfl) (by kernel_rfl) (fun _ _ _ h => absurd h.1 (by simp)) (Or.inl ⟨by rfl, ?_⟩) ?_
      · intro w; exact exec_build p cs hcs rfl rfl rfl w
      refine wpAny_ready (rs := [10]) (by kernel_rfl) (by simp) ?_
      refine AllReady.cons rfl (fun K hK => ?_) AllReady.nil
      go_simp
      refine hK _ _ ?_
      clear hK K
      refine wpAny_ready (rs := [11]) (by kernel_rfl) (by simp) ?_
      refine AllReady.cons rfl (fun K hK => ?_) AllReady.nil
      go_simp
      refine hK _ _ ?_
      clear hK K
      refine wpAny_ready (rs := [12]) (by kernel_rfl) (by simp) ?_
      refine AllReady.cons rfl (fun K hK => ?_) AllReady.nil
      go_simp
      refine hK _ _ ?_
      clear hK K
      refine wpAny_ready (rs := [13]) (by kernel_rfl) (by simp) ?_
      refine AllReady.cons rfl (fun K hK => ?_) AllReady.nil
      go_simp
      refine hK _ _ ?_
      clear hK K
      refine wpAny_done (by kernel_rfl) ?_ _
      exact ⟨rfl, rfl, rfl⟩

end Go.Proofs.YtleffbpjjbiobaaGreatDoor

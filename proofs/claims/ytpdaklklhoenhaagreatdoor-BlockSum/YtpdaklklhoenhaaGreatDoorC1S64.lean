/- The contracts of code's wide, signed, expected (64 bits). -/
import Derived.Test.YtpdaklklhoenhaaGreatDoorC1M
import Derived.Test.YtpdaklklhoenhaaGreatDoorP1B64
import Derived.Deep.RegionHeld3
import Derived.Laws.Tables
import Derived.Great.Walk
import Derived.Test.YtpdaklklhoenhaaGreatDoorE2A
import Derived.BigQuiet
/- The bits of a column by Decimal, over whatever arithmetic. Plain mathematics. -/
namespace Go.Proofs.YtpdaklklhoenhaaGreatDoor
open M
set_option linter.unusedVariables false

/-- The arithmetic of a width: products, quotients, whole numbers as floats, the nearest whole number; how far p and k go. -/
structure Dm where
  mul : Nat → Nat → Nat
  div : Nat → Nat → Nat
  int : Int → Nat
  near : Nat → Option Int
  mostP : Nat
  most : Int

namespace Dm
variable (F : Dm)

def pow : Nat → Nat
  | 0 => F.int 1
  | p + 1 => F.mul (pow p) (F.int 10)

def val (p : Nat) (k : Int) : Nat := F.div (F.int k) (F.pow p)

/-- Which whole number a value is at a scale. -/
def wh (p v : Nat) : Option Int :=
  match F.near (F.mul v (F.pow p)) with
  | none => none
  | some k => if k < -F.most ∨ F.most < k ∨ F.val p k ≠ v then none else some k

theorem wh_val {p v : Nat} {k : Int} (h : F.wh p v = some k) : F.val p k = v ∧ -F.most ≤ k ∧ k ≤ F.most := by
  unfold wh at h
  split at h
  · cases h
  · split at h
    · cases h
    · rename_i hn
      simp only [Option.some.injEq] at h
      subst h
      simp only [not_or, Int.not_lt, Decidable.not_not] at hn
      exact ⟨hn.2.2, hn.1, hn.2.1⟩

/-- How many of m values from i on are nothing. -/
def cnt (p : Nat) (f : Nat → Nat) : Nat → Nat → Nat
  | _, 0 => 0
  | i, m + 1 => if (F.wh p (f i)).isSome then cnt p f (i + 1) m else cnt p f (i + 1) m + 1

theorem cnt_end (p : Nat) (f : Nat → Nat) (i m : Nat) : F.cnt p f i (m + 1) = F.cnt p f i m + (if (F.wh p (f (i + m))).isSome then 0 else 1) := by
  induction m generalizing i with
  | zero => simp only [cnt, Nat.add_zero, Nat.zero_add]
  | succ m ih =>
    rw [cnt, ih (i + 1), cnt, show i + 1 + m = i + (m + 1) from by omega]
    by_cases h : (F.wh p (f i)).isSome = true <;> simp only [h, if_true, if_false, Bool.false_eq_true] <;> omega

theorem cnt_le (p : Nat) (f : Nat → Nat) (i m : Nat) : F.cnt p f i m ≤ m := by
  induction m generalizing i with
  | zero => exact Nat.le_refl _
  | succ m ih => have := ih (i + 1); rw [cnt]; split <;> omega

theorem cnt_congr (p : Nat) (f g : Nat → Nat) (i m : Nat) (h : ∀ j, i ≤ j → j < i + m → f j = g j) : F.cnt p f i m = F.cnt p g i m := by
  induction m generalizing i with
  | zero => rfl
  | succ m ih => rw [cnt, cnt, h i (Nat.le_refl _) (by omega), ih (i + 1) fun j h1 h2 => h j (by omega) (by omega)]

/-- The best scale of the first q, and how many values are nothing at it. -/
def bs (f : Nat → Nat) (n : Nat) : Nat → Nat × Nat
  | 0 => (0, F.cnt 0 f 0 n)
  | q + 1 => if (bs f n q).2 = 0 then bs f n q else if F.cnt (q + 1) f 0 n < (bs f n q).2 then (q + 1, F.cnt (q + 1) f 0 n) else bs f n q

theorem bs_le (f : Nat → Nat) (n q : Nat) : (F.bs f n q).1 ≤ q := by
  induction q with
  | zero => exact Nat.le_refl _
  | succ q ih => rw [bs]; split
                 · omega
                 · split
                   · exact Nat.le_refl _
                   · omega

theorem bs_stop (f : Nat → Nat) (n q r : Nat) (h : q ≤ r) (h0 : (F.bs f n q).2 = 0) : F.bs f n r = F.bs f n q := by
  induction r with
  | zero => rw [show q = 0 from by omega]
  | succ r ih =>
    by_cases e : q = r + 1
    · rw [e]
    · have := ih (by omega)
      rw [bs, this, if_pos h0]

theorem bs_congr (f g : Nat → Nat) (n q : Nat) (h : ∀ j, j < n → f j = g j) : F.bs f n q = F.bs g n q := by
  have hc : ∀ p, F.cnt p f 0 n = F.cnt p g 0 n := fun p => F.cnt_congr p f g 0 n fun j _ h2 => h j (by omega)
  induction q with
  | zero => rw [bs, bs, hc]
  | succ q ih => rw [bs, bs, ih, hc]

theorem bs_cnt (f : Nat → Nat) (n q : Nat) : (F.bs f n q).2 = F.cnt (F.bs f n q).1 f 0 n := by
  induction q with
  | zero => rfl
  | succ q ih => rw [bs]; split
                 · exact ih
                 · split
                   · rfl
                   · exact ih

/-- The values that are nothing among m from i on, c whole ones ahead. -/
def nt (W p : Nat) (f : Nat → Nat) : Nat → Nat → Nat → List Bool
  | _, 0, _ => []
  | i, m + 1, c => if (F.wh p (f i)).isSome then nt W p f (i + 1) m (c + 1) else varB c ++ (bitsOf (f i) W ++ nt W p f (i + 1) m 0)

/-- All others among m from i on, behind the whole number a. -/
def wb (p : Nat) (f : Nat → Nat) : Nat → Nat → Int → List Bool
  | _, 0, _ => []
  | i, m + 1, a => match F.wh p (f i) with
    | some k => varB (zig (k - a)) ++ wb p f (i + 1) m k
    | none => wb p f (i + 1) m a

theorem nt_congr (W p : Nat) (f g : Nat → Nat) (i m c : Nat) (h : ∀ j, i ≤ j → j < i + m → f j = g j) : F.nt W p f i m c = F.nt W p g i m c := by
  induction m generalizing i c with
  | zero => rfl
  | succ m ih => rw [nt, nt, h i (Nat.le_refl _) (by omega), ih (i + 1) (c + 1) fun j h1 h2 => h j (by omega) (by omega), ih (i + 1) 0 fun j h1 h2 => h j (by omega) (by omega)]

theorem wb_congr (p : Nat) (f g : Nat → Nat) (i m : Nat) (a : Int) (h : ∀ j, i ≤ j → j < i + m → f j = g j) : F.wb p f i m a = F.wb p g i m a := by
  induction m generalizing i a with
  | zero => rfl
  | succ m ih =>
    rw [wb, wb, h i (Nat.le_refl _) (by omega)]
    split
    · rw [ih (i + 1) _ fun j h1 h2 => h j (by omega) (by omega)]
    · exact ih (i + 1) _ fun j h1 h2 => h j (by omega) (by omega)

theorem nt_none (W p : Nat) (f : Nat → Nat) (i m c : Nat) (h : F.cnt p f i m = 0) : F.nt W p f i m c = [] ∧ ∀ j, i ≤ j → j < i + m → (F.wh p (f j)).isSome = true := by
  induction m generalizing i c with
  | zero => exact ⟨rfl, fun j h1 h2 => by omega⟩
  | succ m ih =>
    rw [cnt] at h
    by_cases hs : (F.wh p (f i)).isSome = true
    · rw [if_pos hs] at h
      obtain ⟨h1, h2⟩ := ih (i + 1) (c + 1) h
      refine ⟨by rw [nt, if_pos hs, h1], fun j h3 h4 => ?_⟩
      by_cases e : j = i
      · rw [e]; exact hs
      · exact h2 j (by omega) (by omega)
    · rw [if_neg hs] at h; omega

/-- The next value that is nothing. -/
theorem nt_next (W p : Nat) (f : Nat → Nat) (i m c : Nat) (h : 0 < F.cnt p f i m) : ∃ j, j < m ∧ (F.wh p (f (i + j))).isSome = false ∧ (∀ t, t < j → (F.wh p (f (i + t))).isSome = true) ∧ F.cnt p f i m = F.cnt p f (i + j + 1) (m - (j + 1)) + 1 ∧
    F.nt W p f i m c = varB (c + j) ++ (bitsOf (f (i + j)) W ++ F.nt W p f (i + j + 1) (m - (j + 1)) 0) := by
  induction m generalizing i c with
  | zero => simp [cnt] at h
  | succ m ih =>
    rw [cnt] at h ⊢
    rw [nt]
    by_cases hs : (F.wh p (f i)).isSome = true
    · rw [if_pos hs] at h ⊢
      rw [if_pos hs]
      obtain ⟨j, h1, h2, h3, h4, h5⟩ := ih (i + 1) (c + 1) h
      refine ⟨j + 1, by omega, by rw [show i + (j + 1) = i + 1 + j from by omega]; exact h2, fun t ht => ?_, ?_, ?_⟩
      · match t with
        | 0 => exact hs
        | t + 1 => rw [show i + (t + 1) = i + 1 + t from by omega]; exact h3 t (by omega)
      · rw [h4, show i + (j + 1) + 1 = i + 1 + j + 1 from by omega, show m + 1 - (j + 1 + 1) = m - (j + 1) from by omega]
      · rw [h5, show i + (j + 1) + 1 = i + 1 + j + 1 from by omega, show m + 1 - (j + 1 + 1) = m - (j + 1) from by omega, show c + 1 + j = c + (j + 1) from by omega, show i + (j + 1) = i + 1 + j from by omega]
    · rw [if_neg hs, if_neg hs]
      exact ⟨0, by omega, by simpa using hs, fun t ht => by omega, by simp, by simp⟩

theorem nt_len (W p : Nat) (hW : W ≤ 64) (f : Nat → Nat) (i m c : Nat) (hv : ∀ x, (varB x).length ≤ 80) : (F.nt W p f i m c).length ≤ 144 * m := by
  induction m generalizing i c with
  | zero => simp [nt]
  | succ m ih =>
    rw [nt]; split
    · have := ih (i + 1) (c + 1); omega
    · rw [List.length_append, List.length_append, bitsOf_length]
      have := ih (i + 1) 0; have := hv c; omega

theorem wb_len (p : Nat) (f : Nat → Nat) (i m : Nat) (a : Int) (hv : ∀ x, (varB x).length ≤ 80) : (F.wb p f i m a).length ≤ 80 * m := by
  induction m generalizing i a with
  | zero => simp [wb]
  | succ m ih =>
    rw [wb]; split
    · rename_i k _
      rw [List.length_append]
      have := ih (i + 1) k; have := hv (zig (k - a)); omega
    · have := ih (i + 1) a; omega

/-- The bits of a column by Decimal. -/
def dm (W : Nat) (f : Nat → Nat) (n : Nat) : List Bool :=
  bitsOf (F.bs f n F.mostP).1 5 ++ (varB (F.cnt (F.bs f n F.mostP).1 f 0 n) ++ (F.nt W (F.bs f n F.mostP).1 f 0 n 0 ++ F.wb (F.bs f n F.mostP).1 f 0 n 0))

theorem dm_congr (W : Nat) (f g : Nat → Nat) (n : Nat) (h : ∀ j, j < n → f j = g j) : F.dm W f n = F.dm W g n := by
  unfold dm
  rw [F.bs_congr f g n _ h, F.cnt_congr _ f g 0 n fun j _ h2 => h j (by omega), F.nt_congr W _ f g 0 n 0 fun j _ h2 => h j (by omega), F.wb_congr _ f g 0 n 0 fun j _ h2 => h j (by omega)]

end Dm
end Go.Proofs.YtpdaklklhoenhaaGreatDoor

/- The contracts of code's width, layValue, takeValue (64 bits). -/
namespace Go.Proofs.YtpdaklklhoenhaaGreatDoor
open Go.RowKit
open M
set_option linter.unusedVariables false
set_option linter.unusedSimpArgs false

theorem clen64_any (x : Nat) (w : World) (hx : x < 18446744073709551616) : Calls Tryz.prog 178 #[.int .u64 x] w fun e w' => e = .returned (.int .i64 (bitLen x : Nat)) ∧ w' = w := by
  have HL := hide (len64_all x w hx)
  go_enter Tryz.func178, Tryz.ntmps178
  go_wp2_with fail
  refine HL.out.mono ?_
  rintro e w1 ⟨rfl, rfl⟩
  go_wp2_with fail
  go_ret
  exact ⟨rfl, rfl⟩

theorem cwidth64_any (w : World) : Calls Tryz.prog 182 #[] w fun e w' => e = .returned (.int .i64 64) ∧ w' = w := by
  have hx : bits BinOp.xor IntKind.u64 0 18446744073709551615 = 18446744073709551615 := by decide +kernel
  have HL := hide (clen64_any 18446744073709551615 w (by omega))
  rw [show bitLen 18446744073709551615 = 64 from by decide +kernel] at HL
  go_enter Tryz.func182, Tryz.ntmps182
  go_wp2_with fail
  refine HL.out.mono ?_
  rintro e w1 ⟨rfl, rfl⟩
  go_wp2_with fail
  go_ret
  exact ⟨rfl, rfl⟩

theorem layValue64_any (b off lo : Nat) (v : Nat) (w : World) (l : List Bool) (hW : Wr w lo b off l 0) (hb : b < lo) (hlo : lo ≤ w.heap.size) (hlen : l.length + 64 < 1000000000000) (hv : v < 18446744073709551616) :
    Calls Tryz.prog 165 #[.pointer (some ⟨b, off, none⟩), .int .u64 v] w fun e w' => e = .returned (.tuple #[]) ∧ Wr w' lo b off (l ++ bitsOf v 64) 0 ∧ Only b off (off + 123) w w' := by
  have r0 : IntKind.u64.wrap (v : Int) = (v : Int) := by rw [IntKind.wrap_u64]; omega
  have HW := hide hW
  clear hW
  go_enter Tryz.func165, Tryz.ntmps165
  go_wp2_with fail
  refine (cwidth64_any _).mono ?_
  rintro e w1 ⟨rfl, rfl⟩
  go_wp2_with fail
  refine (wbits_any b off lo 64 v _ l HW.out hb hlo hlen (by omega) (by omega) (by omega)).mono ?_
  rintro e w1 ⟨rfl, W1, O1⟩
  go_wp2_with fail
  go_end0
  exact ⟨rfl, W1, O1⟩

/-- What takeValue tells. -/
def ValueEnd64 (w : World) (b off : Nat) (s : ByteArray) (a : Nat) (e0 : Int) (e : Ending) (w' : World) : Prop :=
  ∃ (x a' : Nat) (e1 : Int), e = .returned (.int .u64 (x : Int)) ∧ x < 18446744073709551616 ∧ Tk w w' b off s a e0 a' e1 (bitsOf x 64)

theorem takeValue64_any (b off : Nat) (s : ByteArray) (a : Nat) (e0 : Int) (w : World) (h : Rd w b off s a e0) :
    Calls Tryz.prog 147 #[.pointer (some ⟨b, off, none⟩)] w (ValueEnd64 w b off s a e0) := by
  have H := hide h
  clear h
  go_enter Tryz.func147, Tryz.ntmps147
  go_wp2_with fail
  refine (cwidth64_any _).mono ?_
  rintro e w1 ⟨rfl, rfl⟩
  go_wp2_with fail
  refine (tk_bits b off s a 64 e0 _ H.out (by omega)).mono ?_
  rintro e w2 ⟨x, a', e1, rfl, hx, T⟩
  have HT := hide T
  clear T
  have hx' : x < 18446744073709551616 := by simpa using hx
  have r0 : IntKind.u64.wrap (x : Int) = (x : Int) := by rw [IntKind.wrap_u64]; omega
  go_wp2_with fail
  go_ret
  exact ⟨x, a', e1, rfl, hx', HT.out⟩

end Go.Proofs.YtpdaklklhoenhaaGreatDoor

namespace Go.Proofs.YtpdaklklhoenhaaGreatDoor
open Go.RowKit
open M
set_option linter.unusedVariables false
set_option linter.unusedSimpArgs false

theorem cwide64_any (w : World) : Calls Tryz.prog 198 #[] w fun e w' => e = .returned (.bool true) ∧ w' = w := by
  go_enter Tryz.func198, Tryz.ntmps198
  go_wp2_with fail
  refine (cwidth64_any _).mono ?_
  rintro e w1 ⟨rfl, rfl⟩
  go_wp2_with fail
  go_ret
  exact ⟨rfl, rfl⟩

theorem signed64_any (x : Nat) (w : World) (hx : x < 18446744073709551616) : Calls Tryz.prog 169 #[.int .u64 x] w fun e w' => e = .returned (.int .i64 (sgW 9223372036854775808 18446744073709551616 x)) ∧ w' = w := by
  have r0 : IntKind.i64.wrap (x : Int) = sgW 9223372036854775808 18446744073709551616 x := by rw [IntKind.wrap_i64]; unfold sgW; split <;> omega
  go_enter Tryz.func169, Tryz.ntmps169
  go_wp2_with fail
  refine (cwide64_any _).mono ?_
  rintro e w1 ⟨rfl, rfl⟩
  go_wp2_with fail
  go_ret
  exact ⟨rfl, rfl⟩

theorem expected64_any (p : Option Addr) (n cap : Nat) (f : Nat → Nat) (w : World) (h : URow64 w p n f) (hn : n ≤ 4096) (hcap : n ≤ cap) (hf : ∀ i, i < n → f i < 18446744073709551616) :
    Calls Tryz.prog 151 #[.slice p n cap] w fun e w' => e = .returned (.int .u64 (exS 18446744073709551616 f n : Nat)) ∧ ∃ m, w' = w.drewN m := by
  match n with
  | 0 =>
    go_enter Tryz.func151, Tryz.ntmps151
    go_wp2_with fail
    go_ret
    exact ⟨rfl, 0, rfl⟩
  | 1 =>
    obtain ⟨b, o, rfl, hc⟩ := h (by omega)
    have c0 : w.cell? ⟨b, o, none⟩ = some (.int .u64 (f 0 : Int)) := hc 0 (by omega)
    have q0 : (((1 : Nat) : Int) == 0) = false := by decide
    have q1 : (((1 : Nat) : Int) == 1) = true := by decide
    go_enter Tryz.func151, Tryz.ntmps151
    go_wp2_with fail
    go_ret
    exact ⟨rfl, 0, rfl⟩
  | k + 2 =>
    obtain ⟨b, o, rfl, hc⟩ := h (by omega)
    obtain ⟨x, hx⟩ : ∃ x, f (k + 1) = x := ⟨_, rfl⟩
    obtain ⟨y, hy⟩ : ∃ y, f k = y := ⟨_, rfl⟩
    have c1 : w.cell? ⟨b, o + (k + 1), none⟩ = some (.int .u64 (x : Int)) := by rw [← hx]; exact hc (k + 1) (by omega)
    have c0 : w.cell? ⟨b, o + k, none⟩ = some (.int .u64 (y : Int)) := by rw [← hy]; exact hc k (by omega)
    have hxM : x < 18446744073709551616 := by rw [← hx]; exact hf _ (by omega)
    have hyM : y < 18446744073709551616 := by rw [← hy]; exact hf _ (by omega)
    have e1 : exS 18446744073709551616 f (k + 2) = (2 * x + 18446744073709551616 - y) % 18446744073709551616 := by rw [exS, hx, hy]
    have e2 : IntKind.u64.wrap (IntKind.u64.wrap (2 * (x : Int)) - (y : Int)) = (((2 * x + 18446744073709551616 - y) % 18446744073709551616 : Nat) : Int) := by
      rw [IntKind.wrap_u64, IntKind.wrap_u64]; omega
    have n0 : (((k : Int) + 2) == 0) = false := by rw [beq_eq_false_iff_ne]; omega
    have n1 : (((k : Int) + 2) == 1) = false := by rw [beq_eq_false_iff_ne]; omega
    rw [e1]
    have HX := hide (And.intro hx hy)
    clear e1 hx hy hc h hf
    go_enter Tryz.func151, Tryz.ntmps151
    go_wp2_with fail
    go_quiet (fail)
    go_wp2_with fail
    go_ret
    exact ⟨by first | (rw [Int.natCast_emod]; rfl) | rfl | (rw [← e2]; rfl), _, rfl⟩

end Go.Proofs.YtpdaklklhoenhaaGreatDoor

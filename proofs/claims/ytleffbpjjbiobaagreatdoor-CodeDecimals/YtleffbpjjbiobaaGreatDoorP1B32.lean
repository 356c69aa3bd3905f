/- The contracts of pack's width, fieldWidth, windows; pick (32 bits). -/
import Derived.Test.YtleffbpjjbiobaaGreatDoorC1M
import Derived.Test.YtleffbpjjbiobaaGreatDoorB1W
import Derived.Test.YtleffbpjjbiobaaGreatDoorC3A64
import Derived.Test.YtleffbpjjbiobaaGreatDoorP1T
import Derived.Deep.RegionHeld3
import Derived.Laws.Tables
import Derived.Great.Walk
/- CodeDecimals: binary64s. -/
namespace Go.Proofs.YtleffbpjjbiobaaGreatDoor
open M Flt
set_option linter.unusedVariables false

theorem whl_word (f : Ieee.Format) (T K R : Nat) (s : Bool) (hR : V f R = K * 2 ^ T) (hi : R < f.infRung) (hw : f.infRung ≤ f.signWeight) : Whl f T K s (f.word s R) := by
  have e := rg_word f s R (by omega)
  exact ⟨by rw [e]; exact hi, by rw [e]; exact hR, sg_word f s R (by omega)⟩

theorem inf64_le : Ieee.double.infRung ≤ Ieee.double.signWeight := by decide +kernel
theorem frac64 : 1 ≤ Ieee.double.fractionBits := by decide +kernel
theorem bin64 : Ieee.double.binade = 4503599627370496 := by decide +kernel

theorem lt_inf64 (T K : Nat) (hT : T = 1074) (hK : K < 2 ^ 60) : K * 2 ^ T < V Ieee.double Ieee.double.infRung := by
  rw [V_inf Ieee.double (by decide +kernel)]
  obtain ⟨N, hN⟩ : ∃ N, Ieee.double.fractionBits + (2 ^ Ieee.double.exponentBits - 2) = N := ⟨_, rfl⟩
  have h2 : N = 2098 := by rw [← hN]; decide +kernel
  rw [hN]
  have h3 : (2 : Nat) ^ 60 * 2 ^ T ≤ 2 ^ N := by rw [← Nat.pow_add]; exact Nat.pow_le_pow_right (by omega) (by omega)
  exact Nat.lt_of_lt_of_le (Nat.mul_lt_mul_of_pos_right hK (Nat.two_pow_pos T)) h3

theorem int64_whl (T : Nat) (hT : T = 1074) (k : Int) (h : k.natAbs ≤ 999999999999999) : Whl Ieee.double T k.natAbs (decide (k < 0)) (F64.int k) := by
  have e : F64.int k = Ieee.double.nearest (decide (k < 0)) k.natAbs 0 := rfl
  rw [e, nearest_ent T hT]
  unfold ent
  obtain ⟨R, hR⟩ := repr Ieee.double k.natAbs T (by rw [bin64]; omega)
  have hi : R < Ieee.double.infRung := V_lt_iff.1 (by rw [hR]; exact lt_inf64 T _ hT (by omega))
  rw [← hR, rnd_V, Nat.min_eq_left (by omega)]
  exact whl_word _ T _ R _ hR hi inf64_le

set_option maxRecDepth 100000 in
theorem pow64_all : ∀ p : Fin 23, (decide (rg Ieee.double (F64.pow p.val) < Ieee.double.infRung) && (V Ieee.double (rg Ieee.double (F64.pow p.val)) == 10 ^ p.val * 2 ^ 1074) && !sg Ieee.double (F64.pow p.val)) = true := by decide +kernel

theorem pow64_whl (T : Nat) (hT : T = 1074) (p : Nat) (hp : p ≤ 22) : Whl Ieee.double T (10 ^ p) false (F64.pow p) := by
  have h := pow64_all ⟨p, by omega⟩
  simp only [Bool.and_eq_true, decide_eq_true_eq, beq_iff_eq, Bool.not_eq_true'] at h
  subst hT
  exact ⟨h.1.1, h.1.2, h.2⟩

theorem quo64 (T : Nat) (hT : T = 1074) (p : Nat) (hp : p ≤ 22) (k : Int) (hk : k.natAbs ≤ 999999999999999) (h1 : 1 ≤ k.natAbs) : Quo Ieee.double T k.natAbs (10 ^ p) (decide (k < 0)) (F64.val p k) := by
  have hl : Ieee.double.leastPlace = -(T : Int) := by rw [hT]; decide
  have hp10 : (10 : Nat) ^ p ≤ 10 ^ 22 := Nat.pow_le_pow_right (by omega) hp
  have hn : Ieee.double.binade * 10 ^ p ≤ k.natAbs * 2 ^ T := by
    have a : Ieee.double.binade * 10 ^ p ≤ 2 ^ 130 := by
      rw [bin64]
      exact Nat.le_trans (Nat.mul_le_mul_left _ hp10) (by decide)
    have b : (2 : Nat) ^ 130 ≤ 2 ^ T := Nat.pow_le_pow_right (by omega) (by omega)
    exact Nat.le_trans a (Nat.le_trans b (Nat.le_mul_of_pos_left _ h1))
  obtain ⟨x, e, hq⟩ := quo_is Ieee.double frac64 T k.natAbs (10 ^ p) (F64.int k) (F64.pow p) (decide (k < 0)) hl inf64_le (int64_whl T hT k hk) (pow64_whl T hT p hp) (Nat.pos_of_ne_zero (by simp)) hn
  have : F64.val p k = x := by
    show told64 (Ieee.double.div (F64.int k) (F64.pow p)) = x
    rw [e]; rfl
  rw [this]; exact hq

set_option maxRecDepth 100000 in
theorem zero64_all : ∀ p : Fin 23, F64.val p.val 0 = 0 ∧ F64.wh p.val (F64.val p.val 0) = some 0 := by decide +kernel

theorem sgn_abs (k : Int) : (if (decide (k < 0)) = true then -((k.natAbs : Nat) : Int) else ((k.natAbs : Nat) : Int)) = k := by
  by_cases h : k < 0
  · rw [if_pos (by simpa using h)]; omega
  · rw [if_neg (by simpa using h)]; omega

theorem near64_of (T : Nat) (hT : T = 1074) (y : Nat) (k : Int) (hk : k.natAbs ≤ 999999999999999) (hf : rg Ieee.double y < Ieee.double.infRung) (hs : sg Ieee.double y = decide (k < 0)) (hc : cutE (V Ieee.double (rg Ieee.double y)) (2 ^ T) = k.natAbs) : near64 y = some k := by
  have hw : wz T 0 y = k := by
    unfold wz
    rw [hs]
    show (if decide (k < 0) = true then -((cutE (V Ieee.double (rg Ieee.double y)) (2 ^ T) : Nat) : Int) else ((cutE (V Ieee.double (rg Ieee.double y)) (2 ^ T) : Nat) : Int)) = k
    rw [hc]; exact sgn_abs k
  have hr : rg Ieee.double y = y % 9223372036854775808 := by
    unfold rg
    rw [show Ieee.double.signWeight = 9223372036854775808 from by decide +kernel]
  rw [hr, show Ieee.double.infRung = 9218868437227405312 from by decide +kernel] at hf
  unfold near64
  rw [← hT, hw, if_pos ⟨hf, by omega, by omega⟩]

theorem few64 : F64.Few := by
  obtain ⟨T, hT⟩ : ∃ T : Nat, T = 1074 := ⟨_, rfl⟩
  refine ⟨fun p k hp h1 h2 => ?_, fun q p k' k hqp hp h1 h2 h3 h4 he => ?_⟩
  · have hp : p ≤ 22 := hp
    have h1 : -999999999999999 ≤ k := h1
    have h2 : k ≤ 999999999999999 := h2
    by_cases h0 : k = 0
    · subst h0; exact (zero64_all ⟨p, by omega⟩).2
    have hk : k.natAbs ≤ 999999999999999 := by omega
    have hq := quo64 T hT p hp k hk (by omega)
    have hl : Ieee.double.leastPlace = -(T : Int) := by rw [hT]; decide
    have hb := pow64_whl T hT p hp
    generalize hv : F64.val p k = v at *
    obtain ⟨y, e, y1, y2, y3, y4⟩ := back_is Ieee.double frac64 T k.natAbs (10 ^ p) v (F64.pow p) (decide (k < 0)) hl inf64_le hq hb (by omega) (by rw [bin64]; omega)
      (by rw [bin64]; exact Nat.le_trans (show 2 * 4503599627370496 ≤ 2 ^ 60 by decide) (Nat.pow_le_pow_right (by omega) (by omega))) (lt_inf64 T _ hT (by omega))
    have em : F64.mul v (F64.pow p) = y := by
      show told64 (Ieee.double.mul v (F64.pow p)) = y
      rw [e]; rfl
    have en : F64.near (F64.mul v (F64.pow p)) = some k := by rw [em]; exact near64_of T hT y k hk y1 y2 y3
    unfold Dm.wh
    rw [en]
    show (if k < -F64.most ∨ F64.most < k ∨ F64.val p k ≠ v then none else some k) = some k
    rw [if_neg]
    intro h
    rcases h with h | h | h
    · have : k < -999999999999999 := h; omega
    · have : 999999999999999 < k := h; omega
    · exact h hv
  · have hp : p ≤ 22 := hp
    have h1 : -999999999999999 ≤ k := h1
    have h2 : k ≤ 999999999999999 := h2
    have h3 : -999999999999999 ≤ k' := h3
    have h4 : k' ≤ 999999999999999 := h4
    have hz : ∀ (p : Nat) (hp : p ≤ 22) (k : Int), k.natAbs ≤ 999999999999999 → 1 ≤ k.natAbs → F64.val p k ≠ 0 := fun p hp k hk h1 e => by
      have := quo_pos _ _ _ _ _ _ (quo64 T hT p hp k hk h1) h1
      rw [e] at this
      exact this (by unfold rg; simp)
    by_cases h0 : k = 0
    · subst h0
      by_cases h0' : k' = 0
      · subst h0'; simp
      · exact absurd (he.trans (zero64_all ⟨p, by omega⟩).1) (hz q (by omega) k' (by omega) (by omega))
    by_cases h0' : k' = 0
    · subst h0'
      exact absurd (he.symm.trans (zero64_all ⟨q, by omega⟩).1) (hz p hp k (by omega) (by omega))
    have q1 := quo64 T hT p hp k (by omega) (by omega)
    have q2 := quo64 T hT q (by omega) k' (by omega) (by omega)
    rw [he] at q2
    have ep : (10 : Nat) ^ p = 10 ^ q * 10 ^ (p - q) := by rw [← Nat.pow_add]; congr 1; omega
    rw [ep] at q1
    have hone := quo_one _ T _ _ _ _ _ _ _ q1 q2 (by rw [bin64]; omega)
    have hs : decide (k < 0) = decide (k' < 0) := q1.sgn.symm.trans q2.sgn
    have e1 := sgn_abs k
    have e2 := sgn_abs k'
    rw [hs, hone] at e1
    clear q1 q2 hone hs
    generalize k'.natAbs = K' at e1 e2
    by_cases h : k' < 0
    · rw [if_pos (by simpa using h)] at e1 e2
      rw [← e1, ← e2]; simp [Int.neg_mul]
    · rw [if_neg (by simpa using h)] at e1 e2
      rw [← e1, ← e2]; simp

end Go.Proofs.YtleffbpjjbiobaaGreatDoor

/- The contracts of code's width, layValue, takeValue (32 bits). -/
namespace Go.Proofs.YtleffbpjjbiobaaGreatDoor
open Go.RowKit
open M
set_option linter.unusedVariables false
set_option linter.unusedSimpArgs false

theorem clen32_any (x : Nat) (w : World) (hx : x < 18446744073709551616) : Calls Tryz.prog 112 #[.int .u64 x] w fun e w' => e = .returned (.int .i64 (bitLen x : Nat)) ∧ w' = w := by
  have HL := hide (len64_all x w hx)
  go_enter Tryz.func112, Tryz.ntmps112
  go_wp2_with fail
  refine HL.out.mono ?_
  rintro e w1 ⟨rfl, rfl⟩
  go_wp2_with fail
  go_ret
  exact ⟨rfl, rfl⟩

theorem cwidth32_any (w : World) : Calls Tryz.prog 116 #[] w fun e w' => e = .returned (.int .i64 32) ∧ w' = w := by
  have hx : bits BinOp.xor IntKind.u32 0 4294967295 = 4294967295 := by decide +kernel
  have HL := hide (clen32_any 4294967295 w (by omega))
  rw [show bitLen 4294967295 = 32 from by decide +kernel] at HL
  go_enter Tryz.func116, Tryz.ntmps116
  go_wp2_with fail
  refine HL.out.mono ?_
  rintro e w1 ⟨rfl, rfl⟩
  go_wp2_with fail
  go_ret
  exact ⟨rfl, rfl⟩

theorem layValue32_any (b off lo : Nat) (v : Nat) (w : World) (l : List Bool) (hW : Wr w lo b off l 0) (hb : b < lo) (hlo : lo ≤ w.heap.size) (hlen : l.length + 32 < 1000000000000) (hv : v < 4294967296) :
    Calls Tryz.prog 96 #[.pointer (some ⟨b, off, none⟩), .int .u32 v] w fun e w' => e = .returned (.tuple #[]) ∧ Wr w' lo b off (l ++ bitsOf v 32) 0 ∧ Only b off (off + 123) w w' := by
  have r0 : IntKind.u64.wrap (v : Int) = (v : Int) := by rw [IntKind.wrap_u64]; omega
  have HW := hide hW
  clear hW
  go_enter Tryz.func96, Tryz.ntmps96
  go_wp2_with fail
  refine (cwidth32_any _).mono ?_
  rintro e w1 ⟨rfl, rfl⟩
  go_wp2_with fail
  refine (wbits_any b off lo 32 v _ l HW.out hb hlo hlen (by omega) (by omega) (by omega)).mono ?_
  rintro e w1 ⟨rfl, W1, O1⟩
  go_wp2_with fail
  go_end0
  exact ⟨rfl, W1, O1⟩

/-- What takeValue tells. -/
def ValueEnd32 (w : World) (b off : Nat) (s : ByteArray) (a : Nat) (e0 : Int) (e : Ending) (w' : World) : Prop :=
  ∃ (x a' : Nat) (e1 : Int), e = .returned (.int .u32 (x : Int)) ∧ x < 4294967296 ∧ Tk w w' b off s a e0 a' e1 (bitsOf x 32)

theorem takeValue32_any (b off : Nat) (s : ByteArray) (a : Nat) (e0 : Int) (w : World) (h : Rd w b off s a e0) :
    Calls Tryz.prog 76 #[.pointer (some ⟨b, off, none⟩)] w (ValueEnd32 w b off s a e0) := by
  have H := hide h
  clear h
  go_enter Tryz.func76, Tryz.ntmps76
  go_wp2_with fail
  refine (cwidth32_any _).mono ?_
  rintro e w1 ⟨rfl, rfl⟩
  go_wp2_with fail
  refine (tk_bits b off s a 32 e0 _ H.out (by omega)).mono ?_
  rintro e w2 ⟨x, a', e1, rfl, hx, T⟩
  have HT := hide T
  clear T
  have hx' : x < 4294967296 := by simpa using hx
  have r0 : IntKind.u32.wrap (x : Int) = (x : Int) := by rw [IntKind.wrap_u32]; omega
  go_wp2_with fail
  go_ret
  exact ⟨x, a', e1, rfl, hx', HT.out⟩

end Go.Proofs.YtleffbpjjbiobaaGreatDoor

namespace Go.Proofs.YtleffbpjjbiobaaGreatDoor
open Go.RowKit
open M
set_option linter.unusedVariables false
set_option linter.unusedSimpArgs false

theorem width32_any (w : World) : Calls Tryz.prog 117 #[] w fun e w' => e = .returned (.int .i64 32) ∧ w' = w := by
  have hx : bits BinOp.xor IntKind.u32 0 4294967295 = 4294967295 := by decide +kernel
  have HL := hide (len64_all 4294967295 w (by omega))
  rw [show bitLen 4294967295 = 32 from by decide +kernel] at HL
  go_enter Tryz.func117, Tryz.ntmps117
  go_wp2_with fail
  refine HL.out.mono ?_
  rintro e w1 ⟨rfl, rfl⟩
  go_wp2_with fail
  go_ret
  exact ⟨rfl, rfl⟩

theorem fieldWidth32_any (w : World) : Calls Tryz.prog 180 #[] w fun e w' => e = .returned (.int .i64 5) ∧ w' = w := by
  have HL := hide (len64_all 31 w (by omega))
  rw [show bitLen 31 = 5 from by decide +kernel] at HL
  go_enter Tryz.func180, Tryz.ntmps180
  go_wp2_with fail
  refine (width32_any w).mono ?_
  rintro e w1 ⟨rfl, rfl⟩
  go_wp2_with fail
  refine HL.out.mono ?_
  rintro e w1 ⟨rfl, rfl⟩
  go_wp2_with fail
  go_ret
  exact ⟨rfl, rfl⟩

/-- A window as a value. -/
def wn32 (L N : Nat) : Value := .agg #[.int .i64 (L : Int), .int .i64 (N : Int)]

theorem is_struct32 {o p : Option TypeDesc} (e : p = o) (h : (match o with | some (.struct _) => true | _ => false) = true) : ∃ fs, p = some (.struct fs) := by
  subst e
  cases p with
  | none => simp at h
  | some d => cases d <;> first | exact ⟨_, rfl⟩ | simp at h

set_option maxRecDepth 100000 in
set_option maxHeartbeats 1000000 in
theorem windowOf32_any (x : Nat) (w : World) (hx : x < 4294967296) (h0 : x ≠ 0) (hT : Tab64 w) : Calls Tryz.prog 181 #[.int .u32 x] w fun e w' => e = .returned (.agg #[.int .i64 ((32 - bitLen x : Nat) : Int), .int .i64 (wl x : Int)]) ∧ Below w.heap.size w w' := by
  have hb := bitLen_le x 32 hx
  have ht := tz_lt x h0 (by omega)
  obtain ⟨B, hB⟩ : ∃ B, B = bitLen x := ⟨_, rfl⟩
  obtain ⟨Z, hZ⟩ : ∃ Z, Z = tz x := ⟨_, rfl⟩
  obtain ⟨L, hL⟩ : ∃ L, L = 32 - bitLen x := ⟨_, rfl⟩
  obtain ⟨N, hN⟩ : ∃ N, N = wl x := ⟨_, rfl⟩
  have q1 : (32 : Int) - (B : Int) = (L : Int) := by omega
  have q2 : wl x = bitLen x - tz x := rfl
  have q3 : (32 : Int) - (L : Int) = (B : Int) := by omega
  have q4 : (B : Int) - (Z : Int) = (N : Int) := by omega
  have HL : Hid (∀ w : World, Calls Tryz.prog 138 #[.int .u64 x] w fun e w' => e = .returned (.int .i64 (B : Int)) ∧ w' = w) := fun w => by rw [hB]; exact len64_all x w (by omega)
  have HZ : Hid (∀ w : World, Tab64 w → Calls Tryz.prog 188 #[.int .u64 x] w fun e w' => e = .returned (.int .i64 (Z : Int)) ∧ w' = w) := fun w h => by rw [hZ]; exact tz64_any x w (by omega) h0 h
  rw [← hL, ← hN]
  have r0 : IntKind.u64.wrap (x : Int) = (x : Int) := by rw [IntKind.wrap_u64]; omega
  have HT : Hid (Tab64 (w.alloc (.cells #[.int .i64 0, .int .i64 0] 162))) := hT.below ((Below.refl _ w).alloc (Nat.le_refl _) _)
  have HX := hide hx
  clear hB hZ hL hN q2 hT hx hb ht h0
  go_enter Tryz.func181, Tryz.ntmps181
  go_wp2_with fail
  refine (width32_any _).mono ?_
  rintro e w1 ⟨rfl, rfl⟩
  go_wp2_with fail
  refine (HL.out _).mono ?_
  rintro e w1 ⟨rfl, rfl⟩
  go_wp2_with fail
  refine (HZ.out _ HT.out).mono ?_
  rintro e w1 ⟨rfl, rfl⟩
  go_wp2_with fail
  refine (width32_any _).mono ?_
  rintro e w1 ⟨rfl, rfl⟩
  go_wp2_with fail
  obtain ⟨fs, hu⟩ := is_struct32 (show Tryz.prog.underlying 162 = Tryz.prog.underlying 162 from rfl) (by kernel_rfl)
  first
    | (refine bodyPost_ret (results_cell_row rfl _ _ w.heap.size _ _ (0, 0) (.struct fs) rfl (heap_alloc_new w _) hu rfl (by kernel_rfl)) rfl ?_
       exact ⟨rfl, ((Below.refl _ w).alloc (Nat.le_refl _) _)⟩)
    | trace_state

theorem behind32_any (L N s : Nat) (w : World) (h : L + N + s = 32) : Calls Tryz.prog 156 #[wn32 L N] w fun e w' => e = .returned (.int .i64 (s : Int)) ∧ Below w.heap.size w w' := by
  have q1 : (32 : Int) - (L : Int) = ((N + s : Nat) : Int) := by omega
  have q2 : ((N + s : Nat) : Int) - (N : Int) = (s : Int) := by omega
  generalize N + s = Z at *
  unfold wn32
  go_enter Tryz.func156, Tryz.ntmps156
  go_wp2_with fail
  go_quiet ((go_at_call 117; exact Calls.quiet_of_same (width32_any _)))
  go_wp2_with fail
  go_ret
  exact ⟨rfl, below_drewN ((Below.refl _ w).alloc (Nat.le_refl _) _) _⟩

theorem behindZ32_any (L N : Nat) (z : Int) (w : World) (hL : L ≤ 64) (hN : N ≤ 64) (h : z = (32 : Int) - L - N) : Calls Tryz.prog 156 #[wn32 L N] w fun e w' => e = .returned (.int .i64 z) ∧ Below w.heap.size w w' := by
  obtain ⟨y, hy⟩ : ∃ y : Int, y = (32 : Int) - L := ⟨_, rfl⟩
  have q1 : (32 : Int) - (L : Int) = y := by omega
  have q2 : y - (N : Int) = z := by omega
  have r1 : wrap64 y = y := by unfold wrap64; omega
  have r2 : wrap64 z = z := by unfold wrap64; omega
  have r3 : IntKind.i64.wrap y = y := by rw [IntKind.wrap_i64]; omega
  have r4 : IntKind.i64.wrap z = z := by rw [IntKind.wrap_i64]; omega
  have HH := hide h
  have HY := hide hy
  clear h hy
  unfold wn32
  go_enter Tryz.func156, Tryz.ntmps156
  go_wp2_with fail
  go_quiet ((go_at_call 117; exact Calls.quiet_of_same (width32_any _)))
  go_wp2_with fail
  go_ret
  exact ⟨rfl, below_drewN ((Below.refl _ w).alloc (Nat.le_refl _) _) _⟩

/-- How many bits stand behind a window. -/
def bh32 (L N : Nat) : Nat := 32 - L - N
theorem behindN32_any (L N : Nat) (w : World) (h : L + N ≤ 32) : Calls Tryz.prog 156 #[.agg #[.int .i64 (L : Int), .int .i64 (N : Int)]] w fun e w' => e = .returned (.int .i64 (bh32 L N : Int)) ∧ Below w.heap.size w w' := behind32_any L N _ w (by unfold bh32; omega)

/-- A window that is none, or lies within a value, stands if it is one. -/
theorem stands32_any (L N : Nat) (w : World) (h : L + N ≤ 32) : Calls Tryz.prog 155 #[wn32 L N] w fun e w' => e = .returned (.bool (decide (0 < N))) ∧ Below w.heap.size w w' := by
  by_cases h0 : N = 0
  · subst h0
    unfold wn32
    go_enter Tryz.func155, Tryz.ntmps155
    go_wp2_with fail
    go_ret
    exact ⟨rfl, ((Below.refl _ w).alloc (Nat.le_refl _) _)⟩
  · have hp : decide ((0 : Int) < (N : Int)) = true := by simp; omega
    rw [show decide (0 < N) = true from by simp; omega]
    have HB : Hid (∀ w, Calls Tryz.prog 156 #[.agg #[.int .i64 (L : Int), .int .i64 (N : Int)]] w fun e w' => e = .returned (.int .i64 ((32 - L - N : Nat) : Int)) ∧ Below w.heap.size w w') := fun w => behind32_any L N (32 - L - N) w (by omega)
    generalize 32 - L - N = s at *
    unfold wn32
    go_enter Tryz.func155, Tryz.ntmps155
    go_wp2_with fail
    refine (HB.out _).mono ?_
    rintro e w1 ⟨rfl, hb⟩
    have hb2 : Below w.heap.size w w1 := ((Below.refl _ w).alloc (Nat.le_refl _) _).trans (hb.mono (by simp))
    clear hb
    go_wp2_with fail
    go_ret
    exact ⟨rfl, hb2⟩

/-- A window that goes beyond the value does not. -/
theorem stands32_bad (L N : Nat) (w : World) (hL : L ≤ 64) (hN : N ≤ 64) (h : 32 < L + N) (h0 : 0 < N) : Calls Tryz.prog 155 #[wn32 L N] w fun e w' => e = .returned (.bool false) ∧ Below w.heap.size w w' := by
  have hp : decide ((0 : Int) < (N : Int)) = true := by simp; omega
  obtain ⟨z, hz⟩ : ∃ z : Int, z = (32 : Int) - L - N := ⟨_, rfl⟩
  have hz0 : decide ((0 : Int) ≤ z) = false := by simp; omega
  have HB : Hid (∀ w, Calls Tryz.prog 156 #[.agg #[.int .i64 (L : Int), .int .i64 (N : Int)]] w fun e w' => e = .returned (.int .i64 z) ∧ Below w.heap.size w w') := fun w => behindZ32_any L N z w hL hN hz
  unfold wn32
  have HZ := hide hz
  have HH := hide h
  clear hz h
  go_enter Tryz.func155, Tryz.ntmps155
  go_wp2_with fail
  refine (HB.out _).mono ?_
  rintro e w1 ⟨rfl, hb⟩
  have hb2 : Below w.heap.size w w1 := ((Below.refl _ w).alloc (Nat.le_refl _) _).trans (hb.mono (by simp))
  clear hb
  go_wp2_with fail
  go_ret
  exact ⟨rfl, hb2⟩

end Go.Proofs.YtleffbpjjbiobaaGreatDoor

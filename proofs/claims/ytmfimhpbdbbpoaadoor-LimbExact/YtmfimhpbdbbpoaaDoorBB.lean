/- mix: the number that a row makes of two. -/
import Derived.Test.YtmfimhpbdbbpoaaDoorE
import Derived.Test.YtmfimhpbdbbpoaaDoorH
/- Lehmer's rows: the mathematics. -/
namespace Go.Proofs.YtmfimhpbdbbpoaaDoor
open M
set_option linter.unusedVariables false

structure Lem (X Y K : Nat) (sg : Int) (a b c d x y : Nat) : Prop where
  kpos : 0 < K
  sgn : sg = 1 ∨ sg = -1
  hx : X / K = d * x + b * y
  hy : Y / K = c * x + a * y
  det : (a : Int) * d - b * c = sg
  dpos : 1 ≤ d
  bd : b ≤ d
  cd : c ≤ d
  ad : a ≤ d
  sum : a + c ≤ b + d
  old : (b = 0 ∧ c = 0 ∧ d = 1 ∧ a = 1 ∧ sg = 1) ∨ (1 ≤ b ∧ sg * (a * X - b * Y) ≤ Y)
  gcd : Int.gcd (sg * (a * X - b * Y)) (sg * (d * Y - c * X)) = Nat.gcd X Y

theorem Lem.start {X Y K : Nat} (hK : 0 < K) : Lem X Y K 1 1 0 0 1 (X / K) (Y / K) := by
  refine ⟨hK, .inl rfl, by simp, by simp, by simp, by omega, by omega, by omega, by omega, by omega, .inl (by simp), ?_⟩
  simp [Int.gcd]

theorem Lem.collins {X Y K : Nat} {sg : Int} {a b c d x y : Nat} (h : Lem X Y K sg a b c d x y) (h1 : d ≤ y) (h2 : y + (b + d) ≤ x) :
    0 ≤ sg * (d * Y - c * X) ∧ sg * ((d : Int) * Y - c * X) < sg * (a * X - b * Y) := by
  obtain ⟨hK, hs, hx, hy, hdet, hd, hbd, hcd, had, hsum, _, _⟩ := h
  have eX := Nat.div_add_mod X K
  have eY := Nat.div_add_mod Y K
  have lX := Nat.mod_lt X hK
  have lY := Nat.mod_lt Y hK
  generalize X % K = x' at *
  generalize Y % K = y' at *
  rw [hx] at eX
  rw [hy] at eY
  have eX' : (X : Int) = K * (d * x + b * y) + x' := by rw [← eX]; simp
  have eY' : (Y : Int) = K * (c * x + a * y) + y' := by rw [← eY]; simp
  -- the two remainders
  have e1 : (a : Int) * X - b * Y = K * x * (a * d - b * c) + (a * x' - b * y') := by rw [eX', eY']; grind
  have e2 : (d : Int) * Y - c * X = K * y * (a * d - b * c) + (d * y' - c * x') := by rw [eX', eY']; grind
  rw [hdet] at e1 e2
  rw [e1, e2]
  have b1 : (d : Int) * y' ≤ d * (K - 1) := Int.mul_le_mul_of_nonneg_left (by omega) (by omega)
  have b2 : (c : Int) * x' ≤ d * (K - 1) := Int.le_trans (Int.mul_le_mul_of_nonneg_left (by omega : (x' : Int) ≤ K - 1) (by omega)) (Int.mul_le_mul_of_nonneg_right (by omega) (by omega))
  have b3 : (0 : Int) ≤ d * y' := Int.mul_nonneg (by omega) (by omega)
  have b4 : (0 : Int) ≤ c * x' := Int.mul_nonneg (by omega) (by omega)
  have b5 : (0 : Int) ≤ (y - d) * K := Int.mul_nonneg (by omega) (by omega)
  have b6 : (0 : Int) ≤ (x - y - (b + d)) * K := Int.mul_nonneg (by omega) (by omega)
  have b7 : ((b : Int) + d) * y' ≤ (b + d) * (K - 1) := Int.mul_le_mul_of_nonneg_left (by omega) (by omega)
  have b8 : ((a : Int) + c) * x' ≤ (b + d) * (K - 1) := Int.le_trans (Int.mul_le_mul_of_nonneg_left (by omega : (x' : Int) ≤ K - 1) (by omega)) (Int.mul_le_mul_of_nonneg_right (by omega) (by omega))
  have b9 : (0 : Int) ≤ (b + d) * y' := Int.mul_nonneg (by omega) (by omega)
  have b10 : (0 : Int) ≤ (a + c) * x' := Int.mul_nonneg (by omega) (by omega)
  rcases hs with rfl | rfl <;> constructor <;> grind

theorem Lem.next {X Y K : Nat} {sg : Int} {a b c d x y : Nat} (h : Lem X Y K sg a b c d x y) (h1 : d ≤ y) (h2 : y + (b + d) ≤ x) :
    Lem X Y K (-sg) c d (a + x / y * c) (b + x / y * d) y (x % y) := by
  have hc := h.collins h1 h2
  obtain ⟨hK, hs, hx, hy, hdet, hd, hbd, hcd, had, hsum, hold, hg⟩ := h
  have hy0 : 0 < y := by omega
  have hq : 1 ≤ x / y := (Nat.one_le_div_iff hy0).2 (by omega)
  have ex := Nat.div_add_mod x y
  generalize x / y = q at *
  generalize x % y = r at *
  have hqc : c ≤ q * c := Nat.le_mul_of_pos_left _ hq
  have hqd : d ≤ q * d := Nat.le_mul_of_pos_left _ hq
  have hqcd : q * c ≤ q * d := Nat.mul_le_mul_left _ hcd
  obtain ⟨q', rfl⟩ : ∃ q', q = q' + 1 := ⟨q - 1, by omega⟩
  have hq2 : (q' + 1) * c = q' * c + c := Nat.succ_mul _ _
  have hq3 : (q' + 1) * d = q' * d + d := Nat.succ_mul _ _
  have hq4 : q' * c ≤ q' * d := Nat.mul_le_mul_left _ hcd
  refine ⟨hK, by rcases hs with rfl | rfl <;> simp, ?_, ?_, ?_, by omega, by omega, by omega, by omega, by omega, .inr ⟨hd, ?_⟩, ?_⟩
  · rw [hx, ← ex]; grind
  · rw [hy, ← ex]; grind
  · rw [← hdet]; push_cast; grind
  · have e : -sg * ((c : Int) * X - d * Y) = sg * (d * Y - c * X) := by grind
    rw [e]
    rcases hold with ⟨rfl, rfl, rfl, rfl, rfl⟩ | ⟨_, h3⟩
    · simp
    · omega
  · have e : -sg * ((c : Int) * X - d * Y) = sg * (d * Y - c * X) := by grind
    rw [e]
    have e2 : -sg * (((b + (q' + 1) * d : Nat) : Int) * Y - ((a + (q' + 1) * c : Nat) : Int) * X) = sg * (a * X - b * Y) - sg * (d * Y - c * X) * ((q' + 1 : Nat) : Int) := by push_cast; grind
    rw [e2, Int.gcd_sub_mul_left_right, Int.gcd_comm]
    exact hg

theorem Lem.bound {X Y K : Nat} {sg : Int} {a b c d x y : Nat} (h : Lem X Y K sg a b c d x y) (h1 : d ≤ y) (h2 : y + (b + d) ≤ x) (hX : X / K < 4611686018427387904) : d < 2147483648 := by
  obtain ⟨hK, hs, hx, hy, hdet, hd, hbd, hcd, had, hsum, hold, hg⟩ := h
  have h3 : d * d ≤ d * x := Nat.mul_le_mul_left _ (by omega)
  refine Decidable.byContradiction fun hn => ?_
  have h4 : 2147483648 * 2147483648 ≤ d * d := Nat.mul_le_mul (by omega) (by omega)
  omega

/-- Factors of opposite signs, below 2^31. -/
def Opp (u v : Int) : Prop := (0 ≤ u ∧ v ≤ 0 ∨ u ≤ 0 ∧ 0 ≤ v) ∧ -2147483648 < u ∧ u < 2147483648 ∧ -2147483648 < v ∧ v < 2147483648

/-- What two told rows make of X and Y. -/
def Good (X Y : Nat) (fu fv su sv : Int) : Prop := Opp fu fv ∧ Opp su sv ∧ ∃ P Q : Nat, fu * X + fv * Y = P ∧ su * X + sv * Y = Q ∧ Q < P ∧ P ≤ Y ∧ Nat.gcd P Q = Nat.gcd X Y

theorem Lem.good {X Y K : Nat} {sg : Int} {a b c d x y : Nat} (h : Lem X Y K sg a b c d x y) (h1 : d ≤ y) (h2 : y + (b + d) ≤ x) (hX : X / K < 4611686018427387904) (hb : b ≠ 0) :
    Good X Y (sg * a) (-sg * b) (-sg * c) (sg * d) := by
  have hc := h.collins h1 h2
  have hbd := h.bound h1 h2 hX
  obtain ⟨hK, hs, hx, hy, hdet, hd, hbd, hcd, had, hsum, hold, hg⟩ := h
  rcases hold with ⟨rfl, _⟩ | ⟨_, h3⟩
  · exact absurd rfl hb
  refine ⟨?_, ?_, (sg * (a * X - b * Y)).toNat, (sg * (d * Y - c * X)).toNat, ?_, ?_, by omega, by omega, ?_⟩
  · rcases hs with rfl | rfl
    · exact ⟨.inl (by omega), by omega, by omega, by omega, by omega⟩
    · exact ⟨.inr (by omega), by omega, by omega, by omega, by omega⟩
  · rcases hs with rfl | rfl
    · exact ⟨.inr (by omega), by omega, by omega, by omega, by omega⟩
    · exact ⟨.inl (by omega), by omega, by omega, by omega, by omega⟩
  · rw [Int.toNat_of_nonneg (by omega)]; grind
  · rw [Int.toNat_of_nonneg (by omega)]; grind
  · rw [← hg, Int.gcd]
    congr 1 <;> omega

/-- mix's carry. -/
def mxC (u v : Int) (X Y i : Nat) : Int := (u * (X % 4294967296 ^ i : Nat) + v * (Y % 4294967296 ^ i : Nat)) / ((4294967296 ^ i : Nat) : Int)

theorem mxC_zero (u v : Int) (X Y : Nat) : mxC u v X Y 0 = 0 := by simp [mxC, Nat.mod_one]

theorem mxC_le {u v : Int} (h : Opp u v) (X Y i : Nat) : -2147483648 ≤ mxC u v X Y i ∧ mxC u v X Y i < 2147483648 := by
  have hp : 0 < 4294967296 ^ i := Nat.pow_pos (by omega)
  have hX : X % 4294967296 ^ i < 4294967296 ^ i := Nat.mod_lt _ hp
  have hY : Y % 4294967296 ^ i < 4294967296 ^ i := Nat.mod_lt _ hp
  unfold mxC
  generalize X % 4294967296 ^ i = x at *
  generalize Y % 4294967296 ^ i = y at *
  generalize 4294967296 ^ i = B at *
  obtain ⟨hs, h1, h2, h3, h4⟩ := h
  have hB : (0 : Int) < B := by omega
  have key : ∀ (p : Int) (q : Nat), 0 ≤ p → p < 2147483648 → q < B → 0 ≤ p * q ∧ p * q < 2147483648 * B := fun p q hp0 hp1 hq => by
    refine ⟨Int.mul_nonneg hp0 (by omega), ?_⟩
    have := Int.mul_le_mul (show p ≤ 2147483647 by omega) (show (q : Int) ≤ B by omega) (by omega) (by omega)
    omega
  rcases hs with ⟨hu, hv⟩ | ⟨hu, hv⟩
  · have k1 := key u x hu h2 hX
    have k2 := key (-v) y (by omega) (by omega) hY
    rw [Int.neg_mul] at k2
    refine ⟨(Int.le_ediv_iff_mul_le hB).2 (by omega), Int.ediv_lt_of_lt_mul hB (by omega)⟩
  · have k1 := key (-u) x (by omega) (by omega) hX
    have k2 := key v y (by omega) (by omega) hY
    rw [Int.neg_mul] at k1
    refine ⟨(Int.le_ediv_iff_mul_le hB).2 (by omega), Int.ediv_lt_of_lt_mul hB (by omega)⟩

theorem mx_room {u v : Int} (h : Opp u v) (x y : Nat) (hx : x ≤ 4294967295) (hy : y ≤ 4294967295) (c : Int) (hc : -2147483648 ≤ c ∧ c < 2147483648) :
    (-9223372036854775808 ≤ u * x ∧ u * x < 9223372036854775808) ∧ (-9223372036854775808 ≤ v * y ∧ v * y < 9223372036854775808) ∧ (-9223372036854775808 ≤ u * x + v * y ∧ u * x + v * y < 9223372036854775808) ∧ -9223372036854775808 ≤ c + (u * x + v * y) ∧ c + (u * x + v * y) < 9223372036854775808 := by
  obtain ⟨hs, h1, h2, h3, h4⟩ := h
  have key : ∀ (p : Int) (q : Nat), 0 ≤ p → p < 2147483648 → q ≤ 4294967295 → 0 ≤ p * q ∧ p * q ≤ 2147483647 * 4294967295 := fun p q hp0 hp1 hq => by
    refine ⟨Int.mul_nonneg hp0 (by omega), ?_⟩
    exact Int.mul_le_mul (show p ≤ 2147483647 by omega) (show (q : Int) ≤ 4294967295 by omega) (by omega) (by omega)
  rcases hs with ⟨hu, hv⟩ | ⟨hu, hv⟩
  · have k1 := key u x hu h2 hx
    have k2 := key (-v) y (by omega) (by omega) hy
    rw [Int.neg_mul] at k2
    omega
  · have k1 := key (-u) x (by omega) (by omega) hx
    have k2 := key v y (by omega) (by omega) hy
    rw [Int.neg_mul] at k1
    omega

theorem mx_step (u v : Int) (X Y P i : Nat) (hP : u * X + v * Y = P) :
    (mxC u v X Y i + (u * (dg X i : Nat) + v * (dg Y i : Nat))) % 4294967296 = (dg P i : Nat) ∧
    (mxC u v X Y i + (u * (dg X i : Nat) + v * (dg Y i : Nat))) / 4294967296 = mxC u v X Y (i + 1) := by
  have hp : (0 : Int) < ((4294967296 ^ i : Nat) : Int) := by have : 0 < 4294967296 ^ i := Nat.pow_pos (by omega); omega
  have e : mxC u v X Y i + (u * (dg X i : Nat) + v * (dg Y i : Nat)) = (u * (X % 4294967296 ^ (i + 1) : Nat) + v * (Y % 4294967296 ^ (i + 1) : Nat)) / ((4294967296 ^ i : Nat) : Int) := by
    rw [mod_succ, mod_succ]
    have : (u * ((X % 4294967296 ^ i + 4294967296 ^ i * dg X i : Nat) : Int) + v * ((Y % 4294967296 ^ i + 4294967296 ^ i * dg Y i : Nat) : Int)) = (u * (X % 4294967296 ^ i : Nat) + v * (Y % 4294967296 ^ i : Nat)) + ((4294967296 ^ i : Nat) : Int) * (u * (dg X i : Nat) + v * (dg Y i : Nat)) := by
      generalize 4294967296 ^ i = B
      push_cast
      grind
    rw [this, Int.add_mul_ediv_left _ _ (by omega)]
    rfl
  have ep : ((4294967296 ^ (i + 1) : Nat) : Int) = ((4294967296 ^ i : Nat) : Int) * 4294967296 := by rw [pw_succ]; exact Int.natCast_mul _ _
  rw [e]
  refine ⟨?_, ?_⟩
  · -- the digit
    have hc : (u * (X % 4294967296 ^ (i + 1) : Nat) + v * (Y % 4294967296 ^ (i + 1) : Nat)) % ((4294967296 ^ (i + 1) : Nat) : Int) = ((P % 4294967296 ^ (i + 1) : Nat) : Int) := by
      rw [Int.natCast_emod P, ← hP, Int.natCast_emod X, Int.natCast_emod Y, Int.add_emod, Int.mul_emod, Int.emod_emod, ← Int.mul_emod, Int.mul_emod v, Int.emod_emod, ← Int.mul_emod, ← Int.add_emod]
    rw [ep] at hc
    generalize u * (X % 4294967296 ^ (i + 1) : Nat) + v * (Y % 4294967296 ^ (i + 1) : Nat) = T at *
    have h1 : T / ((4294967296 ^ i : Nat) : Int) % 4294967296 = T % (((4294967296 ^ i : Nat) : Int) * 4294967296) / ((4294967296 ^ i : Nat) : Int) := by
      have hB := hp
      generalize ((4294967296 ^ i : Nat) : Int) = B at hB ⊢
      have d1 := Int.mul_ediv_add_emod T B
      have d2 := Int.mul_ediv_add_emod (T / B) 4294967296
      have d3 := Int.emod_nonneg T (show B ≠ 0 by omega)
      have d4 := Int.emod_lt_of_pos T hB
      have d5 := Int.emod_nonneg (T / B) (show (4294967296 : Int) ≠ 0 by omega)
      have d6 := Int.emod_lt_of_pos (T / B) (show (0 : Int) < 4294967296 by omega)
      have e1 : T = (B * (T / B % 4294967296) + T % B) + B * 4294967296 * (T / B / 4294967296) := by grind
      have e2 : T % (B * 4294967296) = B * (T / B % 4294967296) + T % B := by
        have h7 : 0 ≤ B * (T / B % 4294967296) := Int.mul_nonneg (by omega) d5
        have h8 : B * (T / B % 4294967296) ≤ B * 4294967295 := Int.mul_le_mul_of_nonneg_left (by omega) (by omega)
        have h9 : (B * (T / B % 4294967296) + T % B) % (B * 4294967296) = B * (T / B % 4294967296) + T % B := Int.emod_eq_of_lt (by omega) (by omega)
        have h10 : T % (B * 4294967296) = ((B * (T / B % 4294967296) + T % B) + B * 4294967296 * (T / B / 4294967296)) % (B * 4294967296) := congrArg (· % (B * 4294967296)) e1
        rw [h10, Int.add_mul_emod_self_left, h9]
      rw [e2, Int.add_comm, Int.add_mul_ediv_left _ _ (by omega), Int.ediv_eq_zero_of_lt d3 d4, Int.zero_add]
    rw [h1, hc, mod_succ]
    have hm : P % 4294967296 ^ i < 4294967296 ^ i := Nat.mod_lt _ (Nat.pow_pos (by omega))
    rw [Int.ofNat_ediv_ofNat, Nat.add_mul_div_left _ _ (Nat.pow_pos (by omega)), Nat.div_eq_of_lt hm, Nat.zero_add]
  · rw [mxC, ep, Int.ediv_ediv_of_nonneg (by omega)]

end Go.Proofs.YtmfimhpbdbbpoaaDoor

namespace Go.Proofs.YtmfimhpbdbbpoaaDoor
open Go.RowKit
open M
set_option linter.unusedVariables false
set_option linter.unusedSimpArgs false

set_option maxRecDepth 100000 in
set_option maxHeartbeats 2000000 in
theorem mix_any {S S' : Nat → Prop} (v u : Value) (k X m Y P : Nat) (fu fv : Int) (w : World) (h : RowX S w v k X) (h' : RowX S' w u m Y) (hO : Opp fu fv) (hP : fu * X + fv * Y = P) (hPk : P < 4294967296 ^ k) :
    Calls Tryd.prog 96 #[v, u, .agg #[.int .i64 fu, .int .i64 fv]] w fun e w' => ∃ r, e = .returned r ∧ ∃ n, RowX (w.heap.size ≤ ·) w' r n P ∧ Nrm n P ∧ n ≤ k ∧ Below w.heap.size w w' := by
  obtain ⟨i5, hi5⟩ := info32
  have Hi := hide hi5
  clear hi5
  have HO := hide hO
  have HP := hide hP
  have HPk := hide hPk
  clear hO hP hPk
  obtain ⟨hN, hk, ad, cap, rfl, hc, hcell⟩ := Row.old h.row
  have HX : Hid (RowX (· < w.heap.size) w (.slice ad k cap) k X) := ⟨hN, hk, ad, cap, rfl, hc, hcell⟩
  have HY := hide (Row.old h'.row)
  clear hcell hN h h'
  go_enter Tryd.func96, Tryd.ntmps96
  go_wp2_with (at_make; refine wpList_make_row _ rfl _ _ _ rfl 24 i5 (.int .u32 0) Tryd.underlying23 Hi.out.1 Hi.out.2.1 Hi.out.2.2.1 rfl .i64 .i64 k rfl rfl (by rw [Hi.out.2.2.2]; omega) (by omega) ?_)
  have HF : Hid (Wk ((w.alloc (.cells #[.int .i64 fu, .int .i64 fv] 100)).alloc (.cells (madeCells #[Value.int .u32 0] k) 24)) (w.heap.size + 1) 0 k 0 ∧ Below w.heap.size w ((w.alloc (.cells #[.int .i64 fu, .int .i64 fv] 100)).alloc (.cells (madeCells #[Value.int .u32 0] k) 24)) ∧
      ((w.alloc (.cells #[.int .i64 fu, .int .i64 fv] 100)).alloc (.cells (madeCells #[Value.int .u32 0] k) 24)).cell? ⟨w.heap.size, 0, none⟩ = some (.int .i64 fu) ∧ ((w.alloc (.cells #[.int .i64 fu, .int .i64 fv] 100)).alloc (.cells (madeCells #[Value.int .u32 0] k) 24)).cell? ⟨w.heap.size, 1, none⟩ = some (.int .i64 fv) ∧
      w.heap.size + 1 < ((w.alloc (.cells #[.int .i64 fu, .int .i64 fv] 100)).alloc (.cells (madeCells #[Value.int .u32 0] k) 24)).heap.size) := by
    have hs : (w.alloc (.cells #[.int .i64 fu, .int .i64 fv] 100)).heap.size = w.heap.size + 1 := by simp
    refine ⟨?_, ((Below.refl _ _).alloc (Nat.le_refl _) _).alloc (by rw [hs]; omega) _, by simp, by simp, by simp⟩
    rw [← hs]
    exact wk_of_block (pw_pos _) (make_block _ k)
  generalize (w.alloc (.cells #[.int .i64 fu, .int .i64 fv] 100)).alloc (.cells (madeCells #[Value.int .u32 0] k) 24) = wa at *
  go_loopw [8, 15] (fun t8 t15 wr => ∃ i : Nat, i ≤ k ∧ t8 = .int .i64 (mxC fu fv X Y i) ∧ t15 = .int .i64 i ∧ Hid (Mid wr (w.heap.size + 1) 0 k i 0 P ∧ Only (w.heap.size + 1) 0 k wa wr)) (fun _ t15 _ => k - (intOf t15).toNat)
  case atStart => exact ⟨0, by omega, by rw [mxC_zero], rfl, HF.out.1.mid _, Only.refl _ _ _ _⟩
  case round =>
    obtain ⟨i, hi, rfl, rfl, HM⟩ := hrel
    have HBl : Hid (Below w.heap.size w wr) := HF.out.2.1.trans (HM.out.2.below (by omega) (by have := HF.out.2.2.2.2; omega))
    by_cases hlt : i < k
    · have hlt' : (i : Int) < (k : Int) := by omega
      have HR := hide (HY.out.belowB HBl.out)
      obtain ⟨_, _, ad3, cap3, hv3, _, hcell3⟩ := HX.out.belowB HBl.out
      obtain ⟨g3, o3, ha3, _, hj3⟩ := hcell3 (by omega)
      simp only [Value.slice.injEq] at hv3
      rw [← hv3.1] at ha3
      subst ha3
      have hx := hj3 i hlt
      have h0 : wr.cell? ⟨w.heap.size, 0, none⟩ = some (.int .i64 fu) := (World.cell?_of_block (w := wa) (HM.out.2.block w.heap.size (by have := HF.out.2.2.2.2; omega) (by omega))).trans HF.out.2.2.1
      have h1 : wr.cell? ⟨w.heap.size, 1, none⟩ = some (.int .i64 fv) := (World.cell?_of_block (w := wa) (HM.out.2.block w.heap.size (by have := HF.out.2.2.2.2; omega) (by omega))).trans HF.out.2.2.2.1
      have hwk := HM.out.1.hi i (Nat.le_refl _) hlt
      have hf := HM.out.1.free i hlt
      rw [Nat.zero_add] at hwk hf
      have hxl := dg_le X i
      have hyl := dg_le Y i
      have Hs := hide (mx_step fu fv X Y P i HP.out)
      have hr := mx_room HO.out (dg X i) (dg Y i) hxl hyl _ (mxC_le HO.out X Y i)
      have HL : Hid (∀ n, Calls Tryd.prog 90 #[u, .int .i64 i] (wr.drewN n) fun e w' => e = .returned (.int .u64 (dg Y i : Nat)) ∧ w' = wr.drewN n) := fun n => limbAt_any u m Y i _ (HR.out.drewN n) (by omega)
      clear hj3 hcell3 hv3
      generalize dg X i = x at *
      generalize dg Y i = y at *
      generalize mxC fu fv X Y i = c at *
      obtain ⟨p, hp⟩ : ∃ p, fu * (x : Int) = p := ⟨_, rfl⟩
      obtain ⟨q, hq⟩ : ∃ q, fv * (y : Int) = q := ⟨_, rfl⟩
      rw [hp, hq] at hr Hs
      obtain ⟨⟨hr1, hr2⟩, ⟨hr3, hr4⟩, ⟨hr5, hr6⟩, hr7, hr8⟩ := hr
      go_wp2_with fail
      go_quiet ((go_at_call 90; exact Calls.quiet_of_same (HL.out _)))
      go_wp2_with fail
      go_roundw
      case rel =>
        refine ⟨i + 1, by omega, by rw [Hs.out.2], by go_num, ?_⟩
        rw [show (⟨w.heap.size + 1, i, none⟩ : Addr) = ⟨w.heap.size + 1, 0 + i, none⟩ from by rw [Nat.zero_add]]
        exact ⟨(HM.out.1.drewN nq).step hlt _ Hs.out.1, (HM.out.2.drewN nq).setCell _ (by omega) (by omega) _⟩
      case measure => simp [intOf]; omega
    · obtain rfl : i = k := by omega
      have HW : Hid (RowX (w.heap.size ≤ ·) wr (.slice (some ⟨w.heap.size + 1, 0, none⟩) i i) i P ∧ Below w.heap.size w wr) :=
        ⟨(HM.out.1.wk HPk.out).row hk (Nat.le_refl _) (by omega) _ (fun _ => rfl), HBl.out⟩
      generalize mxC fu fv X Y i = c at *
      go_wp2_with fail
      refine (trim_any _ i P wr HW.out.1).mono ?_
      rintro e w3 ⟨r, rfl, n, hrow, hnrm, hnk, rfl⟩
      have HZ := hide (And.intro hrow (And.intro hnrm hnk))
      clear hrow hnrm hnk
      go_wp2_with fail
      go_ret
      exact ⟨r, rfl, n, HZ.out.1, HZ.out.2.1, HZ.out.2.2, HW.out.2⟩

end Go.Proofs.YtmfimhpbdbbpoaaDoor

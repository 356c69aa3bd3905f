/- The contract of a Reader's Zig. -/
import Derived.Test.YtangjkhflgkkdaaGreatB1N
import Derived.WalkMore
import Derived.ScopeJumps
/- The contract of a Reader's groups, and of Var and Zig. -/
namespace Go.Proofs.YtangjkhflgkkdaaGreat
open Go.RowKit
open M
set_option linter.unusedVariables false

set_option maxRecDepth 100000 in
theorem and128_big (g : Nat) (h : g < 256) (hb : 128 ≤ g) : bits BinOp.and IntKind.u64 (g : Int) 128 = 128 := by
  rw [u64_and _ _ (by omega) (by omega) (by omega) (by omega)]
  have : ∀ n : Fin 256, 128 ≤ n.val → n.val &&& 128 = 128 := by decide
  have := this ⟨g, h⟩ hb
  simpa using congrArg (fun n : Nat => (n : Int)) this

set_option maxRecDepth 100000 in
theorem and128_small (g : Nat) (hb : g < 128) : bits BinOp.and IntKind.u64 (g : Int) 128 = 0 := by
  rw [u64_and _ _ (by omega) (by omega) (by omega) (by omega)]
  have : ∀ n : Fin 128, n.val &&& 128 = 0 := by decide
  have := this ⟨g, hb⟩
  simpa using congrArg (fun n : Nat => (n : Int)) this

theorem or_group (x g p : Nat) (hx : x < 2 ^ p) (hp : p ≤ 63) (hf : g % 128 * 2 ^ p < 2 ^ 64) :
    bits BinOp.or IntKind.u64 (x : Int) (IntKind.u64.wrap ((g : Int) % 128 * 2 ^ p)) = ((x + g % 128 * 2 ^ p : Nat) : Int) := by
  have e : ((g : Int) % 128 * 2 ^ p) = ((g % 128 * 2 ^ p : Nat) : Int) := by simp
  have hm : g % 128 * 2 ^ p % 2 ^ p = 0 := Nat.mul_mod_left _ _
  rw [e]
  have hle : (2 : Nat) ^ p ≤ 2 ^ 63 := Nat.pow_le_pow_right (by omega) hp
  have e2 : ((2 : Int) ^ p) = ((2 ^ p : Nat) : Int) := by simp
  generalize g % 128 * 2 ^ p = z at *
  rw [wraps_u64 z (by omega) (by omega), u64_or _ _ (by omega) (by omega) (by omega) (by omega)]
  simp only [Int.toNat_natCast]
  rw [Nat.or_comm, nat_join p z x hm hx]
  simp; omega

/-- A scope that is jumped into again at one label: the way from the label on is walked once. -/
theorem wp_scope_in {P : Program} {a : Act} {w : World} {Q : Exit → Act → World → Prop} {c rest : Code} (l : Nat) (J : Act → World → Prop) (μ : Act → World → Nat) (hf : findLabel c l = some (.seq .skip rest))
    (pass : ∀ a w, J a w → rest.wp P (Exit.jump l (fun a' w' => J a' w' ∧ μ a' w' < μ a w) Q) a w)
    (first : (∀ a w, J a w → rest.wp P (Exit.jump l J Q) a w) → c.wp P (Exit.jump l J Q) a w) : (Code.scope c).wp P Q a w :=
  wp_scope_jumps l J μ hf (first fun a w hJ => Code.wp_mono (fun e a w hq => by
    cases e <;> first | exact hq | exact ⟨hq.1, hq.2.1⟩) (pass a w hJ)) (fun a w hJ => wp_seq (wp_skip (pass a w hJ)))

/-- What holds at the label: k groups have been taken. -/
def GJ (b off : Nat) (s : ByteArray) (a : Nat) (w : World) (a' : Act) (w' : World) : Prop :=
  ∃ (k x en p : Nat) (u6 u11 u12 u13 u14 u15 u16 u17 u18 u19 u20 u21 u22 u23 u24 u25 u26 u27 u28 u29 u30 u31 u32 u33 u34 u35 u36 u37 u38 u39 u40 u41 u42 u43 u44 u45 : Value), a' = ⟨#[.pointer (some ⟨b, off, none⟩), undef, .int .u64 (x : Int), .int .i64 (en : Int), .int .i64 0, .int .i64 (p : Int), u6, .pointer (some ⟨b, off, none⟩), .pointer (some ⟨b, off, none⟩), .pointer (some ⟨b, off + 1, none⟩), .int .i64 (a : Int), u11, u12, u13, u14, u15, u16, u17, u18, u19, u20, u21, u22, u23, u24, u25, u26, u27, u28, u29, u30, u31, u32, u33, u34, u35, u36, u37, u38, u39, u40, u41, u42, u43, u44, u45, undef, undef], []⟩ ∧
    Hid (k ≤ 9 ∧ en = a + 8 * k ∧ p = 7 * k ∧ x < 2 ^ (7 * k) ∧ en ≤ 8 * s.size) ∧ Hid (readG (10 - k) ((rb s).drop en) k x en = readG 10 ((rb s).drop a) 0 0 a) ∧ Hid (∃ m, w' = w.drewN m)





end Go.Proofs.YtangjkhflgkkdaaGreat

namespace Go.Proofs.YtangjkhflgkkdaaGreat
open Go.RowKit
open M
set_option linter.unusedVariables false

/-- The number whose Zig is the Var of x. -/
def zag (x : Nat) : Int := if x % 2 = 1 then -1 - ((x / 2 : Nat) : Int) else ((x / 2 : Nat) : Int)

theorem zag_zig (y : Int) : zag (zig y) = y := by
  unfold zag zig; split <;> split <;> omega
theorem zig_zag (x : Nat) : zig (zag x) = x := by
  unfold zag zig; split <;> split <;> omega

theorem i64_xor_ones (a : Nat) (ha : a < 9223372036854775808) : bits .xor .i64 (a : Int) (-1) = -1 - (a : Int) := by
  show IntKind.i64.wrap ((BitVec.ofInt 64 (a : Int) ^^^ BitVec.ofInt 64 (-1)).toNat : Int) = _
  have h1 : BitVec.ofInt 64 (-1) = BitVec.allOnes 64 := by decide
  rw [h1, BitVec.xor_allOnes, BitVec.toNat_not, ofInt_u64 a (by omega)]
  simp [IntKind.wrap, IntKind.bits, IntKind.signed]
  omega

theorem i64_xor_zero (a : Nat) (ha : a < 9223372036854775808) : bits .xor .i64 (a : Int) 0 = (a : Int) := by
  show IntKind.i64.wrap ((BitVec.ofInt 64 (a : Int) ^^^ BitVec.ofInt 64 0).toNat : Int) = _
  have h1 : BitVec.ofInt 64 0 = 0#64 := by decide
  rw [h1, BitVec.xor_zero, ofInt_u64 a (by omega)]
  simp [IntKind.wrap, IntKind.bits, IntKind.signed]
  omega

theorem zag_xor (x : Nat) (hx : x < 18446744073709551616) : bits BinOp.xor IntKind.i64 ((x : Int) / 2) (wrap64 (-wrap64 (bits BinOp.and IntKind.u64 (x : Int) 1))) = zag x := by
  have h1 := bits_mask .u64 64 (by decide) wraps_u64 1 (by omega) (x : Int) (by omega) (by omega)
  have h2 : bits BinOp.and IntKind.u64 (x : Int) 1 = (x : Int) % 2 := by simpa using h1
  have e : (x : Int) / 2 = ((x / 2 : Nat) : Int) := by omega
  rw [h2, e]
  unfold zag
  by_cases ho : x % 2 = 1
  · have h3 : wrap64 (-wrap64 ((x : Int) % 2)) = -1 := by unfold wrap64; omega
    rw [h3, i64_xor_ones _ (by omega), if_pos ho]
  · have h3 : wrap64 (-wrap64 ((x : Int) % 2)) = 0 := by unfold wrap64; omega
    rw [h3, i64_xor_zero _ (by omega), if_neg ho]


end Go.Proofs.YtangjkhflgkkdaaGreat

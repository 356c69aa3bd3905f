/- What is told of leading bits is the nearest rung. -/
import Derived.Test.YtleeahigceppiaaDoorYI
import Derived.Deep.Cut
import Derived.Laws.Tables
import Derived.Great.Walk
/- apart; a new sum. -/
namespace Go.Proofs.YtleeahigceppiaaDoor
open Go.RowKit
open M
open Flt
set_option linter.unusedVariables false
set_option linter.unusedSimpArgs false

theorem apart_any (t1 t2 : Int) (w : World) (h1 : -9223372036854775808 ≤ t1) (h2 : t2 < 9223372036854775808) (h : t1 < t2) : Calls Tryd.prog 24 #[.int .i64 t1, .int .i64 t2] w fun e w' => e = .returned (.int .u64 ((t2 - t1).toNat : Nat)) ∧ w' = w := by
  go_enter Tryd.func24, Tryd.ntmps24
  go_wp2_with fail
  go_ret
  refine ⟨?_, rfl⟩
  apply ret_int
  simp only [IntKind.wrap_u64]
  omega

theorem heap_new2 (w : World) (o1 o2 : Obj) : ((w.alloc o1).alloc o2).heap[w.heap.size + 1]? = some o2 := by
  have := heap_alloc_new (w.alloc o1) o2
  rwa [show (w.alloc o1).heap.size = w.heap.size + 1 from by simp] at this

def z34 : Array Value := Array.replicate 34 (.int .u64 0)

theorem z34_one : (z34.all fun x => x.oneCell') = true := by kernel_rfl
theorem z34_get (j : Nat) (h : j < 34) : z34[j]? = some (.int .u64 0) := by
  unfold z34; rw [Array.getElem?_replicate, if_pos h]

theorem alloc34 (ρ : Operand → Value) (o : Oper) (ho : o.op = .alloc 25) (w : World) : (execOp ρ o).run Tryd.prog w = .ok (.value (.pointer (some ⟨w.heap.size, 0, none⟩))) (w.alloc (.cells z34 25)) := by
  have hz : (Tryd.prog.info? 25).bind (·.zero) = some (.agg z34) := by kernel_rfl
  unfold execOp
  rw [ho]
  cases hi : Tryd.prog.info? 25 with
  | none => simp [hi] at hz
  | some i5 =>
    simp only [hi, Option.bind_some] at hz
    simp [go_sem, hi, hz]
    rfl

/-- A new sum is nought. -/
theorem Ws.noughts {w : World} {g : Nat} {t : TypeId} (hg : w.heap[g]? = some (.cells z34 t (0, 0))) : Ws w g 0 34 (W6.tc 34 0) := by
  have e : W6.tc 34 0 = 0 := W6.tc_nat 34 0 (W6.pw_pos 34)
  rw [e]
  refine ⟨W6.pw_pos 34, fun j hj => ?_, fun j hj => frozen_of_row w g _ _ _ hg⟩
  rw [Nat.zero_add, cell_of_row w g j _ _ _ hg, W6.wd_zero, z34_get j hj]; rfl

end Go.Proofs.YtleeahigceppiaaDoor

namespace Go.Proofs.YtleeahigceppiaaDoor
open Go.RowKit
open M
open Flt
set_option linter.unusedVariables false
set_option linter.unusedSimpArgs false

theorem bitLen_log {n : Nat} (h : n ≠ 0) : bitLen n = n.log2 + 1 := by unfold bitLen; rw [if_neg h]

/-- The exact number, in units of the least place: its numerator and its denominator. -/
def exN (P L : Nat) (e0 : Int) : Nat := P * 2 ^ (e0 + (L : Int)).toNat
def exD (Q L : Nat) (e0 : Int) : Nat := Q * 2 ^ (-(e0 + (L : Int))).toNat

theorem cross (P D N Q u d a b A B : Nat) (H : N * (Q * 2 ^ d) = P * 2 ^ u * D) (he : d + a + B = b + A + u) : P * 2 ^ a * (D * 2 ^ B) = N * (Q * 2 ^ b * 2 ^ A) := by
  refine Nat.eq_of_mul_eq_mul_right (Nat.two_pow_pos u) ?_
  calc P * 2 ^ a * (D * 2 ^ B) * 2 ^ u = P * 2 ^ u * D * (2 ^ a * 2 ^ B) := by simp only [Nat.mul_assoc, Nat.mul_left_comm, Nat.mul_comm]
    _ = N * (Q * 2 ^ d) * (2 ^ a * 2 ^ B) := by rw [H]
    _ = N * Q * 2 ^ (d + a + B) := by rw [Nat.pow_add, Nat.pow_add]; simp only [Nat.mul_assoc]
    _ = N * Q * 2 ^ (b + A + u) := by rw [he]
    _ = N * (Q * 2 ^ b * 2 ^ A) * 2 ^ u := by rw [Nat.pow_add, Nat.pow_add]; simp only [Nat.mul_assoc]

/-- What unsF tells of a quotient's leading bits. -/
theorem uns_rnd (f : Ieee.Format) (b L inf : Nat) (hfb : f.fractionBits + 1 = b) (hb : b ≤ 53) (hbin : f.binade = 2 ^ (b - 1)) (P Q : Nat) (e0 : Int) (head : Nat) (more : Bool) (e' : Int) (hQ : 0 < Q) (hP : 0 < P) (he : nr e0 = e0)
    (h : LeadQ P Q e0 head more e') : unsF b L inf head more e' = min (rnd f (exN P L e0) (exD Q L e0)) inf := by
  rcases h with ⟨h, _⟩ | ⟨_, N, D, hD, H, hh, hm, hee, h62, h64⟩
  · omega
  have hne : head ≠ 0 := by omega
  have hlog : 62 ≤ head.log2 := by
    rw [Nat.le_log2 hne]; omega
  unfold unsF
  rw [if_neg hne]
  refine congrArg (fun x => min x inf) ?_
  have hbl := bitLen_log hne
  obtain ⟨A, hA⟩ : ∃ A, A = (e' + (L : Int)).toNat := ⟨_, rfl⟩
  obtain ⟨B, hB⟩ : ∃ B, B = (-(e' + (L : Int))).toNat := ⟨_, rfl⟩
  obtain ⟨k, hk⟩ : ∃ k, k = (stp b L head e' + L).toNat := ⟨_, rfl⟩
  obtain ⟨sh, hsh⟩ : ∃ sh, sh = (stp b L head e' - e').toNat - 1 := ⟨_, rfl⟩
  rw [← hk, ← hsh]
  have hst : stp b L head e' = max (e' + (head.log2 : Int) + 1 - (b : Int)) (-(L : Int)) := by unfold stp; rw [hbl]; congr 1; omega
  rw [hst] at hk hsh
  have hk' : k = head.log2 + A - B - f.fractionBits := by omega
  have hs' : sh + 1 + A = k + B := by omega
  have hq : N / D ≠ 0 := by rw [← hh]; exact hne
  have hcross : exN P L e0 * (D * 2 ^ B) = N * (exD Q L e0 * 2 ^ A) := by
    unfold exN exD
    exact cross P D N Q _ _ _ _ A B H (by omega)
  have hDD : 0 < exD Q L e0 := Nat.mul_pos hQ (Nat.two_pow_pos _)
  have := rnd_quot f (exN P L e0) (exD Q L e0) N D A B sh k hDD hD hq hcross (by rw [← hh]; exact hk') hs'
  rw [this, hbin, ← hh, hm]
  rfl

theorem uns_zero (b L inf head : Nat) (more : Bool) (e0 e' : Int) (Q : Nat) (h : LeadQ 0 Q e0 head more e') : unsF b L inf head more e' = 0 := by
  rcases h with ⟨_, h, _⟩ | ⟨h, _⟩
  · unfold unsF; rw [if_pos h]
  · omega

/-- Of 64 bits. -/
theorem uns64_rnd (P Q : Nat) (e0 : Int) (head : Nat) (more : Bool) (e' : Int) (hQ : 0 < Q) (hP : 0 < P) (he1 : -1048576 ≤ e0) (he2 : e0 ≤ 1048576) (h : LeadQ P Q e0 head more e') :
    unsF 53 1074 9218868437227405312 head more e' = min (rnd Ieee.double (exN P 1074 e0) (exD Q 1074 e0)) 9218868437227405312 :=
  uns_rnd Ieee.double 53 1074 _ (by decide) (by omega) (by decide) P Q e0 head more e' hQ hP (by unfold nr; omega) h

end Go.Proofs.YtleeahigceppiaaDoor

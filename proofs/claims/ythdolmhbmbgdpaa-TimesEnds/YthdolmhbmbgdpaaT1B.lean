/- The contracts of zigzag, unzigzag, layZigzag; of num. -/
import Derived.Test.YthdolmhbmbgdpaaT1S
import Derived.Test.YthdolmhbmbgdpaaT1A
namespace Go.Proofs.Ythdolmhbmbgdpaa
open Go.RowKit
open M
set_option linter.unusedVariables false

theorem zigzag_any (x : Int) (w : World) (hx : I64 x) : Calls Try.prog 23 #[.int .i64 x] w fun e w' => e = .returned (.int .u64 (zig x : Int)) ∧ w' = w := by
  obtain ⟨h1, h2⟩ := hx
  have hz := zig_xor x h1 h2
  go_enter Try.func23, Try.ntmps23
  go_wp2
  go_ret
  exact ⟨rfl, rfl⟩

theorem unzigzag_any (u : Nat) (w : World) (hu : u < 18446744073709551616) : Calls Try.prog 26 #[.int .u64 u] w fun e w' => e = .returned (.int .i64 (zag u)) ∧ w' = w := by
  have hz := zag_xor u hu
  go_enter Try.func26, Try.ntmps26
  go_wp2
  go_ret
  exact ⟨rfl, rfl⟩

set_option maxRecDepth 100000 in
set_option maxHeartbeats 1000000 in
theorem layZigzag_any (b off lo : Nat) (u : Nat) (w : World) (l : List Bool) (hW : Wr w lo b off l 0) (hb : b < lo) (hlo : lo ≤ w.heap.size)
    (hlen : l.length < 1000000000) (hu : u < 18446744073709551616) :
    Calls Try.prog 22 #[.pointer (some ⟨b, off, none⟩), .int .u64 u] w fun e w' => e = .returned (.tuple #[]) ∧ Wr w' lo b off (l ++ zb u) 0 ∧ Only b off (off + 123) w w' := by
  have HW := hide hW
  have HL := hide hlen
  have HU := hide hu
  clear hW hlen
  by_cases c1 : u < 1
  · obtain rfl : u = 0 := by omega
    have HZ := hide zb_0
    go_enter Try.func22, Try.ntmps22
    go_wp2_with fail
    refine wp_scope_fwd 4 ?_
    go_wp2_with fail
    refine (wbits_any b off lo 1 0 w l HW.out hb hlo (by have := HL.out; omega) (by omega) (by omega) (by omega)).mono ?_
    rintro e w1 ⟨rfl, W1, O1⟩
    go_wp2_with fail
    refine SJ_ret ?_
    refine bodyPost_ret (results_none rfl _ _ _) rfl ?_
    exact ⟨rfl, by rw [HZ.out]; exact W1, O1⟩
  by_cases c2 : u < 129
  · have HZ := hide (zb_1 u (by omega) (by omega))
    have k1 : (1 : Int) ≤ (u : Int) := by omega
    have k2 : ¬ (129 : Int) ≤ (u : Int) := by omega
    go_enter Try.func22, Try.ntmps22
    go_wp2_with fail
    refine wp_scope_fwd 4 ?_
    go_wp2_with fail
    refine wp_goto ?_
    refine SJ_goto 3 rfl ?_
    go_wp2_with fail
    refine (wbits_any b off lo 2 2 w l HW.out hb hlo (by have := HL.out; omega) (by omega) (by omega) (by omega)).mono ?_
    rintro e w1 ⟨rfl, W1, O1⟩
    have s1 := O1.size
    have e1 : ((u : Int) - 1) = ((u - 1 : Nat) : Int) := by omega
    go_wp2_with fail
    refine (wbits_any b off lo 7 (u - 1) w1 _ W1 hb (by omega) (by have := HL.out; simp; omega) (by omega) (by omega) (by omega)).mono ?_
    rintro e w2 ⟨rfl, W2, O2⟩
    go_wp2_with fail
    refine SJ_ret ?_
    refine bodyPost_ret (results_none rfl _ _ _) rfl ?_
    exact ⟨rfl, by rw [HZ.out, ← List.append_assoc]; exact W2, O1.trans O2⟩
  by_cases c3 : u < 4225
  · have HZ := hide (zb_2 u (by omega) (by omega))
    have k1 : (1 : Int) ≤ (u : Int) := by omega
    have k2 : (129 : Int) ≤ (u : Int) := by omega
    have k3 : ¬ (4225 : Int) ≤ (u : Int) := by omega
    go_enter Try.func22, Try.ntmps22
    go_wp2_with fail
    refine wp_scope_fwd 4 ?_
    go_wp2_with fail
    refine wp_goto ?_
    refine SJ_goto 3 rfl ?_
    go_wp2_with fail
    refine wp_goto ?_
    refine SJ_goto 2 rfl ?_
    go_wp2_with fail
    refine (wbits_any b off lo 3 6 w l HW.out hb hlo (by have := HL.out; omega) (by omega) (by omega) (by omega)).mono ?_
    rintro e w1 ⟨rfl, W1, O1⟩
    have s1 := O1.size
    have e1 : ((u : Int) - 129) = ((u - 129 : Nat) : Int) := by omega
    go_wp2_with fail
    refine (wbits_any b off lo 12 (u - 129) w1 _ W1 hb (by omega) (by have := HL.out; simp; omega) (by omega) (by omega) (by omega)).mono ?_
    rintro e w2 ⟨rfl, W2, O2⟩
    go_wp2_with fail
    refine SJ_ret ?_
    refine bodyPost_ret (results_none rfl _ _ _) rfl ?_
    exact ⟨rfl, by rw [HZ.out, ← List.append_assoc]; exact W2, O1.trans O2⟩
  by_cases c4 : u < 1052801
  · have HZ := hide (zb_3 u (by omega) (by omega))
    have k1 : (1 : Int) ≤ (u : Int) := by omega
    have k2 : (129 : Int) ≤ (u : Int) := by omega
    have k3 : (4225 : Int) ≤ (u : Int) := by omega
    have k4 : decide ((1052801 : Int) ≤ (u : Int)) = false := by rw [decide_eq_false_iff_not]; omega
    have C4 := hide c4
    clear c4
    go_enter Try.func22, Try.ntmps22
    go_wp2_with fail
    refine wp_scope_fwd 4 ?_
    go_wp2_with fail
    refine wp_goto ?_
    refine SJ_goto 3 rfl ?_
    go_wp2_with fail
    refine wp_goto ?_
    refine SJ_goto 2 rfl ?_
    go_wp2_with fail
    refine wp_goto ?_
    refine SJ_goto 1 rfl ?_
    go_wp2_with fail
    refine (wbits_any b off lo 4 14 w l HW.out hb hlo (by have := HL.out; omega) (by omega) (by omega) (by omega)).mono ?_
    rintro e w1 ⟨rfl, W1, O1⟩
    have s1 := O1.size
    have e1 : ((u : Int) - 4225) = ((u - 4225 : Nat) : Int) := by omega
    go_wp2_with fail
    refine (wbits_any b off lo 20 (u - 4225) w1 _ W1 hb (by omega) (by have := HL.out; simp; omega) (by omega) (by omega) (by have := C4.out; omega)).mono ?_
    rintro e w2 ⟨rfl, W2, O2⟩
    go_wp2_with fail
    refine SJ_ret ?_
    refine bodyPost_ret (results_none rfl _ _ _) rfl ?_
    exact ⟨rfl, by rw [HZ.out, ← List.append_assoc]; exact W2, O1.trans O2⟩
  · have HZ := hide (zb_4 u (by omega))
    have k1 : (1 : Int) ≤ (u : Int) := by omega
    have k2 : (129 : Int) ≤ (u : Int) := by omega
    have k3 : (4225 : Int) ≤ (u : Int) := by omega
    have k4 : (1052801 : Int) ≤ (u : Int) := by omega
    go_enter Try.func22, Try.ntmps22
    go_wp2_with fail
    refine wp_scope_fwd 4 ?_
    go_wp2_with fail
    refine wp_goto ?_
    refine SJ_goto 3 rfl ?_
    go_wp2_with fail
    refine wp_goto ?_
    refine SJ_goto 2 rfl ?_
    go_wp2_with fail
    refine wp_goto ?_
    refine SJ_goto 1 rfl ?_
    go_wp2_with fail
    refine wp_goto ?_
    refine SJ_goto 0 rfl ?_
    go_wp2_with fail
    refine (wbits_any b off lo 4 15 w l HW.out hb hlo (by have := HL.out; omega) (by omega) (by omega) (by omega)).mono ?_
    rintro e w1 ⟨rfl, W1, O1⟩
    have s1 := O1.size
    go_wp2_with fail
    refine (wbits_any b off lo 64 u w1 _ W1 hb (by omega) (by have := HL.out; simp; omega) (by omega) HU.out (by have := HU.out; omega)).mono ?_
    rintro e w2 ⟨rfl, W2, O2⟩
    go_wp2_with fail
    refine SJ_normal ?_
    go_end0
    exact ⟨rfl, by rw [HZ.out, ← List.append_assoc]; exact W2, O1.trans O2⟩

end Go.Proofs.Ythdolmhbmbgdpaa

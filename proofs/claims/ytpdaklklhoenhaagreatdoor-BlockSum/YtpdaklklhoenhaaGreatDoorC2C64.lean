/- The contracts of Runs' packing (64 bits). -/
import Derived.Test.YtpdaklklhoenhaaGreatDoorB1R
import Derived.Lib.Mul64
import Derived.Laws.Bits64b
import Derived.Test.YtpdaklklhoenhaaGreatDoorE2A
import Derived.Laws.CopyOwn
import Derived.Deep.RegionLaw
import Derived.Test.YtpdaklklhoenhaaGreatDoorC3C64
import Derived.Test.YtpdaklklhoenhaaGreatDoorB1I
/- The contract of math/bits.Mul of small numbers. -/
namespace Go.Proofs.YtpdaklklhoenhaaGreatDoor
open Go.RowKit
set_option linter.unusedVariables false
set_option linter.unusedSimpArgs false

theorem mone_mask (a : Nat) (ha : a < 4294967296) : bits .and .u64 (a : Int) 4294967295 = (a : Int) := by
  have h := bits_and_u64_nat a 4294967295 (by omega) (by omega)
  have e : a &&& 4294967295 = a % 4294967296 := Nat.and_two_pow_sub_one_eq_mod a 32
  rw [e, Nat.mod_eq_of_lt ha] at h
  exact h

theorem mul64_one (c : Nat) (hc : c < 4294967296) (w : World) :
    Calls Tryz.prog 208 #[.int .u64 1, .int .u64 c] w fun e w' => e = .returned (.tuple #[.int .u64 0, .int .u64 c]) ∧ w' = w := by
  have m1 : bits .and .u64 1 4294967295 = 1 := mone_mask 1 (by omega)
  have m0 : bits .and .u64 0 4294967295 = 0 := mone_mask 0 (by omega)
  have mc := mone_mask c hc
  have dc : (c : Int) / 4294967296 = 0 := by omega
  have r0 : IntKind.u64.wrap (c : Int) = (c : Int) := by rw [IntKind.wrap_u64]; omega
  have r1 : IntKind.u64.wrap 0 = 0 := by rw [IntKind.wrap_u64]; rfl
  go_enter Tryz.func208, Tryz.ntmps208
  go_wp2_with fail
  try simp only [m1, m0, mc, dc, r0, r1, Int.one_mul, Int.zero_mul, Int.mul_zero, Int.add_zero, Int.zero_add, Int.zero_ediv]
  go_ret2
  exact ⟨rfl, rfl⟩

theorem mul_one_any (c : Nat) (hc : c < 4294967296) (w : World) :
    Calls Tryz.prog 177 #[.int .u64 1, .int .u64 c] w fun e w' => e = .returned (.tuple #[.int .u64 0, .int .u64 c]) ∧ w' = w := by
  go_enter Tryz.func177, Tryz.ntmps177
  go_wp2_with fail
  refine (mul64_one c hc w).mono ?_
  rintro e w1 ⟨rfl, rfl⟩
  go_wp2_with fail
  go_ret2
  exact ⟨rfl, rfl⟩

end Go.Proofs.YtpdaklklhoenhaaGreatDoor

/- The contract of slices.Repeat of one value (64 bits). -/
namespace Go.Proofs.YtpdaklklhoenhaaGreatDoor
open Go.RowKit
set_option linter.unusedVariables false
set_option linter.unusedSimpArgs false

theorem rep_splice64 (v z : Value) (c m k : Nat) (h : m + k ≤ c) : splice (List.replicate m v ++ List.replicate (c - m) z) m (List.replicate k v) = List.replicate (m + k) v ++ List.replicate (c - (m + k)) z := by
  unfold splice
  rw [List.take_left' (by simp), List.length_replicate, List.drop_append, List.drop_eq_nil_of_le (by simp), List.nil_append, List.length_replicate, List.drop_replicate, ← List.append_assoc, List.replicate_append_replicate]
  congr 2; omega

set_option maxRecDepth 100000 in
set_option maxHeartbeats 1000000 in
theorem repeat64_any (v c b o cp : Nat) (w : World) (hv : w.cell? ⟨b, o, none⟩ = some (.int .u64 (v : Int))) (h0 : 0 < c) (hc : c ≤ 4096) :
    Calls Tryz.prog 149 #[.slice (some ⟨b, o, none⟩) 1 cp, .int .i64 c] w fun e w' => e = .returned (.slice (some ⟨w.heap.size, 0, none⟩) c c) ∧ w'.heap[w.heap.size]? = some (.cells (List.replicate c (Value.int .u64 (v : Int))).toArray 41 (0, 0)) ∧ Below w.heap.size w w' := by
  have HV := hide hv
  have hbw : b < w.heap.size := block_lt_of_cell hv
  have hsz : (Tryz.prog.info? 41).map (·.size) = some 1 := by kernel_rfl
  have hmk := make_vals64 c hc
  have r1 : IntKind.u64.wrap (c : Int) = (c : Int) := by rw [IntKind.wrap_u64]; omega
  obtain ⟨g, hg⟩ : ∃ g, w.heap.size = g := ⟨_, rfl⟩
  rw [hg] at hbw ⊢
  obtain ⟨W1, hW1⟩ : ∃ W1, W1 = w.alloc (.cells (Array.replicate c (Value.int .u64 0)) 41) := ⟨_, rfl⟩
  have HG : Hid (W1.heap[g]? = some (.cells (List.replicate c (Value.int .u64 0)).toArray 41 (0, 0)) ∧ Below g w W1 ∧ W1.cell? ⟨b, o, none⟩ = some (.int .u64 (v : Int))) := by
    have hB : Below g w W1 := by rw [hW1, ← hg]; exact (Below.refl _ w).alloc (Nat.le_refl _) _
    refine ⟨?_, hB, (hB.cell (p := ⟨b, o, none⟩) hbw).trans hv⟩
    have := heap_alloc_new w (.cells (Array.replicate c (Value.int .u64 0)) 41)
    rw [hW1, ← hg, this]; simp
  clear hv
  go_enter Tryz.func149, Tryz.ntmps149
  go_wp2_with fail
  refine (mul_one_any c (by omega) w).mono ?_
  rintro e w1 ⟨rfl, hw1⟩
  have hw2 := hw1.symm
  subst hw2
  clear hw1
  go_upto_region 7 with fail
  (try rw [hg])
  (try rw [← hW1])
  clear hW1 hmk
  have HC : Hid (∀ (j : Nat) (u : Value), [Value.int .u64 (v : Int)][j]? = some u → W1.cell? ((⟨b, o, none⟩ : Addr).add j) = some u) := fun j u hu => by
    match j with
    | 0 => simp at hu; subst hu; exact HG.out.2.2
    | j + 1 => simp at hu
  have hrun : ∃ w2, (Builtin.copy_ #[110, 110] 3 #[.slice (some ⟨g, 0, none⟩) c c, .slice (some ⟨b, o, none⟩) 1 cp]).run Tryz.prog W1 = .ok (.int .i64 1) w2 ∧ Hid (w2.heap[g]? = some (.cells (splice (List.replicate c (Value.int .u64 0)) 0 [Value.int .u64 (v : Int)]).toArray 41 (0, 0)) ∧ Below g w w2) := by
    have h1 := run_copy_row (P := Tryz.prog) W1 110 110 3 41 g 0 c c ⟨b, o, none⟩ 1 cp (List.replicate c (Value.int .u64 0)).toArray 41 [Value.int .u64 (v : Int)] Tryz.underlying110 hsz HG.out.1 (show 1 = min 1 c by omega) HC.out (by simp; omega) (fun u hu => by simp at hu; subst hu; rfl)
    exact ⟨_, h1, by simpa [splice] using setRow_heap W1 g _ _ _ _ HG.out.1, below_setRow HG.out.2.1 (Nat.le_refl _) _⟩
  obtain ⟨w2, hrun, hw2⟩ := hrun
  have hg2 : Hid (w2.heap[g]? = some (.cells (splice (List.replicate c (Value.int .u64 0)) 0 [Value.int .u64 (v : Int)]).toArray 41 (0, 0))) := hw2.out.1
  have hB2 := hw2.out.2
  have HG2 : Hid (w2.heap[g]? = some (.cells (List.replicate 1 (Value.int .u64 (v : Int)) ++ List.replicate (c - 1) (Value.int .u64 0)).toArray 41 (0, 0))) := by
    have := rep_splice64 (Value.int .u64 (v : Int)) (Value.int .u64 0) c 0 1 (by omega)
    simp only [List.replicate_zero, List.nil_append, Nat.sub_zero, Nat.zero_add] at this
    rw [← this]; exact hg2.out
  have HB2 := hide hB2
  clear hg2 hB2 hw2
  go_wp2_with fail
  go_loopw [8] (fun t8 wr => ∃ m : Nat, t8 = .int .i64 (m : Int) ∧ Hid (0 < m ∧ m ≤ c ∧ wr.heap[g]? = some (.cells (List.replicate m (Value.int .u64 (v : Int)) ++ List.replicate (c - m) (Value.int .u64 0)).toArray 41 (0, 0)) ∧ Below g w wr)) (fun t8 _ => c - (intOf t8).toNat)
  case atStart => exact ⟨1, rfl, by omega, by omega, HG2.out, HB2.out⟩
  case round =>
    obtain ⟨m, rfl, hI⟩ := hrel
    by_cases hlt : m < c
    · obtain ⟨k, hk⟩ : ∃ k, k = min m (c - m) := ⟨_, rfl⟩
      have h0m : 0 < m := hI.out.1
      have hk1 : 0 < k ∧ m + k ≤ c := by omega
      have HS : Hid (∀ (wq : World), wq.heap = wr.heap → ∀ (j : Nat) (u : Value), (List.replicate k (Value.int .u64 (v : Int)))[j]? = some u → wq.cell? ((⟨g, 0, none⟩ : Addr).add j) = some u) := fun wq hq j u hu => by
        rw [Addr.add_mid, Nat.zero_add, cell_of_row wq g j _ _ _ (by rw [hq]; exact hI.out.2.2.1)]
        rw [List.getElem?_replicate] at hu
        split at hu
        · rename_i hj
          simp only [List.getElem?_toArray]
          rw [List.getElem?_append_left (by simp; omega), List.getElem?_replicate, if_pos (by omega)]; exact hu
        · cases hu
      have HB3 := hide hI.out.2.2.2
      have n1 : ¬ c = m := by omega
      have hmc : m ≤ c := by omega
      have n2 : ¬ m = 0 := by omega
      have n3 : wrap64 ((m : Int) + (k : Int)) = ((m + k : Nat) : Int) := by unfold wrap64; omega
      have n4 : IntKind.i64.wrap ((m : Int) + (k : Int)) = ((m + k : Nat) : Int) := by rw [IntKind.wrap_i64]; omega
      have HK := hide hk
      clear hk
      go_wp2_with fail
      go_region_law (refine step_copy_splice rfl (.tmp 41) (.tmp 44) 110 110 rfl 41 Tryz.underlying110 hsz (some ⟨g, m, none⟩) (some ⟨g, 0, none⟩) (c - m) (c - m) m c (by simp [Act.eval, Act.put]) (by simp [Act.eval, Act.put]) g m (List.replicate m (Value.int .u64 (v : Int)) ++ List.replicate (c - m) (Value.int .u64 0)) 41 hI.out.2.2.1 (List.replicate k (Value.int .u64 (v : Int))) (by rw [List.length_replicate]; exact HK.out) (fun _ => ⟨rfl, _, rfl, HS.out _ rfl⟩) (by simp; omega) (fun u hu => by rw [List.eq_of_mem_replicate hu]; rfl) g w ⟨HB3.out.os, HB3.out.tape, HB3.out.output, HB3.out.size, HB3.out.block⟩ (Nat.le_refl _) ?_; intro w3 hg3 hB3)
      have HG3 : Hid (w3.heap[g]? = some (.cells (List.replicate (m + k) (Value.int .u64 (v : Int)) ++ List.replicate (c - (m + k)) (Value.int .u64 0)).toArray 41 (0, 0))) := by
        rw [← rep_splice64 _ _ c m k hk1.2]; exact hg3.out
      have HB4 := hide hB3
      clear hg3 hB3
      simp [Act.put]
      go_roundw
      case rel => exact ⟨_, _, _, _, _, _, _, _, _, _, _, _, _, _, ⟨m + k, by simp, by omega, by omega, HG3.out, HB4.out⟩, rfl⟩
      case measure => simp [intOf]; omega
    · have hm : m = c := by have := hI.out.2.1; omega
      have HE : Hid (wr.heap[g]? = some (.cells (List.replicate c (Value.int .u64 (v : Int))).toArray 41 (0, 0))) := by
        have := hI.out.2.2.1
        rw [hm, Nat.sub_self, List.replicate_zero, List.append_nil] at this
        exact this
      have HB5 := hide hI.out.2.2.2
      go_wp2_with fail
      go_ret
      exact ⟨rfl, HE.out, HB5.out⟩

end Go.Proofs.YtpdaklklhoenhaaGreatDoor

namespace Go.Proofs.YtpdaklklhoenhaaGreatDoor
open Go.RowKit
open M
set_option linter.unusedVariables false
set_option linter.unusedSimpArgs false

theorem ne64_any (v : Nat) (q : Addr) (b o n cap : Nat) (x : Nat) (w : World) (hq : w.cell? q = some (.slice (some ⟨b, o, none⟩) n cap)) (hc : w.cell? ⟨b, o, none⟩ = some (.int .u64 (x : Int))) (h0 : 0 < n) :
    Calls Tryz.prog 197 #[.int .u64 v, .pointer (some q)] w fun e w' => e = .returned (.bool (decide (v ≠ x))) ∧ w' = w := by
  have e0 : (((v : Int)) != (x : Int)) = decide (v ≠ x) := by rw [Bool.eq_iff_iff, bne_iff_ne, decide_eq_true_iff]; omega
  have e1 := hide e0
  clear e0
  go_enter Tryz.func197, Tryz.ntmps197
  go_wp2_with fail
  go_ret
  exact ⟨by rw [← e1.out]; rfl, rfl⟩

theorem aheadOf_shift64 (f : Nat → Nat) (v i k c : Nat) : aheadOf (fun j => f (c + j)) v i k = aheadOf f v (c + i) k := by
  induction k generalizing i with
  | zero => rfl
  | succ k ih => rw [aheadOf, aheadOf, ih (i + 1)]; rfl

set_option maxRecDepth 100000 in
theorem indexNe64_any (q : Addr) (b o n cap : Nat) (f : Nat → Nat) (w : World) (hq : w.cell? q = some (.slice (some ⟨b, o, none⟩) n cap)) (hc : ∀ i, i < n → w.cell? ⟨b, o + i, none⟩ = some (.int .u64 (f i : Int))) (h0 : 0 < n) (hn : n ≤ 4096) (hcap : n ≤ cap) :
    Calls Tryz.prog 196 #[.slice (some ⟨b, o, none⟩) n cap, .func (.func 197) #[] #[.pointer (some q)]] w fun e w' => e = .returned (.int .i64 (if aheadOf f (f 0) 0 n < n then (aheadOf f (f 0) 0 n : Int) else -1)) ∧ w' = w := by
  have HC := hide hc
  have HQ := hide hq
  have HC0 : Hid (w.cell? ⟨b, o, none⟩ = some (.int .u64 (f 0 : Int))) := hc 0 h0
  obtain ⟨res, hres⟩ : ∃ res : Int, (if aheadOf f (f 0) 0 n < n then (aheadOf f (f 0) 0 n : Int) else -1) = res := ⟨_, rfl⟩
  rw [hres]
  have HRES := hide hres
  clear hc hq hres
  go_enter Tryz.func196, Tryz.ntmps196
  go_wp2_with fail
  go_loopw [8] (fun t8 wr => ∃ k : Nat, t8 = .int .i64 (k : Int) ∧ wr = w ∧ Hid (k ≤ n ∧ ∀ j, j < k → f j = f 0)) (fun t8 _ => n - (intOf t8).toNat)
  case atStart => exact ⟨0, rfl, rfl, Nat.zero_le _, fun j hj => by omega⟩
  case round =>
    obtain ⟨k, rfl, rfl, hI⟩ := hrel
    by_cases hlt : k < n
    · obtain ⟨v, hv⟩ : ∃ v, f k = v := ⟨_, rfl⟩
      have c1 : wr.cell? ⟨b, o + k, none⟩ = some (.int .u64 (v : Int)) := by rw [← hv]; exact HC.out k hlt
      have HV := hide hv
      clear hv
      by_cases hne : v = f 0
      · have HN := hide hne
        clear hne
        go_wp2_with fail
        refine (ne64_any v q b o n cap (f 0) wr HQ.out HC0.out h0).mono ?_
        rintro e w1 ⟨rfl, rfl⟩
        rw [decide_eq_false (fun h => h HN.out)]
        go_wp2_with fail
        go_roundw
        case rel => exact ⟨k + 1, by simp, trivial, hlt, fun j hj => by
          by_cases e : j = k
          · rw [e, HV.out, HN.out]
          · exact hI.out.2 j (by omega)⟩
        case measure => simp [intOf]; omega
      · have ea : aheadOf f (f 0) 0 n = k := aheadOf_of f (f 0) 0 n k (by omega) (fun j hj => by rw [Nat.zero_add]; exact hI.out.2 j hj) (fun _ => by rw [Nat.zero_add, HV.out]; exact hne)
        have HA := hide ea
        have HN := hide hne
        clear ea hne
        go_wp2_with fail
        refine (ne64_any v q b o n cap (f 0) wr HQ.out HC0.out h0).mono ?_
        rintro e w1 ⟨rfl, rfl⟩
        rw [decide_eq_true HN.out]
        go_wp2_with fail
        go_ret
        exact ⟨by rw [← HRES.out, HA.out, if_pos hlt]; rfl, rfl⟩
    · have hk : k = n := by have := hI.out.1; omega
      have ea : aheadOf f (f 0) 0 n = n := aheadOf_of f (f 0) 0 n n (by omega) (fun j hj => by rw [Nat.zero_add]; exact hI.out.2 j (by omega)) (fun h => by omega)
      have HA := hide ea
      clear ea
      go_wp2_with fail
      go_ret
      exact ⟨by rw [← HRES.out, HA.out, if_neg (by omega)]; rfl, rfl⟩

set_option maxRecDepth 100000 in
theorem equalAhead64_any (b o n cap : Nat) (f : Nat → Nat) (w : World) (hc : ∀ i, i < n → w.cell? ⟨b, o + i, none⟩ = some (.int .u64 (f i : Int))) (h0 : 0 < n) (hn : n ≤ 4096) (hcap : n ≤ cap) :
    Calls Tryz.prog 167 #[.slice (some ⟨b, o, none⟩) n cap] w fun e w' => e = .returned (.int .i64 (aheadOf f (f 0) 0 n : Nat)) ∧ Below w.heap.size w w' := by
  have HC := hide hc
  have hle := aheadOf_le f (f 0) 0 n
  obtain ⟨A, hA⟩ : ∃ A, aheadOf f (f 0) 0 n = A := ⟨_, rfl⟩
  have HA := hide hA
  rw [hA] at hle ⊢
  obtain ⟨g, hg⟩ : ∃ g, w.heap.size = g := ⟨_, rfl⟩
  obtain ⟨W1, hW1⟩ : ∃ W1, W1 = w.alloc (.cells #[.slice (some ⟨b, o, none⟩) n cap] 110) := ⟨_, rfl⟩
  have HB : Hid (Below w.heap.size w W1) := by rw [hW1]; exact (Below.refl _ w).alloc (Nat.le_refl _) _
  have HW : Hid (W1.cell? ⟨g, 0, none⟩ = some (.slice (some ⟨b, o, none⟩) n cap)) := by rw [← hg, hW1]; exact cell_of_row _ _ 0 _ _ _ (heap_alloc_new w _)
  have HC1 : Hid (∀ i, i < n → W1.cell? ⟨b, o + i, none⟩ = some (.int .u64 (f i : Int))) := fun i hi => by
    rw [HB.out.cell (p := ⟨b, o + i, none⟩) (block_lt_of_cell (hc i hi))]; exact hc i hi
  clear hc hA
  by_cases hlt : A < n
  · go_enter Tryz.func167, Tryz.ntmps167
    go_upto_region 1 with fail
    (try rw [hg])
    (try rw [← hW1])
    clear hW1
    have c0 := HW.out
    go_wp2_with fail
    refine (indexNe64_any ⟨g, 0, none⟩ b o n cap f W1 HW.out HC1.out h0 hn hcap).mono ?_
    rintro e w1 ⟨rfl, rfl⟩
    rw [HA.out, if_pos hlt]
    go_wp2_with fail
    go_ret
    exact ⟨rfl, HB.out⟩
  · have hAn : A = n := by omega
    go_enter Tryz.func167, Tryz.ntmps167
    go_upto_region 1 with fail
    (try rw [hg])
    (try rw [← hW1])
    clear hW1
    have c0 := HW.out
    go_wp2_with fail
    refine (indexNe64_any ⟨g, 0, none⟩ b o n cap f W1 HW.out HC1.out h0 hn hcap).mono ?_
    rintro e w1 ⟨rfl, rfl⟩
    rw [HA.out, if_neg hlt]
    go_wp2_with fail
    go_ret
    exact ⟨by rw [hAn]; rfl, HB.out⟩

theorem rnB_len64 (f : Nat → Nat) (u i k : Nat) : (rnB 64 f u i k).length ≤ 144 * k := by
  induction u generalizing i k with
  | zero => simp [rnB]
  | succ u ih =>
    match k with
    | 0 => simp [rnB]
    | k + 1 =>
      have hp := aheadOf_pos f i k
      have hl := aheadOf_le f (f i) i (k + 1)
      rw [rnB, List.length_append, List.length_append, bitsOf_length]
      have h1 := varB_le (aheadOf f (f i) i (k + 1) - 1)
      have h2 := ih (i + aheadOf f (f i) i (k + 1)) (k + 1 - aheadOf f (f i) i (k + 1))
      omega

def sliceLen64 : Value → Nat
  | .slice _ l _ => l
  | _ => 0

set_option maxRecDepth 100000 in
set_option maxHeartbeats 1000000 in
theorem packRuns64_any (p : Option Addr) (n cap : Nat) (f : Nat → Nat) (w : World) (h : URow64 w p n f) (hn : n ≤ 4096) (hcap : n ≤ cap) (hf : ∀ i, i < n → f i < 18446744073709551616) :
    Calls Tryz.prog 133 #[.slice p n cap] w (RowEnd64 (rnB 64 f n 0 n) w) := by
  have H := hide h
  have HF := hide hf
  obtain ⟨g, hg⟩ : ∃ g, g = w.heap.size := ⟨_, rfl⟩
  obtain ⟨W1, hW1⟩ : ∃ W1, W1 = w.alloc (.cells zW 101) := ⟨_, rfl⟩
  have HM : Hid (Wr W1 (g + 1) g 0 [] 0 ∧ g + 1 ≤ W1.heap.size ∧ Below w.heap.size w W1 ∧ URow64 W1 p n f) := by
    have B1 : Below w.heap.size w W1 := by rw [hW1]; exact (Below.refl _ w).alloc (Nat.le_refl _) _
    refine ⟨?_, by rw [hW1, hg]; simp, B1, h.below B1⟩
    rw [hg, hW1]; exact wr_of (heap_alloc_new w _)
  have HP : Hid (∀ a, p = some a → 0 < n → a.block < g) := fun a ha h0 => by
    obtain ⟨b, o, hp, hc⟩ := H.out h0
    rw [hp] at ha
    simp only [Option.some.injEq] at ha
    rw [← ha, hg]
    exact block_lt_of_cell (hc 0 h0)
  have HG := hide hg
  clear h hf
  go_enter Tryz.func133, Tryz.ntmps133
  go_upto_region 1 with fail
  refine wp_region_list ?_
  refine wpList_build rfl 101 #[] rfl (by kernel_rfl) ?_
  simp only [Array.map_empty]
  rw [zW_built]
  refine Go.Great.wpList_boxTo rfl 101 (.tmp 6) rfl (some 7) rfl g hg.symm zW rfl ?_
  rw [← hW1]
  clear hW1 hg
  go_wp2_with fail
  go_loopw [0] (fun t0 wr => ∃ (i k : Nat) (pi : Option Addr) (ci : Nat), t0 = .slice pi k ci ∧ Hid (i + k = n ∧ k ≤ ci ∧ URow64 W1 pi k (fun j => f (i + j)) ∧ (∀ a, pi = some a → 0 < k → a.block < g) ∧ ∃ l, Wr wr (g + 1) g 0 l 0 ∧ Only g 0 123 W1 wr ∧ l ++ rnB 64 f k i k = rnB 64 f n 0 n)) (fun t0 _ => sliceLen64 t0)
  case atStart => exact ⟨0, n, p, cap, rfl, by omega, by omega, by simpa using HM.out.2.2.2, HP.out, [], HM.out.1, Only.refl _ _ _ _, by simp⟩
  case round =>
    obtain ⟨i, k, pi, ci, rfl, hI⟩ := hrel
    match k with
    | 0 =>
      obtain ⟨hik, hci, hrow, hpb, l, hW, hO, hl⟩ := hI.out
      have hl' : l = rnB 64 f n 0 n := by rw [← hl]; simp [rnB]
      rw [hl'] at hW
      have HW := hide hW
      have HO := hide hO
      clear hik hci hrow hpb hW hO hl hl'
      go_wp2_with fail
      refine (wdone_packed g 0 (g + 1) wr _ HW.out (Nat.le_trans HM.out.2.1 HO.out.size) (by have := rnB_len64 f n 0 n; omega) _ rfl).mono ?_
      rintro e w3 ⟨rfl, G3, B3⟩
      go_wp2_with fail
      go_ret2
      have e3 := HM.out.2.2.1
      have e4 := HG.out
      have e5 := HO.out.below (B := w.heap.size) (by omega) (by have := e3.size; omega)
      refine ⟨wr.heap.size, ((rnB 64 f n 0 n).length + 7) / 8, (packed_length _).symm, ?_, rfl, G3, ?_⟩
      · have := e5.size; have := e3.size; omega
      · exact (e3.trans e5).trans (B3.mono (by have := e5.size; have := e3.size; omega))
    | k + 1 =>
      obtain ⟨hik, hci, hrow, hpb, l, hW, hO, hl⟩ := hI.out
      obtain ⟨b, o, rfl, hc⟩ := hrow (by omega)
      have hbg : b < g := hpb _ rfl (by omega)
      have hs1 := HM.out.2.1
      have hbw : wr.heap[b]? = W1.heap[b]? := hO.block b (by omega) (by omega)
      have hcw : ∀ j, j < k + 1 → wr.cell? ⟨b, o + j, none⟩ = some (.int .u64 (f (i + j) : Int)) := fun j hj => by rw [World.cell?_of_block (w := W1) hbw]; exact hc j hj
      obtain ⟨A, hA⟩ : ∃ A, aheadOf f (f i) i (k + 1) = A := ⟨_, rfl⟩
      have hA1 : 0 < A := by rw [← hA]; exact aheadOf_pos f i k
      have hA2 : A ≤ k + 1 := by rw [← hA]; exact aheadOf_le _ _ _ _
      have hAs : aheadOf (fun j => f (i + j)) ((fun j => f (i + j)) 0) 0 (k + 1) = A := by rw [aheadOf_shift64]; exact hA
      obtain ⟨v, hv⟩ : ∃ v, f i = v := ⟨_, rfl⟩
      have hvM : v < 18446744073709551616 := by rw [← hv]; exact HF.out i (by omega)
      have hll : l.length + 144 < 1000000000000 := by
        have h1 := congrArg List.length hl
        rw [List.length_append] at h1
        have := rnB_len64 f n 0 n
        omega
      have EQ := equalAhead64_any b o (k + 1) ci (fun j => f (i + j)) wr hcw (by omega) (by omega) hci
      rw [hAs] at EQ
      have c0 : wr.cell? ⟨b, o, none⟩ = some (.int .u64 (v : Int)) := by rw [← hv]; exact hcw 0 (by omega)
      have HEQ := hide EQ
      have HALL := hide (And.intro hrow (And.intro hpb (And.intro hW (And.intro hO (And.intro hl (And.intro hA hv))))))
      have HC0 := hide c0
      have HCW := hide hc
      clear hc EQ hrow hpb hW hO hl hA hv c0 hcw hbw hAs hI hs1
      have r1 : IntKind.u64.wrap ((A : Int) - 1) = ((A - 1 : Nat) : Int) := by rw [IntKind.wrap_u64]; omega
      go_wp2_with fail
      refine HEQ.out.mono ?_
      rintro e w2 ⟨rfl, B2⟩
      have c0 : w2.cell? ⟨b, o, none⟩ = some (.int .u64 (v : Int)) := by rw [B2.cell (p := ⟨b, o, none⟩) (block_lt_of_cell HC0.out)]; exact HC0.out
      have HB2 := hide B2
      clear B2
      have HW2 : Hid (Wr w2 (g + 1) g 0 l 0 ∧ g + 1 ≤ w2.heap.size ∧ Only g 0 123 W1 w2) := by
        have hO := HALL.out.2.2.2.1
        have hs := HB2.out.size
        have hg1 : g < wr.heap.size := by have := hO.size; have := HM.out.2.1; omega
        exact ⟨HALL.out.2.2.1.below HB2.out, by have := hO.size; have := HM.out.2.1; omega, hO.trans ⟨HB2.out.os, HB2.out.tape, HB2.out.output, hs, fun k hk _ => HB2.out.block k hk, fun j _ => HB2.out.cell (p := ⟨g, j, none⟩) hg1, fun j => HB2.out.frozen (p := ⟨g, j, none⟩) hg1⟩⟩
      go_wp2_with fail
      refine (layValue64_any g 0 (g + 1) v w2 _ HW2.out.1 (by omega) HW2.out.2.1 (by omega) hvM).mono ?_
      rintro e w3 ⟨rfl, W3, O3⟩
      have HW3 : Hid (Wr w3 (g + 1) g 0 (l ++ bitsOf v 64) 0 ∧ g + 1 ≤ w3.heap.size ∧ Only g 0 123 W1 w3) := ⟨W3, by have := O3.size; have := HW2.out.2.1; omega, HW2.out.2.2.trans O3⟩
      clear W3 O3
      go_wp2_with fail
      refine (wvar_any g 0 (g + 1) (A - 1) w3 _ HW3.out.1 (by omega) HW3.out.2.1 (by rw [List.length_append, bitsOf_length]; omega) (by omega)).mono ?_
      rintro e w4 ⟨rfl, W4, O4⟩
      have HW4 : Hid (Wr w4 (g + 1) g 0 (l ++ bitsOf v 64 ++ varB (A - 1)) 0 ∧ Only g 0 123 W1 w4) := ⟨W4, HW3.out.2.2.trans O4⟩
      clear W4 O4
      go_wp2_with fail
      go_roundw
      case rel =>
        refine ⟨i + A, k + 1 - A, _, ci - A, rfl, by omega, by omega, ?_, ?_, _, HW4.out.1, HW4.out.2, ?_⟩
        · intro h0
          exact ⟨b, o + A, by simp; omega, fun j hj => by rw [show o + A + j = o + (A + j) from by omega, HCW.out (A + j) (by omega), show i + (A + j) = i + A + j from by omega]⟩
        · intro a ha h0
          have hne : ¬ ci - A = 0 := by omega
          first | (simp only [Option.some.injEq] at ha; rw [← ha]; exact hbg) | (simp [hne] at ha; rw [← ha]; exact hbg) | (split at ha <;> (simp only [Option.some.injEq] at ha; rw [← ha]; exact hbg)) | trace_state
        · rw [← HALL.out.2.2.2.2.1]
          conv => rhs; rw [rnB]
          rw [HALL.out.2.2.2.2.2.1, HALL.out.2.2.2.2.2.2, rnB_enough 64 f k (k + 1 - A) (i + A) (k + 1 - A) (by omega) (by omega)]
          simp only [List.append_assoc]
      case measure => simp [sliceLen64]; omega

end Go.Proofs.YtpdaklklhoenhaaGreatDoor

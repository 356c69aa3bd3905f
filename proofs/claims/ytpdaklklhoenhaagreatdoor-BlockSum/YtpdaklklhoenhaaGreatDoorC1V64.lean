/- The contract of code.Pack (64 bits) of no values, and of too many. -/
import Derived.Test.YtpdaklklhoenhaaGreatDoorC2I
import Derived.Test.YtpdaklklhoenhaaGreatDoorT1A
import Derived.Deep.Cut
import Derived.Deep.RegionHeld3
import Derived.Great.Walk
/- The contracts of code's packers and unpackers (64 bits): which function each kind is laid or taken by. -/
namespace Go.Proofs.YtpdaklklhoenhaaGreatDoor
open Go.RowKit
set_option linter.unusedVariables false
set_option linter.unusedSimpArgs false

/-- The entries of packers. -/
def packersE64 : Array MapEntry := #[{ key := .int .i64 1, val := .func (.func 131) #[] #[], born := 0 }, { key := .int .i64 2, val := .func (.func 132) #[] #[], born := 1 }, { key := .int .i64 3, val := .func (.func 133) #[] #[], born := 2 }, { key := .int .i64 4, val := .func (.func 134) #[] #[], born := 3 }, { key := .int .i64 5, val := .func (.func 135) #[] #[], born := 4 }, { key := .int .i64 6, val := .func (.func 136) #[] #[], born := 5 }]

set_option maxRecDepth 100000 in
theorem packers64_any (w : World) : Calls Tryz.prog 110 #[] w fun e w' => e = .returned (.map (some w.heap.size)) ∧ w'.heap[w.heap.size]? = some (.map packersE64 6) ∧ Below w.heap.size w w' := by
  have b0 := heap_alloc_new w (.map #[] 0)
  have HB : Hid (Below w.heap.size w (w.alloc (.map #[] 0))) := (Below.refl _ w).alloc (Nat.le_refl _) _
  obtain ⟨r, hr⟩ : ∃ r, w.heap.size = r := ⟨_, rfl⟩
  have HR := hide hr
  go_enter Tryz.func110, Tryz.ntmps110
  go_upto_region 1 with fail
  refine wp_region_list ?_
  refine wpList_mkMap _ rfl _ rfl ?_
  rw [hr] at b0 HB ⊢
  clear hr
  generalize w.alloc (.map #[] 0) = w0 at *
  refine wpList_put _ rfl _ _ _ 172 rfl 3 170 Tryz.underlying172 Tryz.underlying3 r 0 _ 1 (.func (.func 131) #[] #[]) rfl rfl rfl b0 (by kernel_rfl) ?_
  intro w1 b1 B1
  have B1 := hide (B1 r (Nat.le_refl _))
  refine wpList_put _ rfl _ _ _ 172 rfl 3 170 Tryz.underlying172 Tryz.underlying3 r 1 _ 2 (.func (.func 132) #[] #[]) rfl rfl rfl b1 (by kernel_rfl) ?_
  intro w2 b2 B2
  have B2 := hide (B2 r (Nat.le_refl _))
  refine wpList_put _ rfl _ _ _ 172 rfl 3 170 Tryz.underlying172 Tryz.underlying3 r 2 _ 3 (.func (.func 133) #[] #[]) rfl rfl rfl b2 (by kernel_rfl) ?_
  intro w3 b3 B3
  have B3 := hide (B3 r (Nat.le_refl _))
  refine wpList_put _ rfl _ _ _ 172 rfl 3 170 Tryz.underlying172 Tryz.underlying3 r 3 _ 4 (.func (.func 134) #[] #[]) rfl rfl rfl b3 (by kernel_rfl) ?_
  intro w4 b4 B4
  have B4 := hide (B4 r (Nat.le_refl _))
  refine wpList_put _ rfl _ _ _ 172 rfl 3 170 Tryz.underlying172 Tryz.underlying3 r 4 _ 5 (.func (.func 135) #[] #[]) rfl rfl rfl b4 (by kernel_rfl) ?_
  intro w5 b5 B5
  have B5 := hide (B5 r (Nat.le_refl _))
  refine wpList_put _ rfl _ _ _ 172 rfl 3 170 Tryz.underlying172 Tryz.underlying3 r 5 _ 6 (.func (.func 136) #[] #[]) rfl rfl rfl b5 (by kernel_rfl) ?_
  intro w6 b6 B6
  have B6 := hide (B6 r (Nat.le_refl _))
  go_wp2_with fail
  go_ret
  exact ⟨by rw [HR.out]; rfl, by rw [HR.out]; exact b6, by rw [HR.out]; exact ((((((HB.out.trans B1.out).trans B2.out).trans B3.out).trans B4.out).trans B5.out).trans B6.out)⟩

/-- The entries of unpackers. -/
def unpackersE64 : Array MapEntry := #[{ key := .int .i64 1, val := .func (.func 119) #[] #[], born := 0 }, { key := .int .i64 2, val := .func (.func 120) #[] #[], born := 1 }, { key := .int .i64 3, val := .func (.func 121) #[] #[], born := 2 }, { key := .int .i64 4, val := .func (.func 122) #[] #[], born := 3 }, { key := .int .i64 5, val := .func (.func 123) #[] #[], born := 4 }, { key := .int .i64 6, val := .func (.func 124) #[] #[], born := 5 }]

set_option maxRecDepth 100000 in
theorem unpackers64_any (w : World) : Calls Tryz.prog 106 #[] w fun e w' => e = .returned (.map (some w.heap.size)) ∧ w'.heap[w.heap.size]? = some (.map unpackersE64 6) ∧ Below w.heap.size w w' := by
  have b0 := heap_alloc_new w (.map #[] 0)
  have HB : Hid (Below w.heap.size w (w.alloc (.map #[] 0))) := (Below.refl _ w).alloc (Nat.le_refl _) _
  obtain ⟨r, hr⟩ : ∃ r, w.heap.size = r := ⟨_, rfl⟩
  have HR := hide hr
  go_enter Tryz.func106, Tryz.ntmps106
  go_upto_region 1 with fail
  refine wp_region_list ?_
  refine wpList_mkMap _ rfl _ rfl ?_
  rw [hr] at b0 HB ⊢
  clear hr
  generalize w.alloc (.map #[] 0) = w0 at *
  refine wpList_put _ rfl _ _ _ 163 rfl 3 161 Tryz.underlying163 Tryz.underlying3 r 0 _ 1 (.func (.func 119) #[] #[]) rfl rfl rfl b0 (by kernel_rfl) ?_
  intro w1 b1 B1
  have B1 := hide (B1 r (Nat.le_refl _))
  refine wpList_put _ rfl _ _ _ 163 rfl 3 161 Tryz.underlying163 Tryz.underlying3 r 1 _ 2 (.func (.func 120) #[] #[]) rfl rfl rfl b1 (by kernel_rfl) ?_
  intro w2 b2 B2
  have B2 := hide (B2 r (Nat.le_refl _))
  refine wpList_put _ rfl _ _ _ 163 rfl 3 161 Tryz.underlying163 Tryz.underlying3 r 2 _ 3 (.func (.func 121) #[] #[]) rfl rfl rfl b2 (by kernel_rfl) ?_
  intro w3 b3 B3
  have B3 := hide (B3 r (Nat.le_refl _))
  refine wpList_put _ rfl _ _ _ 163 rfl 3 161 Tryz.underlying163 Tryz.underlying3 r 3 _ 4 (.func (.func 122) #[] #[]) rfl rfl rfl b3 (by kernel_rfl) ?_
  intro w4 b4 B4
  have B4 := hide (B4 r (Nat.le_refl _))
  refine wpList_put _ rfl _ _ _ 163 rfl 3 161 Tryz.underlying163 Tryz.underlying3 r 4 _ 5 (.func (.func 123) #[] #[]) rfl rfl rfl b4 (by kernel_rfl) ?_
  intro w5 b5 B5
  have B5 := hide (B5 r (Nat.le_refl _))
  refine wpList_put _ rfl _ _ _ 163 rfl 3 161 Tryz.underlying163 Tryz.underlying3 r 5 _ 6 (.func (.func 124) #[] #[]) rfl rfl rfl b5 (by kernel_rfl) ?_
  intro w6 b6 B6
  have B6 := hide (B6 r (Nat.le_refl _))
  go_wp2_with fail
  go_ret
  exact ⟨by rw [HR.out]; rfl, by rw [HR.out]; exact b6, by rw [HR.out]; exact ((((((HB.out.trans B1.out).trans B2.out).trans B3.out).trans B4.out).trans B5.out).trans B6.out)⟩

end Go.Proofs.YtpdaklklhoenhaaGreatDoor

/- The contract of code.Pack (64 bits), of each kind by its packer's. -/
namespace Go.Proofs.YtpdaklklhoenhaaGreatDoor
open Go.RowKit
set_option linter.unusedVariables false
set_option linter.unusedSimpArgs false

set_option maxRecDepth 100000 in
theorem cPack64_none (k : Int) (v : Value) (w : World) (h : k < 1 ∨ 6 < k) :
    Calls Tryz.prog 95 #[.int .i64 k, v] w fun e w' => e = .returned (.tuple #[.slice none 0 0, .int .i64 80]) ∧ Below w.heap.size w w' := by
  have hz : ∀ w1 : World, (zeroValue 170).run Tryz.prog w1 = .ok .nilFunc w1 := fun w1 => by kernel_rfl
  have hf : Instr.findNow (.int .i64) (.int .i64 k) packersE64.toList 0 = some none := by
    have e1 : (k == 1) = false := by rw [beq_eq_false_iff_ne]; omega
    have e2 : (k == 2) = false := by rw [beq_eq_false_iff_ne]; omega
    have e3 : (k == 3) = false := by rw [beq_eq_false_iff_ne]; omega
    have e4 : (k == 4) = false := by rw [beq_eq_false_iff_ne]; omega
    have e5 : (k == 5) = false := by rw [beq_eq_false_iff_ne]; omega
    have e6 : (k == 6) = false := by rw [beq_eq_false_iff_ne]; omega
    simp [packersE64, Instr.findNow, Instr.sameNow, e1, e2, e3, e4, e5, e6]
  go_enter Tryz.func95, Tryz.ntmps95
  go_wp2_with fail
  refine (packers64_any w).mono ?_
  rintro e w1 ⟨rfl, b1, B1⟩
  have hl := run_none (P := Tryz.prog) (w := w1) _ _ _ _ _ _ k _ Tryz.underlying172 Tryz.underlying3 b1 hf (hz _)
  have HB := hide B1
  clear B1 b1 hf hz
  go_wp2_with fail
  go_ret2
  exact ⟨rfl, HB.out⟩

set_option maxRecDepth 100000 in
theorem cPack64_1 (p : Option Addr) (n cap : Nat) (w : World) (h0 : 0 < n) (hn : n ≤ 4096) (Q : Value → Value → World → Prop)
    (hcall : ∀ w1, Below w.heap.size w w1 → Calls Tryz.prog 131 #[.slice p n cap] w1 fun e w' => ∃ b s, e = .returned (.tuple #[b, s]) ∧ Q b s w') :
    Calls Tryz.prog 95 #[.int .i64 1, .slice p n cap] w fun e w' => ∃ b s, e = .returned (.tuple #[b, s]) ∧ Q b s w' := by
  have hf : Instr.findNow (.int .i64) (.int .i64 1) packersE64.toList 0 = some (some (0, .func (.func 131) #[] #[])) := by kernel_rfl
  have hne : ((n : Int) == 0) = false := by rw [beq_eq_false_iff_ne]; omega
  go_enter Tryz.func95, Tryz.ntmps95
  go_wp2_with fail
  refine (packers64_any w).mono ?_
  rintro e w1 ⟨rfl, b1, B1⟩
  have hl := run_get (P := Tryz.prog) (w := w1) _ _ _ _ _ _ 1 _ _ Tryz.underlying172 Tryz.underlying3 b1 hf
  have HB := hide B1
  clear B1 b1 hf
  go_wp2_with fail
  refine (hcall w1 HB.out).mono ?_
  rintro e w2 ⟨b, s, rfl, h⟩
  have HQ := hide h
  clear h
  go_wp2_with fail
  go_ret2
  exact ⟨b, s, rfl, HQ.out⟩

set_option maxRecDepth 100000 in
theorem cPack64_2 (p : Option Addr) (n cap : Nat) (w : World) (h0 : 0 < n) (hn : n ≤ 4096) (Q : Value → Value → World → Prop)
    (hcall : ∀ w1, Below w.heap.size w w1 → Calls Tryz.prog 132 #[.slice p n cap] w1 fun e w' => ∃ b s, e = .returned (.tuple #[b, s]) ∧ Q b s w') :
    Calls Tryz.prog 95 #[.int .i64 2, .slice p n cap] w fun e w' => ∃ b s, e = .returned (.tuple #[b, s]) ∧ Q b s w' := by
  have hf : Instr.findNow (.int .i64) (.int .i64 2) packersE64.toList 0 = some (some (1, .func (.func 132) #[] #[])) := by kernel_rfl
  have hne : ((n : Int) == 0) = false := by rw [beq_eq_false_iff_ne]; omega
  go_enter Tryz.func95, Tryz.ntmps95
  go_wp2_with fail
  refine (packers64_any w).mono ?_
  rintro e w1 ⟨rfl, b1, B1⟩
  have hl := run_get (P := Tryz.prog) (w := w1) _ _ _ _ _ _ 2 _ _ Tryz.underlying172 Tryz.underlying3 b1 hf
  have HB := hide B1
  clear B1 b1 hf
  go_wp2_with fail
  refine (hcall w1 HB.out).mono ?_
  rintro e w2 ⟨b, s, rfl, h⟩
  have HQ := hide h
  clear h
  go_wp2_with fail
  go_ret2
  exact ⟨b, s, rfl, HQ.out⟩

set_option maxRecDepth 100000 in
theorem cPack64_3 (p : Option Addr) (n cap : Nat) (w : World) (h0 : 0 < n) (hn : n ≤ 4096) (Q : Value → Value → World → Prop)
    (hcall : ∀ w1, Below w.heap.size w w1 → Calls Tryz.prog 133 #[.slice p n cap] w1 fun e w' => ∃ b s, e = .returned (.tuple #[b, s]) ∧ Q b s w') :
    Calls Tryz.prog 95 #[.int .i64 3, .slice p n cap] w fun e w' => ∃ b s, e = .returned (.tuple #[b, s]) ∧ Q b s w' := by
  have hf : Instr.findNow (.int .i64) (.int .i64 3) packersE64.toList 0 = some (some (2, .func (.func 133) #[] #[])) := by kernel_rfl
  have hne : ((n : Int) == 0) = false := by rw [beq_eq_false_iff_ne]; omega
  go_enter Tryz.func95, Tryz.ntmps95
  go_wp2_with fail
  refine (packers64_any w).mono ?_
  rintro e w1 ⟨rfl, b1, B1⟩
  have hl := run_get (P := Tryz.prog) (w := w1) _ _ _ _ _ _ 3 _ _ Tryz.underlying172 Tryz.underlying3 b1 hf
  have HB := hide B1
  clear B1 b1 hf
  go_wp2_with fail
  refine (hcall w1 HB.out).mono ?_
  rintro e w2 ⟨b, s, rfl, h⟩
  have HQ := hide h
  clear h
  go_wp2_with fail
  go_ret2
  exact ⟨b, s, rfl, HQ.out⟩

set_option maxRecDepth 100000 in
theorem cPack64_4 (p : Option Addr) (n cap : Nat) (w : World) (h0 : 0 < n) (hn : n ≤ 4096) (Q : Value → Value → World → Prop)
    (hcall : ∀ w1, Below w.heap.size w w1 → Calls Tryz.prog 134 #[.slice p n cap] w1 fun e w' => ∃ b s, e = .returned (.tuple #[b, s]) ∧ Q b s w') :
    Calls Tryz.prog 95 #[.int .i64 4, .slice p n cap] w fun e w' => ∃ b s, e = .returned (.tuple #[b, s]) ∧ Q b s w' := by
  have hf : Instr.findNow (.int .i64) (.int .i64 4) packersE64.toList 0 = some (some (3, .func (.func 134) #[] #[])) := by kernel_rfl
  have hne : ((n : Int) == 0) = false := by rw [beq_eq_false_iff_ne]; omega
  go_enter Tryz.func95, Tryz.ntmps95
  go_wp2_with fail
  refine (packers64_any w).mono ?_
  rintro e w1 ⟨rfl, b1, B1⟩
  have hl := run_get (P := Tryz.prog) (w := w1) _ _ _ _ _ _ 4 _ _ Tryz.underlying172 Tryz.underlying3 b1 hf
  have HB := hide B1
  clear B1 b1 hf
  go_wp2_with fail
  refine (hcall w1 HB.out).mono ?_
  rintro e w2 ⟨b, s, rfl, h⟩
  have HQ := hide h
  clear h
  go_wp2_with fail
  go_ret2
  exact ⟨b, s, rfl, HQ.out⟩

set_option maxRecDepth 100000 in
theorem cPack64_5 (p : Option Addr) (n cap : Nat) (w : World) (h0 : 0 < n) (hn : n ≤ 4096) (Q : Value → Value → World → Prop)
    (hcall : ∀ w1, Below w.heap.size w w1 → Calls Tryz.prog 135 #[.slice p n cap] w1 fun e w' => ∃ b s, e = .returned (.tuple #[b, s]) ∧ Q b s w') :
    Calls Tryz.prog 95 #[.int .i64 5, .slice p n cap] w fun e w' => ∃ b s, e = .returned (.tuple #[b, s]) ∧ Q b s w' := by
  have hf : Instr.findNow (.int .i64) (.int .i64 5) packersE64.toList 0 = some (some (4, .func (.func 135) #[] #[])) := by kernel_rfl
  have hne : ((n : Int) == 0) = false := by rw [beq_eq_false_iff_ne]; omega
  go_enter Tryz.func95, Tryz.ntmps95
  go_wp2_with fail
  refine (packers64_any w).mono ?_
  rintro e w1 ⟨rfl, b1, B1⟩
  have hl := run_get (P := Tryz.prog) (w := w1) _ _ _ _ _ _ 5 _ _ Tryz.underlying172 Tryz.underlying3 b1 hf
  have HB := hide B1
  clear B1 b1 hf
  go_wp2_with fail
  refine (hcall w1 HB.out).mono ?_
  rintro e w2 ⟨b, s, rfl, h⟩
  have HQ := hide h
  clear h
  go_wp2_with fail
  go_ret2
  exact ⟨b, s, rfl, HQ.out⟩

set_option maxRecDepth 100000 in
theorem cPack64_6 (p : Option Addr) (n cap : Nat) (w : World) (h0 : 0 < n) (hn : n ≤ 4096) (Q : Value → Value → World → Prop)
    (hcall : ∀ w1, Below w.heap.size w w1 → Calls Tryz.prog 136 #[.slice p n cap] w1 fun e w' => ∃ b s, e = .returned (.tuple #[b, s]) ∧ Q b s w') :
    Calls Tryz.prog 95 #[.int .i64 6, .slice p n cap] w fun e w' => ∃ b s, e = .returned (.tuple #[b, s]) ∧ Q b s w' := by
  have hf : Instr.findNow (.int .i64) (.int .i64 6) packersE64.toList 0 = some (some (5, .func (.func 136) #[] #[])) := by kernel_rfl
  have hne : ((n : Int) == 0) = false := by rw [beq_eq_false_iff_ne]; omega
  go_enter Tryz.func95, Tryz.ntmps95
  go_wp2_with fail
  refine (packers64_any w).mono ?_
  rintro e w1 ⟨rfl, b1, B1⟩
  have hl := run_get (P := Tryz.prog) (w := w1) _ _ _ _ _ _ 6 _ _ Tryz.underlying172 Tryz.underlying3 b1 hf
  have HB := hide B1
  clear B1 b1 hf
  go_wp2_with fail
  refine (hcall w1 HB.out).mono ?_
  rintro e w2 ⟨b, s, rfl, h⟩
  have HQ := hide h
  clear h
  go_wp2_with fail
  go_ret2
  exact ⟨b, s, rfl, HQ.out⟩

end Go.Proofs.YtpdaklklhoenhaaGreatDoor

namespace Go.Proofs.YtpdaklklhoenhaaGreatDoor
open Go.RowKit
set_option linter.unusedVariables false
set_option linter.unusedSimpArgs false

theorem packersE64_known (k : Nat) (h1 : 1 ≤ k) (h6 : k ≤ 6) : ∃ i v, Instr.findNow (.int .i64) (.int .i64 (k : Int)) packersE64.toList 0 = some (some (i, v)) := by
  obtain rfl | rfl | rfl | rfl | rfl | rfl : k = 1 ∨ k = 2 ∨ k = 3 ∨ k = 4 ∨ k = 5 ∨ k = 6 := by omega
  all_goals exact ⟨_, _, rfl⟩

set_option maxRecDepth 100000 in
theorem cPack64_many (k : Nat) (p : Option Addr) (n cap : Nat) (w : World) (h1 : 1 ≤ k) (h6 : k ≤ 6) (hn : 4096 < n) :
    Calls Tryz.prog 95 #[.int .i64 k, .slice p n cap] w fun e w' => e = .returned (.tuple #[.slice none 0 0, .int .i64 81]) ∧ Below w.heap.size w w' := by
  obtain ⟨i, v, hf⟩ := packersE64_known k h1 h6
  go_enter Tryz.func95, Tryz.ntmps95
  go_wp2_with fail
  refine (packers64_any w).mono ?_
  rintro e w1 ⟨rfl, b1, B1⟩
  have hl := run_get (P := Tryz.prog) (w := w1) _ _ _ _ _ _ k _ _ Tryz.underlying172 Tryz.underlying3 b1 hf
  have HB := hide B1
  clear B1 b1 hf
  go_wp2_with fail
  go_ret2
  exact ⟨rfl, HB.out⟩

set_option maxRecDepth 100000 in
theorem cPack64_empty (k : Nat) (p : Option Addr) (cap : Nat) (w : World) (h1 : 1 ≤ k) (h6 : k ≤ 6) :
    Calls Tryz.prog 95 #[.int .i64 k, .slice p 0 cap] w fun e w' => e = .returned (.tuple #[.slice none 0 0, .int .i64 0]) ∧ Below w.heap.size w w' := by
  obtain ⟨i, v, hf⟩ := packersE64_known k h1 h6
  go_enter Tryz.func95, Tryz.ntmps95
  go_wp2_with fail
  refine (packers64_any w).mono ?_
  rintro e w1 ⟨rfl, b1, B1⟩
  have hl := run_get (P := Tryz.prog) (w := w1) _ _ _ _ _ _ k _ _ Tryz.underlying172 Tryz.underlying3 b1 hf
  have HB := hide B1
  clear B1 b1 hf
  go_wp2_with fail
  go_ret2
  exact ⟨rfl, HB.out⟩

end Go.Proofs.YtpdaklklhoenhaaGreatDoor

/- Unpack by any kind (32 bits). -/
import Derived.Test.YtgjjkopmoobilaaGreatDoorC2K64
import Derived.Test.YtgjjkopmoobilaaGreatDoorP1T
import Derived.Deep.Cut
import Derived.Deep.RegionHeld3
import Derived.Great.Walk
import Derived.Test.YtgjjkopmoobilaaGreatDoorP1M32
import Derived.Test.YtgjjkopmoobilaaGreatDoorC2K32
import Derived.Test.YtgjjkopmoobilaaGreatDoorC2B32
import Derived.Lib.Bytes
/- The contracts of code's packers and unpackers (32 bits): which function each kind is laid or taken by. -/
namespace Go.Proofs.YtgjjkopmoobilaaGreatDoor
open Go.RowKit
set_option linter.unusedVariables false
set_option linter.unusedSimpArgs false

/-- The entries of packers. -/
def packersE32 : Array MapEntry := #[{ key := .int .i64 1, val := .func (.func 57) #[] #[], born := 0 }, { key := .int .i64 2, val := .func (.func 58) #[] #[], born := 1 }, { key := .int .i64 3, val := .func (.func 59) #[] #[], born := 2 }, { key := .int .i64 4, val := .func (.func 60) #[] #[], born := 3 }, { key := .int .i64 5, val := .func (.func 61) #[] #[], born := 4 }, { key := .int .i64 6, val := .func (.func 62) #[] #[], born := 5 }]

set_option maxRecDepth 100000 in
theorem packers32_any (w : World) : Calls Tryz.prog 37 #[] w fun e w' => e = .returned (.map (some w.heap.size)) ∧ w'.heap[w.heap.size]? = some (.map packersE32 6) ∧ Below w.heap.size w w' := by
  have b0 := heap_alloc_new w (.map #[] 0)
  have HB : Hid (Below w.heap.size w (w.alloc (.map #[] 0))) := (Below.refl _ w).alloc (Nat.le_refl _) _
  obtain ⟨r, hr⟩ : ∃ r, w.heap.size = r := ⟨_, rfl⟩
  have HR := hide hr
  go_enter Tryz.func37, Tryz.ntmps37
  go_upto_region 1 with fail
  refine wp_region_list ?_
  refine wpList_mkMap _ rfl _ rfl ?_
  rw [hr] at b0 HB ⊢
  clear hr
  generalize w.alloc (.map #[] 0) = w0 at *
  refine wpList_put _ rfl _ _ _ 88 rfl 3 86 Tryz.underlying88 Tryz.underlying3 r 0 _ 1 (.func (.func 57) #[] #[]) rfl rfl rfl b0 (by kernel_rfl) ?_
  intro w1 b1 B1
  have B1 := hide (B1 r (Nat.le_refl _))
  refine wpList_put _ rfl _ _ _ 88 rfl 3 86 Tryz.underlying88 Tryz.underlying3 r 1 _ 2 (.func (.func 58) #[] #[]) rfl rfl rfl b1 (by kernel_rfl) ?_
  intro w2 b2 B2
  have B2 := hide (B2 r (Nat.le_refl _))
  refine wpList_put _ rfl _ _ _ 88 rfl 3 86 Tryz.underlying88 Tryz.underlying3 r 2 _ 3 (.func (.func 59) #[] #[]) rfl rfl rfl b2 (by kernel_rfl) ?_
  intro w3 b3 B3
  have B3 := hide (B3 r (Nat.le_refl _))
  refine wpList_put _ rfl _ _ _ 88 rfl 3 86 Tryz.underlying88 Tryz.underlying3 r 3 _ 4 (.func (.func 60) #[] #[]) rfl rfl rfl b3 (by kernel_rfl) ?_
  intro w4 b4 B4
  have B4 := hide (B4 r (Nat.le_refl _))
  refine wpList_put _ rfl _ _ _ 88 rfl 3 86 Tryz.underlying88 Tryz.underlying3 r 4 _ 5 (.func (.func 61) #[] #[]) rfl rfl rfl b4 (by kernel_rfl) ?_
  intro w5 b5 B5
  have B5 := hide (B5 r (Nat.le_refl _))
  refine wpList_put _ rfl _ _ _ 88 rfl 3 86 Tryz.underlying88 Tryz.underlying3 r 5 _ 6 (.func (.func 62) #[] #[]) rfl rfl rfl b5 (by kernel_rfl) ?_
  intro w6 b6 B6
  have B6 := hide (B6 r (Nat.le_refl _))
  go_wp2_with fail
  go_ret
  exact ⟨by rw [HR.out]; rfl, by rw [HR.out]; exact b6, by rw [HR.out]; exact ((((((HB.out.trans B1.out).trans B2.out).trans B3.out).trans B4.out).trans B5.out).trans B6.out)⟩

/-- The entries of unpackers. -/
def unpackersE32 : Array MapEntry := #[{ key := .int .i64 1, val := .func (.func 45) #[] #[], born := 0 }, { key := .int .i64 2, val := .func (.func 46) #[] #[], born := 1 }, { key := .int .i64 3, val := .func (.func 47) #[] #[], born := 2 }, { key := .int .i64 4, val := .func (.func 48) #[] #[], born := 3 }, { key := .int .i64 5, val := .func (.func 49) #[] #[], born := 4 }, { key := .int .i64 6, val := .func (.func 50) #[] #[], born := 5 }]

set_option maxRecDepth 100000 in
theorem unpackers32_any (w : World) : Calls Tryz.prog 35 #[] w fun e w' => e = .returned (.map (some w.heap.size)) ∧ w'.heap[w.heap.size]? = some (.map unpackersE32 6) ∧ Below w.heap.size w w' := by
  have b0 := heap_alloc_new w (.map #[] 0)
  have HB : Hid (Below w.heap.size w (w.alloc (.map #[] 0))) := (Below.refl _ w).alloc (Nat.le_refl _) _
  obtain ⟨r, hr⟩ : ∃ r, w.heap.size = r := ⟨_, rfl⟩
  have HR := hide hr
  go_enter Tryz.func35, Tryz.ntmps35
  go_upto_region 1 with fail
  refine wp_region_list ?_
  refine wpList_mkMap _ rfl _ rfl ?_
  rw [hr] at b0 HB ⊢
  clear hr
  generalize w.alloc (.map #[] 0) = w0 at *
  refine wpList_put _ rfl _ _ _ 80 rfl 3 78 Tryz.underlying80 Tryz.underlying3 r 0 _ 1 (.func (.func 45) #[] #[]) rfl rfl rfl b0 (by kernel_rfl) ?_
  intro w1 b1 B1
  have B1 := hide (B1 r (Nat.le_refl _))
  refine wpList_put _ rfl _ _ _ 80 rfl 3 78 Tryz.underlying80 Tryz.underlying3 r 1 _ 2 (.func (.func 46) #[] #[]) rfl rfl rfl b1 (by kernel_rfl) ?_
  intro w2 b2 B2
  have B2 := hide (B2 r (Nat.le_refl _))
  refine wpList_put _ rfl _ _ _ 80 rfl 3 78 Tryz.underlying80 Tryz.underlying3 r 2 _ 3 (.func (.func 47) #[] #[]) rfl rfl rfl b2 (by kernel_rfl) ?_
  intro w3 b3 B3
  have B3 := hide (B3 r (Nat.le_refl _))
  refine wpList_put _ rfl _ _ _ 80 rfl 3 78 Tryz.underlying80 Tryz.underlying3 r 3 _ 4 (.func (.func 48) #[] #[]) rfl rfl rfl b3 (by kernel_rfl) ?_
  intro w4 b4 B4
  have B4 := hide (B4 r (Nat.le_refl _))
  refine wpList_put _ rfl _ _ _ 80 rfl 3 78 Tryz.underlying80 Tryz.underlying3 r 4 _ 5 (.func (.func 49) #[] #[]) rfl rfl rfl b4 (by kernel_rfl) ?_
  intro w5 b5 B5
  have B5 := hide (B5 r (Nat.le_refl _))
  refine wpList_put _ rfl _ _ _ 80 rfl 3 78 Tryz.underlying80 Tryz.underlying3 r 5 _ 6 (.func (.func 50) #[] #[]) rfl rfl rfl b5 (by kernel_rfl) ?_
  intro w6 b6 B6
  have B6 := hide (B6 r (Nat.le_refl _))
  go_wp2_with fail
  go_ret
  exact ⟨by rw [HR.out]; rfl, by rw [HR.out]; exact b6, by rw [HR.out]; exact ((((((HB.out.trans B1.out).trans B2.out).trans B3.out).trans B4.out).trans B5.out).trans B6.out)⟩

end Go.Proofs.YtgjjkopmoobilaaGreatDoor

/- The contract of code.Pack (32 bits), of each kind by its packer's. -/
namespace Go.Proofs.YtgjjkopmoobilaaGreatDoor
open Go.RowKit
set_option linter.unusedVariables false
set_option linter.unusedSimpArgs false

set_option maxRecDepth 100000 in
theorem cPack32_none (k : Int) (v : Value) (w : World) (h : k < 1 ∨ 6 < k) :
    Calls Tryz.prog 17 #[.int .i64 k, v] w fun e w' => e = .returned (.tuple #[.slice none 0 0, .int .i64 80]) ∧ Below w.heap.size w w' := by
  have hz : ∀ w1 : World, (zeroValue 86).run Tryz.prog w1 = .ok .nilFunc w1 := fun w1 => by kernel_rfl
  have hf : Instr.findNow (.int .i64) (.int .i64 k) packersE32.toList 0 = some none := by
    have e1 : (k == 1) = false := by rw [beq_eq_false_iff_ne]; omega
    have e2 : (k == 2) = false := by rw [beq_eq_false_iff_ne]; omega
    have e3 : (k == 3) = false := by rw [beq_eq_false_iff_ne]; omega
    have e4 : (k == 4) = false := by rw [beq_eq_false_iff_ne]; omega
    have e5 : (k == 5) = false := by rw [beq_eq_false_iff_ne]; omega
    have e6 : (k == 6) = false := by rw [beq_eq_false_iff_ne]; omega
    simp [packersE32, Instr.findNow, Instr.sameNow, e1, e2, e3, e4, e5, e6]
  go_enter Tryz.func17, Tryz.ntmps17
  go_wp2_with fail
  refine (packers32_any w).mono ?_
  rintro e w1 ⟨rfl, b1, B1⟩
  have hl := run_none (P := Tryz.prog) (w := w1) _ _ _ _ _ _ k _ Tryz.underlying88 Tryz.underlying3 b1 hf (hz _)
  have HB := hide B1
  clear B1 b1 hf hz
  go_wp2_with fail
  go_ret2
  exact ⟨rfl, HB.out⟩

set_option maxRecDepth 100000 in
theorem cPack32_1 (p : Option Addr) (n cap : Nat) (w : World) (h0 : 0 < n) (hn : n ≤ 4096) (Q : Value → Value → World → Prop)
    (hcall : ∀ w1, Below w.heap.size w w1 → Calls Tryz.prog 57 #[.slice p n cap] w1 fun e w' => ∃ b s, e = .returned (.tuple #[b, s]) ∧ Q b s w') :
    Calls Tryz.prog 17 #[.int .i64 1, .slice p n cap] w fun e w' => ∃ b s, e = .returned (.tuple #[b, s]) ∧ Q b s w' := by
  have hf : Instr.findNow (.int .i64) (.int .i64 1) packersE32.toList 0 = some (some (0, .func (.func 57) #[] #[])) := by kernel_rfl
  have hne : ((n : Int) == 0) = false := by rw [beq_eq_false_iff_ne]; omega
  go_enter Tryz.func17, Tryz.ntmps17
  go_wp2_with fail
  refine (packers32_any w).mono ?_
  rintro e w1 ⟨rfl, b1, B1⟩
  have hl := run_get (P := Tryz.prog) (w := w1) _ _ _ _ _ _ 1 _ _ Tryz.underlying88 Tryz.underlying3 b1 hf
  have HB := hide B1
  clear B1 b1 hf
  go_wp2_with fail
  refine (hcall w1 HB.out).mono ?_
  rintro e w2 ⟨b, s, rfl, h⟩
  have HQ := hide h
  clear h
  go_wp2_with fail
  go_ret2
  exact ⟨b, s, rfl, HQ.out⟩

set_option maxRecDepth 100000 in
theorem cPack32_2 (p : Option Addr) (n cap : Nat) (w : World) (h0 : 0 < n) (hn : n ≤ 4096) (Q : Value → Value → World → Prop)
    (hcall : ∀ w1, Below w.heap.size w w1 → Calls Tryz.prog 58 #[.slice p n cap] w1 fun e w' => ∃ b s, e = .returned (.tuple #[b, s]) ∧ Q b s w') :
    Calls Tryz.prog 17 #[.int .i64 2, .slice p n cap] w fun e w' => ∃ b s, e = .returned (.tuple #[b, s]) ∧ Q b s w' := by
  have hf : Instr.findNow (.int .i64) (.int .i64 2) packersE32.toList 0 = some (some (1, .func (.func 58) #[] #[])) := by kernel_rfl
  have hne : ((n : Int) == 0) = false := by rw [beq_eq_false_iff_ne]; omega
  go_enter Tryz.func17, Tryz.ntmps17
  go_wp2_with fail
  refine (packers32_any w).mono ?_
  rintro e w1 ⟨rfl, b1, B1⟩
  have hl := run_get (P := Tryz.prog) (w := w1) _ _ _ _ _ _ 2 _ _ Tryz.underlying88 Tryz.underlying3 b1 hf
  have HB := hide B1
  clear B1 b1 hf
  go_wp2_with fail
  refine (hcall w1 HB.out).mono ?_
  rintro e w2 ⟨b, s, rfl, h⟩
  have HQ := hide h
  clear h
  go_wp2_with fail
  go_ret2
  exact ⟨b, s, rfl, HQ.out⟩

set_option maxRecDepth 100000 in
theorem cPack32_3 (p : Option Addr) (n cap : Nat) (w : World) (h0 : 0 < n) (hn : n ≤ 4096) (Q : Value → Value → World → Prop)
    (hcall : ∀ w1, Below w.heap.size w w1 → Calls Tryz.prog 59 #[.slice p n cap] w1 fun e w' => ∃ b s, e = .returned (.tuple #[b, s]) ∧ Q b s w') :
    Calls Tryz.prog 17 #[.int .i64 3, .slice p n cap] w fun e w' => ∃ b s, e = .returned (.tuple #[b, s]) ∧ Q b s w' := by
  have hf : Instr.findNow (.int .i64) (.int .i64 3) packersE32.toList 0 = some (some (2, .func (.func 59) #[] #[])) := by kernel_rfl
  have hne : ((n : Int) == 0) = false := by rw [beq_eq_false_iff_ne]; omega
  go_enter Tryz.func17, Tryz.ntmps17
  go_wp2_with fail
  refine (packers32_any w).mono ?_
  rintro e w1 ⟨rfl, b1, B1⟩
  have hl := run_get (P := Tryz.prog) (w := w1) _ _ _ _ _ _ 3 _ _ Tryz.underlying88 Tryz.underlying3 b1 hf
  have HB := hide B1
  clear B1 b1 hf
  go_wp2_with fail
  refine (hcall w1 HB.out).mono ?_
  rintro e w2 ⟨b, s, rfl, h⟩
  have HQ := hide h
  clear h
  go_wp2_with fail
  go_ret2
  exact ⟨b, s, rfl, HQ.out⟩

set_option maxRecDepth 100000 in
theorem cPack32_4 (p : Option Addr) (n cap : Nat) (w : World) (h0 : 0 < n) (hn : n ≤ 4096) (Q : Value → Value → World → Prop)
    (hcall : ∀ w1, Below w.heap.size w w1 → Calls Tryz.prog 60 #[.slice p n cap] w1 fun e w' => ∃ b s, e = .returned (.tuple #[b, s]) ∧ Q b s w') :
    Calls Tryz.prog 17 #[.int .i64 4, .slice p n cap] w fun e w' => ∃ b s, e = .returned (.tuple #[b, s]) ∧ Q b s w' := by
  have hf : Instr.findNow (.int .i64) (.int .i64 4) packersE32.toList 0 = some (some (3, .func (.func 60) #[] #[])) := by kernel_rfl
  have hne : ((n : Int) == 0) = false := by rw [beq_eq_false_iff_ne]; omega
  go_enter Tryz.func17, Tryz.ntmps17
  go_wp2_with fail
  refine (packers32_any w).mono ?_
  rintro e w1 ⟨rfl, b1, B1⟩
  have hl := run_get (P := Tryz.prog) (w := w1) _ _ _ _ _ _ 4 _ _ Tryz.underlying88 Tryz.underlying3 b1 hf
  have HB := hide B1
  clear B1 b1 hf
  go_wp2_with fail
  refine (hcall w1 HB.out).mono ?_
  rintro e w2 ⟨b, s, rfl, h⟩
  have HQ := hide h
  clear h
  go_wp2_with fail
  go_ret2
  exact ⟨b, s, rfl, HQ.out⟩

set_option maxRecDepth 100000 in
theorem cPack32_5 (p : Option Addr) (n cap : Nat) (w : World) (h0 : 0 < n) (hn : n ≤ 4096) (Q : Value → Value → World → Prop)
    (hcall : ∀ w1, Below w.heap.size w w1 → Calls Tryz.prog 61 #[.slice p n cap] w1 fun e w' => ∃ b s, e = .returned (.tuple #[b, s]) ∧ Q b s w') :
    Calls Tryz.prog 17 #[.int .i64 5, .slice p n cap] w fun e w' => ∃ b s, e = .returned (.tuple #[b, s]) ∧ Q b s w' := by
  have hf : Instr.findNow (.int .i64) (.int .i64 5) packersE32.toList 0 = some (some (4, .func (.func 61) #[] #[])) := by kernel_rfl
  have hne : ((n : Int) == 0) = false := by rw [beq_eq_false_iff_ne]; omega
  go_enter Tryz.func17, Tryz.ntmps17
  go_wp2_with fail
  refine (packers32_any w).mono ?_
  rintro e w1 ⟨rfl, b1, B1⟩
  have hl := run_get (P := Tryz.prog) (w := w1) _ _ _ _ _ _ 5 _ _ Tryz.underlying88 Tryz.underlying3 b1 hf
  have HB := hide B1
  clear B1 b1 hf
  go_wp2_with fail
  refine (hcall w1 HB.out).mono ?_
  rintro e w2 ⟨b, s, rfl, h⟩
  have HQ := hide h
  clear h
  go_wp2_with fail
  go_ret2
  exact ⟨b, s, rfl, HQ.out⟩

set_option maxRecDepth 100000 in
theorem cPack32_6 (p : Option Addr) (n cap : Nat) (w : World) (h0 : 0 < n) (hn : n ≤ 4096) (Q : Value → Value → World → Prop)
    (hcall : ∀ w1, Below w.heap.size w w1 → Calls Tryz.prog 62 #[.slice p n cap] w1 fun e w' => ∃ b s, e = .returned (.tuple #[b, s]) ∧ Q b s w') :
    Calls Tryz.prog 17 #[.int .i64 6, .slice p n cap] w fun e w' => ∃ b s, e = .returned (.tuple #[b, s]) ∧ Q b s w' := by
  have hf : Instr.findNow (.int .i64) (.int .i64 6) packersE32.toList 0 = some (some (5, .func (.func 62) #[] #[])) := by kernel_rfl
  have hne : ((n : Int) == 0) = false := by rw [beq_eq_false_iff_ne]; omega
  go_enter Tryz.func17, Tryz.ntmps17
  go_wp2_with fail
  refine (packers32_any w).mono ?_
  rintro e w1 ⟨rfl, b1, B1⟩
  have hl := run_get (P := Tryz.prog) (w := w1) _ _ _ _ _ _ 6 _ _ Tryz.underlying88 Tryz.underlying3 b1 hf
  have HB := hide B1
  clear B1 b1 hf
  go_wp2_with fail
  refine (hcall w1 HB.out).mono ?_
  rintro e w2 ⟨b, s, rfl, h⟩
  have HQ := hide h
  clear h
  go_wp2_with fail
  go_ret2
  exact ⟨b, s, rfl, HQ.out⟩

end Go.Proofs.YtgjjkopmoobilaaGreatDoor

/- The contract of code.Pack (32 bits) of no values, and of too many. -/
namespace Go.Proofs.YtgjjkopmoobilaaGreatDoor
open Go.RowKit
set_option linter.unusedVariables false
set_option linter.unusedSimpArgs false

theorem packersE32_known (k : Nat) (h1 : 1 ≤ k) (h6 : k ≤ 6) : ∃ i v, Instr.findNow (.int .i64) (.int .i64 (k : Int)) packersE32.toList 0 = some (some (i, v)) := by
  obtain rfl | rfl | rfl | rfl | rfl | rfl : k = 1 ∨ k = 2 ∨ k = 3 ∨ k = 4 ∨ k = 5 ∨ k = 6 := by omega
  all_goals exact ⟨_, _, rfl⟩

set_option maxRecDepth 100000 in
theorem cPack32_many (k : Nat) (p : Option Addr) (n cap : Nat) (w : World) (h1 : 1 ≤ k) (h6 : k ≤ 6) (hn : 4096 < n) :
    Calls Tryz.prog 17 #[.int .i64 k, .slice p n cap] w fun e w' => e = .returned (.tuple #[.slice none 0 0, .int .i64 81]) ∧ Below w.heap.size w w' := by
  obtain ⟨i, v, hf⟩ := packersE32_known k h1 h6
  go_enter Tryz.func17, Tryz.ntmps17
  go_wp2_with fail
  refine (packers32_any w).mono ?_
  rintro e w1 ⟨rfl, b1, B1⟩
  have hl := run_get (P := Tryz.prog) (w := w1) _ _ _ _ _ _ k _ _ Tryz.underlying88 Tryz.underlying3 b1 hf
  have HB := hide B1
  clear B1 b1 hf
  go_wp2_with fail
  go_ret2
  exact ⟨rfl, HB.out⟩

set_option maxRecDepth 100000 in
theorem cPack32_empty (k : Nat) (p : Option Addr) (cap : Nat) (w : World) (h1 : 1 ≤ k) (h6 : k ≤ 6) :
    Calls Tryz.prog 17 #[.int .i64 k, .slice p 0 cap] w fun e w' => e = .returned (.tuple #[.slice none 0 0, .int .i64 0]) ∧ Below w.heap.size w w' := by
  obtain ⟨i, v, hf⟩ := packersE32_known k h1 h6
  go_enter Tryz.func17, Tryz.ntmps17
  go_wp2_with fail
  refine (packers32_any w).mono ?_
  rintro e w1 ⟨rfl, b1, B1⟩
  have hl := run_get (P := Tryz.prog) (w := w1) _ _ _ _ _ _ k _ _ Tryz.underlying88 Tryz.underlying3 b1 hf
  have HB := hide B1
  clear B1 b1 hf
  go_wp2_with fail
  go_ret2
  exact ⟨rfl, HB.out⟩

end Go.Proofs.YtgjjkopmoobilaaGreatDoor

/- A column's bits by a kind; Pack by any kind; bytes compared (32 bits). -/
namespace Go.Proofs.YtgjjkopmoobilaaGreatDoor
open Go.RowKit
open M
set_option linter.unusedVariables false
set_option linter.unusedSimpArgs false

/-- The bits of n values by a kind, if it takes them. -/
def codeO32 (k : Nat) (f : Nat → Nat) (n : Nat) : Option (List Bool) := match k with
  | 1 => some (plB 32 f n)
  | 2 => some (cbn 32 5 f n)
  | 3 => some (rnB 32 f n 0 n)
  | 4 => dcO 32 f n
  | 5 => some (stB 2147483648 4294967296 f n)
  | 6 => some (F32.dm 32 f n)
  | _ => none

/-- What Pack tells of some values. -/
def KindEnd32 (o : Option (List Bool)) (w : World) (e : Ending) (w' : World) : Prop := match o with
  | some l => RowEnd32 l w e w'
  | none => e = .returned (.tuple #[.slice none 0 0, .int .i64 82]) ∧ Below w.heap.size w w'

theorem xor_row32 {f : Nat → Nat} {n : Nat} {w : World} {e : Ending} {w' : World} (h : PackEnd32 f n w e w') (h0 : 0 < n) : RowEnd32 (cbn 32 5 f n) w e w' := h

theorem cPack32_some (k : Nat) (p : Option Addr) (n cap : Nat) (f : Nat → Nat) (w : World) (hk1 : 1 ≤ k) (hk6 : k ≤ 6) (h : URow32 w p n f) (h0 : 0 < n) (hn : n ≤ 4096) (hcap : n ≤ cap) (hf : ∀ i, i < n → f i < 4294967296) (hT : Tab64 w) :
    Calls Tryz.prog 17 #[.int .i64 k, .slice p n cap] w (KindEnd32 (codeO32 k f n) w) := by
  obtain rfl | rfl | rfl | rfl | rfl | rfl : k = 1 ∨ k = 2 ∨ k = 3 ∨ k = 4 ∨ k = 5 ∨ k = 6 := by omega
  · refine (cPack32_1 p n cap w h0 hn (fun b s w' => RowEnd32 (plB 32 f n) w (.returned (.tuple #[b, s])) w') fun w1 B1 => ?_).mono ?_
    · refine (packPlain32_any p n cap f w1 (h.below B1) hn hcap hf).mono ?_
      rintro e w' ⟨g, L, h1, h2, rfl, h4, h5⟩
      exact ⟨_, _, rfl, g, L, h1, Nat.le_trans B1.size h2, rfl, h4, B1.trans (h5.mono B1.size)⟩
    · rintro e w' ⟨b, s, rfl, hq⟩
      exact hq
  · refine (cPack32_2 p n cap w h0 hn (fun b s w' => RowEnd32 (cbn 32 5 f n) w (.returned (.tuple #[b, s])) w') fun w1 B1 => ?_).mono ?_
    · refine (pack32_ok p n cap f w1 (h.below B1) hn hcap hf (hT.below B1)).mono ?_
      rintro e w' hE
      obtain ⟨g, L, h1, h2, rfl, h4, h5⟩ := xor_row32 hE h0
      exact ⟨_, _, rfl, g, L, h1, Nat.le_trans B1.size h2, rfl, h4, B1.trans (h5.mono B1.size)⟩
    · rintro e w' ⟨b, s, rfl, hq⟩
      exact hq
  · refine (cPack32_3 p n cap w h0 hn (fun b s w' => RowEnd32 (rnB 32 f n 0 n) w (.returned (.tuple #[b, s])) w') fun w1 B1 => ?_).mono ?_
    · refine (packRuns32_any p n cap f w1 (h.below B1) hn hcap hf).mono ?_
      rintro e w' ⟨g, L, h1, h2, rfl, h4, h5⟩
      exact ⟨_, _, rfl, g, L, h1, Nat.le_trans B1.size h2, rfl, h4, B1.trans (h5.mono B1.size)⟩
    · rintro e w' ⟨b, s, rfl, hq⟩
      exact hq
  · refine (cPack32_4 p n cap w h0 hn (fun b s w' => KindEnd32 (dcO 32 f n) w (.returned (.tuple #[b, s])) w') fun w1 B1 => ?_).mono ?_
    · refine (packDict32_any p n cap f w1 (h.below B1) h0 hn hcap hf).mono ?_
      rintro e w' hE
      rcases hE with ⟨hu, rfl, hB⟩ | ⟨hu, g, L, h1, h2, rfl, h4, h5⟩
      · refine ⟨_, _, rfl, ?_⟩
        unfold dcO
        rw [if_neg (by omega)]
        exact ⟨rfl, B1.trans (hB.mono B1.size)⟩
      · refine ⟨_, _, rfl, ?_⟩
        unfold dcO
        rw [if_pos hu]
        exact ⟨g, L, h1, Nat.le_trans B1.size h2, rfl, h4, B1.trans (h5.mono B1.size)⟩
    · rintro e w' ⟨b, s, rfl, hq⟩
      exact hq
  · refine (cPack32_5 p n cap w h0 hn (fun b s w' => RowEnd32 (stB 2147483648 4294967296 f n) w (.returned (.tuple #[b, s])) w') fun w1 B1 => ?_).mono ?_
    · refine (packStride32_any p n cap f w1 (h.below B1) hn hcap hf).mono ?_
      rintro e w' ⟨g, L, h1, h2, rfl, h4, h5⟩
      exact ⟨_, _, rfl, g, L, h1, Nat.le_trans B1.size h2, rfl, h4, B1.trans (h5.mono B1.size)⟩
    · rintro e w' ⟨b, s, rfl, hq⟩
      exact hq
  · refine (cPack32_6 p n cap w h0 hn (fun b s w' => RowEnd32 (F32.dm 32 f n) w (.returned (.tuple #[b, s])) w') fun w1 B1 => ?_).mono ?_
    · refine (packDecimal32_any p n cap f w1 (h.below B1) hn hcap hf).mono ?_
      rintro e w' ⟨g, L, h1, h2, rfl, h4, h5⟩
      exact ⟨_, _, rfl, g, L, h1, Nat.le_trans B1.size h2, rfl, h4, B1.trans (h5.mono B1.size)⟩
    · rintro e w' ⟨b, s, rfl, hq⟩
      exact hq

theorem strOf_injC32 {a b : List Nat} (ha : ∀ n ∈ a, n < 256) (hb : ∀ n ∈ b, n < 256) (h : (strOf a).toList = (strOf b).toList) : a = b := by
  have h1 : (strOf a).data.toList = (strOf b).data.toList := by
    unfold strOf at h ⊢
    rw [Lib.strOfNums_toList, Lib.strOfNums_toList] at h
    exact h
  rw [← bytesN_strOf a ha, ← bytesN_strOf b hb]
  unfold bytesN
  rw [h1]

theorem bytesEqual32_any (v1 v2 : Value) (a b : List Nat) (w : World) (h1 : IsBy w v1 a) (h2 : IsBy w v2 b) (ha : ∀ n ∈ a, n < 256) (hb : ∀ n ∈ b, n < 256) :
    Calls Tryz.prog 34 #[v1, v2] w fun e w' => e = .returned (.bool (decide (a = b))) ∧ w' = w := by
  have hc1 := convert_by w v1 a h1
  have hc2 := convert_by w v2 b h2
  by_cases e : a = b
  · subst e
    rw [decide_eq_true rfl]
    clear h1 h2
    go_enter Tryz.func34, Tryz.ntmps34
    go_wp2_with fail
    go_ret
    exact ⟨by simp, rfl⟩
  · rw [decide_eq_false e]
    have hne : Hid (((strOf a).toList == (strOf b).toList) = false) := by show _ = _; rw [beq_eq_false_iff_ne]; exact fun h => e (strOf_injC32 ha hb h)
    generalize strOf a = sa at *
    generalize strOf b = sb at *
    clear h1 h2 e
    go_enter Tryz.func34, Tryz.ntmps34
    go_wp2_with fail
    go_ret
    exact ⟨by rw [← hne.out]; rfl, rfl⟩

theorem aheadOf_congr32 (f g : Nat → Nat) (v i k : Nat) (h : ∀ j, i ≤ j → j < i + k → f j = g j) : aheadOf f v i k = aheadOf g v i k := by
  induction k generalizing i with
  | zero => rfl
  | succ k ih => rw [aheadOf, aheadOf, h i (Nat.le_refl _) (by omega), ih (i + 1) fun j h1 h2 => h j (by omega) (by omega)]

theorem rnB_congr32 (f g : Nat → Nat) (u i k : Nat) (h : ∀ j, i ≤ j → j < i + k → f j = g j) : rnB 32 f u i k = rnB 32 g u i k := by
  induction u generalizing i k with
  | zero => rfl
  | succ u ih =>
    match k with
    | 0 => rfl
    | k + 1 =>
      have hle := aheadOf_le g (g i) i (k + 1)
      rw [rnB, rnB, h i (Nat.le_refl _) (by omega), aheadOf_congr32 f g (g i) i (k + 1) h, ih _ _ fun j h1 h2 => h j (by omega) (by omega)]

/-- The bytes are those of n values h by the kind k. -/
def PackIs32 (k n : Nat) (h : Nat → Nat) (bs : List Nat) : Prop := (∀ i, i < n → h i < 4294967296) ∧ (n = 0 → bs = []) ∧ (0 < n → ∃ l, codeO32 k h n = some l ∧ packed l = bs)

theorem PackIs32.lay {k n : Nat} {h : Nat → Nat} {bs : List Nat} (H : PackIs32 k n h bs) : LayC32 (fun f => codeO32 k f n) bs n h := by
  refine ⟨H.1, H.2.1, fun h0 => ?_⟩
  obtain ⟨l, h1, h2⟩ := H.2.2 h0
  exact ⟨l, _, h1, by rw [← h2, rbits_packed]⟩

/-- What a taker tells, of a text that is a column's by a kind, or not. -/
def TakeK32 (k : Nat) (bs : List Nat) (n : Nat) (w : World) (e : Ending) (w' : World) : Prop :=
  (∃ c : Int, c ≠ 0 ∧ e = .returned (.tuple #[.slice none 0 0, .int .i64 c]) ∧ Below w.heap.size w w' ∧ ∀ h, PackIs32 k n h bs → False) ∨
  ∃ (v : Value) (f : Nat → Nat), e = .returned (.tuple #[v, .int .i64 0]) ∧ USt32 w.heap.size w f n v w' ∧ (∀ i, i < n → f i < 4294967296) ∧ ∀ h, PackIs32 k n h bs → ∀ i, i < n → f i = h i

theorem takeK_of32 {k : Nat} {bs : List Nat} {n : Nat} {w : World} {e : Ending} {w' : World} {bf : (Nat → Nat) → Option (List Bool)} (hb : (fun f => codeO32 k f n) = bf) (h : UnEnd32 bf bs n w e w') : TakeK32 k bs n w e w' := by
  subst hb
  rcases h with ⟨c, h1, h2, h3, h4⟩ | ⟨v, f, h1, h2, h3, h4⟩
  · exact .inl ⟨c, h1, h2, h3, fun h hP => h4 h hP.lay⟩
  · exact .inr ⟨v, f, h1, h2, h3, fun h hP => h4 h hP.lay⟩

theorem takeK_xor32 {bs : List Nat} {n : Nat} {w : World} {e : Ending} {w' : World} (hn : n ≤ 4096) (h : UnpackEnd32 w bs n e w') : TakeK32 2 bs n w e w' := by
  have key : ∀ h, PackIs32 2 n h bs → Packs32 bs h n := fun h hP => by
    refine ⟨hP.1, ?_⟩
    by_cases h0 : n = 0
    · rw [hP.2.1 h0, h0]; exact List.eq_nil_of_length_eq_zero (by rw [packed_length]; simp [cbn])
    · obtain ⟨l, h1, h2⟩ := hP.2.2 (by omega)
      simp only [codeO32, Option.some.injEq] at h1
      rw [h1]; exact h2
  rcases h with ⟨h1, h2, h3⟩ | ⟨g, f, h1, h2, h3, h4, h5, h6⟩
  · exact .inl ⟨71, by decide, h1, h2, fun h hP => h3 ⟨h, key h hP⟩⟩
  · exact .inr ⟨_, f, h1, ⟨h3.owns h2 hn, h4, Nat.le_refl _⟩, h5.1, fun h hP => h6 h (begins_of32 (key h hP))⟩

/-- What Unpack tells. -/
def CUnEnd32 (k : Nat) (bs : List Nat) (n : Nat) (w : World) (e : Ending) (w' : World) : Prop :=
  (e = .returned (.tuple #[.slice none 0 0, .int .i64 83]) ∧ Below w.heap.size w w' ∧ ∀ h, PackIs32 k n h bs → False) ∨
  ∃ (v : Value) (f : Nat → Nat), e = .returned (.tuple #[v, .int .i64 0]) ∧ USt32 w.heap.size w f n v w' ∧ PackIs32 k n f bs ∧ ∀ h, PackIs32 k n h bs → ∀ i, i < n → f i = h i

theorem codeO32_congr (k : Nat) (f g : Nat → Nat) (n : Nat) (h : ∀ i, i < n → f i = g i) : codeO32 k f n = codeO32 k g n := by
  unfold codeO32
  split
  · rw [plB_congr 32 f g n h]
  · rw [cbn_congr 32 5 f g n h]
  · rw [rnB_congr32 f g n 0 n fun j _ hj => h j (by omega)]
  · unfold dcO; rw [uq_congr f g n h, dcB_congr 32 f g n h]
  · rw [stB_congr 2147483648 4294967296 f g n h]
  · rw [F32.dm_congr 32 f g n h]
  · rfl

theorem PackIs32.congr {k n : Nat} {f g : Nat → Nat} {bs : List Nat} (H : PackIs32 k n f bs) (h : ∀ i, i < n → f i = g i) : PackIs32 k n g bs :=
  ⟨fun i hi => by rw [← h i hi]; exact H.1 i hi, H.2.1, fun h0 => by
    obtain ⟨l, h1, h2⟩ := H.2.2 h0
    exact ⟨l, by rw [← codeO32_congr k f g n h]; exact h1, h2⟩⟩

end Go.Proofs.YtgjjkopmoobilaaGreatDoor

namespace Go.Proofs.YtgjjkopmoobilaaGreatDoor
open Go.RowKit
open M
set_option linter.unusedVariables false
set_option linter.unusedSimpArgs false

/-- The answers of Pack of what a taker told. -/
def AgainEnd32 (k n : Nat) (f : Nat → Nat) (w : World) (e : Ending) (w' : World) : Prop :=
  (∃ (pu : Option Addr) (cu : Nat) (bs : List Nat), e = .returned (.tuple #[.slice pu bs.length cu, .int .i64 0]) ∧ IsBy w' (.slice pu bs.length cu) bs ∧ (∀ n ∈ bs, n < 256) ∧ Below w.heap.size w w' ∧ PackIs32 k n f bs ∧ ∀ bs', PackIs32 k n f bs' → bs' = bs) ∨
  (e = .returned (.tuple #[.slice none 0 0, .int .i64 82]) ∧ Below w.heap.size w w' ∧ ∀ bs, PackIs32 k n f bs → False)

theorem cAgain32 (k : Nat) (p : Option Addr) (n cap : Nat) (f : Nat → Nat) (w : World) (hk1 : 1 ≤ k) (hk6 : k ≤ 6) (h : URow32 w p n f) (hn : n ≤ 4096) (hcap : n ≤ cap) (hf : ∀ i, i < n → f i < 4294967296) (hT : Tab64 w) :
    Calls Tryz.prog 17 #[.int .i64 k, .slice p n cap] w (AgainEnd32 k n f w) := by
  by_cases h0 : n = 0
  · subst h0
    refine (cPack32_empty k p cap w hk1 hk6).mono ?_
    rintro e w' ⟨rfl, hB⟩
    exact .inl ⟨none, 0, [], rfl, .inl (.inl ⟨rfl, rfl⟩), by simp, hB, ⟨hf, fun _ => rfl, fun h => by omega⟩, fun bs' hP => hP.2.1 rfl⟩
  · refine (cPack32_some k p n cap f w hk1 hk6 h (by omega) hn hcap hf hT).mono ?_
    intro e w' hE
    cases ho : codeO32 k f n with
    | none =>
      rw [ho] at hE
      obtain ⟨rfl, hB⟩ := hE
      refine .inr ⟨rfl, hB, fun bs hP => ?_⟩
      obtain ⟨l, h1, _⟩ := hP.2.2 (by omega)
      rw [ho] at h1; cases h1
    | some l =>
      rw [ho] at hE
      obtain ⟨g, L, h1, h2, rfl, h4, h5⟩ := hE
      subst h1
      refine .inl ⟨_, _, packed l, rfl, .inl (isBytes_row h4), packed_lt l, h5, ⟨hf, fun h => absurd h h0, fun _ => ⟨l, ho, rfl⟩⟩, fun bs' hP => ?_⟩
      obtain ⟨l', h1, h2⟩ := hP.2.2 (by omega)
      rw [ho] at h1
      cases h1
      exact h2.symm

set_option maxRecDepth 100000 in
theorem cUnpack32_1 (v : Value) (bs : List Nat) (n : Nat) (w : World) (hv : IsBy w v bs) (hb : ∀ n ∈ bs, n < 256) (hl : bs.length ≤ 1000000000000) (hn : n ≤ 4096) (hT : Tab64 w)
    (hcall : ∀ w1, Below w.heap.size w w1 → Calls Tryz.prog 45 #[v, .int .i64 n] w1 (TakeK32 1 bs n w1)) :
    Calls Tryz.prog 14 #[.int .i64 1, v, .int .i64 n] w (CUnEnd32 1 bs n w) := by
  have hf : Instr.findNow (.int .i64) (.int .i64 1) unpackersE32.toList 0 = some (some (0, .func (.func 45) #[] #[])) := by kernel_rfl
  have HV := hide hv
  have HBB := hide hb
  have HT := hide hT
  have HC := hide hcall
  have HAG := hide (fun p cap f w1 h1 h2 h3 h4 => cAgain32 1 p n cap f w1 (by omega) (by omega) h1 hn h2 h3 h4)
  clear hv hb hT hcall hl
  go_enter Tryz.func14, Tryz.ntmps14
  go_wp2_with fail
  refine (unpackers32_any w).mono ?_
  rintro e w1 ⟨rfl, b1, B1⟩
  have hlk := run_get (P := Tryz.prog) (w := w1) _ _ _ _ _ _ 1 _ _ Tryz.underlying80 Tryz.underlying3 b1 hf
  have HB1 := hide B1
  clear B1 b1 hf
  go_wp2_with fail
  refine (HC.out w1 HB1.out).mono ?_
  intro e w2 hE
  rcases hE with ⟨c, hc, rfl, B2, hno⟩ | ⟨u, f, rfl, hU, hr, hfull⟩
  · have hcn : (c != 0) = true := by rw [bne_iff_ne]; exact hc
    have HFIN : Hid (CUnEnd32 1 bs n w (.returned (.tuple #[.slice none 0 0, .int .i64 83])) w2) := .inl ⟨rfl, HB1.out.trans (B2.mono HB1.out.size), hno⟩
    clear hc B2 hno
    go_wp2_with fail
    go_ret2
    exact HFIN.out
  · obtain ⟨p, cap, rfl, hcap, hrow⟩ := hU.row
    have HU := hide hU
    have HRR := hide (And.intro hr hfull)
    have hB2 := hU.2.1
    have HB2 : Hid (Below w.heap.size w w2) := HB1.out.trans (hB2.mono HB1.out.size)
    have HAGN := hide (HAG.out p cap f w2 hrow hcap hr (HT.out.below HB2.out))
    clear hU hr hfull hrow hB2
    go_wp2_with fail
    refine HAGN.out.mono ?_
    intro e w3 hE
    rcases hE with ⟨px, cx, bx, rfl, hx, hbx, B3, hP, huq⟩ | ⟨rfl, B3, hno⟩
    · have HB3 : Hid (Below w.heap.size w w3) := HB2.out.trans (B3.mono HB2.out.size)
      have HEQ := hide (bytesEqual32_any (.slice px bx.length cx) v bx bs w3 hx (isBy_below HV.out HB3.out) hbx HBB.out)
      by_cases e : bx = bs
      · have HFIN : Hid (CUnEnd32 1 bs n w (.returned (.tuple #[.slice p n cap, .int .i64 0])) w3) := by
          refine .inr ⟨_, f, rfl, ?_, by rw [← e]; exact hP, HRR.out.2⟩
          have h1 := HU.out.1
          have h2 := HB1.out.size
          refine ⟨(ownsRow_keepC32 h1 fun g hg1 hg2 => B3.block g hg2).mono h2, HB3.out, Nat.le_refl _⟩
        rw [decide_eq_true e] at HEQ
        clear hx hbx B3 hP huq e
        go_wp2_with fail
        refine HEQ.out.mono ?_
        rintro e w4 ⟨rfl, h4⟩
        have h4 := h4.symm
        subst h4
        go_wp2_with fail
        go_ret2
        exact HFIN.out
      · have HFIN : Hid (CUnEnd32 1 bs n w (.returned (.tuple #[.slice none 0 0, .int .i64 83])) w3) := by
          refine .inl ⟨rfl, HB3.out, fun h hPh => e ?_⟩
          exact (huq bs (hPh.congr fun i hi => (HRR.out.2 h hPh i hi).symm)).symm
        rw [decide_eq_false e] at HEQ
        clear hx hbx B3 hP huq e
        go_wp2_with fail
        refine HEQ.out.mono ?_
        rintro e w4 ⟨rfl, h4⟩
        have h4 := h4.symm
        subst h4
        go_wp2_with fail
        go_ret2
        exact HFIN.out
    · have HFIN : Hid (CUnEnd32 1 bs n w (.returned (.tuple #[.slice none 0 0, .int .i64 83])) w3) := by
        refine .inl ⟨rfl, HB2.out.trans (B3.mono HB2.out.size), fun h hPh => ?_⟩
        exact hno bs (hPh.congr fun i hi => (HRR.out.2 h hPh i hi).symm)
      clear B3 hno
      go_wp2_with fail
      go_ret2
      exact HFIN.out

set_option maxRecDepth 100000 in
theorem cUnpack32_2 (v : Value) (bs : List Nat) (n : Nat) (w : World) (hv : IsBy w v bs) (hb : ∀ n ∈ bs, n < 256) (hl : bs.length ≤ 1000000000000) (hn : n ≤ 4096) (hT : Tab64 w)
    (hcall : ∀ w1, Below w.heap.size w w1 → Calls Tryz.prog 46 #[v, .int .i64 n] w1 (TakeK32 2 bs n w1)) :
    Calls Tryz.prog 14 #[.int .i64 2, v, .int .i64 n] w (CUnEnd32 2 bs n w) := by
  have hf : Instr.findNow (.int .i64) (.int .i64 2) unpackersE32.toList 0 = some (some (1, .func (.func 46) #[] #[])) := by kernel_rfl
  have HV := hide hv
  have HBB := hide hb
  have HT := hide hT
  have HC := hide hcall
  have HAG := hide (fun p cap f w1 h1 h2 h3 h4 => cAgain32 2 p n cap f w1 (by omega) (by omega) h1 hn h2 h3 h4)
  clear hv hb hT hcall hl
  go_enter Tryz.func14, Tryz.ntmps14
  go_wp2_with fail
  refine (unpackers32_any w).mono ?_
  rintro e w1 ⟨rfl, b1, B1⟩
  have hlk := run_get (P := Tryz.prog) (w := w1) _ _ _ _ _ _ 2 _ _ Tryz.underlying80 Tryz.underlying3 b1 hf
  have HB1 := hide B1
  clear B1 b1 hf
  go_wp2_with fail
  refine (HC.out w1 HB1.out).mono ?_
  intro e w2 hE
  rcases hE with ⟨c, hc, rfl, B2, hno⟩ | ⟨u, f, rfl, hU, hr, hfull⟩
  · have hcn : (c != 0) = true := by rw [bne_iff_ne]; exact hc
    have HFIN : Hid (CUnEnd32 2 bs n w (.returned (.tuple #[.slice none 0 0, .int .i64 83])) w2) := .inl ⟨rfl, HB1.out.trans (B2.mono HB1.out.size), hno⟩
    clear hc B2 hno
    go_wp2_with fail
    go_ret2
    exact HFIN.out
  · obtain ⟨p, cap, rfl, hcap, hrow⟩ := hU.row
    have HU := hide hU
    have HRR := hide (And.intro hr hfull)
    have hB2 := hU.2.1
    have HB2 : Hid (Below w.heap.size w w2) := HB1.out.trans (hB2.mono HB1.out.size)
    have HAGN := hide (HAG.out p cap f w2 hrow hcap hr (HT.out.below HB2.out))
    clear hU hr hfull hrow hB2
    go_wp2_with fail
    refine HAGN.out.mono ?_
    intro e w3 hE
    rcases hE with ⟨px, cx, bx, rfl, hx, hbx, B3, hP, huq⟩ | ⟨rfl, B3, hno⟩
    · have HB3 : Hid (Below w.heap.size w w3) := HB2.out.trans (B3.mono HB2.out.size)
      have HEQ := hide (bytesEqual32_any (.slice px bx.length cx) v bx bs w3 hx (isBy_below HV.out HB3.out) hbx HBB.out)
      by_cases e : bx = bs
      · have HFIN : Hid (CUnEnd32 2 bs n w (.returned (.tuple #[.slice p n cap, .int .i64 0])) w3) := by
          refine .inr ⟨_, f, rfl, ?_, by rw [← e]; exact hP, HRR.out.2⟩
          have h1 := HU.out.1
          have h2 := HB1.out.size
          refine ⟨(ownsRow_keepC32 h1 fun g hg1 hg2 => B3.block g hg2).mono h2, HB3.out, Nat.le_refl _⟩
        rw [decide_eq_true e] at HEQ
        clear hx hbx B3 hP huq e
        go_wp2_with fail
        refine HEQ.out.mono ?_
        rintro e w4 ⟨rfl, h4⟩
        have h4 := h4.symm
        subst h4
        go_wp2_with fail
        go_ret2
        exact HFIN.out
      · have HFIN : Hid (CUnEnd32 2 bs n w (.returned (.tuple #[.slice none 0 0, .int .i64 83])) w3) := by
          refine .inl ⟨rfl, HB3.out, fun h hPh => e ?_⟩
          exact (huq bs (hPh.congr fun i hi => (HRR.out.2 h hPh i hi).symm)).symm
        rw [decide_eq_false e] at HEQ
        clear hx hbx B3 hP huq e
        go_wp2_with fail
        refine HEQ.out.mono ?_
        rintro e w4 ⟨rfl, h4⟩
        have h4 := h4.symm
        subst h4
        go_wp2_with fail
        go_ret2
        exact HFIN.out
    · have HFIN : Hid (CUnEnd32 2 bs n w (.returned (.tuple #[.slice none 0 0, .int .i64 83])) w3) := by
        refine .inl ⟨rfl, HB2.out.trans (B3.mono HB2.out.size), fun h hPh => ?_⟩
        exact hno bs (hPh.congr fun i hi => (HRR.out.2 h hPh i hi).symm)
      clear B3 hno
      go_wp2_with fail
      go_ret2
      exact HFIN.out

set_option maxRecDepth 100000 in
theorem cUnpack32_3 (v : Value) (bs : List Nat) (n : Nat) (w : World) (hv : IsBy w v bs) (hb : ∀ n ∈ bs, n < 256) (hl : bs.length ≤ 1000000000000) (hn : n ≤ 4096) (hT : Tab64 w)
    (hcall : ∀ w1, Below w.heap.size w w1 → Calls Tryz.prog 47 #[v, .int .i64 n] w1 (TakeK32 3 bs n w1)) :
    Calls Tryz.prog 14 #[.int .i64 3, v, .int .i64 n] w (CUnEnd32 3 bs n w) := by
  have hf : Instr.findNow (.int .i64) (.int .i64 3) unpackersE32.toList 0 = some (some (2, .func (.func 47) #[] #[])) := by kernel_rfl
  have HV := hide hv
  have HBB := hide hb
  have HT := hide hT
  have HC := hide hcall
  have HAG := hide (fun p cap f w1 h1 h2 h3 h4 => cAgain32 3 p n cap f w1 (by omega) (by omega) h1 hn h2 h3 h4)
  clear hv hb hT hcall hl
  go_enter Tryz.func14, Tryz.ntmps14
  go_wp2_with fail
  refine (unpackers32_any w).mono ?_
  rintro e w1 ⟨rfl, b1, B1⟩
  have hlk := run_get (P := Tryz.prog) (w := w1) _ _ _ _ _ _ 3 _ _ Tryz.underlying80 Tryz.underlying3 b1 hf
  have HB1 := hide B1
  clear B1 b1 hf
  go_wp2_with fail
  refine (HC.out w1 HB1.out).mono ?_
  intro e w2 hE
  rcases hE with ⟨c, hc, rfl, B2, hno⟩ | ⟨u, f, rfl, hU, hr, hfull⟩
  · have hcn : (c != 0) = true := by rw [bne_iff_ne]; exact hc
    have HFIN : Hid (CUnEnd32 3 bs n w (.returned (.tuple #[.slice none 0 0, .int .i64 83])) w2) := .inl ⟨rfl, HB1.out.trans (B2.mono HB1.out.size), hno⟩
    clear hc B2 hno
    go_wp2_with fail
    go_ret2
    exact HFIN.out
  · obtain ⟨p, cap, rfl, hcap, hrow⟩ := hU.row
    have HU := hide hU
    have HRR := hide (And.intro hr hfull)
    have hB2 := hU.2.1
    have HB2 : Hid (Below w.heap.size w w2) := HB1.out.trans (hB2.mono HB1.out.size)
    have HAGN := hide (HAG.out p cap f w2 hrow hcap hr (HT.out.below HB2.out))
    clear hU hr hfull hrow hB2
    go_wp2_with fail
    refine HAGN.out.mono ?_
    intro e w3 hE
    rcases hE with ⟨px, cx, bx, rfl, hx, hbx, B3, hP, huq⟩ | ⟨rfl, B3, hno⟩
    · have HB3 : Hid (Below w.heap.size w w3) := HB2.out.trans (B3.mono HB2.out.size)
      have HEQ := hide (bytesEqual32_any (.slice px bx.length cx) v bx bs w3 hx (isBy_below HV.out HB3.out) hbx HBB.out)
      by_cases e : bx = bs
      · have HFIN : Hid (CUnEnd32 3 bs n w (.returned (.tuple #[.slice p n cap, .int .i64 0])) w3) := by
          refine .inr ⟨_, f, rfl, ?_, by rw [← e]; exact hP, HRR.out.2⟩
          have h1 := HU.out.1
          have h2 := HB1.out.size
          refine ⟨(ownsRow_keepC32 h1 fun g hg1 hg2 => B3.block g hg2).mono h2, HB3.out, Nat.le_refl _⟩
        rw [decide_eq_true e] at HEQ
        clear hx hbx B3 hP huq e
        go_wp2_with fail
        refine HEQ.out.mono ?_
        rintro e w4 ⟨rfl, h4⟩
        have h4 := h4.symm
        subst h4
        go_wp2_with fail
        go_ret2
        exact HFIN.out
      · have HFIN : Hid (CUnEnd32 3 bs n w (.returned (.tuple #[.slice none 0 0, .int .i64 83])) w3) := by
          refine .inl ⟨rfl, HB3.out, fun h hPh => e ?_⟩
          exact (huq bs (hPh.congr fun i hi => (HRR.out.2 h hPh i hi).symm)).symm
        rw [decide_eq_false e] at HEQ
        clear hx hbx B3 hP huq e
        go_wp2_with fail
        refine HEQ.out.mono ?_
        rintro e w4 ⟨rfl, h4⟩
        have h4 := h4.symm
        subst h4
        go_wp2_with fail
        go_ret2
        exact HFIN.out
    · have HFIN : Hid (CUnEnd32 3 bs n w (.returned (.tuple #[.slice none 0 0, .int .i64 83])) w3) := by
        refine .inl ⟨rfl, HB2.out.trans (B3.mono HB2.out.size), fun h hPh => ?_⟩
        exact hno bs (hPh.congr fun i hi => (HRR.out.2 h hPh i hi).symm)
      clear B3 hno
      go_wp2_with fail
      go_ret2
      exact HFIN.out

set_option maxRecDepth 100000 in
theorem cUnpack32_4 (v : Value) (bs : List Nat) (n : Nat) (w : World) (hv : IsBy w v bs) (hb : ∀ n ∈ bs, n < 256) (hl : bs.length ≤ 1000000000000) (hn : n ≤ 4096) (hT : Tab64 w)
    (hcall : ∀ w1, Below w.heap.size w w1 → Calls Tryz.prog 48 #[v, .int .i64 n] w1 (TakeK32 4 bs n w1)) :
    Calls Tryz.prog 14 #[.int .i64 4, v, .int .i64 n] w (CUnEnd32 4 bs n w) := by
  have hf : Instr.findNow (.int .i64) (.int .i64 4) unpackersE32.toList 0 = some (some (3, .func (.func 48) #[] #[])) := by kernel_rfl
  have HV := hide hv
  have HBB := hide hb
  have HT := hide hT
  have HC := hide hcall
  have HAG := hide (fun p cap f w1 h1 h2 h3 h4 => cAgain32 4 p n cap f w1 (by omega) (by omega) h1 hn h2 h3 h4)
  clear hv hb hT hcall hl
  go_enter Tryz.func14, Tryz.ntmps14
  go_wp2_with fail
  refine (unpackers32_any w).mono ?_
  rintro e w1 ⟨rfl, b1, B1⟩
  have hlk := run_get (P := Tryz.prog) (w := w1) _ _ _ _ _ _ 4 _ _ Tryz.underlying80 Tryz.underlying3 b1 hf
  have HB1 := hide B1
  clear B1 b1 hf
  go_wp2_with fail
  refine (HC.out w1 HB1.out).mono ?_
  intro e w2 hE
  rcases hE with ⟨c, hc, rfl, B2, hno⟩ | ⟨u, f, rfl, hU, hr, hfull⟩
  · have hcn : (c != 0) = true := by rw [bne_iff_ne]; exact hc
    have HFIN : Hid (CUnEnd32 4 bs n w (.returned (.tuple #[.slice none 0 0, .int .i64 83])) w2) := .inl ⟨rfl, HB1.out.trans (B2.mono HB1.out.size), hno⟩
    clear hc B2 hno
    go_wp2_with fail
    go_ret2
    exact HFIN.out
  · obtain ⟨p, cap, rfl, hcap, hrow⟩ := hU.row
    have HU := hide hU
    have HRR := hide (And.intro hr hfull)
    have hB2 := hU.2.1
    have HB2 : Hid (Below w.heap.size w w2) := HB1.out.trans (hB2.mono HB1.out.size)
    have HAGN := hide (HAG.out p cap f w2 hrow hcap hr (HT.out.below HB2.out))
    clear hU hr hfull hrow hB2
    go_wp2_with fail
    refine HAGN.out.mono ?_
    intro e w3 hE
    rcases hE with ⟨px, cx, bx, rfl, hx, hbx, B3, hP, huq⟩ | ⟨rfl, B3, hno⟩
    · have HB3 : Hid (Below w.heap.size w w3) := HB2.out.trans (B3.mono HB2.out.size)
      have HEQ := hide (bytesEqual32_any (.slice px bx.length cx) v bx bs w3 hx (isBy_below HV.out HB3.out) hbx HBB.out)
      by_cases e : bx = bs
      · have HFIN : Hid (CUnEnd32 4 bs n w (.returned (.tuple #[.slice p n cap, .int .i64 0])) w3) := by
          refine .inr ⟨_, f, rfl, ?_, by rw [← e]; exact hP, HRR.out.2⟩
          have h1 := HU.out.1
          have h2 := HB1.out.size
          refine ⟨(ownsRow_keepC32 h1 fun g hg1 hg2 => B3.block g hg2).mono h2, HB3.out, Nat.le_refl _⟩
        rw [decide_eq_true e] at HEQ
        clear hx hbx B3 hP huq e
        go_wp2_with fail
        refine HEQ.out.mono ?_
        rintro e w4 ⟨rfl, h4⟩
        have h4 := h4.symm
        subst h4
        go_wp2_with fail
        go_ret2
        exact HFIN.out
      · have HFIN : Hid (CUnEnd32 4 bs n w (.returned (.tuple #[.slice none 0 0, .int .i64 83])) w3) := by
          refine .inl ⟨rfl, HB3.out, fun h hPh => e ?_⟩
          exact (huq bs (hPh.congr fun i hi => (HRR.out.2 h hPh i hi).symm)).symm
        rw [decide_eq_false e] at HEQ
        clear hx hbx B3 hP huq e
        go_wp2_with fail
        refine HEQ.out.mono ?_
        rintro e w4 ⟨rfl, h4⟩
        have h4 := h4.symm
        subst h4
        go_wp2_with fail
        go_ret2
        exact HFIN.out
    · have HFIN : Hid (CUnEnd32 4 bs n w (.returned (.tuple #[.slice none 0 0, .int .i64 83])) w3) := by
        refine .inl ⟨rfl, HB2.out.trans (B3.mono HB2.out.size), fun h hPh => ?_⟩
        exact hno bs (hPh.congr fun i hi => (HRR.out.2 h hPh i hi).symm)
      clear B3 hno
      go_wp2_with fail
      go_ret2
      exact HFIN.out

set_option maxRecDepth 100000 in
theorem cUnpack32_5 (v : Value) (bs : List Nat) (n : Nat) (w : World) (hv : IsBy w v bs) (hb : ∀ n ∈ bs, n < 256) (hl : bs.length ≤ 1000000000000) (hn : n ≤ 4096) (hT : Tab64 w)
    (hcall : ∀ w1, Below w.heap.size w w1 → Calls Tryz.prog 49 #[v, .int .i64 n] w1 (TakeK32 5 bs n w1)) :
    Calls Tryz.prog 14 #[.int .i64 5, v, .int .i64 n] w (CUnEnd32 5 bs n w) := by
  have hf : Instr.findNow (.int .i64) (.int .i64 5) unpackersE32.toList 0 = some (some (4, .func (.func 49) #[] #[])) := by kernel_rfl
  have HV := hide hv
  have HBB := hide hb
  have HT := hide hT
  have HC := hide hcall
  have HAG := hide (fun p cap f w1 h1 h2 h3 h4 => cAgain32 5 p n cap f w1 (by omega) (by omega) h1 hn h2 h3 h4)
  clear hv hb hT hcall hl
  go_enter Tryz.func14, Tryz.ntmps14
  go_wp2_with fail
  refine (unpackers32_any w).mono ?_
  rintro e w1 ⟨rfl, b1, B1⟩
  have hlk := run_get (P := Tryz.prog) (w := w1) _ _ _ _ _ _ 5 _ _ Tryz.underlying80 Tryz.underlying3 b1 hf
  have HB1 := hide B1
  clear B1 b1 hf
  go_wp2_with fail
  refine (HC.out w1 HB1.out).mono ?_
  intro e w2 hE
  rcases hE with ⟨c, hc, rfl, B2, hno⟩ | ⟨u, f, rfl, hU, hr, hfull⟩
  · have hcn : (c != 0) = true := by rw [bne_iff_ne]; exact hc
    have HFIN : Hid (CUnEnd32 5 bs n w (.returned (.tuple #[.slice none 0 0, .int .i64 83])) w2) := .inl ⟨rfl, HB1.out.trans (B2.mono HB1.out.size), hno⟩
    clear hc B2 hno
    go_wp2_with fail
    go_ret2
    exact HFIN.out
  · obtain ⟨p, cap, rfl, hcap, hrow⟩ := hU.row
    have HU := hide hU
    have HRR := hide (And.intro hr hfull)
    have hB2 := hU.2.1
    have HB2 : Hid (Below w.heap.size w w2) := HB1.out.trans (hB2.mono HB1.out.size)
    have HAGN := hide (HAG.out p cap f w2 hrow hcap hr (HT.out.below HB2.out))
    clear hU hr hfull hrow hB2
    go_wp2_with fail
    refine HAGN.out.mono ?_
    intro e w3 hE
    rcases hE with ⟨px, cx, bx, rfl, hx, hbx, B3, hP, huq⟩ | ⟨rfl, B3, hno⟩
    · have HB3 : Hid (Below w.heap.size w w3) := HB2.out.trans (B3.mono HB2.out.size)
      have HEQ := hide (bytesEqual32_any (.slice px bx.length cx) v bx bs w3 hx (isBy_below HV.out HB3.out) hbx HBB.out)
      by_cases e : bx = bs
      · have HFIN : Hid (CUnEnd32 5 bs n w (.returned (.tuple #[.slice p n cap, .int .i64 0])) w3) := by
          refine .inr ⟨_, f, rfl, ?_, by rw [← e]; exact hP, HRR.out.2⟩
          have h1 := HU.out.1
          have h2 := HB1.out.size
          refine ⟨(ownsRow_keepC32 h1 fun g hg1 hg2 => B3.block g hg2).mono h2, HB3.out, Nat.le_refl _⟩
        rw [decide_eq_true e] at HEQ
        clear hx hbx B3 hP huq e
        go_wp2_with fail
        refine HEQ.out.mono ?_
        rintro e w4 ⟨rfl, h4⟩
        have h4 := h4.symm
        subst h4
        go_wp2_with fail
        go_ret2
        exact HFIN.out
      · have HFIN : Hid (CUnEnd32 5 bs n w (.returned (.tuple #[.slice none 0 0, .int .i64 83])) w3) := by
          refine .inl ⟨rfl, HB3.out, fun h hPh => e ?_⟩
          exact (huq bs (hPh.congr fun i hi => (HRR.out.2 h hPh i hi).symm)).symm
        rw [decide_eq_false e] at HEQ
        clear hx hbx B3 hP huq e
        go_wp2_with fail
        refine HEQ.out.mono ?_
        rintro e w4 ⟨rfl, h4⟩
        have h4 := h4.symm
        subst h4
        go_wp2_with fail
        go_ret2
        exact HFIN.out
    · have HFIN : Hid (CUnEnd32 5 bs n w (.returned (.tuple #[.slice none 0 0, .int .i64 83])) w3) := by
        refine .inl ⟨rfl, HB2.out.trans (B3.mono HB2.out.size), fun h hPh => ?_⟩
        exact hno bs (hPh.congr fun i hi => (HRR.out.2 h hPh i hi).symm)
      clear B3 hno
      go_wp2_with fail
      go_ret2
      exact HFIN.out

set_option maxRecDepth 100000 in
theorem cUnpack32_6 (v : Value) (bs : List Nat) (n : Nat) (w : World) (hv : IsBy w v bs) (hb : ∀ n ∈ bs, n < 256) (hl : bs.length ≤ 1000000000000) (hn : n ≤ 4096) (hT : Tab64 w)
    (hcall : ∀ w1, Below w.heap.size w w1 → Calls Tryz.prog 50 #[v, .int .i64 n] w1 (TakeK32 6 bs n w1)) :
    Calls Tryz.prog 14 #[.int .i64 6, v, .int .i64 n] w (CUnEnd32 6 bs n w) := by
  have hf : Instr.findNow (.int .i64) (.int .i64 6) unpackersE32.toList 0 = some (some (5, .func (.func 50) #[] #[])) := by kernel_rfl
  have HV := hide hv
  have HBB := hide hb
  have HT := hide hT
  have HC := hide hcall
  have HAG := hide (fun p cap f w1 h1 h2 h3 h4 => cAgain32 6 p n cap f w1 (by omega) (by omega) h1 hn h2 h3 h4)
  clear hv hb hT hcall hl
  go_enter Tryz.func14, Tryz.ntmps14
  go_wp2_with fail
  refine (unpackers32_any w).mono ?_
  rintro e w1 ⟨rfl, b1, B1⟩
  have hlk := run_get (P := Tryz.prog) (w := w1) _ _ _ _ _ _ 6 _ _ Tryz.underlying80 Tryz.underlying3 b1 hf
  have HB1 := hide B1
  clear B1 b1 hf
  go_wp2_with fail
  refine (HC.out w1 HB1.out).mono ?_
  intro e w2 hE
  rcases hE with ⟨c, hc, rfl, B2, hno⟩ | ⟨u, f, rfl, hU, hr, hfull⟩
  · have hcn : (c != 0) = true := by rw [bne_iff_ne]; exact hc
    have HFIN : Hid (CUnEnd32 6 bs n w (.returned (.tuple #[.slice none 0 0, .int .i64 83])) w2) := .inl ⟨rfl, HB1.out.trans (B2.mono HB1.out.size), hno⟩
    clear hc B2 hno
    go_wp2_with fail
    go_ret2
    exact HFIN.out
  · obtain ⟨p, cap, rfl, hcap, hrow⟩ := hU.row
    have HU := hide hU
    have HRR := hide (And.intro hr hfull)
    have hB2 := hU.2.1
    have HB2 : Hid (Below w.heap.size w w2) := HB1.out.trans (hB2.mono HB1.out.size)
    have HAGN := hide (HAG.out p cap f w2 hrow hcap hr (HT.out.below HB2.out))
    clear hU hr hfull hrow hB2
    go_wp2_with fail
    refine HAGN.out.mono ?_
    intro e w3 hE
    rcases hE with ⟨px, cx, bx, rfl, hx, hbx, B3, hP, huq⟩ | ⟨rfl, B3, hno⟩
    · have HB3 : Hid (Below w.heap.size w w3) := HB2.out.trans (B3.mono HB2.out.size)
      have HEQ := hide (bytesEqual32_any (.slice px bx.length cx) v bx bs w3 hx (isBy_below HV.out HB3.out) hbx HBB.out)
      by_cases e : bx = bs
      · have HFIN : Hid (CUnEnd32 6 bs n w (.returned (.tuple #[.slice p n cap, .int .i64 0])) w3) := by
          refine .inr ⟨_, f, rfl, ?_, by rw [← e]; exact hP, HRR.out.2⟩
          have h1 := HU.out.1
          have h2 := HB1.out.size
          refine ⟨(ownsRow_keepC32 h1 fun g hg1 hg2 => B3.block g hg2).mono h2, HB3.out, Nat.le_refl _⟩
        rw [decide_eq_true e] at HEQ
        clear hx hbx B3 hP huq e
        go_wp2_with fail
        refine HEQ.out.mono ?_
        rintro e w4 ⟨rfl, h4⟩
        have h4 := h4.symm
        subst h4
        go_wp2_with fail
        go_ret2
        exact HFIN.out
      · have HFIN : Hid (CUnEnd32 6 bs n w (.returned (.tuple #[.slice none 0 0, .int .i64 83])) w3) := by
          refine .inl ⟨rfl, HB3.out, fun h hPh => e ?_⟩
          exact (huq bs (hPh.congr fun i hi => (HRR.out.2 h hPh i hi).symm)).symm
        rw [decide_eq_false e] at HEQ
        clear hx hbx B3 hP huq e
        go_wp2_with fail
        refine HEQ.out.mono ?_
        rintro e w4 ⟨rfl, h4⟩
        have h4 := h4.symm
        subst h4
        go_wp2_with fail
        go_ret2
        exact HFIN.out
    · have HFIN : Hid (CUnEnd32 6 bs n w (.returned (.tuple #[.slice none 0 0, .int .i64 83])) w3) := by
        refine .inl ⟨rfl, HB2.out.trans (B3.mono HB2.out.size), fun h hPh => ?_⟩
        exact hno bs (hPh.congr fun i hi => (HRR.out.2 h hPh i hi).symm)
      clear B3 hno
      go_wp2_with fail
      go_ret2
      exact HFIN.out

theorem cUnpack32_any (k : Nat) (v : Value) (bs : List Nat) (n : Nat) (w : World) (hk1 : 1 ≤ k) (hk6 : k ≤ 6) (hv : IsBy w v bs) (hb : ∀ n ∈ bs, n < 256) (hl : bs.length ≤ 1000000000000) (hn : n ≤ 4096) (hT : Tab64 w) :
    Calls Tryz.prog 14 #[.int .i64 k, v, .int .i64 n] w (CUnEnd32 k bs n w) := by
  obtain rfl | rfl | rfl | rfl | rfl | rfl : k = 1 ∨ k = 2 ∨ k = 3 ∨ k = 4 ∨ k = 5 ∨ k = 6 := by omega
  · exact cUnpack32_1 v bs n w hv hb hl hn hT fun w1 B1 => (unpackPlain32_any v bs n w1 (isBy_below hv B1) hb hl hn).mono fun e w' hE => takeK_of32 rfl (unEnd_of_vals32 (fun h => rfl) hn hE)
  · exact cUnpack32_2 v bs n w hv hb hl hn hT fun w1 B1 => (unpack32_any v bs n w1 (isBy_below hv B1) hb hl hn (hT.below B1)).mono fun e w' hE => takeK_xor32 hn hE
  · exact cUnpack32_3 v bs n w hv hb hl hn hT fun w1 B1 => (unpackRuns32_any v bs n w1 (isBy_below hv B1) hb hl hn).mono fun e w' hE => takeK_of32 rfl hE
  · exact cUnpack32_4 v bs n w hv hb hl hn hT fun w1 B1 => (unpackDict32_any v bs n w1 (isBy_below hv B1) hb hl hn).mono fun e w' hE => takeK_of32 rfl hE
  · exact cUnpack32_5 v bs n w hv hb hl hn hT fun w1 B1 => (unpackStride32_any v bs n w1 (isBy_below hv B1) hb hl hn).mono fun e w' hE => takeK_of32 rfl (unEnd_of_vals32 (fun h => rfl) hn hE)
  · exact cUnpack32_6 v bs n w hv hb hl hn hT fun w1 B1 => (unpackDecimal32_any v bs n w1 (isBy_below hv B1) hb hl hn).mono fun e w' hE => takeK_of32 rfl hE

end Go.Proofs.YtgjjkopmoobilaaGreatDoor

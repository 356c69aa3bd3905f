/- What comes in: columns, bytes, numbers, and that a machine can hold them. -/
import Derived.Test.YtgjjkopmoobilaaGreatDoorC1Q32
import Derived.Test.YtgjjkopmoobilaaGreatDoorP1J32
import Derived.Test.YtgjjkopmoobilaaGreatDoorP1H32
import Derived.Test.YtgjjkopmoobilaaGreatDoorC2H32
import Derived.Test.YtgjjkopmoobilaaGreatDoorP1C32
import Derived.ProofKit
import Derived.OpenShut
import Derived.Deep.Slices
import Derived.Lib.SmallJoins
import Derived.Deep.MidRow
import Derived.SizedLaws
/- The contract of code.Pack (32 bits), of each kind by its packer's. -/
namespace Go.Proofs.YtgjjkopmoobilaaGreatDoor
open Go.RowKit
set_option linter.unusedVariables false
set_option linter.unusedSimpArgs false

set_option maxRecDepth 100000 in
theorem cPack32_none (k : Int) (v : Value) (w : World) (h : k < 1 ∨ 6 < k) :
    Calls Tryz.prog 17 #[.int .i64 k, v] w fun e w' => e = .returned (.tuple #[.slice none 0 0, .int .i64 80]) ∧ Below w.heap.size w w' := by
  have hz : ∀ w1 : World, (zeroValue 86).run Tryz.prog w1 = .ok .nilFunc w1 := fun w1 => by kernel_rfl
  have hf : Instr.findNow (.int .i64) (.int .i64 k) packersE32.toList 0 = some none := by
    have e1 : (k == 1) = false := by rw [beq_eq_false_iff_ne]; omega
    have e2 : (k == 2) = false := by rw [beq_eq_false_iff_ne]; omega
    have e3 : (k == 3) = false := by rw [beq_eq_false_iff_ne]; omega
    have e4 : (k == 4) = false := by rw [beq_eq_false_iff_ne]; omega
    have e5 : (k == 5) = false := by rw [beq_eq_false_iff_ne]; omega
    have e6 : (k == 6) = false := by rw [beq_eq_false_iff_ne]; omega
    simp [packersE32, Instr.findNow, Instr.sameNow, e1, e2, e3, e4, e5, e6]
  go_enter Tryz.func17, Tryz.ntmps17
  go_wp2_with fail
  refine (packers32_any w).mono ?_
  rintro e w1 ⟨rfl, b1, B1⟩
  have hl := run_none (P := Tryz.prog) (w := w1) _ _ _ _ _ _ k _ Tryz.underlying88 Tryz.underlying3 b1 hf (hz _)
  have HB := hide B1
  clear B1 b1 hf hz
  go_wp2_with fail
  go_ret2
  exact ⟨rfl, HB.out⟩

set_option maxRecDepth 100000 in
theorem cPack32_1 (p : Option Addr) (n cap : Nat) (w : World) (h0 : 0 < n) (hn : n ≤ 4096) (Q : Value → Value → World → Prop)
    (hcall : ∀ w1, Below w.heap.size w w1 → Calls Tryz.prog 57 #[.slice p n cap] w1 fun e w' => ∃ b s, e = .returned (.tuple #[b, s]) ∧ Q b s w') :
    Calls Tryz.prog 17 #[.int .i64 1, .slice p n cap] w fun e w' => ∃ b s, e = .returned (.tuple #[b, s]) ∧ Q b s w' := by
  have hf : Instr.findNow (.int .i64) (.int .i64 1) packersE32.toList 0 = some (some (0, .func (.func 57) #[] #[])) := by kernel_rfl
  have hne : ((n : Int) == 0) = false := by rw [beq_eq_false_iff_ne]; omega
  go_enter Tryz.func17, Tryz.ntmps17
  go_wp2_with fail
  refine (packers32_any w).mono ?_
  rintro e w1 ⟨rfl, b1, B1⟩
  have hl := run_get (P := Tryz.prog) (w := w1) _ _ _ _ _ _ 1 _ _ Tryz.underlying88 Tryz.underlying3 b1 hf
  have HB := hide B1
  clear B1 b1 hf
  go_wp2_with fail
  refine (hcall w1 HB.out).mono ?_
  rintro e w2 ⟨b, s, rfl, h⟩
  have HQ := hide h
  clear h
  go_wp2_with fail
  go_ret2
  exact ⟨b, s, rfl, HQ.out⟩

set_option maxRecDepth 100000 in
theorem cPack32_2 (p : Option Addr) (n cap : Nat) (w : World) (h0 : 0 < n) (hn : n ≤ 4096) (Q : Value → Value → World → Prop)
    (hcall : ∀ w1, Below w.heap.size w w1 → Calls Tryz.prog 58 #[.slice p n cap] w1 fun e w' => ∃ b s, e = .returned (.tuple #[b, s]) ∧ Q b s w') :
    Calls Tryz.prog 17 #[.int .i64 2, .slice p n cap] w fun e w' => ∃ b s, e = .returned (.tuple #[b, s]) ∧ Q b s w' := by
  have hf : Instr.findNow (.int .i64) (.int .i64 2) packersE32.toList 0 = some (some (1, .func (.func 58) #[] #[])) := by kernel_rfl
  have hne : ((n : Int) == 0) = false := by rw [beq_eq_false_iff_ne]; omega
  go_enter Tryz.func17, Tryz.ntmps17
  go_wp2_with fail
  refine (packers32_any w).mono ?_
  rintro e w1 ⟨rfl, b1, B1⟩
  have hl := run_get (P := Tryz.prog) (w := w1) _ _ _ _ _ _ 2 _ _ Tryz.underlying88 Tryz.underlying3 b1 hf
  have HB := hide B1
  clear B1 b1 hf
  go_wp2_with fail
  refine (hcall w1 HB.out).mono ?_
  rintro e w2 ⟨b, s, rfl, h⟩
  have HQ := hide h
  clear h
  go_wp2_with fail
  go_ret2
  exact ⟨b, s, rfl, HQ.out⟩

set_option maxRecDepth 100000 in
theorem cPack32_3 (p : Option Addr) (n cap : Nat) (w : World) (h0 : 0 < n) (hn : n ≤ 4096) (Q : Value → Value → World → Prop)
    (hcall : ∀ w1, Below w.heap.size w w1 → Calls Tryz.prog 59 #[.slice p n cap] w1 fun e w' => ∃ b s, e = .returned (.tuple #[b, s]) ∧ Q b s w') :
    Calls Tryz.prog 17 #[.int .i64 3, .slice p n cap] w fun e w' => ∃ b s, e = .returned (.tuple #[b, s]) ∧ Q b s w' := by
  have hf : Instr.findNow (.int .i64) (.int .i64 3) packersE32.toList 0 = some (some (2, .func (.func 59) #[] #[])) := by kernel_rfl
  have hne : ((n : Int) == 0) = false := by rw [beq_eq_false_iff_ne]; omega
  go_enter Tryz.func17, Tryz.ntmps17
  go_wp2_with fail
  refine (packers32_any w).mono ?_
  rintro e w1 ⟨rfl, b1, B1⟩
  have hl := run_get (P := Tryz.prog) (w := w1) _ _ _ _ _ _ 3 _ _ Tryz.underlying88 Tryz.underlying3 b1 hf
  have HB := hide B1
  clear B1 b1 hf
  go_wp2_with fail
  refine (hcall w1 HB.out).mono ?_
  rintro e w2 ⟨b, s, rfl, h⟩
  have HQ := hide h
  clear h
  go_wp2_with fail
  go_ret2
  exact ⟨b, s, rfl, HQ.out⟩

set_option maxRecDepth 100000 in
theorem cPack32_4 (p : Option Addr) (n cap : Nat) (w : World) (h0 : 0 < n) (hn : n ≤ 4096) (Q : Value → Value → World → Prop)
    (hcall : ∀ w1, Below w.heap.size w w1 → Calls Tryz.prog 60 #[.slice p n cap] w1 fun e w' => ∃ b s, e = .returned (.tuple #[b, s]) ∧ Q b s w') :
    Calls Tryz.prog 17 #[.int .i64 4, .slice p n cap] w fun e w' => ∃ b s, e = .returned (.tuple #[b, s]) ∧ Q b s w' := by
  have hf : Instr.findNow (.int .i64) (.int .i64 4) packersE32.toList 0 = some (some (3, .func (.func 60) #[] #[])) := by kernel_rfl
  have hne : ((n : Int) == 0) = false := by rw [beq_eq_false_iff_ne]; omega
  go_enter Tryz.func17, Tryz.ntmps17
  go_wp2_with fail
  refine (packers32_any w).mono ?_
  rintro e w1 ⟨rfl, b1, B1⟩
  have hl := run_get (P := Tryz.prog) (w := w1) _ _ _ _ _ _ 4 _ _ Tryz.underlying88 Tryz.underlying3 b1 hf
  have HB := hide B1
  clear B1 b1 hf
  go_wp2_with fail
  refine (hcall w1 HB.out).mono ?_
  rintro e w2 ⟨b, s, rfl, h⟩
  have HQ := hide h
  clear h
  go_wp2_with fail
  go_ret2
  exact ⟨b, s, rfl, HQ.out⟩

set_option maxRecDepth 100000 in
theorem cPack32_5 (p : Option Addr) (n cap : Nat) (w : World) (h0 : 0 < n) (hn : n ≤ 4096) (Q : Value → Value → World → Prop)
    (hcall : ∀ w1, Below w.heap.size w w1 → Calls Tryz.prog 61 #[.slice p n cap] w1 fun e w' => ∃ b s, e = .returned (.tuple #[b, s]) ∧ Q b s w') :
    Calls Tryz.prog 17 #[.int .i64 5, .slice p n cap] w fun e w' => ∃ b s, e = .returned (.tuple #[b, s]) ∧ Q b s w' := by
  have hf : Instr.findNow (.int .i64) (.int .i64 5) packersE32.toList 0 = some (some (4, .func (.func 61) #[] #[])) := by kernel_rfl
  have hne : ((n : Int) == 0) = false := by rw [beq_eq_false_iff_ne]; omega
  go_enter Tryz.func17, Tryz.ntmps17
  go_wp2_with fail
  refine (packers32_any w).mono ?_
  rintro e w1 ⟨rfl, b1, B1⟩
  have hl := run_get (P := Tryz.prog) (w := w1) _ _ _ _ _ _ 5 _ _ Tryz.underlying88 Tryz.underlying3 b1 hf
  have HB := hide B1
  clear B1 b1 hf
  go_wp2_with fail
  refine (hcall w1 HB.out).mono ?_
  rintro e w2 ⟨b, s, rfl, h⟩
  have HQ := hide h
  clear h
  go_wp2_with fail
  go_ret2
  exact ⟨b, s, rfl, HQ.out⟩

set_option maxRecDepth 100000 in
theorem cPack32_6 (p : Option Addr) (n cap : Nat) (w : World) (h0 : 0 < n) (hn : n ≤ 4096) (Q : Value → Value → World → Prop)
    (hcall : ∀ w1, Below w.heap.size w w1 → Calls Tryz.prog 62 #[.slice p n cap] w1 fun e w' => ∃ b s, e = .returned (.tuple #[b, s]) ∧ Q b s w') :
    Calls Tryz.prog 17 #[.int .i64 6, .slice p n cap] w fun e w' => ∃ b s, e = .returned (.tuple #[b, s]) ∧ Q b s w' := by
  have hf : Instr.findNow (.int .i64) (.int .i64 6) packersE32.toList 0 = some (some (5, .func (.func 62) #[] #[])) := by kernel_rfl
  have hne : ((n : Int) == 0) = false := by rw [beq_eq_false_iff_ne]; omega
  go_enter Tryz.func17, Tryz.ntmps17
  go_wp2_with fail
  refine (packers32_any w).mono ?_
  rintro e w1 ⟨rfl, b1, B1⟩
  have hl := run_get (P := Tryz.prog) (w := w1) _ _ _ _ _ _ 6 _ _ Tryz.underlying88 Tryz.underlying3 b1 hf
  have HB := hide B1
  clear B1 b1 hf
  go_wp2_with fail
  refine (hcall w1 HB.out).mono ?_
  rintro e w2 ⟨b, s, rfl, h⟩
  have HQ := hide h
  clear h
  go_wp2_with fail
  go_ret2
  exact ⟨b, s, rfl, HQ.out⟩

end Go.Proofs.YtgjjkopmoobilaaGreatDoor

/- The contract of code.Pack (32 bits) of no values, and of too many. -/
namespace Go.Proofs.YtgjjkopmoobilaaGreatDoor
open Go.RowKit
set_option linter.unusedVariables false
set_option linter.unusedSimpArgs false

theorem packersE32_known (k : Nat) (h1 : 1 ≤ k) (h6 : k ≤ 6) : ∃ i v, Instr.findNow (.int .i64) (.int .i64 (k : Int)) packersE32.toList 0 = some (some (i, v)) := by
  obtain rfl | rfl | rfl | rfl | rfl | rfl : k = 1 ∨ k = 2 ∨ k = 3 ∨ k = 4 ∨ k = 5 ∨ k = 6 := by omega
  all_goals exact ⟨_, _, rfl⟩

set_option maxRecDepth 100000 in
theorem cPack32_many (k : Nat) (p : Option Addr) (n cap : Nat) (w : World) (h1 : 1 ≤ k) (h6 : k ≤ 6) (hn : 4096 < n) :
    Calls Tryz.prog 17 #[.int .i64 k, .slice p n cap] w fun e w' => e = .returned (.tuple #[.slice none 0 0, .int .i64 81]) ∧ Below w.heap.size w w' := by
  obtain ⟨i, v, hf⟩ := packersE32_known k h1 h6
  go_enter Tryz.func17, Tryz.ntmps17
  go_wp2_with fail
  refine (packers32_any w).mono ?_
  rintro e w1 ⟨rfl, b1, B1⟩
  have hl := run_get (P := Tryz.prog) (w := w1) _ _ _ _ _ _ k _ _ Tryz.underlying88 Tryz.underlying3 b1 hf
  have HB := hide B1
  clear B1 b1 hf
  go_wp2_with fail
  go_ret2
  exact ⟨rfl, HB.out⟩

set_option maxRecDepth 100000 in
theorem cPack32_empty (k : Nat) (p : Option Addr) (cap : Nat) (w : World) (h1 : 1 ≤ k) (h6 : k ≤ 6) :
    Calls Tryz.prog 17 #[.int .i64 k, .slice p 0 cap] w fun e w' => e = .returned (.tuple #[.slice none 0 0, .int .i64 0]) ∧ Below w.heap.size w w' := by
  obtain ⟨i, v, hf⟩ := packersE32_known k h1 h6
  go_enter Tryz.func17, Tryz.ntmps17
  go_wp2_with fail
  refine (packers32_any w).mono ?_
  rintro e w1 ⟨rfl, b1, B1⟩
  have hl := run_get (P := Tryz.prog) (w := w1) _ _ _ _ _ _ k _ _ Tryz.underlying88 Tryz.underlying3 b1 hf
  have HB := hide B1
  clear B1 b1 hf
  go_wp2_with fail
  go_ret2
  exact ⟨rfl, HB.out⟩

end Go.Proofs.YtgjjkopmoobilaaGreatDoor

/- A column's bits by a kind; Pack by any kind (32 bits; genc36.py). -/
namespace Go.Proofs.YtgjjkopmoobilaaGreatDoor
open Go.RowKit
open M
set_option linter.unusedVariables false
set_option linter.unusedSimpArgs false

/-- The bits of n values by a kind, if it takes them. -/
def codeO32 (k : Nat) (f : Nat → Nat) (n : Nat) : Option (List Bool) := match k with
  | 1 => some (plB 32 f n)
  | 2 => some (cbn 32 5 f n)
  | 3 => some (rnB 32 f n 0 n)
  | 4 => dcO 32 f n
  | 5 => some (stB 2147483648 4294967296 f n)
  | 6 => some (F32.dm 32 f n)
  | _ => none

/-- What Pack tells of some values. -/
def KindEnd32 (o : Option (List Bool)) (w : World) (e : Ending) (w' : World) : Prop := match o with
  | some l => RowEnd32 l w e w'
  | none => e = .returned (.tuple #[.slice none 0 0, .int .i64 82]) ∧ Below w.heap.size w w'

theorem xor_row32 {f : Nat → Nat} {n : Nat} {w : World} {e : Ending} {w' : World} (h : PackEnd32 f n w e w') (h0 : 0 < n) : RowEnd32 (cbn 32 5 f n) w e w' := h

theorem cPack32_some (k : Nat) (p : Option Addr) (n cap : Nat) (f : Nat → Nat) (w : World) (hk1 : 1 ≤ k) (hk6 : k ≤ 6) (h : URow32 w p n f) (h0 : 0 < n) (hn : n ≤ 4096) (hcap : n ≤ cap) (hf : ∀ i, i < n → f i < 4294967296) (hT : Tab64 w) :
    Calls Tryz.prog 17 #[.int .i64 k, .slice p n cap] w (KindEnd32 (codeO32 k f n) w) := by
  obtain rfl | rfl | rfl | rfl | rfl | rfl : k = 1 ∨ k = 2 ∨ k = 3 ∨ k = 4 ∨ k = 5 ∨ k = 6 := by omega
  · refine (cPack32_1 p n cap w h0 hn (fun b s w' => RowEnd32 (plB 32 f n) w (.returned (.tuple #[b, s])) w') fun w1 B1 => ?_).mono ?_
    · refine (packPlain32_any p n cap f w1 (h.below B1) hn hcap hf).mono ?_
      rintro e w' ⟨g, L, h1, h2, rfl, h4, h5⟩
      exact ⟨_, _, rfl, g, L, h1, Nat.le_trans B1.size h2, rfl, h4, B1.trans (h5.mono B1.size)⟩
    · rintro e w' ⟨b, s, rfl, hq⟩
      exact hq
  · refine (cPack32_2 p n cap w h0 hn (fun b s w' => RowEnd32 (cbn 32 5 f n) w (.returned (.tuple #[b, s])) w') fun w1 B1 => ?_).mono ?_
    · refine (pack32_ok p n cap f w1 (h.below B1) hn hcap hf (hT.below B1)).mono ?_
      rintro e w' hE
      obtain ⟨g, L, h1, h2, rfl, h4, h5⟩ := xor_row32 hE h0
      exact ⟨_, _, rfl, g, L, h1, Nat.le_trans B1.size h2, rfl, h4, B1.trans (h5.mono B1.size)⟩
    · rintro e w' ⟨b, s, rfl, hq⟩
      exact hq
  · refine (cPack32_3 p n cap w h0 hn (fun b s w' => RowEnd32 (rnB 32 f n 0 n) w (.returned (.tuple #[b, s])) w') fun w1 B1 => ?_).mono ?_
    · refine (packRuns32_any p n cap f w1 (h.below B1) hn hcap hf).mono ?_
      rintro e w' ⟨g, L, h1, h2, rfl, h4, h5⟩
      exact ⟨_, _, rfl, g, L, h1, Nat.le_trans B1.size h2, rfl, h4, B1.trans (h5.mono B1.size)⟩
    · rintro e w' ⟨b, s, rfl, hq⟩
      exact hq
  · refine (cPack32_4 p n cap w h0 hn (fun b s w' => KindEnd32 (dcO 32 f n) w (.returned (.tuple #[b, s])) w') fun w1 B1 => ?_).mono ?_
    · refine (packDict32_any p n cap f w1 (h.below B1) h0 hn hcap hf).mono ?_
      rintro e w' hE
      rcases hE with ⟨hu, rfl, hB⟩ | ⟨hu, g, L, h1, h2, rfl, h4, h5⟩
      · refine ⟨_, _, rfl, ?_⟩
        unfold dcO
        rw [if_neg (by omega)]
        exact ⟨rfl, B1.trans (hB.mono B1.size)⟩
      · refine ⟨_, _, rfl, ?_⟩
        unfold dcO
        rw [if_pos hu]
        exact ⟨g, L, h1, Nat.le_trans B1.size h2, rfl, h4, B1.trans (h5.mono B1.size)⟩
    · rintro e w' ⟨b, s, rfl, hq⟩
      exact hq
  · refine (cPack32_5 p n cap w h0 hn (fun b s w' => RowEnd32 (stB 2147483648 4294967296 f n) w (.returned (.tuple #[b, s])) w') fun w1 B1 => ?_).mono ?_
    · refine (packStride32_any p n cap f w1 (h.below B1) hn hcap hf).mono ?_
      rintro e w' ⟨g, L, h1, h2, rfl, h4, h5⟩
      exact ⟨_, _, rfl, g, L, h1, Nat.le_trans B1.size h2, rfl, h4, B1.trans (h5.mono B1.size)⟩
    · rintro e w' ⟨b, s, rfl, hq⟩
      exact hq
  · refine (cPack32_6 p n cap w h0 hn (fun b s w' => RowEnd32 (F32.dm 32 f n) w (.returned (.tuple #[b, s])) w') fun w1 B1 => ?_).mono ?_
    · refine (packDecimal32_any p n cap f w1 (h.below B1) hn hcap hf).mono ?_
      rintro e w' ⟨g, L, h1, h2, rfl, h4, h5⟩
      exact ⟨_, _, rfl, g, L, h1, Nat.le_trans B1.size h2, rfl, h4, B1.trans (h5.mono B1.size)⟩
    · rintro e w' ⟨b, s, rfl, hq⟩
      exact hq

/-- The bytes are those of n values h by the kind k. -/
def PackIs32 (k n : Nat) (h : Nat → Nat) (bs : List Nat) : Prop := (∀ i, i < n → h i < 4294967296) ∧ (n = 0 → bs = []) ∧ (0 < n → ∃ l, codeO32 k h n = some l ∧ packed l = bs)

/-- The answers of Pack of what a taker told. -/
def AgainEnd32 (k n : Nat) (f : Nat → Nat) (w : World) (e : Ending) (w' : World) : Prop :=
  (∃ (pu : Option Addr) (cu : Nat) (bs : List Nat), e = .returned (.tuple #[.slice pu bs.length cu, .int .i64 0]) ∧ IsBy w' (.slice pu bs.length cu) bs ∧ (∀ n ∈ bs, n < 256) ∧ Below w.heap.size w w' ∧ PackIs32 k n f bs ∧ ∀ bs', PackIs32 k n f bs' → bs' = bs) ∨
  (e = .returned (.tuple #[.slice none 0 0, .int .i64 82]) ∧ Below w.heap.size w w' ∧ ∀ bs, PackIs32 k n f bs → False)

theorem cAgain32 (k : Nat) (p : Option Addr) (n cap : Nat) (f : Nat → Nat) (w : World) (hk1 : 1 ≤ k) (hk6 : k ≤ 6) (h : URow32 w p n f) (hn : n ≤ 4096) (hcap : n ≤ cap) (hf : ∀ i, i < n → f i < 4294967296) (hT : Tab64 w) :
    Calls Tryz.prog 17 #[.int .i64 k, .slice p n cap] w (AgainEnd32 k n f w) := by
  by_cases h0 : n = 0
  · subst h0
    refine (cPack32_empty k p cap w hk1 hk6).mono ?_
    rintro e w' ⟨rfl, hB⟩
    exact .inl ⟨none, 0, [], rfl, .inl (.inl ⟨rfl, rfl⟩), by simp, hB, ⟨hf, fun _ => rfl, fun h => by omega⟩, fun bs' hP => hP.2.1 rfl⟩
  · refine (cPack32_some k p n cap f w hk1 hk6 h (by omega) hn hcap hf hT).mono ?_
    intro e w' hE
    cases ho : codeO32 k f n with
    | none =>
      rw [ho] at hE
      obtain ⟨rfl, hB⟩ := hE
      refine .inr ⟨rfl, hB, fun bs hP => ?_⟩
      obtain ⟨l, h1, _⟩ := hP.2.2 (by omega)
      rw [ho] at h1; cases h1
    | some l =>
      rw [ho] at hE
      obtain ⟨g, L, h1, h2, rfl, h4, h5⟩ := hE
      subst h1
      refine .inl ⟨_, _, packed l, rfl, .inl (isBytes_row h4), packed_lt l, h5, ⟨hf, fun h => absurd h h0, fun _ => ⟨l, ho, rfl⟩⟩, fun bs' hP => ?_⟩
      obtain ⟨l', h1, h2⟩ := hP.2.2 (by omega)
      rw [ho] at h1
      cases h1
      exact h2.symm

end Go.Proofs.YtgjjkopmoobilaaGreatDoor

namespace Go.Proofs.YtgjjkopmoobilaaGreatDoor
open Go.ChangeShapes Go.WideShapes Go.Deep Go.Joins
open Go.RowKit (Below)
open M
set_option linter.unusedVariables false
set_option linter.unusedSimpArgs false

/-- An int64. -/
def I64 (x : Int) : Prop := -9223372036854775808 ≤ x ∧ x ≤ 9223372036854775807
/-- A slice of bytes. -/
def IsB (w : World) (v : Value) : Prop := ∃ p n cap bs, v = .slice p n cap ∧ (n ≤ 9223372036854775807 ∧ n ≤ cap) ∧ IsBy w (.slice p n cap) bs ∧ bs.length = n ∧ ∀ x ∈ bs, x < 256
/-- An int. -/
def IsN (w : World) (v : Value) : Prop := ∃ z : Int, v = .int .i64 z ∧ I64 z
theorem IsN.below {w w' : World} {v : Value} (h : IsN w v) (hB : Below w.heap.size w w') : IsN w' v := h
/-- A slice of bytes that a machine can hold. -/
def IsBs (w : World) (v : Value) : Prop := ∃ p n cap bs, v = .slice p n cap ∧ n ≤ 140737488355328 ∧ IsBy w (.slice p n cap) bs ∧ bs.length = n ∧ ∀ x ∈ bs, x < 256
theorem IsBs.below {w w' : World} {v : Value} (h : IsBs w v) (hB : Below w.heap.size w w') : IsBs w' v := by
  obtain ⟨p, n, cap, f, h1, h2, h3, h4⟩ := h
  exact ⟨p, n, cap, f, h1, h2, isBy_below h3 hB, h4⟩

/-- A slice of values of 64 bits that a machine can hold. -/
def IsU64 (w : World) (v : Value) : Prop := ∃ p n cap f, v = .slice p n cap ∧ n ≤ 140737488355328 ∧ n ≤ cap ∧ URow64 w p n f ∧ ∀ i, i < n → f i < 18446744073709551616
theorem IsU64.below {w w' : World} {v : Value} (h : IsU64 w v) (hB : Below w.heap.size w w') : IsU64 w' v := by
  obtain ⟨p, n, cap, f, h1, h2, h3, h4, h5⟩ := h
  exact ⟨p, n, cap, f, h1, h2, h3, h4.below hB, h5⟩

/-- A slice of values of 32 bits that a machine can hold. -/
def IsU32 (w : World) (v : Value) : Prop := ∃ p n cap f, v = .slice p n cap ∧ n ≤ 140737488355328 ∧ n ≤ cap ∧ URow32 w p n f ∧ ∀ i, i < n → f i < 4294967296
theorem IsU32.below {w w' : World} {v : Value} (h : IsU32 w v) (hB : Below w.heap.size w w') : IsU32 w' v := by
  obtain ⟨p, n, cap, f, h1, h2, h3, h4, h5⟩ := h
  exact ⟨p, n, cap, f, h1, h2, h3, h4.below hB, h5⟩

/-- A slice of things that are each S. -/
def RowsOf (S : World → Value → Prop) (w : World) (a : Option Addr) (n : Nat) : Prop :=
  n ≤ 9223372036854775807 ∧ (0 < n → ∃ b o, a = some ⟨b, o, none⟩ ∧ ∀ i, i < n → ∃ v, w.cell? ⟨b, o + i, none⟩ = some v ∧ S w v)

theorem RowsOf.below {S : World → Value → Prop} (hS : ∀ {w w' : World} {v : Value}, S w v → Below w.heap.size w w' → S w' v) {w w' : World} {a : Option Addr} {n : Nat} (h : RowsOf S w a n) (hB : Below w.heap.size w w') : RowsOf S w' a n :=
  ⟨h.1, fun h0 => by
    obtain ⟨b, o, ha, hc⟩ := h.2 h0
    refine ⟨b, o, ha, fun i hi => ?_⟩
    obtain ⟨v, h1, h2⟩ := hc i hi
    exact ⟨v, by rw [hB.cell (p := ⟨b, o + i, none⟩) (block_lt_of_cell h1)]; exact h1, hS h2 hB⟩⟩

theorem cells_one {w : World} {base : Nat} {a : Addr} {cs : List Value} (h : w.cells? base a 1 = some cs) : ∃ v, cs = [v] ∧ w.cell? a = some v := by
  unfold World.cells? at h
  split at h
  · have e : List.range 1 = [0] := rfl
    rw [e] at h
    simp only [List.mapM_cons, List.mapM_nil, Option.bind_eq_bind, Option.bind_eq_some_iff, Option.pure_def, Option.some.injEq] at h
    obtain ⟨a0, h0, l0, rfl, rfl⟩ := h
    exact ⟨a0, rfl, by simpa [Addr.add] using h0⟩
  · cases h

/-- A machine can hold it. -/
def Sz {H : Type} (ty : TypeId) (d : DataW H) : Prop := ∀ n ∈ d.weights Tryz.prog ty, n ≤ reachBytes

theorem weightsAll_in {H : Type} {P : Program} {e : TypeId} : ∀ {l : List (DataW H)} {d : DataW H}, d ∈ l → ∀ n ∈ d.weights P e, n ∈ DataW.weightsAll P e l
  | _ :: l, d, h, n, hn => by
    rcases List.mem_cons.1 h with rfl | h
    · simp only [DataW.weightsAll, List.mem_append]; exact Or.inl hn
    · simp only [DataW.weightsAll, List.mem_append]; exact Or.inr (weightsAll_in h n hn)

section
variable {H : Type} {enc : TypeId × Value → H} {w : World} {base : Nat} {spare : Nat → Bool} {held : Bool}

theorem open_rowsOf {S : World → Value → Prop} {ty el : TypeId} (hu : Tryz.prog.underlying ty = some (.slice el)) (h1 : Tryz.prog.cellsOf el = 1) (hS : ∀ {m : Nat} {u : Value} {y : DataW H × List MemPlace}, DataW.trod enc Tryz.prog w base spare held m el [u] = some y → S w u)
    {fuel : Nat} {v : Value} {y : DataW H × List MemPlace} (h : DataW.trod enc Tryz.prog w base spare held fuel ty [v] = some y) : ∃ a len cap, v = .slice a len cap ∧ len ≤ cap ∧ RowsOf S w a len := by
  rcases open_slice hu h with ⟨h0, _⟩ | ⟨ad, len, cap, mm, n', D, Pl, hcs, _, hlc, hcm, hmm, _, hx⟩
  · simp only [List.cons.injEq, and_true] at h0
    exact ⟨none, 0, 0, h0, Nat.le_refl _, by omega, fun h => by omega⟩
  · simp only [List.cons.injEq, and_true] at hcs
    unfold maxLen at hcm
    refine ⟨some ad, len, cap, hcs, hlc, by omega, fun h0 => ?_⟩
    have hlm : len ≤ mm := by rw [hmm]; split <;> omega
    have one : ∀ i, i < len → ∃ u, w.cell? (ad.add i) = some u ∧ S w u := by
      intro i hi
      obtain ⟨cs', hc, ht⟩ := hx i (by omega)
      rw [h1, Nat.mul_one] at hc
      obtain ⟨u, rfl, hcell⟩ := cells_one hc
      exact ⟨u, hcell, hS ht⟩
    obtain ⟨b, off, spot⟩ := ad
    obtain ⟨u0, h00, _⟩ := one 0 h0
    have hspot : spot = none := by simpa [Addr.add] using World.cell?_spot h00
    subst hspot
    refine ⟨b, off, rfl, fun j hj => ?_⟩
    obtain ⟨u, hu, hr⟩ := one j hj
    rw [Addr.add_mid] at hu
    exact ⟨u, hu, hr⟩

theorem open_n {m : Nat} {u : Value} {y : DataW H × List MemPlace} (h : DataW.trod enc Tryz.prog w base spare held m 3 [u] = some y) : IsN w u := by
  obtain ⟨z, e0, _, w0⟩ := DataW.trod_int Tryz.underlying3 h
  simp only [List.cons.injEq, and_true] at e0
  have b := bounds_i64 w0
  exact ⟨z, e0, by unfold I64; omega⟩

theorem open_n8 {m : Nat} {u : Value} {y : DataW H × List MemPlace} (h : DataW.trod enc Tryz.prog w base spare held m 5 [u] = some y) : ∃ q : Nat, u = .int .u8 (q : Int) ∧ q < 256 := by
  obtain ⟨z, e0, _, w0⟩ := DataW.trod_int Tryz.underlying5 h
  simp only [List.cons.injEq, and_true] at e0
  have b := bounds_u8 w0
  exact ⟨z.toNat, by rw [e0, Int.toNat_of_nonneg b.1], by omega⟩

theorem open_b {m : Nat} {u : Value} {y : DataW H × List MemPlace} (h : DataW.trod enc Tryz.prog w base spare held m 34 [u] = some y) : IsB w u := by
  rcases open_slice Tryz.underlying34 h with ⟨h0, _⟩ | _
  · simp only [List.cons.injEq, and_true] at h0
    exact ⟨none, 0, 0, [], h0, by omega, .inl (.inl ⟨rfl, rfl⟩), rfl, by simp⟩
  obtain ⟨a, len, cap, rfl, hlc, hl, hr⟩ := open_rowsOf (S := fun w v => ∃ q : Nat, v = .int .u8 (q : Int) ∧ q < 256) Tryz.underlying34 (by kernel_rfl) (fun h => open_n8 h) h
  by_cases h0 : len = 0
  · subst h0
    refine ⟨a, 0, cap, [], rfl, ⟨hl, hlc⟩, ?_, rfl, by simp⟩
    cases a with
    | none =>
      rcases open_slice Tryz.underlying34 h with ⟨h0, _⟩ | ⟨ad, len, cap, mm, n', D, Pl, hcs, _⟩
      · simp only [List.cons.injEq, and_true] at h0
        rw [h0]; exact .inl (.inl ⟨rfl, rfl⟩)
      · simp only [List.cons.injEq, and_true, Value.slice.injEq] at hcs
        cases hcs.1
    | some ad => exact .inr ⟨ad, cap, rfl, rfl⟩
  obtain ⟨b, o, ha, hc⟩ := hr (by omega)
  have : ∀ i, i < len → ∃ q : Nat, w.cell? ⟨b, o + i, none⟩ = some (.int .u8 (q : Int)) ∧ q < 256 := fun i hi => by
    obtain ⟨v, h1, q, rfl, h2⟩ := hc i hi
    exact ⟨q, h1, h2⟩
  obtain ⟨f, hf⟩ := choose_lt this
  have hll : ((List.range len).map f).length = len := by simp
  refine ⟨a, len, cap, (List.range len).map f, rfl, ⟨hl, hlc⟩, .inl (.inr ⟨b, o, cap, by rw [ha, hll], fun i hi => ?_⟩), hll, fun x hx => ?_⟩
  · rw [hll] at hi
    rw [(hf i hi).1]
    simp [List.getD, hi]
  · simp only [List.mem_map, List.mem_range] at hx
    obtain ⟨i, hi, rfl⟩ := hx
    exact (hf i hi).2

theorem open_rowsSz {S : World → Value → Prop} {ty el : TypeId} (hu : Tryz.prog.underlying ty = some (.slice el)) (h1 : Tryz.prog.cellsOf el = 1) (hS : ∀ {m : Nat} {u : Value} {y : DataW H × List MemPlace}, DataW.trod enc Tryz.prog w base spare held m el [u] = some y → Sz el y.1 → S w u)
    {fuel : Nat} {v : Value} {y : DataW H × List MemPlace} (h : DataW.trod enc Tryz.prog w base spare held fuel ty [v] = some y) (hz : Sz ty y.1) : ∃ a len cap, v = .slice a len cap ∧ len ≤ cap ∧ len * Tryz.prog.bytesOf el ≤ reachBytes ∧ RowsOf S w a len := by
  rcases open_slice hu h with ⟨h0, _⟩ | ⟨ad, len, cap, mm, n', D, Pl, hcs, _, hlc, hcm, hmm, hy, hx⟩
  · simp only [List.cons.injEq, and_true] at h0
    exact ⟨none, 0, 0, h0, Nat.le_refl _, by omega, by omega, fun h => by omega⟩
  · simp only [List.cons.injEq, and_true] at hcs
    unfold maxLen at hcm
    have hlm : len ≤ mm := by rw [hmm]; split <;> omega
    subst hy
    have hzz := hz
    unfold Sz at hzz
    simp only [DataW.weights, hu, List.length_map, List.length_range, List.mem_cons, List.mem_append] at hzz
    have hb : (len + (mm - len)) * Tryz.prog.bytesOf el ≤ reachBytes := hzz _ (Or.inl rfl)
    refine ⟨some ad, len, cap, hcs, hlc, Nat.le_trans (Nat.mul_le_mul_right _ (by omega)) hb, by omega, fun h0 => ?_⟩
    have one : ∀ i, i < len → ∃ u, w.cell? (ad.add i) = some u ∧ S w u := by
      intro i hi
      obtain ⟨cs', hc, ht⟩ := hx i (by omega)
      rw [h1, Nat.mul_one] at hc
      obtain ⟨u, rfl, hcell⟩ := cells_one hc
      refine ⟨u, hcell, hS ht fun n hn => hzz n (Or.inr (Or.inl ?_))⟩
      exact weightsAll_in (List.mem_map.2 ⟨i, List.mem_range.2 hi, rfl⟩) n hn
    obtain ⟨b, off, spot⟩ := ad
    obtain ⟨u0, h00, _⟩ := one 0 h0
    have hspot : spot = none := by simpa [Addr.add] using World.cell?_spot h00
    subst hspot
    refine ⟨b, off, rfl, fun j hj => ?_⟩
    obtain ⟨u, hu, hr⟩ := one j hj
    rw [Addr.add_mid] at hu
    exact ⟨u, hu, hr⟩

theorem open_bs {m : Nat} {u : Value} {y : DataW H × List MemPlace} (h : DataW.trod enc Tryz.prog w base spare held m 34 [u] = some y) (hz : Sz 34 y.1) : IsBs w u := by
  obtain ⟨p, n, cap, bs, rfl, _, h2, h3, h4⟩ := open_b h
  obtain ⟨a, len, cap', e, _, hb, _⟩ := open_rowsSz (S := fun _ _ => True) Tryz.underlying34 (by kernel_rfl) (fun _ _ => trivial) h hz
  have hb8 : Tryz.prog.bytesOf 5 = 1 := by kernel_rfl
  rw [hb8] at hb
  simp only [Value.slice.injEq] at e
  obtain ⟨_, rfl, _⟩ := e
  have := reachBytes_lt
  exact ⟨p, n, cap, bs, rfl, by omega, h2, h3, h4⟩


theorem open_v64 {m : Nat} {u : Value} {y : DataW H × List MemPlace} (h : DataW.trod enc Tryz.prog w base spare held m 39 [u] = some y) : ∃ q : Nat, u = .int .u64 (q : Int) ∧ q < 18446744073709551616 := by
  obtain ⟨z, e0, _, w0⟩ := DataW.trod_int Tryz.underlying39 h
  simp only [List.cons.injEq, and_true] at e0
  have b := bounds_u64 w0
  exact ⟨z.toNat, by rw [e0, Int.toNat_of_nonneg b.1], by omega⟩

theorem open_u64 {m : Nat} {u : Value} {y : DataW H × List MemPlace} (h : DataW.trod enc Tryz.prog w base spare held m 28 [u] = some y) (hz : Sz 28 y.1) : IsU64 w u := by
  obtain ⟨a, len, cap, rfl, hlc, hb, hl, hr⟩ := open_rowsSz (S := fun _ v => ∃ q : Nat, v = .int .u64 (q : Int) ∧ q < 18446744073709551616) Tryz.underlying28 (by kernel_rfl) (fun h _ => open_v64 h) h hz
  have hb8 : Tryz.prog.bytesOf 39 = 8 := by kernel_rfl
  rw [hb8] at hb
  have := reachBytes_lt
  by_cases h0 : len = 0
  · subst h0; exact ⟨a, 0, cap, fun _ => 0, rfl, by omega, hlc, URow64.nil _ _ _, fun i hi => by omega⟩
  obtain ⟨b, o, ha, hc⟩ := hr (by omega)
  have : ∀ i, i < len → ∃ q : Nat, w.cell? ⟨b, o + i, none⟩ = some (.int .u64 (q : Int)) ∧ q < 18446744073709551616 := fun i hi => by
    obtain ⟨v, h1, q, rfl, h2⟩ := hc i hi
    exact ⟨q, h1, h2⟩
  obtain ⟨f, hf⟩ := choose_lt this
  exact ⟨a, len, cap, f, rfl, by omega, hlc, fun _ => ⟨b, o, ha, fun i hi => (hf i hi).1⟩, fun i hi => (hf i hi).2⟩

theorem open_v32 {m : Nat} {u : Value} {y : DataW H × List MemPlace} (h : DataW.trod enc Tryz.prog w base spare held m 42 [u] = some y) : ∃ q : Nat, u = .int .u32 (q : Int) ∧ q < 4294967296 := by
  obtain ⟨z, e0, _, w0⟩ := DataW.trod_int Tryz.underlying42 h
  simp only [List.cons.injEq, and_true] at e0
  have b := bounds_u32 w0
  exact ⟨z.toNat, by rw [e0, Int.toNat_of_nonneg b.1], by omega⟩

theorem open_u32 {m : Nat} {u : Value} {y : DataW H × List MemPlace} (h : DataW.trod enc Tryz.prog w base spare held m 30 [u] = some y) (hz : Sz 30 y.1) : IsU32 w u := by
  obtain ⟨a, len, cap, rfl, hlc, hb, hl, hr⟩ := open_rowsSz (S := fun _ v => ∃ q : Nat, v = .int .u32 (q : Int) ∧ q < 4294967296) Tryz.underlying30 (by kernel_rfl) (fun h _ => open_v32 h) h hz
  have hb8 : Tryz.prog.bytesOf 42 = 4 := by kernel_rfl
  rw [hb8] at hb
  have := reachBytes_lt
  by_cases h0 : len = 0
  · subst h0; exact ⟨a, 0, cap, fun _ => 0, rfl, by omega, hlc, URow32.nil _ _ _, fun i hi => by omega⟩
  obtain ⟨b, o, ha, hc⟩ := hr (by omega)
  have : ∀ i, i < len → ∃ q : Nat, w.cell? ⟨b, o + i, none⟩ = some (.int .u32 (q : Int)) ∧ q < 4294967296 := fun i hi => by
    obtain ⟨v, h1, q, rfl, h2⟩ := hc i hi
    exact ⟨q, h1, h2⟩
  obtain ⟨f, hf⟩ := choose_lt this
  exact ⟨a, len, cap, f, rfl, by omega, hlc, fun _ => ⟨b, o, ha, fun i hi => (hf i hi).1⟩, fun i hi => (hf i hi).2⟩

theorem open_five {P : Program} {r : Reach} {b0 : Nat} {t : TypeId} {f0 f1 f2 f3 f4 : Field} {v : Value} {d : DataW H} {p : List MemPlace} (hs : P.underlying t = some (.struct #[f0, f1, f2, f3, f4])) (hone : oneCellFields P #[f0, f1, f2, f3, f4] = true) (hC : P.cellsOf t = 5)
    (hv : Value.okWide P w r b0 t v) (h : DataW.Trod enc P w base spare held t v d p) :
    ∃ (v0 v1 v2 v3 v4 : Value) (y0 y1 y2 y3 y4 : DataW H × List MemPlace) (n : Nat), v = .agg #[v0, v1, v2, v3, v4] ∧ d = .agg [y0.1, y1.1, y2.1, y3.1, y4.1] ∧
      DataW.trod enc P w base spare held n f0.type [v0] = some y0 ∧ DataW.trod enc P w base spare held n f1.type [v1] = some y1 ∧ DataW.trod enc P w base spare held n f2.type [v2] = some y2 ∧ DataW.trod enc P w base spare held n f3.type [v3] = some y3 ∧ DataW.trod enc P w base spare held n f4.type [v4] = some y4 := by
  obtain ⟨cs, rfl, hsz⟩ := okWide_struct hs hv
  obtain ⟨fuel, hf⟩ := h
  obtain ⟨l⟩ := cs
  match l, hsz.trans hC with
  | [c0, c1, c2, c3, c4], _ =>
    obtain ⟨xs, n, _, hx, _, hlen, hff⟩ := DataW.trod_struct hs hf
    obtain ⟨o0, k0⟩ := hone_of hone 0 f0 rfl
    obtain ⟨o1, k1⟩ := hone_of hone 1 f1 rfl
    obtain ⟨o2, k2⟩ := hone_of hone 2 f2 rfl
    obtain ⟨o3, k3⟩ := hone_of hone 3 f3 rfl
    obtain ⟨o4, k4⟩ := hone_of hone 4 f4 rfl
    match xs, hlen with
    | [y0, y1, y2, y3, y4], _ =>
      simp only [Prod.mk.injEq] at hx
      exact ⟨c0, c1, c2, c3, c4, y0, y1, y2, y3, y4, n, rfl, by simpa using hx.1, by simpa [Value.cells, o0, k0] using hff 0 f0 rfl, by simpa [Value.cells, o1, k1] using hff 1 f1 rfl, by simpa [Value.cells, o2, k2] using hff 2 f2 rfl, by simpa [Value.cells, o3, k3] using hff 3 f3 rfl, by simpa [Value.cells, o4, k4] using hff 4 f4 rfl⟩

set_option maxRecDepth 100000 in
theorem open_columns8 {r : Reach} {b0 : Nat} {v : Value} {d : DataW H} {p : List MemPlace} (hv : Value.okWide Tryz.prog w r b0 27 v) (h : DataW.Trod enc Tryz.prog w base spare held 27 v d p) (hz : Sz 27 d) :
    ∃ aW nW cW aR nR cR aB nB cB aN nN cN aK nK cK, v = .agg #[.slice aW nW cW, .slice aR nR cR, .slice aB nB cB, .slice aN nN cN, .slice aK nK cK] ∧ RowsOf IsU64 w aW nW ∧ RowsOf IsU32 w aR nR ∧ RowsOf IsBs w aB nB ∧ RowsOf IsN w aN nN ∧ RowsOf IsN w aK nK := by
  obtain ⟨v0, v1, v2, v3, v4, y0, y1, y2, y3, y4, n, rfl, hd, h0, h1, h2, h3, h4⟩ := open_five Tryz.underlying27 (by kernel_rfl) (by kernel_rfl) hv h
  subst hd
  have z0 : Sz 22 y0.1 := fun n hn => hz n (by
    simp only [DataW.weights, Tryz.underlying27]
    exact DataW.weights_mem_each (j := 0) rfl rfl n hn)
  have z1 : Sz 23 y1.1 := fun n hn => hz n (by
    simp only [DataW.weights, Tryz.underlying27]
    exact DataW.weights_mem_each (j := 1) rfl rfl n hn)
  have z2 : Sz 24 y2.1 := fun n hn => hz n (by
    simp only [DataW.weights, Tryz.underlying27]
    exact DataW.weights_mem_each (j := 2) rfl rfl n hn)
  obtain ⟨aW, nW, cW, rfl, _, _, hW⟩ := open_rowsSz (S := IsU64) Tryz.underlying22 (by kernel_rfl) (fun h hz => open_u64 h hz) h0 z0
  obtain ⟨aR, nR, cR, rfl, _, _, hR⟩ := open_rowsSz (S := IsU32) Tryz.underlying23 (by kernel_rfl) (fun h hz => open_u32 h hz) h1 z1
  obtain ⟨aB, nB, cB, rfl, _, _, hB⟩ := open_rowsSz (S := IsBs) Tryz.underlying24 (by kernel_rfl) (fun h hz => open_bs h hz) h2 z2
  obtain ⟨aN, nN, cN, rfl, _, hN⟩ := open_rowsOf (S := IsN) Tryz.underlying25 (by kernel_rfl) (fun h => open_n h) h3
  obtain ⟨aK, nK, cK, rfl, _, hK⟩ := open_rowsOf (S := IsN) Tryz.underlying25 (by kernel_rfl) (fun h => open_n h) h4
  exact ⟨aW, nW, cW, aR, nR, cR, aB, nB, cB, aN, nN, cN, aK, nK, cK, rfl, hW, hR, hB, hN, hK⟩
end
end Go.Proofs.YtgjjkopmoobilaaGreatDoor

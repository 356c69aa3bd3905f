/- PackEnds: the walk. -/
import Derived.Test.YtenhippcjnemcaaDoorP2B
namespace Go.Proofs.YtenhippcjnemcaaDoor
open Go.RowKit
open M
set_option linter.unusedVariables false

/-- Odd floats. -/
def oddL : List Nat := [0, 9223372036854775808, 9218868437227405312, 18442240474082181120, 9221120237041090560, 9221120237041090561, 9218868437227405313, 18446744073709551615, 1, 9223372036854775809, 4503599627370495, 4607182418800017408]
def oddF (i : Nat) : Nat := oddL.getD i 0
theorem odd_lt : ∀ i, i < 12 → oddF i < 18446744073709551616 := by
  have : ∀ i : Fin 12, oddF i.val < 18446744073709551616 := by decide +kernel
  exact fun i hi => this ⟨i, hi⟩

theorem odd_row {w : World} {g : Nat} {t : TypeId} (h : w.heap[g]? = some (.cells #[.int .u64 0, .int .u64 9223372036854775808, .int .u64 9218868437227405312, .int .u64 18442240474082181120, .int .u64 9221120237041090560, .int .u64 9221120237041090561, .int .u64 9218868437227405313, .int .u64 18446744073709551615, .int .u64 1, .int .u64 9223372036854775809, .int .u64 4503599627370495, .int .u64 4607182418800017408] t (0, 0))) : URow64 w (some ⟨g, 0, none⟩) 12 oddF := fun _ =>
  ⟨g, 0, rfl, fun i hi => by
    rw [cell_of_row _ _ _ _ _ _ h]
    rcases (show i = 0 ∨ i = 1 ∨ i = 2 ∨ i = 3 ∨ i = 4 ∨ i = 5 ∨ i = 6 ∨ i = 7 ∨ i = 8 ∨ i = 9 ∨ i = 10 ∨ i = 11 by omega) with rfl | rfl | rfl | rfl | rfl | rfl | rfl | rfl | rfl | rfl | rfl | rfl <;> rfl⟩

theorem cbn_const (W K c : Nat) : ∀ n, (cbn W K (fun _ => c) (n + 1)).length = W + n
  | 0 => by rw [cbn_one]; simp
  | n + 1 => by
    rw [cbn_step, List.length_append, cbn_const W K c n]
    unfold xbf
    rw [Nat.xor_self, xb_0]; rfl

theorem const_len' (n : Nat) (h : n = 4096) : (packed (cbn 32 5 (fun _ => 0) n)).length = 516 := by
  obtain ⟨m, rfl⟩ : ∃ m, n = m + 1 := ⟨n - 1, by omega⟩
  rw [packed_length, cbn_const]; omega
theorem const_len : (packed (cbn 32 5 (fun _ => 0) 4096)).length = 516 := const_len' 4096 rfl

theorem make_many (w : World) :
    (Instr.makeSlice 30 (.int .i64 4097) (.int .i64 4097)).run Tryd.prog w = .ok (.slice (some ⟨w.heap.size, 0, none⟩) 4097 4097) (w.alloc (.cells (Array.replicate 4097 (Value.int .u32 0)) 42)) := by
  have hz : (Tryd.prog.info? 42).bind (·.zero) = some (.int .u32 0) := by kernel_rfl
  have hs : (Tryd.prog.info? 42).map (·.size) = some 1 := by kernel_rfl
  have hb : (Tryd.prog.info? 42).map (·.bytes) = some 4 := by kernel_rfl
  cases hi : Tryd.prog.info? 42 with
  | none => simp [hi] at hs
  | some i =>
    simp only [hi, Option.bind_some, Option.map_some, Option.some.injEq] at hz hs hb
    have h := run_make w 30 42 i _ Tryd.underlying30 hi hz .i64 .i64 (4097 : Int) (4097 : Int) (by omega) (by omega) (by rw [hb]; omega) (by omega)
    have e : madeCells (Value.int .u32 0).cells ((4097 : Int).toNat * i.size) = Array.replicate 4097 (Value.int .u32 0) := by
      rw [hs]
      apply Array.ext
      · simp [madeCells]
      · intro j h1 h2
        simp [madeCells, Value.cells, Nat.mod_one]
    rw [e] at h
    exact h

set_option maxRecDepth 100000 in
set_option maxHeartbeats 4000000 in
theorem ends_any (w : World) (hT : Tab64 w) : Calls Tryd.prog 6 #[] w fun e w' => e = .returned (.bool true) ∧ Below w.heap.size w w' := by
  have HR : Hid (URow64 (w.alloc (.cells #[.int .u64 0, .int .u64 9223372036854775808, .int .u64 9218868437227405312, .int .u64 18442240474082181120, .int .u64 9221120237041090560, .int .u64 9221120237041090561, .int .u64 9218868437227405313, .int .u64 18446744073709551615, .int .u64 1, .int .u64 9223372036854775809, .int .u64 4503599627370495, .int .u64 4607182418800017408] 39)) (some ⟨w.heap.size, 0, none⟩) 12 oddF) := odd_row (heap_alloc_new _ _)
  have HB : Hid (Below w.heap.size w (w.alloc (.cells #[.int .u64 0, .int .u64 9223372036854775808, .int .u64 9218868437227405312, .int .u64 18442240474082181120, .int .u64 9221120237041090560, .int .u64 9221120237041090561, .int .u64 9218868437227405313, .int .u64 18446744073709551615, .int .u64 1, .int .u64 9223372036854775809, .int .u64 4503599627370495, .int .u64 4607182418800017408] 39))) := (Below.refl _ _).alloc (Nat.le_refl _) _
  have HT := hide hT
  clear hT
  go_enter Tryd.func6, Tryd.ntmps6
  go_wp2_with fail
  generalize w.alloc (.cells #[.int .u64 0, .int .u64 9223372036854775808, .int .u64 9218868437227405312, .int .u64 18442240474082181120, .int .u64 9221120237041090560, .int .u64 9221120237041090561, .int .u64 9218868437227405313, .int .u64 18446744073709551615, .int .u64 1, .int .u64 9223372036854775809, .int .u64 4503599627370495, .int .u64 4607182418800017408] 39) = w0 at *
  refine (pack64_ok _ 12 12 oddF w0 HR.out (by omega) (by omega) odd_lt (HT.out.below HB.out)).mono ?_
  rintro e w1 ⟨g, L, hL, hg, rfl, G1, B1⟩
  have HI : Hid (IsBytes w1 (.slice (some ⟨g, 0, none⟩) L L) (packed (cbn 64 6 oddF 12))) := by
    have := isBytes_row (cap := L) G1
    rw [← hL] at this
    exact this
  have hl := cbn_length' 64 6 oddF 12 (by omega) odd_lt
  have HLL : Hid ((packed (cbn 64 6 oddF 12)).length ≤ 1000000000000) := by show _ ≤ _; rw [packed_length]; omega
  have HB1 : Hid (Below w.heap.size w w1) := HB.out.trans (B1.mono HB.out.size)
  have HR1 : Hid (URow64 w1 (some ⟨w.heap.size, 0, none⟩) 12 oddF) := HR.out.below B1
  clear G1 B1 HB HR hL hl
  go_wp2_with fail
  refine (unpack64_any _ _ 12 w1 (.inl HI.out) (packed_lt _) HLL.out (by omega) (HT.out.below HB1.out)).mono ?_
  rintro e w2 (⟨rfl, B2, hno⟩ | ⟨g2, f, rfl, hg2, U2, B2, P2, hU⟩)
  · exact absurd ⟨oddF, odd_lt, rfl⟩ hno
  have HB2 : Hid (Below w.heap.size w w2) := HB1.out.trans (B2.mono HB1.out.size)
  have HF : Hid (∀ i, i < 12 → f i = oddF i) := hU oddF (begins_of64 ⟨odd_lt, rfl⟩)
  have HU2 : Hid (URow64 w2 (some ⟨g2, 0, none⟩) 12 f) := U2.urow
  have HR2 : Hid (URow64 w2 (some ⟨w.heap.size, 0, none⟩) 12 oddF) := HR1.out.below B2
  clear B2 P2 hU U2
  go_wp2_with fail
  refine (num_any _ _).mono ?_
  rintro e wn ⟨rfl, hwn⟩
  have hwn := hwn.symm
  subst hwn
  go_wp2_with fail
  refine (num_any _ _).mono ?_
  rintro e wn ⟨rfl, hwn⟩
  have hwn := hwn.symm
  subst hwn
  go_wp2_with fail
  refine (same_any _ _ 12 12 _ _ f oddF w2 HU2.out HR2.out (by omega) (by omega)).mono ?_
  rintro e w3 ⟨v, rfl, hv, m, hw3⟩
  obtain rfl : v = true := hv.2 ⟨rfl, HF.out⟩
  have HB3 : Hid (Below w.heap.size w w3) := by rw [hw3]; exact below_drewN HB2.out m
  clear hv hw3
  have hmk := make_many w3
  have HR4 : Hid (URow32 (w3.alloc (.cells (Array.replicate 4097 (Value.int .u32 0)) 42)) (some ⟨w3.heap.size, 0, none⟩) 4097 (fun _ => 0)) := fun _ => ⟨w3.heap.size, 0, rfl, fun i hi => by
    rw [cell_of_row _ _ _ _ _ _ (heap_alloc_new w3 _)]; simp [hi]⟩
  have HB4 : Hid (Below w.heap.size w (w3.alloc (.cells (Array.replicate 4097 (Value.int .u32 0)) 42))) := HB3.out.alloc HB3.out.size _
  go_upto_region 7 with fail
  generalize w3.alloc (.cells (Array.replicate 4097 (Value.int .u32 0)) 42) = w4 at *
  clear hmk
  go_wp2_with fail
  refine (pack32_ok _ 4096 4097 (fun _ => 0) w4 (HR4.out.take (by omega)) (by omega) (by omega) (fun _ _ => (by omega : (0 : Nat) < 4294967296)) (HT.out.below HB4.out)).mono ?_
  rintro e w5 ⟨g5, L5, hL5, hg5, rfl, G5, B5⟩
  rw [const_len] at hL5
  subst hL5
  have HI5 : Hid (IsBytes w5 (.slice (some ⟨g5, 0, none⟩) 516 516) (packed (cbn 32 5 (fun _ => 0) 4096))) := by
    have := isBytes_row (cap := 516) G5
    rw [const_len] at this
    exact this
  have HB5 : Hid (Below w.heap.size w w5) := HB4.out.trans (B5.mono HB4.out.size)
  clear G5 B5
  go_wp2_with fail
  refine (pack32_many _ 4097 4097 w5 (by omega)).mono ?_
  rintro e wn ⟨rfl, hwn⟩
  have hwn := hwn.symm
  subst hwn
  go_wp2_with fail
  refine (unpack32_any _ _ 4096 w5 (.inl HI5.out) (packed_lt _) (by rw [const_len]; omega) (by omega) (HT.out.below HB5.out)).mono ?_
  rintro e w6 (⟨rfl, B6, hno⟩ | ⟨g6, f6, rfl, hg6, U6, B6, P6, hU6⟩)
  · exact absurd ⟨fun _ => 0, fun _ _ => (by omega : (0 : Nat) < 4294967296), rfl⟩ hno
  have HB6 : Hid (Below w.heap.size w w6) := HB5.out.trans (B6.mono HB5.out.size)
  clear B6 P6 hU6 U6
  go_wp2_with fail
  refine (unpack32_count _ 4097 w6 (.inr (by omega))).mono ?_
  rintro e wn ⟨rfl, hwn⟩
  have hwn := hwn.symm
  subst hwn
  go_wp2_with fail
  refine (num_any _ _).mono ?_
  rintro e wn ⟨rfl, hwn⟩
  have hwn := hwn.symm
  subst hwn
  go_wp2_with fail
  refine (num_any _ _).mono ?_
  rintro e wn ⟨rfl, hwn⟩
  have hwn := hwn.symm
  subst hwn
  go_wp2_with fail
  refine (num_any _ _).mono ?_
  rintro e wn ⟨rfl, hwn⟩
  have hwn := hwn.symm
  subst hwn
  go_wp2_with fail
  refine (num_any _ _).mono ?_
  rintro e wn ⟨rfl, hwn⟩
  have hwn := hwn.symm
  subst hwn
  go_wp2_with fail
  refine (works_any w6 (HT.out.below HB6.out)).mono ?_
  rintro e w7 ⟨rfl, B7⟩
  have HB7 := hide B7
  clear B7
  go_wp2_with fail
  go_ret
  exact ⟨rfl, HB6.out.trans (HB7.out.mono HB6.out.size)⟩

end Go.Proofs.YtenhippcjnemcaaDoor

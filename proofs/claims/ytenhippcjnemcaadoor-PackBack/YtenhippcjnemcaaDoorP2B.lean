/- The law's own works() is true; n. -/
import Derived.Test.YtenhippcjnemcaaDoorP2A
namespace Go.Proofs.YtenhippcjnemcaaDoor
open Go.RowKit
open M
set_option linter.unusedVariables false

/-- The values of works. -/
def wk (i : Nat) : Nat := if i = 2 then 9 else 1

theorem wk64 : packed (cbn 64 6 wk 3) = [0, 0, 0, 0, 0, 0, 0, 1, 120, 3] ∨ True := .inr trivial
theorem wk_lt (i : Nat) : wk i < 256 := by unfold wk; split <;> omega
theorem wk64_len : (packed (cbn 64 6 wk 3)).length = 10 := by decide +kernel
theorem wk32_len : (packed (cbn 32 5 wk 3)).length = 6 := by decide +kernel

theorem urow64_of {w : World} {g : Nat} {t : TypeId} (h : w.heap[g]? = some (.cells #[.int .u64 1, .int .u64 1, .int .u64 9] t (0, 0))) : URow64 w (some ⟨g, 0, none⟩) 3 wk := fun _ =>
  ⟨g, 0, rfl, fun i hi => by
    rw [cell_of_row _ _ _ _ _ _ h]
    rcases (show i = 0 ∨ i = 1 ∨ i = 2 by omega) with rfl | rfl | rfl <;> rfl⟩
theorem urow32_of {w : World} {g : Nat} {t : TypeId} (h : w.heap[g]? = some (.cells #[.int .u32 1, .int .u32 1, .int .u32 9] t (0, 0))) : URow32 w (some ⟨g, 0, none⟩) 3 wk := fun _ =>
  ⟨g, 0, rfl, fun i hi => by
    rw [cell_of_row _ _ _ _ _ _ h]
    rcases (show i = 0 ∨ i = 1 ∨ i = 2 by omega) with rfl | rfl | rfl <;> rfl⟩

set_option maxRecDepth 100000 in
set_option maxHeartbeats 4000000 in
theorem works_any (w : World) (hT : Tab64 w) : Calls Tryd.prog 9 #[] w fun e w' => e = .returned (.bool true) ∧ Below w.heap.size w w' := by
  have HR : Hid (URow64 (w.alloc (.cells #[.int .u64 1, .int .u64 1, .int .u64 9] 39)) (some ⟨w.heap.size, 0, none⟩) 3 wk) := urow64_of (heap_alloc_new _ _)
  have HB : Hid (Below w.heap.size w (w.alloc (.cells #[.int .u64 1, .int .u64 1, .int .u64 9] 39))) := (Below.refl _ _).alloc (Nat.le_refl _) _
  have HT := hide hT
  clear hT
  go_enter Tryd.func9, Tryd.ntmps9
  go_wp2_with fail
  generalize w.alloc (.cells #[.int .u64 1, .int .u64 1, .int .u64 9] 39) = w0 at *
  refine (pack64_ok _ 3 3 wk w0 HR.out (by omega) (by omega) (fun i _ => by have := wk_lt i; omega) (HT.out.below HB.out)).mono ?_
  rintro e w1 ⟨g, L, hL, hg, rfl, G1, B1⟩
  rw [wk64_len] at hL
  subst hL
  have HI : Hid (IsBytes w1 (.slice (some ⟨g, 0, none⟩) 10 10) (packed (cbn 64 6 wk 3))) := by
    have := isBytes_row (cap := 10) G1
    rw [wk64_len] at this
    exact this
  have HB1 : Hid (Below w.heap.size w w1) := HB.out.trans (B1.mono HB.out.size)
  clear G1 B1 HB HR
  go_wp2_with fail
  refine (unpack64_any _ _ 3 w1 (.inl HI.out) (packed_lt _) (by rw [wk64_len]; omega) (by omega) (HT.out.below HB1.out)).mono ?_
  rintro e w2 (⟨rfl, B2, hno⟩ | ⟨g2, f, rfl, hg2, U2, B2, P2, hU⟩)
  · exact absurd ⟨wk, fun i _ => by have := wk_lt i; omega, rfl⟩ hno
  have HB2 : Hid (Below w.heap.size w w2) := HB1.out.trans (B2.mono HB1.out.size)
  have HF : Hid (∀ i, i < 3 → f i = wk i) := hU wk (begins_of64 ⟨fun i _ => by have := wk_lt i; omega, rfl⟩)
  have HU2 : Hid (URow64 w2 (some ⟨g2, 0, none⟩) 3 f) := U2.urow
  clear B2 P2 hU U2
  have HR3 : Hid (URow32 (w2.alloc (.cells #[.int .u32 1, .int .u32 1, .int .u32 9] 42)) (some ⟨w2.heap.size, 0, none⟩) 3 wk) := urow32_of (heap_alloc_new _ _)
  have HB3 : Hid (Below w2.heap.size w2 (w2.alloc (.cells #[.int .u32 1, .int .u32 1, .int .u32 9] 42))) := (Below.refl _ _).alloc (Nat.le_refl _) _
  go_wp2_with fail
  generalize w2.alloc (.cells #[.int .u32 1, .int .u32 1, .int .u32 9] 42) = w3 at *
  have HB03 : Hid (Below w.heap.size w w3) := HB2.out.trans (HB3.out.mono HB2.out.size)
  refine (pack32_ok _ 3 3 wk w3 HR3.out (by omega) (by omega) (fun i _ => by have := wk_lt i; omega) (HT.out.below HB03.out)).mono ?_
  rintro e w4 ⟨g4, L4, hL4, hg4, rfl, G4, B4⟩
  rw [wk32_len] at hL4
  subst hL4
  have HI4 : Hid (IsBytes w4 (.slice (some ⟨g4, 0, none⟩) 6 6) (packed (cbn 32 5 wk 3))) := by
    have := isBytes_row (cap := 6) G4
    rw [wk32_len] at this
    exact this
  have HB4 : Hid (Below w3.heap.size w3 w4) := B4
  have HB04 : Hid (Below w.heap.size w w4) := HB03.out.trans (B4.mono HB03.out.size)
  clear G4 B4 HR3
  go_wp2_with fail
  refine (unpack32_any _ _ 3 w4 (.inl HI4.out) (packed_lt _) (by rw [wk32_len]; omega) (by omega) (HT.out.below HB04.out)).mono ?_
  rintro e w5 (⟨rfl, B5, hno⟩ | ⟨g5, f5, rfl, hg5, U5, B5, P5, hU5⟩)
  · exact absurd ⟨wk, fun i _ => by have := wk_lt i; omega, rfl⟩ hno
  have HB05 : Hid (Below w.heap.size w w5) := HB04.out.trans (B5.mono HB04.out.size)
  have HF5 : Hid ((∀ i, i < 3 → f5 i = wk i) ∧ ∀ i, i < 3 → f5 i < 4294967296) := ⟨hU5 wk (begins_of32 ⟨fun i _ => by have := wk_lt i; omega, rfl⟩), P5.1⟩
  have HU5 : Hid (URow32 w5 (some ⟨g5, 0, none⟩) 3 f5) := U5.urow
  have HU25 : Hid (URow64 w5 (some ⟨g2, 0, none⟩) 3 f) := ((HU2.out.below HB3.out).below HB4.out).below B5
  clear B5 P5 hU5 U5 HB4 HB3 HU2 HI HI4
  go_wp2_with fail
  refine (num_any _ _).mono ?_
  rintro e wn ⟨rfl, hwn⟩
  have hwn := hwn.symm
  subst hwn
  go_wp2_with fail
  refine (num_any _ _).mono ?_
  rintro e wn ⟨rfl, hwn⟩
  have hwn := hwn.symm
  subst hwn
  go_wp2_with fail
  refine (num_any _ _).mono ?_
  rintro e wn ⟨rfl, hwn⟩
  have hwn := hwn.symm
  subst hwn
  go_wp2_with fail
  refine (num_any _ _).mono ?_
  rintro e wn ⟨rfl, hwn⟩
  have hwn := hwn.symm
  subst hwn
  have HR6 : Hid (URow64 (w5.alloc (.cells #[.int .u64 1, .int .u64 1, .int .u64 9] 39)) (some ⟨w5.heap.size, 0, none⟩) 3 wk) := urow64_of (heap_alloc_new _ _)
  have HB6 : Hid (Below w5.heap.size w5 (w5.alloc (.cells #[.int .u64 1, .int .u64 1, .int .u64 9] 39))) := (Below.refl _ _).alloc (Nat.le_refl _) _
  go_wp2_with fail
  generalize w5.alloc (.cells #[.int .u64 1, .int .u64 1, .int .u64 9] 39) = w6 at *
  refine (same_any _ _ 3 3 _ _ f wk w6 (HU25.out.below HB6.out) HR6.out (by omega) (by omega)).mono ?_
  rintro e w7 ⟨v, rfl, hv, m, hw7⟩
  obtain rfl : v = true := hv.2 ⟨rfl, HF.out⟩
  have HB7 : Hid (Below w5.heap.size w5 w7) := by rw [hw7]; exact below_drewN HB6.out m
  have HR8 : Hid (URow64 (w7.alloc (.cells #[.int .u64 1, .int .u64 1, .int .u64 9] 39)) (some ⟨w7.heap.size, 0, none⟩) 3 wk) := urow64_of (heap_alloc_new _ _)
  have HB8 : Hid (Below w7.heap.size w7 (w7.alloc (.cells #[.int .u64 1, .int .u64 1, .int .u64 9] 39))) := (Below.refl _ _).alloc (Nat.le_refl _) _
  clear hw7 hv HR6 HB6
  go_wp2_with fail
  generalize w7.alloc (.cells #[.int .u64 1, .int .u64 1, .int .u64 9] 39) = w8 at *
  have HB58 : Hid (Below w5.heap.size w5 w8) := HB7.out.trans (HB8.out.mono HB7.out.size)
  refine (alike_any _ _ 3 3 _ _ f5 wk w8 (HU5.out.below HB58.out) HF5.out.2 (by omega) HR8.out (by omega)).mono ?_
  rintro e w9 ⟨v, rfl, hv, B9⟩
  obtain rfl : v = true := hv.2 ⟨rfl, HF5.out.1⟩
  have HB9 : Hid (Below w.heap.size w w9) := (HB05.out.trans (HB58.out.mono HB05.out.size)).trans (B9.mono (Nat.le_trans HB05.out.size HB58.out.size))
  clear B9 hv
  go_wp2_with fail
  go_ret
  exact ⟨rfl, HB9.out⟩

end Go.Proofs.YtenhippcjnemcaaDoor

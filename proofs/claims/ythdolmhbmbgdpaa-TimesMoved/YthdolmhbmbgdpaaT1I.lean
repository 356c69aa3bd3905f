/- The law's own works() is true. -/
import Derived.Test.YthdolmhbmbgdpaaT1H
namespace Go.Proofs.Ythdolmhbmbgdpaa
open Go.RowKit
open M
set_option linter.unusedVariables false

/-- The times of works. -/
def wk (i : Nat) : Int := 10 * ((i : Int) + 1)

theorem wk_packed : packed (tbn wk 4) = [0, 0, 0, 0, 0, 0, 0, 10, 137, 128] := by decide +kernel

theorem wk_rises : Rises wk 4 := fun i _ => by unfold wk; omega
theorem wk_range : ∀ i, i < 4 → I64 (wk i) := fun i hi => by unfold wk I64; omega

theorem trow_of {w : World} {g : Nat} {t : TypeId} (h : w.heap[g]? = some (.cells #[.int .i64 10, .int .i64 20, .int .i64 30, .int .i64 40] t (0, 0))) : TRow w (some ⟨g, 0, none⟩) 4 wk := fun _ =>
  ⟨g, 0, rfl, fun i hi => by
    rw [cell_of_row _ _ _ _ _ _ h]
    rcases (show i = 0 ∨ i = 1 ∨ i = 2 ∨ i = 3 by omega) with rfl | rfl | rfl | rfl <;> rfl⟩

set_option maxRecDepth 100000 in
set_option maxHeartbeats 2000000 in
theorem works_any (w : World) : Calls Try.prog 13 #[] w fun e w' => e = .returned (.bool true) ∧ Below w.heap.size w w' := by
  have HT : Hid (TRow (w.alloc (.cells #[.int .i64 10, .int .i64 20, .int .i64 30, .int .i64 40] 2)) (some ⟨w.heap.size, 0, none⟩) 4 wk) := trow_of (heap_alloc_new _ _)
  have HB : Hid (Below w.heap.size w (w.alloc (.cells #[.int .i64 10, .int .i64 20, .int .i64 30, .int .i64 40] 2))) := (Below.refl _ _).alloc (Nat.le_refl _) _
  go_enter Try.func13, Try.ntmps13
  go_wp2_with fail
  generalize w.alloc (.cells #[.int .i64 10, .int .i64 20, .int .i64 30, .int .i64 40] 2) = w0 at *
  refine (pack_ok _ 4 4 wk w0 HT.out (by omega) wk_range wk_rises).mono ?_
  rintro e w1 ⟨g, L, hL, hg, rfl, G1, B1⟩
  rw [wk_packed] at hL G1
  obtain rfl : L = 10 := hL
  have HI : Hid (IsBytes w1 (.slice (some ⟨g, 0, none⟩) 10 10) [0, 0, 0, 0, 0, 0, 0, 10, 137, 128]) := isBytes_row G1
  have HB1 : Hid (Below w.heap.size w w1) := HB.out.trans (B1.mono HB.out.size)
  have hg1 : Hid (g < w1.heap.size) := size_lt_of_row G1
  have HC : Hid (w1.cell? ⟨g, 8, none⟩ = some (.int .u8 137)) := by show _ = _; rw [cell_of_row _ _ _ _ _ _ G1]; rfl
  clear G1 B1
  go_wp2_with fail
  refine (unpack_any _ _ 4 w1 (.inl HI.out) (by decide) (by simp) (by omega)).mono ?_
  rintro e w2 (⟨rfl, B2, hno⟩ | ⟨g2, f, rfl, hg2, R2, B2, P2, hU⟩)
  · exact absurd ⟨wk, wk_range, wk_rises, wk_packed⟩ hno
  have HB2 : Hid (Below w.heap.size w w2) := HB1.out.trans (B2.mono HB1.out.size)
  have c1 : w2.cell? ⟨g, 8, none⟩ = some (.int .u8 137) := by rw [B2.cell (p := ⟨g, 8, none⟩) hg1.out]; exact HC.out
  have HF : Hid (∀ i, i < 4 → f i = wk i) := hU wk (begins_of ⟨wk_range, wk_rises, wk_packed⟩)
  have HR2 := hide R2
  clear B2 P2 hU R2
  go_wp2_with fail
  refine (num_any _ _).mono ?_
  rintro e w3 ⟨rfl, rfl⟩
  go_wp2_with fail
  refine (num_any _ _).mono ?_
  rintro e w3 ⟨rfl, rfl⟩
  have HT3 : Hid (TRow (w3.alloc (.cells #[.int .i64 10, .int .i64 20, .int .i64 30, .int .i64 40] 2)) (some ⟨w3.heap.size, 0, none⟩) 4 wk) := trow_of (heap_alloc_new _ _)
  have HB3 : Hid (Below w3.heap.size w3 (w3.alloc (.cells #[.int .i64 10, .int .i64 20, .int .i64 30, .int .i64 40] 2))) := (Below.refl _ _).alloc (Nat.le_refl _) _
  go_wp2_with fail
  generalize w3.alloc (.cells #[.int .i64 10, .int .i64 20, .int .i64 30, .int .i64 40] 2) = w4 at *
  refine (same_any _ _ 4 4 _ _ f wk w4 (HR2.out.below HB3.out) HT3.out (by omega) (by omega)).mono ?_
  rintro e w5 ⟨v, rfl, hv, m, rfl⟩
  obtain rfl : v = true := hv.2 ⟨rfl, HF.out⟩
  go_wp2_with fail
  go_ret
  exact ⟨rfl, below_drewN (HB2.out.trans (HB3.out.mono HB2.out.size)) m⟩

/-- A slice of times. -/
def IsT (w : World) (v : Value) : Prop := ∃ p n cap f, v = .slice p n cap ∧ (n ≤ 9223372036854775807 ∧ n ≤ cap) ∧ TRow w p n f ∧ ∀ i, i < n → I64 (f i)
/-- A slice of bytes. -/
def IsB (w : World) (v : Value) : Prop := ∃ p n cap bs, v = .slice p n cap ∧ (n ≤ 9223372036854775807 ∧ n ≤ cap) ∧ IsBy w (.slice p n cap) bs ∧ bs.length = n ∧ ∀ x ∈ bs, x < 256
/-- An int. -/
def IsN (w : World) (v : Value) : Prop := ∃ z : Int, v = .int .i64 z ∧ I64 z

/-- A slice of things that are each S. -/
def RowsOf (S : World → Value → Prop) (w : World) (a : Option Addr) (n : Nat) : Prop :=
  n ≤ 9223372036854775807 ∧ (0 < n → ∃ b o, a = some ⟨b, o, none⟩ ∧ ∀ i, i < n → ∃ v, w.cell? ⟨b, o + i, none⟩ = some v ∧ S w v)

theorem IsT.below {w w' : World} {v : Value} (h : IsT w v) (hB : Below w.heap.size w w') : IsT w' v := by
  obtain ⟨p, n, cap, f, h1, h2, h3, h4⟩ := h
  exact ⟨p, n, cap, f, h1, h2, h3.below hB, h4⟩
theorem IsB.below {w w' : World} {v : Value} (h : IsB w v) (hB : Below w.heap.size w w') : IsB w' v := by
  obtain ⟨p, n, cap, f, h1, h2, h3, h4⟩ := h
  exact ⟨p, n, cap, f, h1, h2, isBy_below h3 hB, h4⟩
theorem IsN.below {w w' : World} {v : Value} (h : IsN w v) (hB : Below w.heap.size w w') : IsN w' v := h

theorem RowsOf.below {S : World → Value → Prop} (hS : ∀ {w w' : World} {v : Value}, S w v → Below w.heap.size w w' → S w' v) {w w' : World} {a : Option Addr} {n : Nat} (h : RowsOf S w a n) (hB : Below w.heap.size w w') : RowsOf S w' a n :=
  ⟨h.1, fun h0 => by
    obtain ⟨b, o, ha, hc⟩ := h.2 h0
    refine ⟨b, o, ha, fun i hi => ?_⟩
    obtain ⟨v, h1, h2⟩ := hc i hi
    exact ⟨v, by rw [hB.cell (p := ⟨b, o + i, none⟩) (block_lt_of_cell h1)]; exact h1, hS h2 hB⟩⟩

end Go.Proofs.Ythdolmhbmbgdpaa

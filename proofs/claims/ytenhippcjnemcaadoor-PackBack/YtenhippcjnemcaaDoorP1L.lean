/- math/bits: Len64 of any number, TrailingZeros64 (the library's table lies: Tab64). -/
import Derived.Test.YtenhippcjnemcaaDoorT1S
import Derived.Test.YtenhippcjnemcaaDoorP1A
import Derived.Laws.Tables
namespace Go.Proofs.YtenhippcjnemcaaDoor
open Go.RowKit
open M
set_option linter.unusedVariables false
set_option linter.unusedSimpArgs false

theorem ret_int {k : IntKind} {a b : Int} (h : a = b) : Ending.returned (.int k a) = .returned (.int k b) := by rw [h]

set_option maxRecDepth 1000000 in
set_option maxHeartbeats 4000000 in
theorem len64_a (x : Nat) (w : World) (h : x < 256) : Calls Tryd.prog 37 #[.int .u64 x] w fun e w' => e = .returned (.int .i64 (bitLen x : Nat)) ∧ w' = w := by
  have h0' : decide ((4294967296 : Int) ≤ (x : Int)) = false := by simp; omega
  have h1' : decide ((65536 : Int) ≤ (x : Int)) = false := by simp; omega
  have h2' : ¬ (256 : Int) ≤ (x : Int) := by omega
  have Hz := hide (bitLen_le8 x (by omega))
  go_enter Tryd.func37, Tryd.ntmps37
  go_wp2_with fail
  go_ret
  refine ⟨?_, rfl⟩
  apply ret_int
  rw [len8tab_get]
  have q1 := Hz.out
  simp only [wrap64]
  clear h0' h1' h2' h
  omega

set_option maxRecDepth 1000000 in
set_option maxHeartbeats 4000000 in
theorem len64_b (x : Nat) (w : World) (h : 256 ≤ x) (h2 : x < 65536) : Calls Tryd.prog 37 #[.int .u64 x] w fun e w' => e = .returned (.int .i64 (bitLen x : Nat)) ∧ w' = w := by
  have h0' : decide ((4294967296 : Int) ≤ (x : Int)) = false := by simp; omega
  have h1' : decide ((65536 : Int) ≤ (x : Int)) = false := by simp; omega
  have h2' : (256 : Int) ≤ (x : Int) := by omega
  obtain ⟨z, hz, hz'⟩ : ∃ z : Nat, z = x / 256 ∧ (x : Int) / 256 = (z : Int) := ⟨x / 256, rfl, by simp⟩
  have Hy : Hid (bitLen x = 8 + bitLen z) := by show _ = _; rw [hz]; exact bitLen_shift x 8 (by omega)
  have hzl : z < 256 := by omega
  have Hz := hide (bitLen_le8 z hzl)
  clear hz h h2
  go_enter Tryd.func37, Tryd.ntmps37
  go_wp2_with fail
  go_ret
  refine ⟨?_, rfl⟩
  apply ret_int
  rw [len8tab_get]
  have q1 := Hz.out
  have q2 := Hy.out
  simp only [wrap64]
  clear h0' h1' h2' hz'
  omega

set_option maxRecDepth 1000000 in
set_option maxHeartbeats 4000000 in
theorem len64_c (x : Nat) (w : World) (hx : x < 4294967296) (h : 65536 ≤ x) (h2 : x / 65536 < 256) : Calls Tryd.prog 37 #[.int .u64 x] w fun e w' => e = .returned (.int .i64 (bitLen x : Nat)) ∧ w' = w := by
  have h0' : decide ((4294967296 : Int) ≤ (x : Int)) = false := by simp; omega
  have h1' : (65536 : Int) ≤ (x : Int) := by omega
  obtain ⟨y, hy, hy'⟩ : ∃ y : Nat, y = x / 65536 ∧ (x : Int) / 65536 = (y : Int) := ⟨x / 65536, rfl, by simp⟩
  have Hx : Hid (bitLen x = 16 + bitLen y) := by show _ = _; rw [hy]; exact bitLen_shift x 16 (by omega)
  have h2' : ¬ (256 : Int) ≤ (y : Int) := by omega
  have hy2 : y < 256 := by omega
  have Hz := hide (bitLen_le8 y (by omega))
  clear hy h2 h hx
  go_enter Tryd.func37, Tryd.ntmps37
  go_wp2_with fail
  go_ret
  refine ⟨?_, rfl⟩
  apply ret_int
  rw [len8tab_get]
  have q1 := Hz.out
  have q2 := Hx.out
  simp only [wrap64]
  clear h0' h1' h2' hy'
  omega

set_option maxRecDepth 1000000 in
set_option maxHeartbeats 4000000 in
theorem len64_d (x : Nat) (w : World) (hx : x < 4294967296) (h : 65536 ≤ x) (h2 : 256 ≤ x / 65536) : Calls Tryd.prog 37 #[.int .u64 x] w fun e w' => e = .returned (.int .i64 (bitLen x : Nat)) ∧ w' = w := by
  have h0' : decide ((4294967296 : Int) ≤ (x : Int)) = false := by simp; omega
  have h1' : (65536 : Int) ≤ (x : Int) := by omega
  obtain ⟨y, hy, hy'⟩ : ∃ y : Nat, y = x / 65536 ∧ (x : Int) / 65536 = (y : Int) := ⟨x / 65536, rfl, by simp⟩
  have Hx : Hid (bitLen x = 16 + bitLen y) := by show _ = _; rw [hy]; exact bitLen_shift x 16 (by omega)
  have h2' : (256 : Int) ≤ (y : Int) := by omega
  have hyl : y < 65536 := by omega
  clear hy h2 h hx
  obtain ⟨z, hz, hz'⟩ : ∃ z : Nat, z = y / 256 ∧ (y : Int) / 256 = (z : Int) := ⟨y / 256, rfl, by simp⟩
  have Hy : Hid (bitLen y = 8 + bitLen z) := by show _ = _; rw [hz]; exact bitLen_shift y 8 (by omega)
  have hzl : z < 256 := by omega
  have Hz := hide (bitLen_le8 z hzl)
  clear hz hyl
  go_enter Tryd.func37, Tryd.ntmps37
  go_wp2_with fail
  go_ret
  refine ⟨?_, rfl⟩
  apply ret_int
  rw [len8tab_get]
  have q1 := Hz.out
  have q2 := Hx.out
  have q3 := Hy.out
  simp only [wrap64]
  clear h0' h1' h2' hy' hz'
  omega

theorem len64_any (x : Nat) (w : World) (hx : x < 4294967296) : Calls Tryd.prog 37 #[.int .u64 x] w fun e w' => e = .returned (.int .i64 (bitLen x : Nat)) ∧ w' = w := by
  by_cases h : x < 256
  · exact len64_a x w h
  · by_cases h1 : x < 65536
    · exact len64_b x w (by omega) h1
    · by_cases h2 : x / 65536 < 256
      · exact len64_c x w hx (by omega) h2
      · exact len64_d x w hx (by omega) (by omega)

set_option maxRecDepth 1000000 in
set_option maxHeartbeats 4000000 in
theorem len64_e (x : Nat) (w : World) (h : 4294967296 ≤ x) (hx : x < 18446744073709551616) (h1 : x / 4294967296 < 256) : Calls Tryd.prog 37 #[.int .u64 x] w fun e w' => e = .returned (.int .i64 (bitLen x : Nat)) ∧ w' = w := by
  have h0' : decide ((4294967296 : Int) ≤ (x : Int)) = true := by simp; omega
  obtain ⟨t, ht, ht'⟩ : ∃ t : Nat, t = x / 4294967296 ∧ (x : Int) / 4294967296 = (t : Int) := ⟨x / 4294967296, rfl, by simp⟩
  have Ht : Hid (bitLen x = 32 + bitLen t) := by show _ = _; rw [ht]; exact bitLen_shift x 32 (by omega)
  have htl : t < 256 := by omega
  clear ht h hx h1
  have h1' : decide ((65536 : Int) ≤ (t : Int)) = false := by simp; omega
  have h2' : ¬ (256 : Int) ≤ (t : Int) := by omega
  have Hz := hide (bitLen_le8 t htl)
  go_enter Tryd.func37, Tryd.ntmps37
  go_wp2_with (simp only [ht'])
  go_ret
  refine ⟨?_, rfl⟩
  apply ret_int
  rw [len8tab_get]
  have q0 := Ht.out
  have q1 := Hz.out
  simp only [wrap64]
  clear h0' h1' h2' ht'
  omega

set_option maxRecDepth 1000000 in
set_option maxHeartbeats 4000000 in
theorem len64_f (x : Nat) (w : World) (h : 4294967296 ≤ x) (hx : x < 18446744073709551616) (h1 : 256 ≤ x / 4294967296) (h3 : x / 4294967296 < 65536) : Calls Tryd.prog 37 #[.int .u64 x] w fun e w' => e = .returned (.int .i64 (bitLen x : Nat)) ∧ w' = w := by
  have h0' : decide ((4294967296 : Int) ≤ (x : Int)) = true := by simp; omega
  obtain ⟨t, ht, ht'⟩ : ∃ t : Nat, t = x / 4294967296 ∧ (x : Int) / 4294967296 = (t : Int) := ⟨x / 4294967296, rfl, by simp⟩
  have Ht : Hid (bitLen x = 32 + bitLen t) := by show _ = _; rw [ht]; exact bitLen_shift x 32 (by omega)
  have htl : 256 ≤ t ∧ t < 65536 := by omega
  clear ht h hx h1 h3
  have h1' : decide ((65536 : Int) ≤ (t : Int)) = false := by simp; omega
  have h2' : (256 : Int) ≤ (t : Int) := by omega
  obtain ⟨z, hz, hz'⟩ : ∃ z : Nat, z = t / 256 ∧ (t : Int) / 256 = (z : Int) := ⟨t / 256, rfl, by simp⟩
  have Hy : Hid (bitLen t = 8 + bitLen z) := by show _ = _; rw [hz]; exact bitLen_shift t 8 (by omega)
  have hzl : z < 256 := by omega
  have Hz := hide (bitLen_le8 z hzl)
  clear hz htl
  go_enter Tryd.func37, Tryd.ntmps37
  go_wp2_with (simp only [ht', hz'])
  go_ret
  refine ⟨?_, rfl⟩
  apply ret_int
  rw [len8tab_get]
  have q0 := Ht.out
  have q1 := Hz.out
  have q2 := Hy.out
  clear hz'
  simp only [wrap64]
  clear h0' h1' h2' ht'
  omega

set_option maxRecDepth 1000000 in
set_option maxHeartbeats 4000000 in
theorem len64_g (x : Nat) (w : World) (h : 4294967296 ≤ x) (hx : x < 18446744073709551616) (h1 : 65536 ≤ x / 4294967296) (h3 : x / 4294967296 / 65536 < 256) : Calls Tryd.prog 37 #[.int .u64 x] w fun e w' => e = .returned (.int .i64 (bitLen x : Nat)) ∧ w' = w := by
  have h0' : decide ((4294967296 : Int) ≤ (x : Int)) = true := by simp; omega
  obtain ⟨t, ht, ht'⟩ : ∃ t : Nat, t = x / 4294967296 ∧ (x : Int) / 4294967296 = (t : Int) := ⟨x / 4294967296, rfl, by simp⟩
  have Ht : Hid (bitLen x = 32 + bitLen t) := by show _ = _; rw [ht]; exact bitLen_shift x 32 (by omega)
  have htl : 65536 ≤ t ∧ t / 65536 < 256 := by omega
  clear ht h hx h1 h3
  have h1' : decide ((65536 : Int) ≤ (t : Int)) = true := by simp; omega
  obtain ⟨y, hy, hy'⟩ : ∃ y : Nat, y = t / 65536 ∧ (t : Int) / 65536 = (y : Int) := ⟨t / 65536, rfl, by simp⟩
  have Hy : Hid (bitLen t = 16 + bitLen y) := by show _ = _; rw [hy]; exact bitLen_shift t 16 (by omega)
  have h2' : ¬ (256 : Int) ≤ (y : Int) := by omega
  have hyl : y < 256 := by omega
  have Hz := hide (bitLen_le8 y hyl)
  clear hy htl
  go_enter Tryd.func37, Tryd.ntmps37
  go_wp2_with (simp only [ht', hy'])
  go_ret
  refine ⟨?_, rfl⟩
  apply ret_int
  rw [len8tab_get]
  have q0 := Ht.out
  have q1 := Hz.out
  have q2 := Hy.out
  clear hy'
  simp only [wrap64]
  clear h0' h1' h2' ht'
  omega

set_option maxRecDepth 1000000 in
set_option maxHeartbeats 4000000 in
theorem len64_h (x : Nat) (w : World) (h : 4294967296 ≤ x) (hx : x < 18446744073709551616) (h1 : 65536 ≤ x / 4294967296) (h3 : 256 ≤ x / 4294967296 / 65536) : Calls Tryd.prog 37 #[.int .u64 x] w fun e w' => e = .returned (.int .i64 (bitLen x : Nat)) ∧ w' = w := by
  have h0' : decide ((4294967296 : Int) ≤ (x : Int)) = true := by simp; omega
  obtain ⟨t, ht, ht'⟩ : ∃ t : Nat, t = x / 4294967296 ∧ (x : Int) / 4294967296 = (t : Int) := ⟨x / 4294967296, rfl, by simp⟩
  have Ht : Hid (bitLen x = 32 + bitLen t) := by show _ = _; rw [ht]; exact bitLen_shift x 32 (by omega)
  have htl : 65536 ≤ t ∧ 256 ≤ t / 65536 ∧ t < 4294967296 := by omega
  clear ht h hx h1 h3
  have h1' : decide ((65536 : Int) ≤ (t : Int)) = true := by simp; omega
  obtain ⟨y, hy, hy'⟩ : ∃ y : Nat, y = t / 65536 ∧ (t : Int) / 65536 = (y : Int) := ⟨t / 65536, rfl, by simp⟩
  have Hx : Hid (bitLen t = 16 + bitLen y) := by show _ = _; rw [hy]; exact bitLen_shift t 16 (by omega)
  have h2' : (256 : Int) ≤ (y : Int) := by omega
  have hyl : y < 65536 := by omega
  clear hy htl
  obtain ⟨z, hz, hz'⟩ : ∃ z : Nat, z = y / 256 ∧ (y : Int) / 256 = (z : Int) := ⟨y / 256, rfl, by simp⟩
  have Hy : Hid (bitLen y = 8 + bitLen z) := by show _ = _; rw [hz]; exact bitLen_shift y 8 (by omega)
  have hzl : z < 256 := by omega
  have Hz := hide (bitLen_le8 z hzl)
  clear hz hyl
  go_enter Tryd.func37, Tryd.ntmps37
  go_wp2_with (simp only [ht', hy', hz'])
  go_ret
  refine ⟨?_, rfl⟩
  apply ret_int
  rw [len8tab_get]
  have q0 := Ht.out
  have q1 := Hz.out
  have q2 := Hy.out
  have q3 := Hx.out
  clear hy' hz'
  simp only [wrap64]
  clear h0' h1' h2' ht'
  omega

theorem len64_all (x : Nat) (w : World) (hx : x < 18446744073709551616) : Calls Tryd.prog 37 #[.int .u64 x] w fun e w' => e = .returned (.int .i64 (bitLen x : Nat)) ∧ w' = w := by
  by_cases h0 : x < 4294967296
  · exact len64_any x w h0
  · by_cases h : x / 4294967296 < 256
    · exact len64_e x w (by omega) hx h
    · by_cases h1 : x / 4294967296 < 65536
      · exact len64_f x w (by omega) hx (by omega) h1
      · by_cases h2 : x / 4294967296 / 65536 < 256
        · exact len64_g x w (by omega) hx (by omega) h2
        · exact len64_h x w (by omega) hx (by omega) (by omega)

/-- The library's table lies as its text lays it. -/
def Tab64 (w : World) : Prop := ∀ j, j < 64 → w.cell? ⟨0, j, none⟩ = some (.int .u8 (Lib.deBruijn64tab.getD j 0 : Nat))

theorem Tab64.below {w w' : World} (h : Tab64 w) (hb : Below w.heap.size w w') : Tab64 w' := fun j hj => by
  rw [hb.cell (p := ⟨0, j, none⟩) (block_lt_of_cell (h j hj))]; exact h j hj

theorem Tab64.below' {B : Nat} {w w' : World} (h : Tab64 w) (hb : Below B w w') (hB : 0 < B) : Tab64 w' := fun j hj => by
  rw [hb.cell (p := ⟨0, j, none⟩) hB]; exact h j hj

theorem tz64_key (x a : Nat) (hx : x < 18446744073709551616) (hx0 : x ≠ 0) (hlow : x &&& (18446744073709551616 - x) = a) :
    IntKind.u64.wrap (bits BinOp.and IntKind.u64 (x : Int) (IntKind.u64.wrap (-(x : Int))) * 285870213051353865) / 288230376151711744 = ((a * 285870213051353865 % 18446744073709551616 / 288230376151711744 : Nat) : Int) := by
  have e1 : -(x : Int) % 18446744073709551616 = ((18446744073709551616 - x : Nat) : Int) := by omega
  rw [IntKind.wrap_u64, IntKind.wrap_u64, e1, u64_and_nat x _ hx (by omega), hlow]
  omega

set_option maxRecDepth 100000 in
set_option maxHeartbeats 1000000 in
theorem tz64_core (x k idx : Nat) (w : World) (hx0 : ((x : Int) == 0) = false)
    (key : IntKind.u64.wrap (bits BinOp.and IntKind.u64 (x : Int) (IntKind.u64.wrap (-(x : Int))) * 285870213051353865) / 288230376151711744 = (idx : Int))
    (hi : idx < 64) (hk : k < 64) (hcell : w.cell? ⟨0, idx, none⟩ = some (.int .u8 k)) :
    Calls Tryd.prog 61 #[.int .u64 x] w fun e w' => e = .returned (.int .i64 k) ∧ w' = w := by
  go_enter Tryd.func61, Tryd.ntmps61
  go_wp2_with (simp only [key])
  go_ret
  exact ⟨rfl, rfl⟩

theorem tz64_any (x : Nat) (w : World) (hx : x < 18446744073709551616) (hx0 : x ≠ 0) (hT : Tab64 w) :
    Calls Tryd.prog 61 #[.int .u64 x] w fun e w' => e = .returned (.int .i64 (Lib.ctz 64 x : Nat)) ∧ w' = w := by
  obtain ⟨hlow, hk⟩ := Lib.lowest_bit 64 x hx0 hx
  obtain ⟨hi, htab⟩ := Lib.deBruijn64_at _ hk
  have hcell := hT _ hi
  rw [htab] at hcell
  exact tz64_core x _ _ w (by simp; omega) (tz64_key x _ hx hx0 hlow) hi hk hcell

end Go.Proofs.YtenhippcjnemcaaDoor

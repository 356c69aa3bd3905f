/- The contracts of pack's width, fieldWidth, windows; pick (64 bits). -/
import Derived.Test.YtpdaklklhoenhaaGreatDoorT1A
import Derived.Test.YtpdaklklhoenhaaGreatDoorP1A
import Derived.Laws.Tables
import Derived.Deep.RegionHeld3
import Derived.Great.Walk
/- math/bits: Len64 of any number, TrailingZeros64 (the library's table lies: Tab64). -/
namespace Go.Proofs.YtpdaklklhoenhaaGreatDoor
open Go.RowKit
open M
set_option linter.unusedVariables false
set_option linter.unusedSimpArgs false

theorem ret_int {k : IntKind} {a b : Int} (h : a = b) : Ending.returned (.int k a) = .returned (.int k b) := by rw [h]

set_option maxRecDepth 1000000 in
set_option maxHeartbeats 4000000 in
theorem len64_a (x : Nat) (w : World) (h : x < 256) : Calls Tryz.prog 202 #[.int .u64 x] w fun e w' => e = .returned (.int .i64 (bitLen x : Nat)) ∧ w' = w := by
  have h0' : decide ((4294967296 : Int) ≤ (x : Int)) = false := by simp; omega
  have h1' : decide ((65536 : Int) ≤ (x : Int)) = false := by simp; omega
  have h2' : ¬ (256 : Int) ≤ (x : Int) := by omega
  have Hz := hide (bitLen_le8 x (by omega))
  go_enter Tryz.func202, Tryz.ntmps202
  go_wp2_with fail
  go_ret
  refine ⟨?_, rfl⟩
  apply ret_int
  rw [len8tab_get]
  have q1 := Hz.out
  simp only [wrap64]
  clear h0' h1' h2' h
  omega

set_option maxRecDepth 1000000 in
set_option maxHeartbeats 4000000 in
theorem len64_b (x : Nat) (w : World) (h : 256 ≤ x) (h2 : x < 65536) : Calls Tryz.prog 202 #[.int .u64 x] w fun e w' => e = .returned (.int .i64 (bitLen x : Nat)) ∧ w' = w := by
  have h0' : decide ((4294967296 : Int) ≤ (x : Int)) = false := by simp; omega
  have h1' : decide ((65536 : Int) ≤ (x : Int)) = false := by simp; omega
  have h2' : (256 : Int) ≤ (x : Int) := by omega
  obtain ⟨z, hz, hz'⟩ : ∃ z : Nat, z = x / 256 ∧ (x : Int) / 256 = (z : Int) := ⟨x / 256, rfl, by simp⟩
  have Hy : Hid (bitLen x = 8 + bitLen z) := by show _ = _; rw [hz]; exact bitLen_shift x 8 (by omega)
  have hzl : z < 256 := by omega
  have Hz := hide (bitLen_le8 z hzl)
  clear hz h h2
  go_enter Tryz.func202, Tryz.ntmps202
  go_wp2_with fail
  go_ret
  refine ⟨?_, rfl⟩
  apply ret_int
  rw [len8tab_get]
  have q1 := Hz.out
  have q2 := Hy.out
  simp only [wrap64]
  clear h0' h1' h2' hz'
  omega

set_option maxRecDepth 1000000 in
set_option maxHeartbeats 4000000 in
theorem len64_c (x : Nat) (w : World) (hx : x < 4294967296) (h : 65536 ≤ x) (h2 : x / 65536 < 256) : Calls Tryz.prog 202 #[.int .u64 x] w fun e w' => e = .returned (.int .i64 (bitLen x : Nat)) ∧ w' = w := by
  have h0' : decide ((4294967296 : Int) ≤ (x : Int)) = false := by simp; omega
  have h1' : (65536 : Int) ≤ (x : Int) := by omega
  obtain ⟨y, hy, hy'⟩ : ∃ y : Nat, y = x / 65536 ∧ (x : Int) / 65536 = (y : Int) := ⟨x / 65536, rfl, by simp⟩
  have Hx : Hid (bitLen x = 16 + bitLen y) := by show _ = _; rw [hy]; exact bitLen_shift x 16 (by omega)
  have h2' : ¬ (256 : Int) ≤ (y : Int) := by omega
  have hy2 : y < 256 := by omega
  have Hz := hide (bitLen_le8 y (by omega))
  clear hy h2 h hx
  go_enter Tryz.func202, Tryz.ntmps202
  go_wp2_with fail
  go_ret
  refine ⟨?_, rfl⟩
  apply ret_int
  rw [len8tab_get]
  have q1 := Hz.out
  have q2 := Hx.out
  simp only [wrap64]
  clear h0' h1' h2' hy'
  omega

set_option maxRecDepth 1000000 in
set_option maxHeartbeats 4000000 in
theorem len64_d (x : Nat) (w : World) (hx : x < 4294967296) (h : 65536 ≤ x) (h2 : 256 ≤ x / 65536) : Calls Tryz.prog 202 #[.int .u64 x] w fun e w' => e = .returned (.int .i64 (bitLen x : Nat)) ∧ w' = w := by
  have h0' : decide ((4294967296 : Int) ≤ (x : Int)) = false := by simp; omega
  have h1' : (65536 : Int) ≤ (x : Int) := by omega
  obtain ⟨y, hy, hy'⟩ : ∃ y : Nat, y = x / 65536 ∧ (x : Int) / 65536 = (y : Int) := ⟨x / 65536, rfl, by simp⟩
  have Hx : Hid (bitLen x = 16 + bitLen y) := by show _ = _; rw [hy]; exact bitLen_shift x 16 (by omega)
  have h2' : (256 : Int) ≤ (y : Int) := by omega
  have hyl : y < 65536 := by omega
  clear hy h2 h hx
  obtain ⟨z, hz, hz'⟩ : ∃ z : Nat, z = y / 256 ∧ (y : Int) / 256 = (z : Int) := ⟨y / 256, rfl, by simp⟩
  have Hy : Hid (bitLen y = 8 + bitLen z) := by show _ = _; rw [hz]; exact bitLen_shift y 8 (by omega)
  have hzl : z < 256 := by omega
  have Hz := hide (bitLen_le8 z hzl)
  clear hz hyl
  go_enter Tryz.func202, Tryz.ntmps202
  go_wp2_with fail
  go_ret
  refine ⟨?_, rfl⟩
  apply ret_int
  rw [len8tab_get]
  have q1 := Hz.out
  have q2 := Hx.out
  have q3 := Hy.out
  simp only [wrap64]
  clear h0' h1' h2' hy' hz'
  omega

theorem len64_any (x : Nat) (w : World) (hx : x < 4294967296) : Calls Tryz.prog 202 #[.int .u64 x] w fun e w' => e = .returned (.int .i64 (bitLen x : Nat)) ∧ w' = w := by
  by_cases h : x < 256
  · exact len64_a x w h
  · by_cases h1 : x < 65536
    · exact len64_b x w (by omega) h1
    · by_cases h2 : x / 65536 < 256
      · exact len64_c x w hx (by omega) h2
      · exact len64_d x w hx (by omega) (by omega)

set_option maxRecDepth 1000000 in
set_option maxHeartbeats 4000000 in
theorem len64_e (x : Nat) (w : World) (h : 4294967296 ≤ x) (hx : x < 18446744073709551616) (h1 : x / 4294967296 < 256) : Calls Tryz.prog 202 #[.int .u64 x] w fun e w' => e = .returned (.int .i64 (bitLen x : Nat)) ∧ w' = w := by
  have h0' : decide ((4294967296 : Int) ≤ (x : Int)) = true := by simp; omega
  obtain ⟨t, ht, ht'⟩ : ∃ t : Nat, t = x / 4294967296 ∧ (x : Int) / 4294967296 = (t : Int) := ⟨x / 4294967296, rfl, by simp⟩
  have Ht : Hid (bitLen x = 32 + bitLen t) := by show _ = _; rw [ht]; exact bitLen_shift x 32 (by omega)
  have htl : t < 256 := by omega
  clear ht h hx h1
  have h1' : decide ((65536 : Int) ≤ (t : Int)) = false := by simp; omega
  have h2' : ¬ (256 : Int) ≤ (t : Int) := by omega
  have Hz := hide (bitLen_le8 t htl)
  go_enter Tryz.func202, Tryz.ntmps202
  go_wp2_with (simp only [ht'])
  go_ret
  refine ⟨?_, rfl⟩
  apply ret_int
  rw [len8tab_get]
  have q0 := Ht.out
  have q1 := Hz.out
  simp only [wrap64]
  clear h0' h1' h2' ht'
  omega

set_option maxRecDepth 1000000 in
set_option maxHeartbeats 4000000 in
theorem len64_f (x : Nat) (w : World) (h : 4294967296 ≤ x) (hx : x < 18446744073709551616) (h1 : 256 ≤ x / 4294967296) (h3 : x / 4294967296 < 65536) : Calls Tryz.prog 202 #[.int .u64 x] w fun e w' => e = .returned (.int .i64 (bitLen x : Nat)) ∧ w' = w := by
  have h0' : decide ((4294967296 : Int) ≤ (x : Int)) = true := by simp; omega
  obtain ⟨t, ht, ht'⟩ : ∃ t : Nat, t = x / 4294967296 ∧ (x : Int) / 4294967296 = (t : Int) := ⟨x / 4294967296, rfl, by simp⟩
  have Ht : Hid (bitLen x = 32 + bitLen t) := by show _ = _; rw [ht]; exact bitLen_shift x 32 (by omega)
  have htl : 256 ≤ t ∧ t < 65536 := by omega
  clear ht h hx h1 h3
  have h1' : decide ((65536 : Int) ≤ (t : Int)) = false := by simp; omega
  have h2' : (256 : Int) ≤ (t : Int) := by omega
  obtain ⟨z, hz, hz'⟩ : ∃ z : Nat, z = t / 256 ∧ (t : Int) / 256 = (z : Int) := ⟨t / 256, rfl, by simp⟩
  have Hy : Hid (bitLen t = 8 + bitLen z) := by show _ = _; rw [hz]; exact bitLen_shift t 8 (by omega)
  have hzl : z < 256 := by omega
  have Hz := hide (bitLen_le8 z hzl)
  clear hz htl
  go_enter Tryz.func202, Tryz.ntmps202
  go_wp2_with (simp only [ht', hz'])
  go_ret
  refine ⟨?_, rfl⟩
  apply ret_int
  rw [len8tab_get]
  have q0 := Ht.out
  have q1 := Hz.out
  have q2 := Hy.out
  clear hz'
  simp only [wrap64]
  clear h0' h1' h2' ht'
  omega

set_option maxRecDepth 1000000 in
set_option maxHeartbeats 4000000 in
theorem len64_g (x : Nat) (w : World) (h : 4294967296 ≤ x) (hx : x < 18446744073709551616) (h1 : 65536 ≤ x / 4294967296) (h3 : x / 4294967296 / 65536 < 256) : Calls Tryz.prog 202 #[.int .u64 x] w fun e w' => e = .returned (.int .i64 (bitLen x : Nat)) ∧ w' = w := by
  have h0' : decide ((4294967296 : Int) ≤ (x : Int)) = true := by simp; omega
  obtain ⟨t, ht, ht'⟩ : ∃ t : Nat, t = x / 4294967296 ∧ (x : Int) / 4294967296 = (t : Int) := ⟨x / 4294967296, rfl, by simp⟩
  have Ht : Hid (bitLen x = 32 + bitLen t) := by show _ = _; rw [ht]; exact bitLen_shift x 32 (by omega)
  have htl : 65536 ≤ t ∧ t / 65536 < 256 := by omega
  clear ht h hx h1 h3
  have h1' : decide ((65536 : Int) ≤ (t : Int)) = true := by simp; omega
  obtain ⟨y, hy, hy'⟩ : ∃ y : Nat, y = t / 65536 ∧ (t : Int) / 65536 = (y : Int) := ⟨t / 65536, rfl, by simp⟩
  have Hy : Hid (bitLen t = 16 + bitLen y) := by show _ = _; rw [hy]; exact bitLen_shift t 16 (by omega)
  have h2' : ¬ (256 : Int) ≤ (y : Int) := by omega
  have hyl : y < 256 := by omega
  have Hz := hide (bitLen_le8 y hyl)
  clear hy htl
  go_enter Tryz.func202, Tryz.ntmps202
  go_wp2_with (simp only [ht', hy'])
  go_ret
  refine ⟨?_, rfl⟩
  apply ret_int
  rw [len8tab_get]
  have q0 := Ht.out
  have q1 := Hz.out
  have q2 := Hy.out
  clear hy'
  simp only [wrap64]
  clear h0' h1' h2' ht'
  omega

set_option maxRecDepth 1000000 in
set_option maxHeartbeats 4000000 in
theorem len64_h (x : Nat) (w : World) (h : 4294967296 ≤ x) (hx : x < 18446744073709551616) (h1 : 65536 ≤ x / 4294967296) (h3 : 256 ≤ x / 4294967296 / 65536) : Calls Tryz.prog 202 #[.int .u64 x] w fun e w' => e = .returned (.int .i64 (bitLen x : Nat)) ∧ w' = w := by
  have h0' : decide ((4294967296 : Int) ≤ (x : Int)) = true := by simp; omega
  obtain ⟨t, ht, ht'⟩ : ∃ t : Nat, t = x / 4294967296 ∧ (x : Int) / 4294967296 = (t : Int) := ⟨x / 4294967296, rfl, by simp⟩
  have Ht : Hid (bitLen x = 32 + bitLen t) := by show _ = _; rw [ht]; exact bitLen_shift x 32 (by omega)
  have htl : 65536 ≤ t ∧ 256 ≤ t / 65536 ∧ t < 4294967296 := by omega
  clear ht h hx h1 h3
  have h1' : decide ((65536 : Int) ≤ (t : Int)) = true := by simp; omega
  obtain ⟨y, hy, hy'⟩ : ∃ y : Nat, y = t / 65536 ∧ (t : Int) / 65536 = (y : Int) := ⟨t / 65536, rfl, by simp⟩
  have Hx : Hid (bitLen t = 16 + bitLen y) := by show _ = _; rw [hy]; exact bitLen_shift t 16 (by omega)
  have h2' : (256 : Int) ≤ (y : Int) := by omega
  have hyl : y < 65536 := by omega
  clear hy htl
  obtain ⟨z, hz, hz'⟩ : ∃ z : Nat, z = y / 256 ∧ (y : Int) / 256 = (z : Int) := ⟨y / 256, rfl, by simp⟩
  have Hy : Hid (bitLen y = 8 + bitLen z) := by show _ = _; rw [hz]; exact bitLen_shift y 8 (by omega)
  have hzl : z < 256 := by omega
  have Hz := hide (bitLen_le8 z hzl)
  clear hz hyl
  go_enter Tryz.func202, Tryz.ntmps202
  go_wp2_with (simp only [ht', hy', hz'])
  go_ret
  refine ⟨?_, rfl⟩
  apply ret_int
  rw [len8tab_get]
  have q0 := Ht.out
  have q1 := Hz.out
  have q2 := Hy.out
  have q3 := Hx.out
  clear hy' hz'
  simp only [wrap64]
  clear h0' h1' h2' ht'
  omega

theorem len64_all (x : Nat) (w : World) (hx : x < 18446744073709551616) : Calls Tryz.prog 202 #[.int .u64 x] w fun e w' => e = .returned (.int .i64 (bitLen x : Nat)) ∧ w' = w := by
  by_cases h0 : x < 4294967296
  · exact len64_any x w h0
  · by_cases h : x / 4294967296 < 256
    · exact len64_e x w (by omega) hx h
    · by_cases h1 : x / 4294967296 < 65536
      · exact len64_f x w (by omega) hx (by omega) h1
      · by_cases h2 : x / 4294967296 / 65536 < 256
        · exact len64_g x w (by omega) hx (by omega) h2
        · exact len64_h x w (by omega) hx (by omega) (by omega)

/-- The library's table lies as its text lays it. -/
def Tab64 (w : World) : Prop := ∀ j, j < 64 → w.cell? ⟨2, j, none⟩ = some (.int .u8 (Lib.deBruijn64tab.getD j 0 : Nat))

theorem Tab64.below {w w' : World} (h : Tab64 w) (hb : Below w.heap.size w w') : Tab64 w' := fun j hj => by
  rw [hb.cell (p := ⟨2, j, none⟩) (block_lt_of_cell (h j hj))]; exact h j hj

theorem Tab64.below' {B : Nat} {w w' : World} (h : Tab64 w) (hb : Below B w w') (hB : 2 < B) : Tab64 w' := fun j hj => by
  rw [hb.cell (p := ⟨2, j, none⟩) hB]; exact h j hj

theorem tz64_key (x a : Nat) (hx : x < 18446744073709551616) (hx0 : x ≠ 0) (hlow : x &&& (18446744073709551616 - x) = a) :
    IntKind.u64.wrap (bits BinOp.and IntKind.u64 (x : Int) (IntKind.u64.wrap (-(x : Int))) * 285870213051353865) / 288230376151711744 = ((a * 285870213051353865 % 18446744073709551616 / 288230376151711744 : Nat) : Int) := by
  have e1 : -(x : Int) % 18446744073709551616 = ((18446744073709551616 - x : Nat) : Int) := by omega
  rw [IntKind.wrap_u64, IntKind.wrap_u64, e1, u64_and_nat x _ hx (by omega), hlow]
  omega

set_option maxRecDepth 100000 in
set_option maxHeartbeats 1000000 in
theorem tz64_core (x k idx : Nat) (w : World) (hx0 : ((x : Int) == 0) = false)
    (key : IntKind.u64.wrap (bits BinOp.and IntKind.u64 (x : Int) (IntKind.u64.wrap (-(x : Int))) * 285870213051353865) / 288230376151711744 = (idx : Int))
    (hi : idx < 64) (hk : k < 64) (hcell : w.cell? ⟨2, idx, none⟩ = some (.int .u8 k)) :
    Calls Tryz.prog 232 #[.int .u64 x] w fun e w' => e = .returned (.int .i64 k) ∧ w' = w := by
  go_enter Tryz.func232, Tryz.ntmps232
  go_wp2_with (simp only [key])
  go_ret
  exact ⟨rfl, rfl⟩

theorem tz64_any (x : Nat) (w : World) (hx : x < 18446744073709551616) (hx0 : x ≠ 0) (hT : Tab64 w) :
    Calls Tryz.prog 232 #[.int .u64 x] w fun e w' => e = .returned (.int .i64 (Lib.ctz 64 x : Nat)) ∧ w' = w := by
  obtain ⟨hlow, hk⟩ := Lib.lowest_bit 64 x hx0 hx
  obtain ⟨hi, htab⟩ := Lib.deBruijn64_at _ hk
  have hcell := hT _ hi
  rw [htab] at hcell
  exact tz64_core x _ _ w (by simp; omega) (tz64_key x _ hx hx0 hlow) hi hk hcell

end Go.Proofs.YtpdaklklhoenhaaGreatDoor

/- Readings, whatever the Reader's state (Tk): Bits, Bit. -/
namespace Go.Proofs.YtpdaklklhoenhaaGreatDoor
open Go.RowKit
open M
set_option linter.unusedVariables false

theorem below_drewN {B : Nat} {w w' : World} (h : Below B w w') (m : Nat) : Below B w (w'.drewN m) := ⟨h.os, h.tape, h.output, h.size, h.block⟩

theorem undrew {B : Nat} {w w' : World} (h : Below B w.drew w') : Below B w w' := ⟨h.os, h.tape, h.output, h.size, h.block⟩

theorem next_below {G : Nat} {w w1 x wz : World} (h : Below G w w1 ∧ G ≤ w1.heap.size) (hbz : Below x.heap.size x wz) (hx : Below G w1 x) : Below G w wz ∧ G ≤ wz.heap.size :=
  ⟨(h.1.trans hx).trans (hbz.mono (Nat.le_trans h.2 hx.size)), Nat.le_trans h.2 (Nat.le_trans hx.size hbz.size)⟩

theorem set_two {w : World} {g : Nat} {u u' v v' : Value} (h0 : w.cell? ⟨g, 0, none⟩ = some u) (h1 : w.cell? ⟨g, 1, none⟩ = some u') :
    ((w.setCell ⟨g, 0, none⟩ v).setCell ⟨g, 1, none⟩ v').cell? ⟨g, 0, none⟩ = some v ∧ ((w.setCell ⟨g, 0, none⟩ v).setCell ⟨g, 1, none⟩ v').cell? ⟨g, 1, none⟩ = some v' :=
  ⟨by rw [cell_setCell_ne _ _ _ _ _ (by omega), cell_setCell_eq _ _ _ _ _ h0], by rw [cell_setCell_eq _ _ _ _ u' (by rw [cell_setCell_ne _ _ _ _ _ (by omega)]; exact h1)]⟩

/-- Behind a reading: the state; where it was not refused, the bits that it took; it was not refused where there are enough. -/
structure Tk (w w' : World) (b off : Nat) (s : ByteArray) (a : Nat) (e0 : Int) (a' : Nat) (e1 : Int) (laid : List Bool) : Prop where
  rd : Rd w' b off s a' e1
  only : Only b off (off + 3) w w'
  sound : e1 = 0 → e0 = 0 ∧ (rb s).take a' = (rb s).take a ++ laid
  full : e0 = 0 → a + laid.length ≤ (rb s).length → e1 = 0

theorem rb_length (s : ByteArray) : (rb s).length = 8 * s.size := by simp [rb]

theorem Tk.trans {w w1 w2 : World} {b off : Nat} {s : ByteArray} {a a1 a2 : Nat} {e0 e1 e2 : Int} {l1 l2 : List Bool} (ha : a ≤ 8 * s.size) (h : Tk w w1 b off s a e0 a1 e1 l1) (k : Tk w1 w2 b off s a1 e1 a2 e2 l2) : Tk w w2 b off s a e0 a2 e2 (l1 ++ l2) := by
  refine ⟨k.rd, h.only.trans k.only, fun he => ?_, fun he hl => ?_⟩
  · obtain ⟨h1, h2⟩ := k.sound he
    obtain ⟨h3, h4⟩ := h.sound h1
    exact ⟨h3, by rw [h2, h4, List.append_assoc]⟩
  · rw [List.length_append] at hl
    have e1 := h.full he (by omega)
    obtain ⟨_, h4⟩ := h.sound e1
    have := tkn_len' _ _ _ _ h4 (by rw [rb_length]; exact ha) (by rw [rb_length]; exact h.rd.le)
    exact k.full e1 (by omega)

/-- What Bits tells. -/
def BitsEnd (w : World) (b off : Nat) (s : ByteArray) (a : Nat) (e0 : Int) (n : Nat) (e : Ending) (w' : World) : Prop :=
  ∃ (x a' : Nat) (e1 : Int), e = .returned (.int .u64 (x : Int)) ∧ x < 2 ^ n ∧ Tk w w' b off s a e0 a' e1 (bitsOf x n)

theorem tk_bits (b off : Nat) (s : ByteArray) (a n : Nat) (e0 : Int) (w : World) (h : Rd w b off s a e0) (hn : n ≤ 64) :
    Calls Tryz.prog 81 #[.pointer (some ⟨b, off, none⟩), .int .i64 n] w (BitsEnd w b off s a e0 n) := by
  have hpos : 0 < 2 ^ n := Nat.pos_of_ne_zero (by simp)
  by_cases he : e0 = 0
  · subst he
    by_cases hs : a + n ≤ 8 * s.size
    · refine (rbits_ok b off s a n w h hn hs).mono fun e w' ⟨h1, h2, h3⟩ => ?_
      have hlen : (((rb s).drop a).take n).length = n := by simp [rb]; omega
      have hbits := bitsOf_num (((rb s).drop a).take n)
      rw [hlen] at hbits
      refine ⟨_, a + n, 0, h1, ?_, h2, h3, fun _ => ⟨rfl, take_more _ _ _ _ hbits.symm⟩, fun _ _ => rfl⟩
      have := num_lt (((rb s).drop a).take n)
      rwa [hlen] at this
    · refine (rbits_short b off s a n w h hn (by omega)).mono fun e w' ⟨h1, h2, h3⟩ => ?_
      exact ⟨0, a, 12, h1, hpos, h2, h3, fun h => by omega, fun _ hl => by rw [bitsOf_length, rb_length] at hl; omega⟩
  · refine (rbits_bad b off s a n e0 w h (by rw [beq_eq_false_iff_ne]; exact he) (by omega) (by omega)).mono fun e w' ⟨h1, h2, h3⟩ => ?_
    exact ⟨0, a, e0, h1, hpos, h2, h3, fun h => absurd h he, fun h _ => absurd h he⟩

/-- What Bit tells: a 1 is told only where it was read. -/
def BitEnd (w : World) (b off : Nat) (s : ByteArray) (a : Nat) (e0 : Int) (e : Ending) (w' : World) : Prop :=
  ∃ (v : Bool) (a' : Nat) (e1 : Int), e = .returned (.bool v) ∧ Tk w w' b off s a e0 a' e1 [v] ∧ (v = true → e1 = 0)

theorem tk_bit (b off : Nat) (s : ByteArray) (a : Nat) (e0 : Int) (w : World) (h : Rd w b off s a e0) :
    Calls Tryz.prog 112 #[.pointer (some ⟨b, off, none⟩)] w (BitEnd w b off s a e0) := by
  by_cases he : e0 = 0
  · subst he
    by_cases hs : a + 1 ≤ 8 * s.size
    · refine (rbit_of b off w _ _ (rbits_ok b off s a 1 w h (by omega) hs)).mono fun e w' ⟨h1, h2, h3⟩ => ?_
      have hin : a < (rb s).length := by simp [rb]; omega
      refine ⟨_, a + 1, 0, h1, ⟨h2, h3, fun _ => ⟨rfl, take_more _ _ _ _ ?_⟩, fun _ _ => rfl⟩, fun _ => rfl⟩
      rw [bit_of _ _ hin, List.drop_eq_getElem_cons hin]
      cases (rb s)[a] <;> rfl
    · refine (rbit_of b off w 0 _ (rbits_short b off s a 1 w h (by omega) (by omega))).mono fun e w' ⟨h1, h2, h3⟩ => ?_
      exact ⟨_, a, 12, h1, ⟨h2, h3, fun h => by omega, fun _ hl => by rw [rb_length] at hl; simp at hl; omega⟩, fun h => by simp at h⟩
  · refine (rbit_of b off w 0 _ (rbits_bad b off s a 1 e0 w h (by rw [beq_eq_false_iff_ne]; exact he) (by omega) (by omega))).mono fun e w' ⟨h1, h2, h3⟩ => ?_
    exact ⟨_, a, e0, h1, ⟨h2, h3, fun h => absurd h he, fun h _ => absurd h he⟩, fun h => by simp at h⟩


theorem Only.setOther' {b lo hi : Nat} {u w : World} (h : Only b lo hi u w) (g i : Nat) (hg : u.heap.size ≤ g) (hb : g ≠ b) (v : Value) : Only b lo hi u (w.setCell ⟨g, i, none⟩ v) := by
  have hbk : ∀ k, k ≠ g → (w.setCell ⟨g, i, none⟩ v).heap[k]? = w.heap[k]? := fun k hk => Below.heap_setCell _ _ _ _ hk
  refine ⟨h.os, h.tape, h.output, Nat.le_trans h.size (by simp [World.setCell]), fun k hk hb => ?_, fun j hj => ?_, fun j => ?_⟩
  · rw [hbk k (by omega)]; exact h.block k hk hb
  · rw [World.cell?_of_block (w := w) (hbk b (by omega))]; exact h.cell j hj
  · rw [frozen_setCell]; exact h.frozen j

theorem Rd.setOther' {w : World} {b off : Nat} {s : ByteArray} {a : Nat} {e : Int} (h : Rd w b off s a e) (g i : Nat) (hb : g ≠ b) (v : Value) : Rd (w.setCell ⟨g, i, none⟩ v) b off s a e := by
  have hbk : (w.setCell ⟨g, i, none⟩ v).heap[b]? = w.heap[b]? := Below.heap_setCell _ _ _ _ (fun e => hb e.symm)
  have hc : ∀ j, (w.setCell ⟨g, i, none⟩ v).cell? ⟨b, j, none⟩ = w.cell? ⟨b, j, none⟩ := fun j => World.cell?_of_block (w := w) hbk
  exact ⟨by rw [hc]; exact h.text, by rw [hc]; exact h.at_, by rw [hc]; exact h.err, fun j hj => by rw [frozen_setCell]; exact h.fz j hj, h.size, h.le⟩


end Go.Proofs.YtpdaklklhoenhaaGreatDoor

namespace Go.Proofs.YtpdaklklhoenhaaGreatDoor
open Go.RowKit
open M
set_option linter.unusedVariables false
set_option linter.unusedSimpArgs false

theorem width64_any (w : World) : Calls Tryz.prog 183 #[] w fun e w' => e = .returned (.int .i64 64) ∧ w' = w := by
  have hx : bits BinOp.xor IntKind.u64 0 18446744073709551615 = 18446744073709551615 := by decide +kernel
  have HL := hide (len64_all 18446744073709551615 w (by omega))
  rw [show bitLen 18446744073709551615 = 64 from by decide +kernel] at HL
  go_enter Tryz.func183, Tryz.ntmps183
  go_wp2_with fail
  refine HL.out.mono ?_
  rintro e w1 ⟨rfl, rfl⟩
  go_wp2_with fail
  go_ret
  exact ⟨rfl, rfl⟩

theorem fieldWidth64_any (w : World) : Calls Tryz.prog 228 #[] w fun e w' => e = .returned (.int .i64 6) ∧ w' = w := by
  have HL := hide (len64_all 63 w (by omega))
  rw [show bitLen 63 = 6 from by decide +kernel] at HL
  go_enter Tryz.func228, Tryz.ntmps228
  go_wp2_with fail
  refine (width64_any w).mono ?_
  rintro e w1 ⟨rfl, rfl⟩
  go_wp2_with fail
  refine HL.out.mono ?_
  rintro e w1 ⟨rfl, rfl⟩
  go_wp2_with fail
  go_ret
  exact ⟨rfl, rfl⟩

/-- A window as a value. -/
def wn64 (L N : Nat) : Value := .agg #[.int .i64 (L : Int), .int .i64 (N : Int)]

theorem is_struct64 {o p : Option TypeDesc} (e : p = o) (h : (match o with | some (.struct _) => true | _ => false) = true) : ∃ fs, p = some (.struct fs) := by
  subst e
  cases p with
  | none => simp at h
  | some d => cases d <;> first | exact ⟨_, rfl⟩ | simp at h

set_option maxRecDepth 100000 in
set_option maxHeartbeats 1000000 in
theorem windowOf64_any (x : Nat) (w : World) (hx : x < 18446744073709551616) (h0 : x ≠ 0) (hT : Tab64 w) : Calls Tryz.prog 229 #[.int .u64 x] w fun e w' => e = .returned (.agg #[.int .i64 ((64 - bitLen x : Nat) : Int), .int .i64 (wl x : Int)]) ∧ Below w.heap.size w w' := by
  have hb := bitLen_le x 64 hx
  have ht := tz_lt x h0 (by omega)
  obtain ⟨B, hB⟩ : ∃ B, B = bitLen x := ⟨_, rfl⟩
  obtain ⟨Z, hZ⟩ : ∃ Z, Z = tz x := ⟨_, rfl⟩
  obtain ⟨L, hL⟩ : ∃ L, L = 64 - bitLen x := ⟨_, rfl⟩
  obtain ⟨N, hN⟩ : ∃ N, N = wl x := ⟨_, rfl⟩
  have q1 : (64 : Int) - (B : Int) = (L : Int) := by omega
  have q2 : wl x = bitLen x - tz x := rfl
  have q3 : (64 : Int) - (L : Int) = (B : Int) := by omega
  have q4 : (B : Int) - (Z : Int) = (N : Int) := by omega
  have HL : Hid (∀ w : World, Calls Tryz.prog 202 #[.int .u64 x] w fun e w' => e = .returned (.int .i64 (B : Int)) ∧ w' = w) := fun w => by rw [hB]; exact len64_all x w (by omega)
  have HZ : Hid (∀ w : World, Tab64 w → Calls Tryz.prog 232 #[.int .u64 x] w fun e w' => e = .returned (.int .i64 (Z : Int)) ∧ w' = w) := fun w h => by rw [hZ]; exact tz64_any x w (by omega) h0 h
  rw [← hL, ← hN]
  have r0 : IntKind.u64.wrap (x : Int) = (x : Int) := by rw [IntKind.wrap_u64]; omega
  have HT : Hid (Tab64 (w.alloc (.cells #[.int .i64 0, .int .i64 0] 225))) := hT.below ((Below.refl _ w).alloc (Nat.le_refl _) _)
  have HX := hide hx
  clear hB hZ hL hN q2 hT hx hb ht h0
  go_enter Tryz.func229, Tryz.ntmps229
  go_wp2_with fail
  refine (width64_any _).mono ?_
  rintro e w1 ⟨rfl, rfl⟩
  go_wp2_with fail
  refine (HL.out _).mono ?_
  rintro e w1 ⟨rfl, rfl⟩
  go_wp2_with fail
  refine (HZ.out _ HT.out).mono ?_
  rintro e w1 ⟨rfl, rfl⟩
  go_wp2_with fail
  refine (width64_any _).mono ?_
  rintro e w1 ⟨rfl, rfl⟩
  go_wp2_with fail
  obtain ⟨fs, hu⟩ := is_struct64 (show Tryz.prog.underlying 225 = Tryz.prog.underlying 225 from rfl) (by kernel_rfl)
  first
    | (refine bodyPost_ret (results_cell_row rfl _ _ w.heap.size _ _ (0, 0) (.struct fs) rfl (heap_alloc_new w _) hu rfl (by kernel_rfl)) rfl ?_
       exact ⟨rfl, ((Below.refl _ w).alloc (Nat.le_refl _) _)⟩)
    | trace_state

theorem behind64_any (L N s : Nat) (w : World) (h : L + N + s = 64) : Calls Tryz.prog 214 #[wn64 L N] w fun e w' => e = .returned (.int .i64 (s : Int)) ∧ Below w.heap.size w w' := by
  have q1 : (64 : Int) - (L : Int) = ((N + s : Nat) : Int) := by omega
  have q2 : ((N + s : Nat) : Int) - (N : Int) = (s : Int) := by omega
  generalize N + s = Z at *
  unfold wn64
  go_enter Tryz.func214, Tryz.ntmps214
  go_wp2_with fail
  go_quiet ((go_at_call 183; exact Calls.quiet_of_same (width64_any _)))
  go_wp2_with fail
  go_ret
  exact ⟨rfl, below_drewN ((Below.refl _ w).alloc (Nat.le_refl _) _) _⟩

theorem behindZ64_any (L N : Nat) (z : Int) (w : World) (hL : L ≤ 64) (hN : N ≤ 64) (h : z = (64 : Int) - L - N) : Calls Tryz.prog 214 #[wn64 L N] w fun e w' => e = .returned (.int .i64 z) ∧ Below w.heap.size w w' := by
  obtain ⟨y, hy⟩ : ∃ y : Int, y = (64 : Int) - L := ⟨_, rfl⟩
  have q1 : (64 : Int) - (L : Int) = y := by omega
  have q2 : y - (N : Int) = z := by omega
  have r1 : wrap64 y = y := by unfold wrap64; omega
  have r2 : wrap64 z = z := by unfold wrap64; omega
  have r3 : IntKind.i64.wrap y = y := by rw [IntKind.wrap_i64]; omega
  have r4 : IntKind.i64.wrap z = z := by rw [IntKind.wrap_i64]; omega
  have HH := hide h
  have HY := hide hy
  clear h hy
  unfold wn64
  go_enter Tryz.func214, Tryz.ntmps214
  go_wp2_with fail
  go_quiet ((go_at_call 183; exact Calls.quiet_of_same (width64_any _)))
  go_wp2_with fail
  go_ret
  exact ⟨rfl, below_drewN ((Below.refl _ w).alloc (Nat.le_refl _) _) _⟩

/-- How many bits stand behind a window. -/
def bh64 (L N : Nat) : Nat := 64 - L - N
theorem behindN64_any (L N : Nat) (w : World) (h : L + N ≤ 64) : Calls Tryz.prog 214 #[.agg #[.int .i64 (L : Int), .int .i64 (N : Int)]] w fun e w' => e = .returned (.int .i64 (bh64 L N : Int)) ∧ Below w.heap.size w w' := behind64_any L N _ w (by unfold bh64; omega)

/-- A window that is none, or lies within a value, stands if it is one. -/
theorem stands64_any (L N : Nat) (w : World) (h : L + N ≤ 64) : Calls Tryz.prog 213 #[wn64 L N] w fun e w' => e = .returned (.bool (decide (0 < N))) ∧ Below w.heap.size w w' := by
  by_cases h0 : N = 0
  · subst h0
    unfold wn64
    go_enter Tryz.func213, Tryz.ntmps213
    go_wp2_with fail
    go_ret
    exact ⟨rfl, ((Below.refl _ w).alloc (Nat.le_refl _) _)⟩
  · have hp : decide ((0 : Int) < (N : Int)) = true := by simp; omega
    rw [show decide (0 < N) = true from by simp; omega]
    have HB : Hid (∀ w, Calls Tryz.prog 214 #[.agg #[.int .i64 (L : Int), .int .i64 (N : Int)]] w fun e w' => e = .returned (.int .i64 ((64 - L - N : Nat) : Int)) ∧ Below w.heap.size w w') := fun w => behind64_any L N (64 - L - N) w (by omega)
    generalize 64 - L - N = s at *
    unfold wn64
    go_enter Tryz.func213, Tryz.ntmps213
    go_wp2_with fail
    refine (HB.out _).mono ?_
    rintro e w1 ⟨rfl, hb⟩
    have hb2 : Below w.heap.size w w1 := ((Below.refl _ w).alloc (Nat.le_refl _) _).trans (hb.mono (by simp))
    clear hb
    go_wp2_with fail
    go_ret
    exact ⟨rfl, hb2⟩

/-- A window that goes beyond the value does not. -/
theorem stands64_bad (L N : Nat) (w : World) (hL : L ≤ 64) (hN : N ≤ 64) (h : 64 < L + N) (h0 : 0 < N) : Calls Tryz.prog 213 #[wn64 L N] w fun e w' => e = .returned (.bool false) ∧ Below w.heap.size w w' := by
  have hp : decide ((0 : Int) < (N : Int)) = true := by simp; omega
  obtain ⟨z, hz⟩ : ∃ z : Int, z = (64 : Int) - L - N := ⟨_, rfl⟩
  have hz0 : decide ((0 : Int) ≤ z) = false := by simp; omega
  have HB : Hid (∀ w, Calls Tryz.prog 214 #[.agg #[.int .i64 (L : Int), .int .i64 (N : Int)]] w fun e w' => e = .returned (.int .i64 z) ∧ Below w.heap.size w w') := fun w => behindZ64_any L N z w hL hN hz
  unfold wn64
  have HZ := hide hz
  have HH := hide h
  clear hz h
  go_enter Tryz.func213, Tryz.ntmps213
  go_wp2_with fail
  refine (HB.out _).mono ?_
  rintro e w1 ⟨rfl, hb⟩
  have hb2 : Below w.heap.size w w1 := ((Below.refl _ w).alloc (Nat.le_refl _) _).trans (hb.mono (by simp))
  clear hb
  go_wp2_with fail
  go_ret
  exact ⟨rfl, hb2⟩

end Go.Proofs.YtpdaklklhoenhaaGreatDoor

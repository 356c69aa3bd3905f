/- three. -/
import Derived.Test.YtmfimhpbdbbpoaaDoorAB
import Derived.Test.YtmfimhpbdbbpoaaDoorS
/- bits.Len, limb.Len. -/
namespace Go.Proofs.YtmfimhpbdbbpoaaDoor
open Go.RowKit
open M
set_option linter.unusedVariables false
set_option linter.unusedSimpArgs false

set_option maxRecDepth 1000000 in
set_option maxHeartbeats 4000000 in
theorem len64_a (x : Nat) (w : World) (h : x < 256) : Calls Tryd.prog 97 #[.int .u64 x] w fun e w' => e = .returned (.int .i64 (bitLen x : Nat)) ∧ w' = w := by
  have h0' : decide ((4294967296 : Int) ≤ (x : Int)) = false := by simp; omega
  have h1' : decide ((65536 : Int) ≤ (x : Int)) = false := by simp; omega
  have h2' : ¬ (256 : Int) ≤ (x : Int) := by omega
  have Hz := hide (bitLen_le8 x (by omega))
  go_enter Tryd.func97, Tryd.ntmps97
  go_wp2_with fail
  go_ret
  refine ⟨?_, rfl⟩
  apply ret_int
  rw [len8tab_get]
  have q1 := Hz.out
  simp only [wrap64]
  clear h0' h1' h2' h
  omega

set_option maxRecDepth 1000000 in
set_option maxHeartbeats 4000000 in
theorem len64_b (x : Nat) (w : World) (h : 256 ≤ x) (h2 : x < 65536) : Calls Tryd.prog 97 #[.int .u64 x] w fun e w' => e = .returned (.int .i64 (bitLen x : Nat)) ∧ w' = w := by
  have h0' : decide ((4294967296 : Int) ≤ (x : Int)) = false := by simp; omega
  have h1' : decide ((65536 : Int) ≤ (x : Int)) = false := by simp; omega
  have h2' : (256 : Int) ≤ (x : Int) := by omega
  obtain ⟨z, hz, hz'⟩ : ∃ z : Nat, z = x / 256 ∧ (x : Int) / 256 = (z : Int) := ⟨x / 256, rfl, by simp⟩
  have Hy : Hid (bitLen x = 8 + bitLen z) := by show _ = _; rw [hz]; exact bitLen_shift x 8 (by omega)
  have hzl : z < 256 := by omega
  have Hz := hide (bitLen_le8 z hzl)
  clear hz h h2
  go_enter Tryd.func97, Tryd.ntmps97
  go_wp2_with fail
  go_ret
  refine ⟨?_, rfl⟩
  apply ret_int
  rw [len8tab_get]
  have q1 := Hz.out
  have q2 := Hy.out
  simp only [wrap64]
  clear h0' h1' h2' hz'
  omega

set_option maxRecDepth 1000000 in
set_option maxHeartbeats 4000000 in
theorem len64_c (x : Nat) (w : World) (hx : x < 4294967296) (h : 65536 ≤ x) (h2 : x / 65536 < 256) : Calls Tryd.prog 97 #[.int .u64 x] w fun e w' => e = .returned (.int .i64 (bitLen x : Nat)) ∧ w' = w := by
  have h0' : decide ((4294967296 : Int) ≤ (x : Int)) = false := by simp; omega
  have h1' : (65536 : Int) ≤ (x : Int) := by omega
  obtain ⟨y, hy, hy'⟩ : ∃ y : Nat, y = x / 65536 ∧ (x : Int) / 65536 = (y : Int) := ⟨x / 65536, rfl, by simp⟩
  have Hx : Hid (bitLen x = 16 + bitLen y) := by show _ = _; rw [hy]; exact bitLen_shift x 16 (by omega)
  have h2' : ¬ (256 : Int) ≤ (y : Int) := by omega
  have hy2 : y < 256 := by omega
  have Hz := hide (bitLen_le8 y (by omega))
  clear hy h2 h hx
  go_enter Tryd.func97, Tryd.ntmps97
  go_wp2_with fail
  go_ret
  refine ⟨?_, rfl⟩
  apply ret_int
  rw [len8tab_get]
  have q1 := Hz.out
  have q2 := Hx.out
  simp only [wrap64]
  clear h0' h1' h2' hy'
  omega

set_option maxRecDepth 1000000 in
set_option maxHeartbeats 4000000 in
theorem len64_d (x : Nat) (w : World) (hx : x < 4294967296) (h : 65536 ≤ x) (h2 : 256 ≤ x / 65536) : Calls Tryd.prog 97 #[.int .u64 x] w fun e w' => e = .returned (.int .i64 (bitLen x : Nat)) ∧ w' = w := by
  have h0' : decide ((4294967296 : Int) ≤ (x : Int)) = false := by simp; omega
  have h1' : (65536 : Int) ≤ (x : Int) := by omega
  obtain ⟨y, hy, hy'⟩ : ∃ y : Nat, y = x / 65536 ∧ (x : Int) / 65536 = (y : Int) := ⟨x / 65536, rfl, by simp⟩
  have Hx : Hid (bitLen x = 16 + bitLen y) := by show _ = _; rw [hy]; exact bitLen_shift x 16 (by omega)
  have h2' : (256 : Int) ≤ (y : Int) := by omega
  have hyl : y < 65536 := by omega
  clear hy h2 h hx
  obtain ⟨z, hz, hz'⟩ : ∃ z : Nat, z = y / 256 ∧ (y : Int) / 256 = (z : Int) := ⟨y / 256, rfl, by simp⟩
  have Hy : Hid (bitLen y = 8 + bitLen z) := by show _ = _; rw [hz]; exact bitLen_shift y 8 (by omega)
  have hzl : z < 256 := by omega
  have Hz := hide (bitLen_le8 z hzl)
  clear hz hyl
  go_enter Tryd.func97, Tryd.ntmps97
  go_wp2_with fail
  go_ret
  refine ⟨?_, rfl⟩
  apply ret_int
  rw [len8tab_get]
  have q1 := Hz.out
  have q2 := Hx.out
  have q3 := Hy.out
  simp only [wrap64]
  clear h0' h1' h2' hy' hz'
  omega

theorem len64_any (x : Nat) (w : World) (hx : x < 4294967296) : Calls Tryd.prog 97 #[.int .u64 x] w fun e w' => e = .returned (.int .i64 (bitLen x : Nat)) ∧ w' = w := by
  by_cases h : x < 256
  · exact len64_a x w h
  · by_cases h1 : x < 65536
    · exact len64_b x w (by omega) h1
    · by_cases h2 : x / 65536 < 256
      · exact len64_c x w hx (by omega) h2
      · exact len64_d x w hx (by omega) (by omega)

theorem blen_any (x : Nat) (w : World) (hx : x < 4294967296) : Calls Tryd.prog 85 #[.int .u64 x] w fun e w' => e = .returned (.int .i64 (bitLen x : Nat)) ∧ w' = w := by
  have HL := hide (len64_any x w hx)
  generalize bitLen x = b at *
  go_enter Tryd.func85, Tryd.ntmps85
  go_wp2_with fail
  refine HL.out.mono ?_
  rintro e w1 ⟨rfl, rfl⟩
  go_wp2_with fail
  go_ret
  exact ⟨rfl, rfl⟩

theorem bitLen_nrm {k A : Nat} (h : Nrm (k + 1) A) : bitLen A = 32 * k + bitLen (dg A k) := by
  have hd : A / 2 ^ (32 * k) = dg A k := by
    have h2 := div_succ A k
    rw [Nat.div_eq_of_lt h.1, Nat.zero_mul, Nat.zero_add] at h2
    rw [Nat.pow_mul, show (2 : Nat) ^ 32 = 4294967296 from by decide]; exact h2
  rw [← hd]
  exact bitLen_shift A (32 * k) (by rw [hd]; exact h.top)

set_option maxRecDepth 100000 in
theorem Len_row {S : Nat → Prop} (v : Value) (k A : Nat) (w : World) (h : RowX S w v k A) (hn : Nrm k A) (hk : k ≤ 8192) :
    Calls Tryd.prog 39 #[v] w fun e w' => e = .returned (.int .i64 (bitLen A : Nat)) ∧ w' = w := by
  have HC := hide (check_ok v k A w h hn hk)
  obtain ⟨_, _, ad, cap, rfl, _, hcell⟩ := h
  by_cases h0 : k = 0
  · have hA := hn.zero_iff.1 h0
    subst h0
    have HB : Hid (bitLen A = 0) := by show _ = _; rw [hA]; rfl
    clear hcell hn hA
    go_enter Tryd.func39, Tryd.ntmps39
    go_wp2_with fail
    refine HC.out.mono ?_
    rintro e w1 ⟨rfl, rfl⟩
    go_wp2_with fail
    go_ret
    exact ⟨by rw [HB.out]; rfl, rfl⟩
  · obtain ⟨m, rfl⟩ : ∃ m, k = m + 1 := ⟨k - 1, by omega⟩
    have HB := hide (bitLen_nrm hn)
    obtain ⟨g, o, rfl, _, hj⟩ := hcell (by omega)
    have hc := hj m (by omega)
    have hkz : (((m + 1 : Nat) : Int) == 0) = false := by rw [beq_eq_false_iff_ne]; omega
    have hl := dg_lt A m
    have HL : Hid (∀ w, Calls Tryd.prog 79 #[.int .u32 (dg A m : Nat)] w fun e w' => e = .returned (.int .i64 (bitLen (dg A m) : Nat)) ∧ w' = w) := fun w => len32_any _ w hl
    have hb : bitLen (dg A m) ≤ 32 := bitLen_le (by omega)
    clear hj hcell hn h0
    generalize dg A m = x at *
    generalize bitLen x = b at *
    go_enter Tryd.func39, Tryd.ntmps39
    go_wp2_with fail
    refine HC.out.mono ?_
    rintro e w1 ⟨rfl, rfl⟩
    go_wp2_with fail
    refine (HL.out _).mono ?_
    rintro e w2 ⟨rfl, rfl⟩
    go_wp2_with fail
    go_ret
    exact ⟨ret_int (by rw [HB.out]; omega), rfl⟩

end Go.Proofs.YtmfimhpbdbbpoaaDoor

namespace Go.Proofs.YtmfimhpbdbbpoaaDoor
open Go.RowKit
open M
set_option linter.unusedVariables false
set_option linter.unusedSimpArgs false

/-- A slice of rows that came in. -/
def IsRows (w : World) (aL : Option Addr) (nL : Nat) : Prop :=
  nL ≤ 9223372036854775807 ∧ (0 < nL → ∃ g o, aL = some ⟨g, o, none⟩ ∧ g < w.heap.size ∧ ∀ i, i < nL → ∃ v k N, w.cell? ⟨g, o + i, none⟩ = some v ∧ RowL w v k N)

/-- The array of three numbers. -/
def ThreeSt (w : World) (la most : Nat) (wr : World) : Prop :=
  (∃ R : Nat → Value, ∀ j, j < 3 → wr.cell? ⟨la, j, none⟩ = some (R j) ∧ wr.frozen? ⟨la, j, none⟩ = false ∧ ∃ n A, RowX (· ≠ la) wr (R j) n A ∧ Nrm n A ∧ n ≤ most) ∧ Below w.heap.size w wr ∧ la < wr.heap.size

theorem RowX.nil (S : Nat → Prop) (w : World) : RowX S w (.slice none 0 0) 0 0 := ⟨by simp, by omega, none, 0, rfl, Nat.le_refl _, fun h => by omega⟩

theorem ThreeSt.next {w wr w1 : World} {la most i n A : Nat} {r : Value} (h : ThreeSt w la most wr) (hla : w.heap.size ≤ la) (hb : Below wr.heap.size wr w1) (hr : RowX (wr.heap.size ≤ ·) w1 r n A) (hn : Nrm n A) (hm : n ≤ most) (hi : i < 3) :
    ThreeSt w la most (w1.setCell ⟨la, i, none⟩ r) := by
  obtain ⟨⟨R, hR⟩, h2, h3⟩ := h
  have hk : ∀ g o, g ≠ la → g < w1.heap.size → (w1.setCell ⟨la, i, none⟩ r).cell? ⟨g, o, none⟩ = w1.cell? ⟨g, o, none⟩ := fun g o hg _ => cell_other _ _ _ _ _ _ hg
  refine ⟨⟨fun j => if j = i then r else R j, fun j hj => ⟨?_, ?_, ?_⟩⟩, (h2.trans (hb.mono h2.size)).setCell hla _, ?_⟩
  · show _ = some (if j = i then r else R j)
    by_cases e : j = i
    · subst e; rw [if_pos rfl]; exact cell_setCell_eq _ _ _ _ _ (by rw [hb.cell (p := ⟨la, j, none⟩) h3]; exact (hR j hj).1)
    · rw [if_neg e, cell_setCell_ne _ _ _ _ _ e, hb.cell (p := ⟨la, j, none⟩) h3]; exact (hR j hj).1
  · rw [frozen_setCell, hb.frozen (p := ⟨la, j, none⟩) h3]; exact (hR j hj).2.1
  · show ∃ n A, RowX (· ≠ la) _ (if j = i then r else R j) n A ∧ Nrm n A ∧ n ≤ most
    by_cases e : j = i
    · rw [if_pos e]
      exact ⟨n, A, (hr.mono (S' := (· ≠ la)) (fun g _ hg => by omega)).keep hk, hn, hm⟩
    · rw [if_neg e]
      obtain ⟨n', A', h1, h2, h3⟩ := (hR j hj).2.2
      exact ⟨n', A', (h1.below hb).keep hk, h2, h3⟩
  · have := hb.size; simp [World.setCell]; omega


end Go.Proofs.YtmfimhpbdbbpoaaDoor

/- bits.Len64 of any number; numberOf. -/
import Derived.Test.YtleeahigceppiaaDoorAB
import Derived.Test.YtleeahigceppiaaDoorBG
import Derived.Test.YtleeahigceppiaaDoorJ
import Derived.Deep.RegionHeld3
import Derived.Test.YtleeahigceppiaaDoorYD
/- Package exact: small things: Len64 of great numbers, near, plus, less, shifted. -/
namespace Go.Proofs.YtleeahigceppiaaDoor
open Go.RowKit
open M
set_option linter.unusedVariables false
set_option linter.unusedSimpArgs false

set_option maxRecDepth 1000000 in
set_option maxHeartbeats 4000000 in
theorem len64_top (x : Nat) (w : World) (h : 4611686018427387904 ≤ x) (hx : x < 18446744073709551616) : Calls Tryd.prog 37 #[.int .u64 x] w fun e w' => e = .returned (.int .i64 (bitLen x : Nat)) ∧ w' = w := by
  have h0' : decide ((4294967296 : Int) ≤ (x : Int)) = true := by simp; omega
  obtain ⟨t, ht, ht'⟩ : ∃ t : Nat, t = x / 4294967296 ∧ (x : Int) / 4294967296 = (t : Int) := ⟨x / 4294967296, rfl, by simp⟩
  have Ht : Hid (bitLen x = 32 + bitLen t) := by show _ = _; rw [ht]; exact bitLen_shift x 32 (by omega)
  have htl : t < 4294967296 ∧ 1073741824 ≤ t := by omega
  clear ht h hx
  have h1' : decide ((65536 : Int) ≤ (t : Int)) = true := by simp; omega
  obtain ⟨y, hy, hy'⟩ : ∃ y : Nat, y = t / 65536 ∧ (t : Int) / 65536 = (y : Int) := ⟨t / 65536, rfl, by simp⟩
  have Hx : Hid (bitLen t = 16 + bitLen y) := by show _ = _; rw [hy]; exact bitLen_shift t 16 (by omega)
  have h2' : (256 : Int) ≤ (y : Int) := by omega
  have hyl : y < 65536 := by omega
  clear hy htl
  obtain ⟨z, hz, hz'⟩ : ∃ z : Nat, z = y / 256 ∧ (y : Int) / 256 = (z : Int) := ⟨y / 256, rfl, by simp⟩
  have Hy : Hid (bitLen y = 8 + bitLen z) := by show _ = _; rw [hz]; exact bitLen_shift y 8 (by omega)
  have hzl : z < 256 := by omega
  have Hz := hide (bitLen_le8 z hzl)
  clear hz hyl
  go_enter Tryd.func37, Tryd.ntmps37
  go_wp2_with (simp only [ht', hy', hz'])
  go_ret
  refine ⟨?_, rfl⟩
  apply ret_int
  rw [len8tab_get]
  have q1 := Hz.out
  have q2 := Hx.out
  have q3 := Hy.out
  have q4 := Ht.out
  simp only [wrap64]
  clear h0' h1' h2' hy' hz' ht'
  omega

/-- A power of 2, cut. -/
def nr (e : Int) : Int := max (-1048576) (min e 1048576)

set_option maxRecDepth 100000 in
theorem near_any (e0 : Int) (w : World) : Calls Tryd.prog 47 #[.int .i64 e0] w fun e w' => e = .returned (.int .i64 (nr e0)) ∧ w' = w := by
  have hcase : (e0 < -1048576 ∧ nr e0 = -1048576) ∨ (1048576 < e0 ∧ ¬ e0 < -1048576 ∧ nr e0 = 1048576) ∨ (¬ 1048576 < e0 ∧ ¬ e0 < -1048576 ∧ nr e0 = e0) := by unfold nr; omega
  generalize nr e0 = n at *
  rcases hcase with ⟨h1, rfl⟩ | ⟨h1, h3, rfl⟩ | ⟨h1, h3, rfl⟩
  all_goals
    go_enter Tryd.func47, Tryd.ntmps47
    go_wp2_with fail
    go_ret
    exact ⟨rfl, rfl⟩

theorem Told.num {w : World} {base : Nat} {u : Value} {c : Int} {N : Nat} (h : Told w base u c N) (hf : Fits N) : Num w u N := by
  rcases h with ⟨h1, _, n, h3, h4⟩ | ⟨h1, _⟩
  · exact h3.num h4 h1
  · exact absurd hf h1

theorem num_slice {w : World} {v : Value} {N : Nat} (h : Num w v N) : ∃ ad k cap, v = .slice ad k cap ∧ (k = 0 ↔ N = 0) := by
  obtain ⟨k, ⟨_, _, ad, cap, hv, _⟩, hn, _⟩ := h
  exact ⟨ad, k, cap, hv, hn.zero_iff⟩

set_option maxRecDepth 100000 in
theorem xplus {v u : Value} {A C : Nat} {w : World} (h : Num w v A) (h' : Num w u C) (hf : Fits (A + C)) : Calls Tryd.prog 60 #[v, u] w fun e w' => ∃ r, e = .returned r ∧ Num w' r (A + C) ∧ Below w.heap.size w w' := by
  have HA := hide (Add_ok h h')
  have HF := hide hf
  clear h h' hf
  go_enter Tryd.func60, Tryd.ntmps60
  go_wp2_with fail
  refine HA.out.mono ?_
  rintro e w1 ⟨r, c, rfl, ht, hb⟩
  have HN := hide (And.intro (ht.num HF.out) hb)
  clear ht hb
  go_wp2_with fail
  go_ret
  exact ⟨_, rfl, HN.out⟩

set_option maxRecDepth 100000 in
theorem xless {v u : Value} {A C : Nat} {w : World} (h : Num w v A) (h' : Num w u C) (hle : C ≤ A) : Calls Tryd.prog 59 #[v, u] w fun e w' => ∃ r, e = .returned r ∧ Num w' r (A - C) ∧ Below w.heap.size w w' := by
  have HA := hide (Sub_ok h h' hle)
  have HF := hide (h.fits.le (Nat.sub_le A C))
  clear h h' hle
  go_enter Tryd.func59, Tryd.ntmps59
  go_wp2_with fail
  refine HA.out.mono ?_
  rintro e w1 ⟨r, c, rfl, ht, hb⟩
  have HN := hide (And.intro (ht.num HF.out) hb)
  clear ht hb
  go_wp2_with fail
  go_ret
  exact ⟨_, rfl, HN.out⟩

set_option maxRecDepth 100000 in
theorem xshift {v : Value} {A : Nat} {w : World} (n : Int) (h : Num w v A) (hf : Fits (A * 2 ^ n.toNat)) (hn1 : -9223372036854775808 ≤ n) (hn2 : n < 9223372036854775808) : Calls Tryd.prog 55 #[v, .int .i64 n] w fun e w' => ∃ r, e = .returned r ∧ Num w' r (A * 2 ^ n.toNat) ∧ Below w.heap.size w w' := by
  obtain ⟨k, h1, h2, h3⟩ := h
  obtain ⟨m, hm⟩ : ∃ m : Nat, n.toNat = m := ⟨_, rfl⟩
  rw [hm] at hf ⊢
  have HA := hide (Left_told v k A m w h1 h2 h3 (by omega))
  have HF := hide hf
  have hc : (n < 0 ∧ m = 0) ∨ (¬ n < 0 ∧ n = (m : Int)) := by omega
  clear h1 h2 hf hm
  rcases hc with ⟨c1, rfl⟩ | ⟨c1, rfl⟩
  all_goals
    go_enter Tryd.func55, Tryd.ntmps55
    go_wp2_with fail
    refine HA.out.mono ?_
    rintro e w1 ⟨r, c, rfl, ht, hb⟩
    have HN := hide (And.intro (ht.num HF.out) hb)
    clear ht hb
    go_wp2_with fail
    go_ret
    exact ⟨_, rfl, HN.out⟩

theorem xlen {v : Value} {A : Nat} {w : World} (h : Num w v A) : Calls Tryd.prog 52 #[v] w fun e w' => e = .returned (.int .i64 (bitLen A : Nat)) ∧ w' = w := by
  obtain ⟨k, h1, h2, h3⟩ := h
  exact Len_row v k A w h1 h2 h3

theorem fits_bits {A : Nat} : Fits A ↔ bitLen A ≤ 262144 := by
  by_cases h : A = 0
  · subst h
    exact ⟨fun _ => by simp [bitLen], fun _ => ⟨0, by omega, by simp⟩⟩
  · have := fits_shift (n := 0) h
    rw [Nat.pow_zero, Nat.mul_one, Nat.add_zero] at this
    exact this
end Go.Proofs.YtleeahigceppiaaDoor

namespace Go.Proofs.YtleeahigceppiaaDoor
open Go.RowKit
open M
set_option linter.unusedVariables false
set_option linter.unusedSimpArgs false

set_option maxRecDepth 1000000 in
set_option maxHeartbeats 4000000 in
theorem len64_e (x : Nat) (w : World) (h : 4294967296 ≤ x) (hx : x < 18446744073709551616) (h1 : x / 4294967296 < 256) : Calls Tryd.prog 37 #[.int .u64 x] w fun e w' => e = .returned (.int .i64 (bitLen x : Nat)) ∧ w' = w := by
  have h0' : decide ((4294967296 : Int) ≤ (x : Int)) = true := by simp; omega
  obtain ⟨t, ht, ht'⟩ : ∃ t : Nat, t = x / 4294967296 ∧ (x : Int) / 4294967296 = (t : Int) := ⟨x / 4294967296, rfl, by simp⟩
  have Ht : Hid (bitLen x = 32 + bitLen t) := by show _ = _; rw [ht]; exact bitLen_shift x 32 (by omega)
  have htl : t < 256 := by omega
  clear ht h hx h1
  have h1' : decide ((65536 : Int) ≤ (t : Int)) = false := by simp; omega
  have h2' : ¬ (256 : Int) ≤ (t : Int) := by omega
  have Hz := hide (bitLen_le8 t htl)
  go_enter Tryd.func37, Tryd.ntmps37
  go_wp2_with (simp only [ht'])
  go_ret
  refine ⟨?_, rfl⟩
  apply ret_int
  rw [len8tab_get]
  have q0 := Ht.out
  have q1 := Hz.out
  simp only [wrap64]
  clear h0' h1' h2' ht'
  omega

set_option maxRecDepth 1000000 in
set_option maxHeartbeats 4000000 in
theorem len64_f (x : Nat) (w : World) (h : 4294967296 ≤ x) (hx : x < 18446744073709551616) (h1 : 256 ≤ x / 4294967296) (h3 : x / 4294967296 < 65536) : Calls Tryd.prog 37 #[.int .u64 x] w fun e w' => e = .returned (.int .i64 (bitLen x : Nat)) ∧ w' = w := by
  have h0' : decide ((4294967296 : Int) ≤ (x : Int)) = true := by simp; omega
  obtain ⟨t, ht, ht'⟩ : ∃ t : Nat, t = x / 4294967296 ∧ (x : Int) / 4294967296 = (t : Int) := ⟨x / 4294967296, rfl, by simp⟩
  have Ht : Hid (bitLen x = 32 + bitLen t) := by show _ = _; rw [ht]; exact bitLen_shift x 32 (by omega)
  have htl : 256 ≤ t ∧ t < 65536 := by omega
  clear ht h hx h1 h3
  have h1' : decide ((65536 : Int) ≤ (t : Int)) = false := by simp; omega
  have h2' : (256 : Int) ≤ (t : Int) := by omega
  obtain ⟨z, hz, hz'⟩ : ∃ z : Nat, z = t / 256 ∧ (t : Int) / 256 = (z : Int) := ⟨t / 256, rfl, by simp⟩
  have Hy : Hid (bitLen t = 8 + bitLen z) := by show _ = _; rw [hz]; exact bitLen_shift t 8 (by omega)
  have hzl : z < 256 := by omega
  have Hz := hide (bitLen_le8 z hzl)
  clear hz htl
  go_enter Tryd.func37, Tryd.ntmps37
  go_wp2_with (simp only [ht', hz'])
  go_ret
  refine ⟨?_, rfl⟩
  apply ret_int
  rw [len8tab_get]
  have q0 := Ht.out
  have q1 := Hz.out
  have q2 := Hy.out
  clear hz'
  simp only [wrap64]
  clear h0' h1' h2' ht'
  omega

set_option maxRecDepth 1000000 in
set_option maxHeartbeats 4000000 in
theorem len64_g (x : Nat) (w : World) (h : 4294967296 ≤ x) (hx : x < 18446744073709551616) (h1 : 65536 ≤ x / 4294967296) (h3 : x / 4294967296 / 65536 < 256) : Calls Tryd.prog 37 #[.int .u64 x] w fun e w' => e = .returned (.int .i64 (bitLen x : Nat)) ∧ w' = w := by
  have h0' : decide ((4294967296 : Int) ≤ (x : Int)) = true := by simp; omega
  obtain ⟨t, ht, ht'⟩ : ∃ t : Nat, t = x / 4294967296 ∧ (x : Int) / 4294967296 = (t : Int) := ⟨x / 4294967296, rfl, by simp⟩
  have Ht : Hid (bitLen x = 32 + bitLen t) := by show _ = _; rw [ht]; exact bitLen_shift x 32 (by omega)
  have htl : 65536 ≤ t ∧ t / 65536 < 256 := by omega
  clear ht h hx h1 h3
  have h1' : decide ((65536 : Int) ≤ (t : Int)) = true := by simp; omega
  obtain ⟨y, hy, hy'⟩ : ∃ y : Nat, y = t / 65536 ∧ (t : Int) / 65536 = (y : Int) := ⟨t / 65536, rfl, by simp⟩
  have Hy : Hid (bitLen t = 16 + bitLen y) := by show _ = _; rw [hy]; exact bitLen_shift t 16 (by omega)
  have h2' : ¬ (256 : Int) ≤ (y : Int) := by omega
  have hyl : y < 256 := by omega
  have Hz := hide (bitLen_le8 y hyl)
  clear hy htl
  go_enter Tryd.func37, Tryd.ntmps37
  go_wp2_with (simp only [ht', hy'])
  go_ret
  refine ⟨?_, rfl⟩
  apply ret_int
  rw [len8tab_get]
  have q0 := Ht.out
  have q1 := Hz.out
  have q2 := Hy.out
  clear hy'
  simp only [wrap64]
  clear h0' h1' h2' ht'
  omega

set_option maxRecDepth 1000000 in
set_option maxHeartbeats 4000000 in
theorem len64_h (x : Nat) (w : World) (h : 4294967296 ≤ x) (hx : x < 18446744073709551616) (h1 : 65536 ≤ x / 4294967296) (h3 : 256 ≤ x / 4294967296 / 65536) : Calls Tryd.prog 37 #[.int .u64 x] w fun e w' => e = .returned (.int .i64 (bitLen x : Nat)) ∧ w' = w := by
  have h0' : decide ((4294967296 : Int) ≤ (x : Int)) = true := by simp; omega
  obtain ⟨t, ht, ht'⟩ : ∃ t : Nat, t = x / 4294967296 ∧ (x : Int) / 4294967296 = (t : Int) := ⟨x / 4294967296, rfl, by simp⟩
  have Ht : Hid (bitLen x = 32 + bitLen t) := by show _ = _; rw [ht]; exact bitLen_shift x 32 (by omega)
  have htl : 65536 ≤ t ∧ 256 ≤ t / 65536 ∧ t < 4294967296 := by omega
  clear ht h hx h1 h3
  have h1' : decide ((65536 : Int) ≤ (t : Int)) = true := by simp; omega
  obtain ⟨y, hy, hy'⟩ : ∃ y : Nat, y = t / 65536 ∧ (t : Int) / 65536 = (y : Int) := ⟨t / 65536, rfl, by simp⟩
  have Hx : Hid (bitLen t = 16 + bitLen y) := by show _ = _; rw [hy]; exact bitLen_shift t 16 (by omega)
  have h2' : (256 : Int) ≤ (y : Int) := by omega
  have hyl : y < 65536 := by omega
  clear hy htl
  obtain ⟨z, hz, hz'⟩ : ∃ z : Nat, z = y / 256 ∧ (y : Int) / 256 = (z : Int) := ⟨y / 256, rfl, by simp⟩
  have Hy : Hid (bitLen y = 8 + bitLen z) := by show _ = _; rw [hz]; exact bitLen_shift y 8 (by omega)
  have hzl : z < 256 := by omega
  have Hz := hide (bitLen_le8 z hzl)
  clear hz hyl
  go_enter Tryd.func37, Tryd.ntmps37
  go_wp2_with (simp only [ht', hy', hz'])
  go_ret
  refine ⟨?_, rfl⟩
  apply ret_int
  rw [len8tab_get]
  have q0 := Ht.out
  have q1 := Hz.out
  have q2 := Hy.out
  have q3 := Hx.out
  clear hy' hz'
  simp only [wrap64]
  clear h0' h1' h2' ht'
  omega

theorem len64_all (x : Nat) (w : World) (hx : x < 18446744073709551616) : Calls Tryd.prog 37 #[.int .u64 x] w fun e w' => e = .returned (.int .i64 (bitLen x : Nat)) ∧ w' = w := by
  by_cases h0 : x < 4294967296
  · exact len64_any x w h0
  · by_cases h : x / 4294967296 < 256
    · exact len64_e x w (by omega) hx h
    · by_cases h1 : x / 4294967296 < 65536
      · exact len64_f x w (by omega) hx (by omega) h1
      · by_cases h2 : x / 4294967296 / 65536 < 256
        · exact len64_g x w (by omega) hx (by omega) h2
        · exact len64_h x w (by omega) hx (by omega) (by omega)

end Go.Proofs.YtleeahigceppiaaDoor

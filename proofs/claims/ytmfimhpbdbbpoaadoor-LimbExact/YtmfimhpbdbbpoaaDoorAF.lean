/- nearRoot, Root. -/
import Derived.Test.YtmfimhpbdbbpoaaDoorE
import Derived.Test.YtmfimhpbdbbpoaaDoorCK
import Derived.Test.YtmfimhpbdbbpoaaDoorCR
import Derived.Test.YtmfimhpbdbbpoaaDoorT
/- Square roots: plain mathematics. -/
namespace Go.Proofs.YtmfimhpbdbbpoaaDoor
namespace M
set_option linter.unusedVariables false
set_option linter.unusedSimpArgs false

/-- s is n's square root, rounded down. -/
def Sq (s n : Nat) : Prop := s * s ≤ n ∧ n < (s + 1) * (s + 1)

theorem Sq.uniq {s s' n : Nat} (h : Sq s n) (h' : Sq s' n) : s = s' := by
  rcases Nat.lt_trichotomy s s' with hl | hl | hl
  · have := Nat.mul_le_mul hl hl; have h1 := h.2; have h2 := h'.1; simp only [Nat.succ_eq_add_one] at this; omega
  · exact hl
  · have := Nat.mul_le_mul hl hl; have h1 := h'.2; have h2 := h.1; simp only [Nat.succ_eq_add_one] at this; omega

theorem sq_exists (n : Nat) : ∃ s, Sq s n := by
  induction n with
  | zero => exact ⟨0, by decide, by decide⟩
  | succ n ih =>
    obtain ⟨s, h1, h2⟩ := ih
    by_cases h : n + 1 < (s + 1) * (s + 1)
    · exact ⟨s, by omega, h⟩
    · refine ⟨s + 1, by omega, ?_⟩
      have : (s + 1 + 1) * (s + 1 + 1) = (s + 1) * (s + 1) + 2 * s + 3 := by
        rw [Nat.mul_add, Nat.add_mul (s + 1) 1 (s + 1)]; omega
      omega

theorem four_pow (t : Nat) : 4 ^ t = 2 ^ t * 2 ^ t := by rw [← Nat.mul_pow]

/-- The root of what is left without 2 t bits. -/
theorem Sq.shift {s n : Nat} (h : Sq s n) (t : Nat) : Sq (s / 2 ^ t) (n / 4 ^ t) := by
  have hp := Nat.two_pow_pos t
  rw [four_pow]
  have h1 : s / 2 ^ t * 2 ^ t ≤ s := Nat.div_mul_le_self _ _
  have h2 : s < (s / 2 ^ t + 1) * 2 ^ t := by
    have := Nat.lt_mul_div_succ s hp; rw [Nat.mul_comm] at this; exact this
  generalize s / 2 ^ t = c at *
  generalize 2 ^ t = p at *
  constructor
  · rw [Nat.le_div_iff_mul_le (Nat.mul_pos hp hp)]
    have := Nat.mul_le_mul h1 h1
    have e : c * p * (c * p) = c * c * (p * p) := by rw [Nat.mul_assoc, Nat.mul_left_comm p c p, ← Nat.mul_assoc, ← Nat.mul_assoc]
    rw [e] at this
    exact Nat.le_trans this h.1
  · rw [Nat.div_lt_iff_lt_mul (Nat.mul_pos hp hp)]
    have h3 : s + 1 ≤ (c + 1) * p := h2
    have := Nat.mul_le_mul h3 h3
    have e : (c + 1) * p * ((c + 1) * p) = (c + 1) * (c + 1) * (p * p) := by rw [Nat.mul_assoc, Nat.mul_left_comm p (c + 1) p, ← Nat.mul_assoc, ← Nat.mul_assoc]
    rw [e] at this
    exact Nat.lt_of_lt_of_le h.2 this

/-- A step of Newton's, from a root of the upper bits or one more: in whole numbers. -/
theorem newton {s n t x : Nat} (h : Sq s n) (ht : 0 < t) (hx : x = s / 2 ^ t ∨ x = s / 2 ^ t + 1) (hx2 : 2 ^ t ≤ 2 * x) :
    (x * 2 ^ (t - 1) + n / 2 ^ (t + 1) / x = s) ∨ (x * 2 ^ (t - 1) + n / 2 ^ (t + 1) / x = s + 1) := by
  have hp := Nat.two_pow_pos t
  have hx0 : 0 < x := by omega
  obtain ⟨u, rfl⟩ : ∃ u, t = u + 1 := ⟨t - 1, by omega⟩
  rw [Nat.add_sub_cancel]
  have hpp : 2 ^ (u + 1) = 2 * 2 ^ u := by rw [Nat.pow_succ, Nat.mul_comm]
  have hq : 2 ^ (u + 1 + 1) = 4 * 2 ^ u := by rw [Nat.pow_succ, Nat.pow_succ]; omega
  have hu := Nat.two_pow_pos u
  have hm : s / 2 ^ (u + 1) * 2 ^ (u + 1) ≤ s := Nat.div_mul_le_self _ _
  have hm2 : s < (s / 2 ^ (u + 1) + 1) * 2 ^ (u + 1) := by
    have := Nat.lt_mul_div_succ s hp; rw [Nat.mul_comm] at this; exact this
  -- Y = 2^u x, X = 2 Y; the new one is Y + n / (4 Y)
  have e1 : n / 2 ^ (u + 1 + 1) / x = n / (4 * (x * 2 ^ u)) := by
    rw [Nat.div_div_eq_div_mul, hq, Nat.mul_assoc, Nat.mul_comm (2 ^ u) x]
  rw [e1]
  generalize s / 2 ^ (u + 1) = c at *
  rw [hpp] at hx2 hm hm2
  clear hp hq e1 hpp ht
  generalize 2 ^ u = p at *
  obtain ⟨Y, hY⟩ : ∃ Y, Y = x * p := ⟨_, rfl⟩
  rw [← hY]
  have hY0 : 0 < Y := by rw [hY]; exact Nat.mul_pos hx0 hu
  -- X lies near s
  have near : (2 * Y ≤ s ∧ s < 2 * Y + 2 * p) ∨ (s < 2 * Y ∧ 2 * Y ≤ s + 2 * p) := by
    rw [Nat.add_mul] at hm2
    rcases hx with hx | hx
    · left
      have : c * (2 * p) = 2 * Y := by rw [hY, hx, Nat.mul_left_comm]
      omega
    · right
      have : (c + 1) * (2 * p) = 2 * Y := by rw [hY, hx, Nat.mul_left_comm]
      rw [Nat.add_mul] at this
      omega
  have hYp : p * p ≤ Y := by
    rw [hY]
    exact Nat.mul_le_mul_right p (by omega)
  have hdm := Nat.div_add_mod n (4 * Y)
  have hml := Nat.mod_lt n (show 0 < 4 * Y from by omega)
  generalize n / (4 * Y) = m at *
  generalize n % (4 * Y) = r at *
  have hn1 := h.1
  have hn2 := h.2
  -- lower and upper bounds
  have lower : s ≤ Y + m := by
    rcases Nat.lt_or_ge (Y + m) s with hlt | hge
    · exfalso
      -- 4 Y (Y + m + 1) <= 4 Y s
      have h1 : 4 * Y * (Y + m + 1) ≤ 4 * Y * s := Nat.mul_le_mul_left _ hlt
      rw [Nat.mul_add, Nat.mul_add, Nat.mul_one] at h1
      -- (2Y - s)^2 >= 0
      rcases Nat.le_total (2 * Y) s with h2 | h2
      · obtain ⟨d, rfl⟩ : ∃ d, s = 2 * Y + d := ⟨s - 2 * Y, by omega⟩
        have e2 : (2 * Y + d) * (2 * Y + d) = 4 * Y * Y + 4 * Y * d + d * d := by
          rw [Nat.mul_add, Nat.add_mul, Nat.add_mul]
          have a1 : 2 * Y * (2 * Y) = 4 * Y * Y := by rw [Nat.mul_assoc, Nat.mul_left_comm Y 2 Y, ← Nat.mul_assoc, ← Nat.mul_assoc]
          have a2 : d * (2 * Y) = 2 * Y * d := Nat.mul_comm _ _
          have a3 : 4 * Y * d = 2 * Y * d + 2 * Y * d := by rw [← Nat.add_mul]; congr 1; omega
          omega
        rw [e2] at hn1
        have e3 : 4 * Y * (2 * Y + d) = 4 * Y * Y + 4 * Y * Y + 4 * Y * d := by
          rw [Nat.mul_add]
          have a1 : 4 * Y * (2 * Y) = 4 * Y * Y + 4 * Y * Y := by rw [← Nat.mul_add]; congr 1; omega
          omega
        rw [e3] at h1
        omega
      · obtain ⟨d, hd⟩ : ∃ d, 2 * Y = s + d := ⟨2 * Y - s, by omega⟩
        have e2 : (s + d) * (s + d) = s * s + 2 * (s * d) + d * d := by
          rw [Nat.mul_add, Nat.add_mul, Nat.add_mul, Nat.mul_comm d s]; omega
        have e3 : 4 * Y * Y = (s + d) * (s + d) := by
          rw [← hd, Nat.mul_assoc 2, Nat.mul_left_comm Y 2 Y, ← Nat.mul_assoc, ← Nat.mul_assoc]
        have e4 : 4 * Y * s = 2 * (s * s) + 2 * (s * d) := by
          rw [show 4 * Y = 2 * (s + d) from by omega, Nat.mul_assoc, Nat.add_mul, Nat.mul_comm d s]; omega
        rw [e3, e2, e4] at h1
        omega
    · exact hge
  have upper : Y + m ≤ s + 1 := by
    rcases Nat.lt_or_ge (s + 1) (Y + m) with hlt | hge
    · exfalso
      have h1 : 4 * Y * (s + 2) ≤ 4 * Y * (Y + m) := Nat.mul_le_mul_left _ hlt
      rw [Nat.mul_add, Nat.mul_add] at h1
      have hs2 : (s + 1) * (s + 1) = s * s + 2 * s + 1 := by rw [Nat.mul_add, Nat.add_mul]; omega
      rw [hs2] at hn2
      have hyy : 4 * Y * 2 = 8 * Y := by omega
      rcases near with ⟨h2, h3⟩ | ⟨h2, h3⟩
      · obtain ⟨d, rfl⟩ : ∃ d, s = 2 * Y + d := ⟨s - 2 * Y, by omega⟩
        have hd : (d + 1) * (d + 1) ≤ 2 * p * (2 * p) := Nat.mul_le_mul (by omega) (by omega)
        have hd2 : (d + 1) * (d + 1) = d * d + 2 * d + 1 := by rw [Nat.mul_add, Nat.add_mul]; omega
        have hp4 : 2 * p * (2 * p) = 4 * (p * p) := by rw [Nat.mul_assoc, Nat.mul_left_comm p 2 p, ← Nat.mul_assoc]
        have e2 : (2 * Y + d) * (2 * Y + d) = 4 * Y * Y + 4 * Y * d + d * d := by
          rw [Nat.mul_add, Nat.add_mul, Nat.add_mul]
          have a1 : 2 * Y * (2 * Y) = 4 * Y * Y := by rw [Nat.mul_assoc, Nat.mul_left_comm Y 2 Y, ← Nat.mul_assoc, ← Nat.mul_assoc]
          have a2 : d * (2 * Y) = 2 * Y * d := Nat.mul_comm _ _
          have a3 : 4 * Y * d = 2 * Y * d + 2 * Y * d := by rw [← Nat.add_mul]; congr 1; omega
          omega
        have e3 : 4 * Y * (2 * Y + d) = 4 * Y * Y + 4 * Y * Y + 4 * Y * d := by
          rw [Nat.mul_add]
          have a1 : 4 * Y * (2 * Y) = 4 * Y * Y + 4 * Y * Y := by rw [← Nat.mul_add]; congr 1; omega
          omega
        rw [e2] at hn2
        rw [e3] at h1
        omega
      · obtain ⟨d, hd⟩ : ∃ d, 2 * Y = s + d := ⟨2 * Y - s, by omega⟩
        have hdp : d * d ≤ 2 * p * (2 * p) := Nat.mul_le_mul (by omega) (by omega)
        have hp4 : 2 * p * (2 * p) = 4 * (p * p) := by rw [Nat.mul_assoc, Nat.mul_left_comm p 2 p, ← Nat.mul_assoc]
        have e2 : (s + d) * (s + d) = s * s + 2 * (s * d) + d * d := by
          rw [Nat.mul_add, Nat.add_mul, Nat.add_mul, Nat.mul_comm d s]; omega
        have e3 : 4 * Y * Y = (s + d) * (s + d) := by
          rw [← hd, Nat.mul_assoc 2, Nat.mul_left_comm Y 2 Y, ← Nat.mul_assoc, ← Nat.mul_assoc]
        have e4 : 4 * Y * s = 2 * (s * s) + 2 * (s * d) := by
          rw [show 4 * Y = 2 * (s + d) from by omega, Nat.mul_assoc, Nat.add_mul, Nat.mul_comm d s]; omega
        rw [e3, e2, e4] at h1
        omega
    · exact hge
  omega

end M
end Go.Proofs.YtmfimhpbdbbpoaaDoor

/- The document's Gcd and Root of numbers. -/
namespace Go.Proofs.YtmfimhpbdbbpoaaDoor
open Go.RowKit
open M
set_option linter.unusedVariables false
set_option linter.unusedSimpArgs false

theorem cmpI_pos {a b : Nat} : 0 < cmpI a b ↔ b < a := by unfold cmpI; split <;> (try split) <;> omega
theorem cmpI_zero {a b : Nat} : cmpI a b = 0 ↔ a = b := by unfold cmpI; split <;> (try split) <;> omega

set_option maxRecDepth 100000 in
set_option maxHeartbeats 2000000 in
theorem rGcd_ok {S S' : Nat → Prop} (v u : Value) (k A m C : Nat) (w : World) (h : RowX S w v k A) (h' : RowX S' w u m C) (hn : Nrm k A) (hk : k ≤ 8192) (hn' : Nrm m C) (hm : m ≤ 8192) :
    Calls Tryd.prog 48 #[v, u] w fun e w' => ∃ r, e = .returned (.tuple #[r, .int .i64 0]) ∧ Num w' r (Nat.gcd A C) ∧ Below w.heap.size w w' := by
  have HC := hide (rboth_any v u k A m C w h h')
  rw [if_pos (chk_nrm hn hk), chk_nrm hn' hm] at HC
  have HT := hide (rtrim_any v k A w h (by omega))
  have HU := hide h'.row
  have HNM := hide (And.intro hn hn')
  clear h h' hn hn'
  go_enter Tryd.func48, Tryd.ntmps48
  go_wp2_with (first
    | (go_at_call 7; refine HC.out.mono ?_; rintro e w1 ⟨rfl, hw⟩; have hw1 := hw.symm; subst hw1; clear HC)
    | (go_at_call 56; refine HT.out.mono ?_; rintro e w2 ⟨x, rfl, n2, ho, hn2, hk2, hb⟩; have H2 : Hid (Num w2 x A ∧ Below w.heap.size w w2) := ⟨⟨n2, ho.row, hn2, Nat.le_trans hk2 hk⟩, hb⟩; have HT2 := hide (rtrim_any u m C w2 (HU.out.below hb) (by omega)); clear ho hn2 hk2 hb HT)
    | (go_at_call 56; refine HT2.out.mono ?_; rintro e w3 ⟨y, rfl, n3, ho, hn3, hk3, hb⟩; have H3 : Hid (Num w3 x A ∧ Num w3 y C ∧ Below w.heap.size w w3) := ⟨H2.out.1.below hb, ⟨n3, ho.row, hn3, Nat.le_trans hk3 hm⟩, H2.out.2.trans (hb.mono H2.out.2.size)⟩; clear ho hn3 hk3 hb HT2))
  go_loopw [7, 8] (fun t7 t8 wr => ∃ X Y : Nat, Hid (Num wr t7 X ∧ Num wr t8 Y ∧ Nat.gcd X Y = Nat.gcd A C ∧ Below w.heap.size w wr)) (fun _ t8 wr => valOf wr t8)
  case atStart => exact ⟨A, C, H3.out.1, H3.out.2.1, rfl, H3.out.2.2⟩
  case round =>
    obtain ⟨X, Y, HM⟩ := hrel
    obtain ⟨ky, hy1, hy2, hy3⟩ := HM.out.2.1
    obtain ⟨kx, hx1, hx2, hx3⟩ := HM.out.1
    have hkz := hy2.zero_iff
    by_cases hk0 : ky = 0
    · have HR : Hid (Num wr u7 (Nat.gcd A C) ∧ Below w.heap.size w wr) := by
        have hg := HM.out.2.2.1
        rw [hkz.1 hk0, Nat.gcd_zero_right] at hg
        exact ⟨by rw [← hg]; exact HM.out.1, HM.out.2.2.2⟩
      obtain ⟨_, _, ad, cap, rfl, _, _⟩ := hy1
      subst hk0
      clear hy2 hx1 hx2 hkz HM
      go_wp2_with fail
      go_ret2
      exact ⟨_, rfl, HR.out.1, HR.out.2⟩
    · have hY0 : 0 < Y := Nat.pos_of_ne_zero fun e => hk0 (hkz.2 e)
      have HO := hide (rover_any u7 u8 kx X ky Y wr hx1 hy1 hx2 hy2 hY0 hx3 hy3)
      have HVY := hide HM.out.2.1.val
      have HY0 := hide hY0
      have HKY := hide (And.intro hy2 hy3)
      obtain ⟨_, _, ad, cap, rfl, _, _⟩ := hy1
      have hk1 : (0 : Int) < (ky : Int) := by omega
      clear hx1 hx2 hy2 hkz hY0
      go_wp2_with fail
      refine HO.out.mono ?_
      rintro e w2 ⟨q, s, rfl, _, ⟨n, h1, h2⟩, hb⟩
      have HN : Hid (Num w2 (.slice ad ky cap) Y ∧ Num w2 s (X % Y) ∧ Nat.gcd Y (X % Y) = Nat.gcd A C ∧ Below w.heap.size w w2) := by
        refine ⟨HM.out.2.1.below hb, ⟨n, h1.row, h2, ?_⟩, ?_, HM.out.2.2.2.trans (hb.mono HM.out.2.2.2.size)⟩
        · have := h2.le (Nat.lt_trans (Nat.mod_lt X HY0.out) HKY.out.1.1)
          have := HKY.out.2
          omega
        · rw [← HM.out.2.2.1, Nat.gcd_comm Y, ← Nat.gcd_rec, Nat.gcd_comm]
      have HQ : Hid (valOf w2 s < valOf wr (.slice ad ky cap)) := by
        show _ < _
        rw [HN.out.2.1.val, HVY.out]
        exact Nat.mod_lt X HY0.out
      clear h1 h2 hb HO
      go_wp2_with fail
      go_roundw
      case rel => exact ⟨Y, X % Y, HN.out⟩
      case measure => exact HQ.out

theorem root_bit {s A i : Nat} (h : Sq s A) : let x := s / 2 ^ (i + 1) * 2 ^ (i + 1) + 2 ^ i
    (x * x ≤ A → x = s / 2 ^ i * 2 ^ i) ∧ (¬ x * x ≤ A → s / 2 ^ (i + 1) * 2 ^ (i + 1) = s / 2 ^ i * 2 ^ i) := by
  have hp : 2 ^ (i + 1) = 2 * 2 ^ i := by rw [Nat.pow_succ]; omega
  have hP := Nat.two_pow_pos i
  have h1 : s / 2 ^ (i + 1) = s / 2 ^ i / 2 := by rw [hp, Nat.mul_comm, Nat.div_div_eq_div_mul]
  have h2 : s / 2 ^ i * 2 ^ i ≤ s := Nat.div_mul_le_self _ _
  have h3 : s < (s / 2 ^ i + 1) * 2 ^ i := by
    have := Nat.lt_div_mul_add hP (a := s)
    rw [Nat.add_mul, Nat.one_mul]; exact this
  have hx : s / 2 ^ (i + 1) * 2 ^ (i + 1) + 2 ^ i = (s / 2 ^ i / 2 * 2 + 1) * 2 ^ i := by
    rw [h1, hp, Nat.add_mul, Nat.one_mul, Nat.mul_assoc]
  have hx0 : s / 2 ^ (i + 1) * 2 ^ (i + 1) = (s / 2 ^ i / 2 * 2) * 2 ^ i := by rw [h1, hp, Nat.mul_assoc]
  obtain ⟨q, hq⟩ : ∃ q, s / 2 ^ i = q := ⟨_, rfl⟩
  rw [hq] at h2 h3 hx hx0
  have hle : ∀ x : Nat, x * x ≤ A ↔ x ≤ s := fun x => by
    constructor
    · intro hxx
      rcases Nat.lt_or_ge s x with hl | hl
      · have := Nat.mul_le_mul hl hl
        have := h.2
        simp only [Nat.succ_eq_add_one] at *
        omega
      · exact hl
    · intro hl
      exact Nat.le_trans (Nat.mul_le_mul hl hl) h.1
  refine ⟨fun hxx => ?_, fun hxx => ?_⟩
  · rw [hq]
    have hxs := (hle _).1 hxx
    rw [hx] at hxs ⊢
    have : q / 2 * 2 + 1 ≤ q := by
      rcases Nat.lt_or_ge q (q / 2 * 2 + 1) with hl | hl
      · have := Nat.mul_le_mul_right (2 ^ i) (show q + 1 ≤ q / 2 * 2 + 1 by omega)
        omega
      · exact hl
    rw [show q / 2 * 2 + 1 = q by omega]
  · rw [hq]
    have hxs : ¬ _ := fun e => hxx ((hle _).2 e)
    rw [hx] at hxs
    rw [hx0]
    have : ¬ q / 2 * 2 + 1 ≤ q := fun e => hxs (Nat.le_trans (Nat.mul_le_mul_right _ e) h2)
    rw [show q / 2 * 2 = q by omega]

theorem root_top {s A b : Nat} (h : Sq s A) (hb : A < 2 ^ b) : s / 2 ^ ((b + 1) / 2 + 1) = 0 := by
  refine Nat.div_eq_of_lt ?_
  rcases Nat.lt_or_ge s (2 ^ ((b + 1) / 2 + 1)) with hl | hl
  · exact hl
  · exfalso
    have h1 := Nat.mul_le_mul hl hl
    rw [← Nat.pow_add] at h1
    have h2 : 2 ^ b ≤ 2 ^ ((b + 1) / 2 + 1 + ((b + 1) / 2 + 1)) := Nat.pow_le_pow_right (by omega) (by omega)
    have := h.1
    omega

set_option maxRecDepth 100000 in
set_option maxHeartbeats 4000000 in
theorem rRoot_ok {S : Nat → Prop} (v : Value) (k A s : Nat) (w : World) (h : RowX S w v k A) (hn : Nrm k A) (hk : k ≤ 8192) (hs : Sq s A) :
    Calls Tryd.prog 50 #[v] w fun e w' => ∃ r n, e = .returned (.tuple #[r, .bool (decide (s * s = A)), .int .i64 0]) ∧ Row w' r n s ∧ Nrm n s ∧ Below w.heap.size w w' := by
  have HC := hide (rcheck_any v k A w h)
  rw [chk_nrm hn hk] at HC
  have HB := hide (rbits_any v k A w h hn (by omega))
  have HR := hide (Row.old h.row)
  have hba := bitLen_row hn
  have HTOP : Hid (s / 2 ^ ((bitLen A + 1) / 2 + 1) = 0) := root_top hs (bitLen_spec A).1
  have HSQ := hide hs
  have HN := hide hn
  have HSLT : Hid (s ≤ A) := Nat.le_trans (Nat.le_mul_self s) hs.1
  have HAL := hide h.1
  clear h hn hs
  generalize bitLen A = ba at *
  obtain ⟨b, hb⟩ : ∃ b : Nat, (ba + 1) / 2 = b := ⟨_, rfl⟩
  have hbb : b ≤ 200000 := by omega
  have hbd : Int.tdiv ((ba : Int) + 1) 2 = (b : Int) := by rw [Int.tdiv_eq_ediv_of_nonneg (by omega)]; omega
  have hbd2 : ((ba : Int) + 1) / 2 = (b : Int) := by omega
  rw [hb] at HTOP
  clear hb
  go_enter Tryd.func50, Tryd.ntmps50
  go_wp2_with (first
    | (go_at_call 21; refine HC.out.mono ?_; rintro e w1 ⟨rfl, hw⟩; have hw1 := hw.symm; subst hw1; clear HC)
    | (go_at_call 58; refine HB.out.mono ?_; rintro e w2 ⟨rfl, hw⟩; have hw1 := hw.symm; subst hw1; clear HB)
    | (simp only [hbd]))
  go_loopw [6, 7] (fun t6 t7 wr => ∃ j : Nat, t7 = .int .i64 ((j : Int) - 1) ∧ j ≤ b + 1 ∧ Hid ((∃ n, Row wr t6 n (s / 2 ^ j * 2 ^ j) ∧ Nrm n (s / 2 ^ j * 2 ^ j)) ∧ Below w.heap.size w wr)) (fun _ t7 _ => (intOf t7 + 1).toNat)
  case atStart =>
    refine ⟨b + 1, by go_num, Nat.le_refl _, ⟨0, ?_, ?_⟩, Below.refl _ _⟩
    · rw [HTOP.out, Nat.zero_mul]; exact (Own.nil w 0).row
    · rw [HTOP.out, Nat.zero_mul]; exact ⟨by simp, .inl rfl⟩
  case round =>
    obtain ⟨j, rfl, hj, HS⟩ := hrel
    by_cases hj0 : j = 0
    · subst hj0
      have HE : Hid (∃ n, (Row wr u6 n s ∧ Nrm n s) ∧ Below w.heap.size w wr) := by
        obtain ⟨⟨n, h1, h2⟩, h3⟩ := HS.out
        rw [Nat.pow_zero, Nat.div_one, Nat.mul_one] at h1 h2
        exact ⟨n, ⟨h1, h2⟩, h3⟩
      clear HS
      obtain ⟨n, hE⟩ := HE.out
      have HE2 := hide hE
      have hnk : n ≤ k := hE.1.2.le (Nat.lt_of_le_of_lt HSLT.out HAL.out)
      have HTI := hide (rtimes_any u6 u6 n s n s wr hE.1.1 hE.1.1 (by omega) (by omega))
      clear hE HE
      go_wp2_with fail
      refine HTI.out.mono ?_
      rintro e w3 ⟨t, rfl, n3, ho, hn3, hk3, hb3⟩
      have HO := hide (rorder_any t v n3 (s * s) k A w3 ho.row (HR.out.belowB (HE2.out.2.trans (hb3.mono HE2.out.2.size))).row hn3 HN.out)
      have HF : Hid (Row w3 u6 n s ∧ Nrm n s ∧ Below w.heap.size w w3) := ⟨HE2.out.1.1.below hb3, HE2.out.1.2, HE2.out.2.trans (hb3.mono HE2.out.2.size)⟩
      clear ho hn3 hb3 HTI
      have hdec : decide (cmpI (s * s) A = 0) = decide (s * s = A) := by simp only [decide_eq_decide]; exact cmpI_zero
      have hdec2 : (cmpI (s * s) A == 0) = decide (s * s = A) := by rw [← hdec]; rfl
      generalize cmpI (s * s) A = cc at *
      go_wp2_with fail
      refine HO.out.mono ?_
      rintro e w4 ⟨rfl, nd, rfl⟩
      have HG : Hid (Row (w3.drewN nd) u6 n s ∧ Below w.heap.size w (w3.drewN nd)) := ⟨HF.out.1.drewN nd, below_drewN HF.out.2.2 nd⟩
      generalize w3.drewN nd = w5 at *
      obtain ⟨db, hdb⟩ : ∃ db, decide (s * s = A) = db := ⟨_, rfl⟩
      rw [hdb] at hdec2
      clear hdec
      go_wp2_with (simp only [hdec2])
      go_ret3
      exact ⟨u6, n, by rw [hdb]; rfl, HG.out.1, HF.out.2.1, HG.out.2⟩
    · obtain ⟨i, rfl⟩ : ∃ i, j = i + 1 := ⟨j - 1, by omega⟩
      rw [show ((i + 1 : Nat) : Int) - 1 = (i : Int) from by omega]
      have HST := hide (root_bit (i := i) HSQ.out)
      obtain ⟨R, hR⟩ : ∃ R, s / 2 ^ (i + 1) * 2 ^ (i + 1) = R := ⟨_, rfl⟩
      obtain ⟨R', hR'⟩ : ∃ R', s / 2 ^ i * 2 ^ i = R' := ⟨_, rfl⟩
      rw [hR, hR'] at HST
      rw [hR] at HS
      have HR2 := hide hR'
      have HRL : Hid (R ≤ s) := by show _ ≤ _; rw [← hR]; exact Nat.div_mul_le_self _ _
      clear hR hR'
      obtain ⟨⟨n, h1, h2⟩, h3⟩ := HS.out
      have hnk : n ≤ k := h2.le (Nat.lt_of_le_of_lt (Nat.le_trans HRL.out HSLT.out) HAL.out)
      have HRW := hide (And.intro h1 (And.intro h2 h3))
      clear h1 h2 h3 HS
      have HA1 : Hid (Row (wr.alloc (.cells #[.int .u32 1] 24)) (.slice (some ⟨wr.heap.size, 0, none⟩) 1 1) 1 1 ∧ Below wr.heap.size wr (wr.alloc (.cells #[.int .u32 1] 24))) := by
        refine ⟨⟨by decide, by omega, _, 1, rfl, Nat.le_refl _, fun _ => ⟨wr.heap.size, 0, rfl, trivial, fun j hj => ?_⟩⟩, (Below.refl _ _).alloc (Nat.le_refl _) _⟩
        obtain rfl : j = 0 := by omega
        rw [Nat.add_zero, cell_of_row _ _ _ _ _ _ (heap_alloc_new _ _)]; rfl
      have HUP := hide (rup_any _ 1 1 i _ HA1.out.1 (by omega) (by omega))
      go_wp2_with fail
      refine HUP.out.mono ?_
      rintro e w3 ⟨r3, rfl, n3, ho3, hn3, hk3, hb3⟩
      have HB3 := hide (HA1.out.2.trans (hb3.mono HA1.out.2.size))
      have hpl := rplus_any _ _ n R n3 (1 * 2 ^ i) w3 (HRW.out.1.below HB3.out) ho3.row (by omega) (by omega)
      rw [Nat.one_mul] at hpl
      have HPL := hide hpl
      clear ho3 hn3 hb3 HA1 HUP hpl
      go_wp2_with fail
      refine HPL.out.mono ?_
      rintro e w4 ⟨r4, rfl, n4, ho4, hn4, hk4, hb4⟩
      have HX : Hid (Row w4 r4 n4 (R + 2 ^ i) ∧ Nrm n4 (R + 2 ^ i) ∧ Below wr.heap.size wr w4) := ⟨ho4.row, hn4, HB3.out.trans (hb4.mono HB3.out.size)⟩
      have hn4b : n4 ≤ 20000 := by omega
      clear ho4 hn4 hb4 HPL HB3
      generalize R + 2 ^ i = X at *
      have HTI := hide (rtimes_any r4 r4 n4 X n4 X w4 HX.out.1 HX.out.1 (by omega) (by omega))
      go_wp2_with fail
      refine HTI.out.mono ?_
      rintro e w5 ⟨t, rfl, n5, ho5, hn5, hk5, hb5⟩
      have HX5 : Hid (Row w5 r4 n4 X ∧ Nrm n4 X ∧ Below wr.heap.size wr w5) := ⟨HX.out.1.below hb5, HX.out.2.1, HX.out.2.2.trans (hb5.mono HX.out.2.2.size)⟩
      have HO := hide (rorder_any t v n5 (X * X) k A w5 ho5.row (HR.out.belowB (HRW.out.2.2.trans (HX5.out.2.2.mono HRW.out.2.2.size))).row hn5 HN.out)
      clear ho5 hn5 hb5 HTI HX
      by_cases hle : X * X ≤ A
      · have HE1 : Hid (X = R') := HST.out.1 hle
        have hc : ¬ 0 < cmpI (X * X) A := fun e => by have := cmpI_pos.1 e; omega
        have hc2 : cmpI (X * X) A ≤ 0 := by omega
        clear hle hc
        generalize cmpI (X * X) A = cc at *
        go_wp2_with fail
        refine HO.out.mono ?_
        rintro e w6 ⟨rfl, nd, rfl⟩
        have HG : Hid ((∃ n, Row (w5.drewN nd) r4 n (s / 2 ^ i * 2 ^ i) ∧ Nrm n (s / 2 ^ i * 2 ^ i)) ∧ Below w.heap.size w (w5.drewN nd)) := by
          rw [HR2.out, ← HE1.out]
          exact ⟨⟨n4, HX5.out.1.drewN nd, HX5.out.2.1⟩, below_drewN (HRW.out.2.2.trans (HX5.out.2.2.mono HRW.out.2.2.size)) nd⟩
        generalize w5.drewN nd = w7 at *
        go_wp2_with fail
        go_roundw
        case rel => exact ⟨i, by go_num, by omega, HG.out⟩
        case measure => simp [intOf] <;> omega
      · have HE1 : Hid (R = R') := HST.out.2 hle
        have hc : 0 < cmpI (X * X) A := cmpI_pos.2 (by omega)
        have hc2 : ¬ cmpI (X * X) A ≤ 0 := by omega
        clear hle hc
        generalize cmpI (X * X) A = cc at *
        go_wp2_with fail
        refine HO.out.mono ?_
        rintro e w6 ⟨rfl, nd, rfl⟩
        have HG : Hid ((∃ n, Row (w5.drewN nd) u6 n (s / 2 ^ i * 2 ^ i) ∧ Nrm n (s / 2 ^ i * 2 ^ i)) ∧ Below w.heap.size w (w5.drewN nd)) := by
          rw [HR2.out, ← HE1.out]
          exact ⟨⟨n, (HRW.out.1.below HX5.out.2.2).drewN nd, HRW.out.2.1⟩, below_drewN (HRW.out.2.2.trans (HX5.out.2.2.mono HRW.out.2.2.size)) nd⟩
        generalize w5.drewN nd = w7 at *
        go_wp2_with fail
        go_roundw
        case rel => exact ⟨i, by go_num, by omega, HG.out⟩
        case measure => simp [intOf] <;> omega

end Go.Proofs.YtmfimhpbdbbpoaaDoor

namespace Go.Proofs.YtmfimhpbdbbpoaaDoor
open Go.RowKit
open M
set_option linter.unusedVariables false
set_option linter.unusedSimpArgs false

/-- A root of the bits that are known, or one more. -/
def RootSt (w : World) (S half kn : Nat) (v : Value) (wr : World) : Prop :=
  (∃ n x, RowX (fun _ => True) wr v n x ∧ Nrm n x ∧ (x = S / 2 ^ (half - kn) ∨ x = S / 2 ^ (half - kn) + 1)) ∧ Below w.heap.size w wr

/-- What one step of nearRoot needs. -/
theorem root_step {A S half c d x : Nat} (hS : Sq S A) (hA : 4 ^ half ≤ A) (hc : c = d / 2) (hd : 1 ≤ d) (hdh : d ≤ half) (hx : x = S / 2 ^ (half - c) ∨ x = S / 2 ^ (half - c) + 1) :
    0 < x ∧ (x * 2 ^ (d - c - 1) + A / 2 ^ (2 * half - c - d + 1) / x = S / 2 ^ (half - d) ∨ x * 2 ^ (d - c - 1) + A / 2 ^ (2 * half - c - d + 1) / x = S / 2 ^ (half - d) + 1) := by
  have hSh : 2 ^ half ≤ S := by
    rcases Nat.lt_or_ge S (2 ^ half) with h1 | h1
    · have h2 : (S + 1) * (S + 1) ≤ 2 ^ half * 2 ^ half := Nat.mul_le_mul h1 h1
      rw [← four_pow] at h2
      have := hS.2
      omega
    · exact h1
  have hSc : 2 ^ c ≤ S / 2 ^ (half - c) := by
    rw [Nat.le_div_iff_mul_le (Nat.two_pow_pos _), ← Nat.pow_add, show c + (half - c) = half from by omega]; exact hSh
  have hcp := Nat.two_pow_pos c
  have hx0 : 0 < x := by omega
  refine ⟨hx0, ?_⟩
  have hq := hS.shift (half - d)
  have e1 : S / 2 ^ (half - d) / 2 ^ (d - c) = S / 2 ^ (half - c) := by
    rw [Nat.div_div_eq_div_mul, ← Nat.pow_add, show half - d + (d - c) = half - c from by omega]
  have e2 : A / 4 ^ (half - d) / 2 ^ (d - c + 1) = A / 2 ^ (2 * half - c - d + 1) := by
    rw [show (4 : Nat) = 2 ^ 2 from by decide, ← Nat.pow_mul, Nat.div_div_eq_div_mul, ← Nat.pow_add, show 2 * (half - d) + (d - c + 1) = 2 * half - c - d + 1 from by omega]
  have hn := newton (t := d - c) (x := x) hq (by omega) (by rw [e1]; exact hx) (by
    have : 2 ^ (d - c) ≤ 2 ^ (c + 1) := Nat.pow_le_pow_right (by omega) (by omega)
    rw [Nat.pow_succ] at this
    omega)
  rw [e2] at hn
  exact hn

set_option maxRecDepth 100000 in
set_option maxHeartbeats 4000000 in
theorem nearRoot_any {S' : Nat → Prop} (v : Value) (k A S : Nat) (w : World) (h : RowX S' w v k A) (hn : Nrm k A) (hk : k ≤ 8192) (hA0 : 0 < A) (hS : Sq S A) :
    Calls Tryd.prog 84 #[v] w fun e w' => ∃ r, e = .returned r ∧ ∃ n x, RowX (fun _ => True) w' r n x ∧ Nrm n x ∧ (x = S ∨ x = S + 1) ∧ Below w.heap.size w w' := by
  have hsp := bitLen_spec A
  have hT1 := hsp.2 (by omega)
  have hT2 := hsp.1
  have hTk : bitLen A ≤ 32 * k := bitLen_le (by rw [Nat.pow_mul]; exact hn.1)
  have HLen := hide (Len_row v k A w h hn hk)
  have hT0 : 0 < bitLen A := by
    rcases Nat.eq_zero_or_pos (bitLen A) with h0 | h0
    · rw [h0] at hT2; simp at hT2; omega
    · exact h0
  generalize bitLen A = T at *
  obtain ⟨hf, hhf, hhf'⟩ : ∃ hf : Nat, hf = (T - 1) / 2 ∧ ((T : Int) - 1).tdiv 2 = (hf : Int) := ⟨(T - 1) / 2, rfl, by rw [Int.tdiv_eq_ediv_of_nonneg (by omega)]; omega⟩
  have hhf2 : ((T : Int) - 1) / 2 = (hf : Int) := by omega
  have h4A : 4 ^ hf ≤ A := by
    rw [show (4 : Nat) = 2 ^ 2 from by decide, ← Nat.pow_mul]
    exact Nat.le_trans (Nat.pow_le_pow_right (by omega) (by omega)) hT1
  have h4A2 : A < 4 ^ (hf + 1) := by
    rw [show (4 : Nat) = 2 ^ 2 from by decide, ← Nat.pow_mul]
    exact Nat.lt_of_lt_of_le hT2 (Nat.pow_le_pow_right (by omega) (by omega))
  have hS1 : S / 2 ^ hf = 1 := by
    have hq := hS.shift hf
    have hq2 : Sq 1 (A / 4 ^ hf) := by
      refine ⟨by rw [Nat.mul_one]; exact Nat.div_pos h4A (Nat.pow_pos (by omega)), ?_⟩
      rw [Nat.div_lt_iff_lt_mul (Nat.pow_pos (by omega))]
      rw [Nat.pow_succ] at h4A2
      omega
    exact hq.uniq hq2
  have hfb : hf ≤ 131072 := by omega
  have hst := bitLen_spec hf
  have hstb : bitLen hf ≤ 18 := bitLen_le (by omega)
  have hst0 : hf = 0 → bitLen hf = 0 := fun h0 => by rw [h0]; rfl
  have HBL := hide (fun w => blen_any hf w (by omega))
  generalize bitLen hf = st at *
  have HT : Hid (T ≤ 32 * k ∧ hf = (T - 1) / 2 ∧ 0 < T) := ⟨hTk, hhf, hT0⟩
  have HR := hide h.row
  have HN := hide hn
  have HSq := hide hS
  have H4 := hide h4A
  have HST := hide hst
  have HST0 := hide hst0
  have hwrap : IntKind.u64.wrap (hf : Int) = (hf : Int) := by rw [IntKind.wrap_u64]; omega
  clear hsp hT1 hT2 h4A h4A2 hS hn h hst hst0 hhf
  have HS0 : Hid (RootSt w S hf 0 (.slice (some ⟨w.heap.size, 0, none⟩) 1 1) (w.alloc (.cells #[.int .u32 1] 24))) := by
    refine ⟨⟨1, 1, ⟨by decide, by omega, _, 1, rfl, Nat.le_refl _, fun _ => ⟨w.heap.size, 0, rfl, trivial, fun j hj => ?_⟩⟩, ⟨by decide, .inr (by decide)⟩, .inl ?_⟩, (Below.refl _ _).alloc (Nat.le_refl _) _⟩
    · obtain rfl : j = 0 := by omega
      rw [Nat.zero_add, cell_of_row _ _ _ _ _ _ (heap_alloc_new _ _)]; rfl
    · rw [Nat.sub_zero]; exact hS1.symm
  go_enter Tryd.func84, Tryd.ntmps84
  go_wp2_with fail
  refine HLen.out.mono ?_
  rintro e w1 ⟨rfl, rfl⟩
  go_wp2_with fail
  refine (HBL.out _).mono ?_
  rintro e w2 ⟨rfl, rfl⟩
  go_wp2_with fail
  go_loopw [5, 6, 21] (fun t5 t6 t21 wr => ∃ i : Nat, i ≤ st ∧ t21 = .int .i64 i ∧ t6 = .int .i64 (hf / 2 ^ (st - i) : Nat) ∧ Hid (RootSt w2 S hf (hf / 2 ^ (st - i)) t5 wr)) (fun _ _ t21 _ => st - (intOf t21).toNat)
  case atStart => exact ⟨0, by omega, rfl, by rw [Nat.sub_zero, Nat.div_eq_of_lt HST.out.1]; rfl, by rw [Nat.sub_zero, Nat.div_eq_of_lt HST.out.1]; exact HS0⟩
  case round =>
    obtain ⟨i, hi, rfl, rfl, HI⟩ := hrel
    by_cases hlt : i < st
    · have hlt' : (i : Int) < (st : Int) := by omega
      obtain ⟨e, he, he'⟩ : ∃ e : Nat, st - i = e + 1 ∧ (st : Int) - 1 - (i : Int) = (e : Int) := ⟨st - 1 - i, by omega, by omega⟩
      have hcd : hf / 2 ^ (st - i) = hf / 2 ^ e / 2 := by rw [he, Nat.pow_succ, Nat.div_div_eq_div_mul]
      have hd1 : 1 ≤ hf / 2 ^ e := by
        rw [Nat.le_div_iff_mul_le (Nat.two_pow_pos _), Nat.one_mul]
        have h0 : hf ≠ 0 := fun h0 => by have := HST0.out h0; omega
        exact Nat.le_trans (Nat.pow_le_pow_right (by omega) (by omega)) (HST.out.2 h0)
      have hdh : hf / 2 ^ e ≤ hf := Nat.div_le_self _ _
      have hdv : (hf : Int) / 2 ^ e = ((hf / 2 ^ e : Nat) : Int) := by simp
      have Hnext : Hid (hf / 2 ^ (st - (i + 1)) = hf / 2 ^ e) := by show _ = _; rw [show st - (i + 1) = e from by omega]
      have hel : e ≤ 63 := by omega
      rw [hcd] at HI ⊢
      have he2 : (e : Int) < 64 := by omega
      clear hcd he
      generalize hf / 2 ^ e = d at *
      obtain ⟨c, hc⟩ : ∃ c, c = d / 2 := ⟨_, rfl⟩
      rw [← hc] at HI ⊢
      have hcd : c ≤ d := by omega
      obtain ⟨⟨n0, x, hrow, hnr, hxs⟩, hbel⟩ := HI.out
      have hst := root_step HSq.out H4.out hc hd1 hdh hxs
      have HX := hide (And.intro hrow (And.intro hnr hbel))
      have HXs := hide hst.2
      have hx0 := hst.1
      have hxb : n0 ≤ k + 1 := by
        refine hnr.le ?_
        rw [pw_succ]
        have h1 : S / 2 ^ (hf - c) ≤ S := Nat.div_le_self _ _
        have h2 : S ≤ A := by have h3 := HSq.out.1; rcases Nat.eq_zero_or_pos S with h0 | h0; (· omega); (· exact Nat.le_trans (Nat.le_mul_of_pos_right S h0) h3)
        have h3 := HN.out.1
        omega
      obtain ⟨n1, hn1, hn1'⟩ : ∃ n1 : Nat, n1 = 2 * hf - c - d + 1 ∧ 2 * (hf : Int) - (c : Int) - (d : Int) + 1 = (n1 : Int) := ⟨2 * hf - c - d + 1, rfl, by omega⟩
      obtain ⟨n2, hn2, hn2'⟩ : ∃ n2 : Nat, n2 = d - c - 1 ∧ (d : Int) - (c : Int) - 1 = (n2 : Int) := ⟨d - c - 1, rfl, by omega⟩
      rw [← hn1, ← hn2] at HXs
      have hn1k : n1 < 32 * k := by have := HT.out; omega
      have hn2b : n2 ≤ 131072 := by omega
      clear hrow hnr hxs hbel hst hn1 hn2 HI hc
      go_wp2_with fail
      refine (shiftDown_any v k A n1 wr (HR.out.below HX.out.2.2) hn1k).mono ?_
      rintro e w3 ⟨r3, rfl, m3, hr3, hm3, hk3, hb3⟩
      have H3 := hide (And.intro hr3 (And.intro hm3 (And.intro hb3 (HX.out.2.2.trans (hb3.mono HX.out.2.2.size)))))
      have hm3b : m3 ≤ k := by omega
      clear hr3 hm3 hk3 hb3
      go_wp2_with fail
      refine (divide_any r3 _ m3 (A / 2 ^ n1) n0 x w3 H3.out.1 (HX.out.1.below H3.out.2.2.1) H3.out.2.1 HX.out.2.1 hx0 (by omega)).mono ?_
      rintro e w4 ⟨q4, r4, rfl, ⟨⟨m4, hq4, hm4⟩, _⟩, hb4⟩
      have hm4b : m4 ≤ k := hm4.le (Nat.lt_of_le_of_lt (Nat.div_le_self _ _) (Nat.lt_of_le_of_lt (Nat.div_le_self _ _) HN.out.1))
      have H4w := hide (And.intro hq4 (And.intro hm4 (And.intro (H3.out.2.2.1.trans (hb4.mono H3.out.2.2.1.size)) (H3.out.2.2.2.trans (hb4.mono H3.out.2.2.2.size)))))
      clear hq4 hm4 hb4
      go_wp2_with fail
      refine (shiftUp_any _ n0 x n2 w4 (HX.out.1.below H4w.out.2.2.1) (by omega)).mono ?_
      rintro e w5 ⟨r5, rfl, m5, hr5, hm5, hk5, hb5⟩
      have H5 := hide (And.intro hr5 (And.intro (RowX.below H4w.out.1 hb5) (H4w.out.2.2.2.trans (hb5.mono H4w.out.2.2.2.size))))
      have hm5b : m5 ≤ 100000 := by omega
      clear hr5 hm5 hb5 hk5
      go_wp2_with fail
      refine (sum_any r5 q4 m5 (x * 2 ^ n2) m4 (A / 2 ^ n1 / x) w5 H5.out.1 H5.out.2.1 (by omega) (by omega)).mono ?_
      rintro e w6 ⟨r6, rfl, m6, hr6, hm6, _, hb6⟩
      have H6 : Hid (RootSt w2 S hf d r6 w6) := ⟨⟨m6, _, hr6.row, hm6, HXs.out⟩, H5.out.2.2.trans (hb6.mono H5.out.2.2.size)⟩
      clear hr6 hm6 hb6
      go_wp2_with fail
      go_roundw
      case rel => exact ⟨i + 1, by omega, by go_num, by rw [Hnext.out], by rw [Hnext.out]; exact H6⟩
      case measure => simp [intOf]; omega
    · obtain rfl : i = st := by omega
      have HE : Hid (∃ n x, RowX (fun _ => True) wr u5 n x ∧ Nrm n x ∧ (x = S ∨ x = S + 1) ∧ Below w2.heap.size w2 wr) := by
        obtain ⟨⟨n, x, h1, h2, h3⟩, h4⟩ := HI.out
        rw [Nat.sub_self, Nat.pow_zero, Nat.div_one, Nat.sub_self, Nat.pow_zero, Nat.div_one] at h3
        exact ⟨n, x, h1, h2, h3, h4⟩
      clear HI
      generalize ((hf / 2 ^ (i - i) : Nat) : Int) = kk at *
      go_wp2_with fail
      go_ret
      exact ⟨_, rfl, HE.out⟩


theorem sq_le {S A : Nat} (h : Sq S A) : S ≤ A := by
  have h3 := h.1
  rcases Nat.eq_zero_or_pos S with h0 | h0
  · omega
  · exact Nat.le_trans (Nat.le_mul_of_pos_right S h0) h3

theorem cmp_sq {S A : Nat} (h : Sq S A) : ¬ 0 < cmpI (S * S) A ∧ (cmpI (S * S) A == 0) = decide (S * S = A) := by
  have h1 := h.1
  rcases Nat.lt_or_ge (S * S) A with h2 | h2
  · rw [cmpI_lt h2, decide_eq_false (by omega)]; decide
  · have e : S * S = A := by omega
    rw [decide_eq_true e, e, cmpI_eq]; decide

set_option maxRecDepth 100000 in
set_option maxHeartbeats 2000000 in
theorem Root_num {v : Value} {A S : Nat} {w : World} (h : Num w v A) (hS : Sq S A) :
    Calls Tryd.prog 49 #[v] w fun e w' => ∃ r n, e = .returned (.tuple #[r, .bool (decide (S * S = A)), .int .i64 0]) ∧ Own w' w.heap.size r n S ∧ Nrm n S ∧ Below w.heap.size w w' := by
  obtain ⟨k, h1, h2, h3⟩ := h
  have HC := hide (check_ok v k A w h1 h2 h3)
  by_cases hA0 : A = 0
  · have hk0 := h2.zero_iff.2 hA0
    subst hk0
    have hS0 : S = 0 := by have := sq_le hS; omega
    have HD : Hid (decide (S * S = A) = true) := decide_eq_true (by rw [hS0, hA0])
    have HS := hide hS0
    obtain ⟨_, _, ad, cap, rfl, _, _⟩ := h1
    clear h2 hS hS0
    go_enter Tryd.func49, Tryd.ntmps49
    go_wp2_with fail
    refine HC.out.mono ?_
    rintro e w1 ⟨rfl, rfl⟩
    go_wp2_with fail
    go_ret3
    exact ⟨_, 0, by rw [HD.out]; rfl, by rw [HS.out]; exact Own.nil _ _, by rw [HS.out]; exact nrm_zero, Below.refl _ _⟩
  · have hkz : ((k : Int) == 0) = false := by
      rw [beq_eq_false_iff_ne]
      intro e
      exact hA0 (h2.zero_iff.1 (by omega))
    have HNR := hide (nearRoot_any v k A S w h1 h2 h3 (by omega) hS)
    have HR := hide h1
    have HN := hide h2
    have HS := hide hS
    have hcs := cmp_sq hS
    have HD := hide hcs.2
    have hng := hcs.1
    have hSk : S < 4294967296 ^ k := Nat.lt_of_le_of_lt (sq_le hS) h2.1
    have HSk := hide hSk
    obtain ⟨_, _, ad, cap, rfl, _, _⟩ := h1
    clear h2 hS hcs hA0 hSk
    go_enter Tryd.func49, Tryd.ntmps49
    go_wp2_with fail
    refine HC.out.mono ?_
    rintro e w1 ⟨rfl, rfl⟩
    go_wp2_with fail
    refine HNR.out.mono ?_
    rintro e w2 ⟨r2, rfl, n2, x, hr2, hn2, hx, hb2⟩
    have hn2b : n2 ≤ k + 1 := hn2.le (by rw [pw_succ]; have := HSk.out; omega)
    have H2 := hide (And.intro hr2 (And.intro hn2 hb2))
    clear hr2 hn2 hb2 HNR
    go_wp2_with fail
    refine (product_any r2 r2 n2 x n2 x w2 H2.out.1 H2.out.1 (by omega)).mono ?_
    rintro e w3 ⟨r3, rfl, n3, hr3, hn3, _, hb3⟩
    have H3 := hide (And.intro hr3 (And.intro hn3 hb3))
    clear hr3 hn3 hb3
    go_wp2_with fail
    refine (compare_below r3 _ n3 (x * x) k A w3 H3.out.1 ((HR.out.below H2.out.2.2).below H3.out.2.2) H3.out.2.1 HN.out).mono ?_
    rintro e w4 ⟨rfl, hb4⟩
    have H4 := hide ((H3.out.2.2).trans (hb4.mono H3.out.2.2.size))
    clear hb4
    rcases hx with rfl | rfl
    · generalize cmpI (x * x) A = cc at *
      go_wp2_with fail
      refine (fresh_any r2 n2 x w4 (H2.out.1.below H4.out)).mono ?_
      rintro e w5 ⟨r5, rfl, ho5, hb5⟩
      have H5 : Hid (Own w5 w1.heap.size r5 n2 x ∧ Below w1.heap.size w1 w5) := by
        have hs2 := H2.out.2.2.size
        have hs4 := H4.out.size
        exact ⟨ho5.mono (by omega), H2.out.2.2.trans ((H4.out.mono hs2).trans (hb5.mono (by omega)))⟩
      clear ho5 hb5
      go_wp2_with fail
      go_ret3
      exact ⟨r5, n2, by rw [← HD.out]; rfl, H5.out.1, H2.out.2.1, H5.out.2⟩
    · have hgt : cmpI ((S + 1) * (S + 1)) A = 1 := cmpI_gt HS.out.2
      rw [hgt]
      clear hgt
      go_wp2_with fail
      refine (From_any 1 w4 (by omega)).mono ?_
      rintro e w5 ⟨r5, rfl, k5, ho5, hn5, hk5, hb5⟩
      have H5 := hide (And.intro ho5.row (H4.out.trans (hb5.mono H4.out.size)))
      clear ho5 hn5 hb5
      go_wp2_with fail
      refine (difference_any r2 r5 n2 (S + 1) k5 1 w5 (H2.out.1.below H5.out.2) H5.out.1 (by omega)).mono ?_
      rintro e w6 ⟨r6, rfl, n6, hr6, hn6, hk6, hb6⟩
      rw [Nat.add_sub_cancel] at hr6 hn6
      have H6 := hide (And.intro hr6.row (And.intro hn6 (H5.out.2.trans (hb6.mono H5.out.2.size))))
      clear hr6 hn6 hb6
      go_wp2_with fail
      refine (product_any r6 r6 n6 S n6 S w6 H6.out.1 H6.out.1 (by omega)).mono ?_
      rintro e w7 ⟨r7, rfl, n7, hr7, hn7, _, hb7⟩
      have H7 := hide (And.intro hr7 (And.intro hn7 (And.intro hb7 (H6.out.2.2.trans (hb7.mono H6.out.2.2.size)))))
      clear hr7 hn7 hb7
      go_wp2_with fail
      refine (compare_below r7 _ n7 (S * S) k A w7 H7.out.1 ((HR.out.below H2.out.2.2).below H7.out.2.2.2) H7.out.2.1 HN.out).mono ?_
      rintro e w8 ⟨rfl, hb8⟩
      have H8 := hide (And.intro (H7.out.2.2.1.trans (hb8.mono H7.out.2.2.1.size)) (H7.out.2.2.2.trans (hb8.mono H7.out.2.2.2.size)))
      clear hb8
      generalize cmpI (S * S) A = cc at *
      go_wp2_with fail
      refine (fresh_any r6 n6 S w8 (RowX.below H6.out.1 H8.out.1)).mono ?_
      rintro e w9 ⟨r9, rfl, ho9, hb9⟩
      have H9 : Hid (Own w9 w1.heap.size r9 n6 S ∧ Below w1.heap.size w1 w9) := by
        have hs2 := H2.out.2.2.size
        have hs8 := H8.out.2.size
        exact ⟨ho9.mono (by omega), H2.out.2.2.trans ((H8.out.2.mono hs2).trans (hb9.mono (by omega)))⟩
      clear ho9 hb9
      go_wp2_with fail
      go_ret3
      exact ⟨r9, n6, by rw [← HD.out]; rfl, H9.out.1, H6.out.2.1, H9.out.2⟩

end Go.Proofs.YtmfimhpbdbbpoaaDoor

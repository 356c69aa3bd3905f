/- Package exact: Ratio, Ratio32, Root. -/
import Derived.Test.YtolaaemkcmiabaaDoorB
import Derived.Test.YtolaaemkcmiabaaDoorXA
import Derived.Test.YtolaaemkcmiabaaDoorYI
/- Square roots: plain mathematics. -/
namespace Go.Proofs.YtolaaemkcmiabaaDoor
namespace M
set_option linter.unusedVariables false
set_option linter.unusedSimpArgs false

/-- s is n's square root, rounded down. -/
def Sq (s n : Nat) : Prop := s * s ≤ n ∧ n < (s + 1) * (s + 1)

theorem Sq.uniq {s s' n : Nat} (h : Sq s n) (h' : Sq s' n) : s = s' := by
  rcases Nat.lt_trichotomy s s' with hl | hl | hl
  · have := Nat.mul_le_mul hl hl; have h1 := h.2; have h2 := h'.1; simp only [Nat.succ_eq_add_one] at this; omega
  · exact hl
  · have := Nat.mul_le_mul hl hl; have h1 := h'.2; have h2 := h.1; simp only [Nat.succ_eq_add_one] at this; omega

theorem sq_exists (n : Nat) : ∃ s, Sq s n := by
  induction n with
  | zero => exact ⟨0, by decide, by decide⟩
  | succ n ih =>
    obtain ⟨s, h1, h2⟩ := ih
    by_cases h : n + 1 < (s + 1) * (s + 1)
    · exact ⟨s, by omega, h⟩
    · refine ⟨s + 1, by omega, ?_⟩
      have : (s + 1 + 1) * (s + 1 + 1) = (s + 1) * (s + 1) + 2 * s + 3 := by
        rw [Nat.mul_add, Nat.add_mul (s + 1) 1 (s + 1)]; omega
      omega

theorem four_pow (t : Nat) : 4 ^ t = 2 ^ t * 2 ^ t := by rw [← Nat.mul_pow]

/-- The root of what is left without 2 t bits. -/
theorem Sq.shift {s n : Nat} (h : Sq s n) (t : Nat) : Sq (s / 2 ^ t) (n / 4 ^ t) := by
  have hp := Nat.two_pow_pos t
  rw [four_pow]
  have h1 : s / 2 ^ t * 2 ^ t ≤ s := Nat.div_mul_le_self _ _
  have h2 : s < (s / 2 ^ t + 1) * 2 ^ t := by
    have := Nat.lt_mul_div_succ s hp; rw [Nat.mul_comm] at this; exact this
  generalize s / 2 ^ t = c at *
  generalize 2 ^ t = p at *
  constructor
  · rw [Nat.le_div_iff_mul_le (Nat.mul_pos hp hp)]
    have := Nat.mul_le_mul h1 h1
    have e : c * p * (c * p) = c * c * (p * p) := by rw [Nat.mul_assoc, Nat.mul_left_comm p c p, ← Nat.mul_assoc, ← Nat.mul_assoc]
    rw [e] at this
    exact Nat.le_trans this h.1
  · rw [Nat.div_lt_iff_lt_mul (Nat.mul_pos hp hp)]
    have h3 : s + 1 ≤ (c + 1) * p := h2
    have := Nat.mul_le_mul h3 h3
    have e : (c + 1) * p * ((c + 1) * p) = (c + 1) * (c + 1) * (p * p) := by rw [Nat.mul_assoc, Nat.mul_left_comm p (c + 1) p, ← Nat.mul_assoc, ← Nat.mul_assoc]
    rw [e] at this
    exact Nat.lt_of_lt_of_le h.2 this

/-- A step of Newton's, from a root of the upper bits or one more: in whole numbers. -/
theorem newton {s n t x : Nat} (h : Sq s n) (ht : 0 < t) (hx : x = s / 2 ^ t ∨ x = s / 2 ^ t + 1) (hx2 : 2 ^ t ≤ 2 * x) :
    (x * 2 ^ (t - 1) + n / 2 ^ (t + 1) / x = s) ∨ (x * 2 ^ (t - 1) + n / 2 ^ (t + 1) / x = s + 1) := by
  have hp := Nat.two_pow_pos t
  have hx0 : 0 < x := by omega
  obtain ⟨u, rfl⟩ : ∃ u, t = u + 1 := ⟨t - 1, by omega⟩
  rw [Nat.add_sub_cancel]
  have hpp : 2 ^ (u + 1) = 2 * 2 ^ u := by rw [Nat.pow_succ, Nat.mul_comm]
  have hq : 2 ^ (u + 1 + 1) = 4 * 2 ^ u := by rw [Nat.pow_succ, Nat.pow_succ]; omega
  have hu := Nat.two_pow_pos u
  have hm : s / 2 ^ (u + 1) * 2 ^ (u + 1) ≤ s := Nat.div_mul_le_self _ _
  have hm2 : s < (s / 2 ^ (u + 1) + 1) * 2 ^ (u + 1) := by
    have := Nat.lt_mul_div_succ s hp; rw [Nat.mul_comm] at this; exact this
  -- Y = 2^u x, X = 2 Y; the new one is Y + n / (4 Y)
  have e1 : n / 2 ^ (u + 1 + 1) / x = n / (4 * (x * 2 ^ u)) := by
    rw [Nat.div_div_eq_div_mul, hq, Nat.mul_assoc, Nat.mul_comm (2 ^ u) x]
  rw [e1]
  generalize s / 2 ^ (u + 1) = c at *
  rw [hpp] at hx2 hm hm2
  clear hp hq e1 hpp ht
  generalize 2 ^ u = p at *
  obtain ⟨Y, hY⟩ : ∃ Y, Y = x * p := ⟨_, rfl⟩
  rw [← hY]
  have hY0 : 0 < Y := by rw [hY]; exact Nat.mul_pos hx0 hu
  -- X lies near s
  have near : (2 * Y ≤ s ∧ s < 2 * Y + 2 * p) ∨ (s < 2 * Y ∧ 2 * Y ≤ s + 2 * p) := by
    rw [Nat.add_mul] at hm2
    rcases hx with hx | hx
    · left
      have : c * (2 * p) = 2 * Y := by rw [hY, hx, Nat.mul_left_comm]
      omega
    · right
      have : (c + 1) * (2 * p) = 2 * Y := by rw [hY, hx, Nat.mul_left_comm]
      rw [Nat.add_mul] at this
      omega
  have hYp : p * p ≤ Y := by
    rw [hY]
    exact Nat.mul_le_mul_right p (by omega)
  have hdm := Nat.div_add_mod n (4 * Y)
  have hml := Nat.mod_lt n (show 0 < 4 * Y from by omega)
  generalize n / (4 * Y) = m at *
  generalize n % (4 * Y) = r at *
  have hn1 := h.1
  have hn2 := h.2
  -- lower and upper bounds
  have lower : s ≤ Y + m := by
    rcases Nat.lt_or_ge (Y + m) s with hlt | hge
    · exfalso
      -- 4 Y (Y + m + 1) <= 4 Y s
      have h1 : 4 * Y * (Y + m + 1) ≤ 4 * Y * s := Nat.mul_le_mul_left _ hlt
      rw [Nat.mul_add, Nat.mul_add, Nat.mul_one] at h1
      -- (2Y - s)^2 >= 0
      rcases Nat.le_total (2 * Y) s with h2 | h2
      · obtain ⟨d, rfl⟩ : ∃ d, s = 2 * Y + d := ⟨s - 2 * Y, by omega⟩
        have e2 : (2 * Y + d) * (2 * Y + d) = 4 * Y * Y + 4 * Y * d + d * d := by
          rw [Nat.mul_add, Nat.add_mul, Nat.add_mul]
          have a1 : 2 * Y * (2 * Y) = 4 * Y * Y := by rw [Nat.mul_assoc, Nat.mul_left_comm Y 2 Y, ← Nat.mul_assoc, ← Nat.mul_assoc]
          have a2 : d * (2 * Y) = 2 * Y * d := Nat.mul_comm _ _
          have a3 : 4 * Y * d = 2 * Y * d + 2 * Y * d := by rw [← Nat.add_mul]; congr 1; omega
          omega
        rw [e2] at hn1
        have e3 : 4 * Y * (2 * Y + d) = 4 * Y * Y + 4 * Y * Y + 4 * Y * d := by
          rw [Nat.mul_add]
          have a1 : 4 * Y * (2 * Y) = 4 * Y * Y + 4 * Y * Y := by rw [← Nat.mul_add]; congr 1; omega
          omega
        rw [e3] at h1
        omega
      · obtain ⟨d, hd⟩ : ∃ d, 2 * Y = s + d := ⟨2 * Y - s, by omega⟩
        have e2 : (s + d) * (s + d) = s * s + 2 * (s * d) + d * d := by
          rw [Nat.mul_add, Nat.add_mul, Nat.add_mul, Nat.mul_comm d s]; omega
        have e3 : 4 * Y * Y = (s + d) * (s + d) := by
          rw [← hd, Nat.mul_assoc 2, Nat.mul_left_comm Y 2 Y, ← Nat.mul_assoc, ← Nat.mul_assoc]
        have e4 : 4 * Y * s = 2 * (s * s) + 2 * (s * d) := by
          rw [show 4 * Y = 2 * (s + d) from by omega, Nat.mul_assoc, Nat.add_mul, Nat.mul_comm d s]; omega
        rw [e3, e2, e4] at h1
        omega
    · exact hge
  have upper : Y + m ≤ s + 1 := by
    rcases Nat.lt_or_ge (s + 1) (Y + m) with hlt | hge
    · exfalso
      have h1 : 4 * Y * (s + 2) ≤ 4 * Y * (Y + m) := Nat.mul_le_mul_left _ hlt
      rw [Nat.mul_add, Nat.mul_add] at h1
      have hs2 : (s + 1) * (s + 1) = s * s + 2 * s + 1 := by rw [Nat.mul_add, Nat.add_mul]; omega
      rw [hs2] at hn2
      have hyy : 4 * Y * 2 = 8 * Y := by omega
      rcases near with ⟨h2, h3⟩ | ⟨h2, h3⟩
      · obtain ⟨d, rfl⟩ : ∃ d, s = 2 * Y + d := ⟨s - 2 * Y, by omega⟩
        have hd : (d + 1) * (d + 1) ≤ 2 * p * (2 * p) := Nat.mul_le_mul (by omega) (by omega)
        have hd2 : (d + 1) * (d + 1) = d * d + 2 * d + 1 := by rw [Nat.mul_add, Nat.add_mul]; omega
        have hp4 : 2 * p * (2 * p) = 4 * (p * p) := by rw [Nat.mul_assoc, Nat.mul_left_comm p 2 p, ← Nat.mul_assoc]
        have e2 : (2 * Y + d) * (2 * Y + d) = 4 * Y * Y + 4 * Y * d + d * d := by
          rw [Nat.mul_add, Nat.add_mul, Nat.add_mul]
          have a1 : 2 * Y * (2 * Y) = 4 * Y * Y := by rw [Nat.mul_assoc, Nat.mul_left_comm Y 2 Y, ← Nat.mul_assoc, ← Nat.mul_assoc]
          have a2 : d * (2 * Y) = 2 * Y * d := Nat.mul_comm _ _
          have a3 : 4 * Y * d = 2 * Y * d + 2 * Y * d := by rw [← Nat.add_mul]; congr 1; omega
          omega
        have e3 : 4 * Y * (2 * Y + d) = 4 * Y * Y + 4 * Y * Y + 4 * Y * d := by
          rw [Nat.mul_add]
          have a1 : 4 * Y * (2 * Y) = 4 * Y * Y + 4 * Y * Y := by rw [← Nat.mul_add]; congr 1; omega
          omega
        rw [e2] at hn2
        rw [e3] at h1
        omega
      · obtain ⟨d, hd⟩ : ∃ d, 2 * Y = s + d := ⟨2 * Y - s, by omega⟩
        have hdp : d * d ≤ 2 * p * (2 * p) := Nat.mul_le_mul (by omega) (by omega)
        have hp4 : 2 * p * (2 * p) = 4 * (p * p) := by rw [Nat.mul_assoc, Nat.mul_left_comm p 2 p, ← Nat.mul_assoc]
        have e2 : (s + d) * (s + d) = s * s + 2 * (s * d) + d * d := by
          rw [Nat.mul_add, Nat.add_mul, Nat.add_mul, Nat.mul_comm d s]; omega
        have e3 : 4 * Y * Y = (s + d) * (s + d) := by
          rw [← hd, Nat.mul_assoc 2, Nat.mul_left_comm Y 2 Y, ← Nat.mul_assoc, ← Nat.mul_assoc]
        have e4 : 4 * Y * s = 2 * (s * s) + 2 * (s * d) := by
          rw [show 4 * Y = 2 * (s + d) from by omega, Nat.mul_assoc, Nat.add_mul, Nat.mul_comm d s]; omega
        rw [e3, e2, e4] at h1
        omega
    · exact hge
  omega

end M
end Go.Proofs.YtolaaemkcmiabaaDoor

/- nearRoot, Root. -/
namespace Go.Proofs.YtolaaemkcmiabaaDoor
open Go.RowKit
open M
set_option linter.unusedVariables false
set_option linter.unusedSimpArgs false

/-- A root of the bits that are known, or one more. -/
def RootSt (w : World) (S half kn : Nat) (v : Value) (wr : World) : Prop :=
  (∃ n x, RowX (fun _ => True) wr v n x ∧ Nrm n x ∧ (x = S / 2 ^ (half - kn) ∨ x = S / 2 ^ (half - kn) + 1)) ∧ Below w.heap.size w wr

/-- What one step of nearRoot needs. -/
theorem root_step {A S half c d x : Nat} (hS : Sq S A) (hA : 4 ^ half ≤ A) (hc : c = d / 2) (hd : 1 ≤ d) (hdh : d ≤ half) (hx : x = S / 2 ^ (half - c) ∨ x = S / 2 ^ (half - c) + 1) :
    0 < x ∧ (x * 2 ^ (d - c - 1) + A / 2 ^ (2 * half - c - d + 1) / x = S / 2 ^ (half - d) ∨ x * 2 ^ (d - c - 1) + A / 2 ^ (2 * half - c - d + 1) / x = S / 2 ^ (half - d) + 1) := by
  have hSh : 2 ^ half ≤ S := by
    rcases Nat.lt_or_ge S (2 ^ half) with h1 | h1
    · have h2 : (S + 1) * (S + 1) ≤ 2 ^ half * 2 ^ half := Nat.mul_le_mul h1 h1
      rw [← four_pow] at h2
      have := hS.2
      omega
    · exact h1
  have hSc : 2 ^ c ≤ S / 2 ^ (half - c) := by
    rw [Nat.le_div_iff_mul_le (Nat.two_pow_pos _), ← Nat.pow_add, show c + (half - c) = half from by omega]; exact hSh
  have hcp := Nat.two_pow_pos c
  have hx0 : 0 < x := by omega
  refine ⟨hx0, ?_⟩
  have hq := hS.shift (half - d)
  have e1 : S / 2 ^ (half - d) / 2 ^ (d - c) = S / 2 ^ (half - c) := by
    rw [Nat.div_div_eq_div_mul, ← Nat.pow_add, show half - d + (d - c) = half - c from by omega]
  have e2 : A / 4 ^ (half - d) / 2 ^ (d - c + 1) = A / 2 ^ (2 * half - c - d + 1) := by
    rw [show (4 : Nat) = 2 ^ 2 from by decide, ← Nat.pow_mul, Nat.div_div_eq_div_mul, ← Nat.pow_add, show 2 * (half - d) + (d - c + 1) = 2 * half - c - d + 1 from by omega]
  have hn := newton (t := d - c) (x := x) hq (by omega) (by rw [e1]; exact hx) (by
    have : 2 ^ (d - c) ≤ 2 ^ (c + 1) := Nat.pow_le_pow_right (by omega) (by omega)
    rw [Nat.pow_succ] at this
    omega)
  rw [e2] at hn
  exact hn

set_option maxRecDepth 100000 in
set_option maxHeartbeats 4000000 in
theorem nearRoot_any {S' : Nat → Prop} (v : Value) (k A S : Nat) (w : World) (h : RowX S' w v k A) (hn : Nrm k A) (hk : k ≤ 8192) (hA0 : 0 < A) (hS : Sq S A) :
    Calls Tryd.prog 64 #[v] w fun e w' => ∃ r, e = .returned r ∧ ∃ n x, RowX (fun _ => True) w' r n x ∧ Nrm n x ∧ (x = S ∨ x = S + 1) ∧ Below w.heap.size w w' := by
  have hsp := bitLen_spec A
  have hT1 := hsp.2 (by omega)
  have hT2 := hsp.1
  have hTk : bitLen A ≤ 32 * k := bitLen_le (by rw [Nat.pow_mul]; exact hn.1)
  have HLen := hide (Len_row v k A w h hn hk)
  have hT0 : 0 < bitLen A := by
    rcases Nat.eq_zero_or_pos (bitLen A) with h0 | h0
    · rw [h0] at hT2; simp at hT2; omega
    · exact h0
  generalize bitLen A = T at *
  obtain ⟨hf, hhf, hhf'⟩ : ∃ hf : Nat, hf = (T - 1) / 2 ∧ ((T : Int) - 1).tdiv 2 = (hf : Int) := ⟨(T - 1) / 2, rfl, by rw [Int.tdiv_eq_ediv_of_nonneg (by omega)]; omega⟩
  have hhf2 : ((T : Int) - 1) / 2 = (hf : Int) := by omega
  have h4A : 4 ^ hf ≤ A := by
    rw [show (4 : Nat) = 2 ^ 2 from by decide, ← Nat.pow_mul]
    exact Nat.le_trans (Nat.pow_le_pow_right (by omega) (by omega)) hT1
  have h4A2 : A < 4 ^ (hf + 1) := by
    rw [show (4 : Nat) = 2 ^ 2 from by decide, ← Nat.pow_mul]
    exact Nat.lt_of_lt_of_le hT2 (Nat.pow_le_pow_right (by omega) (by omega))
  have hS1 : S / 2 ^ hf = 1 := by
    have hq := hS.shift hf
    have hq2 : Sq 1 (A / 4 ^ hf) := by
      refine ⟨by rw [Nat.mul_one]; exact Nat.div_pos h4A (Nat.pow_pos (by omega)), ?_⟩
      rw [Nat.div_lt_iff_lt_mul (Nat.pow_pos (by omega))]
      rw [Nat.pow_succ] at h4A2
      omega
    exact hq.uniq hq2
  have hfb : hf ≤ 131072 := by omega
  have hst := bitLen_spec hf
  have hstb : bitLen hf ≤ 18 := bitLen_le (by omega)
  have hst0 : hf = 0 → bitLen hf = 0 := fun h0 => by rw [h0]; rfl
  have HBL := hide (fun w => blen_any hf w (by omega))
  generalize bitLen hf = st at *
  have HT : Hid (T ≤ 32 * k ∧ hf = (T - 1) / 2 ∧ 0 < T) := ⟨hTk, hhf, hT0⟩
  have HR := hide h.row
  have HN := hide hn
  have HSq := hide hS
  have H4 := hide h4A
  have HST := hide hst
  have HST0 := hide hst0
  have hwrap : IntKind.u64.wrap (hf : Int) = (hf : Int) := by rw [IntKind.wrap_u64]; omega
  clear hsp hT1 hT2 h4A h4A2 hS hn h hst hst0 hhf
  have HS0 : Hid (RootSt w S hf 0 (.slice (some ⟨w.heap.size, 0, none⟩) 1 1) (w.alloc (.cells #[.int .u32 1] 97))) := by
    refine ⟨⟨1, 1, ⟨by decide, by omega, _, 1, rfl, Nat.le_refl _, fun _ => ⟨w.heap.size, 0, rfl, trivial, fun j hj => ?_⟩⟩, ⟨by decide, .inr (by decide)⟩, .inl ?_⟩, (Below.refl _ _).alloc (Nat.le_refl _) _⟩
    · obtain rfl : j = 0 := by omega
      rw [Nat.zero_add, cell_of_row _ _ _ _ _ _ (heap_alloc_new _ _)]; rfl
    · rw [Nat.sub_zero]; exact hS1.symm
  go_enter Tryd.func64, Tryd.ntmps64
  go_wp2_with fail
  refine HLen.out.mono ?_
  rintro e w1 ⟨rfl, rfl⟩
  go_wp2_with fail
  refine (HBL.out _).mono ?_
  rintro e w2 ⟨rfl, rfl⟩
  go_wp2_with fail
  go_loopw [5, 6, 21] (fun t5 t6 t21 wr => ∃ i : Nat, i ≤ st ∧ t21 = .int .i64 i ∧ t6 = .int .i64 (hf / 2 ^ (st - i) : Nat) ∧ Hid (RootSt w2 S hf (hf / 2 ^ (st - i)) t5 wr)) (fun _ _ t21 _ => st - (intOf t21).toNat)
  case atStart => exact ⟨0, by omega, rfl, by rw [Nat.sub_zero, Nat.div_eq_of_lt HST.out.1]; rfl, by rw [Nat.sub_zero, Nat.div_eq_of_lt HST.out.1]; exact HS0⟩
  case round =>
    obtain ⟨i, hi, rfl, rfl, HI⟩ := hrel
    by_cases hlt : i < st
    · have hlt' : (i : Int) < (st : Int) := by omega
      obtain ⟨e, he, he'⟩ : ∃ e : Nat, st - i = e + 1 ∧ (st : Int) - 1 - (i : Int) = (e : Int) := ⟨st - 1 - i, by omega, by omega⟩
      have hcd : hf / 2 ^ (st - i) = hf / 2 ^ e / 2 := by rw [he, Nat.pow_succ, Nat.div_div_eq_div_mul]
      have hd1 : 1 ≤ hf / 2 ^ e := by
        rw [Nat.le_div_iff_mul_le (Nat.two_pow_pos _), Nat.one_mul]
        have h0 : hf ≠ 0 := fun h0 => by have := HST0.out h0; omega
        exact Nat.le_trans (Nat.pow_le_pow_right (by omega) (by omega)) (HST.out.2 h0)
      have hdh : hf / 2 ^ e ≤ hf := Nat.div_le_self _ _
      have hdv : (hf : Int) / 2 ^ e = ((hf / 2 ^ e : Nat) : Int) := by simp
      have Hnext : Hid (hf / 2 ^ (st - (i + 1)) = hf / 2 ^ e) := by show _ = _; rw [show st - (i + 1) = e from by omega]
      have hel : e ≤ 63 := by omega
      rw [hcd] at HI ⊢
      have he2 : (e : Int) < 64 := by omega
      clear hcd he
      generalize hf / 2 ^ e = d at *
      obtain ⟨c, hc⟩ : ∃ c, c = d / 2 := ⟨_, rfl⟩
      rw [← hc] at HI ⊢
      have hcd : c ≤ d := by omega
      obtain ⟨⟨n0, x, hrow, hnr, hxs⟩, hbel⟩ := HI.out
      have hst := root_step HSq.out H4.out hc hd1 hdh hxs
      have HX := hide (And.intro hrow (And.intro hnr hbel))
      have HXs := hide hst.2
      have hx0 := hst.1
      have hxb : n0 ≤ k + 1 := by
        refine hnr.le ?_
        rw [pw_succ]
        have h1 : S / 2 ^ (hf - c) ≤ S := Nat.div_le_self _ _
        have h2 : S ≤ A := by have h3 := HSq.out.1; rcases Nat.eq_zero_or_pos S with h0 | h0; (· omega); (· exact Nat.le_trans (Nat.le_mul_of_pos_right S h0) h3)
        have h3 := HN.out.1
        omega
      obtain ⟨n1, hn1, hn1'⟩ : ∃ n1 : Nat, n1 = 2 * hf - c - d + 1 ∧ 2 * (hf : Int) - (c : Int) - (d : Int) + 1 = (n1 : Int) := ⟨2 * hf - c - d + 1, rfl, by omega⟩
      obtain ⟨n2, hn2, hn2'⟩ : ∃ n2 : Nat, n2 = d - c - 1 ∧ (d : Int) - (c : Int) - 1 = (n2 : Int) := ⟨d - c - 1, rfl, by omega⟩
      rw [← hn1, ← hn2] at HXs
      have hn1k : n1 < 32 * k := by have := HT.out; omega
      have hn2b : n2 ≤ 131072 := by omega
      clear hrow hnr hxs hbel hst hn1 hn2 HI hc
      go_wp2_with fail
      refine (shiftDown_any v k A n1 wr (HR.out.below HX.out.2.2) hn1k).mono ?_
      rintro e w3 ⟨r3, rfl, m3, hr3, hm3, hk3, hb3⟩
      have H3 := hide (And.intro hr3 (And.intro hm3 (And.intro hb3 (HX.out.2.2.trans (hb3.mono HX.out.2.2.size)))))
      have hm3b : m3 ≤ k := by omega
      clear hr3 hm3 hk3 hb3
      go_wp2_with fail
      refine (divide_any r3 _ m3 (A / 2 ^ n1) n0 x w3 H3.out.1 (HX.out.1.below H3.out.2.2.1) H3.out.2.1 HX.out.2.1 hx0 (by omega)).mono ?_
      rintro e w4 ⟨q4, r4, rfl, ⟨⟨m4, hq4, hm4⟩, _⟩, hb4⟩
      have hm4b : m4 ≤ k := hm4.le (Nat.lt_of_le_of_lt (Nat.div_le_self _ _) (Nat.lt_of_le_of_lt (Nat.div_le_self _ _) HN.out.1))
      have H4w := hide (And.intro hq4 (And.intro hm4 (And.intro (H3.out.2.2.1.trans (hb4.mono H3.out.2.2.1.size)) (H3.out.2.2.2.trans (hb4.mono H3.out.2.2.2.size)))))
      clear hq4 hm4 hb4
      go_wp2_with fail
      refine (shiftUp_any _ n0 x n2 w4 (HX.out.1.below H4w.out.2.2.1) (by omega)).mono ?_
      rintro e w5 ⟨r5, rfl, m5, hr5, hm5, hk5, hb5⟩
      have H5 := hide (And.intro hr5 (And.intro (RowX.below H4w.out.1 hb5) (H4w.out.2.2.2.trans (hb5.mono H4w.out.2.2.2.size))))
      have hm5b : m5 ≤ 100000 := by omega
      clear hr5 hm5 hb5 hk5
      go_wp2_with fail
      refine (sum_any r5 q4 m5 (x * 2 ^ n2) m4 (A / 2 ^ n1 / x) w5 H5.out.1 H5.out.2.1 (by omega) (by omega)).mono ?_
      rintro e w6 ⟨r6, rfl, m6, hr6, hm6, _, hb6⟩
      have H6 : Hid (RootSt w2 S hf d r6 w6) := ⟨⟨m6, _, hr6.row, hm6, HXs.out⟩, H5.out.2.2.trans (hb6.mono H5.out.2.2.size)⟩
      clear hr6 hm6 hb6
      go_wp2_with fail
      go_roundw
      case rel => exact ⟨i + 1, by omega, by go_num, by rw [Hnext.out], by rw [Hnext.out]; exact H6⟩
      case measure => simp [intOf]; omega
    · obtain rfl : i = st := by omega
      have HE : Hid (∃ n x, RowX (fun _ => True) wr u5 n x ∧ Nrm n x ∧ (x = S ∨ x = S + 1) ∧ Below w2.heap.size w2 wr) := by
        obtain ⟨⟨n, x, h1, h2, h3⟩, h4⟩ := HI.out
        rw [Nat.sub_self, Nat.pow_zero, Nat.div_one, Nat.sub_self, Nat.pow_zero, Nat.div_one] at h3
        exact ⟨n, x, h1, h2, h3, h4⟩
      clear HI
      generalize ((hf / 2 ^ (i - i) : Nat) : Int) = kk at *
      go_wp2_with fail
      go_ret
      exact ⟨_, rfl, HE.out⟩


theorem sq_le {S A : Nat} (h : Sq S A) : S ≤ A := by
  have h3 := h.1
  rcases Nat.eq_zero_or_pos S with h0 | h0
  · omega
  · exact Nat.le_trans (Nat.le_mul_of_pos_right S h0) h3

theorem cmp_sq {S A : Nat} (h : Sq S A) : ¬ 0 < cmpI (S * S) A ∧ (cmpI (S * S) A == 0) = decide (S * S = A) := by
  have h1 := h.1
  rcases Nat.lt_or_ge (S * S) A with h2 | h2
  · rw [cmpI_lt h2, decide_eq_false (by omega)]; decide
  · have e : S * S = A := by omega
    rw [decide_eq_true e, e, cmpI_eq]; decide

set_option maxRecDepth 100000 in
set_option maxHeartbeats 2000000 in
theorem Root_num {v : Value} {A S : Nat} {w : World} (h : Num w v A) (hS : Sq S A) :
    Calls Tryd.prog 40 #[v] w fun e w' => ∃ r n, e = .returned (.tuple #[r, .bool (decide (S * S = A)), .int .i64 0]) ∧ Own w' w.heap.size r n S ∧ Nrm n S ∧ Below w.heap.size w w' := by
  obtain ⟨k, h1, h2, h3⟩ := h
  have HC := hide (check_ok v k A w h1 h2 h3)
  by_cases hA0 : A = 0
  · have hk0 := h2.zero_iff.2 hA0
    subst hk0
    have hS0 : S = 0 := by have := sq_le hS; omega
    have HD : Hid (decide (S * S = A) = true) := decide_eq_true (by rw [hS0, hA0])
    have HS := hide hS0
    obtain ⟨_, _, ad, cap, rfl, _, _⟩ := h1
    clear h2 hS hS0
    go_enter Tryd.func40, Tryd.ntmps40
    go_wp2_with fail
    refine HC.out.mono ?_
    rintro e w1 ⟨rfl, rfl⟩
    go_wp2_with fail
    go_ret3
    exact ⟨_, 0, by rw [HD.out]; rfl, by rw [HS.out]; exact Own.nil _ _, by rw [HS.out]; exact nrm_zero, Below.refl _ _⟩
  · have hkz : ((k : Int) == 0) = false := by
      rw [beq_eq_false_iff_ne]
      intro e
      exact hA0 (h2.zero_iff.1 (by omega))
    have HNR := hide (nearRoot_any v k A S w h1 h2 h3 (by omega) hS)
    have HR := hide h1
    have HN := hide h2
    have HS := hide hS
    have hcs := cmp_sq hS
    have HD := hide hcs.2
    have hng := hcs.1
    have hSk : S < 4294967296 ^ k := Nat.lt_of_le_of_lt (sq_le hS) h2.1
    have HSk := hide hSk
    obtain ⟨_, _, ad, cap, rfl, _, _⟩ := h1
    clear h2 hS hcs hA0 hSk
    go_enter Tryd.func40, Tryd.ntmps40
    go_wp2_with fail
    refine HC.out.mono ?_
    rintro e w1 ⟨rfl, rfl⟩
    go_wp2_with fail
    refine HNR.out.mono ?_
    rintro e w2 ⟨r2, rfl, n2, x, hr2, hn2, hx, hb2⟩
    have hn2b : n2 ≤ k + 1 := hn2.le (by rw [pw_succ]; have := HSk.out; omega)
    have H2 := hide (And.intro hr2 (And.intro hn2 hb2))
    clear hr2 hn2 hb2 HNR
    go_wp2_with fail
    refine (product_any r2 r2 n2 x n2 x w2 H2.out.1 H2.out.1 (by omega)).mono ?_
    rintro e w3 ⟨r3, rfl, n3, hr3, hn3, _, hb3⟩
    have H3 := hide (And.intro hr3 (And.intro hn3 hb3))
    clear hr3 hn3 hb3
    go_wp2_with fail
    refine (compare_below r3 _ n3 (x * x) k A w3 H3.out.1 ((HR.out.below H2.out.2.2).below H3.out.2.2) H3.out.2.1 HN.out).mono ?_
    rintro e w4 ⟨rfl, hb4⟩
    have H4 := hide ((H3.out.2.2).trans (hb4.mono H3.out.2.2.size))
    clear hb4
    rcases hx with rfl | rfl
    · generalize cmpI (x * x) A = cc at *
      go_wp2_with fail
      refine (fresh_any r2 n2 x w4 (H2.out.1.below H4.out)).mono ?_
      rintro e w5 ⟨r5, rfl, ho5, hb5⟩
      have H5 : Hid (Own w5 w1.heap.size r5 n2 x ∧ Below w1.heap.size w1 w5) := by
        have hs2 := H2.out.2.2.size
        have hs4 := H4.out.size
        exact ⟨ho5.mono (by omega), H2.out.2.2.trans ((H4.out.mono hs2).trans (hb5.mono (by omega)))⟩
      clear ho5 hb5
      go_wp2_with fail
      go_ret3
      exact ⟨r5, n2, by rw [← HD.out]; rfl, H5.out.1, H2.out.2.1, H5.out.2⟩
    · have hgt : cmpI ((S + 1) * (S + 1)) A = 1 := cmpI_gt HS.out.2
      rw [hgt]
      clear hgt
      go_wp2_with fail
      refine (From_any 1 w4 (by omega)).mono ?_
      rintro e w5 ⟨r5, rfl, k5, ho5, hn5, hk5, hb5⟩
      have H5 := hide (And.intro ho5.row (H4.out.trans (hb5.mono H4.out.size)))
      clear ho5 hn5 hb5
      go_wp2_with fail
      refine (difference_any r2 r5 n2 (S + 1) k5 1 w5 (H2.out.1.below H5.out.2) H5.out.1 (by omega)).mono ?_
      rintro e w6 ⟨r6, rfl, n6, hr6, hn6, hk6, hb6⟩
      rw [Nat.add_sub_cancel] at hr6 hn6
      have H6 := hide (And.intro hr6.row (And.intro hn6 (H5.out.2.trans (hb6.mono H5.out.2.size))))
      clear hr6 hn6 hb6
      go_wp2_with fail
      refine (product_any r6 r6 n6 S n6 S w6 H6.out.1 H6.out.1 (by omega)).mono ?_
      rintro e w7 ⟨r7, rfl, n7, hr7, hn7, _, hb7⟩
      have H7 := hide (And.intro hr7 (And.intro hn7 (And.intro hb7 (H6.out.2.2.trans (hb7.mono H6.out.2.2.size)))))
      clear hr7 hn7 hb7
      go_wp2_with fail
      refine (compare_below r7 _ n7 (S * S) k A w7 H7.out.1 ((HR.out.below H2.out.2.2).below H7.out.2.2.2) H7.out.2.1 HN.out).mono ?_
      rintro e w8 ⟨rfl, hb8⟩
      have H8 := hide (And.intro (H7.out.2.2.1.trans (hb8.mono H7.out.2.2.1.size)) (H7.out.2.2.2.trans (hb8.mono H7.out.2.2.2.size)))
      clear hb8
      generalize cmpI (S * S) A = cc at *
      go_wp2_with fail
      refine (fresh_any r6 n6 S w8 (RowX.below H6.out.1 H8.out.1)).mono ?_
      rintro e w9 ⟨r9, rfl, ho9, hb9⟩
      have H9 : Hid (Own w9 w1.heap.size r9 n6 S ∧ Below w1.heap.size w1 w9) := by
        have hs2 := H2.out.2.2.size
        have hs8 := H8.out.2.size
        exact ⟨ho9.mono (by omega), H2.out.2.2.trans ((H8.out.2.mono hs2).trans (hb9.mono (by omega)))⟩
      clear ho9 hb9
      go_wp2_with fail
      go_ret3
      exact ⟨r9, n6, by rw [← HD.out]; rfl, H9.out.1, H6.out.2.1, H9.out.2⟩

end Go.Proofs.YtolaaemkcmiabaaDoor

namespace Go.Proofs.YtolaaemkcmiabaaDoor
open Go.RowKit
open M
set_option linter.unusedVariables false
set_option linter.unusedSimpArgs false





/-- What Ratio tells. -/
def RatioEnd (k : IntKind) (b L inf sgn : Nat) (neg : Bool) (P Q : Nat) (e0 : Int) (w : World) (e : Ending) (w' : World) : Prop :=
  ∃ head more e', e = .returned (.tuple #[.int k (wdX neg sgn (unsF b L inf head more e') : Nat), .int .i64 0]) ∧ LeadQ P Q e0 head more e' ∧ Below w.heap.size w w'





/-- What a root's leading bits are. -/
def LeadR (P Q : Nat) (e : Int) (head : Nat) (more : Bool) (e' : Int) : Prop :=
  (P = 0 ∧ head = 0 ∧ more = false ∧ e' = 0) ∨ (0 < P ∧ ∃ s N D, s = 127 + ((nr e + (bitLen P : Int) - (bitLen Q : Int)) % 2).toNat ∧ 0 < D ∧ N * (Q * 2 ^ (-upI P Q s).toNat) = P * 2 ^ (upI P Q s).toNat * D ∧ Sq head (N / D) ∧ more = (mrB N D || !decide (head * head = N / D)) ∧ 2 * e' = nr e - upI P Q s ∧ 4611686018427387904 ≤ head ∧ head < 18446744073709551616)

theorem LeadR.ok {P Q : Nat} {e : Int} {head : Nat} {more : Bool} {e' : Int} (h : LeadR P Q e head more e') (hP : Fits P) (hQ : Fits Q) : LeadOk head e' := by
  have := nr_bd e
  rcases h with ⟨_, h1, _, h2⟩ | ⟨_, s, N, D, hs, _, _, _, _, h2, h3, h4⟩
  · exact ⟨.inl h1, by omega, by omega⟩
  · have := upI_bd (s := s) hP hQ (by omega)
    exact ⟨.inr ⟨h3, h4⟩, by omega, by omega⟩

theorem sq_size {S n s : Nat} (h : Sq S n) (hs : s = 127 ∨ s = 128) (h1 : 2 ^ (s - 2) ≤ n) (h2 : n < 2 ^ s) : 4611686018427387904 ≤ S ∧ S < 18446744073709551616 := by
  have a1 : 2 ^ 125 ≤ n := Nat.le_trans (Nat.pow_le_pow_right (by omega) (by omega)) h1
  have a2 : n < 2 ^ 128 := Nat.lt_of_lt_of_le h2 (Nat.pow_le_pow_right (by omega) (by omega))
  obtain ⟨b1, b2⟩ := h
  constructor
  · rcases Nat.lt_or_ge S 4611686018427387904 with c | c
    · exfalso
      have := Nat.mul_le_mul (show S + 1 ≤ 4611686018427387904 by omega) (show S + 1 ≤ 4611686018427387904 by omega)
      have e : (2 : Nat) ^ 125 = 42535295865117307932921825928971026432 := by decide
      omega
    · exact c
  · rcases Nat.lt_or_ge S 18446744073709551616 with c | c
    · exact c
    · exfalso
      have := Nat.mul_le_mul c c
      have e : (2 : Nat) ^ 128 = 340282366920938463463374607431768211456 := by decide
      omega

theorem sq_of (n : Nat) : ∃ S, Sq S n := by
  induction n with
  | zero => exact ⟨0, by simp, by simp⟩
  | succ n ih =>
    obtain ⟨S, h1, h2⟩ := ih
    rcases Nat.lt_or_ge (n + 1) ((S + 1) * (S + 1)) with c | c
    · exact ⟨S, by omega, c⟩
    · refine ⟨S + 1, c, ?_⟩
      have : (S + 1 + 1) * (S + 1 + 1) = (S + 1) * (S + 1) + 2 * (S + 1) + 1 := by
        rw [Nat.add_mul (S + 1) 1, Nat.mul_add (S + 1) (S + 1) 1]; omega
      omega

theorem and_one_i64 (n : Int) : bits .and .i64 n 1 = n % 2 := by
  have h63 : (BitVec.ofInt 64 1).toNat = 2 ^ 1 - 1 := by decide
  have key : (BitVec.ofInt 64 n &&& BitVec.ofInt 64 1).toNat = (n % ((2 ^ 64 : Nat) : Int)).toNat % 2 ^ 1 := by
    rw [BitVec.toNat_and, BitVec.toNat_ofInt, h63, Nat.and_two_pow_sub_one_eq_mod]
  show IntKind.i64.wrap ((BitVec.ofInt 64 n &&& BitVec.ofInt 64 1).toNat : Nat) = n % 2
  rw [key, IntKind.wrap_i64]
  omega

def RootEnd0 (P Q : Nat) (e0 : Int) (w : World) (e : Ending) (w' : World) : Prop :=
  ∃ head more e', e = .returned (.agg #[.int .u64 (head : Nat), .bool more, .int .i64 e']) ∧ LeadR P Q e0 head more e' ∧ Below w.heap.size w w'

set_option maxRecDepth 100000 in
set_option maxHeartbeats 4000000 in
theorem root_num {v u : Value} {P Q : Nat} {w : World} (e0 : Int) (h : Num w v P) (h' : Num w u Q) (hQ : 0 < Q) :
    Calls Tryd.prog 23 #[v, u, .int .i64 e0] w fun e w' => RootEnd0 P Q e0 w e w' := by
  obtain ⟨ad, k, cap, rfl, hk⟩ := num_slice h
  obtain ⟨W, hW⟩ : ∃ W, W = w.alloc (.cells #[.int .u64 0, .bool false, .int .i64 0] 55) := ⟨_, rfl⟩
  have hbW : Below w.heap.size w W := by rw [hW]; exact (Below.refl _ w).alloc (Nat.le_refl _) _
  have hsz : w.heap.size < W.heap.size := by rw [hW]; simp
  have c0 : W.cell? ⟨w.heap.size, 0, none⟩ = some (.int .u64 0) := by rw [hW]; exact cell_row w _ _ 0 _ rfl
  have c1 : W.cell? ⟨w.heap.size, 1, none⟩ = some (.bool false) := by rw [hW]; exact cell_row w _ _ 1 _ rfl
  have c2 : W.cell? ⟨w.heap.size, 2, none⟩ = some (.int .i64 0) := by rw [hW]; exact cell_row w _ _ 2 _ rfl
  have f0 : ∀ o, W.frozen? ⟨w.heap.size, o, none⟩ = false := fun o => by rw [hW]; exact World.frozen?_alloc_new w _ _ o
  by_cases hP : P = 0
  · obtain rfl : k = 0 := hk.2 hP
    have HL := hide (show LeadR P Q e0 0 false 0 from .inl ⟨hP, rfl, rfl, rfl⟩)
    have HB := hide hbW
    clear h h' hQ hk hP hbW hsz
    go_enter Tryd.func23, Tryd.ntmps23
    go_wp2_with fail
    refine bodyPost_ret (v := .agg #[.int .u64 0, .bool false, .int .i64 0]) (by simp [results, Tryd.results23, go_sem]) rfl ?_
    exact ⟨0, false, 0, rfl, HL.out, (Below.refl _ w).alloc (Nat.le_refl _) _⟩
  · have hk0 : ((k : Int) == 0) = false := by
      have : k ≠ 0 := fun e => hP (hk.1 e)
      simp; omega
    have hk1 : ¬ k = 0 := fun e => hP (hk.1 e)
    have hP0 : 0 < P := by omega
    have hnb := nr_bd e0
    have lp := fits_bits.1 h.fits
    have lq := fits_bits.1 h'.fits
    obtain ⟨x1, hx1, hx1b⟩ : ∃ x1 : Int, nr e0 + (bitLen P : Int) = x1 ∧ (-2000000 ≤ x1 ∧ x1 ≤ 2000000) := ⟨_, rfl, by omega⟩
    obtain ⟨x2, hx2, hx2b⟩ : ∃ x2 : Int, x1 - (bitLen Q : Int) = x2 ∧ (-3000000 ≤ x2 ∧ x2 ≤ 3000000) := ⟨_, rfl, by omega⟩
    obtain ⟨s, hs, hsi⟩ : ∃ s : Nat, s = 127 + (x2 % 2).toNat ∧ 127 + x2 % 2 = (s : Int) := ⟨_, rfl, by omega⟩
    have hs78 : s = 127 ∨ s = 128 := by omega
    have hand := and_one_i64 x2
    have HD := hide (divide_num (s := s) (h.below hbW) (h'.below hbW) hP0 hQ (by omega) (by omega))
    have hub := upI_bd (s := s) h.fits h'.fits (by omega)
    obtain ⟨e', he', heb⟩ : ∃ e' : Int, 2 * e' = nr e0 - upI P Q s ∧ (-4000000 ≤ e' ∧ e' ≤ 4000000) := by
      refine ⟨(nr e0 - upI P Q s) / 2, ?_, by omega⟩
      have : upI P Q s = (bitLen Q : Int) + (s : Int) - 1 - (bitLen P : Int) := rfl
      omega
    obtain ⟨d1, hd1⟩ : ∃ d1 : Int, nr e0 - upI P Q s = d1 ∧ (-3000000 ≤ d1 ∧ d1 ≤ 3000000) := ⟨_, rfl, by omega⟩
    obtain ⟨hd1, hd1b⟩ := hd1
    have htd : d1.tdiv 2 = e' := by
      rw [← hd1, ← he', Int.mul_comm]; exact Int.mul_tdiv_cancel _ (by omega)
    have HL : Hid (∀ N D S : Nat, 0 < D → N * (Q * 2 ^ (-upI P Q s).toNat) = P * 2 ^ (upI P Q s).toNat * D → Sq S (N / D) → (4611686018427387904 ≤ S ∧ S < 18446744073709551616) ∧ LeadR P Q e0 S (mrB N D || !decide (S * S = N / D)) e') := by
      intro N D S hD hN hS
      obtain ⟨q1, q2⟩ := quot_head (s := s) hP0 hQ (by omega) hD hN
      have q3 := sq_size hS hs78 q1 q2
      exact ⟨q3, .inr ⟨hP0, s, N, D, by rw [hs, ← hx2, ← hx1], hD, hN, hS, rfl, he', q3⟩⟩
    have HN := hide (fun w : World => near_any e0 w)
    have HLp := hide (fun (w' : World) (hb : Below w.heap.size w w') => xlen (h.below hb))
    have HLq := hide (fun (w' : World) (hb : Below w.heap.size w w') => xlen (h'.below hb))
    have HB := hide (And.intro hbW hsz)
    have HF := hide f0
    generalize hu : upI P Q s = up at HD hub HL hd1
    generalize nr e0 = ne at *
    generalize bitLen P = bP at HLp hx1 lp
    generalize bitLen Q = bQ at HLq hx2 lq
    clear h h' hQ hk hP hbW hsz hP0 f0 hu hs he' hs78
    go_enter Tryd.func23, Tryd.ntmps23
    go_wp2_with fail
    rw [← hW]
    have HWW := hide hW
    clear hW
    refine (HN.out _).mono ?_
    rintro e y1 ⟨rfl, hw3⟩
    have hw3 := hw3.symm
    subst hw3
    go_wp2_with fail
    refine (HLp.out _ HB.out.1).mono ?_
    rintro e y1 ⟨rfl, hw3⟩
    have hw3 := hw3.symm
    subst hw3
    go_wp2_with (simp only [hx1])
    refine (HLq.out _ HB.out.1).mono ?_
    rintro e y1 ⟨rfl, hw3⟩
    have hw3 := hw3.symm
    subst hw3
    go_wp2_with (simp only [hx1, hx2, hand, hsi])
    refine HD.out.mono ?_
    rintro e y1 ⟨r, N, D, rfl, n1, hD, hN, b1⟩
    obtain ⟨S, hS⟩ := sq_of (N / D)
    obtain ⟨⟨hh1, hh2⟩, hlead⟩ := HL.out N D S hD hN hS
    have HLL := hide hlead
    have HR := hide (Root_num n1 hS)
    obtain ⟨ex, hex⟩ : ∃ ex : Bool, decide (S * S = N / D) = ex := ⟨_, rfl⟩
    rw [hex] at HR HLL
    generalize mrB N D = more at *
    have J1 := hide b1
    have HS2 := hide hh2
    clear n1 hD hN b1 HD hh1 hh2 HL hlead hS hex
    go_wp2_with fail
    refine HR.out.mono ?_
    rintro e y2 ⟨r2, n2, rfl, ho, hn, b2⟩
    have HS := hide (num_small (ho.num hn (small_fits (Nat.lt_of_lt_of_le HS2.out (by decide)))) HS2.out)
    have J2 := hide (J1.out.trans (b2.mono J1.out.size))
    clear b2 J1 ho hn HR
    go_wp2_with fail
    refine HS.out.mono ?_
    rintro e y3 ⟨rfl, b3⟩
    have J3 := hide (J2.out.trans (b3.mono J2.out.size))
    clear b3 J2 HS
    have g0 : y3.cell? ⟨w.heap.size, 0, none⟩ = some (.int .u64 0) := by rw [J3.out.cell (p := ⟨w.heap.size, 0, none⟩) HB.out.2]; exact c0
    have g1 : y3.cell? ⟨w.heap.size, 1, none⟩ = some (.bool false) := by rw [J3.out.cell (p := ⟨w.heap.size, 1, none⟩) HB.out.2]; exact c1
    have g2 : y3.cell? ⟨w.heap.size, 2, none⟩ = some (.int .i64 0) := by rw [J3.out.cell (p := ⟨w.heap.size, 2, none⟩) HB.out.2]; exact c2
    have gf : ∀ o, y3.frozen? ⟨w.heap.size, o, none⟩ = false := fun o => by rw [J3.out.frozen (p := ⟨w.heap.size, o, none⟩) HB.out.2]; exact HF.out o
    clear c0 c1 c2 HN HLp HLq
    cases more <;> cases ex
    · skip
      go_wp2_with (simp only [hd1, htd])
      obtain ⟨r0, r1, r2, r3⟩ := lead_put (a := .int .u64 (S : Nat)) (b := .bool true) (c := .int .i64 e') g0 g1 g2
      refine bodyPost_ret (v := .agg #[.int .u64 (S : Nat), .bool true, .int .i64 e']) (by simp [results, Tryd.results23, go_sem, r0, r1, r2]) rfl ?_
      exact ⟨S, _, e', rfl, HLL.out, r3 _ _ (Nat.le_refl _) (HB.out.1.trans (J3.out.mono HB.out.1.size))⟩
    · skip
      go_wp2_with (simp only [hd1, htd])
      obtain ⟨r0, r1, r2, r3⟩ := lead_put (a := .int .u64 (S : Nat)) (b := .bool false) (c := .int .i64 e') g0 g1 g2
      refine bodyPost_ret (v := .agg #[.int .u64 (S : Nat), .bool false, .int .i64 e']) (by simp [results, Tryd.results23, go_sem, r0, r1, r2]) rfl ?_
      exact ⟨S, _, e', rfl, HLL.out, r3 _ _ (Nat.le_refl _) (HB.out.1.trans (J3.out.mono HB.out.1.size))⟩
    · skip
      go_wp2_with (simp only [hd1, htd])
      obtain ⟨r0, r1, r2, r3⟩ := lead_put (a := .int .u64 (S : Nat)) (b := .bool true) (c := .int .i64 e') g0 g1 g2
      refine bodyPost_ret (v := .agg #[.int .u64 (S : Nat), .bool true, .int .i64 e']) (by simp [results, Tryd.results23, go_sem, r0, r1, r2]) rfl ?_
      exact ⟨S, _, e', rfl, HLL.out, r3 _ _ (Nat.le_refl _) (HB.out.1.trans (J3.out.mono HB.out.1.size))⟩
    · skip
      go_wp2_with (simp only [hd1, htd])
      obtain ⟨r0, r1, r2, r3⟩ := lead_put (a := .int .u64 (S : Nat)) (b := .bool true) (c := .int .i64 e') g0 g1 g2
      refine bodyPost_ret (v := .agg #[.int .u64 (S : Nat), .bool true, .int .i64 e']) (by simp [results, Tryd.results23, go_sem, r0, r1, r2]) rfl ?_
      exact ⟨S, _, e', rfl, HLL.out, r3 _ _ (Nat.le_refl _) (HB.out.1.trans (J3.out.mono HB.out.1.size))⟩

/-- What Root tells. -/
def RootEnd (P Q : Nat) (e0 : Int) (w : World) (e : Ending) (w' : World) : Prop :=
  ∃ head more e', e = .returned (.tuple #[.int .u64 (wdX false 9223372036854775808 (unsF 53 1074 9218868437227405312 head more e') : Nat), .int .i64 0]) ∧ LeadR P Q e0 head more e' ∧ Below w.heap.size w w'


end Go.Proofs.YtolaaemkcmiabaaDoor

/- guess, subTimes, takeOut. -/
import Derived.Test.YtmfimhpbdbbpoaaDoorE
import Derived.Test.YtmfimhpbdbbpoaaDoorK
import Derived.Laws.MathBits
/- Long division: plain mathematics. -/
namespace Go.Proofs.YtmfimhpbdbbpoaaDoor
namespace M
set_option linter.unusedVariables false
set_option linter.unusedSimpArgs false

/-- The uppermost limbs of a row. -/
theorem two_top {D m : Nat} (hD : D < 4294967296 ^ (m + 2)) : D / 4294967296 ^ m = dg D (m + 1) * 4294967296 + dg D m := by
  rw [div_succ D m]
  congr 2
  have h := div_succ D (m + 1)
  rw [Nat.div_eq_of_lt (show D < 4294967296 ^ (m + 1 + 1) from hD), Nat.zero_mul, Nat.zero_add] at h
  exact h

theorem three_top {P m : Nat} (hP : P < 4294967296 ^ (m + 3)) : P / 4294967296 ^ m = (dg P (m + 2) * 4294967296 + dg P (m + 1)) * 4294967296 + dg P m := by
  rw [div_succ P m, two_top (m := m + 1) hP]

/-- How often D goes into P is not more than the uppermost limbs say. -/
theorem quo_top (P D m : Nat) : P / D * (D / 4294967296 ^ m) ≤ P / 4294967296 ^ m := by
  rw [Nat.le_div_iff_mul_le (pw_pos m), Nat.mul_assoc]
  have h1 : D / 4294967296 ^ m * 4294967296 ^ m ≤ D := Nat.div_mul_le_self _ _
  have h2 : P / D * D ≤ P := Nat.div_mul_le_self _ _
  exact Nat.le_trans (Nat.mul_le_mul_left _ h1) h2

/-- A guess that the uppermost limbs bear is one too great at most. -/
theorem guess_le {P D m f : Nat} (hD : 0 < D) (hf : f * (D / 4294967296 ^ m) ≤ P / 4294967296 ^ m) (hfb : f ≤ D / 4294967296 ^ m + 1) : f ≤ P / D + 1 := by
  rcases Nat.eq_zero_or_pos f with h0 | h0
  · rw [h0]; exact Nat.zero_le _
  obtain ⟨e, rfl⟩ : ∃ e, f = e + 1 := ⟨f - 1, by omega⟩
  have : e ≤ P / D := by
    rw [Nat.le_div_iff_mul_le hD]
    have h1 : D < (D / 4294967296 ^ m + 1) * 4294967296 ^ m := by
      have := Nat.lt_mul_div_succ D (pw_pos m)
      rw [Nat.mul_comm] at this; exact this
    have h2 : e * D ≤ e * ((D / 4294967296 ^ m + 1) * 4294967296 ^ m) := Nat.mul_le_mul_left _ (Nat.le_of_lt h1)
    have h3 : P / 4294967296 ^ m * 4294967296 ^ m ≤ P := Nat.div_mul_le_self _ _
    have h4 : e * (D / 4294967296 ^ m + 1) ≤ P / 4294967296 ^ m := by
      rw [Nat.add_mul, Nat.one_mul] at hf
      rw [Nat.mul_add, Nat.mul_one]
      omega
    have h5 := Nat.mul_le_mul_right (4294967296 ^ m) h4
    rw [Nat.mul_assoc] at h5
    omega
  exact Nat.succ_le_succ this

/-- Where a test says that the guess is too great. -/
theorem guess_test (f top next rest h p : Nat) (hh : f * top + rest = h) : (f * next > rest * 4294967296 + p) ↔ f * (top * 4294967296 + next) > h * 4294967296 + p := by
  rw [← hh, Nat.mul_add, ← Nat.mul_assoc, Nat.add_mul]
  omega

theorem guess_dec {f V U Q : Nat} (hV : 0 < V) (hQ : Q * V ≤ U) (hf : U < f * V) : Q < f := by
  rcases Nat.lt_or_ge Q f with h | h
  · exact h
  · have := Nat.mul_le_mul_right V h; omega

/-- What takeOut leaves. -/
theorem take_exact {P D f : Nat} (hD : 0 < D) (h1 : P / D ≤ f) (h2 : f ≤ P / D + 1) : (f * D ≤ P → f = P / D ∧ P - f * D = P % D) ∧ (P < f * D → f - 1 = P / D ∧ P + D - f * D = P % D ∧ 0 < f) := by
  have hdm := Nat.div_add_mod P D
  have hml := Nat.mod_lt P hD
  have hc : D * (P / D) = P / D * D := Nat.mul_comm _ _
  have hle := fun h : f * D ≤ P => (Nat.le_div_iff_mul_le hD).2 h
  generalize P / D = q at *
  generalize P % D = r at *
  constructor
  · intro h
    have e : f = q := by
      have := hle h
      omega
    exact ⟨e, by rw [e]; omega⟩
  · intro h
    have e : f = q + 1 := by
      rcases Nat.lt_or_ge q f with h3 | h3
      · omega
      · have := Nat.mul_le_mul_right D h3; omega
    refine ⟨by omega, ?_, by omega⟩
    rw [e, Nat.add_mul, Nat.one_mul]; omega

/-- The two uppermost limbs are not far above the divisor's uppermost one. -/
theorem high_le {P D m : Nat} (hD : D < 4294967296 ^ (m + 2)) (hP : P < D * 4294967296) : dg P (m + 2) * 4294967296 + dg P (m + 1) < (dg D (m + 1) + 1) * 4294967296 := by
  have hPl : P < 4294967296 ^ (m + 3) := by
    rw [show m + 3 = m + 2 + 1 from rfl, pw_succ]
    exact Nat.lt_of_lt_of_le hP (Nat.mul_le_mul_right _ (Nat.le_of_lt hD))
  have h1 := two_top (m := m + 1) (D := P) hPl
  rw [← h1, Nat.div_lt_iff_lt_mul (pw_pos (m + 1))]
  have h2 := div_succ D (m + 1)
  rw [Nat.div_eq_of_lt (show D < 4294967296 ^ (m + 1 + 1) from hD), Nat.zero_mul, Nat.zero_add] at h2
  have h3 := Nat.lt_mul_div_succ D (pw_pos (m + 1))
  rw [h2] at h3
  have h4 : D * 4294967296 ≤ 4294967296 ^ (m + 1) * (dg D (m + 1) + 1) * 4294967296 := Nat.mul_le_mul_right _ (Nat.le_of_lt h3)
  have h5 : (dg D (m + 1) + 1) * 4294967296 * 4294967296 ^ (m + 1) = 4294967296 ^ (m + 1) * (dg D (m + 1) + 1) * 4294967296 := by
    rw [Nat.mul_comm, Nat.mul_assoc]
  omega

/-- One limb of a quotient: R is what is left, over j limbs. -/
theorem long_step {R D j : Nat} (hD : 0 < D) (hR : R < D * 4294967296 ^ (j + 1)) :
    R / 4294967296 ^ j < D * 4294967296 ∧ R % 4294967296 ^ j + 4294967296 ^ j * (R / 4294967296 ^ j % D) < D * 4294967296 ^ j ∧
    R = (R % 4294967296 ^ j + 4294967296 ^ j * (R / 4294967296 ^ j % D)) + 4294967296 ^ j * (R / 4294967296 ^ j / D) * D := by
  have hp := pw_pos j
  refine ⟨?_, ?_, ?_⟩
  · rw [Nat.div_lt_iff_lt_mul hp, Nat.mul_assoc, Nat.mul_comm 4294967296, ← pw_succ]; exact hR
  · have h1 := mod_lt R j
    have h2 := Nat.mod_lt (R / 4294967296 ^ j) hD
    have h3 : 4294967296 ^ j * (R / 4294967296 ^ j % D + 1) ≤ 4294967296 ^ j * D := Nat.mul_le_mul_left _ h2
    rw [Nat.mul_add, Nat.mul_one] at h3
    rw [Nat.mul_comm D]; omega
  · have h1 := Nat.mod_add_div R (4294967296 ^ j)
    have h2 := Nat.mod_add_div (R / 4294967296 ^ j) D
    have h3 : 4294967296 ^ j * (R / 4294967296 ^ j) = 4294967296 ^ j * (R / 4294967296 ^ j % D) + 4294967296 ^ j * (R / 4294967296 ^ j / D) * D := by
      conv => lhs; rw [← h2]
      rw [Nat.mul_add, Nat.mul_comm D, Nat.mul_assoc]
    omega


/-- A limb of a quotient, and what is left behind it. -/
theorem long_mod (R D j : Nat) (hD : 0 < D) :
    R % (D * 4294967296 ^ (j + 1)) / 4294967296 ^ j < D * 4294967296 ∧
    R % (D * 4294967296 ^ (j + 1)) / 4294967296 ^ j / D = dg (R / D) j ∧
    R % (D * 4294967296 ^ (j + 1)) % 4294967296 ^ j + 4294967296 ^ j * (R % (D * 4294967296 ^ (j + 1)) / 4294967296 ^ j % D) = R % (D * 4294967296 ^ j) := by
  have hp := pw_pos j
  have hX : D * 4294967296 ^ (j + 1) = 4294967296 ^ j * D * 4294967296 := by rw [pw_succ, ← Nat.mul_assoc, Nat.mul_comm D]
  refine ⟨?_, ?_, ?_⟩
  · have := Nat.mod_lt R (show 0 < D * 4294967296 ^ (j + 1) from Nat.mul_pos hD (pw_pos _))
    rw [Nat.div_lt_iff_lt_mul hp, Nat.mul_assoc, Nat.mul_comm 4294967296, ← pw_succ]; exact this
  · rw [hX, Nat.div_div_eq_div_mul, Nat.mod_mul_right_div_self]
    unfold dg
    rw [Nat.div_div_eq_div_mul, Nat.mul_comm D]
  · rw [← Nat.mod_mul, hX, Nat.mod_mul_right_mod, Nat.mul_comm D]

/-- The divisor's uppermost limb, shifted. -/
theorem norm_by {C m b : Nat} (hC : C < 4294967296 ^ (m + 2)) (hb : dg C (m + 1) < 2 ^ b) (hb2 : b ≤ 32) : C * 2 ^ (32 - b) < 4294967296 ^ (m + 2) := by
  have h2 := div_succ C (m + 1)
  rw [Nat.div_eq_of_lt (show C < 4294967296 ^ (m + 1 + 1) from hC), Nat.zero_mul, Nat.zero_add] at h2
  have h3 := Nat.lt_mul_div_succ C (pw_pos (m + 1))
  rw [h2] at h3
  have h4 : 4294967296 ^ (m + 1) * (dg C (m + 1) + 1) ≤ 4294967296 ^ (m + 1) * 2 ^ b := Nat.mul_le_mul_left _ hb
  have h5 : C * 2 ^ (32 - b) < 4294967296 ^ (m + 1) * 2 ^ b * 2 ^ (32 - b) := Nat.mul_lt_mul_of_pos_right (Nat.lt_of_lt_of_le h3 h4) (Nat.two_pow_pos _)
  rw [Nat.mul_assoc, ← Nat.pow_add, show b + (32 - b) = 32 from by omega] at h5
  rw [show m + 2 = m + 1 + 1 from rfl, pw_succ]
  exact h5

/-- Where the search for a guess ends. -/
theorem guess_end {P D m f rest : Nat} (hD0 : 0 < D) (hD : D < 4294967296 ^ (m + 2)) (hP : P < D * 4294967296) (ht : 0 < dg D (m + 1))
    (hh : f * dg D (m + 1) + rest = dg P (m + 2) * 4294967296 + dg P (m + 1)) (hend : 4294967295 < rest ∨ (f ≤ 4294967295 ∧ ¬ f * dg D m > rest * 4294967296 + dg P m)) : f ≤ P / D + 1 ∧ f ≤ 4294967295 := by
  have hPl : P < 4294967296 ^ (m + 3) := by
    rw [show m + 3 = m + 2 + 1 from rfl, pw_succ]
    exact Nat.lt_of_lt_of_le hP (Nat.mul_le_mul_right _ (Nat.le_of_lt hD))
  have hV := two_top hD
  have hU := three_top hPl
  have hhi := high_le hD hP
  have hn := dg_lt D m
  have hp := dg_lt P m
  generalize dg D (m + 1) = top at *
  generalize dg D m = next at *
  generalize dg P (m + 2) = a2 at *
  generalize dg P (m + 1) = a1 at *
  generalize dg P m = p at *
  have hfb : f ≤ 4294967295 ∧ ¬ f * next > rest * 4294967296 + p := by
    rcases hend with h1 | h1
    · have hf : f ≤ 4294967295 := by
        rcases Nat.lt_or_ge 4294967295 f with h2 | h2
        · have : 4294967296 * top ≤ f * top := Nat.mul_le_mul_right _ h2
          rw [Nat.add_mul] at hhi
          omega
        · exact h2
      refine ⟨hf, ?_⟩
      have : f * next ≤ 4294967295 * 4294967295 := Nat.mul_le_mul hf (by omega)
      omega
    · exact h1
  refine ⟨guess_le (m := m) hD0 ?_ ?_, hfb.1⟩
  · rw [hV, hU]
    have := (not_congr (guess_test f top next rest (a2 * 4294967296 + a1) p hh)).1 hfb.2
    omega
  · rw [hV]; have := hfb.1; omega

/-- A step of the search. -/
theorem guess_next {P D m f rest : Nat} (hD0 : 0 < D) (hD : D < 4294967296 ^ (m + 2)) (hP : P < D * 4294967296) (ht : 0 < dg D (m + 1))
    (hh : f * dg D (m + 1) + rest = dg P (m + 2) * 4294967296 + dg P (m + 1)) (hQ : P / D ≤ f) (hgo : 4294967295 < f ∨ f * dg D m > rest * 4294967296 + dg P m) :
    0 < f ∧ (f - 1) * dg D (m + 1) + (rest + dg D (m + 1)) = dg P (m + 2) * 4294967296 + dg P (m + 1) ∧ P / D ≤ f - 1 := by
  have hPl : P < 4294967296 ^ (m + 3) := by
    rw [show m + 3 = m + 2 + 1 from rfl, pw_succ]
    exact Nat.lt_of_lt_of_le hP (Nat.mul_le_mul_right _ (Nat.le_of_lt hD))
  have hqt := quo_top P D m
  have hQl : P / D < 4294967296 := by rw [Nat.div_lt_iff_lt_mul hD0, Nat.mul_comm]; exact hP
  rw [two_top hD, three_top hPl] at hqt
  generalize dg D (m + 1) = top at *
  generalize dg D m = next at *
  generalize dg P (m + 2) = a2 at *
  generalize dg P (m + 1) = a1 at *
  generalize dg P m = p at *
  generalize P / D = Q at *
  have hlt : Q < f := by
    rcases hgo with h1 | h1
    · omega
    · exact guess_dec (by omega) hqt ((guess_test f top next rest (a2 * 4294967296 + a1) p hh).1 h1)
  obtain ⟨e, rfl⟩ : ∃ e, f = e + 1 := ⟨f - 1, by omega⟩
  rw [Nat.add_mul] at hh
  refine ⟨by omega, ?_, by omega⟩
  rw [Nat.add_sub_cancel]; omega

theorem guess_start {P D m : Nat} (hD0 : 0 < D) (hD : D < 4294967296 ^ (m + 2)) (hP : P < D * 4294967296) (ht : 0 < dg D (m + 1)) :
    P / D ≤ (dg P (m + 2) * 4294967296 + dg P (m + 1)) / dg D (m + 1) := by
  have hPl : P < 4294967296 ^ (m + 3) := by
    rw [show m + 3 = m + 2 + 1 from rfl, pw_succ]
    exact Nat.lt_of_lt_of_le hP (Nat.mul_le_mul_right _ (Nat.le_of_lt hD))
  rw [Nat.le_div_iff_mul_le ht, ← two_top (m := m + 1) (D := P) hPl]
  have h2 := div_succ D (m + 1)
  rw [Nat.div_eq_of_lt (show D < 4294967296 ^ (m + 1 + 1) from hD), Nat.zero_mul, Nat.zero_add] at h2
  rw [← h2]
  exact quo_top P D (m + 1)

end M
end Go.Proofs.YtmfimhpbdbbpoaaDoor

namespace Go.Proofs.YtmfimhpbdbbpoaaDoor
open Go.RowKit
open M
set_option linter.unusedVariables false
set_option linter.unusedSimpArgs false

set_option maxRecDepth 100000 in
set_option maxHeartbeats 2000000 in
theorem guess_any {S S' : Nat → Prop} (v u : Value) (m P D : Nat) (w : World) (h : RowX S w v (m + 3) P) (h' : RowX S' w u (m + 2) D) (hD0 : 0 < D) (hP : P < D * 4294967296) (ht : 0 < dg D (m + 1)) :
    Calls Tryd.prog 101 #[v, u] w fun e w' => ∃ f : Nat, e = .returned (.int .u32 f) ∧ P / D ≤ f ∧ f ≤ P / D + 1 ∧ f ≤ 4294967295 ∧ ∃ n, w' = w.drewN n := by
  have hDl := h'.1
  have hst := guess_start hD0 hDl hP ht
  have Hnext := hide (fun (f rest : Nat) => guess_next (f := f) (rest := rest) hD0 hDl hP ht)
  have Hend := hide (fun (f rest : Nat) => guess_end (f := f) (rest := rest) hD0 hDl hP ht)
  obtain ⟨_, hk, ad, cap, rfl, hc, hcell⟩ := h
  obtain ⟨_, hk', ad', cap', rfl, hc', hcell'⟩ := h'
  obtain ⟨g, o, rfl, _, hj⟩ := hcell (by omega)
  obtain ⟨g', o', rfl, _, hj'⟩ := hcell' (by omega)
  have c2 := hj (m + 2) (by omega)
  have c1 := hj (m + 1) (by omega)
  have c0 := hj m (by omega)
  have d1 := hj' (m + 1) (by omega)
  have d0 := hj' m (by omega)
  have l2 := dg_le P (m + 2)
  have l1 := dg_le P (m + 1)
  have l0 := dg_le P m
  have e1 := dg_le D (m + 1)
  have e0 := dg_le D m
  clear hcell hcell' hj hj' hDl
  generalize dg P (m + 2) = a2 at *
  generalize dg P (m + 1) = a1 at *
  generalize dg P m = a0 at *
  generalize dg D (m + 1) = top at *
  generalize dg D m = next at *
  generalize P / D = Q at *
  have htz : ¬ (top : Int) = 0 := by omega
  have htz' : ((top : Int) == 0) = false := by rw [beq_eq_false_iff_ne]; omega
  have hor := or_hi a2 a1 (by omega) (by omega)
  have hhl : a2 * 4294967296 + a1 < 18446744073709551616 := by omega
  obtain ⟨hh, hhe⟩ : ∃ hh, hh = a2 * 4294967296 + a1 := ⟨_, rfl⟩
  rw [← hhe] at hor hhl hst Hnext Hend
  clear hhe
  obtain ⟨q0, hq0, hq0'⟩ : ∃ q : Nat, q = hh / top ∧ (hh : Int).tdiv (top : Int) = (q : Int) := ⟨hh / top, rfl, rfl⟩
  obtain ⟨r0, hr0, hr0'⟩ : ∃ r : Nat, r = hh % top ∧ (hh : Int).tmod (top : Int) = (r : Int) := ⟨hh % top, rfl, rfl⟩
  have HS : Hid (q0 * top + r0 = hh ∧ Q ≤ q0) := ⟨by rw [hq0, hr0, Nat.mul_comm]; exact Nat.div_add_mod hh top, by rw [hq0]; exact hst⟩
  have hq0l : q0 ≤ hh := by rw [hq0]; exact Nat.div_le_self _ _
  have hr0l : r0 < top := by rw [hr0]; exact Nat.mod_lt _ ht
  clear hst hq0 hr0
  go_enter Tryd.func101, Tryd.ntmps101
  go_wp2_with fail
  go_quiet (fail)
  go_wp2_with fail
  go_quiet (fail)
  go_wp2_with fail
  go_quiet (fail)
  go_wp2_with fail
  go_loopw [9, 10] (fun t9 t10 wr => ∃ f rest : Nat, t9 = .int .u64 f ∧ t10 = .int .u64 rest ∧ f ≤ hh ∧ rest ≤ 8589934591 ∧ Hid (f * top + rest = hh ∧ Q ≤ f ∧ ∃ n, wr = w.drewN n)) (fun _ t10 _ => 8589934592 - (intOf t10).toNat)
  case atStart => exact ⟨q0, r0, rfl, rfl, hq0l, by omega, HS.out.1, HS.out.2, _, by rw [World.drewN_drewN, World.drewN_drewN]⟩
  case round =>
    obtain ⟨f, rest, rfl, rfl, hfl, hrl, HI⟩ := hrel
    have c0' : wr.cell? ⟨g, o + m, none⟩ = some (.int .u32 (a0 : Nat)) := by obtain ⟨n, hn⟩ := HI.out.2.2; rw [hn]; exact c0
    have Hn := hide (Hnext.out f rest HI.out.1 HI.out.2.1)
    have He := hide (Hend.out f rest HI.out.1)
    by_cases k1 : rest ≤ 4294967295
    · have k1' : (rest : Int) ≤ 4294967295 := by omega
      by_cases k2 : 4294967295 < f
      · have k2' : (4294967295 : Int) < (f : Int) := by omega
        have HN := hide (Hn.out (.inl k2))
        clear Hn He
        have hf0 : 0 < f := by omega
        go_wp2_with fail
        go_roundw
        case rel =>
          refine ⟨f - 1, rest + top, ?_, ?_, by omega, by omega, HN.out.2.1, HN.out.2.2, HI.out.2.2⟩
          · exact congrArg _ (by omega)
          · exact congrArg _ (by omega)
        case measure => simp [intOf]; omega
      · have k2' : ¬ (4294967295 : Int) < (f : Int) := by omega
        have hpb : f * next ≤ 4294967295 * 4294967295 := Nat.mul_le_mul (by omega) e0
        obtain ⟨p, hp, hp'⟩ : ∃ p : Nat, p = f * next ∧ (f : Int) * (next : Int) = (p : Int) := ⟨f * next, rfl, by rw [Int.natCast_mul]⟩
        have hor2 := or_hi rest a0 (by omega) (by omega)
        obtain ⟨z, hz⟩ : ∃ z, z = rest * 4294967296 + a0 := ⟨_, rfl⟩
        have hzl : z < 18446744073709551616 := by omega
        rw [← hz] at hor2
        rw [← hp] at hpb Hn He
        rw [← hz] at Hn He
        clear hp hz
        by_cases k3 : z < p
        · have k3' : (z : Int) < (p : Int) := by omega
          have HN := hide (Hn.out (.inr k3))
          clear Hn He
          have hf0 : 0 < f := HN.out.1
          go_wp2_with fail
          go_roundw
          case rel =>
            refine ⟨f - 1, rest + top, ?_, ?_, by omega, by omega, HN.out.2.1, HN.out.2.2, HI.out.2.2⟩
            · exact congrArg _ (by omega)
            · exact congrArg _ (by omega)
          case measure => simp [intOf]; omega
        · have k3' : ¬ (z : Int) < (p : Int) := by omega
          have HE := hide (He.out (.inr ⟨by omega, k3⟩))
          clear Hn He
          go_wp2_with fail
          go_ret
          exact ⟨f, ret_int (by omega), HI.out.2.1, HE.out.1, HE.out.2, HI.out.2.2⟩
    · have k1' : ¬ (rest : Int) ≤ 4294967295 := by omega
      have HE := hide (He.out (.inl (by omega)))
      have hfe := HE.out.2
      clear Hn He
      go_wp2_with fail
      go_ret
      exact ⟨f, ret_int (by omega), HI.out.2.1, HE.out.1, HE.out.2, HI.out.2.2⟩


set_option maxRecDepth 100000 in
set_option maxHeartbeats 1000000 in
theorem subTimes_any (ad : Option Addr) (g o k cap P : Nat) (u : Value) (m C f : Nat) (w : World) (hW : Wk w g o k P) (hk : k ≤ 70368744177664) (hcap : k ≤ cap) (had : 0 < k → ad = some ⟨g, o, none⟩) (hC : RowX (· ≠ g) w u m C) (hf : f < 4294967296) (hY : f * C < 4294967296 ^ k) :
    Calls Tryd.prog 102 #[.slice ad k cap, u, .int .u32 f] w fun e w' => e = .returned (.bool (decide (P < f * C))) ∧ Wk w' g o k (subN P (f * C) k) ∧ Only g o (o + k) w w' := by
  have HW := hide hW
  have HC := hide hC
  have Had := hide had
  have HY := hide hY
  clear hW had hC hY
  go_enter Tryd.func102, Tryd.ntmps102
  go_wp2_with fail
  go_loopw [7, 8, 13] (fun t7 t8 t13 wr => ∃ i : Nat, i ≤ k ∧ t7 = .int .u64 (mulC 0 C f i : Nat) ∧ t8 = .int .u64 (brw P (f * C) i : Nat) ∧ t13 = .int .i64 i ∧ Hid (Mid wr g o k i P (subN P (f * C) k) ∧ Only g o (o + k) w wr)) (fun _ _ t13 _ => k - (intOf t13).toNat)
  case atStart => exact ⟨0, by omega, by rw [mulC_zero]; rfl, by rw [brw_zero]; rfl, rfl, HW.out.mid _, Only.refl _ _ _ _⟩
  case round =>
    obtain ⟨i, hi, rfl, rfl, rfl, HM⟩ := hrel
    by_cases hlt : i < k
    · have hlt' : (i : Int) < (k : Int) := by omega
      obtain rfl := Had.out (by omega)
      have HR := hide (HC.out.only HM.out.2)
      have hx := HM.out.1.hi i (Nat.le_refl _) hlt
      have hfr := HM.out.1.free i hlt
      have Hs := hide (mul_step 0 C f i)
      have hcl := mulC_le 0 C f i
      have hyl := dg_lt C i
      have hxl := dg_le P i
      have hzl := dg_le (f * C) i
      have hbl := brw_le P (f * C) i
      have Hb := hide (sub_step P (f * C) k i hlt _ _ _ rfl rfl rfl)
      have HL : Hid (Calls Tryd.prog 90 #[u, .int .i64 i] wr fun e w' => e = .returned (.int .u64 (dg C i : Nat)) ∧ w' = wr) := limbAt_any u m C i _ HR.out (by omega)
      rw [dg_zero, Nat.add_zero, Nat.zero_add] at Hs
      have hroom := mul_room (dg C i) f 0 (mulC 0 C f i) hyl hf (by omega) hcl
      rw [Nat.add_zero] at hroom
      generalize dg P i = x at *
      generalize dg C i = y at *
      generalize mulC 0 C f i = c at *
      generalize dg (f * C) i = d at *
      generalize brw P (f * C) i = b at *
      obtain ⟨p, hp, hp'⟩ : ∃ p : Nat, p = y * f ∧ (y : Int) * (f : Int) = (p : Int) := ⟨y * f, rfl, by rw [Int.natCast_mul]⟩
      rw [← hp] at hroom Hs
      have hand : bits BinOp.and IntKind.u64 ((c : Int) + (p : Int)) 4294967295 = (d : Int) := by
        rw [and_low32 _ (by omega) (by omega), ← Hs.out.1]; omega
      clear hp
      go_wp2_with fail
      refine HL.out.mono ?_
      rintro e w' ⟨rfl, rfl⟩
      go_wp2_with fail
      have Hr := hide (sub_round P (f * C) k i hlt x d b hxl hzl hbl Hb.out)
      go_roundw
      case rel =>
        refine ⟨i + 1, by omega, ?_, by rw [Hr.out.2], by go_num, ?_⟩
        · rw [← Hs.out.2]; exact congrArg _ (by omega)
        · exact ⟨HM.out.1.step hlt _ Hr.out.1, HM.out.2.setCell _ (by omega) (by omega) _⟩
      case measure => simp [intOf]; omega
    · obtain rfl : i = k := by omega
      have HB : Hid (brw P (f * C) i = if P < f * C then 1 else 0) := by unfold brw; rw [mod_self HW.out.lt, mod_self HY.out]; rfl
      have HF : Hid (Wk wr g o i (subN P (f * C) i) ∧ Only g o (o + i) w wr) := ⟨HM.out.1.wk (subN_lt _ _ _), HM.out.2⟩
      clear HM
      by_cases hlt2 : P < f * C
      · have e1 : brw P (f * C) i = 1 := by rw [HB.out, if_pos hlt2]
        rw [e1]
        have HD := hide (decide_eq_true hlt2)
        clear e1 HB
        go_wp2_with fail
        go_ret
        exact ⟨by rw [HD.out]; rfl, HF.out⟩
      · have e1 : brw P (f * C) i = 0 := by rw [HB.out, if_neg hlt2]
        rw [e1]
        have HD := hide (decide_eq_false hlt2)
        clear e1 HB
        go_wp2_with fail
        go_ret
        exact ⟨by rw [HD.out]; rfl, HF.out⟩

set_option maxRecDepth 100000 in
set_option maxHeartbeats 1000000 in
theorem takeOut_any (g o m cap P D : Nat) (u : Value) (w : World) (hW : Wk w g o (m + 3) P) (hk : m + 3 ≤ 70368744177664) (hcap : m + 3 ≤ cap) (hC : RowX (· ≠ g) w u (m + 2) D) (hD0 : 0 < D) (hP : P < D * 4294967296) (ht : 0 < dg D (m + 1)) :
    Calls Tryd.prog 99 #[.slice (some ⟨g, o, none⟩) (m + 3) cap, u] w fun e w' => e = .returned (.int .u32 (P / D : Nat)) ∧ Wk w' g o (m + 3) (P % D) ∧ Only g o (o + (m + 3)) w w' := by
  have HW := hide hW
  have HC := hide hC
  clear hW hC
  have HG := hide (guess_any _ u m P D w (HW.out.row hk hcap (S := fun _ => True) trivial _ (fun _ => rfl)) HC.out hD0 hP ht)
  go_enter Tryd.func99, Tryd.ntmps99
  go_wp2_with fail
  refine HG.out.mono ?_
  rintro e w1 ⟨f, rfl, hf1, hf2, hf3, n1, rfl⟩
  have HT := hide (take_exact hD0 hf1 hf2)
  have hY : f * D < 4294967296 ^ (m + 3) := by
    have h1 := Nat.mul_le_mul_right D hf3
    have h2 := HC.out.1
    rw [show m + 3 = m + 2 + 1 from rfl, pw_succ]
    omega
  have HSb := hide (subTimes_any (some ⟨g, o, none⟩) g o (m + 3) cap P u (m + 2) D f (w.drewN n1) (HW.out.drewN n1) hk hcap (fun _ => rfl) (HC.out.drewN n1) (by omega) hY)
  have HO1 : Hid (Only g o (o + (m + 3)) w (w.drewN n1)) := (Only.refl _ _ _ _).drewN n1
  have HC1 : Hid (RowX (· ≠ g) (w.drewN n1) u (m + 2) D) := HC.out.drewN n1
  have HY := hide hY
  clear hf1 hf2 hY
  generalize w.drewN n1 = w1 at *
  by_cases hlt : P < f * D
  · have HX := hide (HT.out.2 hlt)
    have hf0 : 0 < f := HX.out.2.2
    rw [decide_eq_true hlt] at HSb
    have HL := hide hlt
    clear HT hlt
    go_wp2_with fail
    refine HSb.out.mono ?_
    rintro e w2 ⟨rfl, hW2, hO2⟩
    have H2 := hide (And.intro hW2 hO2)
    clear hW2 hO2
    go_wp2_with fail
    refine (addInto_any _ g o (m + 3) cap _ u (m + 2) D w2 H2.out.1 hk hcap (fun _ => rfl) (HC1.out.only H2.out.2)).mono ?_
    rintro e w3 ⟨rfl, hW3, hO3⟩
    have H3 : Hid (Wk w3 g o (m + 3) (P % D) ∧ Only g o (o + (m + 3)) w w3) := by
      refine ⟨?_, HO1.out.trans (H2.out.2.trans hO3)⟩
      have e : (subN P (f * D) (m + 3) + D) % 4294967296 ^ (m + 3) = P % D := by
        rw [subN_below HL.out HY.out, ← HX.out.2.1]
        have h1 := HW.out.lt
        have h2 := HY.out
        have h3 := HL.out
        have h7 : D < 4294967296 ^ (m + 3) := Nat.lt_of_lt_of_le HC.out.1 (Nat.pow_le_pow_right (by omega) (by omega))
        have h4 : f * D ≤ P + D := by
          have := Nat.mod_lt P hD0
          have h5 := HX.out.1
          have h6 := Nat.div_mul_le_self P D
          rw [← h5] at h6
          obtain ⟨e, rfl⟩ : ∃ e, f = e + 1 := ⟨f - 1, by omega⟩
          rw [Nat.add_sub_cancel] at h6
          rw [Nat.add_mul, Nat.one_mul]; omega
        generalize f * D = Y at *
        rw [show 4294967296 ^ (m + 3) - (Y - P) + D = (P + D - Y) + 4294967296 ^ (m + 3) from by omega, Nat.add_mod_right, Nat.mod_eq_of_lt]
        omega
      rw [e] at hW3; exact hW3
    clear hW3 hO3
    go_wp2_with fail
    go_ret
    exact ⟨ret_int (by have := HX.out.1; omega), H3.out⟩
  · have HX := hide (HT.out.1 (by omega))
    rw [decide_eq_false hlt] at HSb
    have HL : Hid (f * D ≤ P) := by show _ ≤ _; omega
    clear HT hlt
    go_wp2_with fail
    refine HSb.out.mono ?_
    rintro e w2 ⟨rfl, hW2, hO2⟩
    have H2 : Hid (Wk w2 g o (m + 3) (P % D) ∧ Only g o (o + (m + 3)) w w2) := by
      refine ⟨?_, HO1.out.trans hO2⟩
      rw [subN_ge HL.out HW.out.lt, HX.out.2] at hW2; exact hW2
    clear hW2 hO2
    go_wp2_with fail
    go_ret
    exact ⟨ret_int (by have := HX.out.1; omega), H2.out⟩

end Go.Proofs.YtmfimhpbdbbpoaaDoor

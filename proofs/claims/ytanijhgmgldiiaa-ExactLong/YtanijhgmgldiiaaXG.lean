/- Package exact: Ratio, Ratio32, Root. -/
import Derived.Test.YtanijhgmgldiiaaXF
import Derived.Test.YtanijhgmgldiiaaAF
namespace Go.Proofs.Ytanijhgmgldiiaa
open Go.RowKit
open M
set_option linter.unusedVariables false
set_option linter.unusedSimpArgs false

set_option maxRecDepth 100000 in
theorem chkR_ok {v u : Value} {P Q : Nat} {w : World} (h : Num w v P) (h' : Num w u Q) (hQ : 0 < Q) : Calls Try.prog 8 #[v, u] w fun e w' => e = .returned (.int .i64 0) ∧ w' = w := by
  obtain ⟨k, h1, h2, h3⟩ := h
  obtain ⟨m, g1, g2, g3⟩ := h'
  have HA := hide (check_ok v k P w h1 h2 h3)
  have HB := hide (check_ok u m Q w g1 g2 g3)
  have hm0 : ((m : Int) == 0) = false := by
    have : m ≠ 0 := fun e => by have := g2.zero_iff.1 e; omega
    simp; omega
  obtain ⟨_, _, ad', cap', rfl, _, _⟩ := g1
  clear h1 h2 g2 hQ
  go_enter Try.func8, Try.ntmps8
  go_wp2_with fail
  refine HA.out.mono ?_
  rintro e x1 ⟨rfl, hw⟩
  have hw := hw.symm
  subst hw
  go_wp2_with fail
  refine HB.out.mono ?_
  rintro e x1 ⟨rfl, hw⟩
  have hw := hw.symm
  subst hw
  go_wp2_with fail
  go_ret
  exact ⟨rfl, rfl⟩

set_option maxRecDepth 100000 in
theorem chkR_zero {v : Value} {P : Nat} {w : World} (h : Num w v P) : Calls Try.prog 8 #[v, .slice none 0 0] w fun e w' => e = .returned (.int .i64 42) ∧ w' = w := by
  obtain ⟨k, h1, h2, h3⟩ := h
  have HA := hide (check_ok v k P w h1 h2 h3)
  have HB := hide (check_ok (.slice none 0 0) 0 0 w (Row.nil w) nrm_zero (by omega))
  clear h1 h2
  go_enter Try.func8, Try.ntmps8
  go_wp2_with fail
  refine HA.out.mono ?_
  rintro e x1 ⟨rfl, hw⟩
  have hw := hw.symm
  subst hw
  go_wp2_with fail
  refine HB.out.mono ?_
  rintro e x1 ⟨rfl, hw⟩
  have hw := hw.symm
  subst hw
  go_wp2_with fail
  go_ret
  exact ⟨rfl, rfl⟩

set_option maxRecDepth 100000 in
theorem chkR_badp {S : Nat → Prop} {v u : Value} {k P : Nat} {w : World} (h : RowX S w v k P) (hc : chk k P ≠ 0) : Calls Try.prog 8 #[v, u] w fun e w' => e = .returned (.int .i64 41) ∧ w' = w := by
  have HA := hide (check_any v k P w h)
  have hc1 : ((chk k P : Int) != 0) = true := by simpa using hc
  generalize chk k P = c at *
  clear h hc
  go_enter Try.func8, Try.ntmps8
  go_wp2_with fail
  refine HA.out.mono ?_
  rintro e x1 ⟨rfl, hw⟩
  have hw := hw.symm
  subst hw
  go_wp2_with fail
  go_ret
  exact ⟨rfl, rfl⟩

set_option maxRecDepth 100000 in
theorem chkR_badq {S : Nat → Prop} {v u : Value} {P m Q : Nat} {w : World} (h : Num w v P) (h' : RowX S w u m Q) (hc : chk m Q ≠ 0) : Calls Try.prog 8 #[v, u] w fun e w' => e = .returned (.int .i64 41) ∧ w' = w := by
  obtain ⟨k, h1, h2, h3⟩ := h
  have HA := hide (check_ok v k P w h1 h2 h3)
  have HB := hide (check_any u m Q w h')
  have hc1 : ((chk m Q : Int) != 0) = true := by simpa using hc
  generalize chk m Q = c at *
  clear h1 h2 h' hc
  go_enter Try.func8, Try.ntmps8
  go_wp2_with fail
  refine HA.out.mono ?_
  rintro e x1 ⟨rfl, hw⟩
  have hw := hw.symm
  subst hw
  go_wp2_with fail
  refine HB.out.mono ?_
  rintro e x1 ⟨rfl, hw⟩
  have hw := hw.symm
  subst hw
  go_wp2_with fail
  go_ret
  exact ⟨rfl, rfl⟩

/-- What Ratio tells. -/
def RatioEnd (k : IntKind) (b L inf sgn : Nat) (neg : Bool) (P Q : Nat) (e0 : Int) (w : World) (e : Ending) (w' : World) : Prop :=
  ∃ head more e', e = .returned (.tuple #[.int k (wdX neg sgn (unsF b L inf head more e') : Nat), .int .i64 0]) ∧ LeadQ P Q e0 head more e' ∧ Below w.heap.size w w'

set_option maxRecDepth 100000 in
theorem Ratio_bad {v u : Value} {w : World} (c : Int) (neg : Bool) (e0 : Int) (hc : ((c : Int) != 0) = true) (h : Calls Try.prog 8 #[v, u] w fun e w' => e = .returned (.int .i64 c) ∧ w' = w) : Calls Try.prog 4 #[.bool neg, v, u, .int .i64 e0] w fun e w' => e = .returned (.tuple #[.int .u64 0, .int .i64 c]) ∧ w' = w := by
  have HA := hide h
  clear h
  go_enter Try.func4, Try.ntmps4
  go_wp2_with fail
  refine HA.out.mono ?_
  rintro e x1 ⟨rfl, hw⟩
  have hw := hw.symm
  subst hw
  go_wp2_with fail
  go_ret2
  exact ⟨rfl, rfl⟩

set_option maxRecDepth 100000 in
set_option maxHeartbeats 2000000 in
theorem Ratio_num {v u : Value} {P Q : Nat} {w : World} (neg : Bool) (e0 : Int) (h : Num w v P) (h' : Num w u Q) (hQ : 0 < Q) : Calls Try.prog 4 #[.bool neg, v, u, .int .i64 e0] w fun e w' => RatioEnd .u64 53 1074 9218868437227405312 9223372036854775808 neg P Q e0 w e w' := by
  have HC := hide (chkR_ok h h' hQ)
  have HQ := hide (fun (w' : World) (hb : Below w.heap.size w w') => quotient_num (w := w') e0 (h.below hb) (h'.below hb) hQ)
  have HF := hide (And.intro h.fits h'.fits)
  clear h h' hQ
  go_enter Try.func4, Try.ntmps4
  go_wp2_with fail
  refine HC.out.mono ?_
  rintro e x1 ⟨rfl, hw⟩
  have hw := hw.symm
  subst hw
  go_wp2_with fail
  refine (layout64 _).mono ?_
  rintro e x1 ⟨rfl, b1⟩
  have J1 := hide b1
  clear b1
  go_wp2_with fail
  refine (HQ.out _ J1.out).mono ?_
  rintro e x2 ⟨head, more, e', rfl, hl, b2⟩
  have HL := hide hl
  have J2 := hide (J1.out.trans (b2.mono J1.out.size))
  have HN := hide (nearest64_any neg head more e' x2 (hl.ok HF.out.1 HF.out.2))
  have hval : wdX neg 9223372036854775808 (unsF 53 1074 9218868437227405312 head more e') < 18446744073709551616 := by
    have := uns64_le head more e'
    unfold wdX; split <;> omega
  clear hl b2 J1
  generalize hv : wdX neg 9223372036854775808 (unsF 53 1074 9218868437227405312 head more e') = val at *
  have HV := hide hv
  clear hv
  go_wp2_with fail
  refine HN.out.mono ?_
  rintro e x3 ⟨rfl, b3⟩
  have J3 := hide (J2.out.trans (b3.mono J2.out.size))
  clear b3 J2

  clear hval
  go_wp2_with fail
  go_ret2
  exact ⟨head, more, e', by rw [HV.out]; rfl, HL.out, J3.out⟩

set_option maxRecDepth 100000 in
theorem Ratio32_bad {v u : Value} {w : World} (c : Int) (neg : Bool) (e0 : Int) (hc : ((c : Int) != 0) = true) (h : Calls Try.prog 8 #[v, u] w fun e w' => e = .returned (.int .i64 c) ∧ w' = w) : Calls Try.prog 6 #[.bool neg, v, u, .int .i64 e0] w fun e w' => e = .returned (.tuple #[.int .u32 0, .int .i64 c]) ∧ w' = w := by
  have HA := hide h
  clear h
  go_enter Try.func6, Try.ntmps6
  go_wp2_with fail
  refine HA.out.mono ?_
  rintro e x1 ⟨rfl, hw⟩
  have hw := hw.symm
  subst hw
  go_wp2_with fail
  go_ret2
  exact ⟨rfl, rfl⟩

set_option maxRecDepth 100000 in
set_option maxHeartbeats 2000000 in
theorem Ratio32_num {v u : Value} {P Q : Nat} {w : World} (neg : Bool) (e0 : Int) (h : Num w v P) (h' : Num w u Q) (hQ : 0 < Q) : Calls Try.prog 6 #[.bool neg, v, u, .int .i64 e0] w fun e w' => RatioEnd .u32 24 149 2139095040 2147483648 neg P Q e0 w e w' := by
  have HC := hide (chkR_ok h h' hQ)
  have HQ := hide (fun (w' : World) (hb : Below w.heap.size w w') => quotient_num (w := w') e0 (h.below hb) (h'.below hb) hQ)
  have HF := hide (And.intro h.fits h'.fits)
  clear h h' hQ
  go_enter Try.func6, Try.ntmps6
  go_wp2_with fail
  refine HC.out.mono ?_
  rintro e x1 ⟨rfl, hw⟩
  have hw := hw.symm
  subst hw
  go_wp2_with fail
  refine (layout32 _).mono ?_
  rintro e x1 ⟨rfl, b1⟩
  have J1 := hide b1
  clear b1
  go_wp2_with fail
  refine (HQ.out _ J1.out).mono ?_
  rintro e x2 ⟨head, more, e', rfl, hl, b2⟩
  have HL := hide hl
  have J2 := hide (J1.out.trans (b2.mono J1.out.size))
  have HN := hide (nearest32_any neg head more e' x2 (hl.ok HF.out.1 HF.out.2))
  have hval : wdX neg 2147483648 (unsF 24 149 2139095040 head more e') < 4294967296 := by
    have := uns32_le head more e'
    unfold wdX; split <;> omega
  clear hl b2 J1
  generalize hv : wdX neg 2147483648 (unsF 24 149 2139095040 head more e') = val at *
  have HV := hide hv
  clear hv
  go_wp2_with fail
  refine HN.out.mono ?_
  rintro e x3 ⟨rfl, b3⟩
  have J3 := hide (J2.out.trans (b3.mono J2.out.size))
  clear b3 J2
  have hcv : IntKind.u32.wrap (val : Int) = (val : Int) := by rw [IntKind.wrap_u32]; omega
  have hcv2 : (val : Int) % 4294967296 = (val : Int) := by omega
  clear hval
  go_wp2_with (simp only [hcv, hcv2])
  go_ret2
  exact ⟨head, more, e', by rw [HV.out]; rfl, HL.out, J3.out⟩

/-- What a root's leading bits are. -/
def LeadR (P Q : Nat) (e : Int) (head : Nat) (more : Bool) (e' : Int) : Prop :=
  (P = 0 ∧ head = 0 ∧ more = false ∧ e' = 0) ∨ (0 < P ∧ ∃ s N D, s = 127 + ((nr e + (bitLen P : Int) - (bitLen Q : Int)) % 2).toNat ∧ 0 < D ∧ N * (Q * 2 ^ (-upI P Q s).toNat) = P * 2 ^ (upI P Q s).toNat * D ∧ Sq head (N / D) ∧ more = (mrB N D || !decide (head * head = N / D)) ∧ 2 * e' = nr e - upI P Q s ∧ 4611686018427387904 ≤ head ∧ head < 18446744073709551616)

theorem LeadR.ok {P Q : Nat} {e : Int} {head : Nat} {more : Bool} {e' : Int} (h : LeadR P Q e head more e') (hP : Fits P) (hQ : Fits Q) : LeadOk head e' := by
  have := nr_bd e
  rcases h with ⟨_, h1, _, h2⟩ | ⟨_, s, N, D, hs, _, _, _, _, h2, h3, h4⟩
  · exact ⟨.inl h1, by omega, by omega⟩
  · have := upI_bd (s := s) hP hQ (by omega)
    exact ⟨.inr ⟨h3, h4⟩, by omega, by omega⟩

theorem sq_size {S n s : Nat} (h : Sq S n) (hs : s = 127 ∨ s = 128) (h1 : 2 ^ (s - 2) ≤ n) (h2 : n < 2 ^ s) : 4611686018427387904 ≤ S ∧ S < 18446744073709551616 := by
  have a1 : 2 ^ 125 ≤ n := Nat.le_trans (Nat.pow_le_pow_right (by omega) (by omega)) h1
  have a2 : n < 2 ^ 128 := Nat.lt_of_lt_of_le h2 (Nat.pow_le_pow_right (by omega) (by omega))
  obtain ⟨b1, b2⟩ := h
  constructor
  · rcases Nat.lt_or_ge S 4611686018427387904 with c | c
    · exfalso
      have := Nat.mul_le_mul (show S + 1 ≤ 4611686018427387904 by omega) (show S + 1 ≤ 4611686018427387904 by omega)
      have e : (2 : Nat) ^ 125 = 42535295865117307932921825928971026432 := by decide
      omega
    · exact c
  · rcases Nat.lt_or_ge S 18446744073709551616 with c | c
    · exact c
    · exfalso
      have := Nat.mul_le_mul c c
      have e : (2 : Nat) ^ 128 = 340282366920938463463374607431768211456 := by decide
      omega

theorem sq_of (n : Nat) : ∃ S, Sq S n := by
  induction n with
  | zero => exact ⟨0, by simp, by simp⟩
  | succ n ih =>
    obtain ⟨S, h1, h2⟩ := ih
    rcases Nat.lt_or_ge (n + 1) ((S + 1) * (S + 1)) with c | c
    · exact ⟨S, by omega, c⟩
    · refine ⟨S + 1, c, ?_⟩
      have : (S + 1 + 1) * (S + 1 + 1) = (S + 1) * (S + 1) + 2 * (S + 1) + 1 := by
        rw [Nat.add_mul (S + 1) 1, Nat.mul_add (S + 1) (S + 1) 1]; omega
      omega

theorem and_one_i64 (n : Int) : bits .and .i64 n 1 = n % 2 := by
  have h63 : (BitVec.ofInt 64 1).toNat = 2 ^ 1 - 1 := by decide
  have key : (BitVec.ofInt 64 n &&& BitVec.ofInt 64 1).toNat = (n % ((2 ^ 64 : Nat) : Int)).toNat % 2 ^ 1 := by
    rw [BitVec.toNat_and, BitVec.toNat_ofInt, h63, Nat.and_two_pow_sub_one_eq_mod]
  show IntKind.i64.wrap ((BitVec.ofInt 64 n &&& BitVec.ofInt 64 1).toNat : Nat) = n % 2
  rw [key, IntKind.wrap_i64]
  omega

def RootEnd0 (P Q : Nat) (e0 : Int) (w : World) (e : Ending) (w' : World) : Prop :=
  ∃ head more e', e = .returned (.agg #[.int .u64 (head : Nat), .bool more, .int .i64 e']) ∧ LeadR P Q e0 head more e' ∧ Below w.heap.size w w'

set_option maxRecDepth 100000 in
set_option maxHeartbeats 4000000 in
theorem root_num {v u : Value} {P Q : Nat} {w : World} (e0 : Int) (h : Num w v P) (h' : Num w u Q) (hQ : 0 < Q) :
    Calls Try.prog 12 #[v, u, .int .i64 e0] w fun e w' => RootEnd0 P Q e0 w e w' := by
  obtain ⟨ad, k, cap, rfl, hk⟩ := num_slice h
  obtain ⟨W, hW⟩ : ∃ W, W = w.alloc (.cells #[.int .u64 0, .bool false, .int .i64 0] 40) := ⟨_, rfl⟩
  have hbW : Below w.heap.size w W := by rw [hW]; exact (Below.refl _ w).alloc (Nat.le_refl _) _
  have hsz : w.heap.size < W.heap.size := by rw [hW]; simp
  have c0 : W.cell? ⟨w.heap.size, 0, none⟩ = some (.int .u64 0) := by rw [hW]; exact cell_row w _ _ 0 _ rfl
  have c1 : W.cell? ⟨w.heap.size, 1, none⟩ = some (.bool false) := by rw [hW]; exact cell_row w _ _ 1 _ rfl
  have c2 : W.cell? ⟨w.heap.size, 2, none⟩ = some (.int .i64 0) := by rw [hW]; exact cell_row w _ _ 2 _ rfl
  have f0 : ∀ o, W.frozen? ⟨w.heap.size, o, none⟩ = false := fun o => by rw [hW]; exact World.frozen?_alloc_new w _ _ o
  by_cases hP : P = 0
  · obtain rfl : k = 0 := hk.2 hP
    have HL := hide (show LeadR P Q e0 0 false 0 from .inl ⟨hP, rfl, rfl, rfl⟩)
    have HB := hide hbW
    clear h h' hQ hk hP hbW hsz
    go_enter Try.func12, Try.ntmps12
    go_wp2_with fail
    refine bodyPost_ret (v := .agg #[.int .u64 0, .bool false, .int .i64 0]) (by simp [results, Try.results12, go_sem]) rfl ?_
    exact ⟨0, false, 0, rfl, HL.out, (Below.refl _ w).alloc (Nat.le_refl _) _⟩
  · have hk0 : ((k : Int) == 0) = false := by
      have : k ≠ 0 := fun e => hP (hk.1 e)
      simp; omega
    have hk1 : ¬ k = 0 := fun e => hP (hk.1 e)
    have hP0 : 0 < P := by omega
    have hnb := nr_bd e0
    have lp := fits_bits.1 h.fits
    have lq := fits_bits.1 h'.fits
    obtain ⟨x1, hx1, hx1b⟩ : ∃ x1 : Int, nr e0 + (bitLen P : Int) = x1 ∧ (-2000000 ≤ x1 ∧ x1 ≤ 2000000) := ⟨_, rfl, by omega⟩
    obtain ⟨x2, hx2, hx2b⟩ : ∃ x2 : Int, x1 - (bitLen Q : Int) = x2 ∧ (-3000000 ≤ x2 ∧ x2 ≤ 3000000) := ⟨_, rfl, by omega⟩
    obtain ⟨s, hs, hsi⟩ : ∃ s : Nat, s = 127 + (x2 % 2).toNat ∧ 127 + x2 % 2 = (s : Int) := ⟨_, rfl, by omega⟩
    have hs78 : s = 127 ∨ s = 128 := by omega
    have hand := and_one_i64 x2
    have HD := hide (divide_num (s := s) (h.below hbW) (h'.below hbW) hP0 hQ (by omega) (by omega))
    have hub := upI_bd (s := s) h.fits h'.fits (by omega)
    obtain ⟨e', he', heb⟩ : ∃ e' : Int, 2 * e' = nr e0 - upI P Q s ∧ (-4000000 ≤ e' ∧ e' ≤ 4000000) := by
      refine ⟨(nr e0 - upI P Q s) / 2, ?_, by omega⟩
      have : upI P Q s = (bitLen Q : Int) + (s : Int) - 1 - (bitLen P : Int) := rfl
      omega
    obtain ⟨d1, hd1⟩ : ∃ d1 : Int, nr e0 - upI P Q s = d1 ∧ (-3000000 ≤ d1 ∧ d1 ≤ 3000000) := ⟨_, rfl, by omega⟩
    obtain ⟨hd1, hd1b⟩ := hd1
    have htd : d1.tdiv 2 = e' := by
      rw [← hd1, ← he', Int.mul_comm]; exact Int.mul_tdiv_cancel _ (by omega)
    have HL : Hid (∀ N D S : Nat, 0 < D → N * (Q * 2 ^ (-upI P Q s).toNat) = P * 2 ^ (upI P Q s).toNat * D → Sq S (N / D) → (4611686018427387904 ≤ S ∧ S < 18446744073709551616) ∧ LeadR P Q e0 S (mrB N D || !decide (S * S = N / D)) e') := by
      intro N D S hD hN hS
      obtain ⟨q1, q2⟩ := quot_head (s := s) hP0 hQ (by omega) hD hN
      have q3 := sq_size hS hs78 q1 q2
      exact ⟨q3, .inr ⟨hP0, s, N, D, by rw [hs, ← hx2, ← hx1], hD, hN, hS, rfl, he', q3⟩⟩
    have HN := hide (fun w : World => near_any e0 w)
    have HLp := hide (fun (w' : World) (hb : Below w.heap.size w w') => xlen (h.below hb))
    have HLq := hide (fun (w' : World) (hb : Below w.heap.size w w') => xlen (h'.below hb))
    have HB := hide (And.intro hbW hsz)
    have HF := hide f0
    generalize hu : upI P Q s = up at HD hub HL hd1
    generalize nr e0 = ne at *
    generalize bitLen P = bP at HLp hx1 lp
    generalize bitLen Q = bQ at HLq hx2 lq
    clear h h' hQ hk hP hbW hsz hP0 f0 hu hs he' hs78
    go_enter Try.func12, Try.ntmps12
    go_wp2_with fail
    rw [← hW]
    have HWW := hide hW
    clear hW
    refine (HN.out _).mono ?_
    rintro e y1 ⟨rfl, hw3⟩
    have hw3 := hw3.symm
    subst hw3
    go_wp2_with fail
    refine (HLp.out _ HB.out.1).mono ?_
    rintro e y1 ⟨rfl, hw3⟩
    have hw3 := hw3.symm
    subst hw3
    go_wp2_with (simp only [hx1])
    refine (HLq.out _ HB.out.1).mono ?_
    rintro e y1 ⟨rfl, hw3⟩
    have hw3 := hw3.symm
    subst hw3
    go_wp2_with (simp only [hx1, hx2, hand, hsi])
    refine HD.out.mono ?_
    rintro e y1 ⟨r, N, D, rfl, n1, hD, hN, b1⟩
    obtain ⟨S, hS⟩ := sq_of (N / D)
    obtain ⟨⟨hh1, hh2⟩, hlead⟩ := HL.out N D S hD hN hS
    have HLL := hide hlead
    have HR := hide (Root_num n1 hS)
    obtain ⟨ex, hex⟩ : ∃ ex : Bool, decide (S * S = N / D) = ex := ⟨_, rfl⟩
    rw [hex] at HR HLL
    generalize mrB N D = more at *
    have J1 := hide b1
    have HS2 := hide hh2
    clear n1 hD hN b1 HD hh1 hh2 HL hlead hS hex
    go_wp2_with fail
    refine HR.out.mono ?_
    rintro e y2 ⟨r2, n2, rfl, ho, hn, b2⟩
    have HS := hide (num_small (ho.num hn (small_fits (Nat.lt_of_lt_of_le HS2.out (by decide)))) HS2.out)
    have J2 := hide (J1.out.trans (b2.mono J1.out.size))
    clear b2 J1 ho hn HR
    go_wp2_with fail
    refine HS.out.mono ?_
    rintro e y3 ⟨rfl, b3⟩
    have J3 := hide (J2.out.trans (b3.mono J2.out.size))
    clear b3 J2 HS
    have g0 : y3.cell? ⟨w.heap.size, 0, none⟩ = some (.int .u64 0) := by rw [J3.out.cell (p := ⟨w.heap.size, 0, none⟩) HB.out.2]; exact c0
    have g1 : y3.cell? ⟨w.heap.size, 1, none⟩ = some (.bool false) := by rw [J3.out.cell (p := ⟨w.heap.size, 1, none⟩) HB.out.2]; exact c1
    have g2 : y3.cell? ⟨w.heap.size, 2, none⟩ = some (.int .i64 0) := by rw [J3.out.cell (p := ⟨w.heap.size, 2, none⟩) HB.out.2]; exact c2
    have gf : ∀ o, y3.frozen? ⟨w.heap.size, o, none⟩ = false := fun o => by rw [J3.out.frozen (p := ⟨w.heap.size, o, none⟩) HB.out.2]; exact HF.out o
    clear c0 c1 c2 HN HLp HLq
    cases more <;> cases ex
    · skip
      go_wp2_with (simp only [hd1, htd])
      obtain ⟨r0, r1, r2, r3⟩ := lead_put (a := .int .u64 (S : Nat)) (b := .bool true) (c := .int .i64 e') g0 g1 g2
      refine bodyPost_ret (v := .agg #[.int .u64 (S : Nat), .bool true, .int .i64 e']) (by simp [results, Try.results12, go_sem, r0, r1, r2]) rfl ?_
      exact ⟨S, _, e', rfl, HLL.out, r3 _ _ (Nat.le_refl _) (HB.out.1.trans (J3.out.mono HB.out.1.size))⟩
    · skip
      go_wp2_with (simp only [hd1, htd])
      obtain ⟨r0, r1, r2, r3⟩ := lead_put (a := .int .u64 (S : Nat)) (b := .bool false) (c := .int .i64 e') g0 g1 g2
      refine bodyPost_ret (v := .agg #[.int .u64 (S : Nat), .bool false, .int .i64 e']) (by simp [results, Try.results12, go_sem, r0, r1, r2]) rfl ?_
      exact ⟨S, _, e', rfl, HLL.out, r3 _ _ (Nat.le_refl _) (HB.out.1.trans (J3.out.mono HB.out.1.size))⟩
    · skip
      go_wp2_with (simp only [hd1, htd])
      obtain ⟨r0, r1, r2, r3⟩ := lead_put (a := .int .u64 (S : Nat)) (b := .bool true) (c := .int .i64 e') g0 g1 g2
      refine bodyPost_ret (v := .agg #[.int .u64 (S : Nat), .bool true, .int .i64 e']) (by simp [results, Try.results12, go_sem, r0, r1, r2]) rfl ?_
      exact ⟨S, _, e', rfl, HLL.out, r3 _ _ (Nat.le_refl _) (HB.out.1.trans (J3.out.mono HB.out.1.size))⟩
    · skip
      go_wp2_with (simp only [hd1, htd])
      obtain ⟨r0, r1, r2, r3⟩ := lead_put (a := .int .u64 (S : Nat)) (b := .bool true) (c := .int .i64 e') g0 g1 g2
      refine bodyPost_ret (v := .agg #[.int .u64 (S : Nat), .bool true, .int .i64 e']) (by simp [results, Try.results12, go_sem, r0, r1, r2]) rfl ?_
      exact ⟨S, _, e', rfl, HLL.out, r3 _ _ (Nat.le_refl _) (HB.out.1.trans (J3.out.mono HB.out.1.size))⟩

/-- What Root tells. -/
def RootEnd (P Q : Nat) (e0 : Int) (w : World) (e : Ending) (w' : World) : Prop :=
  ∃ head more e', e = .returned (.tuple #[.int .u64 (wdX false 9223372036854775808 (unsF 53 1074 9218868437227405312 head more e') : Nat), .int .i64 0]) ∧ LeadR P Q e0 head more e' ∧ Below w.heap.size w w'

set_option maxRecDepth 100000 in
theorem Root_bad {v u : Value} {w : World} (c : Int) (e0 : Int) (hc : ((c : Int) != 0) = true) (h : Calls Try.prog 8 #[v, u] w fun e w' => e = .returned (.int .i64 c) ∧ w' = w) : Calls Try.prog 5 #[v, u, .int .i64 e0] w fun e w' => e = .returned (.tuple #[.int .u64 0, .int .i64 c]) ∧ w' = w := by
  have HA := hide h
  clear h
  go_enter Try.func5, Try.ntmps5
  go_wp2_with fail
  refine HA.out.mono ?_
  rintro e x1 ⟨rfl, hw⟩
  have hw := hw.symm
  subst hw
  go_wp2_with fail
  go_ret2
  exact ⟨rfl, rfl⟩

set_option maxRecDepth 100000 in
set_option maxHeartbeats 2000000 in
theorem XRoot_num {v u : Value} {P Q : Nat} {w : World} (e0 : Int) (h : Num w v P) (h' : Num w u Q) (hQ : 0 < Q) : Calls Try.prog 5 #[v, u, .int .i64 e0] w fun e w' => RootEnd P Q e0 w e w' := by
  have HC := hide (chkR_ok h h' hQ)
  have HQ := hide (fun (w' : World) (hb : Below w.heap.size w w') => root_num (w := w') e0 (h.below hb) (h'.below hb) hQ)
  have HF := hide (And.intro h.fits h'.fits)
  clear h h' hQ
  go_enter Try.func5, Try.ntmps5
  go_wp2_with fail
  refine HC.out.mono ?_
  rintro e x1 ⟨rfl, hw⟩
  have hw := hw.symm
  subst hw
  go_wp2_with fail
  refine (layout64 _).mono ?_
  rintro e x1 ⟨rfl, b1⟩
  have J1 := hide b1
  clear b1
  go_wp2_with fail
  refine (HQ.out _ J1.out).mono ?_
  rintro e x2 ⟨head, more, e', rfl, hl, b2⟩
  have HL := hide hl
  have J2 := hide (J1.out.trans (b2.mono J1.out.size))
  have HN := hide (nearest64_any false head more e' x2 (hl.ok HF.out.1 HF.out.2))
  clear hl b2 J1
  generalize hv : wdX false 9223372036854775808 (unsF 53 1074 9218868437227405312 head more e') = val at *
  have HV := hide hv
  clear hv
  go_wp2_with fail
  refine HN.out.mono ?_
  rintro e x3 ⟨rfl, b3⟩
  have J3 := hide (J2.out.trans (b3.mono J2.out.size))
  clear b3 J2
  go_wp2_with fail
  go_ret2
  exact ⟨head, more, e', by rw [HV.out]; rfl, HL.out, J3.out⟩
end Go.Proofs.Ytanijhgmgldiiaa

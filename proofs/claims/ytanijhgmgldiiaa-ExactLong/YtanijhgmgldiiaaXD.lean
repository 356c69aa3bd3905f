/- Package exact: divide. -/
import Derived.Test.YtanijhgmgldiiaaXC
namespace Go.Proofs.Ytanijhgmgldiiaa
open Go.RowKit
open M
set_option linter.unusedVariables false
set_option linter.unusedSimpArgs false

/-- By which power of 2 a quotient gets so many bits. -/
def upI (P Q s : Nat) : Int := (bitLen Q : Int) + (s : Int) - 1 - (bitLen P : Int)

theorem three_results {fn : Func} {a b c : Tmp} (h : fn.results = #[.tmp a, .tmp b, .tmp c]) (tmps : Array Value) (P : Program) (w : World) :
    (results fn tmps).run P w = .ok (.tuple #[tmps.getD a undef, tmps.getD b undef, tmps.getD c undef]) w := by
  simp [results, h]

set_option maxRecDepth 100000 in
set_option maxHeartbeats 4000000 in
theorem divide_num {v u : Value} {P Q s : Nat} {w : World} (h : Num w v P) (h' : Num w u Q) (hP : 0 < P) (hQ : 0 < Q) (hs1 : 2 ≤ s) (hs2 : s ≤ 200) :
    Calls Try.prog 16 #[v, u, .int .i64 s] w fun e w' => ∃ r N D, e = .returned (.tuple #[r, .bool (mrB N D), .int .i64 (upI P Q s)]) ∧ Num w' r (N / D) ∧ 0 < D ∧ N * (Q * 2 ^ (-upI P Q s).toNat) = P * 2 ^ (upI P Q s).toNat * D ∧ Below w.heap.size w w' := by
  have lp := fits_bits.1 h.fits
  have lq := fits_bits.1 h'.fits
  obtain ⟨bP, hbP⟩ : ∃ b : Nat, bitLen P = b := ⟨_, rfl⟩
  obtain ⟨bQ, hbQ⟩ : ∃ b : Nat, bitLen Q = b := ⟨_, rfl⟩
  obtain ⟨t, ht, htb⟩ : ∃ t : Int, (bQ : Int) + (s : Int) = t ∧ (0 ≤ t ∧ t ≤ 300000) := ⟨_, rfl, by omega⟩
  obtain ⟨t1, ht1, ht1b⟩ : ∃ t1 : Int, t - 1 = t1 ∧ (-1 ≤ t1 ∧ t1 ≤ 300000) := ⟨_, rfl, by omega⟩
  obtain ⟨up, hup, hupb⟩ : ∃ up : Int, t1 - (bP : Int) = up ∧ (-300000 ≤ up ∧ up ≤ 300000) := ⟨_, rfl, by omega⟩
  obtain ⟨un, hun, hunb⟩ : ∃ un : Int, -up = un ∧ (-300000 ≤ un ∧ un ≤ 300000) := ⟨_, rfl, by omega⟩
  have hU : upI P Q s = up := by unfold upI; rw [hbP, hbQ]; omega
  rw [hU, hun]
  have HLq := hide (xlen h')
  have HLp := hide (xlen h)
  rw [hbQ] at HLq
  rw [hbP] at HLp
  by_cases c : 262144 < t1
  · have HD := hide (divideLong_num h h' hP hQ (by omega) hs2 rfl rfl)
    have key : P * 2 ^ (bitLen Q - bitLen P) * 2 ^ (s - 1) * (Q * 2 ^ un.toNat) = P * 2 ^ up.toNat * (Q * 2 ^ (bitLen P - bitLen Q)) := by
      rw [hbP, hbQ]
      have e : 2 ^ (bQ - bP) * 2 ^ (s - 1) * 2 ^ un.toNat = 2 ^ up.toNat * 2 ^ (bP - bQ) := by
        rw [← Nat.pow_add, ← Nat.pow_add, ← Nat.pow_add]; congr 1; omega
      generalize 2 ^ (bQ - bP) = a1 at *
      generalize 2 ^ (s - 1) = a2 at *
      generalize 2 ^ un.toNat = a3 at *
      generalize 2 ^ up.toNat = a4 at *
      generalize 2 ^ (bP - bQ) = a5 at *
      calc P * a1 * a2 * (Q * a3) = P * Q * (a1 * a2 * a3) := by simp only [Nat.mul_assoc, Nat.mul_left_comm, Nat.mul_comm]
        _ = P * Q * (a4 * a5) := by rw [e]
        _ = P * a4 * (Q * a5) := by simp only [Nat.mul_assoc, Nat.mul_left_comm, Nat.mul_comm]
    have hDp : 0 < Q * 2 ^ (bitLen P - bitLen Q) := Nat.mul_pos hQ (Nat.two_pow_pos _)
    generalize P * 2 ^ (bitLen Q - bitLen P) * 2 ^ (s - 1) = N at *
    generalize Q * 2 ^ (bitLen P - bitLen Q) = D at *
    have HK := hide (And.intro hDp key)
    clear h h' hP hQ hbP hbQ hU key hDp
    go_enter Try.func16, Try.ntmps16
    go_wp2_with fail
    refine HLq.out.mono ?_
    rintro e x1 ⟨rfl, hw1⟩
    have hw1 := hw1.symm
    subst hw1
    go_wp2_with (simp only [ht, ht1])
    refine HLp.out.mono ?_
    rintro e x1 ⟨rfl, hw1⟩
    have hw1 := hw1.symm
    subst hw1
    go_wp2_with (simp only [ht, ht1, hup])
    refine HLq.out.mono ?_
    rintro e x1 ⟨rfl, hw1⟩
    have hw1 := hw1.symm
    subst hw1
    go_wp2_with (simp only [ht, ht1])
    refine HD.out.mono ?_
    rintro e x1 ⟨r, rfl, hn, hb⟩
    have HN := hide (And.intro hn hb)
    clear hn hb
    go_wp2_with fail
    go_ret3
    exact ⟨r, N, D, rfl, HN.out.1, HK.out.1, HK.out.2, HN.out.2⟩
  · have fP : Fits (P * 2 ^ up.toNat) := fits_bits.2 (by rw [bitLen_mul _ _ (by omega)]; omega)
    have fQ : Fits (Q * 2 ^ un.toNat) := fits_bits.2 (by rw [bitLen_mul _ _ (by omega)]; omega)
    have HSp := hide (xshift up h fP (by omega) (by omega))
    have HSq := hide (fun (w' : World) (hb : Below w.heap.size w w') => xshift (w := w') un (h'.below hb) fQ (by omega) (by omega))
    have hDp : 0 < Q * 2 ^ un.toNat := Nat.mul_pos hQ (Nat.two_pow_pos _)
    have key : P * 2 ^ up.toNat * (Q * 2 ^ un.toNat) = P * 2 ^ up.toNat * (Q * 2 ^ un.toNat) := rfl
    generalize P * 2 ^ up.toNat = N at *
    generalize Q * 2 ^ un.toNat = D at *
    have HK := hide hDp
    clear h h' hP hQ hbP hbQ hU key hDp fP fQ
    go_enter Try.func16, Try.ntmps16
    go_wp2_with fail
    refine HLq.out.mono ?_
    rintro e x1 ⟨rfl, hw1⟩
    have hw1 := hw1.symm
    subst hw1
    go_wp2_with (simp only [ht, ht1])
    refine HLp.out.mono ?_
    rintro e x1 ⟨rfl, hw1⟩
    have hw1 := hw1.symm
    subst hw1
    go_wp2_with (simp only [ht, ht1, hup])
    refine HLq.out.mono ?_
    rintro e x1 ⟨rfl, hw1⟩
    have hw1 := hw1.symm
    subst hw1
    go_wp2_with (simp only [ht, ht1])
    refine HSp.out.mono ?_
    rintro e x1 ⟨vr, rfl, n1, b1⟩
    have N1 := hide n1
    have J1 := hide b1
    clear n1 b1
    go_wp2_with (simp only [hun])
    refine (HSq.out _ J1.out).mono ?_
    rintro e x2 ⟨vd, rfl, n2, b2⟩
    have N2 := hide (N1.out.below b2)
    have D2 := hide n2
    have J2 := hide (J1.out.trans (b2.mono J1.out.size))
    clear n2 b2 N1 J1
    go_wp2_with fail
    refine (DivMod_num N2.out D2.out HK.out).mono ?_
    rintro e x3 ⟨q, r, rfl, nq, nr, b3⟩
    obtain ⟨a9, k9, p9, rfl, hk9⟩ := num_slice nr
    have hm : decide (0 < k9) = mrB N D := by
      unfold mrB
      by_cases h0 : N % D = 0
      · have := hk9.2 h0
        rw [decide_eq_false (by omega), decide_eq_false (by omega)]
      · have : k9 ≠ 0 := fun h => h0 (hk9.1 h)
        rw [decide_eq_true (by omega), decide_eq_true h0]
    have HN := hide (And.intro nq (J2.out.trans (b3.mono J2.out.size)))
    have HM := hide hm
    clear hm nq nr b3 N2 D2 J2 hk9
    go_wp2_with fail
    go_ret3
    exact ⟨q, N, D, by rw [← HM.out]; rfl, HN.out.1, HK.out, rfl, HN.out.2⟩
end Go.Proofs.Ytanijhgmgldiiaa

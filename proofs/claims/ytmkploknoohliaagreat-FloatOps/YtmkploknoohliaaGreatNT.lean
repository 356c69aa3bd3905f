/- The document's quotient; rounded where it is too great. -/
import Derived.Test.YtmkploknoohliaaGreatNN
import Derived.Test.YtmkploknoohliaaGreatNP
import Derived.Test.YtmkploknoohliaaGreatNQ
import Derived.Test.YtmkploknoohliaaGreatRF
namespace Go.Proofs.YtmkploknoohliaaGreat
open Go.RowKit
open M
set_option linter.unusedVariables false
set_option linter.unusedSimpArgs false

/-- What is divided: the shift goes to the one or to the other. -/
def Shared (P Q : Nat) (s : Int) (P' Q' : Nat) : Prop := (0 ≤ s ∧ P' = P * 2 ^ s.toNat ∧ Q' = Q) ∨ (s < 0 ∧ P' = P ∧ Q' = Q * 2 ^ (-s).toNat)

set_option maxRecDepth 100000 in
set_option maxHeartbeats 1000000 in
theorem rquotient (v u : Value) (kp P kq Q : Nat) (s : Int) (P' Q' : Nat) (w : World) (h : Row w v kp P) (h' : Row w u kq Q) (hn : Nrm kp P) (hn' : Nrm kq Q) (hQ : 0 < Q) (hkp : kp ≤ 2000) (hkq : kq ≤ 2000) (hs : -200000 ≤ s ∧ s ≤ 200000) (hPQ : Shared P Q s P' Q') :
    Calls Tryz.prog 91 #[v, u, .int .i64 s] w fun e w' => ∃ r t, e = .returned (.tuple #[r, t]) ∧ (∃ n, Row w' r n (P' / Q') ∧ Nrm n (P' / Q') ∧ n ≤ 50000) ∧ (∃ n, Row w' t n (P' % Q') ∧ Nrm n (P' % Q') ∧ n ≤ 50000) ∧ Below w.heap.size w w' := by
  rcases hPQ with ⟨h1, h2, h3⟩ | ⟨h1, h2, h3⟩
  · obtain ⟨m, hm⟩ : ∃ m : Nat, s = (m : Int) := ⟨s.toNat, by omega⟩
    subst hm
    rw [Int.toNat_natCast] at h2
    have HU := hide (nUp2 v kp P m w h (by omega) (by omega))
    have HD : Hid (∀ (w1 : World) (r : Value) (k : Nat), Row w1 r k P' → Nrm k P' → k ≤ 10000 → Row w1 u kq Q → Calls Tryz.prog 105 #[r, u] w1 fun e w' => ∃ r s, e = .returned (.tuple #[r, s]) ∧ (∃ n, Row w' r n (P' / Q) ∧ Nrm n (P' / Q) ∧ n ≤ 50000) ∧ (∃ n, Row w' s n (P' % Q) ∧ Nrm n (P' % Q) ∧ n ≤ 50000) ∧ Below w1.heap.size w1 w') :=
      fun w1 r k a b c d => nDivide r u k P' kq Q w1 a d b hn' hQ c (by omega)
    rw [← h2] at HU
    subst h3
    have HR := hide h'
    have HK := hide (show m / 32 + kp + 1 ≤ 10000 by omega)
    clear h2 h hn hn' hQ hkp hkq h'
    go_enter Tryz.func91, Tryz.ntmps91
    go_wp2_with fail
    refine HU.out.mono ?_
    rintro e w1 ⟨r, rfl, k, a, b, c, d⟩
    have H1 := hide (And.intro a (And.intro b (And.intro (show k ≤ 10000 by have := HK.out; omega) d)))
    clear a b c d
    go_wp2_with fail
    refine (HD.out w1 r k H1.out.1 H1.out.2.1 H1.out.2.2.1 (HR.out.below H1.out.2.2.2)).mono ?_
    rintro e w2 ⟨r2, r3, rfl, a, b, c⟩
    have H2 := hide (And.intro a (And.intro b c))
    clear a b c
    go_wp2_with fail
    go_ret2
    exact ⟨r2, r3, rfl, H2.out.1, H2.out.2.1, H1.out.2.2.2.trans (H2.out.2.2.mono H1.out.2.2.2.size)⟩
  · obtain ⟨m, hm⟩ : ∃ m : Nat, -s = (m : Int) := ⟨(-s).toNat, by omega⟩
    have hs0 : ¬ (0 : Int) ≤ s := by omega
    rw [hm, Int.toNat_natCast] at h3
    have HU := hide (nUp2 u kq Q m w h' (by omega) (by omega))
    have HD : Hid (∀ (w1 : World) (r : Value) (k : Nat), Row w1 r k Q' → Nrm k Q' → k ≤ 10000 → Row w1 v kp P → Calls Tryz.prog 105 #[v, r] w1 fun e w' => ∃ r s, e = .returned (.tuple #[r, s]) ∧ (∃ n, Row w' r n (P / Q') ∧ Nrm n (P / Q') ∧ n ≤ 50000) ∧ (∃ n, Row w' s n (P % Q') ∧ Nrm n (P % Q') ∧ n ≤ 50000) ∧ Below w1.heap.size w1 w') :=
      fun w1 r k a b c d => nDivide v r kp P k Q' w1 d a hn b (by rw [h3]; exact Nat.mul_pos hQ (Nat.two_pow_pos _)) (by omega) c
    rw [← h3] at HU
    subst h2
    have HR := hide h
    have HK := hide (show m / 32 + kq + 1 ≤ 10000 by omega)
    clear h3 h hn hn' hQ hkp hkq h'
    go_enter Tryz.func91, Tryz.ntmps91
    go_wp2_with (simp only [hm])
    refine HU.out.mono ?_
    rintro e w1 ⟨r, rfl, k, a, b, c, d⟩
    have H1 := hide (And.intro a (And.intro b (And.intro (show k ≤ 10000 by have := HK.out; omega) d)))
    clear a b c d
    go_wp2_with fail
    refine (HD.out w1 r k H1.out.1 H1.out.2.1 H1.out.2.2.1 (HR.out.below H1.out.2.2.2)).mono ?_
    rintro e w2 ⟨r2, r3, rfl, a, b, c⟩
    have H2 := hide (And.intro a (And.intro b c))
    clear a b c
    go_wp2_with fail
    go_ret2
    exact ⟨r2, r3, rfl, H2.out.1, H2.out.2.1, H1.out.2.2.2.trans (H2.out.2.2.mono H1.out.2.2.2.size)⟩

set_option maxRecDepth 100000 in
set_option maxHeartbeats 2000000 in
theorem rroundedInf64 {S : Nat → Prop} (neg more : Bool) (v : Value) (kk n : Nat) (u : Int) (L : Nat) (w : World) (h : RowX S w v kk n) (hnr : Nrm kk n) (hkk : kk ≤ 100000) (hL : blen n = L) (hLb : L ≤ 4000000) (hub : -4000000 ≤ u ∧ u ≤ 4000000) (ht : 2000 < (L : Int) + u - 53) :
    Calls Tryz.prog 93 #[.bool neg, v, .int .i64 u, .bool more, .int .i64 64] w fun e w' => e = .returned (.int .u64 (wd64 neg 9218868437227405312 : Nat)) ∧ w' = w := by
  have HLen := hide (nLen v kk n w h hnr hkk)
  rw [hL] at HLen
  have HSg : Hid (∀ w : World, Calls Tryz.prog 70 #[.bool neg, .int .u64 9218868437227405312, .int .i64 64] w fun e w' => e = .returned (.int .u64 (wd64 neg 9218868437227405312 : Nat)) ∧ w' = w) := fun w => rsigned64 neg 9218868437227405312 w (by omega)
  generalize wd64 neg 9218868437227405312 = out at *
  obtain ⟨a, haa⟩ : ∃ a : Int, (L : Int) + u = a := ⟨_, rfl⟩
  have hab : -5000000 ≤ a ∧ a ≤ 9000000 := by omega
  obtain ⟨t0, ht0⟩ : ∃ t0 : Int, a - 53 = t0 := ⟨_, rfl⟩
  have ht1 : (2000 : Int) < t0 := by omega
  clear ht h hnr hL hab
  go_enter Tryz.func93, Tryz.ntmps93
  go_wp2_with fail
  refine HLen.out.mono ?_
  rintro e w1 ⟨rfl, hw1⟩
  have hw1 := hw1.symm
  subst hw1
  go_wp2_with (simp only [haa])
  refine (rdigits64 _).mono ?_
  rintro e w1 ⟨rfl, hw1⟩
  have hw1 := hw1.symm
  subst hw1
  go_wp2_with (simp only [haa, ht0])
  refine (rleast64 _).mono ?_
  rintro e w1 ⟨rfl, hw1⟩
  have hw1 := hw1.symm
  subst hw1
  go_wp2_with (simp only [haa, ht0])
  refine (rInf64 _).mono ?_
  rintro e w1 ⟨rfl, hw1⟩
  have hw1 := hw1.symm
  subst hw1
  go_wp2_with fail
  refine (HSg.out _).mono ?_
  rintro e w1 ⟨rfl, hw1⟩
  have hw1 := hw1.symm
  subst hw1
  go_wp2_with fail
  go_ret
  exact ⟨rfl, rfl⟩

set_option maxRecDepth 100000 in
set_option maxHeartbeats 2000000 in
theorem rroundedInf32 {S : Nat → Prop} (neg more : Bool) (v : Value) (kk n : Nat) (u : Int) (L : Nat) (w : World) (h : RowX S w v kk n) (hnr : Nrm kk n) (hkk : kk ≤ 100000) (hL : blen n = L) (hLb : L ≤ 4000000) (hub : -4000000 ≤ u ∧ u ≤ 4000000) (ht : 2000 < (L : Int) + u - 24) :
    Calls Tryz.prog 93 #[.bool neg, v, .int .i64 u, .bool more, .int .i64 32] w fun e w' => e = .returned (.int .u64 (wd32 neg 2139095040 : Nat)) ∧ w' = w := by
  have HLen := hide (nLen v kk n w h hnr hkk)
  rw [hL] at HLen
  have HSg : Hid (∀ w : World, Calls Tryz.prog 70 #[.bool neg, .int .u64 2139095040, .int .i64 32] w fun e w' => e = .returned (.int .u64 (wd32 neg 2139095040 : Nat)) ∧ w' = w) := fun w => rsigned32 neg 2139095040 w (by omega)
  generalize wd32 neg 2139095040 = out at *
  obtain ⟨a, haa⟩ : ∃ a : Int, (L : Int) + u = a := ⟨_, rfl⟩
  have hab : -5000000 ≤ a ∧ a ≤ 9000000 := by omega
  obtain ⟨t0, ht0⟩ : ∃ t0 : Int, a - 24 = t0 := ⟨_, rfl⟩
  have ht1 : (2000 : Int) < t0 := by omega
  clear ht h hnr hL hab
  go_enter Tryz.func93, Tryz.ntmps93
  go_wp2_with fail
  refine HLen.out.mono ?_
  rintro e w1 ⟨rfl, hw1⟩
  have hw1 := hw1.symm
  subst hw1
  go_wp2_with (simp only [haa])
  refine (rdigits32 _).mono ?_
  rintro e w1 ⟨rfl, hw1⟩
  have hw1 := hw1.symm
  subst hw1
  go_wp2_with (simp only [haa, ht0])
  refine (rleast32 _).mono ?_
  rintro e w1 ⟨rfl, hw1⟩
  have hw1 := hw1.symm
  subst hw1
  go_wp2_with (simp only [haa, ht0])
  refine (rInf32 _).mono ?_
  rintro e w1 ⟨rfl, hw1⟩
  have hw1 := hw1.symm
  subst hw1
  go_wp2_with fail
  refine (HSg.out _).mono ?_
  rintro e w1 ⟨rfl, hw1⟩
  have hw1 := hw1.symm
  subst hw1
  go_wp2_with fail
  go_ret
  exact ⟨rfl, rfl⟩

end Go.Proofs.YtmkploknoohliaaGreat

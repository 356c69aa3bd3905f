/- divide, DivMod of any numbers. -/
import Derived.Test.YtanijhgmgldiiaaAA
namespace Go.Proofs.Ytanijhgmgldiiaa
open Go.RowKit
open M
set_option linter.unusedVariables false
set_option linter.unusedSimpArgs false

set_option maxRecDepth 100000 in
set_option maxHeartbeats 1000000 in
theorem divide_any {S S' : Nat → Prop} (v u : Value) (k A m C : Nat) (w : World) (h : RowX S w v k A) (h' : RowX S' w u m C) (hn : Nrm k A) (hn' : Nrm m C) (hC : 0 < C) (hkb : k ≤ 100000) :
    Calls Try.prog 37 #[v, u] w fun e w' => ∃ q r, e = .returned (.tuple #[q, r]) ∧ Parts w' q r A C ∧ Below w.heap.size w w' := by
  by_cases hlt : A < C
  · exact divide_less v u k A m C w h h' hn hn' hlt
  by_cases hm1 : m = 1
  · subst hm1
    exact divide_one v u k A C w h h' hn hn' (by omega)
  have hm2 : 2 ≤ m := by
    have : m ≠ 0 := fun e => by have := hn'.zero_iff.1 e; omega
    omega
  have hkm : m ≤ k := by
    rcases Nat.lt_or_ge k m with h1 | h1
    · have := hn.lt_of hn' h1; omega
    · exact h1
  have H := hide (And.intro h.row h'.row)
  have HN := hide (And.intro hn hn')
  have hcmp : ¬ cmpI A C < 0 := by rw [cmpI_neg]; omega
  have hm1' : ((m : Int) == 1) = false := by rw [beq_eq_false_iff_ne]; omega
  obtain ⟨_, _, adu, capu, rfl, _, _⟩ := h'
  clear h hn hn'
  go_enter Try.func37, Try.ntmps37
  go_wp2_with fail
  refine (compare_below v _ k A m C _ H.out.1 H.out.2 HN.out.1 HN.out.2).mono ?_
  rintro e w2 ⟨rfl, hb2⟩
  have HB2 := hide hb2
  clear hb2
  generalize cmpI A C = cc at *
  go_wp2_with fail
  refine (divideLong_any v _ k A (m - 2) C w2 (H.out.1.below HB2.out) m (by omega) (H.out.2.below HB2.out) HN.out.2 hkm hkb).mono ?_
  rintro e w3 ⟨q, r, rfl, hp, hb3⟩
  have H3 := hide (And.intro hp (HB2.out.trans (hb3.mono HB2.out.size)))
  clear hp hb3
  go_wp2_with fail
  go_ret2
  exact ⟨q, r, rfl, H3.out⟩

theorem DivMod_num {v u : Value} {A C : Nat} {w : World} (h : Num w v A) (h' : Num w u C) (hC : 0 < C) :
    Calls Try.prog 24 #[v, u] w fun e w' => ∃ q r, e = .returned (.tuple #[q, r, .int .i64 0]) ∧ Num w' q (A / C) ∧ Num w' r (A % C) ∧ Below w.heap.size w w' := by
  have hf := h.fits
  have hf' := h'.fits
  obtain ⟨k, h1, h2, h3⟩ := h
  obtain ⟨m, g1, g2, g3⟩ := h'
  refine (DivMod_of h1 h2 h3 g1 g2 g3 hC (divide_any v u k A m C w h1 g1 h2 g2 hC (by omega))).mono ?_
  rintro e w' ⟨q, r, he, ⟨mid, n1, n2, _, hq, hqn, _, hr, hrn⟩, hb⟩
  exact ⟨q, r, he, hq.num hqn (hf.le (Nat.div_le_self _ _)), hr.num hrn (hf'.le (Nat.le_of_lt (Nat.mod_lt _ hC))), hb⟩

set_option maxRecDepth 100000 in
theorem DivMod_zero {v u : Value} {A : Nat} {w : World} (h : Num w v A) (h' : Num w u 0) :
    Calls Try.prog 24 #[v, u] w fun e w' => e = .returned (.tuple #[.slice none 0 0, .slice none 0 0, .int .i64 23]) ∧ w' = w := by
  obtain ⟨k, h1, h2, h3⟩ := h
  obtain ⟨m, g1, g2, g3⟩ := h'
  have HC := hide (checkBoth_ok v u k A m 0 w h1 g1 h2 g2 h3 g3)
  obtain rfl : m = 0 := g2.zero_iff.2 rfl
  obtain ⟨_, _, ad', cap', rfl, _, _⟩ := g1
  clear h1 h2 g2
  go_enter Try.func24, Try.ntmps24
  go_wp2_with fail
  refine HC.out.mono ?_
  rintro e w1 ⟨rfl, rfl⟩
  go_wp2_with fail
  go_ret3
  exact ⟨rfl, rfl⟩

end Go.Proofs.Ytanijhgmgldiiaa

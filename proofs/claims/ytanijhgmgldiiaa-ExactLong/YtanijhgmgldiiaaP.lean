/- DivMod, of what divide tells (limb's P without Text). -/
import Derived.Test.YtanijhgmgldiiaaK
namespace Go.Proofs.Ytanijhgmgldiiaa
open Go.RowKit
open M
set_option linter.unusedVariables false
set_option linter.unusedSimpArgs false

/-- What DivMod tells. -/
def Divided (w : World) (base : Nat) (q r : Value) (A C : Nat) : Prop :=
  ∃ mid n1 n2, base ≤ mid ∧ Own w base q n1 (A / C) ∧ Nrm n1 (A / C) ∧ RowX (· < mid) w q n1 (A / C) ∧ Own w mid r n2 (A % C) ∧ Nrm n2 (A % C)

set_option maxRecDepth 100000 in
set_option maxHeartbeats 400000 in
theorem DivMod_of {v u : Value} {A C k m : Nat} {w : World} (h1 : Row w v k A) (h2 : Nrm k A) (h3 : k ≤ 8192) (g1 : Row w u m C) (g2 : Nrm m C) (g3 : m ≤ 8192) (hC : 0 < C)
    (hd : Calls Try.prog 37 #[v, u] w fun e w' => ∃ q r, e = .returned (.tuple #[q, r]) ∧ Parts w' q r A C ∧ Below w.heap.size w w') :
    Calls Try.prog 24 #[v, u] w fun e w' => ∃ q r, e = .returned (.tuple #[q, r, .int .i64 0]) ∧ Divided w' w.heap.size q r A C ∧ Below w.heap.size w w' := by
  have HC := hide (checkBoth_ok v u k A m C w h1 g1 h2 g2 h3 g3)
  have HD := hide hd
  have hm0 : ((m : Int) == 0) = false := by
    rw [beq_eq_false_iff_ne]
    intro e
    have := g2.zero_iff.1 (by omega)
    omega
  obtain ⟨_, _, ad', cap', rfl, _, _⟩ := g1
  clear h1 h2 g2 hd
  go_enter Try.func24, Try.ntmps24
  go_wp2_with fail
  refine HC.out.mono ?_
  rintro e w1 ⟨rfl, rfl⟩
  go_wp2_with fail
  refine HD.out.mono ?_
  rintro e w2 ⟨q, r, rfl, ⟨⟨n1, hq, hq'⟩, n2, hr, hr'⟩, hb2⟩
  have H2 := hide (And.intro (And.intro hq hr) (And.intro (And.intro hq' hr') hb2))
  clear hq hq' hr hr' hb2
  go_wp2_with fail
  refine (fresh_any q n1 (A / C) w2 H2.out.1.1).mono ?_
  rintro e w3 ⟨q3, rfl, ho3, hb3⟩
  have H3 := hide (And.intro ho3 hb3)
  clear ho3 hb3
  go_wp2_with fail
  refine (fresh_any r n2 (A % C) w3 (H2.out.1.2.below H3.out.2)).mono ?_
  rintro e w4 ⟨r4, rfl, ho4, hb4⟩
  have H4 : Hid (Divided w4 w1.heap.size q3 r4 A C ∧ Below w1.heap.size w1 w4) := by
    have hs2 := H2.out.2.2.size
    have hs3 := H3.out.2.size
    exact ⟨⟨w3.heap.size, n1, n2, by omega, (H3.out.1.below hb4).mono hs2, H2.out.2.1.1, RowX.below (Row.old H3.out.1.row) hb4, ho4, H2.out.2.1.2⟩, H2.out.2.2.trans ((H3.out.2.mono hs2).trans (hb4.mono (by omega)))⟩
  clear ho4 hb4
  go_wp2_with fail
  go_ret3
  exact ⟨_, _, rfl, H4.out⟩

end Go.Proofs.Ytanijhgmgldiiaa

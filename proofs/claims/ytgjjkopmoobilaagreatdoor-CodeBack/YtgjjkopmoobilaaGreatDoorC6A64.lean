/- Sizes (64 bits). -/
import Derived.Test.YtgjjkopmoobilaaGreatDoorC4B32
import Derived.Test.YtgjjkopmoobilaaGreatDoorC1A32
import Derived.ProofKit
import Derived.OpenShut
import Derived.Deep.Slices
import Derived.Lib.SmallJoins
import Derived.Deep.MidRow
import Derived.SizedLaws
import Derived.Test.YtgjjkopmoobilaaGreatDoorCards
import Derived.Test.YtgjjkopmoobilaaGreatDoorTie
import Derived.LaidMore
import Derived.Lay
import Derived.SevenTiedAt
import Derived.Deep.AppendLies
/- Best (32 bits). -/
namespace Go.Proofs.YtgjjkopmoobilaaGreatDoor
open Go.RowKit
open M
set_option linter.unusedVariables false
set_option linter.unusedSimpArgs false

/-- k is the best of the kinds up to q, bs its bytes. -/
structure Bst32 (n : Nat) (f : Nat → Nat) (q k : Nat) (bs : List Nat) : Prop where
  lo : 1 ≤ k
  hi : k ≤ q
  is : PackIs32 k n f bs
  least : ∀ k' bs', 1 ≤ k' → k' ≤ q → PackIs32 k' n f bs' → bs.length < bs'.length ∨ (bs.length = bs'.length ∧ k ≤ k')

/-- What Best tells. -/
def BestEnd32 (n : Nat) (f : Nat → Nat) (w : World) (e : Ending) (w' : World) : Prop :=
  ∃ (k : Nat) (p : Option Addr) (c : Nat) (bs : List Nat), e = .returned (.tuple #[.int .i64 (k : Int), .slice p bs.length c, .int .i64 0]) ∧ IsBy w' (.slice p bs.length c) bs ∧ (∀ n ∈ bs, n < 256) ∧ Bst32 n f 6 k bs ∧ Below w.heap.size w w'

set_option maxRecDepth 100000 in
theorem best32_any (p : Option Addr) (n cap : Nat) (f : Nat → Nat) (w : World) (h : URow32 w p n f) (hn : n ≤ 4096) (hcap : n ≤ cap) (hf : ∀ i, i < n → f i < 4294967296) (hT : Tab64 w) :
    Calls Tryz.prog 32 #[.slice p n cap] w (BestEnd32 n f w) := by
  have HAG := hide (fun k w1 (hk1 : 1 ≤ k) (hk6 : k ≤ 6) (hB : Below w.heap.size w w1) => cAgain32 k p n cap f w1 hk1 hk6 (h.below hB) hn hcap hf (hT.below hB))
  have HA1 := hide (cAgain32 1 p n cap f w (by omega) (by omega) h hn hcap hf hT)
  have HN1 : Hid (∀ w' e, AgainEnd32 1 n f w e w' → ∃ (pu : Option Addr) (cu : Nat) (bs : List Nat), e = .returned (.tuple #[.slice pu bs.length cu, .int .i64 0]) ∧ IsBy w' (.slice pu bs.length cu) bs ∧ (∀ n ∈ bs, n < 256) ∧ Below w.heap.size w w' ∧ Bst32 n f 1 1 bs) := fun w' e hE => by
    rcases hE with ⟨pu, cu, bs, h1, h2, h3, h4, h5, h6⟩ | ⟨_, _, h3⟩
    · refine ⟨pu, cu, bs, h1, h2, h3, h4, Nat.le_refl _, Nat.le_refl _, h5, fun k' bs' hk1 hk2 hP => ?_⟩
      obtain rfl : k' = 1 := by omega
      exact .inr ⟨by rw [h6 bs' hP], Nat.le_refl _⟩
    · exfalso
      by_cases h0 : n = 0
      · exact h3 [] ⟨hf, fun _ => rfl, fun h => by omega⟩
      · exact h3 _ ⟨hf, fun h => absurd h h0, fun _ => ⟨_, rfl, rfl⟩⟩
  clear h hf hT
  go_enter Tryz.func32, Tryz.ntmps32
  go_wp2_with fail
  refine HA1.out.mono ?_
  intro e w1 hE
  obtain ⟨pu, cu, bs, rfl, h2, h3, h4, h5⟩ := HN1.out w1 e hE
  have H1 := hide (And.intro h2 (And.intro h3 (And.intro h4 h5)))
  clear hE h2 h3 h4 h5 HN1 HA1
  go_wp2_with fail
  go_loopw [5, 6, 8] (fun t5 t6 t8 wr => ∃ (q k : Nat) (pu : Option Addr) (cu : Nat) (bs : List Nat), t8 = .int .i64 ((q : Int) + 1) ∧ t5 = .int .i64 (k : Int) ∧ t6 = .slice pu bs.length cu ∧ Hid (q ≤ 6 ∧ IsBy wr (.slice pu bs.length cu) bs ∧ (∀ n ∈ bs, n < 256) ∧ Bst32 n f q k bs ∧ Below w.heap.size w wr)) (fun _ _ t8 _ => 7 - (intOf t8).toNat)
  case atStart => exact ⟨1, 1, pu, cu, bs, rfl, rfl, rfl, by omega, H1.out.1, H1.out.2.1, H1.out.2.2.2, H1.out.2.2.1⟩
  case round =>
    obtain ⟨q, k, pu, cu, bs, rfl, rfl, rfl, hI⟩ := hrel
    by_cases hlt : q + 1 ≤ 6
    · have hle : (q : Int) + 1 ≤ 6 := by omega
      have HQ := hide (HAG.out (q + 1) wr (by omega) hlt hI.out.2.2.2.2)
      rw [show (((q + 1 : Nat)) : Int) = (q : Int) + 1 from by simp] at HQ
      go_wp2_with fail
      refine HQ.out.mono ?_
      intro e w2 hE
      rcases hE with ⟨pv, cv, bv, rfl, h2, h3, h4, h5, h6⟩ | ⟨rfl, h2, h3⟩
      · have HBB : Hid (Below w.heap.size w w2) := hI.out.2.2.2.2.trans (h4.mono hI.out.2.2.2.2.size)
        have HOLD : Hid (IsBy w2 (.slice pu bs.length cu) bs) := isBy_below hI.out.2.1 h4
        by_cases hl : bv.length < bs.length
        · have HN : Hid (Bst32 n f (q + 1) (q + 1) bv) := by
            refine ⟨by omega, Nat.le_refl _, h5, fun k' bs' hk1 hk2 hP => ?_⟩
            by_cases e : k' = q + 1
            · subst e; exact .inr ⟨by rw [h6 bs' hP], Nat.le_refl _⟩
            · rcases hI.out.2.2.2.1.least k' bs' hk1 (by omega) hP with h | h
              · exact .inl (by omega)
              · exact .inl (by omega)
          have HNB := hide (And.intro h2 h3)
          clear h2 h3 h4 h5 h6
          go_wp2_with fail
          go_roundw
          case rel => exact ⟨q + 1, q + 1, pv, cv, bv, by simp, by simp, by simp, hlt, HNB.out.1, HNB.out.2, HN.out, HBB.out⟩
          case measure => simp [intOf]; omega
        · have HN : Hid (Bst32 n f (q + 1) k bs) := by
            have B := hI.out.2.2.2.1
            refine ⟨B.lo, by have := B.hi; omega, B.is, fun k' bs' hk1 hk2 hP => ?_⟩
            by_cases e : k' = q + 1
            · subst e
              rw [h6 bs' hP]
              have := B.hi
              omega
            · exact B.least k' bs' hk1 (by omega) hP
          have H3 := hide hI.out.2.2.1
          clear h2 h3 h4 h5 h6 hI
          go_wp2_with fail
          go_roundw
          case rel => exact ⟨q + 1, k, pu, cu, bs, by simp, by simp, by simp, hlt, HOLD.out, H3.out, HN.out, HBB.out⟩
          case measure => simp [intOf]; omega
      · have HBB : Hid (Below w.heap.size w w2) := hI.out.2.2.2.2.trans (h2.mono hI.out.2.2.2.2.size)
        have HOLD : Hid (IsBy w2 (.slice pu bs.length cu) bs) := isBy_below hI.out.2.1 h2
        have HN : Hid (Bst32 n f (q + 1) k bs) := by
          have B := hI.out.2.2.2.1
          refine ⟨B.lo, by have := B.hi; omega, B.is, fun k' bs' hk1 hk2 hP => ?_⟩
          by_cases e : k' = q + 1
          · subst e; exact (h3 bs' hP).elim
          · exact B.least k' bs' hk1 (by omega) hP
        have H3 := hide hI.out.2.2.1
        clear h2 h3 hI
        go_wp2_with fail
        go_roundw
        case rel => exact ⟨q + 1, k, pu, cu, bs, by simp, by simp, by simp, hlt, HOLD.out, H3.out, HN.out, HBB.out⟩
        case measure => simp [intOf]; omega
    · have hq : q = 6 := by have := hI.out.1; omega
      subst hq
      have HFIN : Hid (BestEnd32 n f w (.returned (.tuple #[.int .i64 (k : Int), .slice pu bs.length cu, .int .i64 0])) wr) := ⟨k, pu, cu, bs, rfl, hI.out.2.1, hI.out.2.2.1, hI.out.2.2.2.1, hI.out.2.2.2.2⟩
      go_wp2_with fail
      go_ret3
      exact HFIN.out

end Go.Proofs.YtgjjkopmoobilaaGreatDoor

/- Unpack of any kind, asked for any number of values. -/
namespace Go.Proofs.YtgjjkopmoobilaaGreatDoor
open Go.RowKit
open M
set_option linter.unusedVariables false
set_option linter.unusedSimpArgs false

theorem unpackersE64_known (k : Nat) (h1 : 1 ≤ k) (h6 : k ≤ 6) : ∃ i v, Instr.findNow (.int .i64) (.int .i64 (k : Int)) unpackersE64.toList 0 = some (some (i, v)) := by
  obtain rfl | rfl | rfl | rfl | rfl | rfl : k = 1 ∨ k = 2 ∨ k = 3 ∨ k = 4 ∨ k = 5 ∨ k = 6 := by omega
  all_goals exact ⟨_, _, rfl⟩

set_option maxRecDepth 100000 in
theorem cUnpack64_none (k n : Int) (v : Value) (w : World) (h : k < 1 ∨ 6 < k) :
    Calls Tryz.prog 13 #[.int .i64 k, v, .int .i64 n] w fun e w' => e = .returned (.tuple #[.slice none 0 0, .int .i64 80]) ∧ Below w.heap.size w w' := by
  have hz : ∀ w1 : World, (zeroValue 73).run Tryz.prog w1 = .ok .nilFunc w1 := fun w1 => by kernel_rfl
  have hf : Instr.findNow (.int .i64) (.int .i64 k) unpackersE64.toList 0 = some none := by
    have e1 : (k == 1) = false := by rw [beq_eq_false_iff_ne]; omega
    have e2 : (k == 2) = false := by rw [beq_eq_false_iff_ne]; omega
    have e3 : (k == 3) = false := by rw [beq_eq_false_iff_ne]; omega
    have e4 : (k == 4) = false := by rw [beq_eq_false_iff_ne]; omega
    have e5 : (k == 5) = false := by rw [beq_eq_false_iff_ne]; omega
    have e6 : (k == 6) = false := by rw [beq_eq_false_iff_ne]; omega
    simp [unpackersE64, Instr.findNow, Instr.sameNow, e1, e2, e3, e4, e5, e6]
  clear h
  go_enter Tryz.func13, Tryz.ntmps13
  go_wp2_with fail
  refine (unpackers64_any w).mono ?_
  rintro e w1 ⟨rfl, b1, B1⟩
  have hl := run_none (P := Tryz.prog) (w := w1) _ _ _ _ _ _ k _ Tryz.underlying75 Tryz.underlying3 b1 hf (hz _)
  have HB := hide B1
  clear B1 b1 hf hz
  go_wp2_with fail
  go_ret2
  exact ⟨rfl, HB.out⟩

set_option maxRecDepth 100000 in
theorem cUnpack64_count (k : Nat) (n : Int) (v : Value) (w : World) (h1 : 1 ≤ k) (h6 : k ≤ 6) (hn : n < 0 ∨ 4096 < n) :
    Calls Tryz.prog 13 #[.int .i64 k, v, .int .i64 n] w fun e w' => e = .returned (.tuple #[.slice none 0 0, .int .i64 81]) ∧ Below w.heap.size w w' := by
  obtain ⟨i, u, hf⟩ := unpackersE64_known k h1 h6
  by_cases h0 : n < 0
  · clear hn
    go_enter Tryz.func13, Tryz.ntmps13
    go_wp2_with fail
    refine (unpackers64_any w).mono ?_
    rintro e w1 ⟨rfl, b1, B1⟩
    have hl := run_get (P := Tryz.prog) (w := w1) _ _ _ _ _ _ k _ _ Tryz.underlying75 Tryz.underlying3 b1 hf
    have HB := hide B1
    clear B1 b1 hf
    go_wp2_with fail
    go_ret2
    exact ⟨rfl, HB.out⟩
  · have h4 : 4096 < n := by omega
    clear hn
    go_enter Tryz.func13, Tryz.ntmps13
    go_wp2_with fail
    refine (unpackers64_any w).mono ?_
    rintro e w1 ⟨rfl, b1, B1⟩
    have hl := run_get (P := Tryz.prog) (w := w1) _ _ _ _ _ _ k _ _ Tryz.underlying75 Tryz.underlying3 b1 hf
    have HB := hide B1
    clear B1 b1 hf
    go_wp2_with fail
    go_ret2
    exact ⟨rfl, HB.out⟩

/-- What Unpack tells, of whatever. -/
def UAns64 (k n : Int) (bs : List Nat) (w : World) (e : Ending) (w' : World) : Prop :=
  (∃ c : Int, e = .returned (.tuple #[.slice none 0 0, .int .i64 c]) ∧ (c == 0) = false ∧ (c == 80) = decide (k < 1 ∨ 6 < k) ∧ Below w.heap.size w w') ∨
  ∃ (kk nn : Nat) (p : Option Addr) (cap : Nat) (f : Nat → Nat), k = (kk : Int) ∧ n = (nn : Int) ∧ 1 ≤ kk ∧ kk ≤ 6 ∧ nn ≤ 4096 ∧ e = .returned (.tuple #[.slice p nn cap, .int .i64 0]) ∧ nn ≤ cap ∧ URow64 w' p nn f ∧ PackIs64 kk nn f bs ∧ Below w.heap.size w w'

theorem unpack64_all (k n : Int) (v : Value) (bs : List Nat) (w : World) (hv : IsBy w v bs) (hb : ∀ n ∈ bs, n < 256) (hl : bs.length ≤ 1000000000000) (hT : Tab64 w) :
    Calls Tryz.prog 13 #[.int .i64 k, v, .int .i64 n] w (UAns64 k n bs w) := by
  by_cases hk : k < 1 ∨ 6 < k
  · refine (cUnpack64_none k n v w hk).mono ?_
    rintro e w' ⟨rfl, hB⟩
    exact .inl ⟨80, rfl, rfl, by rw [decide_eq_true hk]; rfl, hB⟩
  · obtain ⟨kk, rfl⟩ : ∃ kk : Nat, k = (kk : Int) := ⟨k.toNat, by omega⟩
    by_cases hn : n < 0 ∨ 4096 < n
    · refine (cUnpack64_count kk n v w (by omega) (by omega) hn).mono ?_
      rintro e w' ⟨rfl, hB⟩
      exact .inl ⟨81, rfl, rfl, by rw [decide_eq_false hk]; rfl, hB⟩
    · obtain ⟨nn, rfl⟩ : ∃ nn : Nat, n = (nn : Int) := ⟨n.toNat, by omega⟩
      refine (cUnpack64_any kk v bs nn w (by omega) (by omega) hv hb hl (by omega) hT).mono ?_
      rintro e w' (⟨rfl, hB, _⟩ | ⟨u, f, rfl, hU, hP, _⟩)
      · exact .inl ⟨83, rfl, rfl, by rw [decide_eq_false hk]; rfl, hB⟩
      · obtain ⟨p, cap, rfl, hcap, hrow⟩ := hU.row
        exact .inr ⟨kk, nn, p, cap, f, rfl, rfl, by omega, by omega, by omega, rfl, hcap, hrow, hP, hU.2.1⟩

/-- Pack of what was taken makes these bytes. -/
theorem again64_is (kk : Nat) (p : Option Addr) (nn cap : Nat) (f : Nat → Nat) (bs : List Nat) (w : World) (h1 : 1 ≤ kk) (h6 : kk ≤ 6) (h : URow64 w p nn f) (hn : nn ≤ 4096) (hcap : nn ≤ cap) (hP : PackIs64 kk nn f bs) (hT : Tab64 w) :
    Calls Tryz.prog 16 #[.int .i64 kk, .slice p nn cap] w fun e w' => ∃ (pu : Option Addr) (cu : Nat), e = .returned (.tuple #[.slice pu bs.length cu, .int .i64 0]) ∧ IsBy w' (.slice pu bs.length cu) bs ∧ Below w.heap.size w w' := by
  refine (cAgain64 kk p nn cap f w h1 h6 h hn hcap hP.1 hT).mono ?_
  rintro e w' (⟨pu, cu, b2, rfl, q2, _, q4, q5, q6⟩ | ⟨_, _, q3⟩)
  · obtain rfl := q6 bs hP
    exact ⟨pu, cu, rfl, q2, q4⟩
  · exact (q3 bs hP).elim

theorem unpackersE32_known (k : Nat) (h1 : 1 ≤ k) (h6 : k ≤ 6) : ∃ i v, Instr.findNow (.int .i64) (.int .i64 (k : Int)) unpackersE32.toList 0 = some (some (i, v)) := by
  obtain rfl | rfl | rfl | rfl | rfl | rfl : k = 1 ∨ k = 2 ∨ k = 3 ∨ k = 4 ∨ k = 5 ∨ k = 6 := by omega
  all_goals exact ⟨_, _, rfl⟩

set_option maxRecDepth 100000 in
theorem cUnpack32_none (k n : Int) (v : Value) (w : World) (h : k < 1 ∨ 6 < k) :
    Calls Tryz.prog 14 #[.int .i64 k, v, .int .i64 n] w fun e w' => e = .returned (.tuple #[.slice none 0 0, .int .i64 80]) ∧ Below w.heap.size w w' := by
  have hz : ∀ w1 : World, (zeroValue 78).run Tryz.prog w1 = .ok .nilFunc w1 := fun w1 => by kernel_rfl
  have hf : Instr.findNow (.int .i64) (.int .i64 k) unpackersE32.toList 0 = some none := by
    have e1 : (k == 1) = false := by rw [beq_eq_false_iff_ne]; omega
    have e2 : (k == 2) = false := by rw [beq_eq_false_iff_ne]; omega
    have e3 : (k == 3) = false := by rw [beq_eq_false_iff_ne]; omega
    have e4 : (k == 4) = false := by rw [beq_eq_false_iff_ne]; omega
    have e5 : (k == 5) = false := by rw [beq_eq_false_iff_ne]; omega
    have e6 : (k == 6) = false := by rw [beq_eq_false_iff_ne]; omega
    simp [unpackersE32, Instr.findNow, Instr.sameNow, e1, e2, e3, e4, e5, e6]
  clear h
  go_enter Tryz.func14, Tryz.ntmps14
  go_wp2_with fail
  refine (unpackers32_any w).mono ?_
  rintro e w1 ⟨rfl, b1, B1⟩
  have hl := run_none (P := Tryz.prog) (w := w1) _ _ _ _ _ _ k _ Tryz.underlying80 Tryz.underlying3 b1 hf (hz _)
  have HB := hide B1
  clear B1 b1 hf hz
  go_wp2_with fail
  go_ret2
  exact ⟨rfl, HB.out⟩

set_option maxRecDepth 100000 in
theorem cUnpack32_count (k : Nat) (n : Int) (v : Value) (w : World) (h1 : 1 ≤ k) (h6 : k ≤ 6) (hn : n < 0 ∨ 4096 < n) :
    Calls Tryz.prog 14 #[.int .i64 k, v, .int .i64 n] w fun e w' => e = .returned (.tuple #[.slice none 0 0, .int .i64 81]) ∧ Below w.heap.size w w' := by
  obtain ⟨i, u, hf⟩ := unpackersE32_known k h1 h6
  by_cases h0 : n < 0
  · clear hn
    go_enter Tryz.func14, Tryz.ntmps14
    go_wp2_with fail
    refine (unpackers32_any w).mono ?_
    rintro e w1 ⟨rfl, b1, B1⟩
    have hl := run_get (P := Tryz.prog) (w := w1) _ _ _ _ _ _ k _ _ Tryz.underlying80 Tryz.underlying3 b1 hf
    have HB := hide B1
    clear B1 b1 hf
    go_wp2_with fail
    go_ret2
    exact ⟨rfl, HB.out⟩
  · have h4 : 4096 < n := by omega
    clear hn
    go_enter Tryz.func14, Tryz.ntmps14
    go_wp2_with fail
    refine (unpackers32_any w).mono ?_
    rintro e w1 ⟨rfl, b1, B1⟩
    have hl := run_get (P := Tryz.prog) (w := w1) _ _ _ _ _ _ k _ _ Tryz.underlying80 Tryz.underlying3 b1 hf
    have HB := hide B1
    clear B1 b1 hf
    go_wp2_with fail
    go_ret2
    exact ⟨rfl, HB.out⟩

/-- What Unpack tells, of whatever. -/
def UAns32 (k n : Int) (bs : List Nat) (w : World) (e : Ending) (w' : World) : Prop :=
  (∃ c : Int, e = .returned (.tuple #[.slice none 0 0, .int .i64 c]) ∧ (c == 0) = false ∧ (c == 80) = decide (k < 1 ∨ 6 < k) ∧ Below w.heap.size w w') ∨
  ∃ (kk nn : Nat) (p : Option Addr) (cap : Nat) (f : Nat → Nat), k = (kk : Int) ∧ n = (nn : Int) ∧ 1 ≤ kk ∧ kk ≤ 6 ∧ nn ≤ 4096 ∧ e = .returned (.tuple #[.slice p nn cap, .int .i64 0]) ∧ nn ≤ cap ∧ URow32 w' p nn f ∧ PackIs32 kk nn f bs ∧ Below w.heap.size w w'

theorem unpack32_all (k n : Int) (v : Value) (bs : List Nat) (w : World) (hv : IsBy w v bs) (hb : ∀ n ∈ bs, n < 256) (hl : bs.length ≤ 1000000000000) (hT : Tab64 w) :
    Calls Tryz.prog 14 #[.int .i64 k, v, .int .i64 n] w (UAns32 k n bs w) := by
  by_cases hk : k < 1 ∨ 6 < k
  · refine (cUnpack32_none k n v w hk).mono ?_
    rintro e w' ⟨rfl, hB⟩
    exact .inl ⟨80, rfl, rfl, by rw [decide_eq_true hk]; rfl, hB⟩
  · obtain ⟨kk, rfl⟩ : ∃ kk : Nat, k = (kk : Int) := ⟨k.toNat, by omega⟩
    by_cases hn : n < 0 ∨ 4096 < n
    · refine (cUnpack32_count kk n v w (by omega) (by omega) hn).mono ?_
      rintro e w' ⟨rfl, hB⟩
      exact .inl ⟨81, rfl, rfl, by rw [decide_eq_false hk]; rfl, hB⟩
    · obtain ⟨nn, rfl⟩ : ∃ nn : Nat, n = (nn : Int) := ⟨n.toNat, by omega⟩
      refine (cUnpack32_any kk v bs nn w (by omega) (by omega) hv hb hl (by omega) hT).mono ?_
      rintro e w' (⟨rfl, hB, _⟩ | ⟨u, f, rfl, hU, hP, _⟩)
      · exact .inl ⟨83, rfl, rfl, by rw [decide_eq_false hk]; rfl, hB⟩
      · obtain ⟨p, cap, rfl, hcap, hrow⟩ := hU.row
        exact .inr ⟨kk, nn, p, cap, f, rfl, rfl, by omega, by omega, by omega, rfl, hcap, hrow, hP, hU.2.1⟩

/-- Pack of what was taken makes these bytes. -/
theorem again32_is (kk : Nat) (p : Option Addr) (nn cap : Nat) (f : Nat → Nat) (bs : List Nat) (w : World) (h1 : 1 ≤ kk) (h6 : kk ≤ 6) (h : URow32 w p nn f) (hn : nn ≤ 4096) (hcap : nn ≤ cap) (hP : PackIs32 kk nn f bs) (hT : Tab64 w) :
    Calls Tryz.prog 17 #[.int .i64 kk, .slice p nn cap] w fun e w' => ∃ (pu : Option Addr) (cu : Nat), e = .returned (.tuple #[.slice pu bs.length cu, .int .i64 0]) ∧ IsBy w' (.slice pu bs.length cu) bs ∧ Below w.heap.size w w' := by
  refine (cAgain32 kk p nn cap f w h1 h6 h hn hcap hP.1 hT).mono ?_
  rintro e w' (⟨pu, cu, b2, rfl, q2, _, q4, q5, q6⟩ | ⟨_, _, q3⟩)
  · obtain rfl := q6 bs hP
    exact ⟨pu, cu, rfl, q2, q4⟩
  · exact (q3 bs hP).elim

end Go.Proofs.YtgjjkopmoobilaaGreatDoor

/- What comes in: columns, bytes, numbers, and that a machine can hold them. -/
namespace Go.Proofs.YtgjjkopmoobilaaGreatDoor
open Go.ChangeShapes Go.WideShapes Go.Deep Go.Joins
open Go.RowKit (Below)
open M
set_option linter.unusedVariables false
set_option linter.unusedSimpArgs false

/-- An int64. -/
def I64 (x : Int) : Prop := -9223372036854775808 ≤ x ∧ x ≤ 9223372036854775807
/-- A slice of bytes. -/
def IsB (w : World) (v : Value) : Prop := ∃ p n cap bs, v = .slice p n cap ∧ (n ≤ 9223372036854775807 ∧ n ≤ cap) ∧ IsBy w (.slice p n cap) bs ∧ bs.length = n ∧ ∀ x ∈ bs, x < 256
/-- An int. -/
def IsN (w : World) (v : Value) : Prop := ∃ z : Int, v = .int .i64 z ∧ I64 z
theorem IsN.below {w w' : World} {v : Value} (h : IsN w v) (hB : Below w.heap.size w w') : IsN w' v := h
/-- A slice of bytes that a machine can hold. -/
def IsBs (w : World) (v : Value) : Prop := ∃ p n cap bs, v = .slice p n cap ∧ n ≤ 140737488355328 ∧ IsBy w (.slice p n cap) bs ∧ bs.length = n ∧ ∀ x ∈ bs, x < 256
theorem IsBs.below {w w' : World} {v : Value} (h : IsBs w v) (hB : Below w.heap.size w w') : IsBs w' v := by
  obtain ⟨p, n, cap, f, h1, h2, h3, h4⟩ := h
  exact ⟨p, n, cap, f, h1, h2, isBy_below h3 hB, h4⟩

/-- A slice of values of 64 bits that a machine can hold. -/
def IsU64 (w : World) (v : Value) : Prop := ∃ p n cap f, v = .slice p n cap ∧ n ≤ 140737488355328 ∧ n ≤ cap ∧ URow64 w p n f ∧ ∀ i, i < n → f i < 18446744073709551616
theorem IsU64.below {w w' : World} {v : Value} (h : IsU64 w v) (hB : Below w.heap.size w w') : IsU64 w' v := by
  obtain ⟨p, n, cap, f, h1, h2, h3, h4, h5⟩ := h
  exact ⟨p, n, cap, f, h1, h2, h3, h4.below hB, h5⟩

/-- A slice of values of 32 bits that a machine can hold. -/
def IsU32 (w : World) (v : Value) : Prop := ∃ p n cap f, v = .slice p n cap ∧ n ≤ 140737488355328 ∧ n ≤ cap ∧ URow32 w p n f ∧ ∀ i, i < n → f i < 4294967296
theorem IsU32.below {w w' : World} {v : Value} (h : IsU32 w v) (hB : Below w.heap.size w w') : IsU32 w' v := by
  obtain ⟨p, n, cap, f, h1, h2, h3, h4, h5⟩ := h
  exact ⟨p, n, cap, f, h1, h2, h3, h4.below hB, h5⟩

/-- A slice of things that are each S. -/
def RowsOf (S : World → Value → Prop) (w : World) (a : Option Addr) (n : Nat) : Prop :=
  n ≤ 9223372036854775807 ∧ (0 < n → ∃ b o, a = some ⟨b, o, none⟩ ∧ ∀ i, i < n → ∃ v, w.cell? ⟨b, o + i, none⟩ = some v ∧ S w v)

theorem RowsOf.below {S : World → Value → Prop} (hS : ∀ {w w' : World} {v : Value}, S w v → Below w.heap.size w w' → S w' v) {w w' : World} {a : Option Addr} {n : Nat} (h : RowsOf S w a n) (hB : Below w.heap.size w w') : RowsOf S w' a n :=
  ⟨h.1, fun h0 => by
    obtain ⟨b, o, ha, hc⟩ := h.2 h0
    refine ⟨b, o, ha, fun i hi => ?_⟩
    obtain ⟨v, h1, h2⟩ := hc i hi
    exact ⟨v, by rw [hB.cell (p := ⟨b, o + i, none⟩) (block_lt_of_cell h1)]; exact h1, hS h2 hB⟩⟩

theorem cells_one {w : World} {base : Nat} {a : Addr} {cs : List Value} (h : w.cells? base a 1 = some cs) : ∃ v, cs = [v] ∧ w.cell? a = some v := by
  unfold World.cells? at h
  split at h
  · have e : List.range 1 = [0] := rfl
    rw [e] at h
    simp only [List.mapM_cons, List.mapM_nil, Option.bind_eq_bind, Option.bind_eq_some_iff, Option.pure_def, Option.some.injEq] at h
    obtain ⟨a0, h0, l0, rfl, rfl⟩ := h
    exact ⟨a0, rfl, by simpa [Addr.add] using h0⟩
  · cases h

/-- A machine can hold it. -/
def Sz {H : Type} (ty : TypeId) (d : DataW H) : Prop := ∀ n ∈ d.weights Tryz.prog ty, n ≤ reachBytes

theorem weightsAll_in {H : Type} {P : Program} {e : TypeId} : ∀ {l : List (DataW H)} {d : DataW H}, d ∈ l → ∀ n ∈ d.weights P e, n ∈ DataW.weightsAll P e l
  | _ :: l, d, h, n, hn => by
    rcases List.mem_cons.1 h with rfl | h
    · simp only [DataW.weightsAll, List.mem_append]; exact Or.inl hn
    · simp only [DataW.weightsAll, List.mem_append]; exact Or.inr (weightsAll_in h n hn)

section
variable {H : Type} {enc : TypeId × Value → H} {w : World} {base : Nat} {spare : Nat → Bool} {held : Bool}

theorem open_rowsOf {S : World → Value → Prop} {ty el : TypeId} (hu : Tryz.prog.underlying ty = some (.slice el)) (h1 : Tryz.prog.cellsOf el = 1) (hS : ∀ {m : Nat} {u : Value} {y : DataW H × List MemPlace}, DataW.trod enc Tryz.prog w base spare held m el [u] = some y → S w u)
    {fuel : Nat} {v : Value} {y : DataW H × List MemPlace} (h : DataW.trod enc Tryz.prog w base spare held fuel ty [v] = some y) : ∃ a len cap, v = .slice a len cap ∧ len ≤ cap ∧ RowsOf S w a len := by
  rcases open_slice hu h with ⟨h0, _⟩ | ⟨ad, len, cap, mm, n', D, Pl, hcs, _, hlc, hcm, hmm, _, hx⟩
  · simp only [List.cons.injEq, and_true] at h0
    exact ⟨none, 0, 0, h0, Nat.le_refl _, by omega, fun h => by omega⟩
  · simp only [List.cons.injEq, and_true] at hcs
    unfold maxLen at hcm
    refine ⟨some ad, len, cap, hcs, hlc, by omega, fun h0 => ?_⟩
    have hlm : len ≤ mm := by rw [hmm]; split <;> omega
    have one : ∀ i, i < len → ∃ u, w.cell? (ad.add i) = some u ∧ S w u := by
      intro i hi
      obtain ⟨cs', hc, ht⟩ := hx i (by omega)
      rw [h1, Nat.mul_one] at hc
      obtain ⟨u, rfl, hcell⟩ := cells_one hc
      exact ⟨u, hcell, hS ht⟩
    obtain ⟨b, off, spot⟩ := ad
    obtain ⟨u0, h00, _⟩ := one 0 h0
    have hspot : spot = none := by simpa [Addr.add] using World.cell?_spot h00
    subst hspot
    refine ⟨b, off, rfl, fun j hj => ?_⟩
    obtain ⟨u, hu, hr⟩ := one j hj
    rw [Addr.add_mid] at hu
    exact ⟨u, hu, hr⟩

theorem open_n {m : Nat} {u : Value} {y : DataW H × List MemPlace} (h : DataW.trod enc Tryz.prog w base spare held m 3 [u] = some y) : IsN w u := by
  obtain ⟨z, e0, _, w0⟩ := DataW.trod_int Tryz.underlying3 h
  simp only [List.cons.injEq, and_true] at e0
  have b := bounds_i64 w0
  exact ⟨z, e0, by unfold I64; omega⟩

theorem open_n8 {m : Nat} {u : Value} {y : DataW H × List MemPlace} (h : DataW.trod enc Tryz.prog w base spare held m 5 [u] = some y) : ∃ q : Nat, u = .int .u8 (q : Int) ∧ q < 256 := by
  obtain ⟨z, e0, _, w0⟩ := DataW.trod_int Tryz.underlying5 h
  simp only [List.cons.injEq, and_true] at e0
  have b := bounds_u8 w0
  exact ⟨z.toNat, by rw [e0, Int.toNat_of_nonneg b.1], by omega⟩

theorem open_b {m : Nat} {u : Value} {y : DataW H × List MemPlace} (h : DataW.trod enc Tryz.prog w base spare held m 34 [u] = some y) : IsB w u := by
  rcases open_slice Tryz.underlying34 h with ⟨h0, _⟩ | _
  · simp only [List.cons.injEq, and_true] at h0
    exact ⟨none, 0, 0, [], h0, by omega, .inl (.inl ⟨rfl, rfl⟩), rfl, by simp⟩
  obtain ⟨a, len, cap, rfl, hlc, hl, hr⟩ := open_rowsOf (S := fun w v => ∃ q : Nat, v = .int .u8 (q : Int) ∧ q < 256) Tryz.underlying34 (by kernel_rfl) (fun h => open_n8 h) h
  by_cases h0 : len = 0
  · subst h0
    refine ⟨a, 0, cap, [], rfl, ⟨hl, hlc⟩, ?_, rfl, by simp⟩
    cases a with
    | none =>
      rcases open_slice Tryz.underlying34 h with ⟨h0, _⟩ | ⟨ad, len, cap, mm, n', D, Pl, hcs, _⟩
      · simp only [List.cons.injEq, and_true] at h0
        rw [h0]; exact .inl (.inl ⟨rfl, rfl⟩)
      · simp only [List.cons.injEq, and_true, Value.slice.injEq] at hcs
        cases hcs.1
    | some ad => exact .inr ⟨ad, cap, rfl, rfl⟩
  obtain ⟨b, o, ha, hc⟩ := hr (by omega)
  have : ∀ i, i < len → ∃ q : Nat, w.cell? ⟨b, o + i, none⟩ = some (.int .u8 (q : Int)) ∧ q < 256 := fun i hi => by
    obtain ⟨v, h1, q, rfl, h2⟩ := hc i hi
    exact ⟨q, h1, h2⟩
  obtain ⟨f, hf⟩ := choose_lt this
  have hll : ((List.range len).map f).length = len := by simp
  refine ⟨a, len, cap, (List.range len).map f, rfl, ⟨hl, hlc⟩, .inl (.inr ⟨b, o, cap, by rw [ha, hll], fun i hi => ?_⟩), hll, fun x hx => ?_⟩
  · rw [hll] at hi
    rw [(hf i hi).1]
    simp [List.getD, hi]
  · simp only [List.mem_map, List.mem_range] at hx
    obtain ⟨i, hi, rfl⟩ := hx
    exact (hf i hi).2

theorem open_rowsSz {S : World → Value → Prop} {ty el : TypeId} (hu : Tryz.prog.underlying ty = some (.slice el)) (h1 : Tryz.prog.cellsOf el = 1) (hS : ∀ {m : Nat} {u : Value} {y : DataW H × List MemPlace}, DataW.trod enc Tryz.prog w base spare held m el [u] = some y → Sz el y.1 → S w u)
    {fuel : Nat} {v : Value} {y : DataW H × List MemPlace} (h : DataW.trod enc Tryz.prog w base spare held fuel ty [v] = some y) (hz : Sz ty y.1) : ∃ a len cap, v = .slice a len cap ∧ len ≤ cap ∧ len * Tryz.prog.bytesOf el ≤ reachBytes ∧ RowsOf S w a len := by
  rcases open_slice hu h with ⟨h0, _⟩ | ⟨ad, len, cap, mm, n', D, Pl, hcs, _, hlc, hcm, hmm, hy, hx⟩
  · simp only [List.cons.injEq, and_true] at h0
    exact ⟨none, 0, 0, h0, Nat.le_refl _, by omega, by omega, fun h => by omega⟩
  · simp only [List.cons.injEq, and_true] at hcs
    unfold maxLen at hcm
    have hlm : len ≤ mm := by rw [hmm]; split <;> omega
    subst hy
    have hzz := hz
    unfold Sz at hzz
    simp only [DataW.weights, hu, List.length_map, List.length_range, List.mem_cons, List.mem_append] at hzz
    have hb : (len + (mm - len)) * Tryz.prog.bytesOf el ≤ reachBytes := hzz _ (Or.inl rfl)
    refine ⟨some ad, len, cap, hcs, hlc, Nat.le_trans (Nat.mul_le_mul_right _ (by omega)) hb, by omega, fun h0 => ?_⟩
    have one : ∀ i, i < len → ∃ u, w.cell? (ad.add i) = some u ∧ S w u := by
      intro i hi
      obtain ⟨cs', hc, ht⟩ := hx i (by omega)
      rw [h1, Nat.mul_one] at hc
      obtain ⟨u, rfl, hcell⟩ := cells_one hc
      refine ⟨u, hcell, hS ht fun n hn => hzz n (Or.inr (Or.inl ?_))⟩
      exact weightsAll_in (List.mem_map.2 ⟨i, List.mem_range.2 hi, rfl⟩) n hn
    obtain ⟨b, off, spot⟩ := ad
    obtain ⟨u0, h00, _⟩ := one 0 h0
    have hspot : spot = none := by simpa [Addr.add] using World.cell?_spot h00
    subst hspot
    refine ⟨b, off, rfl, fun j hj => ?_⟩
    obtain ⟨u, hu, hr⟩ := one j hj
    rw [Addr.add_mid] at hu
    exact ⟨u, hu, hr⟩

theorem open_bs {m : Nat} {u : Value} {y : DataW H × List MemPlace} (h : DataW.trod enc Tryz.prog w base spare held m 34 [u] = some y) (hz : Sz 34 y.1) : IsBs w u := by
  obtain ⟨p, n, cap, bs, rfl, _, h2, h3, h4⟩ := open_b h
  obtain ⟨a, len, cap', e, _, hb, _⟩ := open_rowsSz (S := fun _ _ => True) Tryz.underlying34 (by kernel_rfl) (fun _ _ => trivial) h hz
  have hb8 : Tryz.prog.bytesOf 5 = 1 := by kernel_rfl
  rw [hb8] at hb
  simp only [Value.slice.injEq] at e
  obtain ⟨_, rfl, _⟩ := e
  have := reachBytes_lt
  exact ⟨p, n, cap, bs, rfl, by omega, h2, h3, h4⟩


theorem open_v64 {m : Nat} {u : Value} {y : DataW H × List MemPlace} (h : DataW.trod enc Tryz.prog w base spare held m 39 [u] = some y) : ∃ q : Nat, u = .int .u64 (q : Int) ∧ q < 18446744073709551616 := by
  obtain ⟨z, e0, _, w0⟩ := DataW.trod_int Tryz.underlying39 h
  simp only [List.cons.injEq, and_true] at e0
  have b := bounds_u64 w0
  exact ⟨z.toNat, by rw [e0, Int.toNat_of_nonneg b.1], by omega⟩

theorem open_u64 {m : Nat} {u : Value} {y : DataW H × List MemPlace} (h : DataW.trod enc Tryz.prog w base spare held m 28 [u] = some y) (hz : Sz 28 y.1) : IsU64 w u := by
  obtain ⟨a, len, cap, rfl, hlc, hb, hl, hr⟩ := open_rowsSz (S := fun _ v => ∃ q : Nat, v = .int .u64 (q : Int) ∧ q < 18446744073709551616) Tryz.underlying28 (by kernel_rfl) (fun h _ => open_v64 h) h hz
  have hb8 : Tryz.prog.bytesOf 39 = 8 := by kernel_rfl
  rw [hb8] at hb
  have := reachBytes_lt
  by_cases h0 : len = 0
  · subst h0; exact ⟨a, 0, cap, fun _ => 0, rfl, by omega, hlc, URow64.nil _ _ _, fun i hi => by omega⟩
  obtain ⟨b, o, ha, hc⟩ := hr (by omega)
  have : ∀ i, i < len → ∃ q : Nat, w.cell? ⟨b, o + i, none⟩ = some (.int .u64 (q : Int)) ∧ q < 18446744073709551616 := fun i hi => by
    obtain ⟨v, h1, q, rfl, h2⟩ := hc i hi
    exact ⟨q, h1, h2⟩
  obtain ⟨f, hf⟩ := choose_lt this
  exact ⟨a, len, cap, f, rfl, by omega, hlc, fun _ => ⟨b, o, ha, fun i hi => (hf i hi).1⟩, fun i hi => (hf i hi).2⟩

theorem open_v32 {m : Nat} {u : Value} {y : DataW H × List MemPlace} (h : DataW.trod enc Tryz.prog w base spare held m 42 [u] = some y) : ∃ q : Nat, u = .int .u32 (q : Int) ∧ q < 4294967296 := by
  obtain ⟨z, e0, _, w0⟩ := DataW.trod_int Tryz.underlying42 h
  simp only [List.cons.injEq, and_true] at e0
  have b := bounds_u32 w0
  exact ⟨z.toNat, by rw [e0, Int.toNat_of_nonneg b.1], by omega⟩

theorem open_u32 {m : Nat} {u : Value} {y : DataW H × List MemPlace} (h : DataW.trod enc Tryz.prog w base spare held m 30 [u] = some y) (hz : Sz 30 y.1) : IsU32 w u := by
  obtain ⟨a, len, cap, rfl, hlc, hb, hl, hr⟩ := open_rowsSz (S := fun _ v => ∃ q : Nat, v = .int .u32 (q : Int) ∧ q < 4294967296) Tryz.underlying30 (by kernel_rfl) (fun h _ => open_v32 h) h hz
  have hb8 : Tryz.prog.bytesOf 42 = 4 := by kernel_rfl
  rw [hb8] at hb
  have := reachBytes_lt
  by_cases h0 : len = 0
  · subst h0; exact ⟨a, 0, cap, fun _ => 0, rfl, by omega, hlc, URow32.nil _ _ _, fun i hi => by omega⟩
  obtain ⟨b, o, ha, hc⟩ := hr (by omega)
  have : ∀ i, i < len → ∃ q : Nat, w.cell? ⟨b, o + i, none⟩ = some (.int .u32 (q : Int)) ∧ q < 4294967296 := fun i hi => by
    obtain ⟨v, h1, q, rfl, h2⟩ := hc i hi
    exact ⟨q, h1, h2⟩
  obtain ⟨f, hf⟩ := choose_lt this
  exact ⟨a, len, cap, f, rfl, by omega, hlc, fun _ => ⟨b, o, ha, fun i hi => (hf i hi).1⟩, fun i hi => (hf i hi).2⟩

theorem open_five {P : Program} {r : Reach} {b0 : Nat} {t : TypeId} {f0 f1 f2 f3 f4 : Field} {v : Value} {d : DataW H} {p : List MemPlace} (hs : P.underlying t = some (.struct #[f0, f1, f2, f3, f4])) (hone : oneCellFields P #[f0, f1, f2, f3, f4] = true) (hC : P.cellsOf t = 5)
    (hv : Value.okWide P w r b0 t v) (h : DataW.Trod enc P w base spare held t v d p) :
    ∃ (v0 v1 v2 v3 v4 : Value) (y0 y1 y2 y3 y4 : DataW H × List MemPlace) (n : Nat), v = .agg #[v0, v1, v2, v3, v4] ∧ d = .agg [y0.1, y1.1, y2.1, y3.1, y4.1] ∧
      DataW.trod enc P w base spare held n f0.type [v0] = some y0 ∧ DataW.trod enc P w base spare held n f1.type [v1] = some y1 ∧ DataW.trod enc P w base spare held n f2.type [v2] = some y2 ∧ DataW.trod enc P w base spare held n f3.type [v3] = some y3 ∧ DataW.trod enc P w base spare held n f4.type [v4] = some y4 := by
  obtain ⟨cs, rfl, hsz⟩ := okWide_struct hs hv
  obtain ⟨fuel, hf⟩ := h
  obtain ⟨l⟩ := cs
  match l, hsz.trans hC with
  | [c0, c1, c2, c3, c4], _ =>
    obtain ⟨xs, n, _, hx, _, hlen, hff⟩ := DataW.trod_struct hs hf
    obtain ⟨o0, k0⟩ := hone_of hone 0 f0 rfl
    obtain ⟨o1, k1⟩ := hone_of hone 1 f1 rfl
    obtain ⟨o2, k2⟩ := hone_of hone 2 f2 rfl
    obtain ⟨o3, k3⟩ := hone_of hone 3 f3 rfl
    obtain ⟨o4, k4⟩ := hone_of hone 4 f4 rfl
    match xs, hlen with
    | [y0, y1, y2, y3, y4], _ =>
      simp only [Prod.mk.injEq] at hx
      exact ⟨c0, c1, c2, c3, c4, y0, y1, y2, y3, y4, n, rfl, by simpa using hx.1, by simpa [Value.cells, o0, k0] using hff 0 f0 rfl, by simpa [Value.cells, o1, k1] using hff 1 f1 rfl, by simpa [Value.cells, o2, k2] using hff 2 f2 rfl, by simpa [Value.cells, o3, k3] using hff 3 f3 rfl, by simpa [Value.cells, o4, k4] using hff 4 f4 rfl⟩

set_option maxRecDepth 100000 in
theorem open_columns8 {r : Reach} {b0 : Nat} {v : Value} {d : DataW H} {p : List MemPlace} (hv : Value.okWide Tryz.prog w r b0 27 v) (h : DataW.Trod enc Tryz.prog w base spare held 27 v d p) (hz : Sz 27 d) :
    ∃ aW nW cW aR nR cR aB nB cB aN nN cN aK nK cK, v = .agg #[.slice aW nW cW, .slice aR nR cR, .slice aB nB cB, .slice aN nN cN, .slice aK nK cK] ∧ RowsOf IsU64 w aW nW ∧ RowsOf IsU32 w aR nR ∧ RowsOf IsBs w aB nB ∧ RowsOf IsN w aN nN ∧ RowsOf IsN w aK nK := by
  obtain ⟨v0, v1, v2, v3, v4, y0, y1, y2, y3, y4, n, rfl, hd, h0, h1, h2, h3, h4⟩ := open_five Tryz.underlying27 (by kernel_rfl) (by kernel_rfl) hv h
  subst hd
  have z0 : Sz 22 y0.1 := fun n hn => hz n (by
    simp only [DataW.weights, Tryz.underlying27]
    exact DataW.weights_mem_each (j := 0) rfl rfl n hn)
  have z1 : Sz 23 y1.1 := fun n hn => hz n (by
    simp only [DataW.weights, Tryz.underlying27]
    exact DataW.weights_mem_each (j := 1) rfl rfl n hn)
  have z2 : Sz 24 y2.1 := fun n hn => hz n (by
    simp only [DataW.weights, Tryz.underlying27]
    exact DataW.weights_mem_each (j := 2) rfl rfl n hn)
  obtain ⟨aW, nW, cW, rfl, _, _, hW⟩ := open_rowsSz (S := IsU64) Tryz.underlying22 (by kernel_rfl) (fun h hz => open_u64 h hz) h0 z0
  obtain ⟨aR, nR, cR, rfl, _, _, hR⟩ := open_rowsSz (S := IsU32) Tryz.underlying23 (by kernel_rfl) (fun h hz => open_u32 h hz) h1 z1
  obtain ⟨aB, nB, cB, rfl, _, _, hB⟩ := open_rowsSz (S := IsBs) Tryz.underlying24 (by kernel_rfl) (fun h hz => open_bs h hz) h2 z2
  obtain ⟨aN, nN, cN, rfl, _, hN⟩ := open_rowsOf (S := IsN) Tryz.underlying25 (by kernel_rfl) (fun h => open_n h) h3
  obtain ⟨aK, nK, cK, rfl, _, hK⟩ := open_rowsOf (S := IsN) Tryz.underlying25 (by kernel_rfl) (fun h => open_n h) h4
  exact ⟨aW, nW, cW, aR, nR, cR, aB, nB, cB, aN, nN, cN, aK, nK, cK, rfl, hW, hR, hB, hN, hK⟩
end
end Go.Proofs.YtgjjkopmoobilaaGreatDoor

/- The library's table, as the card ties it. -/
namespace Go.Proofs.YtgjjkopmoobilaaGreatDoor
open Go.ChangeShapes Go.WideShapes Go.ChangeAt Go.RowKit
open M
set_option linter.unusedVariables false

def laidTab : List (String × DataW Unit) := [("math/bits.deBruijn64tab", Rows.laid_math_bits_deBruijn64tab)]

theorem gTab : Tryz.prog.globalNamed "math/bits.deBruijn64tab" = some 1 := by kernel_rfl
theorem tTab : (Tryz.prog.globals[1]?).map (·.type) = some 217 := by kernel_rfl
theorem cells8 : Tryz.prog.cellsOf 5 = 1 := by kernel_rfl

theorem tab_list {H : Type} : (Rows.laid_math_bits_deBruijn64tab : DataW H) = .agg (Lib.deBruijn64tab.map fun n : Nat => .lit (.int .u8 (n : Int))) := rfl

theorem tab_of_laid {W : World} (h : laidMetH Tryz.prog laidTab W) : Tab64 W := by
  rw [MakeChecks.laidMetH_plain _ _ _ (by kernel_rfl)] at h
  obtain ⟨ps, ⟨g, t, cs, fuel, p, q, hg, ht, hv, hd, _, _⟩, _, _⟩ := h
  obtain rfl := Option.some.inj (gTab.symm.trans hg)
  obtain rfl := Option.some.inj (tTab.symm.trans ht)
  obtain ⟨xs, m, _, ex, hlen, hl, hel⟩ := DataW.trod_array Tryz.underlying217 hd
  rw [tab_list] at ex
  have ex2 := DataW.agg.inj (Prod.mk.inj ex).1
  intro j hj
  rw [World.var?_cell gTab hv j]
  have hjx : j < xs.length := by omega
  have k := hel j hj
  rw [cells8, Nat.mul_one, List.getElem?_eq_getElem hjx] at k
  obtain ⟨z, a, b, _⟩ := DataW.trod_int Tryz.underlying5 k
  have hz : (Lib.deBruijn64tab.map fun n : Nat => (.lit (.int .u8 (n : Int)) : DataW Unit))[j]? = some (.lit (.int .u8 z)) := by
    rw [ex2, List.getElem?_map, List.getElem?_eq_getElem hjx, Option.map_some, b]
  have hjt : j < Lib.deBruijn64tab.length := hj
  rw [List.getElem?_map, List.getElem?_eq_getElem hjt, Option.map_some] at hz
  simp only [Option.some.injEq, DataW.lit.injEq, Lit.int.injEq, true_and] at hz
  have hc : cs.toList[j]? = some (.int .u8 z) := by
    have := congrArg (·[0]?) a
    simpa [List.getElem?_take, List.getElem?_drop] using this
  have hg2 : Lib.deBruijn64tab.getD j 0 = Lib.deBruijn64tab[j] := by simp [List.getD, List.getElem?_eq_getElem hjt]
  rw [hg2, hz, ← hc]
  simp

end Go.Proofs.YtgjjkopmoobilaaGreatDoor

namespace Go.Proofs.YtgjjkopmoobilaaGreatDoor
open Go.RowKit
open M
set_option linter.unusedVariables false
set_option linter.unusedSimpArgs false

/-- How many bytes a kind needs, -1 where it has none. -/
def szI64 (f : Nat → Nat) (n k : Nat) : Int := if n = 0 then 0 else match codeO64 k f n with
  | some l => ((packed l).length : Int)
  | none => -1

theorem szI64_is {f : Nat → Nat} {n k : Nat} {bs : List Nat} (h : PackIs64 k n f bs) : szI64 f n k = (bs.length : Int) := by
  unfold szI64
  split
  · rename_i h0; rw [h.2.1 h0]; rfl
  · rename_i h0
    obtain ⟨l, h1, h2⟩ := h.2.2 (by omega)
    rw [h1, ← h2]

theorem szI64_no {f : Nat → Nat} {n k : Nat} (hf : ∀ i, i < n → f i < 18446744073709551616) (h : ∀ bs, PackIs64 k n f bs → False) : szI64 f n k = -1 := by
  unfold szI64
  split
  · rename_i h0; exact (h [] ⟨hf, fun _ => rfl, fun h => by omega⟩).elim
  · rename_i h0
    cases ho : codeO64 k f n with
    | none => rfl
    | some l => exact (h _ ⟨hf, fun h => absurd h h0, fun _ => ⟨l, ho, rfl⟩⟩).elim

def szV64 (f : Nat → Nat) (n q : Nat) : List Value := (List.range q).map fun j => .int .i64 (szI64 f n (j + 1))
theorem szV64_succ (f : Nat → Nat) (n q : Nat) : szV64 f n (q + 1) = szV64 f n q ++ [.int .i64 (szI64 f n (q + 1))] := by simp [szV64, List.range_succ]

theorem infoIC64 : ∃ i5, Tryz.prog.info? 3 = some i5 ∧ i5.zero = some (.int .i64 0) ∧ i5.size = 1 ∧ i5.bytes = 8 := by
  have hz : (Tryz.prog.info? 3).bind (·.zero) = some (.int .i64 0) := by kernel_rfl
  have hs : (Tryz.prog.info? 3).map (·.size) = some 1 := by kernel_rfl
  have hb : (Tryz.prog.info? 3).map (·.bytes) = some 8 := by kernel_rfl
  cases hi : Tryz.prog.info? 3 with
  | none => simp [hi] at hs
  | some i5 =>
    simp only [hi, Option.bind_some, Option.map_some, Option.some.injEq] at hz hs hb
    exact ⟨i5, rfl, hz, hs, hb⟩

theorem sizes64_many (p : Option Addr) (n cap : Nat) (w : World) (hn : 4096 < n) : Calls Tryz.prog 26 #[.slice p n cap] w fun e w' => e = .returned (.tuple #[.slice none 0 0, .int .i64 81]) ∧ w' = w := by
  go_enter Tryz.func26, Tryz.ntmps26
  go_wp2_with fail
  go_ret2
  exact ⟨rfl, rfl⟩

set_option maxRecDepth 100000 in
set_option maxHeartbeats 1000000 in
theorem sizes64_any (p : Option Addr) (n cap : Nat) (f : Nat → Nat) (w : World) (h : URow64 w p n f) (hn : n ≤ 4096) (hcap : n ≤ cap) (hf : ∀ i, i < n → f i < 18446744073709551616) (hT : Tab64 w) :
    Calls Tryz.prog 26 #[.slice p n cap] w fun e w' => ∃ v, e = .returned (.tuple #[v, .int .i64 0]) ∧ w'.ownsRow w.heap.size 3 1 v 6 (szV64 f n 6) ∧ Below w.heap.size w w' := by
  have HAG := hide (fun k w1 (hk1 : 1 ≤ k) (hk6 : k ≤ 6) (hB : Below w.heap.size w w1) => cAgain64 k p n cap f w1 hk1 hk6 (h.below hB) hn hcap hf (hT.below hB))
  have HFF := hide hf
  obtain ⟨i5, Hi⟩ := infoIC64
  have HI5 := hide Hi
  have H0 : Hid ((w.alloc (.cells #[] 3)).ownsRow w.heap.size 3 1 (.slice (some ⟨w.heap.size, 0, none⟩) 0 0) 0 (szV64 f n 0) ∧ Below w.heap.size w (w.alloc (.cells #[] 3))) := by
    refine ⟨?_, (Below.refl _ w).alloc (Nat.le_refl _) _⟩
    have := World.ownsRow_made (base := w.heap.size) (e := 3) (size := 1) w #[] 0 (Nat.le_refl _) (by have : maxLen = 9223372036854775807 := rfl; omega) (by simp)
    exact this
  clear h hf hT Hi
  go_enter Tryz.func26, Tryz.ntmps26
  go_upto_region 4 with fail
  generalize w.alloc (.cells #[] 3) = w0 at *
  go_wp2_with fail
  go_loopw [4, 5] (fun t4 t5 wr => ∃ (q : Nat) (pu : Option Addr) (cu : Nat), t5 = .int .i64 ((q : Int) + 1) ∧ t4 = .slice pu q cu ∧ Hid (q ≤ 6 ∧ wr.ownsRow w.heap.size 3 1 (.slice pu q cu) q (szV64 f n q) ∧ Below w.heap.size w wr)) (fun _ t5 _ => 7 - (intOf t5).toNat)
  case atStart => exact ⟨0, _, 0, rfl, rfl, by omega, H0.out.1, H0.out.2⟩
  case round =>
    obtain ⟨q, pu, cu, rfl, rfl, hI⟩ := hrel
    by_cases hlt : q + 1 ≤ 6
    · have hle : (q : Int) + 1 ≤ 6 := by omega
      have HQ := hide (HAG.out (q + 1) wr (by omega) hlt hI.out.2.2)
      rw [show (((q + 1 : Nat)) : Int) = (q : Int) + 1 from by simp] at HQ
      go_wp2_with fail
      refine HQ.out.mono ?_
      intro e w2 hE
      rcases hE with ⟨pv, cv, bv, rfl, h2, h3, h4, h5, h6⟩ | ⟨rfl, h4, h3⟩
      · have HBB : Hid (Below w.heap.size w w2) := hI.out.2.2.trans (h4.mono hI.out.2.2.size)
        have HOWN : Hid (w2.ownsRow w.heap.size 3 1 (.slice pu q cu) q (szV64 f n q)) := ownsRow_keepC64 hI.out.2.1 (fun g _ hg => h4.block g hg)
        have HSZ : Hid (szI64 f n (q + 1) = (bv.length : Int)) := szI64_is h5
        have hs2 : w.heap.size ≤ (w2.alloc (.cells #[.int .i64 (bv.length : Int)] 3)).heap.size := by have := HBB.out.size; simp; omega
        clear h2 h3 h4 h5 h6 hI
        go_wp2_with (at_builtin; refine wpList_append_lies _ rfl _ _ _ rfl w.heap.size 3 i5 (.int .i64 0) 1 8 Tryz.underlying25 HI5.out.1 HI5.out.2.1 HI5.out.2.2.1 HI5.out.2.2.2 rfl (by decide) (.slice pu q cu) q (szV64 f n q) rfl (HOWN.out.alloc _) ⟨w2.heap.size, 0, none⟩ 1 1 [.int .i64 (bv.length : Int)] rfl rfl (fun j u hj => cell_new164 w2 _ 3 j u hj) (fun u hu => by simp at hu; subst hu; rfl) (by omega) (by have : maxLen = 9223372036854775807 := rfl; omega) (by omega) hs2 _ rfl ?_; intro g6 cap6 w6 hown6 hgrow6 hat6 hlt6)
        have HS6 : Hid (w6.ownsRow w.heap.size 3 1 (.slice (some ⟨g6, 0, none⟩) (q + 1) cap6) (q + 1) (szV64 f n (q + 1)) ∧ Below w.heap.size w w6) := by
          have hB6 : Below w.heap.size (w2.alloc (.cells #[.int .i64 (bv.length : Int)] 3)) w6 := grown_below64 hgrow6 (fun g hg => (HOWN.out.lt g hg).1) hs2
          refine ⟨?_, (HBB.out.alloc (by have := HBB.out.size; omega) _).trans hB6⟩
          rw [szV64_succ, HSZ.out]; exact hown6
        clear hown6 hgrow6 hat6 hlt6
        go_wp2_with fail
        go_roundw
        case rel => exact ⟨q + 1, some ⟨g6, 0, none⟩, cap6, by simp, rfl, hlt, HS6.out.1, HS6.out.2⟩
        case measure => simp [intOf]; omega
      · have HBB : Hid (Below w.heap.size w w2) := hI.out.2.2.trans (h4.mono hI.out.2.2.size)
        have HOWN : Hid (w2.ownsRow w.heap.size 3 1 (.slice pu q cu) q (szV64 f n q)) := ownsRow_keepC64 hI.out.2.1 (fun g _ hg => h4.block g hg)
        have HSZ : Hid (szI64 f n (q + 1) = -1) := szI64_no HFF.out h3
        have hs2 : w.heap.size ≤ (w2.alloc (.cells #[.int .i64 (-1)] 3)).heap.size := by have := HBB.out.size; simp; omega
        clear h3 h4 hI
        go_wp2_with (at_builtin; refine wpList_append_lies _ rfl _ _ _ rfl w.heap.size 3 i5 (.int .i64 0) 1 8 Tryz.underlying25 HI5.out.1 HI5.out.2.1 HI5.out.2.2.1 HI5.out.2.2.2 rfl (by decide) (.slice pu q cu) q (szV64 f n q) rfl (HOWN.out.alloc _) ⟨w2.heap.size, 0, none⟩ 1 1 [.int .i64 (-1)] rfl rfl (fun j u hj => cell_new164 w2 _ 3 j u hj) (fun u hu => by simp at hu; subst hu; rfl) (by omega) (by have : maxLen = 9223372036854775807 := rfl; omega) (by omega) hs2 _ rfl ?_; intro g6 cap6 w6 hown6 hgrow6 hat6 hlt6)
        have HS6 : Hid (w6.ownsRow w.heap.size 3 1 (.slice (some ⟨g6, 0, none⟩) (q + 1) cap6) (q + 1) (szV64 f n (q + 1)) ∧ Below w.heap.size w w6) := by
          have hB6 : Below w.heap.size (w2.alloc (.cells #[.int .i64 (-1)] 3)) w6 := grown_below64 hgrow6 (fun g hg => (HOWN.out.lt g hg).1) hs2
          refine ⟨?_, (HBB.out.alloc (by have := HBB.out.size; omega) _).trans hB6⟩
          rw [szV64_succ, HSZ.out]; exact hown6
        clear hown6 hgrow6 hat6 hlt6
        go_wp2_with fail
        go_roundw
        case rel => exact ⟨q + 1, some ⟨g6, 0, none⟩, cap6, by simp, rfl, hlt, HS6.out.1, HS6.out.2⟩
        case measure => simp [intOf]; omega
    · have hq : q = 6 := by have := hI.out.1; omega
      subst hq
      go_wp2_with fail
      go_ret2
      exact ⟨_, rfl, hI.out.2.1, hI.out.2.2⟩

end Go.Proofs.YtgjjkopmoobilaaGreatDoor

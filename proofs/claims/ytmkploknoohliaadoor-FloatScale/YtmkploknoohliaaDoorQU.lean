/- FloatScale: what comes in, both Splits, its walk. -/
import Derived.Test.YtmkploknoohliaaDoorQT
import Derived.Test.YtmkploknoohliaaDoorRows
import Derived.ProofKit
import Derived.OpenShut
import Derived.Deep.Slices
import Derived.Lib.SmallJoins
import Derived.Deep.MidRow
import Derived.Deep.Strs
import Derived.LaidMore
import Derived.Lay
namespace Go.Proofs.YtmkploknoohliaaDoor
open Go.RowKit
open Flt
set_option linter.unusedVariables false
set_option linter.unusedSimpArgs false

theorem split_both (b : Nat) (hb : b < 18446744073709551616) : ∃ (s : Bool) (m : Nat) (z : Int) (k : Bool),
    (∀ w : World, Tab64 w → Calls Tryd.prog 4 #[.int .u64 b] w fun e w' => e = .returned (.tuple #[.bool s, .int .u64 (m : Int), .int .i64 z, .bool k]) ∧ Below w.heap.size w w') ∧
    (∀ w : World, Calls Tryd.prog 5 #[.int .u64 b] w fun e w' => e = .returned (.tuple #[.bool s, .int .u64 (m : Int), .int .i64 z, .bool k]) ∧ Below w.heap.size w w') := by
  by_cases hf : b % 9223372036854775808 < 9218868437227405312
  · by_cases hz : b % 9223372036854775808 = 0
    · refine ⟨_, 0, 0, true, fun w _ => ?_, fun w => rSplit_zero b w hb hz⟩
      refine (Split_zero b w hb hz).mono ?_
      rintro e w' ⟨rfl, rfl⟩
      exact ⟨rfl, Below.refl _ _⟩
    · have hV : 0 < V Ieee.double (b % 9223372036854775808) := by rw [← V_zero Ieee.double]; exact V_lt (by omega)
      obtain ⟨c, hc, _⟩ := Lib.ctzFrom_spec _ _ hV (Nat.lt_log2_self (n := V Ieee.double (b % 9223372036854775808)))
      have hxq : (2 * c + 1) * 2 ^ (Lib.ctzFrom ((V Ieee.double (b % 9223372036854775808)).log2 + 1) (V Ieee.double (b % 9223372036854775808))) = V Ieee.double (b % 9223372036854775808) := by rw [Nat.mul_comm]; exact hc.symm
      generalize Lib.ctzFrom ((V Ieee.double (b % 9223372036854775808)).log2 + 1) (V Ieee.double (b % 9223372036854775808)) = q at *
      refine ⟨_, 2 * c + 1, _, true, fun w hT => ?_, fun w => rSplit_num b (2 * c + 1) q w hb hf (by omega) hxq⟩
      refine (Split_num b w hb (by omega) hf hT).mono ?_
      rintro e w' ⟨x', q', rfl, h1, h2, h3⟩
      obtain ⟨e1, e2⟩ := odd_uniq h1 (show (2 * c + 1) % 2 = 1 by omega) (h2.trans hxq.symm)
      rw [e1, e2]
      exact ⟨rfl, h3⟩
  · refine ⟨false, 0, 0, false, fun w _ => ?_, fun w => ?_⟩
    · refine (Split_bad b w hb hf).mono ?_
      rintro e w' ⟨rfl, rfl⟩
      exact ⟨rfl, Below.refl _ _⟩
    · refine (rSplit_bad b w hb hf).mono ?_
      rintro e w' ⟨rfl, rfl⟩
      exact ⟨rfl, Below.refl _ _⟩

open Go.ChangeShapes Go.WideShapes Go.Deep Go.Joins
theorem list2' {α : Type} {l : List α} (h : l.length = 2) : ∃ a b, l = [a, b] := by
  match l, h with
  | [a, b], _ => exact ⟨a, b, rfl⟩
theorem cells_some {w : World} {base : Nat} {a : Addr} {k : Nat} {cs : List Value} (h : w.cells? base a k = some cs) : (List.range k).mapM (fun j => w.cell? (a.add j)) = some cs := by
  unfold World.cells? at h
  split at h
  · exact h
  · cases h
def IsShifts (w : World) (a : Option Addr) (len : Nat) : Prop :=
  len ≤ 9223372036854775807 ∧ (0 < len → ∃ g o, a = some ⟨g, o, none⟩ ∧ g < w.heap.size ∧ ∀ i, i < len → ∃ (A : Nat) (B : Int), A < 18446744073709551616 ∧ (-9223372036854775808 ≤ B ∧ B ≤ 9223372036854775807) ∧ w.cell? ⟨g, o + i * 2, none⟩ = some (.int .u64 (A : Int)) ∧ w.cell? ⟨g, o + i * 2 + 1, none⟩ = some (.int .i64 B))

theorem cells_shift : Tryd.prog.cellsOf 27 = 2 := by kernel_rfl

section
variable {H : Type} {enc : TypeId × Value → H} {w : World} {base : Nat} {spare : Nat → Bool} {held : Bool}
theorem shift_cells {n : Nat} {cs : List Value} {y : DataW H × List MemPlace} (h : DataW.trod enc Tryd.prog w base spare held n 27 cs = some y) :
    ∃ (A : Nat) (B : Int), cs = [.int .u64 (A : Int), .int .i64 B] ∧ A < 18446744073709551616 ∧ (-9223372036854775808 ≤ B ∧ B ≤ 9223372036854775807) := by
  obtain ⟨y0, y1, k, hx, hl, h0, h1⟩ := trod_struct2 Tryd.underlying27 h
  have cu : Tryd.prog.cellsOf 23 = 1 := by kernel_rfl
  have ci : Tryd.prog.cellsOf 3 = 1 := by kernel_rfl
  rw [cells_shift] at hl
  obtain ⟨v0, v1, rfl⟩ := list2' hl
  simp only [cu, ci, List.drop_zero, List.drop_succ_cons, List.take_succ_cons, List.take_zero] at h0 h1
  obtain ⟨d0, e0, _, w0⟩ := DataW.trod_int Tryd.underlying23 h0
  have b0 := bounds_u64 w0
  obtain ⟨d1, e1, _, w1⟩ := DataW.trod_int Tryd.underlying3 h1
  have b1 := bounds_i64 w1
  simp only [List.cons.injEq, and_true] at e0 e1
  subst e0 e1
  refine ⟨d0.toNat, d1, ?_, by omega, by omega⟩
  rw [Int.toNat_of_nonneg b0.1]

theorem open_shift {fuel : Nat} {v : Value} {y : DataW H × List MemPlace} (h : DataW.trod enc Tryd.prog w base spare held fuel 22 [v] = some y) : ∃ a len cap, v = .slice a len cap ∧ IsShifts w a len := by
  rcases open_slice Tryd.underlying22 h with ⟨h0, _⟩ | ⟨ad, len, cap, mm, n', D, Pl, hcs, _, hlc, hcm, hmm, _, hx⟩
  · simp only [List.cons.injEq, and_true] at h0
    exact ⟨none, 0, 0, h0, by omega, fun h => by omega⟩
  · simp only [List.cons.injEq, and_true] at hcs
    unfold maxLen at hcm
    refine ⟨some ad, len, cap, hcs, by omega, fun h0 => ?_⟩
    have hlm : len ≤ mm := by rw [hmm]; split <;> omega
    have one : ∀ i, i < len → ∃ (A : Nat) (B : Int), (w.cell? ((ad.add (i * 2)).add 0) = some (.int .u64 (A : Int)) ∧ w.cell? ((ad.add (i * 2)).add 1) = some (.int .i64 B)) ∧ A < 18446744073709551616 ∧ (-9223372036854775808 ≤ B ∧ B ≤ 9223372036854775807) := by
      intro i hi
      obtain ⟨cs', hc, ht⟩ := hx i (by omega)
      obtain ⟨A, B, rfl, hb⟩ := shift_cells ht
      rw [cells_shift] at hc
      refine ⟨A, B, ?_, hb⟩
      have hc := cells_some hc
      rw [show List.range 2 = [0, 1] from rfl] at hc
      simp only [List.mapM_cons, List.mapM_nil, Option.bind_eq_bind, Option.bind_eq_some_iff, Option.pure_def, Option.some.injEq, List.cons.injEq, exists_eq_left'] at hc
      obtain ⟨a0, h0, l0, ⟨a1, h1, l1, hl1, rfl⟩, e0, hr⟩ := hc
      simp only [List.cons.injEq] at hr
      obtain ⟨e1, _⟩ := hr
      subst e0 e1
      exact ⟨h0, h1⟩
    obtain ⟨b, off, spot⟩ := ad
    obtain ⟨_, _, ⟨h00, _⟩, _⟩ := one 0 h0
    have hspot : spot = none := by simpa [Addr.add] using World.cell?_spot h00
    subst hspot
    refine ⟨b, off, rfl, ?_, fun j hj => ?_⟩
    · have := block_lt_of_cell h00
      simpa [Addr.add] using this
    · obtain ⟨A, B, ⟨k0, k1⟩, q0, q1⟩ := one j hj
      simp only [Addr.add_mid, Nat.add_zero] at k0 k1
      exact ⟨A, B, q0, q1, k0, k1⟩
end

set_option maxRecDepth 100000 in
set_option maxHeartbeats 8000000 in
theorem scale_law (a0 : Option Addr) (len0 cap0 : Nat) (w : World) (h : IsShifts w a0 len0) (hT : Tab64 w) :
    Calls Tryd.prog 3 #[.slice a0 len0 cap0] w fun e w' => e = .returned (.bool true) ∧ Below w.heap.size w w' := by
  obtain ⟨hlen, hcell⟩ := h
  have HC := fhide hcell
  have HT := fhide hT
  clear hcell hT
  go_enter Tryd.func3, Tryd.ntmps3
  go_wp2_with fail
  go_loopw [3] (fun t3 wr => ∃ i : Nat, i ≤ len0 ∧ i ≤ 2000 ∧ t3 = .int .i64 i ∧ Hid (Below w.heap.size w wr)) (fun t3 _ => 2000 - (intOf t3).toNat)
  case atStart => exact ⟨0, by omega, by omega, rfl, Below.refl _ _⟩
  case round =>
    obtain ⟨i, hi, hi20, rfl, HI⟩ := hrel
    by_cases hgo : i < len0 ∧ i < 2000
    · have g1 : (i : Int) < (len0 : Int) := by omega
      have g2 : (i : Int) < 2000 := by omega
      obtain ⟨g, o, rfl, hg, hj⟩ := HC.out (by omega)
      obtain ⟨A, B, hA, hB, cA, cB⟩ := hj i hgo.1
      have cA0 : wr.cell? ⟨g, o + i * 2, none⟩ = some (.int .u64 A) := by rw [HI.out.cell (p := ⟨g, o + i * 2, none⟩) hg]; exact cA
      have HA := fhide (And.intro hA (And.intro cA cB))
      clear hj hgo cA cB hA hB
      obtain ⟨s, m, z, k, S1, S2⟩ := split_both A HA.out.1
      have HS1 := fhide (S1 wr (HT.out.below HI.out))
      have HS2 := fhide S2
      have HC1 := fhide (fun w : World => Scale_any A B w HA.out.1)
      have HC2 := fhide (fun w : World => rScale A B w HA.out.1)
      generalize sclv B A = v at *
      clear S1 S2
      go_wp2_with fail
      refine HS1.out.mono ?_
      rintro e x1 ⟨rfl, hb1⟩
      have J1 := fhide (HI.out.trans (hb1.mono HI.out.size))
      clear hb1 HI HS1 cA0
      have cA1 : x1.cell? ⟨g, o + i * 2, none⟩ = some (.int .u64 A) := by rw [J1.out.cell (p := ⟨g, o + i * 2, none⟩) hg]; exact HA.out.2.1
      go_wp2_with fail
      refine (HS2.out _).mono ?_
      rintro e x2 ⟨rfl, hb2⟩
      have J2 := fhide (J1.out.trans (hb2.mono J1.out.size))
      clear hb2 J1 HS2 cA1
      have HI := fhide J2.out.drew
      have cA0 : x2.drew.cell? ⟨g, o + i * 2, none⟩ = some (.int .u64 A) := by
        show x2.cell? ⟨g, o + i * 2, none⟩ = _
        rw [J2.out.cell (p := ⟨g, o + i * 2, none⟩) hg]; exact HA.out.2.1
      have cB0 : x2.drew.cell? ⟨g, o + i * 2 + 1, none⟩ = some (.int .i64 B) := by
        show x2.cell? ⟨g, o + i * 2 + 1, none⟩ = _
        rw [J2.out.cell (p := ⟨g, o + i * 2 + 1, none⟩) hg]; exact HA.out.2.2
      have hs1 : (s != s) = false := by cases s <;> rfl
      have hk1 : (k != k) = false := by cases k <;> rfl
      clear J2 HA
      go_wp2_with fail
      go_region_held3 (fun w' => w'.cell? ⟨g, o + i * 2, none⟩ = some (.int .u64 A) ∧ w'.cell? ⟨g, o + i * 2 + 1, none⟩ = some (.int .i64 B)) (exact ⟨cA0, cB0⟩)
        (first | (simp only [hs1, hk1]; done) | (go_at_call 6; go_must (refine (HC1.out _).mono ?_); rintro _ w5 ⟨rfl, B5⟩; have HI := fhide (HI.out.trans (B5.mono HI.out.size)); have cB0 : w5.cell? ⟨g, o + i * 2 + 1, none⟩ = some (.int .i64 B) := (by rw [B5.cell (p := ⟨g, o + i * 2 + 1, none⟩) (block_lt_of_cell cB0)]; exact cB0); have cA0 : w5.cell? ⟨g, o + i * 2, none⟩ = some (.int .u64 A) := (by rw [B5.cell (p := ⟨g, o + i * 2, none⟩) (block_lt_of_cell cA0)]; exact cA0); clear B5) | (go_at_call 7; go_must (refine (HC2.out _).mono ?_); rintro _ w5 ⟨rfl, B5⟩; have HI := fhide (HI.out.trans (B5.mono HI.out.size)); have cB0 : w5.cell? ⟨g, o + i * 2 + 1, none⟩ = some (.int .i64 B) := (by rw [B5.cell (p := ⟨g, o + i * 2 + 1, none⟩) (block_lt_of_cell cB0)]; exact cB0); have cA0 : w5.cell? ⟨g, o + i * 2, none⟩ = some (.int .u64 A) := (by rw [B5.cell (p := ⟨g, o + i * 2, none⟩) (block_lt_of_cell cA0)]; exact cA0); clear B5))
      go_wp2_with fail
      go_roundw
      case rel => exact ⟨i + 1, by omega, by omega, by go_num, HI⟩
      case measure => simp [intOf]; omega
    · by_cases hl : i < len0
      · have g1 : (i : Int) < (len0 : Int) := by omega
        have g2 : ¬ (i : Int) < 2000 := by omega
        go_wp2_with fail
        refine (wakes_any _).mono ?_
        rintro e v14 ⟨rfl, hb14⟩
        go_wp2_with fail
        go_ret
        exact ⟨rfl, HI.out.trans (hb14.mono HI.out.size)⟩
      · have g1 : ¬ (i : Int) < (len0 : Int) := by omega
        go_wp2_with fail
        refine (wakes_any _).mono ?_
        rintro e v14 ⟨rfl, hb14⟩
        go_wp2_with fail
        go_ret
        exact ⟨rfl, HI.out.trans (hb14.mono HI.out.size)⟩

def laidTab : List (String × DataW Unit) := [("math/bits.deBruijn64tab", Rows.laid_math_bits_deBruijn64tab)]

theorem gTab : Tryd.prog.globalNamed "math/bits.deBruijn64tab" = some 1 := by kernel_rfl
theorem tTab : (Tryd.prog.globals[1]?).map (·.type) = some 60 := by kernel_rfl
theorem cells8 : Tryd.prog.cellsOf 5 = 1 := by kernel_rfl

theorem tab_list {H : Type} : (Rows.laid_math_bits_deBruijn64tab : DataW H) = .agg (Lib.deBruijn64tab.map fun n : Nat => .lit (.int .u8 (n : Int))) := rfl

theorem tab_of_laid {W : World} (h : laidMetH Tryd.prog laidTab W) : Tab64 W := by
  rw [MakeChecks.laidMetH_plain _ _ _ (by kernel_rfl)] at h
  obtain ⟨ps, ⟨g, t, cs, fuel, p, q, hg, ht, hv, hd, _, _⟩, _, _⟩ := h
  obtain rfl := Option.some.inj (gTab.symm.trans hg)
  obtain rfl := Option.some.inj (tTab.symm.trans ht)
  obtain ⟨xs, m, _, ex, hlen, hl, hel⟩ := DataW.trod_array Tryd.underlying60 hd
  rw [tab_list] at ex
  have ex2 := DataW.agg.inj (Prod.mk.inj ex).1
  intro j hj
  rw [World.var?_cell gTab hv j]
  have hjx : j < xs.length := by omega
  have k := hel j hj
  rw [cells8, Nat.mul_one, List.getElem?_eq_getElem hjx] at k
  obtain ⟨z, a, b, _⟩ := DataW.trod_int Tryd.underlying5 k
  have hz : (Lib.deBruijn64tab.map fun n : Nat => (.lit (.int .u8 (n : Int)) : DataW Unit))[j]? = some (.lit (.int .u8 z)) := by
    rw [ex2, List.getElem?_map, List.getElem?_eq_getElem hjx, Option.map_some, b]
  have hjt : j < Lib.deBruijn64tab.length := hj
  rw [List.getElem?_map, List.getElem?_eq_getElem hjt, Option.map_some] at hz
  simp only [Option.some.injEq, DataW.lit.injEq, Lit.int.injEq, true_and] at hz
  have hc : cs.toList[j]? = some (.int .u8 z) := by
    have := congrArg (·[0]?) a
    simpa [List.getElem?_take, List.getElem?_drop] using this
  have hg2 : Lib.deBruijn64tab.getD j 0 = Lib.deBruijn64tab[j] := by simp [List.getD, List.getElem?_eq_getElem hjt]
  rw [hg2, hz, ← hc]
  simp

end Go.Proofs.YtmkploknoohliaaDoor

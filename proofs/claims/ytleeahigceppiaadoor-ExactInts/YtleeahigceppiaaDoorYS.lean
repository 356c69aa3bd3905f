/- What comes in: a slice of int64s; the library's table. -/
import Derived.Test.YtleeahigceppiaaDoorYQ
import Derived.Test.YtleeahigceppiaaDoorRows
import Derived.ProofKit
import Derived.OpenShut
import Derived.Deep.Slices
import Derived.Lib.SmallJoins
import Derived.Deep.MidRow
import Derived.Deep.Strs
import Derived.LaidMore
import Derived.Lay
/- ExactInts: the walk. -/
namespace Go.Proofs.YtleeahigceppiaaDoor
open Go.RowKit
open M
open Flt
set_option linter.unusedVariables false
set_option linter.unusedSimpArgs false

/-- The slice at a of n int64s. -/
def IsInts (w : World) (a : Option Addr) (n : Nat) : Prop := n ≤ 9223372036854775807 ∧ (0 < n → ∃ b o, a = some ⟨b, o, none⟩ ∧ b < w.heap.size ∧ ∀ i, i < n → ∃ z : Int, w.cell? ⟨b, o + i, none⟩ = some (.int .i64 z) ∧ -9223372036854775808 ≤ z ∧ z ≤ 9223372036854775807)

theorem rem40 (z : Int) : (Int.tmod z 1099511627776).natAbs < 1099511627776 := by
  have h1 := Int.lt_tmod_of_pos z (show (0 : Int) < 1099511627776 by omega)
  have h2 := Int.tmod_lt_of_pos z (show (0 : Int) < 1099511627776 by omega)
  omega

/-- What stands behind i numbers. -/
def IntsSt (T : Nat) (w w0 wr : World) (g i : Nat) (sum : Int) : Prop :=
  (∃ S2, Mo wr g i false (sum * ((2 ^ T : Nat) : Int)) S2) ∧ sum.natAbs ≤ i * 1099511627776 ∧ Tab64 wr ∧ Below w.heap.size w wr ∧ Only g 0 106 w0 wr

theorem IntsSt.next {T : Nat} {w w0 wr w' : World} {g i p : Nat} {sum x S2 : Int} (h : IntsSt T w w0 wr g i sum) (hp : SmallV T x p) (hx : x.natAbs < 1099511627776) (hg : w.heap.size ≤ g) (hg1 : g ≠ 1)
    (m : Mo w' g (i + 1) (dk p i false) (sum * ((2 ^ T : Nat) : Int) + ofV p) S2) (o : Only g 0 106 wr w') : IntsSt T w w0 w' g (i + 1) (sum + x) := by
  obtain ⟨_, h2, h3, h4, h5⟩ := h
  have hd : dk p i false = false := by unfold dk; rw [decide_eq_false hp.notDark]; rfl
  rw [hd, hp.ofV, ← Int.add_mul] at m
  exact ⟨⟨_, m⟩, by omega, h3.only o hg1, h4.trans (o.below (by omega) h4.size), h5.trans o⟩

set_option maxRecDepth 100000 in
set_option maxHeartbeats 4000000 in
theorem ints_any (a : Option Addr) (len cap : Nat) (w : World) (hL : IsInts w a len) (hT : Tab64 w) :
    Calls Tryd.prog 3 #[.slice a len cap] w fun e w' => e = .returned (.bool true) ∧ Below w.heap.size w w' := by
  obtain ⟨T, hTT⟩ : ∃ T, T = 1074 := ⟨_, rfl⟩
  have HTT := hide hTT
  have HL := hide hL.2
  have hlen := hL.1
  have h1 : 1 < w.heap.size := block_lt_of_cell (hT 0 (by omega))
  obtain ⟨g, hg⟩ : ∃ g, g = w.heap.size := ⟨_, rfl⟩
  obtain ⟨W1, hW1⟩ : ∃ W1, W1 = w.alloc (.cells z106 28) := ⟨_, rfl⟩
  have B1 : Below w.heap.size w W1 := by rw [hW1]; exact (Below.refl _ w).alloc (Nat.le_refl _) _
  have HM : Hid (IntsSt T w W1 W1 g 0 0) := by
    refine ⟨⟨0, ?_⟩, by simp, hT.below B1, B1, Only.refl _ _ _ _⟩
    rw [Int.zero_mul, hg, hW1]; exact Mo.new (heap_alloc_new w _)
  have hg1 : g ≠ 1 := by omega
  have hgw : w.heap.size ≤ g := by omega
  have HB1 := hide B1
  have HG := hide hg
  clear hT B1 h1 hL hTT
  go_enter Tryd.func3, Tryd.ntmps3
  go_upto_region 1 with fail
  refine wp_region_list ?_
  refine wpList_build rfl 28 #[] rfl (by kernel_rfl) ?_
  simp only [Array.map_empty]
  rw [z106_built]
  refine Go.Great.wpList_boxTo rfl 28 (.tmp 9) rfl (some 10) rfl g hg.symm z106 rfl ?_
  rw [← hW1]
  clear hW1 hg
  go_wp2_with fail
  go_loopw [4, 5] (fun t4 t5 wr => ∃ (i : Nat) (sum : Int), t4 = .int .i64 sum ∧ t5 = .int .i64 (i : Int) ∧ Hid (i ≤ 1000 ∧ i ≤ len ∧ IntsSt T w W1 wr g i sum)) (fun _ t5 _ => 1000 - (intOf t5).toNat)
  case atStart => exact ⟨0, 0, rfl, rfl, by omega, by omega, HM.out⟩
  case round =>
    obtain ⟨i, sum, rfl, rfl, HI⟩ := hrel
    have hi1 : i ≤ 1000 := HI.out.1
    have hi2 : i ≤ len := HI.out.2.1
    have hsum := HI.out.2.2.2.1
    by_cases hgo : i < len ∧ i < 1000
    · have g1 : (i : Int) < (len : Int) := by omega
      have g2 : (i : Int) < 1000 := by omega
      obtain ⟨b, o, rfl, hb, hc⟩ := HL.out (by omega)
      obtain ⟨z, cz, hz1, hz2⟩ := hc i hgo.1
      have cV : wr.cell? ⟨b, o + i, none⟩ = some (.int .i64 z) := by rw [HI.out.2.2.2.2.2.1.cell (p := ⟨b, o + i, none⟩) hb]; exact cz
      obtain ⟨x, hx⟩ : ∃ x : Int, x = Int.tmod z 1099511627776 := ⟨_, rfl⟩
      have hx40 : x.natAbs < 1099511627776 := by rw [hx]; exact rem40 z
      have ex : Int.tmod z 1099511627776 = x := hx.symm
      have es : wrap64 (sum + x) = sum + x := by unfold wrap64; omega
      have HS := hide (fun W : World => small_any T HTT.out x W (by omega))
      have HX := hide hx40
      have Hgo := hide hgo
      clear hc cz hx hgo hsum hx40
      go_wp2_with fail
      refine (HS.out _).mono ?_
      rintro e w2 ⟨p, rfl, hp, hw2⟩
      have hw22 := hw2.symm
      subst hw22
      have HP := hide hp
      clear hp
      obtain ⟨⟨S2, hmo⟩, q2, q3, q4, q5⟩ := HI.out.2.2
      have HAdd := hide (Add_fin p hmo (by omega) HP.out.lt HP.out.fin q3 hg1)
      clear hmo q2 q3 q4 q5
      go_wp2_with fail
      refine HAdd.out.mono ?_
      rintro e w3 ⟨rfl, m3, o3⟩
      have H3 := hide (HI.out.2.2.next HP.out HX.out hgw hg1 m3 o3)
      clear m3 o3 HAdd
      go_wp2_with fail
      refine (lnum_any _ _).mono ?_
      rintro e w4 ⟨rfl, hw4⟩
      have hw42 := hw4.symm
      subst hw42
      go_wp2_with fail
      go_roundw
      case rel => exact ⟨i + 1, sum + x, rfl, by simp, by have := Hgo.out; omega, by have := Hgo.out; omega, H3.out⟩
      case measure => simp [intOf]; have := Hgo.out; omega
    · have Hend : Hid (¬ (i < len ∧ i < 1000)) := hgo
      obtain ⟨⟨S2, hmo⟩, q2, q3, q4, q5⟩ := HI.out.2.2
      have hss := sum_small T HTT.out sum (by omega)
      have HSum : Hid (Calls Tryd.prog 7 #[.pointer (some ⟨g, 0, none⟩)] wr fun e w' => ∃ val : Nat, e = .returned (.tuple #[.int .u64 val, .bool (decide (0 < i))]) ∧ (0 < i → ShareV (sum * ((2 ^ T : Nat) : Int)) 1 val) ∧ Below wr.heap.size wr w') := by
        by_cases h0 : i = 0
        · subst h0
          obtain rfl : sum = 0 := by omega
          exact Sum_of (fun val => 0 < 0 → ShareV (0 * ((2 ^ T : Nat) : Int)) 1 val) hmo (fun w1 h1 => (share_none 1 h1).mono fun e w' hh => by
            obtain ⟨h2, h3⟩ := hh
            exact ⟨0, h2, fun h => by omega, by rw [h3]; exact Below.refl _ _⟩)
        · exact Sum_of (fun val => 0 < i → ShareV (sum * ((2 ^ T : Nat) : Int)) 1 val) hmo (fun w1 h1 => (share_num 1 h1 (by omega) (by omega) (by omega) hss).mono fun e w' hh => by
            obtain ⟨val, h2, h3, h4⟩ := hh
            exact ⟨val, h2, fun _ => h3, h4⟩)
      have HB := hide q4
      have HTb := hide q3
      have HS := hide (fun W : World => small_any T HTT.out sum W (by omega))
      clear hmo q2 q3 q4 q5 hss
      by_cases hz : i = 0
      · subst hz
        obtain rfl : len = 0 := by have := Hend.out; omega
        clear HS Hend
        go_wp2_with fail
        refine HSum.out.mono ?_
        rintro e w2 ⟨val, rfl, hv, B2⟩
        have HB2 : Hid (Below w.heap.size w w2) := HB.out.trans (B2.mono HB.out.size)
        have HT2 : Hid (Tab64 w2) := HTb.out.below B2
        clear hv B2 HSum
        go_wp2_with fail
        refine (wakes_any _ HT2.out).mono ?_
        rintro e w4 ⟨rfl, B4⟩
        go_wp2_with fail
        go_ret
        exact ⟨rfl, HB2.out.trans (B4.mono HB2.out.size)⟩
      · have hi0 : decide (0 < i) = true := by rw [decide_eq_true_iff]; omega
        have hl0 : ((len : Int) == 0) = false := by rw [beq_eq_false_iff_ne]; omega
        rw [hi0] at HSum
        clear hi0
        by_cases hl : i < len
        · have g1 : (i : Int) < (len : Int) := by omega
          have g2 : ¬ (i : Int) < 1000 := by have := Hend.out; omega
          go_wp2_with fail
          refine HSum.out.mono ?_
          rintro e w2 ⟨val, rfl, hv, B2⟩
          have HV := hide (hv (by omega))
          have HB2 : Hid (Below w.heap.size w w2) := HB.out.trans (B2.mono HB.out.size)
          have HT2 : Hid (Tab64 w2) := HTb.out.below B2
          clear hv B2 HSum
          go_wp2_with fail
          refine (HS.out _).mono ?_
          rintro e w3 ⟨p, rfl, hp, hw3⟩
          have hw32 := hw3.symm
          subst hw32
          obtain rfl : val = p := hp.sum HV.out
          clear hp
          go_wp2_with fail
          refine (wakes_any _ HT2.out).mono ?_
          rintro e w4 ⟨rfl, B4⟩
          go_wp2_with fail
          go_ret
          exact ⟨rfl, HB2.out.trans (B4.mono HB2.out.size)⟩
        · have g1 : ¬ (i : Int) < (len : Int) := by omega
          go_wp2_with fail
          refine HSum.out.mono ?_
          rintro e w2 ⟨val, rfl, hv, B2⟩
          have HV := hide (hv (by omega))
          have HB2 : Hid (Below w.heap.size w w2) := HB.out.trans (B2.mono HB.out.size)
          have HT2 : Hid (Tab64 w2) := HTb.out.below B2
          clear hv B2 HSum
          go_wp2_with fail
          refine (HS.out _).mono ?_
          rintro e w3 ⟨p, rfl, hp, hw3⟩
          have hw32 := hw3.symm
          subst hw32
          obtain rfl : val = p := hp.sum HV.out
          clear hp
          go_wp2_with fail
          refine (wakes_any _ HT2.out).mono ?_
          rintro e w4 ⟨rfl, B4⟩
          go_wp2_with fail
          go_ret
          exact ⟨rfl, HB2.out.trans (B4.mono HB2.out.size)⟩

end Go.Proofs.YtleeahigceppiaaDoor

namespace Go.Proofs.YtleeahigceppiaaDoor
open Go.ChangeShapes Go.WideShapes Go.Deep Go.Joins
open M
open Flt
set_option linter.unusedVariables false
set_option linter.unusedSimpArgs false

theorem cells_1 {w : World} {base : Nat} {a : Addr} {cs : List Value} (h : w.cells? base a 1 = some cs) : ∃ v, cs = [v] ∧ w.cell? a = some v := by
  unfold World.cells? at h
  split at h
  · have e : List.range 1 = [0] := rfl
    rw [e] at h
    simp only [List.mapM_cons, List.mapM_nil, Option.bind_eq_bind, Option.bind_eq_some_iff, Option.pure_def, Option.some.injEq] at h
    obtain ⟨a0, h0, l0, rfl, rfl⟩ := h
    exact ⟨a0, rfl, by simpa [Addr.add] using h0⟩
  · cases h

theorem cellsI64 : Tryd.prog.cellsOf 2 = 1 := by kernel_rfl

section
variable {H : Type} {enc : TypeId × Value → H} {w : World} {base : Nat} {spare : Nat → Bool} {held : Bool}

theorem open_i64s {fuel : Nat} {v : Value} {y : DataW H × List MemPlace} (h : DataW.trod enc Tryd.prog w base spare held fuel 22 [v] = some y) : ∃ a len cap, v = .slice a len cap ∧ IsInts w a len := by
  rcases open_slice Tryd.underlying22 h with ⟨h0, _⟩ | ⟨ad, len, cap, mm, n', D, Pl, hcs, _, hlc, hcm, hmm, _, hx⟩
  · simp only [List.cons.injEq, and_true] at h0
    exact ⟨none, 0, 0, h0, by omega, fun h => by omega⟩
  · simp only [List.cons.injEq, and_true] at hcs
    unfold maxLen at hcm
    refine ⟨some ad, len, cap, hcs, by omega, fun h0 => ?_⟩
    have hlm : len ≤ mm := by rw [hmm]; split <;> omega
    have one : ∀ i, i < len → ∃ z : Int, w.cell? (ad.add i) = some (.int .i64 z) ∧ -9223372036854775808 ≤ z ∧ z ≤ 9223372036854775807 := by
      intro i hi
      obtain ⟨cs', hc, ht⟩ := hx i (by omega)
      rw [cellsI64, Nat.mul_one] at hc
      obtain ⟨u, rfl, hcell⟩ := cells_1 hc
      obtain ⟨z, e0, _, w0⟩ := DataW.trod_int Tryd.underlying2 ht
      simp only [List.cons.injEq, and_true] at e0
      have b := bounds_i64 w0
      exact ⟨z, by rw [hcell, e0], by omega, by omega⟩
    obtain ⟨b, off, spot⟩ := ad
    obtain ⟨z0, h00, _⟩ := one 0 h0
    have hspot : spot = none := by simpa [Addr.add] using World.cell?_spot h00
    subst hspot
    refine ⟨b, off, rfl, ?_, fun j hj => ?_⟩
    · have := block_lt_of_cell h00
      simpa [Addr.add] using this
    · obtain ⟨z, hz, hb⟩ := one j hj
      rw [Addr.add_mid] at hz
      exact ⟨z, hz, hb⟩
end

def laidTab : List (String × DataW Unit) := [("math/bits.deBruijn64tab", Rows.laid_math_bits_deBruijn64tab)]

theorem gTab : Tryd.prog.globalNamed "math/bits.deBruijn64tab" = some 1 := by kernel_rfl
theorem tTab : (Tryd.prog.globals[1]?).map (·.type) = some 90 := by kernel_rfl
theorem cells8 : Tryd.prog.cellsOf 5 = 1 := by kernel_rfl

theorem tab_list {H : Type} : (Rows.laid_math_bits_deBruijn64tab : DataW H) = .agg (Lib.deBruijn64tab.map fun n : Nat => .lit (.int .u8 (n : Int))) := rfl

theorem tab_of_laid {W : World} (h : laidMetH Tryd.prog laidTab W) : Tab64 W := by
  rw [MakeChecks.laidMetH_plain _ _ _ (by kernel_rfl)] at h
  obtain ⟨ps, ⟨g, t, cs, fuel, p, q, hg, ht, hv, hd, _, _⟩, _, _⟩ := h
  obtain rfl := Option.some.inj (gTab.symm.trans hg)
  obtain rfl := Option.some.inj (tTab.symm.trans ht)
  obtain ⟨xs, m, _, ex, hlen, hl, hel⟩ := DataW.trod_array Tryd.underlying90 hd
  rw [tab_list] at ex
  have ex2 := DataW.agg.inj (Prod.mk.inj ex).1
  intro j hj
  rw [World.var?_cell gTab hv j]
  have hjx : j < xs.length := by omega
  have k := hel j hj
  rw [cells8, Nat.mul_one, List.getElem?_eq_getElem hjx] at k
  obtain ⟨z, a, b, _⟩ := DataW.trod_int Tryd.underlying5 k
  have hz : (Lib.deBruijn64tab.map fun n : Nat => (.lit (.int .u8 (n : Int)) : DataW Unit))[j]? = some (.lit (.int .u8 z)) := by
    rw [ex2, List.getElem?_map, List.getElem?_eq_getElem hjx, Option.map_some, b]
  have hjt : j < Lib.deBruijn64tab.length := hj
  rw [List.getElem?_map, List.getElem?_eq_getElem hjt, Option.map_some] at hz
  simp only [Option.some.injEq, DataW.lit.injEq, Lit.int.injEq, true_and] at hz
  have hc : cs.toList[j]? = some (.int .u8 z) := by
    have := congrArg (·[0]?) a
    simpa [List.getElem?_take, List.getElem?_drop] using this
  have hg2 : Lib.deBruijn64tab.getD j 0 = Lib.deBruijn64tab[j] := by simp [List.getD, List.getElem?_eq_getElem hjt]
  rw [hg2, hz, ← hc]
  simp

end Go.Proofs.YtleeahigceppiaaDoor

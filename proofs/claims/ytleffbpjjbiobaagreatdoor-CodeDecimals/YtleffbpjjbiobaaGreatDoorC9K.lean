/- The library's table, as the card ties it. -/
import Derived.Test.YtleffbpjjbiobaaGreatDoorC9O
import Derived.Test.YtleffbpjjbiobaaGreatDoorCards
import Derived.Test.YtleffbpjjbiobaaGreatDoorTie
import Derived.LaidMore
import Derived.Lay
import Derived.SevenTiedAt
namespace Go.Proofs.YtleffbpjjbiobaaGreatDoor
open Go.ChangeShapes Go.WideShapes Go.ChangeAt Go.RowKit
open M
set_option linter.unusedVariables false

def laidTab : List (String × DataW Unit) := [("math/bits.deBruijn64tab", Rows.laid_math_bits_deBruijn64tab)]

theorem gTab : Tryz.prog.globalNamed "math/bits.deBruijn64tab" = some 1 := by kernel_rfl
theorem tTab : (Tryz.prog.globals[1]?).map (·.type) = some 217 := by kernel_rfl
theorem cells8 : Tryz.prog.cellsOf 5 = 1 := by kernel_rfl

theorem tab_list {H : Type} : (Rows.laid_math_bits_deBruijn64tab : DataW H) = .agg (Lib.deBruijn64tab.map fun n : Nat => .lit (.int .u8 (n : Int))) := rfl

theorem tab_of_laid {W : World} (h : laidMetH Tryz.prog laidTab W) : Tab64 W := by
  rw [MakeChecks.laidMetH_plain _ _ _ (by kernel_rfl)] at h
  obtain ⟨ps, ⟨g, t, cs, fuel, p, q, hg, ht, hv, hd, _, _⟩, _, _⟩ := h
  obtain rfl := Option.some.inj (gTab.symm.trans hg)
  obtain rfl := Option.some.inj (tTab.symm.trans ht)
  obtain ⟨xs, m, _, ex, hlen, hl, hel⟩ := DataW.trod_array Tryz.underlying217 hd
  rw [tab_list] at ex
  have ex2 := DataW.agg.inj (Prod.mk.inj ex).1
  intro j hj
  rw [World.var?_cell gTab hv j]
  have hjx : j < xs.length := by omega
  have k := hel j hj
  rw [cells8, Nat.mul_one, List.getElem?_eq_getElem hjx] at k
  obtain ⟨z, a, b, _⟩ := DataW.trod_int Tryz.underlying5 k
  have hz : (Lib.deBruijn64tab.map fun n : Nat => (.lit (.int .u8 (n : Int)) : DataW Unit))[j]? = some (.lit (.int .u8 z)) := by
    rw [ex2, List.getElem?_map, List.getElem?_eq_getElem hjx, Option.map_some, b]
  have hjt : j < Lib.deBruijn64tab.length := hj
  rw [List.getElem?_map, List.getElem?_eq_getElem hjt, Option.map_some] at hz
  simp only [Option.some.injEq, DataW.lit.injEq, Lit.int.injEq, true_and] at hz
  have hc : cs.toList[j]? = some (.int .u8 z) := by
    have := congrArg (·[0]?) a
    simpa [List.getElem?_take, List.getElem?_drop] using this
  have hg2 : Lib.deBruijn64tab.getD j 0 = Lib.deBruijn64tab[j] := by simp [List.getD, List.getElem?_eq_getElem hjt]
  rw [hg2, hz, ← hc]
  simp

end Go.Proofs.YtleffbpjjbiobaaGreatDoor

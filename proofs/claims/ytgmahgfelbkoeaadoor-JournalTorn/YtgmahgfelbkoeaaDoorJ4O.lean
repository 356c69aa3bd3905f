/- What comes in: rows of rows of bytes, whole numbers. -/
import Derived.Test.YtgmahgfelbkoeaaDoorJ3O
import Derived.Test.YtgmahgfelbkoeaaDoorJ4G
import Derived.Test.YtgmahgfelbkoeaaDoorCards
import Derived.Test.YtgmahgfelbkoeaaDoorTie
import Derived.LaidMore
import Derived.Lay
import Derived.SevenTiedAt
import Derived.ProofKit
import Derived.OpenShut
import Derived.Deep.Slices
import Derived.Lib.SmallJoins
import Derived.Deep.MidRow
import Derived.SizedLaws
namespace Go.Proofs.YtgmahgfelbkoeaaDoor
open Go.ChangeShapes Go.WideShapes Go.Deep Go.Joins
open Go.RowKit (Below)
set_option linter.unusedVariables false
set_option linter.unusedSimpArgs false

section
variable {H : Type} {enc : TypeId × Value → H} {w : World} {base : Nat} {spare : Nat → Bool} {held : Bool}

/-- Rows of bytes that a machine can hold. -/
def IsRw (w : World) (v : Value) : Prop := ∃ (pe : Option Addr) (ne ce : Nat) (q : Nat → List Nat), v = .slice pe ne ce ∧ ne ≤ 140737488355328 ∧ PartsOf w pe ne q ∧ ∀ j, j < ne → (q j).length ≤ 140737488355328 ∧ ∀ x ∈ q j, x < 256

def IsCb (w : World) (u : Value) : Prop := ∃ p n cap bs, u = .slice p n cap ∧ n ≤ 140737488355328 ∧ IsBy w (.slice p n cap) bs ∧ n = bs.length ∧ ∀ x ∈ bs, x < 256

theorem open_cb {m : Nat} {u : Value} {y : DataW H × List MemPlace} (h : DataW.trod enc Tryd.prog w base spare held m 38 [u] = some y) (hz : Sz 38 y.1) : IsCb w u := by
  obtain ⟨p, n, cap, bs, rfl, h1, h2, h3⟩ := open_cy h hz
  exact ⟨p, n, cap, bs, rfl, h1, h2.1, h2.2.1, h3⟩

theorem open_rw {fuel : Nat} {v : Value} {y : DataW H × List MemPlace} (h : DataW.trod enc Tryd.prog w base spare held fuel 35 [v] = some y) (hz : Sz 35 y.1) : IsRw w v := by
  obtain ⟨a, len, cap, rfl, _, hb, hl, hr⟩ := open_rowsSz (S := IsCb) Tryd.underlying35 (by kernel_rfl) (fun h hz => open_cb h hz) h hz
  have hb8 : Tryd.prog.bytesOf 38 = 24 := by kernel_rfl
  rw [hb8] at hb
  have hrl := reachBytes_lt
  by_cases h0 : 0 < len
  · obtain ⟨b, o, ha, hc⟩ := hr h0
    have hc' : ∀ i, ∃ bs : List Nat, i < len → (∃ v, w.cell? ⟨b, o + i, none⟩ = some v ∧ IsBy w v bs) ∧ bs.length ≤ 140737488355328 ∧ ∀ x ∈ bs, x < 256 := fun i => by
      by_cases hi : i < len
      · obtain ⟨u, h1, pe, ne, ce, bs, rfl, h3, h4, h5, h6⟩ := hc i hi
        exact ⟨bs, fun _ => ⟨⟨_, h1, h4⟩, by omega, h6⟩⟩
      · exact ⟨[], fun h => absurd h hi⟩
    obtain ⟨q, hq⟩ := Classical.axiomOfChoice hc'
    refine ⟨a, len, cap, q, rfl, by omega, fun i hi => ?_, fun j hj => (hq j hj).2⟩
    obtain ⟨⟨v, h1, h2⟩, _⟩ := hq i hi
    exact ⟨b, o, v, ha, h1, h2⟩
  · exact ⟨a, len, cap, fun _ => [], rfl, by omega, fun i hi => by omega, fun j hj => by omega⟩

theorem open_rrr {fuel : Nat} {v : Value} {y : DataW H × List MemPlace} (h : DataW.trod enc Tryd.prog w base spare held fuel 22 [v] = some y) (hz : Sz 22 y.1) : ∃ p n cap, v = .slice p n cap ∧ n ≤ 140737488355328 ∧ RowsIn w p n := by
  obtain ⟨a, len, cap, rfl, _, hb, hl, hr⟩ := open_rowsSz (S := IsRw) Tryd.underlying22 (by kernel_rfl) (fun h hz => open_rw h hz) h hz
  have hb8 : Tryd.prog.bytesOf 35 = 24 := by kernel_rfl
  rw [hb8] at hb
  have hrl := reachBytes_lt
  refine ⟨a, len, cap, rfl, by omega, fun i hi => ?_⟩
  obtain ⟨b, o, ha, hc⟩ := hr (by omega)
  obtain ⟨u, h1, pe, ne, ce, q, rfl, h3, h4, h5⟩ := hc i hi
  exact ⟨b, o, pe, ne, ce, q, ha, h1, h3, h4, h5⟩

end

end Go.Proofs.YtgmahgfelbkoeaaDoor

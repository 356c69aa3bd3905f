/- How many are asked of the bytes of a place. -/
import Derived.Test.YtenhippcjnemcaaDoorP2O
namespace Go.Proofs.YtenhippcjnemcaaDoor
open Go.RowKit
open M
set_option linter.unusedVariables false

set_option maxRecDepth 100000 in
set_option maxHeartbeats 1000000 in
theorem n_any (aW aR aB aN : Option Addr) (nW cW nR cR nB cB nN cN k : Nat) (w : World) (hN : RowsOf IsN w aN nN) (hk : k ≤ 1000000) :
    Calls Tryd.prog 10 #[.agg #[.slice aW nW cW, .slice aR nR cR, .slice aB nB cB, .slice aN nN cN], .int .i64 (k : Int)] w fun e w' => ∃ z, e = .returned (.int .i64 z) ∧ I64 z ∧ Below w.heap.size w w' := by
  have hnN := hN.1
  have HN := hide hN
  clear hN
  have HX : Hid ((w.alloc (.cells #[.slice aW nW cW, .slice aR nR cR, .slice aB nB cB, .slice aN nN cN] 27)).heap[w.heap.size]? = some (.cells #[.slice aW nW cW, .slice aR nR cR, .slice aB nB cB, .slice aN nN cN] 27 (0, 0))) := heap_alloc_new _ _
  have HB0 : Hid (Below w.heap.size w (w.alloc (.cells #[.slice aW nW cW, .slice aR nR cR, .slice aB nB cB, .slice aN nN cN] 27))) := (Below.refl _ _).alloc (Nat.le_refl _) _
  by_cases hlt : k < nN
  · obtain ⟨b, o, rfl, hc⟩ := HN.out.2 (by omega)
    obtain ⟨v, hv, z, rfl, hz⟩ := hc k hlt
    have c1 : (w.alloc (.cells #[.slice aW nW cW, .slice aR nR cR, .slice aB nB cB, .slice (some ⟨b, o, none⟩) nN cN] 27)).cell? ⟨b, o + k, none⟩ = some (.int .i64 z) := by rw [HB0.out.cell (p := ⟨b, o + k, none⟩) (block_lt_of_cell hv)]; exact hv
    clear hc hv
    go_enter Tryd.func10, Tryd.ntmps10
    go_wp2_with fail
    go_ret
    exact ⟨z, rfl, hz, HB0.out⟩
  · go_enter Tryd.func10, Tryd.ntmps10
    go_wp2_with fail
    go_ret
    exact ⟨0, rfl, by unfold I64; omega, HB0.out⟩

end Go.Proofs.YtenhippcjnemcaaDoor

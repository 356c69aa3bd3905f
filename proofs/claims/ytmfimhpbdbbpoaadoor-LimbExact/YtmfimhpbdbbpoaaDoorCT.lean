/- The document's Eq of equal bytes. -/
import Derived.Test.YtmfimhpbdbbpoaaDoorCN
namespace Go.Proofs.YtmfimhpbdbbpoaaDoor
open Go.RowKit
open M
set_option linter.unusedVariables false
set_option linter.unusedSimpArgs false

/-- Bytes that lie somewhere: the first n of f. -/
def BRow (w : World) (p : Option Addr) (n : Nat) (f : Nat → Nat) : Prop := 0 < n → ∃ g o, p = some ⟨g, o, none⟩ ∧ ∀ i, i < n → w.cell? ⟨g, o + i, none⟩ = some (.int .u8 (f i : Nat))

set_option maxRecDepth 100000 in
set_option maxHeartbeats 1000000 in
theorem eqBytes_same (p q : Option Addr) (n cap cap' : Nat) (f : Nat → Nat) (w : World) (hn : n ≤ 100000) (h : BRow w p n f) (h' : BRow w q n f) :
    Calls Tryd.prog 22 #[.slice p n cap, .slice q n cap'] w fun e w' => e = .returned (.bool true) ∧ ∃ n, w' = w.drewN n := by
  have H1 := hide h
  have H2 := hide h'
  clear h h'
  go_enter Tryd.func22, Tryd.ntmps22
  go_wp2_with fail
  go_loopw [5] (fun t5 wr => ∃ i : Nat, i ≤ n ∧ t5 = .int .i64 i ∧ Hid (∃ m, wr = w.drewN m)) (fun t5 _ => n - (intOf t5).toNat)
  case atStart => exact ⟨0, by omega, rfl, 0, rfl⟩
  case round =>
    obtain ⟨i, hi, rfl, HI⟩ := hrel
    by_cases hlt : i < n
    · have hlt' : (i : Int) < (n : Int) := by omega
      obtain ⟨g, o, rfl, hc1⟩ := H1.out (by omega)
      obtain ⟨g', o', rfl, hc2⟩ := H2.out (by omega)
      have hx : wr.cell? ⟨g, o + i, none⟩ = some (.int .u8 (f i : Nat)) := by obtain ⟨n, rfl⟩ := HI.out; exact hc1 i hlt
      have hy : wr.cell? ⟨g', o' + i, none⟩ = some (.int .u8 (f i : Nat)) := by obtain ⟨n, rfl⟩ := HI.out; exact hc2 i hlt
      clear hc1 hc2
      generalize f i = x at *
      go_wp2_with fail
      go_quiet (fail)
      go_wp2_with fail
      refine ⟨⟨i + 1, by omega, by go_num, ?_⟩, by simp [intOf]; omega⟩
      obtain ⟨n, rfl⟩ := HI.out
      exact ⟨n + nq, World.drewN_drewN _ _ _⟩
    · go_wp2_with fail
      go_ret
      exact ⟨rfl, HI.out⟩

theorem BytesOf.brow {w : World} {base : Nat} {v : Value} {L N : Nat} (h : BytesOf w base v L N) : ∃ p cap, v = .slice p L cap ∧ BRow w p L (fun i => db N (L - 1 - i)) := by
  obtain ⟨g, rfl, _, _, h4⟩ := h
  refine ⟨_, _, rfl, fun _ => ⟨g, 0, rfl, fun i hi => ?_⟩⟩
  have := h4 (L - 1 - i) (by omega)
  rw [show L - 1 - (L - 1 - i) = i by omega] at this
  rw [Nat.zero_add]; exact this

theorem RevBy.brow {w0 w : World} {L N i : Nat} {v : Value} (h : RevBy w0 L N i v w) : ∃ p cap, v = .slice p i cap ∧ BRow w p i (fun j => db N (L - 1 - j)) := by
  rcases h.own.2 with ⟨h1, h2⟩ | ⟨g, cap, cur, h1, _⟩
  · rw [h1, h2]; exact ⟨_, _, rfl, fun h => by omega⟩
  · refine ⟨_, _, h1, fun _ => ⟨g, 0, rfl, fun j hj => ?_⟩⟩
    have ho := h.own
    rw [h1] at ho
    rw [Nat.zero_add, ho.cellAt j (by omega)]
    simp [bytesV, revB, hj]

end Go.Proofs.YtmfimhpbdbbpoaaDoor

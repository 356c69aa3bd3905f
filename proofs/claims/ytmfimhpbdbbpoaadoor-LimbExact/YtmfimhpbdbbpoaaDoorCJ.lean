/- The law's lent and back. -/
import Derived.Test.YtmfimhpbdbbpoaaDoorCI
namespace Go.Proofs.YtmfimhpbdbbpoaaDoor
open Go.RowKit
open M
set_option linter.unusedVariables false
set_option linter.unusedSimpArgs false

theorem RowX.urow {S : Nat → Prop} {w : World} {v : Value} {k N : Nat} (h : RowX S w v k N) : ∃ p cap, v = .slice p k cap ∧ k ≤ cap ∧ URow32 w p k (dg N) ∧ N < 4294967296 ^ k := by
  obtain ⟨h1, _, p, cap, rfl, h4, h5⟩ := h
  refine ⟨p, cap, rfl, h4, fun h0 => ?_, h1⟩
  obtain ⟨g, o, rfl, _, hc⟩ := h5 h0
  exact ⟨g, o, rfl, hc⟩

/-- A number that is lent lies as a number. -/
theorem LentU32.rowX {w : World} {base g cap k N : Nat} (h : LentU32 w base g cap k (dg N)) (hN : N < 4294967296 ^ k) (hk : k ≤ 70368744177664) : RowX (· = g) w (.slice (some ⟨g, 0, none⟩) k cap) k N :=
  ⟨hN, hk, _, cap, rfl, by have := h.lies.1; omega, fun _ => ⟨g, 0, rfl, rfl, fun j hj => by rw [Nat.zero_add]; exact h.lies.2.2.2.1 j hj⟩⟩

set_option maxRecDepth 100000 in
theorem lent_any {S : Nat → Prop} (v : Value) (k N : Nat) (w : World) (h : RowX S w v k N) (hnil : ∀ cap, v = .slice none k cap → cap = 0) (hk : k ≤ 1000000) :
    Calls Tryd.prog 16 #[v] w fun e w' => ∃ g cap, e = .returned (.slice (some ⟨g, 0, none⟩) k cap) ∧ LentU32 w' w.heap.size g cap k (dg N) ∧ Below w.heap.size w w' := by
  obtain ⟨p, cap, rfl, hc, hu, _⟩ := h.urow
  have HL := hide (lendU32_any p k cap (dg N) w hu (fun e => by subst e; exact hnil cap rfl) hk)
  clear h hnil hu
  go_enter Tryd.func16, Tryd.ntmps16
  go_wp2_with (go_at_call 57; refine HL.out.mono ?_; rintro e w1 ⟨g, cap1, rfl, h1, h2⟩; have H1 := hide (And.intro h1 h2); clear h1 h2 HL)
  go_ret
  exact ⟨g, cap1, rfl, H1.out⟩

set_option maxRecDepth 100000 in
theorem back_any {S : Nat → Prop} (v : Value) (k N base g cap : Nat) (w : World) (h : RowX S w v k N) (hk : k ≤ 1000000) (hL : LentU32 w base g cap k (dg N)) :
    Calls Tryd.prog 26 #[.slice (some ⟨g, 0, none⟩) k cap, v] w fun e w' => e = .returned (.bool true) ∧ Only g 0 k w w' := by
  obtain ⟨p, c, rfl, hc, hu, _⟩ := h.urow
  have HBA := hide (backU32_any base g cap k p c (dg N) w hk hL hu)
  have HOV : Hid (∀ m, Calls Tryd.prog 63 #[.slice (some ⟨g, 0, none⟩) k cap] (w.drewN m) fun e w' => e = .returned (.tuple #[]) ∧ Only g 0 k (w.drewN m) w') := fun m => overU32_any base g cap k (dg N) (w.drewN m) hk (hL.below (below_drewN (Below.refl _ _) m))
  clear h hu hL
  go_enter Tryd.func26, Tryd.ntmps26
  go_wp2_with (first
    | (go_at_call 62; refine HBA.out.mono ?_; rintro e w1 ⟨rfl, m, rfl⟩; clear HBA)
    | (go_at_call 63; refine (HOV.out m).mono ?_; rintro e w2 ⟨rfl, h2⟩; have H2 := hide h2; clear h2 HOV))
  go_ret
  refine ⟨rfl, ?_⟩
  obtain ⟨a, b, c, d, e, f, g⟩ := H2.out
  exact ⟨a, b, c, d, e, f, g⟩

end Go.Proofs.YtmfimhpbdbbpoaaDoor

/- A label in memory of its own; the sorting of labels. -/
import Derived.Test.YtgcmdbpanfeaaabGreatDoorL2D
namespace Go.Proofs.YtgcmdbpanfeaaabGreatDoor
open Go.RowKit
set_option linter.unusedVariables false
set_option linter.unusedSimpArgs false

set_option maxRecDepth 100000 in
theorem load_lab (w : World) (g o : Nat) (x y : Value) (c0 : w.cell? ⟨g, o, none⟩ = some x) (c1 : w.cell? ⟨g, o + 1, none⟩ = some y) : (loadVar 34 ⟨g, o, none⟩).run Tryz.prog w = .ok (.agg #[x, y]) w := by
  go_simp

theorem results_lab1 {fn : Func} {p : Tmp} (h : fn.results = #[.cell p 34]) (tmps : Array Value) (w : World) (g : Nat) (hp : tmps.getD p undef = .pointer (some ⟨g, 0, none⟩)) (x y : Value)
    (c0 : w.cell? ⟨g, 0, none⟩ = some x) (c1 : w.cell? ⟨g, 1, none⟩ = some y) : (results fn tmps).run Tryz.prog w = .ok (.agg #[x, y]) w := by
  have hp' : tmps[p]?.getD undef = .pointer (some ⟨g, 0, none⟩) := by simpa using hp
  simp [results, h, hp', asAddr, load_lab w g 0 x y c0 c1]

set_option maxRecDepth 100000 in
theorem sClone_any (s : ByteArray) (w : World) (hlim : s.size ≤ 1000000000) : Calls Tryz.prog 38 #[.string s] w fun e w' => e = .returned (.string s) ∧ Below w.heap.size w w' := by
  have HC := hide (lay_stringslite_Clone s w (by omega))
  go_enter Tryz.func38, Tryz.ntmps38
  go_wp2_with (go_at_call 58; refine HC.out.mono ?_; rintro e w2 ⟨rfl, hb⟩)
  go_ret
  exact ⟨rfl, hb⟩

set_option maxRecDepth 100000 in
set_option maxHeartbeats 1000000 in
theorem own_any (x y : ByteArray) (w : World) (h1 : x.size ≤ 1000000000) (h2 : y.size ≤ 1000000000) : Calls Tryz.prog 22 #[.agg #[.string x, .string y]] w fun e w' => e = .returned (.agg #[.string x, .string y]) ∧ Below w.heap.size w w' := by
  have HC1 := hide (fun w => sClone_any x w h1)
  have HC2 := hide (fun w => sClone_any y w h2)
  obtain ⟨W, hW⟩ : ∃ W, (w.alloc (.cells #[.string x, .string y] 34)).alloc (.cells #[.string ⟨#[]⟩, .string ⟨#[]⟩] 34) = W := ⟨_, rfl⟩
  have HF : Hid (∀ w', Below W.heap.size W w' → w'.cell? ⟨w.heap.size, 0, none⟩ = some (.string x) ∧ w'.cell? ⟨w.heap.size, 1, none⟩ = some (.string y) ∧ w'.cell? ⟨w.heap.size + 1, 0, none⟩ = some (.string ⟨#[]⟩) ∧ w'.cell? ⟨w.heap.size + 1, 1, none⟩ = some (.string ⟨#[]⟩) ∧ w'.frozen? ⟨w.heap.size + 1, 0, none⟩ = false ∧ w'.frozen? ⟨w.heap.size + 1, 1, none⟩ = false) := by
    intro w' hb
    have hs : W.heap.size = w.heap.size + 2 := by rw [← hW]; simp
    rw [hb.cell (p := ⟨w.heap.size, 0, none⟩) (by simp; omega), hb.cell (p := ⟨w.heap.size, 1, none⟩) (by simp; omega), hb.cell (p := ⟨w.heap.size + 1, 0, none⟩) (by simp; omega), hb.cell (p := ⟨w.heap.size + 1, 1, none⟩) (by simp; omega), hb.frozen (p := ⟨w.heap.size + 1, 0, none⟩) (by simp; omega), hb.frozen (p := ⟨w.heap.size + 1, 1, none⟩) (by simp; omega), ← hW]
    simp
  have HBW : Hid (Below w.heap.size w W ∧ w.heap.size + 2 = W.heap.size) := hide (by rw [← hW]; exact ⟨((Below.refl _ _).alloc (Nat.le_refl _) _).alloc (by simp) _, by simp⟩)
  go_enter Tryz.func22, Tryz.ntmps22
  go_wp2_with fail
  have g0 := HF.out W (Below.refl _ _)
  obtain ⟨a0, a1, a2, a3, a4, a5⟩ := g0
  clear hW
  go_region_with (first
    | (go_at_call 38; refine (HC1.out _).mono ?_; rintro e w2 ⟨rfl, hb⟩; have HB2 : Hid (Below W.heap.size W w2) := ((Below.refl _ _).drew).trans hb; obtain ⟨b0, b1, b2, b3, b4, b5⟩ := HF.out w2 HB2.out; clear hb)
    | (go_at_call 38; refine (HC2.out _).mono ?_; rintro e w3 ⟨rfl, hb⟩; have HB3 : Hid (Below W.heap.size W w3) := HB2.out.trans (hb.mono HB2.out.size); obtain ⟨c0, c1, c2, c3, c4, c5⟩ := HF.out w3 HB3.out; clear hb))
  all_goals go_wp2_with fail
  all_goals
    refine ⟨rfl, _, results_lab1 rfl _ _ (w.heap.size + 1) rfl (.string x) (.string y) ?_ ?_, rfl, ?_⟩
    · rw [cell_setCell_ne _ _ _ _ _ (by decide), cell_setCell_eq _ _ _ _ _ (by assumption)]
    · rw [cell_setCell_eq _ _ _ _ (.string ⟨#[]⟩) (by rw [cell_setCell_ne _ _ _ _ _ (by decide)]; assumption)]
    · have hb := HB3.out
      have hs := HBW.out
      exact ((hs.1.trans (hb.mono hs.1.size)).setCell (by simp) _).setCell (by simp) _

end Go.Proofs.YtgcmdbpanfeaaabGreatDoor

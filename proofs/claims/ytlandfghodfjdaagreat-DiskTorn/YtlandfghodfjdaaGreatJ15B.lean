/- The law's others: what is the same but for two names. -/
import Derived.Test.YtlandfghodfjdaaGreatJ12Z
namespace Go.Proofs.YtlandfghodfjdaaGreat
open Go.RowKit
set_option linter.unusedVariables false
set_option linter.unusedSimpArgs false

set_option maxRecDepth 100000 in
set_option maxHeartbeats 4000000 in
theorem others_any (vA vB : Value) (xs ys : List Value) (fs gs : List (ByteArray × List Nat)) (but nor : ByteArray) (w : World) (ha : FilesR w vA xs fs) (hb : FilesR w vB ys gs) (hla : fs.length ≤ 1000000) (hlb : gs.length ≤ 1000000) (ra : RowsR w xs fs) (hf : ∀ x ∈ fs, x.2.length ≤ 140737488355328)
    (H1 : ∀ i, i < fs.length → (fs.getD i (.empty, [])).1 ≠ but → (fs.getD i (.empty, [])).1 ≠ nor → ∃ u, lookF gs ys (fs.getD i (.empty, [])).1 = some u ∧ IsBy w u (fs.getD i (.empty, [])).2)
    (H2 : ∀ i, i < gs.length → (gs.getD i (.empty, [])).1 ≠ but → (gs.getD i (.empty, [])).1 ≠ nor → (lookF fs xs (gs.getD i (.empty, [])).1).isSome = true) :
    Calls Tryz.prog 37 #[vA, vB, .string but, .string nor] w fun e w' => e = .returned (.bool true) ∧ Below w.heap.size w w' := by
  have HFA : Hid (∀ nm w', Below w.heap.size w w' → Calls Tryz.prog 13 #[vA, .string nm] w' fun e w2 => e = .returned (.tuple #[(lookF fs xs nm).getD (.slice none 0 0), .bool (lookF fs xs nm).isSome]) ∧ Below w.heap.size w w2) := fun nm w' hw => (file_any vA xs fs nm w' (ha.below hw) hla).mono (by rintro e w2 ⟨rfl, N, rfl⟩; exact ⟨rfl, below_drewN hw N⟩)
  have HFB : Hid (∀ nm w', Below w.heap.size w w' → Calls Tryz.prog 13 #[vB, .string nm] w' fun e w2 => e = .returned (.tuple #[(lookF gs ys nm).getD (.slice none 0 0), .bool (lookF gs ys nm).isSome]) ∧ Below w.heap.size w w2) := fun nm w' hw => (file_any vB ys gs nm w' (hb.below hw) hlb).mono (by rintro e w2 ⟨rfl, N, rfl⟩; exact ⟨rfl, below_drewN hw N⟩)
  obtain ⟨hva, pa, ca, rfl, hca⟩ := ha
  obtain ⟨hvb, pb, cb, rfl, hcb⟩ := hb
  have HCA := hide hca
  have HCB := hide hcb
  have RA := hide ra
  have HF := hide hf
  have HH1 := hide H1
  have HH2 := hide H2
  obtain ⟨na, hna⟩ : ∃ na, fs.length = na := ⟨_, rfl⟩
  obtain ⟨nb, hnb⟩ : ∃ nb, gs.length = nb := ⟨_, rfl⟩
  have HLA := hide hna
  have HLB := hide hnb
  rw [hna] at hla HFA ⊢
  rw [hnb] at hlb HFB ⊢
  clear hva hvb hca hcb ra hf H1 H2 hna hnb
  go_enter Tryz.func37, Tryz.ntmps37
  go_wp2_with fail
  go_loopw [9] (fun t5 wr => ∃ (k : Nat), t5 = .int .i64 (k : Int) ∧ k ≤ na ∧ Hid (Below w.heap.size w wr)) (fun t5 _ => na - (intOf t5).toNat)
  case atStart => exact ⟨0, rfl, Nat.zero_le _, Below.refl _ _⟩
  case round =>
    obtain ⟨k, rfl, hk, HW⟩ := hrel
    by_cases hlt : k < na
    · have hlt' : (k : Int) < (na : Int) := by omega
      have HK : Hid (k < fs.length) := by show _ < _; rw [HLA.out]; exact hlt
      obtain ⟨g, o, hp, k1, k2⟩ := HCA.out k HK.out
      subst hp
      have hh := HH1.out k HK.out
      have hra := RA.out k HK.out
      obtain ⟨x, hx⟩ : ∃ x, fs.getD k (.empty, []) = x := ⟨_, rfl⟩
      have hxl : x.2.length ≤ 140737488355328 := HF.out x (by rw [← hx]; simp [List.getD, List.getElem?_eq_getElem HK.out])
      obtain ⟨u, hu⟩ : ∃ u, xs.getD k (.slice none 0 0) = u := ⟨_, rfl⟩
      rw [hx] at k1 hh hra
      rw [hu] at k2 hra
      obtain ⟨nm, bs⟩ := x
      have l1 : wr.cell? ⟨g, o + k * 2, none⟩ = some (.string nm) := (HW.out.cell (World.block_lt_of_cell? _ _ k1)).trans k1
      have l2 : wr.cell? ⟨g, o + k * 2 + 1, none⟩ = some u := (HW.out.cell (World.block_lt_of_cell? _ _ k2)).trans k2
      have c1 : w.cell? ⟨g, o + k * 2, none⟩ = some (.string nm) := k1
      have c2 : w.cell? ⟨g, o + k * 2 + 1, none⟩ = some u := k2
      have HC1 := hide c1
      have HC2 := hide c2
      have HR := hide hra
      have HXL := hide hxl
      clear k1 k2 hx hu c1 c2 hra hxl
      by_cases he : nm = but
      · subst he
        clear hh
        go_wp2_with (go_at_call 13; refine (HFB.out _ _ HW.out).mono ?_; rintro e wa ⟨rfl, hb⟩; have HA := hide hb; have m1 : wa.cell? ⟨g, o + k * 2, none⟩ = some (.string nm) := (hb.cell (World.block_lt_of_cell? _ _ HC1.out)).trans HC1.out; clear hb l1 l2)
        go_roundw
        case rel => exact ⟨k + 1, by simp, by omega, HA.out⟩
        case measure => simp [intOf]; omega
      · have hne := str_ne he
        by_cases he2 : nm = nor
        · subst he2
          clear hh
          go_wp2_with (first | (simp only [hne]) | (go_at_call 13; refine (HFB.out _ _ HW.out).mono ?_; rintro e wa ⟨rfl, hb⟩; have HA := hide hb; have m1 : wa.cell? ⟨g, o + k * 2, none⟩ = some (.string nm) := (hb.cell (World.block_lt_of_cell? _ _ HC1.out)).trans HC1.out; clear hb l1 l2))
          go_roundw
          case rel => exact ⟨k + 1, by simp, by omega, HA.out⟩
          case measure => simp [intOf]; omega
        · have hne2 := str_ne he2
          obtain ⟨y, hy1, hy2⟩ := hh he he2
          have HY := hide hy2
          have HFX : Hid (∀ w', Below w.heap.size w w' → Calls Tryz.prog 13 #[.slice pb nb cb, .string nm] w' fun e w2 => e = .returned (.tuple #[y, .bool true]) ∧ Below w.heap.size w w2) := fun w' hw => by
            have := HFB.out nm w' hw
            rw [hy1] at this
            exact this
          have HEQ : Hid (∀ w', Below w.heap.size w w' → Calls Tryz.prog 38 #[y, u] w' fun e w2 => e = .returned (.bool true) ∧ Below w.heap.size w w2) := fun w' hw => (eq_same _ _ bs w' (isBy_below HY.out hw) (isBy_below HR.out hw) HXL.out).mono (by rintro e w2 ⟨rfl, N, rfl⟩; exact ⟨rfl, below_drewN hw N⟩)
          clear hh hy1 hy2
          go_wp2_with (first | (simp only [hne]) | (simp only [hne2]) | (go_at_call 13; refine (HFX.out _ HW.out).mono ?_; rintro e wa ⟨rfl, hb⟩; have HA := hide hb; have m1 : wa.cell? ⟨g, o + k * 2, none⟩ = some (.string nm) := (hb.cell (World.block_lt_of_cell? _ _ HC1.out)).trans HC1.out; have m2 : wa.cell? ⟨g, o + k * 2 + 1, none⟩ = some u := (hb.cell (World.block_lt_of_cell? _ _ HC2.out)).trans HC2.out; clear hb l1 l2) | (go_at_call 38; refine (HEQ.out _ HA.out).mono ?_; rintro e wb ⟨rfl, hb⟩; have HB := hide hb; clear hb m1 m2))
          go_roundw
          case rel => exact ⟨k + 1, by simp, by omega, HB.out⟩
          case measure => simp [intOf]; omega
    · have hlt' : ¬ (k : Int) < (na : Int) := by omega
      have HW0 := hide HW.out
      clear HW
      go_wp2_with fail
      go_loopw [12] (fun t8 wq => ∃ (j : Nat), t8 = .int .i64 (j : Int) ∧ j ≤ nb ∧ Hid (Below w.heap.size w wq)) (fun t8 _ => nb - (intOf t8).toNat)
      case atStart => exact ⟨0, rfl, Nat.zero_le _, HW0.out⟩
      case round =>
        obtain ⟨j, rfl, hj, HW⟩ := hrel
        by_cases hltj : j < nb
        · have hltj' : (j : Int) < (nb : Int) := by omega
          have HK : Hid (j < gs.length) := by show _ < _; rw [HLB.out]; exact hltj
          obtain ⟨g, o, hp, k1, k2⟩ := HCB.out j HK.out
          subst hp
          have hh := HH2.out j HK.out
          obtain ⟨nm, hx⟩ : ∃ nm, (gs.getD j (.empty, [])).1 = nm := ⟨_, rfl⟩
          rw [hx] at k1 hh
          have l1 : wr.cell? ⟨g, o + j * 2, none⟩ = some (.string nm) := (HW.out.cell (World.block_lt_of_cell? _ _ k1)).trans k1
          have HC1 := hide k1
          clear k1 k2 hx
          by_cases he : nm = but
          · subst he
            clear hh
            go_wp2_with (go_at_call 13; refine (HFA.out _ _ HW.out).mono ?_; rintro e wa ⟨rfl, hb⟩; have HA := hide hb; have m1 : wa.cell? ⟨g, o + j * 2, none⟩ = some (.string nm) := (hb.cell (World.block_lt_of_cell? _ _ HC1.out)).trans HC1.out; clear hb l1)
            go_roundw
            case rel => exact ⟨j + 1, by simp, by omega, HA.out⟩
            case measure => simp [intOf]; omega
          · have hne := str_ne he
            by_cases he2 : nm = nor
            · subst he2
              clear hh
              go_wp2_with (first | (simp only [hne]) | (go_at_call 13; refine (HFA.out _ _ HW.out).mono ?_; rintro e wa ⟨rfl, hb⟩; have HA := hide hb; have m1 : wa.cell? ⟨g, o + j * 2, none⟩ = some (.string nm) := (hb.cell (World.block_lt_of_cell? _ _ HC1.out)).trans HC1.out; clear hb l1))
              go_roundw
              case rel => exact ⟨j + 1, by simp, by omega, HA.out⟩
              case measure => simp [intOf]; omega
            · have hne2 := str_ne he2
              have hs := hh he he2
              have HFX : Hid (∀ w', Below w.heap.size w w' → Calls Tryz.prog 13 #[.slice pa na ca, .string nm] w' fun e w2 => ∃ y, e = .returned (.tuple #[y, .bool true]) ∧ Below w.heap.size w w2) := fun w' hw => by
                have := HFA.out nm w' hw
                rw [hs] at this
                exact this.mono (by rintro e w2 ⟨rfl, hb⟩; exact ⟨_, rfl, hb⟩)
              clear hh hs
              go_wp2_with (first | (simp only [hne]) | (simp only [hne2]) | (go_at_call 13; refine (HFX.out _ HW.out).mono ?_; rintro e wa ⟨y, rfl, hb⟩; have HA := hide hb; have m1 : wa.cell? ⟨g, o + j * 2, none⟩ = some (.string nm) := (hb.cell (World.block_lt_of_cell? _ _ HC1.out)).trans HC1.out; clear hb l1))
              go_roundw
              case rel => exact ⟨j + 1, by simp, by omega, HA.out⟩
              case measure => simp [intOf]; omega
        · have hltj' : ¬ (j : Int) < (nb : Int) := by omega
          go_wp2_with fail
          go_ret
          exact ⟨rfl, HW.out⟩

end Go.Proofs.YtlandfghodfjdaaGreat

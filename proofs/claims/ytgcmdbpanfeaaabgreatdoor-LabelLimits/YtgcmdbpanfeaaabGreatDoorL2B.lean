/- Are two rows of labels alike? -/
import Derived.Test.YtgcmdbpanfeaaabGreatDoorL2A
namespace Go.Proofs.YtgcmdbpanfeaaabGreatDoor
open Go.RowKit
set_option linter.unusedVariables false
set_option linter.unusedSimpArgs false

theorem bel_drewN {B : Nat} {a w : World} (h : Below B a w) (q : Nat) : Below B a (w.drewN q) := ⟨h.os, h.tape, h.output, h.size, h.block⟩

theorem str_eq_iff (x y : ByteArray) : (x.toList == y.toList) = decide (x = y) := by
  by_cases h : x = y
  · subst h; simp
  · rw [str_ne h]; simp [h]

set_option maxRecDepth 100000 in
theorem sEqual_any (p : Option Addr) (n c : Nat) (L : List Lab) (q : Option Addr) (m d : Nat) (M : List Lab) (w : World) (h : LR w p L) (h2 : LR w q M) (hn : L.length = n) (hm : M.length = m) (hl : n ≤ 1000000000) (hl2 : m ≤ 1000000000) :
    Calls Tryz.prog 43 #[.slice p n c, .slice q m d] w fun e w' => e = .returned (.bool (decide (L = M))) ∧ Below w.heap.size w w' := by
  have HL := hide h
  have HM := hide h2
  have HN := hide hn
  have HN2 := hide hm
  clear h h2 hn hm
  by_cases hnm : n = m
  · subst hnm
    obtain ⟨V, hV⟩ : ∃ V, decide (L = M) = V := ⟨_, rfl⟩
    have HV := hide hV
    rw [hV]
    clear hV
    go_enter Tryz.func43, Tryz.ntmps43
    go_wp2_with fail
    go_loopw [13] (fun t13 wr => ∃ i : Nat, i ≤ n ∧ t13 = .int .i64 i ∧ Hid (Below w.heap.size w wr ∧ V = decide (L.drop i = M.drop i))) (fun t13 _ => n - (intOf t13).toNat)
    case atStart => exact ⟨0, by omega, rfl, Below.refl _ _, by rw [List.drop_zero, List.drop_zero]; exact HV.out.symm⟩
    case round =>
      obtain ⟨i, hi, rfl, HI⟩ := hrel
      by_cases hlt : i < n
      · have hz : (i : Int) < (n : Int) := by omega
        have hil : i < L.length := by have := HN.out; omega
        have him : i < M.length := by have := HN2.out; omega
        obtain ⟨b, o, rfl, hc⟩ := HL.out (by omega)
        obtain ⟨b2, o2, rfl, hc2⟩ := HM.out (by omega)
        obtain ⟨c1, c2⟩ := hc i hil
        obtain ⟨c3, c4⟩ := hc2 i him
        have e1 := HI.out.1.cell (p := ⟨b, o + i * 2, none⟩) (block_lt_of_cell c1)
        have e2 := HI.out.1.cell (p := ⟨b, o + i * 2 + 1, none⟩) (block_lt_of_cell c2)
        have e3 := HI.out.1.cell (p := ⟨b2, o2 + i * 2, none⟩) (block_lt_of_cell c3)
        have e4 := HI.out.1.cell (p := ⟨b2, o2 + i * 2 + 1, none⟩) (block_lt_of_cell c4)
        rw [c1] at e1
        rw [c2] at e2
        rw [c3] at e3
        rw [c4] at e4
        obtain ⟨x, hx⟩ : ∃ x, (L.getD i lab0).1 = x := ⟨_, rfl⟩
        obtain ⟨y, hy⟩ : ∃ y, (L.getD i lab0).2 = y := ⟨_, rfl⟩
        obtain ⟨u, hu⟩ : ∃ u, (M.getD i lab0).1 = u := ⟨_, rfl⟩
        obtain ⟨v, hv⟩ : ∃ v, (M.getD i lab0).2 = v := ⟨_, rfl⟩
        have HD : Hid (V = (decide (x = u ∧ y = v) && decide (L.drop (i + 1) = M.drop (i + 1)))) := by
          have h := HI.out.2
          rw [getD_cons L i hil, getD_cons M i him] at h
          rw [h, ← hx, ← hy, ← hu, ← hv]
          exact hide (by
            rw [Bool.eq_iff_iff]
            simp [Prod.ext_iff, and_assoc])
        rw [hx] at e1
        rw [hy] at e2
        rw [hu] at e3
        rw [hv] at e4
        have HB := hide HI.out.1
        clear c1 c2 c3 c4 hc hc2 HI hx hy hu hv
        by_cases hxu : x = u
        · by_cases hyv : y = v
          · subst hxu
            subst hyv
            have HD2 : Hid (V = decide (L.drop (i + 1) = M.drop (i + 1))) := hide (by have := HD.out; simpa using this)
            clear HD
            go_wp2_with fail
            go_quiet (fail)
            go_wp2_with fail
            go_roundw
            case rel => exact ⟨i + 1, by omega, by go_num, bel_drewN HB.out _, HD2.out⟩
            case measure => simp [intOf]; omega
          · subst hxu
            have hne := str_ne hyv
            have hv : V = false := by have := HD.out; simpa [hyv] using this
            subst hv
            clear HD hyv
            go_wp2_with fail
            go_quiet (fail)
            go_wp2_with fail
            go_ret
            exact ⟨rfl, bel_drewN HB.out _⟩
        · have hne := str_ne hxu
          have hv : V = false := by have := HD.out; simpa [hxu] using this
          subst hv
          clear HD hxu
          go_wp2_with fail
          go_quiet (fail)
          go_wp2_with fail
          go_ret
          exact ⟨rfl, bel_drewN HB.out _⟩
      · have hz : ¬ (i : Int) < (n : Int) := by omega
        have hv : V = true := by
          have := HI.out.2
          rw [List.drop_eq_nil_of_le (by have := HN.out; omega), List.drop_eq_nil_of_le (by have := HN2.out; omega)] at this
          simpa using this
        subst hv
        have HB := hide HI.out.1
        clear HI HV
        go_wp2_with fail
        go_ret
        exact ⟨rfl, HB.out⟩
  · have hnz : ¬ (n : Int) = (m : Int) := by omega
    have hne : ((n : Int) != (m : Int)) = true := by simp; omega
    have hv : decide (L = M) = false := by
      rw [decide_eq_false_iff_not]
      intro e
      have := congrArg List.length e
      have := HN.out; have := HN2.out
      omega
    rw [hv]
    go_enter Tryz.func43, Tryz.ntmps43
    go_wp2_with fail
    go_ret
    exact ⟨rfl, Below.refl _ _⟩

set_option maxRecDepth 100000 in
theorem Equal_any (p : Option Addr) (n c : Nat) (L : List Lab) (q : Option Addr) (m d : Nat) (M : List Lab) (w : World) (h : LR w p L) (h2 : LR w q M) (hn : L.length = n) (hm : M.length = m) (hl : n ≤ 1000000000) (hl2 : m ≤ 1000000000) :
    Calls Tryz.prog 27 #[.slice p n c, .slice q m d] w fun e w' => e = .returned (.bool (decide (L = M))) ∧ Below w.heap.size w w' := by
  have HE := hide (sEqual_any p n c L q m d M w h h2 hn hm hl hl2)
  go_enter Tryz.func27, Tryz.ntmps27
  go_wp2_with (go_at_call 43; refine HE.out.mono ?_; rintro e w2 ⟨rfl, hb⟩)
  go_ret
  exact ⟨rfl, hb⟩

end Go.Proofs.YtgcmdbpanfeaaabGreatDoor

/- Are labels in the one form? -/
import Derived.Test.YtgcmdbpanfeaaabGreatDoorL2B
namespace Go.Proofs.YtgcmdbpanfeaaabGreatDoor
open Go.RowKit
set_option linter.unusedVariables false
set_option linter.unusedSimpArgs false

/-- May a label stand in a set? -/
def labOk (x : Lab) : Bool := nameOk (bytesN x.1) && (valueOk (bytesN x.2) && decide (x.2.size ≠ 0))
def leqS (a b : ByteArray) : Bool := Op.bytesLess a.toList b.toList || a.toList == b.toList
/-- From place i on. -/
def setF (L : List Lab) : Nat → Nat → Bool
  | 0, _ => true
  | f + 1, i => labOk (L.getD i lab0) && (!(decide (0 < i) && leqS (L.getD i lab0).1 (L.getD (i - 1) lab0).1) && setF L f (i + 1))
/-- Are labels in the one form? -/
def setOk (L : List Lab) : Bool := decide (L.length ≤ 16) && setF L L.length 0

set_option maxRecDepth 100000 in
set_option maxHeartbeats 1000000 in
theorem isSet_any (p : Option Addr) (n c : Nat) (L : List Lab) (w : World) (h : LR w p L) (hn : L.length = n) (hl : n ≤ 1000000000) (hs : ∀ x ∈ L, x.1.size ≤ 1000000000 ∧ x.2.size ≤ 1000000000) (hT : UT w) :
    Calls Tryz.prog 32 #[.slice p n c] w fun e w' => e = .returned (.bool (setOk L)) ∧ Below w.heap.size w w' := by
  have HL := hide h
  have HN := hide hn
  have HT := hide hT
  have HS : Hid (∀ i, (L.getD i lab0).1.size ≤ 1000000000 ∧ (L.getD i lab0).2.size ≤ 1000000000) := by
    intro i
    by_cases hi : i < L.length
    · have e : L.getD i lab0 = L[i] := by simp [List.getD, hi]
      rw [e]; exact hs _ (List.getElem_mem hi)
    · have e : L.getD i lab0 = lab0 := by simp [List.getD, hi]
      rw [e]; exact ⟨Nat.zero_le _, Nat.zero_le _⟩
  clear h hT hs
  by_cases h16 : n ≤ 16
  · have hz16 : ¬ (16 : Int) < (n : Int) := by omega
    have hV : setOk L = setF L n 0 := by unfold setOk; rw [hn, decide_eq_true h16]; rfl
    rw [hV]
    obtain ⟨V, hV⟩ : ∃ V, setF L n 0 = V := ⟨_, rfl⟩
    have HV := hide hV
    rw [hV]
    clear hV hn
    go_enter Tryz.func32, Tryz.ntmps32
    go_wp2_with fail
    go_loopw [10] (fun t10 wr => ∃ i : Nat, i ≤ n ∧ t10 = .int .i64 i ∧ Hid (Below w.heap.size w wr ∧ V = setF L (n - i) i)) (fun t10 _ => n - (intOf t10).toNat)
    case atStart => exact ⟨0, by omega, rfl, Below.refl _ _, HV.out.symm⟩
    case round =>
      obtain ⟨i, hi, rfl, HI⟩ := hrel
      by_cases hlt : i < n
      · have hz : (i : Int) < (n : Int) := by omega
        have hil : i < L.length := by have := HN.out; omega
        obtain ⟨b, o, rfl, hc⟩ := HL.out (by omega)
        obtain ⟨c1, c2⟩ := hc i hil
        have e1 := HI.out.1.cell (p := ⟨b, o + i * 2, none⟩) (block_lt_of_cell c1)
        have e2 := HI.out.1.cell (p := ⟨b, o + i * 2 + 1, none⟩) (block_lt_of_cell c2)
        rw [c1] at e1
        rw [c2] at e2
        have HCP : Hid (0 < i → wr.cell? ⟨b, o + (i - 1) * 2, none⟩ = some (.string (L.getD (i - 1) lab0).1)) := fun h => by
          have c3 := (hc (i - 1) (by omega)).1
          have e3 := HI.out.1.cell (p := ⟨b, o + (i - 1) * 2, none⟩) (block_lt_of_cell c3)
          rw [c3] at e3; exact e3
        obtain ⟨k, hk⟩ : ∃ k, n - i = k + 1 := ⟨n - i - 1, by omega⟩
        have HD : Hid (V = (labOk (L.getD i lab0) && (!(decide (0 < i) && leqS (L.getD i lab0).1 (L.getD (i - 1) lab0).1) && setF L k (i + 1)))) := by
          have h := HI.out.2
          rw [hk] at h; exact h
        have HS1 := hide (HS.out i)
        obtain ⟨x, hx⟩ : ∃ x, (L.getD i lab0).1 = x := ⟨_, rfl⟩
        obtain ⟨y, hy⟩ : ∃ y, (L.getD i lab0).2 = y := ⟨_, rfl⟩
        obtain ⟨z, hz2⟩ : ∃ z, (L.getD (i - 1) lab0).1 = z := ⟨_, rfl⟩
        have hok : labOk (L.getD i lab0) = (nameOk (bytesN x) && (valueOk (bytesN y) && decide (y.size ≠ 0))) := by rw [← hx, ← hy]; rfl
        rw [hok, hx, hz2] at HD
        rw [hx] at e1
        rw [hy] at e2
        rw [hx, hy] at HS1
        rw [hz2] at HCP
        have ha : Below w.heap.size w (wr.alloc (.cells #[.string x, .string y] 34)) := HI.out.1.alloc HI.out.1.size _
        have HA := hide ha
        have HNm := hide (fun w => isName_any x w (by have := HS1.out; omega))
        have HVl := hide (fun w h => isValue_any y w h (by have := HS1.out; omega))
        obtain ⟨NO, hNO⟩ : ∃ v, nameOk (bytesN x) = v := ⟨_, rfl⟩
        obtain ⟨VO, hVO⟩ : ∃ v, valueOk (bytesN y) = v := ⟨_, rfl⟩
        rw [hNO] at HNm HD
        rw [hVO] at HVl HD
        clear c1 c2 hc HI hx hy ha hok hNO hVO hz2
        cases NO with
        | false =>
          have hv : V = false := HD.out
          subst hv
          clear HD
          go_wp2_with (go_at_call 36; refine (HNm.out _).mono ?_; rintro e w2 ⟨rfl, rfl⟩)
          go_ret
          exact ⟨rfl, HA.out⟩
        | true =>
        cases VO with
        | false =>
          have hv : V = false := HD.out
          subst hv
          clear HD
          go_wp2_with (first
            | (go_at_call 36; refine (HNm.out _).mono ?_; rintro e w2 ⟨rfl, rfl⟩)
            | (go_at_call 37; refine (HVl.out _ (HT.out.below HA.out)).mono ?_; rintro e w3 ⟨rfl, hb⟩; have HB3 := hide (HA.out.trans (hb.mono HA.out.size)); clear hb))
          go_ret
          exact ⟨rfl, HB3.out⟩
        | true =>
        by_cases h0 : y.size = 0
        · have hv : V = false := by have := HD.out; simpa [h0] using this
          have e := str_empty h0
          subst e
          subst hv
          clear HD
          go_wp2_with (first
            | (go_at_call 36; refine (HNm.out _).mono ?_; rintro e w2 ⟨rfl, rfl⟩)
            | (go_at_call 37; refine (HVl.out _ (HT.out.below HA.out)).mono ?_; rintro e w3 ⟨rfl, hb⟩; have HB3 := hide (HA.out.trans (hb.mono HA.out.size)); have ey := hb.cell (p := ⟨wr.heap.size, 1, none⟩) (by simp); clear hb))
          go_ret
          exact ⟨rfl, HB3.out⟩
        · have hne := str_nonempty h0
          have hne' : ¬ y.toList = [] := by simpa using hne
          have HD2 : Hid (V = (!(decide (0 < i) && leqS x z) && setF L k (i + 1))) := hide (by have := HD.out; simpa [h0] using this)
          have hkk : n - (i + 1) = k := by omega
          clear HD h0
          by_cases hi0 : 0 < i
          · have hi0z : (0 : Int) < (i : Int) := by omega
            have hi0z' : decide ((0 : Int) < (i : Int)) = true := by simp; omega
            have cz := HCP.out hi0
            obtain ⟨j, hj⟩ : ∃ j, i - 1 = j := ⟨_, rfl⟩
            have hjz : (i : Int) - 1 = (j : Int) := by omega
            have hjn : (j : Int) < (n : Int) := by omega
            rw [hj] at cz
            have HCZ := hide cz
            clear HCP cz
            obtain ⟨Q, hQ⟩ : ∃ Q, leqS x z = Q := ⟨_, rfl⟩
            have hq : (Op.bytesLess x.toList z.toList || x.toList == z.toList) = Q := hQ
            rw [hQ] at HD2
            clear hQ
            cases Q with
            | true =>
              have hv : V = false := by have := HD2.out; simpa [hi0] using this
              subst hv
              clear HD2
              go_wp2_with (first
                | (go_at_call 36; refine (HNm.out _).mono ?_; rintro e w2 ⟨rfl, rfl⟩)
                | (go_at_call 37; refine (HVl.out _ (HT.out.below HA.out)).mono ?_; rintro e w3 ⟨rfl, hb⟩; have HB3 := hide (HA.out.trans (hb.mono HA.out.size)); have ex := hb.cell (p := ⟨wr.heap.size, 0, none⟩) (by simp); have ey := hb.cell (p := ⟨wr.heap.size, 1, none⟩) (by simp); have ez := (hb.cell (p := ⟨b, o + j * 2, none⟩) (by have := block_lt_of_cell HCZ.out; simp at this ⊢; omega)).trans ((World.cell?_of_block (w := wr) (Below.heap_alloc _ _ _ (block_lt_of_cell HCZ.out))).trans HCZ.out); clear hb))
              go_quiet (fail)
              go_wp2_with fail
              go_ret
              exact ⟨rfl, bel_drewN HB3.out _⟩
            | false =>
              have HD3 : Hid (V = setF L k (i + 1)) := hide (by have := HD2.out; simpa [hi0] using this)
              clear HD2
              go_wp2_with (first
                | (go_at_call 36; refine (HNm.out _).mono ?_; rintro e w2 ⟨rfl, rfl⟩)
                | (go_at_call 37; refine (HVl.out _ (HT.out.below HA.out)).mono ?_; rintro e w3 ⟨rfl, hb⟩; have HB3 := hide (HA.out.trans (hb.mono HA.out.size)); have ex := hb.cell (p := ⟨wr.heap.size, 0, none⟩) (by simp); have ey := hb.cell (p := ⟨wr.heap.size, 1, none⟩) (by simp); have ez := (hb.cell (p := ⟨b, o + j * 2, none⟩) (by have := block_lt_of_cell HCZ.out; simp at this ⊢; omega)).trans ((World.cell?_of_block (w := wr) (Below.heap_alloc _ _ _ (block_lt_of_cell HCZ.out))).trans HCZ.out); clear hb))
              go_quiet (fail)
              go_wp2_with fail
              go_roundw
              case rel => exact ⟨i + 1, by omega, by go_num, bel_drewN HB3.out _, by rw [hkk]; exact HD3.out⟩
              case measure => simp [intOf]; omega
          · have hi0z' : decide ((0 : Int) < (i : Int)) = false := by simp; omega
            have hi0y : decide (0 < i) = false := by simp; omega
            have HD3 : Hid (V = setF L k (i + 1)) := hide (by have := HD2.out; simpa [hi0] using this)
            clear HD2 HCP hi0
            go_wp2_with (first
              | (go_at_call 36; refine (HNm.out _).mono ?_; rintro e w2 ⟨rfl, rfl⟩)
              | (go_at_call 37; refine (HVl.out _ (HT.out.below HA.out)).mono ?_; rintro e w3 ⟨rfl, hb⟩; have HB3 := hide (HA.out.trans (hb.mono HA.out.size)); have ex := hb.cell (p := ⟨wr.heap.size, 0, none⟩) (by simp); have ey := hb.cell (p := ⟨wr.heap.size, 1, none⟩) (by simp); clear hb))
            go_quiet (fail)
            go_wp2_with fail
            go_roundw
            case rel => exact ⟨i + 1, by omega, by go_num, bel_drewN HB3.out _, by rw [hkk]; exact HD3.out⟩
            case measure => simp [intOf]; omega
      · have hz : ¬ (i : Int) < (n : Int) := by omega
        have hv : V = true := by
          have := HI.out.2
          rw [show n - i = 0 by omega] at this; exact this
        subst hv
        have HB := hide HI.out.1
        clear HI HV
        go_wp2_with fail
        go_ret
        exact ⟨rfl, HB.out⟩
  · have hz16 : (16 : Int) < (n : Int) := by omega
    have hV : setOk L = false := by unfold setOk; rw [hn, decide_eq_false h16]; rfl
    rw [hV]
    go_enter Tryz.func32, Tryz.ntmps32
    go_wp2_with fail
    go_ret
    exact ⟨rfl, Below.refl _ _⟩

end Go.Proofs.YtgcmdbpanfeaaabGreatDoor

/- The set of labels. -/
import Derived.Test.YtgcmdbpanfeaaabGreatDoorL2H
namespace Go.Proofs.YtgcmdbpanfeaaabGreatDoor
open Go.RowKit
set_option linter.unusedVariables false
set_option linter.unusedSimpArgs false

/-- The labels that have a value. -/
def flL (L : List Lab) : List Lab := L.filter fun x => decide (x.2.size ≠ 0)

theorem flL_take (L : List Lab) (i : Nat) (h : i < L.length) : flL (L.take (i + 1)) = if (L.getD i lab0).2.size ≠ 0 then flL (L.take i) ++ [L.getD i lab0] else flL (L.take i) := by
  have e : L.take (i + 1) = L.take i ++ [L.getD i lab0] := by
    rw [List.take_add_one, List.getElem?_eq_getElem h]; simp [List.getD, h]
  unfold flL
  rw [e, List.filter_append]
  generalize L.getD i lab0 = X
  by_cases h0 : X.2.size = 0
  · rw [if_neg (fun h => h h0), List.filter_cons, if_neg (by rw [decide_eq_true_iff]; exact fun h => h h0), List.filter_nil, List.append_nil]
  · rw [if_pos h0, List.filter_cons, if_pos (by rw [decide_eq_true_iff]; exact h0), List.filter_nil]

theorem flL_le (L : List Lab) (i : Nat) : (flL (L.take i)).length ≤ (flL L).length := by
  conv => rhs; rw [← List.take_append_drop i L]
  unfold flL
  rw [List.filter_append, List.length_append]; omega

/-- Labels told, or that there are too many. -/
def AnsM (w : World) (R : Option (List Lab)) (e : Ending) (w' : World) : Prop :=
  match R with
  | none => e = .returned (.tuple #[.slice none 0 0, .int .i64 133]) ∧ Below w.heap.size w w'
  | some M => ∃ v, e = .returned (.tuple #[v, .int .i64 0]) ∧ OL w.heap.size w M v w'
/-- What Set tells. -/
def AnsSet (w : World) (L : List Lab) (e : Ending) (w' : World) : Prop :=
  if refL [] L ≠ 0 then e = .returned (.tuple #[.slice none 0 0, .int .i64 (refL [] L : Nat)]) ∧ Below w.heap.size w w'
  else AnsM w (if 16 < (flL L).length then none else some (sortL (flL L))) e w'

set_option maxRecDepth 100000 in
set_option maxHeartbeats 1000000 in
theorem Set_any (p : Option Addr) (n c : Nat) (L : List Lab) (w : World) (h : LR w p L) (hn : L.length = n) (hl : n ≤ 1000000) (hs : ∀ x ∈ L, x.1.size ≤ 1000000000 ∧ x.2.size ≤ 1000000000) (hT : UT w) :
    Calls Tryz.prog 6 #[.slice p n c] w fun e w' => AnsSet w L e w' := by
  have HR := hide (refusal_any p n c L w h hn hl hs hT)
  have HL := hide h
  have HN := hide hn
  have HS : Hid (∀ i, (L.getD i lab0).1.size ≤ 1000000000 ∧ (L.getD i lab0).2.size ≤ 1000000000) := by
    intro i
    by_cases hi : i < L.length
    · have e : L.getD i lab0 = L[i] := by simp [List.getD, hi]
      rw [e]; exact hs _ (List.getElem_mem hi)
    · have e : L.getD i lab0 = lab0 := by simp [List.getD, hi]
      rw [e]; exact ⟨Nat.zero_le _, Nat.zero_le _⟩
  unfold AnsSet
  obtain ⟨V, hV⟩ : ∃ V, refL [] L = V := ⟨_, rfl⟩
  rw [hV] at HR ⊢
  clear hV h hs hT
  by_cases hv0 : V = 0
  · subst hv0
    simp only [ne_eq, not_true_eq_false, if_false]
    obtain ⟨F, hF⟩ : ∃ F, flL L = F := ⟨_, rfl⟩
    have HF : Hid (∀ i, (flL (L.take i)).length ≤ F.length) := hide (by rw [← hF]; exact flL_le L)
    have HFn : Hid (flL (L.take n) = F) := hide (by rw [List.take_of_length_le (by omega), hF])
    rw [hF]
    obtain ⟨R, hR⟩ : ∃ R, (if 16 < F.length then none else some (sortL F)) = R := ⟨_, rfl⟩
    have HRR := hide hR
    rw [hR]
    clear hF hn hR
    go_enter Tryz.func6, Tryz.ntmps6
    go_wp2_with (go_at_call 21; refine HR.out.mono ?_; rintro e w1 ⟨rfl, hb⟩; have HB1 := hide hb; clear hb)
    go_loopw [5, 15] (fun t5 t15 wr => ∃ i : Nat, i ≤ n ∧ t15 = .int .i64 i ∧ Hid (OL w.heap.size w (flL (L.take i)) t5 wr ∧ (flL (L.take i)).length ≤ 16)) (fun _ t15 _ => n - (intOf t15).toNat)
    case atStart =>
      refine ⟨0, by omega, rfl, ?_⟩
      rw [List.take_zero]
      exact ⟨⟨World.ownsRow_nil _ _ _ _, HB1.out, Nat.le_refl _⟩, by simp [flL]⟩
    case round =>
      obtain ⟨i, hi, rfl, HI⟩ := hrel
      obtain ⟨p5, c5, rfl, hlr5⟩ := HI.out.1.slice
      by_cases hlt : i < n
      · have hz : (i : Int) < (n : Int) := by omega
        have hil : i < L.length := by have := HN.out; omega
        have hlr := HL.out.below (w' := wr) (HI.out.1.bel)
        obtain ⟨b, o, rfl, hc⟩ := hlr (by omega)
        obtain ⟨e1, e2⟩ := hc i hil
        have hft := flL_take L i hil
        have HS1 := hide (HS.out i)
        obtain ⟨X, hX⟩ : ∃ X, L.getD i lab0 = X := ⟨_, rfl⟩
        rw [hX] at e1 e2 hft HS1
        obtain ⟨x, y⟩ := X
        dsimp only at e1 e2 hft HS1
        have HA : Hid (OL w.heap.size w (flL (L.take i)) (.slice p5 (flL (L.take i)).length c5) (wr.alloc (.cells #[.string x, .string y] 34))) := HI.out.1.below ((Below.refl _ _).alloc (Nat.le_refl _) _)
        have HK := hide HI.out.2
        obtain ⟨N, hN⟩ : ∃ N, flL (L.take i) = N := ⟨_, rfl⟩
        rw [hN] at HA HK hft
        have hNl : N.length ≤ F.length := by rw [← hN]; exact HF.out i
        have HFi := hide (HF.out (i + 1))
        have HFT := hide hft
        rw [hN]
        clear hc hlr HI hlr5 hX hft hN
        by_cases h0 : y.size = 0
        · have ey := str_empty h0
          subst ey
          have HT : Hid (flL (L.take (i + 1)) = N) := hide (by have := HFT.out; rw [if_neg (fun h => h rfl)] at this; exact this)
          clear HFT
          go_wp2_with fail
          go_roundw
          case rel => exact ⟨i + 1, by omega, by go_num, by rw [HT.out]; exact ⟨HA.out, HK.out⟩⟩
          case measure => simp [intOf]; omega
        · have hne := str_nonempty h0
          have hne' : ¬ y.toList = [] := by simpa using hne
          have HT : Hid (flL (L.take (i + 1)) = N ++ [(x, y)]) := hide (by have := HFT.out; rw [if_pos h0] at this; exact this)
          obtain ⟨k, hk⟩ : ∃ k, N.length = k := ⟨_, rfl⟩
          by_cases h16 : k = 16
          · have hF17 : 16 < F.length := by
              have := HFi.out
              rw [HT.out, List.length_append] at this
              simp at this; omega
            have hRn : R = none := by have := HRR.out; rw [if_pos hF17] at this; exact this.symm
            subst hRn
            have HB := hide HA.out.bel
            subst h16
            rw [hk]
            clear HFT HA
            go_wp2_with fail
            go_ret2
            exact ⟨rfl, HB.out⟩
          · have h16z : ¬ (k : Int) = 16 := by omega
            have HO := hide (fun w => own_any x y w HS1.out.1 HS1.out.2)
            rw [hk] at HA
            rw [hk]
            have HKn := hide hk
            clear HFT hk
            go_wp2_with (first
              | (go_at_call 22; refine (HO.out _).mono ?_; rintro e w2 ⟨rfl, hb⟩; have HA2 := hide (HA.out.below hb); clear hb)
              | (at_builtin; refine wp_app_lab rfl _ _ rfl w.heap.size w _ N (x, y) _ 1 _ HA2.out rfl rfl (by have := HKn.out; have := HK.out; omega) ?_; intro v6 w6 HO6; have HO6 := hide HO6))
            go_roundw
            case rel => exact ⟨i + 1, by omega, by go_num, by rw [HT.out]; exact ⟨HO6.out, by have := HKn.out; have := HK.out; rw [List.length_append]; simp; omega⟩⟩
            case measure => simp [intOf]; omega
      · have hz : ¬ (i : Int) < (n : Int) := by omega
        have hin : i = n := by omega
        subst hin
        have HA := hide HI.out
        rw [HFn.out] at HA
        rw [HFn.out]
        have hF16 : ¬ 16 < F.length := by have := HA.out.2; omega
        have hRn : R = some (sortL F) := by have := HRR.out; rw [if_neg hF16] at this; exact this.symm
        subst hRn
        have HSo := hide (sort_any HA.out.1 (by have := HA.out.2; omega))
        clear HI hlr5
        go_wp2_with (go_at_call 23; refine HSo.out.mono ?_; rintro e w3 ⟨rfl, ho⟩; have HO3 := hide ho; clear ho)
        go_ret2
        exact ⟨_, rfl, HO3.out⟩
  · have hvz : ¬ (V : Int) = 0 := by omega
    have hvb : ((V : Int) != 0) = true := by simp; omega
    simp only [ne_eq, hv0, not_false_eq_true, if_true]
    go_enter Tryz.func6, Tryz.ntmps6
    go_wp2_with (go_at_call 21; refine HR.out.mono ?_; rintro e w1 ⟨rfl, hb⟩; have HB1 := hide hb; clear hb)
    go_ret2
    exact ⟨rfl, HB1.out⟩

end Go.Proofs.YtgcmdbpanfeaaabGreatDoor

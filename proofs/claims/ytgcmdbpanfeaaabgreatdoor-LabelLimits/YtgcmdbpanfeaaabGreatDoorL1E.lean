/- What stands in quotes at the front of a text. -/
import Derived.Test.YtgcmdbpanfeaaabGreatDoorL1D
import Derived.Test.YtgcmdbpanfeaaabGreatDoorL1W
namespace Go.Proofs.YtgcmdbpanfeaaabGreatDoor
open Go.RowKit
set_option linter.unusedVariables false
set_option linter.unusedSimpArgs false

theorem letL_pos {l : List Nat} {x n : Nat} (h : letL l = some (x, n)) : 1 ≤ n ∧ n ≤ 4 := by
  cases l with
  | nil => simp [letL] at h
  | cons c r =>
    simp only [letL] at h
    split at h
    · split at h
      · simp at h; omega
      · simp at h
    · cases r with
      | nil => simp at h
      | cons d r2 =>
        simp only at h
        split at h
        · simp at h; omega
        · split at h
          · simp at h; omega
          · split at h
            · cases hx : hex2 r2 with
              | none => rw [hx] at h; simp at h
              | some y => rw [hx] at h; simp at h; omega
            · simp at h

/-- What is told of a text in quotes. -/
def AnsU (w : World) (R : Option (List Nat × Nat)) (e : Ending) (w' : World) : Prop :=
  match R with
  | some p => ∃ v, e = .returned (.tuple #[v, .int .i64 (p.2 : Nat)]) ∧ OB w.heap.size w p.1 v w'
  | none => e = .returned (.tuple #[.slice none 0 0, .int .i64 0]) ∧ Below w.heap.size w w'

set_option maxRecDepth 100000 in
set_option maxHeartbeats 1000000 in
theorem unquoted_any (s : ByteArray) (w : World) (hs1 : s.size ≤ 1000000000000) (hE : ES w) : Calls Tryz.prog 49 #[.string s] w fun e w' => AnsU w (unqL (bytesN s)) e w' := by
  have HE := hide hE
  have HS := hide hs1
  obtain ⟨L, hL⟩ : ∃ L, s.size = L := ⟨_, rfl⟩
  by_cases h0 : s.size = 0
  · have e := str_empty h0
    subst e
    go_enter Tryz.func49, Tryz.ntmps49
    go_wp2_with fail
    go_ret2
    exact ⟨rfl, Below.refl _ _⟩
  obtain ⟨c, r, hc⟩ : ∃ c r, bytesN s = c :: r := by
    cases hc : bytesN s with
    | nil => exact absurd hc (ne_nil_of_size h0)
    | cons c r => exact ⟨c, r, rfl⟩
  have hne := str_nonempty h0
  have hne' : ¬ s.toList = [] := by simpa using hne
  have hc0 : (s[0]'(by omega)).toNat = c := by rw [← bytesN_getD s 0 (by omega), hc]; rfl
  have p0 : (0 : Int) < (L : Int) := by omega
  by_cases h34 : c = 34
  · subst h34
    have HR : Hid (unqL (bytesN s) = (unqF (r.length + 1) ((bytesN s).drop 1)).map fun p => (p.1, p.2 + 1)) := by rw [hc]; exact rfl
    obtain ⟨R, hR⟩ : ∃ R, unqL (bytesN s) = R := ⟨_, rfl⟩
    rw [hR] at HR ⊢
    have hlen : r.length + 1 = L := by
      have := bytesN_length s
      rw [hc] at this; simpa [hL] using this
    clear hR hc
    go_enter Tryz.func49, Tryz.ntmps49
    go_wp2_with fail
    go_loopw [4, 5] (fun t4 t5 wr => ∃ (k : Nat) (ys : List Nat), t5 = .int .i64 k ∧ Hid (OB w.heap.size w ys t4 wr ∧ ys.length ≤ k ∧ ∃ f, ((bytesN s).drop k).length ≤ f ∧ R = (unqF f ((bytesN s).drop k)).map fun p => (ys ++ p.1, k + p.2))) (fun _ t5 _ => L - (intOf t5).toNat)
    case atStart =>
      refine ⟨1, [], rfl, OB.nil w, by simp, r.length + 1, by simp; omega, ?_⟩
      rw [HR.out]
      congr 1
      funext p
      simp; omega
    case round =>
      obtain ⟨k, ys, rfl, HI⟩ := hrel
      by_cases hlt : k < L
      · have hkz : (k : Int) < (L : Int) := by omega
        have hkz2 : (k : Int) ≤ (L : Int) := by omega
        obtain ⟨d, r2, hd⟩ : ∃ d r2, (bytesN s).drop k = d :: r2 := by
          cases hd : (bytesN s).drop k with
          | nil => 
            have := congrArg List.length hd
            simp at this; omega
          | cons d r2 => exact ⟨d, r2, rfl⟩
        have hd0 : (s[k]'(by omega)).toNat = d := by
          rw [← bytesN_getD s k (by omega)]
          have := congrArg (fun l => l.getD 0 0) hd
          simpa [List.getD] using this
        have HF : Hid (∃ f, r2.length ≤ f ∧ R = (unqF (f + 1) (d :: r2)).map fun p => (ys ++ p.1, k + p.2)) := by
          obtain ⟨f, hf, e⟩ := HI.out.2.2
          rw [hd] at hf e
          match f, hf with
          | f + 1, hf => exact ⟨f, by simpa using hf, e⟩
        have HO := hide HI.out.1
        have HK := hide HI.out.2.1
        by_cases hd34 : d = 34
        · subst hd34
          have hRR : R = some (ys, k + 1) := by
            obtain ⟨f, _, e⟩ := HF.out
            rw [e]; simp [unqF]
          subst hRR
          clear HI HR hd HF
          go_wp2_with fail
          go_ret2
          exact ⟨_, rfl, HO.out⟩
        · have hdz : ¬ (d : Int) = 34 := by omega
          have hx2 : bytesN (s.extract k L) = d :: r2 := by rw [← hL, bytesN_from, hd]
          have HLt := hide (fun w hE => letter_any (s.extract k L) w (by rw [← bytesN_length, hx2]; simp) (by have := HS.out; simp; omega) hE)
          rw [hx2] at HLt
          cases hl : letL (d :: r2) with
          | none =>
            have hRR : R = none := by
              obtain ⟨f, _, e⟩ := HF.out
              rw [e]; simp [unqF, hd34, hl]
            subst hRR
            rw [hl] at HLt
            have HO2 := hide HO.out.bel
            clear HI HR hd HF hl HO
            go_wp2_with (go_at_call 71; refine (HLt.out _ (HE.out.below HO2.out)).mono ?_; rintro e w2 ⟨rfl, hb⟩; have HB := hide (HO2.out.trans (hb.mono HO2.out.size)); clear hb; dsimp only [ansL])
            go_ret2
            exact ⟨rfl, HB.out⟩
          | some p =>
            obtain ⟨x, n⟩ := p
            rw [hl] at HLt
            have hn := letL_pos hl
            have hn0 : ¬ (n : Int) = 0 := by omega
            have HF2 : Hid (∃ f, ((bytesN s).drop (k + n)).length ≤ f ∧ R = (unqF f ((bytesN s).drop (k + n))).map fun p => ((ys ++ [x]) ++ p.1, (k + n) + p.2)) := by
              obtain ⟨f, hf, e⟩ := HF.out
              refine ⟨f, ?_, ?_⟩
              · have := congrArg List.length hd
                rw [List.length_drop] at this ⊢
                simp only [List.length_cons] at this
                omega
              · have e2 : (bytesN s).drop (k + n) = (d :: r2).drop n := by rw [← hd, List.drop_drop]
                rw [e, unqF, if_neg hd34, hl, Option.bind_some, Option.map_map, e2]
                congr 1
                funext p
                simp; omega
            clear HI HR hd HF hl hx2
            go_wp2_with (first
              | (go_at_call 71; refine (HLt.out _ (HE.out.below HO.out.bel)).mono ?_; rintro e w2 ⟨rfl, hb⟩; have HO2 := hide (HO.out.below hb); clear hb; dsimp only [ansL])
              | (at_builtin; refine wp_app_lit rfl _ _ rfl w.heap.size w _ ys [x] _ 1 1 _ _ HO2.out rfl rfl rfl rfl (by have := HK.out; have := HS.out; omega) ?_; intro v6 w6 HO6; have HO6 := hide HO6))
            go_roundw
            case rel => exact ⟨k + n, ys ++ [x], by simp, HO6.out, by have := HK.out; simp; omega, HF2.out⟩
            case measure => simp [intOf]; omega
      · have hkz : ¬ (k : Int) < (L : Int) := by omega
        have hRR : R = none := by
          obtain ⟨f, _, e⟩ := HI.out.2.2
          rw [e, List.drop_eq_nil_of_le (by simp; omega), unqF_nil]; rfl
        subst hRR
        have HB := hide HI.out.1.bel
        clear HI HR
        go_wp2_with fail
        go_ret2
        exact ⟨rfl, HB.out⟩
  · have hcz : ¬ (c : Int) = 34 := by omega
    have HR : Hid (unqL (bytesN s) = none) := by rw [hc]; simp [unqL, h34]; exact trivial
    rw [HR.out]
    clear hc HR
    go_enter Tryz.func49, Tryz.ntmps49
    go_wp2_with fail
    go_ret2
    exact ⟨rfl, Below.refl _ _⟩

theorem strOf_bytesN (s : ByteArray) : strOf (bytesN s) = s := by
  apply ByteArray.ext
  apply Array.toList_inj.1
  unfold strOf bytesN
  rw [strOfNums_data, List.map_map, List.map_map]
  conv => rhs; rw [← List.map_id s.data.toList]
  apply List.map_congr_left
  intro x _
  simp

/-- What Unquote tells. -/
def ansQ : Option (List Nat × Nat) → Value
  | some p => .tuple #[.string (strOf p.1), .int .i64 (p.2 : Nat), .int .i64 0]
  | none => .tuple #[.string ⟨#[]⟩, .int .i64 0, .int .i64 134]

set_option maxRecDepth 100000 in
theorem Unquote_any (s : ByteArray) (w : World) (hs1 : s.size ≤ 1000000000000) (hE : ES w) : Calls Tryz.prog 31 #[.string s] w fun e w' => e = .returned (ansQ (unqL (bytesN s))) ∧ Below w.heap.size w w' := by
  have HU := hide (unquoted_any s w hs1 hE)
  have HP : Hid (∀ p, unqL (bytesN s) = some p → p.2 ≠ 0) := by
    intro p h
    unfold unqL at h
    split at h
    · rw [Option.map_eq_some_iff] at h
      obtain ⟨q, _, rfl⟩ := h
      simp
    · simp at h
  obtain ⟨R, hR⟩ : ∃ R, unqL (bytesN s) = R := ⟨_, rfl⟩
  rw [hR] at HU HP ⊢
  clear hR hE
  cases R with
  | none =>
    go_enter Tryz.func31, Tryz.ntmps31
    go_wp2_with (go_at_call 49; refine HU.out.mono ?_; rintro e w2 ⟨rfl, hb⟩; have HB := hide hb; clear hb)
    go_ret3
    exact ⟨rfl, HB.out⟩
  | some p =>
    obtain ⟨bs, n⟩ := p
    have hn := HP.out _ rfl
    have hnz : ¬ (n : Int) = 0 := by simp at hn; omega
    clear HP hn
    go_enter Tryz.func31, Tryz.ntmps31
    go_wp2_with (go_at_call 49; refine HU.out.mono ?_; rintro e w2 ⟨v, rfl, ho⟩; have HO := hide ho; have hcv := convert_by w2 v bs ho.by_; clear ho)
    go_ret3
    exact ⟨rfl, HO.out.bel⟩

end Go.Proofs.YtgcmdbpanfeaaabGreatDoor

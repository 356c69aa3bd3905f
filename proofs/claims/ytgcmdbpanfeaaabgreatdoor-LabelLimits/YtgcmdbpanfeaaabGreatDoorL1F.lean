/- A text in quotes. -/
import Derived.Test.YtgcmdbpanfeaaabGreatDoorL1W
import Derived.Test.YtgcmdbpanfeaaabGreatDoorL1B
import Derived.Test.YtgcmdbpanfeaaabGreatDoorL1E
namespace Go.Proofs.YtgcmdbpanfeaaabGreatDoor
open Go.RowKit
set_option linter.unusedVariables false
set_option linter.unusedSimpArgs false

/-- A literal's bytes are one's own. -/
theorem OB.lit (w : World) (bs : List Nat) (n : Nat) (hn : bs.length = n) (hl : n ≤ 1000000) (vs : Array Value) (hv : vs.toList = bytesV bs) :
    OB w.heap.size w bs (.slice (some ⟨w.heap.size, 0, none⟩) n n) (w.alloc (.cells vs 5)) := by
  have hsz : vs.size = n := by rw [← Array.length_toList, hv, bytesV_length, hn]
  refine ⟨⟨by simp, .inr ⟨w.heap.size, n, vs, by rw [hn], Nat.le_refl _, heap_alloc_new w _, by omega, by unfold maxLen; omega, by first | omega | simp [hsz, hn], by rw [hv]; exact List.take_of_length_le (by simp)⟩⟩, (Below.refl _ _).alloc (Nat.le_refl _) _, Nat.le_refl _⟩

theorem hexd_at : ∀ n (h : n < 16), ((⟨#[48, 49, 50, 51, 52, 53, 54, 55, 56, 57, 97, 98, 99, 100, 101, 102]⟩ : ByteArray)[n]'h).toNat = hexd n := by decide

theorem qt_step {s2 : ByteArray} {f : Nat} (h0 : s2.size ≠ 0) (hf : (bytesN s2).length ≤ f) (Z : Nat) (hZ : (decL (bytesN s2)).2 = Z) :
    ∃ f', ((bytesN s2).drop Z).length ≤ f' ∧ qtF f (bytesN s2) = tokL (bytesN s2) ++ qtF f' ((bytesN s2).drop Z) := by
  have h1 := decL_size (bytesN s2) (ne_nil_of_size h0) (bytesN_lt s2)
  obtain ⟨c, r, e⟩ : ∃ c r, bytesN s2 = c :: r := by
    cases hc : bytesN s2 with
    | nil => exact absurd hc (ne_nil_of_size h0)
    | cons c r => exact ⟨c, r, rfl⟩
  cases f with
  | zero => rw [e] at hf; simp at hf
  | succ f =>
    refine ⟨f, by rw [List.length_drop]; omega, ?_⟩
    rw [← hZ]
    rw [e]; rfl

set_option maxRecDepth 100000 in
set_option maxHeartbeats 2000000 in
theorem quoted_any (s : ByteArray) (w : World) (hs1 : s.size ≤ 1000000000) (hT : UT w) : Calls Tryz.prog 29 #[.string s] w fun e w' => ∃ v, e = .returned v ∧ OB w.heap.size w (qtL (bytesN s)) v w' := by
  have HT := hide hT
  have HS := hide hs1
  obtain ⟨Q, hQ⟩ : ∃ Q, qtF (bytesN s).length (bytesN s) = Q := ⟨_, rfl⟩
  obtain ⟨Y, hY⟩ : ∃ Y, [34] ++ Q = Y := ⟨_, rfl⟩
  have HQ0 : Hid (∃ f, (bytesN s).length ≤ f ∧ Y = [34] ++ qtF f (bytesN s)) := ⟨_, Nat.le_refl _, by rw [← hY, hQ]⟩
  have hq : qtL (bytesN s) = Y ++ [34] := by unfold qtL; rw [← hY, hQ]; rfl
  rw [hq]
  have HL0 : Hid (OB w.heap.size w [34] (.slice (some ⟨w.heap.size, 0, none⟩) 1 1) (w.alloc (.cells #[.int .u8 34] 5))) := OB.lit w [34] 1 rfl (by omega) _ rfl
  clear hT hs1 hQ hq hY Q
  go_enter Tryz.func29, Tryz.ntmps29
  go_wp2_with fail
  go_loopw [0, 3] (fun t0 t3 wr => ∃ (s2 : ByteArray) (ys : List Nat), t0 = .string s2 ∧ Hid (OB w.heap.size w ys t3 wr ∧ s2.size ≤ 1000000000 ∧ ys.length + 4 * s2.size ≤ 5000000000 ∧ ∃ f, (bytesN s2).length ≤ f ∧ Y = ys ++ qtF f (bytesN s2))) (fun t0 _ _ => (match t0 with | .string s2 => s2.size | _ => 0))
  case atStart => exact ⟨s, [34], rfl, HL0.out, HS.out, by have := HS.out; simp; omega, HQ0.out⟩
  case round =>
    obtain ⟨s2, ys, rfl, HI⟩ := hrel
    by_cases h0 : s2.size = 0
    · have e := str_empty h0
      subst e
      have hQQ : Y = ys := by
        obtain ⟨f, _, e⟩ := HI.out.2.2.2
        rw [e]
        have : qtF f (bytesN ⟨#[]⟩) = [] := by cases f <;> rfl
        rw [this, List.append_nil]
      subst hQQ
      have HO := hide HI.out.1
      have HY : Hid (Y.length ≤ 5000000000) := by have := HI.out.2.2.1; exact hide (by omega)
      clear HI HQ0
      go_wp2_with (at_builtin; refine wp_app_lit rfl _ _ rfl w.heap.size w _ Y [34] _ 1 1 _ _ HO.out rfl rfl rfl rfl (by have := HY.out; omega) ?_; intro v6 w6 HO6; have HO6 := hide HO6)
      go_ret
      exact ⟨_, rfl, HO6.out⟩
    · have hne := str_nonempty h0
      have hne' : ¬ s2.toList = [] := by simpa using hne
      have hcs := decL_cases (bytesN s2) (ne_nil_of_size h0) (bytesN_lt s2)
      have h1 := decL_size (bytesN s2) (ne_nil_of_size h0) (bytesN_lt s2)
      have htok : tokL (bytesN s2) = tokL (bytesN s2) := rfl
      conv at htok => rhs; unfold tokL
      have HF := hide (fun w hT => front_any s2 w h0 hT)
      have HN : Hid (∃ f', ((bytesN s2).drop (decL (bytesN s2)).2).length ≤ f' ∧ Y = (ys ++ tokL (bytesN s2)) ++ qtF f' ((bytesN s2).drop (decL (bytesN s2)).2)) := by
        obtain ⟨f, hf, e⟩ := HI.out.2.2.2
        obtain ⟨f', h1, h2⟩ := qt_step h0 hf _ rfl
        exact ⟨f', h1, by rw [e, h2, List.append_assoc]⟩
      have hg : goodL (bytesN s2) = (decide ((decL (bytesN s2)).1 ≠ 65533) || decide (1 < (decL (bytesN s2)).2)) := rfl
      obtain ⟨R, hR⟩ : ∃ R, (decL (bytesN s2)).1 = R := ⟨_, rfl⟩
      obtain ⟨Z, hZ⟩ : ∃ Z, (decL (bytesN s2)).2 = Z := ⟨_, rfl⟩
      obtain ⟨G, hG⟩ : ∃ G, goodL (bytesN s2) = G := ⟨_, rfl⟩
      have hx0 : (s2[0]'(by omega)).toNat = (bytesN s2).getD 0 0 := (bytesN_getD s2 0 (by omega)).symm
      obtain ⟨c, hc⟩ : ∃ c, (bytesN s2).getD 0 0 = c := ⟨_, rfl⟩
      have hc8 : c < 256 := by rw [← hc, ← hx0]; exact UInt8.toNat_lt _
      obtain ⟨T, hTk⟩ : ∃ T, tokL (bytesN s2) = T := ⟨_, rfl⟩
      rw [hR, hZ, hc, hTk] at htok
      rw [hR, hZ, hG] at HF hg
      rw [hZ, hTk] at HN
      rw [bytesN_length, hZ] at h1
      rw [hc] at hx0 hcs
      have HO := hide HI.out.1
      have HZ := hide (And.intro HI.out.2.1 HI.out.2.2.1)
      have hT4 := tokL_le (bytesN s2) (ne_nil_of_size h0) (bytesN_lt s2)
      rw [hTk, hZ] at hT4
      have HZ1 : Hid (1 ≤ Z ∧ Z ≤ s2.size ∧ T.length ≤ 4 * Z) := ⟨h1.1, h1.2.1, hT4⟩
      have HREL : Hid (∀ v6 w6, OB w.heap.size w (ys ++ T) v6 w6 → (s2.extract Z s2.size).size < s2.size ∧ OB w.heap.size w (ys ++ T) v6 w6 ∧ (s2.extract Z s2.size).size ≤ 1000000000 ∧ (ys ++ T).length + 4 * (s2.extract Z s2.size).size ≤ 5000000000 ∧ ∃ f, (bytesN (s2.extract Z s2.size)).length ≤ f ∧ Y = (ys ++ T) ++ qtF f (bytesN (s2.extract Z s2.size))) := by
        intro v6 w6 h
        have e : (s2.extract Z s2.size).size = s2.size - Z := by simp
        have h2 := HZ1.out
        have h3 := HZ.out
        rw [bytesN_from, e, List.length_append]
        exact ⟨by omega, h, by omega, by omega, HN.out⟩
      have z1 : (0 : Int) ≤ (Z : Int) := by omega
      have z2 : (Z : Int) ≤ (s2.size : Int) := by omega
      have z3 : (0 : Int) < (s2.size : Int) := by omega
      have z4 : 0 < s2.size := by omega
      clear HI HN hR hZ hG hTk hT4 h1 hc HQ0
      by_cases q1 : R = 34 ∨ R = 92
      · rw [if_pos q1] at htok
        have hl : T.length = 2 := by rw [htok]; rfl
        subst htok
        rcases q1 with rfl | rfl
        · clear hcs hg
          go_wp2_with (first
            | (go_at_call 44; refine (HF.out _ (HT.out.below HO.out.bel)).mono ?_; rintro e w2 ⟨rfl, hb⟩; have HO2 := hide (HO.out.below hb); clear hb)
            | (at_builtin; refine wp_app_lit rfl _ _ rfl w.heap.size w _ ys [92, c] _ 2 2 _ _ HO2.out rfl rfl rfl rfl (by have := HZ.out; omega) ?_; intro v6 w6 HO6; have HO6 := hide (HREL.out _ _ HO6)))
          go_roundw
          case rel => exact ⟨_, _, rfl, HO6.out.2⟩
          case measure => exact HO6.out.1
        · clear hcs hg
          go_wp2_with (first
            | (go_at_call 44; refine (HF.out _ (HT.out.below HO.out.bel)).mono ?_; rintro e w2 ⟨rfl, hb⟩; have HO2 := hide (HO.out.below hb); clear hb)
            | (at_builtin; refine wp_app_lit rfl _ _ rfl w.heap.size w _ ys [92, c] _ 2 2 _ _ HO2.out rfl rfl rfl rfl (by have := HZ.out; omega) ?_; intro v6 w6 HO6; have HO6 := hide (HREL.out _ _ HO6)))
          go_roundw
          case rel => exact ⟨_, _, rfl, HO6.out.2⟩
          case measure => exact HO6.out.1
      rw [if_neg q1] at htok
      have q1a : ¬ (R : Int) = 34 := by omega
      have q1b : ¬ (R : Int) = 92 := by omega
      by_cases q2 : R = 10
      · rw [if_pos q2] at htok
        subst htok
        subst q2
        clear hcs hg
        go_wp2_with (first
          | (go_at_call 44; refine (HF.out _ (HT.out.below HO.out.bel)).mono ?_; rintro e w2 ⟨rfl, hb⟩; have HO2 := hide (HO.out.below hb); clear hb)
          | (at_builtin; refine wp_app_lit rfl _ _ rfl w.heap.size w _ ys [92, 110] _ 2 2 _ _ HO2.out rfl rfl rfl rfl (by have := HZ.out; omega) ?_; intro v6 w6 HO6; have HO6 := hide (HREL.out _ _ HO6)))
        go_roundw
        case rel => exact ⟨_, _, rfl, HO6.out.2⟩
        case measure => exact HO6.out.1
      rw [if_neg q2] at htok
      have q2z : ¬ (R : Int) = 10 := by omega
      have b1 : ((R : Int) == 34) = false := by simp; omega
      have b2 : ((R : Int) == 92) = false := by simp; omega
      have b3 : ((R : Int) == 10) = false := by simp; omega
      by_cases q3 : (R = 65533 ∧ Z ≤ 1) ∨ ¬ bareN c
      · rw [if_pos q3] at htok
        have HBr := hide (fun w => isBare_any c w)
        obtain ⟨g1, hg1⟩ : ∃ g, c / 16 = g := ⟨_, rfl⟩
        obtain ⟨g2, hg2⟩ : ∃ g, c % 16 = g := ⟨_, rfl⟩
        rw [hg1, hg2] at htok
        have an : bits BinOp.and IntKind.u8 (c : Int) 15 = (g2 : Int) := by
          have h := u8_and_nat c 15 hc8 (by decide)
          rw [show c &&& 15 = c % 16 from Nat.and_two_pow_sub_one_eq_mod c 4, hg2] at h
          exact h
        have s1 : (c : Int) / 16 = (g1 : Int) := by omega
        have l1 : g1 < 16 := by omega
        have l2 : g2 < 16 := by omega
        have l3 : (g1 : Int) < 16 := by omega
        have l4 : (g2 : Int) < 16 := by omega
        have d1 : ((⟨#[48, 49, 50, 51, 52, 53, 54, 55, 56, 57, 97, 98, 99, 100, 101, 102]⟩ : ByteArray)[g1]'l1).toNat = hexd g1 := hexd_at g1 l1
        have d2 : ((⟨#[48, 49, 50, 51, 52, 53, 54, 55, 56, 57, 97, 98, 99, 100, 101, 102]⟩ : ByteArray)[g2]'l2).toNat = hexd g2 := hexd_at g2 l2
        subst htok
        clear hcs
        by_cases hgg : G = true
        · have hnb : ¬ bareN c := by
            rcases q3 with h | h
            · rw [hg] at hgg
              simp [h.1] at hgg
              omega
            · exact h
          rw [decide_eq_false hnb] at HBr
          subst hgg
          clear hg q3 hnb
          go_wp2_with (first
            | (go_at_call 44; refine (HF.out _ (HT.out.below HO.out.bel)).mono ?_; rintro e w2 ⟨rfl, hb⟩; have HO2 := hide (HO.out.below hb); clear hb)
            | (simp only [b1, b2, b3, Bool.or_false, Bool.false_or])
            | (go_at_call 45; refine (HBr.out _).mono ?_; rintro e w3 ⟨rfl, rfl⟩))
          have HO3 := hide HO2.out.drew
          go_region_law (refine step_app_lit rfl _ _ rfl w.heap.size w _ ys [92, 120, hexd g1, hexd g2] _ 4 4 _ _ HO3.out (by simp [Act.eval]) (by simp [Act.eval]) (by simp [d1, d2, bytesV]) rfl (by decide) (by have := HZ.out; omega) ?_; intro v6 w6 HO6; have HO6 := hide (HREL.out _ _ HO6))
          all_goals
            go_wp2_with fail
            exact ⟨⟨_, _, rfl, HO6.out.2⟩, HO6.out.1⟩
        · have hgf : G = false := by simpa using hgg
          subst hgf
          clear hg q3 hgg HBr
          go_wp2_with (first
            | (go_at_call 44; refine (HF.out _ (HT.out.below HO.out.bel)).mono ?_; rintro e w2 ⟨rfl, hb⟩; have HO2 := hide (HO.out.below hb); clear hb)
            | (simp only [b1, b2, b3, Bool.or_false, Bool.false_or]))
          have HO3 := hide HO2.out.drew
          go_region_law (refine step_app_lit rfl _ _ rfl w.heap.size w _ ys [92, 120, hexd g1, hexd g2] _ 4 4 _ _ HO3.out (by simp [Act.eval]) (by simp [Act.eval]) (by simp [d1, d2, bytesV]) rfl (by decide) (by have := HZ.out; omega) ?_; intro v6 w6 HO6; have HO6 := hide (HREL.out _ _ HO6))
          all_goals
            go_wp2_with fail
            exact ⟨⟨_, _, rfl, HO6.out.2⟩, HO6.out.1⟩
      · rw [if_neg q3] at htok
        have hG1 : G = true := by
          rw [hg]
          by_cases h : R = 65533
          · have : 1 < Z := by
              have := fun h2 => q3 (.inl ⟨h, h2⟩)
              omega
            simp [this]
          · simp [h]
        have hb : bareN c := Classical.byContradiction fun h => q3 (.inr h)
        subst hG1
        have HBr := hide (fun w => isBare_any c w)
        rw [decide_eq_true hb] at HBr
        have HTT : Hid (bytesN (s2.extract 0 Z) = T) := hide (by rw [htok, bytesN_extract]; simp)
        have HSZ : Hid ((s2.extract 0 Z).size ≤ s2.size) := hide (by simp; omega)
        clear hcs hg htok hb q3
        go_wp2_with (first
          | (go_at_call 44; refine (HF.out _ (HT.out.below HO.out.bel)).mono ?_; rintro e w2 ⟨rfl, hb⟩; have HO2 := hide (HO.out.below hb); clear hb)
          | (simp only [b1, b2, b3, Bool.or_false, Bool.false_or])
          | (go_at_call 45; refine (HBr.out _).mono ?_; rintro e w3 ⟨rfl, rfl⟩)
          | (at_builtin; refine wp_app_str rfl _ _ rfl w.heap.size w _ ys _ (s2.extract 0 Z) HO2.out rfl rfl (by have := HZ.out; have := HSZ.out; omega) ?_; rw [HTT.out]; intro v6 w6 HO6; have HO6 := hide (HREL.out _ _ HO6)))
        go_roundw
        case rel => exact ⟨_, _, rfl, HO6.out.2⟩
        case measure => exact HO6.out.1

set_option maxRecDepth 100000 in
theorem Quote_any (s : ByteArray) (w : World) (hs1 : s.size ≤ 1000000000) (hT : UT w) : Calls Tryz.prog 11 #[.string s] w fun e w' => e = .returned (.string (strOf (qtL (bytesN s)))) ∧ Below w.heap.size w w' := by
  have HQ := hide (quoted_any s w hs1 hT)
  go_enter Tryz.func11, Tryz.ntmps11
  go_wp2_with (go_at_call 29; refine HQ.out.mono ?_; rintro e w2 ⟨v, rfl, ho⟩; have HO := hide ho; have hcv := convert_by w2 v _ ho.by_; clear ho)
  go_ret
  exact ⟨rfl, HO.out.bel⟩

end Go.Proofs.YtgcmdbpanfeaaabGreatDoor

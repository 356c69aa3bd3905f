/- LabelQuoted's walk. -/
import Derived.Test.YtgcmdbpanfeaaaaGreatDoorL3I
namespace Go.Proofs.YtgcmdbpanfeaaaaGreatDoor
open Go.RowKit
set_option linter.unusedVariables false
set_option linter.unusedSimpArgs false

/-- A text, cut. -/
def shortS (s : ByteArray) : ByteArray := if s.size ≤ 3000 then s else s.extract 0 3000
theorem shortS_size (s : ByteArray) : (shortS s).size ≤ 3000 := by
  unfold shortS
  split
  · assumption
  · simp; omega

set_option maxRecDepth 100000 in
theorem short13_any (s : ByteArray) (w : World) (hs : s.size ≤ 9223372036854775807) : Calls Tryz.prog 38 #[.string s] w fun e w' => e = .returned (.string (shortS s)) ∧ w' = w := by
  by_cases h : s.size ≤ 3000
  · have hz : ¬ (3000 : Int) < (s.size : Int) := by omega
    rw [show shortS s = s from if_pos h]
    go_enter Tryz.func38, Tryz.ntmps38
    go_wp2_with fail
    go_ret
    exact ⟨rfl, rfl⟩
  · have hz : (3000 : Int) < (s.size : Int) := by omega
    have hz2 : (3000 : Int) ≤ (s.size : Int) := by omega
    rw [show shortS s = s.extract 0 3000 from if_neg h]
    go_enter Tryz.func38, Tryz.ntmps38
    go_wp2_with fail
    go_ret
    exact ⟨rfl, rfl⟩

/-- n texts lie where p is. -/
def SR (w : World) (p : Option Addr) (n : Nat) (f : Nat → ByteArray) : Prop :=
  0 < n → ∃ b o, p = some ⟨b, o, none⟩ ∧ ∀ i, i < n → w.cell? ⟨b, o + i, none⟩ = some (.string (f i))

theorem SR.below {w w' : World} {p : Option Addr} {n : Nat} {f : Nat → ByteArray} (h : SR w p n f) (hB : Below w.heap.size w w') : SR w' p n f := fun h0 => by
  obtain ⟨b, o, hp, hc⟩ := h h0
  exact ⟨b, o, hp, fun i hi => by rw [hB.cell (p := ⟨b, o + i, none⟩) (block_lt_of_cell (hc i hi))]; exact hc i hi⟩

set_option maxRecDepth 100000 in
set_option maxHeartbeats 2000000 in
theorem labelQuoted_any (p : Option Addr) (n c : Nat) (f : Nat → ByteArray) (tail : ByteArray) (w : World) (h : SR w p n f) (hn : n ≤ 9223372036854775807) (hf : ∀ i, i < n → (f i).size ≤ 9223372036854775807) (ht : tail.size ≤ 9223372036854775807) (hE : ES w) (hT : UT w) (hM : MX w) :
    Calls Tryz.prog 7 #[.agg #[.slice p n c, .string tail]] w fun e w' => e = .returned (.bool true) ∧ Below w.heap.size w w' := by
  have HS := hide h
  have HFs := hide hf
  have HE := hide hE
  have HT := hide hT
  have HM := hide hM
  have HSh := hide (fun w => short13_any tail w ht)
  have hta := shortS_size tail
  obtain ⟨tl, htl⟩ : ∃ tl, shortS tail = tl := ⟨_, rfl⟩
  rw [htl] at HSh hta
  have HTa := hide hta
  have HB0 : Hid (Below w.heap.size w (w.alloc (.cells #[.slice p n c, .string tail] 78))) := (Below.refl _ _).alloc (Nat.le_refl _) _
  have HR0 : Hid ((w.alloc (.cells #[.slice p n c, .string tail] 78)).heap[w.heap.size]? = some (.cells #[.slice p n c, .string tail] 78)) := heap_alloc_new w _
  clear h hf hE hT hM htl hta
  go_enter Tryz.func7, Tryz.ntmps7
  go_wp2_with (go_at_call 38; refine (HSh.out _).mono ?_; rintro e w2 ⟨rfl, rfl⟩)
  go_loopw [4] (fun t4 wr => ∃ i : Nat, i ≤ n ∧ t4 = .int .i64 i ∧ Hid (Below w.heap.size w wr ∧ wr.heap[w.heap.size]? = some (.cells #[.slice p n c, .string tail] 78))) (fun t4 _ => n - (intOf t4).toNat)
  case atStart => exact ⟨0, by omega, rfl, HB0.out, HR0.out⟩
  case round =>
    obtain ⟨i, hi, rfl, HI⟩ := hrel
    have c0 := Row2.c0 HI.out.2
    have HB := hide HI.out.1
    have HRow := hide HI.out.2
    clear HI
    by_cases hlt : i < n ∧ i < 60
    · obtain ⟨hl1, hl2⟩ := hlt
      have hz1 : (i : Int) < (n : Int) := by omega
      have hz2 : (i : Int) < 60 := by omega
      have hsr := HS.out.below HB.out
      obtain ⟨b, o, rfl, hc⟩ := hsr (by omega)
      have ci := hc i hl1
      have HSi := hide (fun w => short13_any (f i) w (HFs.out i hl1))
      have hsz := shortS_size (f i)
      obtain ⟨s, hs⟩ : ∃ s, shortS (f i) = s := ⟨_, rfl⟩
      rw [hs] at HSi hsz
      have HQ := hide (fun w h => Quote_any s w (by omega) h)
      have hb := qtL_bare (bytesN s) (bytesN_lt s)
      have hql := qtL_le (bytesN s) (bytesN_lt s)
      rw [bytesN_length] at hql
      obtain ⟨Q, hQ⟩ : ∃ Q, strOf (qtL (bytesN s)) = Q := ⟨_, rfl⟩
      have hQb : bytesN Q = qtL (bytesN s) := by rw [← hQ]; exact bytesN_strOf _ (fun x hx => (hb x hx).2)
      have hQs : Q.size = (qtL (bytesN s)).length := by rw [← bytesN_length, hQb]
      obtain ⟨m, hm⟩ : ∃ m, Q.size = m := ⟨_, rfl⟩
      have hm2 : m ≤ 12002 := by omega
      rw [hQ] at HQ
      have HU1 : Hid (∀ w, ES w → Calls Tryz.prog 40 #[.string (Q ++ tl)] w fun e w' => e = .returned (.tuple #[.string s, .int .i64 (m : Nat), .int .i64 0]) ∧ Below w.heap.size w w') := by
        intro w he
        have h := Unquote_any (Q ++ tl) w (by rw [ByteArray.size_append]; have := HTa.out; omega) he
        rw [bytesN_append, hQb, unq_qt (bytesN s) (bytesN tl) (bytesN_lt s)] at h
        have e1 : ansQ (some (bytesN s, (qtL (bytesN s)).length)) = .tuple #[.string s, .int .i64 (m : Nat), .int .i64 0] := by
          unfold ansQ
          dsimp only
          rw [strOf_bytesN, ← hQs, hm]
        rw [e1] at h
        exact h
      have HU2 : Hid (∀ k w, k < m → ES w → Calls Tryz.prog 40 #[.string (Q.extract 0 k)] w fun e w' => e = .returned (.tuple #[.string ⟨#[]⟩, .int .i64 0, .int .i64 134]) ∧ Below w.heap.size w w') := by
        intro k w hk he
        have h := Unquote_any (Q.extract 0 k) w (by simp; omega) he
        have e1 : bytesN (Q.extract 0 k) = (qtL (bytesN s)).take k := by rw [bytesN_extract, hQb]; simp
        rw [e1, unq_qt_part (bytesN s) (bytesN_lt s) k (by omega)] at h
        exact h
      have HBr : Hid (∀ k (hk : k < Q.size), 32 ≤ (Q[k]'hk).toNat ∧ (Q[k]'hk).toNat ≠ 127) := by
        intro k hk
        have h1 := bytesN_getD Q k hk
        rw [← h1, hQb]
        have hk2 : k < (qtL (bytesN s)).length := by omega
        have h2 := hb _ (List.getElem_mem hk2)
        have e : (qtL (bytesN s)).getD k 0 = (qtL (bytesN s))[k] := by simp [List.getD, hk2]
        rw [e]
        exact h2.1
      have hcat : m + tl.size ≤ 9223372036854775807 := by have := HTa.out; omega
      clear hc hsr hs hb hql hQ hQb hQs
      go_wp2_with (first
        | (go_at_call 38; refine (HSi.out _).mono ?_; rintro e w3 ⟨rfl, rfl⟩)
        | (go_at_call 13; refine (num13_any _ _).mono ?_; rintro e wn ⟨rfl, rfl⟩)
        | (go_at_call 39; refine (HQ.out _ (HT.out.below HB.out)).mono ?_; rintro e w4 ⟨rfl, hb⟩; have H4 := hide (And.intro (HB.out.trans (hb.mono HB.out.size)) ((hb.block w.heap.size (size_lt_of_row HRow.out)).trans HRow.out)); clear hb)
        | (go_at_call 40; refine (HU1.out _ (HE.out.below H4.out.1)).mono ?_; rintro e w5 ⟨rfl, hb⟩; have H5 := hide (And.intro (H4.out.1.trans (hb.mono H4.out.1.size)) ((hb.block w.heap.size (size_lt_of_row H4.out.2)).trans H4.out.2)); clear hb))
      go_loopw [10] (fun t10 wq => ∃ k : Nat, k ≤ m ∧ t10 = .int .i64 k ∧ Hid (Below w.heap.size w wq ∧ wq.heap[w.heap.size]? = some (.cells #[.slice (some ⟨b, o, none⟩) n c, .string tail] 78))) (fun t10 _ => m - (intOf t10).toNat)
      case atStart => exact ⟨0, by omega, rfl, H5.out⟩
      case round =>
        obtain ⟨k, hk, rfl, HI⟩ := hrel
        by_cases hkm : k < m
        · have hkz : (k : Int) < (m : Int) := by omega
          have hkz2 : (k : Int) ≤ (m : Int) := by omega
          have HUk := hide (fun w h => HU2.out k w hkm h)
          obtain ⟨x, hx⟩ : ∃ x, (Q[k]'(by omega)).toNat = x := ⟨_, rfl⟩
          have hbx := HBr.out k (by omega)
          rw [hx] at hbx
          have x1 : ¬ (x : Int) < 32 := by omega
          have x2 : ¬ (x : Int) = 127 := by omega
          have x3 : (32 : Int) ≤ (x : Int) := by omega
          have x1b : decide ((x : Int) < 32) = false := by simp; omega
          have x2b : ((x : Int) == 127) = false := by simp; omega
          by_cases hj : 400 < k ∧ k + 400 < m
          · have j1 : (400 : Int) < (k : Int) := by omega
            have j2 : (k : Int) < (m : Int) - 400 := by omega
            go_wp2_with (first
              | (go_at_call 13; refine (num13_any _ _).mono ?_; rintro e wn ⟨rfl, rfl⟩)
              | (go_at_call 40; refine (HUk.out _ (HE.out.below HI.out.1)).mono ?_; rintro e w6 ⟨rfl, hb⟩; have H6 := hide (And.intro (HI.out.1.trans (hb.mono HI.out.1.size)) ((hb.block w.heap.size (size_lt_of_row HI.out.2)).trans HI.out.2)); clear hb))
            go_roundw
            case rel => exact ⟨m - 400 + 1, by omega, by congr 1; omega, H6.out⟩
            case measure => simp [intOf]; omega
          · by_cases j1 : 400 < k
            · have j1z : (400 : Int) < (k : Int) := by omega
              have j2z : ¬ (k : Int) < (m : Int) - 400 := by omega
              go_wp2_with (first
                | (go_at_call 13; refine (num13_any _ _).mono ?_; rintro e wn ⟨rfl, rfl⟩)
                | (go_at_call 40; refine (HUk.out _ (HE.out.below HI.out.1)).mono ?_; rintro e w6 ⟨rfl, hb⟩; have H6 := hide (And.intro (HI.out.1.trans (hb.mono HI.out.1.size)) ((hb.block w.heap.size (size_lt_of_row HI.out.2)).trans HI.out.2)); clear hb))
              go_roundw
              case rel => exact ⟨k + 1, by omega, by go_num, H6.out⟩
              case measure => simp [intOf]; omega
            · have j1z : ¬ (400 : Int) < (k : Int) := by omega
              go_wp2_with (first
                | (go_at_call 13; refine (num13_any _ _).mono ?_; rintro e wn ⟨rfl, rfl⟩)
                | (go_at_call 40; refine (HUk.out _ (HE.out.below HI.out.1)).mono ?_; rintro e w6 ⟨rfl, hb⟩; have H6 := hide (And.intro (HI.out.1.trans (hb.mono HI.out.1.size)) ((hb.block w.heap.size (size_lt_of_row HI.out.2)).trans HI.out.2)); clear hb))
              go_roundw
              case rel => exact ⟨k + 1, by omega, by go_num, H6.out⟩
              case measure => simp [intOf]; omega
        · have hkz : ¬ (k : Int) < (m : Int) := by omega
          have H6 := hide HI.out
          clear HI
          go_wp2_with fail
          go_roundw
          case rel => exact ⟨i + 1, by omega, by go_num, H6.out⟩
          case measure => simp [intOf]; omega
    · have HW : Hid (∀ w', Below w.heap.size w w' → Calls Tryz.prog 22 #[] w' fun e w2 => e = .returned (.bool true) ∧ Below w'.heap.size w' w2) := fun w' hb => works13_any w' (HE.out.below hb) (HT.out.below hb) (HM.out.below hb)
      by_cases hl1 : i < n
      · have hz1 : (i : Int) < (n : Int) := by omega
        have hz2 : ¬ (i : Int) < 60 := by omega
        go_wp2_with (go_at_call 22; refine (HW.out _ HB.out).mono ?_; rintro e w6 ⟨rfl, hb⟩; have H6 := hide (HB.out.trans (hb.mono HB.out.size)); clear hb)
        go_ret
        exact ⟨rfl, H6.out⟩
      · have hz1 : ¬ (i : Int) < (n : Int) := by omega
        go_wp2_with (go_at_call 22; refine (HW.out _ HB.out).mono ?_; rintro e w6 ⟨rfl, hb⟩; have H6 := hide (HB.out.trans (hb.mono HB.out.size)); clear hb)
        go_ret
        exact ⟨rfl, H6.out⟩

end Go.Proofs.YtgcmdbpanfeaaaaGreatDoor

/- The contracts of a Reader's ones and Unary. -/
import Derived.Test.YtpiiagjfimdflaaU
namespace Go.Proofs.Ytpiiagjfimdflaa
open Go.RowKit
open M
set_option linter.unusedVariables false

theorem bit_of (l : List Bool) (j : Nat) (h : j < l.length) : num ((l.drop j).take 1) = if l[j] then 1 else 0 := by
  have e : (l.drop j).take 1 = [l[j]] := by
    rw [List.drop_eq_getElem_cons h]; rfl
  rw [e]; simp [num]

/-- How many ones stand in front: k of them, at most 65; behind them the end, a nought, or too many. -/
def OnesAt (r : List Bool) (k : Nat) : Prop := k ≤ 65 ∧ k ≤ r.length ∧ (∀ j, j < k → r[j]? = some true) ∧ (k = 65 ∨ k = r.length ∨ r[k]? = some false)

set_option maxRecDepth 100000 in
set_option maxHeartbeats 1000000 in
theorem ones_any (b off : Nat) (s : ByteArray) (a : Nat) (e0 : Int) (w : World) (h : Rd w b off s a e0) :
    Calls Try.prog 64 #[.pointer (some ⟨b, off, none⟩)] w fun e w' => ∃ k : Nat, e = .returned (.int .i64 k) ∧ OnesAt ((rb s).drop a) k ∧ ∃ m, w' = w.drewN m := by
  have h0 := h.text
  have h1 := h.at_
  have hs := h.size
  have hle := h.le
  have hlr : ((rb s).drop a).length = 8 * s.size - a := by simp [rb]
  have HLr : Hid (((rb s).drop a).length = 8 * s.size - a) := hlr
  have hrl : Hid ((rb s).length = 8 * s.size) := by show _ = _; simp [rb]
  clear hlr
  obtain ⟨most, hmost, hm65, HM⟩ : ∃ most : Nat, (most = 65 ∨ most = 8 * s.size - a) ∧ most ≤ 65 ∧ Hid (most = min (8 * s.size - a) 65) := ⟨min (8 * s.size - a) 65, by omega, by omega, rfl⟩
  clear hmost
  by_cases hbig : 65 < 8 * s.size - a
  · go_enter Try.func64, Try.ntmps64
    go_wp2_with fail
    refine (rleft_any b off s a e0 _ h).mono ?_
    rintro e w1 ⟨rfl, m0, rfl⟩
    have h0' := (h.drewN m0).text
    have h1' := (h.drewN m0).at_
    have hm0 : Hid (∃ m, w.drewN m0 = w.drewN m) := ⟨m0, rfl⟩
    generalize w.drewN m0 = w1 at *
    go_wp2_with fail
    go_loopw [4] (fun t4 wr => ∃ k : Nat, k ≤ 65 ∧ t4 = .int .i64 k ∧ Hid (k ≤ 8 * s.size - a ∧ ∀ j, j < k → ((rb s).drop a)[j]? = some true) ∧ Hid (∃ m, wr = w.drewN m)) (fun t4 _ => 65 - (intOf t4).toNat)
    case atStart => exact ⟨0, by omega, rfl, ⟨by omega, fun j hj => by omega⟩, hm0⟩
    case round =>
      obtain ⟨k, hk, rfl, Hk, Hm⟩ := hrel
      have h0r : wr.cell? ⟨b, off, none⟩ = some (.string s) := by obtain ⟨m, rfl⟩ := Hm.out; exact h0
      have h1r : wr.cell? ⟨b, off + 1, none⟩ = some (.int .i64 a) := by obtain ⟨m, rfl⟩ := Hm.out; exact h1
      by_cases hlt : k < 65
      · have hki : (k : Int) < 65 := by omega
        obtain ⟨ak, hak⟩ : ∃ ak : Nat, (a : Int) + (k : Int) = (ak : Int) := ⟨a + k, by omega⟩
        have hak2 : ak = a + k := by omega
        have hin : ak < (rb s).length := by rw [hrl.out]; omega
        have hbit := bit_of (rb s) ak hin
        have hget : ((rb s).drop a)[k]? = some (rb s)[ak] := by rw [List.getElem?_drop, ← hak2, List.getElem?_eq_getElem hin]
        have hlk := fun w (ht : World.cell? w ⟨b, off, none⟩ = some (.string s)) => look_any b off s ak 1 w ht hs (by omega) (by omega)
        have HK : Hid (∀ w : World, World.cell? w ⟨b, off, none⟩ = some (.string s) → Calls Try.prog 59 #[.pointer (some ⟨b, off, none⟩), .int .i64 ak, .int .i64 ((1 : Nat) : Int)] w fun e w' => e = .returned (.int .u64 (num (((rb s).drop ak).take 1) : Int)) ∧ ∃ m, w' = w.drewN m) := hlk
        have hb65 : ak ≤ 9000000000000 := by omega
        rw [hbit] at HK
        have HG : Hid (((rb s).drop a)[k]? = some (rb s)[ak]) := hget
        clear hlk hbit hak2 hget
        cases hb : (rb s)[ak] with
        | true =>
          rw [hb] at HK HG
          clear hb hin
          go_wp2_with fail
          refine (HK.out _ h0r).mono ?_
          rintro e w2 ⟨rfl, m2, rfl⟩
          go_wp2_with fail
          refine ⟨⟨k + 1, by omega, by go_num, ⟨by have := Hk.out; omega, fun j hj => ?_⟩, ?_⟩, by simp [intOf]; omega⟩
          · by_cases hjk : j < k
            · exact Hk.out.2 j hjk
            · rw [show j = k from by omega]; exact HG.out
          · obtain ⟨m, rfl⟩ := Hm.out
            exact ⟨m + m2, World.drewN_drewN _ _ _⟩
        | false =>
          rw [hb] at HK HG
          clear hb hin
          go_wp2_with fail
          refine (HK.out _ h0r).mono ?_
          rintro e w2 ⟨rfl, m2, rfl⟩
          go_wp2_with fail
          go_ret
          refine ⟨k, rfl, ⟨hk, by rw [HLr.out]; exact Hk.out.1, Hk.out.2, .inr (.inr HG.out)⟩, ?_⟩
          obtain ⟨m, rfl⟩ := Hm.out
          exact ⟨m + m2, World.drewN_drewN _ _ _⟩
      · have hki : ¬ (k : Int) < 65 := by omega
        go_wp2_with fail
        go_ret
        exact ⟨k, rfl, ⟨hk, by rw [HLr.out]; exact Hk.out.1, Hk.out.2, by rw [HLr.out]; have := Hk.out.1; omega⟩, Hm.out⟩
  · go_enter Try.func64, Try.ntmps64
    go_wp2_with fail
    refine (rleft_any b off s a e0 _ h).mono ?_
    rintro e w1 ⟨rfl, m0, rfl⟩
    have h0' := (h.drewN m0).text
    have h1' := (h.drewN m0).at_
    have hm0 : Hid (∃ m, w.drewN m0 = w.drewN m) := ⟨m0, rfl⟩
    generalize w.drewN m0 = w1 at *
    go_wp2_with fail
    go_loopw [4] (fun t4 wr => ∃ k : Nat, k ≤ 65 ∧ t4 = .int .i64 k ∧ Hid (k ≤ 8 * s.size - a ∧ ∀ j, j < k → ((rb s).drop a)[j]? = some true) ∧ Hid (∃ m, wr = w.drewN m)) (fun t4 _ => 65 - (intOf t4).toNat)
    case atStart => exact ⟨0, by omega, rfl, ⟨by omega, fun j hj => by omega⟩, hm0⟩
    case round =>
      obtain ⟨k, hk, rfl, Hk, Hm⟩ := hrel
      have h0r : wr.cell? ⟨b, off, none⟩ = some (.string s) := by obtain ⟨m, rfl⟩ := Hm.out; exact h0
      have h1r : wr.cell? ⟨b, off + 1, none⟩ = some (.int .i64 a) := by obtain ⟨m, rfl⟩ := Hm.out; exact h1
      by_cases hlt : k < 8 * s.size - a
      · have hki : (k : Int) < ((8 * s.size - a : Nat) : Int) := by omega
        obtain ⟨ak, hak⟩ : ∃ ak : Nat, (a : Int) + (k : Int) = (ak : Int) := ⟨a + k, by omega⟩
        have hak2 : ak = a + k := by omega
        have hin : ak < (rb s).length := by rw [hrl.out]; omega
        have hbit := bit_of (rb s) ak hin
        have hget : ((rb s).drop a)[k]? = some (rb s)[ak] := by rw [List.getElem?_drop, ← hak2, List.getElem?_eq_getElem hin]
        have hlk := fun w (ht : World.cell? w ⟨b, off, none⟩ = some (.string s)) => look_any b off s ak 1 w ht hs (by omega) (by omega)
        have HK : Hid (∀ w : World, World.cell? w ⟨b, off, none⟩ = some (.string s) → Calls Try.prog 59 #[.pointer (some ⟨b, off, none⟩), .int .i64 ak, .int .i64 ((1 : Nat) : Int)] w fun e w' => e = .returned (.int .u64 (num (((rb s).drop ak).take 1) : Int)) ∧ ∃ m, w' = w.drewN m) := hlk
        have hb65 : ak ≤ 9000000000000 := by omega
        rw [hbit] at HK
        have HG : Hid (((rb s).drop a)[k]? = some (rb s)[ak]) := hget
        clear hlk hbit hak2 hget
        cases hb : (rb s)[ak] with
        | true =>
          rw [hb] at HK HG
          clear hb hin
          go_wp2_with fail
          refine (HK.out _ h0r).mono ?_
          rintro e w2 ⟨rfl, m2, rfl⟩
          go_wp2_with fail
          refine ⟨⟨k + 1, by omega, by go_num, ⟨by have := Hk.out; omega, fun j hj => ?_⟩, ?_⟩, by simp [intOf]; omega⟩
          · by_cases hjk : j < k
            · exact Hk.out.2 j hjk
            · rw [show j = k from by omega]; exact HG.out
          · obtain ⟨m, rfl⟩ := Hm.out
            exact ⟨m + m2, World.drewN_drewN _ _ _⟩
        | false =>
          rw [hb] at HK HG
          clear hb hin
          go_wp2_with fail
          refine (HK.out _ h0r).mono ?_
          rintro e w2 ⟨rfl, m2, rfl⟩
          go_wp2_with fail
          go_ret
          refine ⟨k, rfl, ⟨hk, by rw [HLr.out]; exact Hk.out.1, Hk.out.2, .inr (.inr HG.out)⟩, ?_⟩
          obtain ⟨m, rfl⟩ := Hm.out
          exact ⟨m + m2, World.drewN_drewN _ _ _⟩
      · have hki : ¬ (k : Int) < ((8 * s.size - a : Nat) : Int) := by omega
        go_wp2_with fail
        go_ret
        exact ⟨k, rfl, ⟨hk, by rw [HLr.out]; exact Hk.out.1, Hk.out.2, by rw [HLr.out]; have := Hk.out.1; omega⟩, Hm.out⟩

/-- What Unary tells of a row of bits: a number and how many bits it took, or an error. -/
theorem runary_bad (b off : Nat) (s : ByteArray) (a : Nat) (e0 : Int) (w : World) (h : Rd w b off s a e0) (he : (e0 == 0) = false) :
    Calls Try.prog 35 #[.pointer (some ⟨b, off, none⟩)] w fun e w' => e = .returned (.int .i64 0) ∧ Rd w' b off s a e0 ∧ Only b off (off + 3) w w' := by
  have hne : (e0 != 0) = true := by simp [bne, he]
  have hs := h.size
  have hle := h.le
  go_enter Try.func35, Try.ntmps35
  go_wp2_with fail
  refine (ones_any b off s a e0 _ h).mono ?_
  rintro e w1 ⟨k, rfl, HO, m, rfl⟩
  have hR := h.drewN m
  have hE := hR.err
  have hO : Only b off (off + 3) w (w.drewN m) := (Only.refl _ _ _ w).drewN _
  have HK : Hid (OnesAt ((rb s).drop a) k) := HO
  have hk65 : k ≤ 65 := HO.1
  clear HO
  generalize w.drewN m = w1 at *
  by_cases h64 : 64 < k
  · have h64' : (64 : Int) < (k : Int) := by omega
    go_wp2_with fail
    refine (rrefuse_not b off 11 e0 w1 hE he).mono ?_
    rintro e w2 ⟨rfl, rfl⟩
    go_wp2_with fail
    go_ret
    exact ⟨rfl, hR, hO⟩
  · have h64' : ¬ (64 : Int) < (k : Int) := by omega
    go_wp2_with fail
    refine (rleft_any b off s a e0 _ hR).mono ?_
    rintro e w2 ⟨rfl, m2, rfl⟩
    have hR2 := hR.drewN m2
    have hE2 := hR2.err
    have hO2 := hO.drewN m2
    generalize w1.drewN m2 = w2 at *
    by_cases hl : k = 8 * s.size - a
    · have hl' : ((k : Int) == ((8 * s.size - a : Nat) : Int)) = true := by rw [beq_iff_eq]; omega
      go_wp2_with fail
      refine (rrefuse_not b off 12 e0 w2 hE2 he).mono ?_
      rintro e w3 ⟨rfl, rfl⟩
      go_wp2_with fail
      go_ret
      exact ⟨rfl, hR2, hO2⟩
    · have hl' : ((k : Int) == ((8 * s.size - a : Nat) : Int)) = false := by rw [beq_eq_false_iff_ne]; omega
      go_wp2_with fail
      go_ret
      exact ⟨rfl, hR2, hO2⟩

/-- Nothing has been refused. -/
theorem runary_any (b off : Nat) (s : ByteArray) (a : Nat) (w : World) (h : Rd w b off s a 0) :
    Calls Try.prog 35 #[.pointer (some ⟨b, off, none⟩)] w fun e w' => ∃ k : Nat, OnesAt ((rb s).drop a) k ∧ Only b off (off + 3) w w' ∧
      ((k = 65 ∧ e = .returned (.int .i64 0) ∧ Rd w' b off s a 11) ∨ (k ≤ 64 ∧ k = ((rb s).drop a).length ∧ e = .returned (.int .i64 0) ∧ Rd w' b off s a 12) ∨
       (k ≤ 64 ∧ k < ((rb s).drop a).length ∧ e = .returned (.int .i64 k) ∧ Rd w' b off s (a + k + 1) 0)) := by
  have hs := h.size
  have hle := h.le
  have hlr : Hid (((rb s).drop a).length = 8 * s.size - a) := by show _ = _; simp [rb]
  go_enter Try.func35, Try.ntmps35
  go_wp2_with fail
  refine (ones_any b off s a 0 _ h).mono ?_
  rintro e w1 ⟨k, rfl, HO, m, rfl⟩
  have hR := h.drewN m
  have hE := hR.err
  have hf2 := hR.fz 2 (by omega)
  have hO : Only b off (off + 3) w (w.drewN m) := (Only.refl _ _ _ w).drewN _
  have HK : Hid (OnesAt ((rb s).drop a) k) := HO
  have hk65 : k ≤ 65 := HO.1
  clear HO
  generalize w.drewN m = w1 at *
  by_cases h64 : 64 < k
  · have h64' : (64 : Int) < (k : Int) := by omega
    go_wp2_with fail
    refine (rrefuse_zero b off 11 w1 hE hf2).mono ?_
    rintro e w2 ⟨rfl, hw2⟩
    have hR2 : Rd w2 b off s a 11 := by rw [hw2]; exact hR.setErr 11
    have hO2 : Only b off (off + 3) w w2 := by rw [hw2]; exact hO.setCell _ (by omega) (by omega) _
    have hE2 := hR2.err
    clear hw2
    go_wp2_with fail
    go_ret
    exact ⟨k, HK.out, hO2, .inl ⟨by omega, rfl, hR2⟩⟩
  · have h64' : ¬ (64 : Int) < (k : Int) := by omega
    go_wp2_with fail
    refine (rleft_any b off s a 0 _ hR).mono ?_
    rintro e w2 ⟨rfl, m2, rfl⟩
    have hR2 := hR.drewN m2
    have hE2 := hR2.err
    have hA2 := hR2.at_
    have hf3 := hR2.fz 2 (by omega)
    have hf4 := hR2.fz 1 (by omega)
    have hO2 := hO.drewN m2
    generalize w1.drewN m2 = w2 at *
    by_cases hl : k = 8 * s.size - a
    · have hl' : ((k : Int) == ((8 * s.size - a : Nat) : Int)) = true := by rw [beq_iff_eq]; omega
      go_wp2_with fail
      refine (rrefuse_zero b off 12 w2 hE2 hf3).mono ?_
      rintro e w3 ⟨rfl, hw3⟩
      have hR3 : Rd w3 b off s a 12 := by rw [hw3]; exact hR2.setErr 12
      have hO3 : Only b off (off + 3) w w3 := by rw [hw3]; exact hO2.setCell _ (by omega) (by omega) _
      have hE3 := hR3.err
      clear hw3
      go_wp2_with fail
      go_ret
      exact ⟨k, HK.out, hO3, .inr (.inl ⟨by omega, by rw [hlr.out]; exact hl, rfl, hR3⟩)⟩
    · have hl' : ((k : Int) == ((8 * s.size - a : Nat) : Int)) = false := by rw [beq_eq_false_iff_ne]; omega
      have hkl : k < 8 * s.size - a := by have := HK.out.2.1; rw [hlr.out] at this; omega
      go_wp2_with fail
      go_ret
      refine ⟨k, HK.out, ?_, .inr (.inr ⟨by omega, by rw [hlr.out]; exact hkl, rfl, ?_⟩)⟩
      · exact hO2.setCell _ (by omega) (by omega) _
      · have := hR2.setAt (a + k + 1) (by omega)
        simpa [Nat.add_assoc, Int.add_assoc] using this

end Go.Proofs.Ytpiiagjfimdflaa

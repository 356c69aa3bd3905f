/- Does a disk keep what is sure, and lose the rest with its power? The law's works. -/
import Derived.Test.YtlandfghodfjdaaGreatJ12T
import Derived.Lib.SmallJoins
namespace Go.Proofs.YtlandfghodfjdaaGreat
open Go.RowKit
set_option linter.unusedVariables false
set_option linter.unusedSimpArgs false

def nmA : ByteArray := { data := #[97] }
theorem okA : okN nmA := ⟨by decide, by decide, fun i h => by
  have : i = 0 := by have : nmA.size = 1 := rfl; omega
  subst this
  show 0 ≤ firstIdx letters 97
  decide +kernel⟩
theorem strxyz : strOf [120, 121, 122] = { data := #[120, 121, 122] } := by decide +kernel

set_option maxRecDepth 100000 in
theorem num10_any (c : Int) (w : World) : Calls Tryz.prog 7 #[.int .i64 c] w fun e w' => e = .returned (.int .i64 c) ∧ w' = w := by
  go_enter Tryz.func7, Tryz.ntmps7
  go_wp2
  go_ret
  exact ⟨rfl, rfl⟩

theorem bel_fr {B : Nat} {w a b : World} {F F' : Nat → Prop} (h0 : Below B w a) (hB : B ≤ w.heap.size) (hf : Fr a F b F') (hF : ∀ k, F k → B ≤ k) : Below B w b := h0.trans (hf.below hF (Nat.le_trans hB h0.size))

set_option maxRecDepth 100000 in
set_option maxHeartbeats 4000000 in
theorem works10_any (w : World) : Calls Tryz.prog 8 #[] w fun e w' => e = .returned (.bool true) ∧ Below w.heap.size w w' := by
  have HNW := hide (di_new w w.heap.size (Nat.le_refl _) 10 (by decide) (by decide))
  have HA1 : Hid (∀ w1 d F, Di w.heap.size w1 d ({ con := [], room := 10, off := false, ain := 0, keep := 0, lose := 0, wr := 0 } : PS) F → Calls Tryz.prog 24 #[.pointer (some ⟨d, 0, none⟩), .string nmA, .slice (some ⟨w1.heap.size, 0, none⟩) 2 2] (w1.alloc (.cells #[.int .u8 120, .int .u8 121] 5 (2, 3))) fun e w' => e = .returned (.int .i64 0) ∧ ∃ F', Di w.heap.size w' d ({ con := [(nmA, [120, 121], 0)], room := 10, off := false, ain := 0, keep := 0, lose := 0, wr := 1 } : PS) F' ∧ Fr w1 F w' F') := fun w1 d F h1 => by
    have hb : Below w1.heap.size w1 (w1.alloc (.cells #[.int .u8 120, .int .u8 121] 5 (2, 3))) := (Below.refl _ _).alloc (Nat.le_refl _) _
    refine (di_appendW _ (h1.below hb) rfl ⟨by decide, ⟨by decide, by decide⟩, by decide, by decide⟩ (by decide) nmA okA (.inr ⟨by simp, by decide⟩) (some ⟨w1.heap.size, 0, none⟩) 2 2 [120, 121] rfl (Nat.le_refl _) (by simp) (.inl (.inr ⟨w1.heap.size, 0, 2, rfl, fun i hi => ?_⟩)) (fun k hk hf => ?_) (by decide) (by decide)).mono ?_
    · rw [Nat.zero_add, cell_of_row _ _ _ _ _ _ (heap_alloc_new w1 (.cells #[.int .u8 120, .int .u8 121] 5 (2, 3)))]
      have : i < 2 := hi
      match i, this with
      | 0, _ => rfl
      | 1, _ => rfl
    · have : w1.heap.size = k := by simpa [Value.ownBlock] using hk
      have := h1.lt k hf
      omega
    · rintro e w' ⟨rfl, F', k1, k2⟩
      exact ⟨rfl, F', k1, (Fr.of_below hb).trans k2⟩
  have HA2 : Hid (∀ w1 d F, Di w.heap.size w1 d ({ con := [(nmA, [120, 121], 2)], room := 10, off := false, ain := 0, keep := 0, lose := 0, wr := 2 } : PS) F → Calls Tryz.prog 24 #[.pointer (some ⟨d, 0, none⟩), .string nmA, .slice (some ⟨w1.heap.size, 0, none⟩) 1 1] (w1.alloc (.cells #[.int .u8 122] 5 (1, 2))) fun e w' => e = .returned (.int .i64 0) ∧ ∃ F', Di w.heap.size w' d ({ con := [(nmA, [120, 121, 122], 2)], room := 10, off := false, ain := 0, keep := 0, lose := 0, wr := 3 } : PS) F' ∧ Fr w1 F w' F') := fun w1 d F h1 => by
    have hb : Below w1.heap.size w1 (w1.alloc (.cells #[.int .u8 122] 5 (1, 2))) := (Below.refl _ _).alloc (Nat.le_refl _) _
    refine (di_appendW _ (h1.below hb) rfl ⟨by decide, ⟨by decide, by decide⟩, by decide, by decide⟩ (by decide) nmA okA (.inl ⟨_, List.mem_singleton.2 rfl, rfl⟩) (some ⟨w1.heap.size, 0, none⟩) 1 1 [122] rfl (Nat.le_refl _) (by simp) (.inl (.inr ⟨w1.heap.size, 0, 1, rfl, fun i hi => ?_⟩)) (fun k hk hf => ?_) (by decide) (by decide)).mono ?_
    · rw [Nat.zero_add, cell_of_row _ _ _ _ _ _ (heap_alloc_new w1 (.cells #[.int .u8 122] 5 (1, 2)))]
      have : i < 1 := hi
      match i, this with
      | 0, _ => rfl
    · have : w1.heap.size = k := by simpa [Value.ownBlock] using hk
      have := h1.lt k hf
      omega
    · rintro e w' ⟨rfl, F', k1, k2⟩
      exact ⟨rfl, F', k1, (Fr.of_below hb).trans k2⟩
  have HA3 : Hid (∀ w1 d F, Di w.heap.size w1 d ({ con := [(nmA, [120, 121, 122], 2)], room := 10, off := false, ain := 1, keep := 1, lose := 1, wr := 3 } : PS) F → Calls Tryz.prog 24 #[.pointer (some ⟨d, 0, none⟩), .string nmA, .slice (some ⟨w1.heap.size, 0, none⟩) 2 2] (w1.alloc (.cells #[.int .u8 117, .int .u8 118] 5 (2, 3))) fun e w' => e = .returned (.int .i64 104) ∧ ∃ F', Di w.heap.size w' d ({ con := [(nmA, [120, 121, 122], 2)], room := 10, off := true, ain := 0, keep := 0, lose := 0, wr := 4 } : PS) F' ∧ Fr w1 F w' F') := fun w1 d F h1 => by
    have hb : Below w1.heap.size w1 (w1.alloc (.cells #[.int .u8 117, .int .u8 118] 5 (2, 3))) := (Below.refl _ _).alloc (Nat.le_refl _) _
    refine (di_appendW _ (h1.below hb) rfl ⟨by decide, ⟨by decide, by decide⟩, by decide, by decide⟩ (by decide) nmA okA (.inl ⟨_, List.mem_singleton.2 rfl, rfl⟩) (some ⟨w1.heap.size, 0, none⟩) 2 2 [117, 118] rfl (Nat.le_refl _) (by simp) (.inl (.inr ⟨w1.heap.size, 0, 2, rfl, fun i hi => ?_⟩)) (fun k hk hf => ?_) (by decide) (by decide)).mono ?_
    · rw [Nat.zero_add, cell_of_row _ _ _ _ _ _ (heap_alloc_new w1 (.cells #[.int .u8 117, .int .u8 118] 5 (2, 3)))]
      have : i < 2 := hi
      match i, this with
      | 0, _ => rfl
      | 1, _ => rfl
    · have : w1.heap.size = k := by simpa [Value.ownBlock] using hk
      have := h1.lt k hf
      omega
    · rintro e w' ⟨rfl, F', k1, k2⟩
      exact ⟨rfl, F', k1, (Fr.of_below hb).trans k2⟩
  have HSY : Hid (∀ w1 d F, Di w.heap.size w1 d ({ con := [(nmA, [120, 121], 0)], room := 10, off := false, ain := 0, keep := 0, lose := 0, wr := 1 } : PS) F → Calls Tryz.prog 25 #[.pointer (some ⟨d, 0, none⟩), .string nmA] w1 fun e w' => e = .returned (.int .i64 0) ∧ ∃ F', Di w.heap.size w' d ({ con := [(nmA, [120, 121], 2)], room := 10, off := false, ain := 0, keep := 0, lose := 0, wr := 2 } : PS) F' ∧ Fr w1 F w' F') := fun w1 d F h1 => di_syncW w1 h1 rfl ⟨by decide, ⟨by decide, by decide⟩, by decide, by decide⟩ (by decide) nmA okA ⟨_, List.mem_singleton.2 rfl, rfl⟩
  have HAR : Hid (∀ w1 d F, Di w.heap.size w1 d ({ con := [(nmA, [120, 121, 122], 2)], room := 10, off := false, ain := 0, keep := 0, lose := 0, wr := 3 } : PS) F → Calls Tryz.prog 20 #[.pointer (some ⟨d, 0, none⟩), .int .i64 1, .int .i64 1, .int .i64 1] w1 fun e w' => e = .returned (.tuple #[]) ∧ ∃ F', Di w.heap.size w' d ({ con := [(nmA, [120, 121, 122], 2)], room := 10, off := false, ain := 1, keep := 1, lose := 1, wr := 3 } : PS) F' ∧ Fr w1 F w' F') := fun w1 d F h1 => by
    refine (di_arm w1 h1 1 1 1).mono ?_
    rintro e w' ⟨rfl, k1, k2⟩
    exact ⟨rfl, F, k1, k2⟩
  have HOF : Hid (∀ w1 d F, Di w.heap.size w1 d ({ con := [(nmA, [120, 121, 122], 2)], room := 10, off := true, ain := 0, keep := 0, lose := 0, wr := 4 } : PS) F → Calls Tryz.prog 19 #[.pointer (some ⟨d, 0, none⟩)] w1 fun e w' => e = .returned (.bool true) ∧ ∃ F', Di w.heap.size w' d ({ con := [(nmA, [120, 121, 122], 2)], room := 10, off := true, ain := 0, keep := 0, lose := 0, wr := 4 } : PS) F' ∧ Fr w1 F w' F') := fun w1 d F h1 => by
    refine (di_off w1 h1).mono ?_
    rintro e w' ⟨rfl, k1, k2⟩
    exact ⟨rfl, F, k1, k2⟩
  have HON : Hid (∀ w1 d F, Di w.heap.size w1 d ({ con := [(nmA, [120, 121, 122], 2)], room := 10, off := true, ain := 0, keep := 0, lose := 0, wr := 4 } : PS) F → Calls Tryz.prog 26 #[.pointer (some ⟨d, 0, none⟩)] w1 fun e w' => e = .returned (.tuple #[]) ∧ ∃ F', Di w.heap.size w' d ({ con := [(nmA, [120, 121, 122], 3)], room := 10, off := false, ain := 0, keep := 0, lose := 0, wr := 4 } : PS) F' ∧ Fr w1 F w' F') := fun w1 d F h1 => di_on w1 h1
  have HRD : Hid (∀ w1 d F, Di w.heap.size w1 d ({ con := [(nmA, [120, 121, 122], 3)], room := 10, off := false, ain := 0, keep := 0, lose := 0, wr := 4 } : PS) F → Calls Tryz.prog 27 #[.pointer (some ⟨d, 0, none⟩), .string nmA] w1 fun e w' => ∃ (p : Option Addr) (c : Nat), e = .returned (.tuple #[.slice p 3 c, .int .i64 0]) ∧ IsBy w' (.slice p 3 c) [120, 121, 122] ∧ ∃ F', Di w.heap.size w' d ({ con := [(nmA, [120, 121, 122], 3)], room := 10, off := false, ain := 0, keep := 0, lose := 0, wr := 4 } : PS) F' ∧ Fr w1 F w' F') := fun w1 d F h1 => by
    refine (di_read w1 h1 rfl nmA okA [120, 121, 122] 3 (List.mem_singleton.2 rfl)).mono ?_
    rintro e w' ⟨v, rfl, ⟨k1, k2⟩, k3, k4, k5⟩
    have ho : OB w1.heap.size w' [120, 121, 122] v w' := ⟨k3, Below.refl _ _, k2.size⟩
    obtain ⟨p, c, rfl⟩ := ob_slice ho
    exact ⟨p, c, rfl, ho.by_, F, k1, k2⟩
  have HWR : Hid (∀ w1 d F, Di w.heap.size w1 d ({ con := [(nmA, [120, 121, 122], 3)], room := 10, off := false, ain := 0, keep := 0, lose := 0, wr := 4 } : PS) F → Calls Tryz.prog 11 #[.pointer (some ⟨d, 0, none⟩)] w1 fun e w' => e = .returned (.int .i64 4) ∧ ∃ F', Di w.heap.size w' d ({ con := [(nmA, [120, 121, 122], 3)], room := 10, off := false, ain := 0, keep := 0, lose := 0, wr := 4 } : PS) F' ∧ Fr w1 F w' F') := fun w1 d F h1 => by
    refine (di_writes w1 h1).mono ?_
    rintro e w' ⟨rfl, k1, k2⟩
    exact ⟨rfl, F, k1, k2⟩
  go_enter Tryz.func8, Tryz.ntmps8
  go_wp2_with (first
    | (go_at_call 7; refine (num10_any _ _).mono ?_; rintro e wn ⟨rfl, hwn⟩; have hwn2 := hwn.symm; subst hwn2)
    | (simp only [hcv])
    | (simp only [hcs])
    | (go_at_call 6; refine HNW.out.mono ?_; rintro e w1 ⟨d, F1, rfl, hD1, hB1, hG1⟩; have H1 : Hid (Di w.heap.size w1 d ({ con := [], room := 10, off := false, ain := 0, keep := 0, lose := 0, wr := 0 } : PS) F1 ∧ Below w.heap.size w w1) := ⟨hD1, hB1⟩; clear hD1 hB1 hG1 HNW; have hcv := Go.Joins.run_convert_bytes_const_at (P := Tryz.prog) w1 33 5 #[.int .u8 120, .int .u8 121] 2 2 w1.heap.size rfl Tryz.underlying33 (by kernel_rfl); rw [show (Array.size (α := Value) #[.int .u8 120, .int .u8 121]) = 2 from rfl] at hcv)
    | (go_at_call 24; refine (HA1.out w1 d F1 H1.out.1).mono ?_; rintro e w2 ⟨rfl, F2, hD, hF⟩; have H2 : Hid (Di w.heap.size w2 d ({ con := [(nmA, [120, 121], 0)], room := 10, off := false, ain := 0, keep := 0, lose := 0, wr := 1 } : PS) F2 ∧ Below w.heap.size w w2) := ⟨hD, bel_fr H1.out.2 (Nat.le_refl _) hF H1.out.1.ge⟩; clear hD hF H1 hcv HA1)
    | (go_at_call 25; refine (HSY.out w2 d F2 H2.out.1).mono ?_; rintro e w3 ⟨rfl, F3, hD, hF⟩; have H3 : Hid (Di w.heap.size w3 d ({ con := [(nmA, [120, 121], 2)], room := 10, off := false, ain := 0, keep := 0, lose := 0, wr := 2 } : PS) F3 ∧ Below w.heap.size w w3) := ⟨hD, bel_fr H2.out.2 (Nat.le_refl _) hF H2.out.1.ge⟩; clear hD hF H2 HSY; have hcv := Go.Joins.run_convert_bytes_const_at (P := Tryz.prog) w3 33 5 #[.int .u8 122] 1 1 w3.heap.size rfl Tryz.underlying33 (by kernel_rfl); rw [show (Array.size (α := Value) #[.int .u8 122]) = 1 from rfl] at hcv)
    | (go_at_call 24; refine (HA2.out w3 d F3 H3.out.1).mono ?_; rintro e w4 ⟨rfl, F4, hD, hF⟩; have H4 : Hid (Di w.heap.size w4 d ({ con := [(nmA, [120, 121, 122], 2)], room := 10, off := false, ain := 0, keep := 0, lose := 0, wr := 3 } : PS) F4 ∧ Below w.heap.size w w4) := ⟨hD, bel_fr H3.out.2 (Nat.le_refl _) hF H3.out.1.ge⟩; clear hD hF H3 hcv HA2)
    | (go_at_call 20; refine (HAR.out w4 d F4 H4.out.1).mono ?_; rintro e w5 ⟨rfl, F5, hD, hF⟩; have H5 : Hid (Di w.heap.size w5 d ({ con := [(nmA, [120, 121, 122], 2)], room := 10, off := false, ain := 1, keep := 1, lose := 1, wr := 3 } : PS) F5 ∧ Below w.heap.size w w5) := ⟨hD, bel_fr H4.out.2 (Nat.le_refl _) hF H4.out.1.ge⟩; clear hD hF H4 HAR; have hcv := Go.Joins.run_convert_bytes_const_at (P := Tryz.prog) w5 33 5 #[.int .u8 117, .int .u8 118] 2 2 w5.heap.size rfl Tryz.underlying33 (by kernel_rfl); rw [show (Array.size (α := Value) #[.int .u8 117, .int .u8 118]) = 2 from rfl] at hcv)
    | (go_at_call 24; refine (HA3.out w5 d F5 H5.out.1).mono ?_; rintro e w6 ⟨rfl, F6, hD, hF⟩; have H6 : Hid (Di w.heap.size w6 d ({ con := [(nmA, [120, 121, 122], 2)], room := 10, off := true, ain := 0, keep := 0, lose := 0, wr := 4 } : PS) F6 ∧ Below w.heap.size w w6) := ⟨hD, bel_fr H5.out.2 (Nat.le_refl _) hF H5.out.1.ge⟩; clear hD hF H5 hcv HA3)
    | (go_at_call 19; refine (HOF.out w6 d F6 H6.out.1).mono ?_; rintro e w7 ⟨rfl, F7, hD, hF⟩; have H7 : Hid (Di w.heap.size w7 d ({ con := [(nmA, [120, 121, 122], 2)], room := 10, off := true, ain := 0, keep := 0, lose := 0, wr := 4 } : PS) F7 ∧ Below w.heap.size w w7) := ⟨hD, bel_fr H6.out.2 (Nat.le_refl _) hF H6.out.1.ge⟩; clear hD hF H6 HOF)
    | (go_at_call 26; refine (HON.out w7 d F7 H7.out.1).mono ?_; rintro e w8 ⟨rfl, F8, hD, hF⟩; have H8 : Hid (Di w.heap.size w8 d ({ con := [(nmA, [120, 121, 122], 3)], room := 10, off := false, ain := 0, keep := 0, lose := 0, wr := 4 } : PS) F8 ∧ Below w.heap.size w w8) := ⟨hD, bel_fr H7.out.2 (Nat.le_refl _) hF H7.out.1.ge⟩; clear hD hF H7 HON)
    | (go_at_call 27; refine (HRD.out w8 d F8 H8.out.1).mono ?_; rintro e w9 ⟨p9, c9, rfl, hI, F9, hD, hF⟩; have hcs := convert_by w9 _ _ hI; rw [strxyz] at hcs; have H9 : Hid (Di w.heap.size w9 d ({ con := [(nmA, [120, 121, 122], 3)], room := 10, off := false, ain := 0, keep := 0, lose := 0, wr := 4 } : PS) F9 ∧ Below w.heap.size w w9) := ⟨hD, bel_fr H8.out.2 (Nat.le_refl _) hF H8.out.1.ge⟩; clear hI hD hF H8 HRD)
    | (go_at_call 11; refine (HWR.out w9 d F9 H9.out.1).mono ?_; rintro e wa ⟨rfl, Fa, hD, hF⟩; have Ha : Hid (Di w.heap.size wa d ({ con := [(nmA, [120, 121, 122], 3)], room := 10, off := false, ain := 0, keep := 0, lose := 0, wr := 4 } : PS) Fa ∧ Below w.heap.size w wa) := ⟨hD, bel_fr H9.out.2 (Nat.le_refl _) hF H9.out.1.ge⟩; clear hD hF H9 HWR))
  go_ret
  exact ⟨rfl, Ha.out.2⟩

end Go.Proofs.YtlandfghodfjdaaGreat

/- LabelEscapes' walk. -/
import Derived.Test.YtgcmdbpanfeaaabGreatDoorL5E
namespace Go.Proofs.YtgcmdbpanfeaaabGreatDoor
open Go.RowKit
set_option linter.unusedVariables false
set_option linter.unusedSimpArgs false

theorem conv1 (w : World) (x : Nat) : (convert 42 9 (.slice (some ⟨w.heap.size, 0, none⟩) 1 1)).run Tryz.prog (w.alloc (.cells #[.int .u8 (x : Int)] 5)) = .ok (.string (strOf [x])) (w.alloc (.cells #[.int .u8 (x : Int)] 5)) :=
  convert_bytes _ _ [x] (.inr ⟨w.heap.size, 0, 1, rfl, fun i hi => by
    have : i = 0 := by simp at hi; omega
    subst this
    rw [cell_of_row _ _ _ _ _ _ (heap_alloc_new w _)]
    rfl⟩)

theorem size_of_bytes {S : ByteArray} {l : List Nat} (h : bytesN S = l) : S.size = l.length := by rw [← bytesN_length, h]

theorem rd1 (c : Nat) (S : ByteArray) (hc : c < 256) (hS : bytesN S = [c]) (h34 : c ≠ 34) (b : Bool) (hb : b = decide (32 ≤ c ∧ c ≠ 127 ∧ c ≠ 92)) (w : World) (he : ES w) :
    Calls Tryz.prog 15 #[.string (⟨#[34]⟩ ++ S ++ ⟨#[34]⟩), .string S, .bool b] w fun e w' => e = .returned (.bool true) ∧ Below w.heap.size w w' := by
  have e : bytesN (⟨#[34]⟩ ++ S ++ ⟨#[34]⟩) = [34, c, 34] := by rw [bytesN_append, bytesN_append, hS]; rfl
  refine reads_any _ _ _ _ he (by rw [size_of_bytes e]; simp) ?_
  rw [e, esc1 c hc h34, hS, size_of_bytes e, hb]
  by_cases h : 32 ≤ c ∧ c ≠ 127 ∧ c ≠ 92
  · rw [if_pos h, if_pos (by simpa using h)]; rfl
  · rw [if_neg h, if_neg (by simpa using h)]

theorem rd2 (c : Nat) (S S2 : ByteArray) (hc : c < 256) (hS : bytesN S = [c]) (b : Bool) (hb : unqL [34, 92, c, 34] = if b = true then some (bytesN S2, 4) else none) (w : World) (he : ES w) :
    Calls Tryz.prog 15 #[.string (⟨#[34, 92]⟩ ++ S ++ ⟨#[34]⟩), .string S2, .bool b] w fun e w' => e = .returned (.bool true) ∧ Below w.heap.size w w' := by
  have e : bytesN (⟨#[34, 92]⟩ ++ S ++ ⟨#[34]⟩) = [34, 92, c, 34] := by rw [bytesN_append, bytesN_append, hS]; rfl
  refine reads_any _ _ _ _ he (by rw [size_of_bytes e]; simp) ?_
  rw [e, hb, size_of_bytes e]
  rfl

theorem rd3 (c : Nat) (S : ByteArray) (hc : c < 256) (hS : bytesN S = [c]) (d x : Nat) (ok : Bool) (hd : d < 16) (hx : 16 * d + 5 = x) (k : unqL [34, 92, 120, c, 53, 34] = if ok = true then some ([16 * d + 5], 6) else none) (w : World) (he : ES w) :
    Calls Tryz.prog 15 #[.string (⟨#[34, 92, 120]⟩ ++ S ++ ⟨#[53, 34]⟩), .string (strOf [x]), .bool ok] w fun e w' => e = .returned (.bool true) ∧ Below w.heap.size w w' := by
  have e : bytesN (⟨#[34, 92, 120]⟩ ++ S ++ ⟨#[53, 34]⟩) = [34, 92, 120, c, 53, 34] := by rw [bytesN_append, bytesN_append, hS]; rfl
  refine reads_any _ _ _ _ he (by rw [size_of_bytes e]; simp) ?_
  rw [e, k, size_of_bytes e, bytesN_strOf _ (by simp; omega), hx]
  rfl

theorem rd4 (c : Nat) (S : ByteArray) (hc : c < 256) (hS : bytesN S = [c]) (d x : Nat) (ok : Bool) (hd : d < 16) (hx : 80 + d = x) (k : unqL [34, 92, 120, 53, c, 34] = if ok = true then some ([80 + d], 6) else none) (w : World) (he : ES w) :
    Calls Tryz.prog 15 #[.string (⟨#[34, 92, 120, 53]⟩ ++ S ++ ⟨#[34]⟩), .string (strOf [x]), .bool ok] w fun e w' => e = .returned (.bool true) ∧ Below w.heap.size w w' := by
  have e : bytesN (⟨#[34, 92, 120, 53]⟩ ++ S ++ ⟨#[34]⟩) = [34, 92, 120, 53, c, 34] := by rw [bytesN_append, bytesN_append, hS]; rfl
  refine reads_any _ _ _ _ he (by rw [size_of_bytes e]; simp) ?_
  rw [e, k, size_of_bytes e, bytesN_strOf _ (by simp; omega), hx]
  rfl

theorem str_eq {X : ByteArray} {l : List Nat} (h : bytesN X = l) : strOf l = X := by rw [← h, strOf_bytesN]

/-- The bytes, sorted. -/
theorem classes (c : Nat) (h : c < 256) : (c < 32 ∧ c ≠ 10) ∨ c = 10 ∨ c = 34 ∨ c = 92 ∨ c = 110 ∨ c = 127 ∨ 128 ≤ c ∨ (32 ≤ c ∧ c < 127 ∧ c ≠ 34 ∧ c ≠ 92 ∧ c ≠ 110) := by omega

/-- What is no text in quotes. -/
def endS (i : Nat) : ByteArray := ([⟨#[]⟩, ⟨#[34]⟩, ⟨#[34, 97]⟩, ⟨#[34, 92]⟩, ⟨#[34, 92, 120]⟩, ⟨#[34, 92, 120, 52]⟩, ⟨#[34, 92, 120, 52, 34]⟩, ⟨#[34, 92, 120, 34]⟩, ⟨#[34, 92, 120, 52, 49]⟩, ⟨#[97, 34, 34]⟩, ⟨#[32, 34, 34]⟩] : List ByteArray).getD i ⟨#[]⟩
theorem ends_is : ∀ i, i < 11 → unqL (bytesN (endS i)) = none ∧ (endS i).size ≤ 1000 := by decide +kernel

set_option maxRecDepth 100000 in
set_option maxHeartbeats 4000000 in
theorem labelEscapes_any (w : World) (hE : ES w) (hT : UT w) (hM : MX w) : Calls Tryz.prog 4 #[] w fun e w' => e = .returned (.bool true) ∧ Below w.heap.size w w' := by
  have HE := hide hE
  have HT := hide hT
  have HM := hide hM
  have HB0 : Hid (Below w.heap.size w w) := Below.refl _ _
  clear hE hT hM
  go_enter Tryz.func4, Tryz.ntmps4
  go_wp2_with fail
  go_loopw [1] (fun t1 wr => ∃ c : Nat, c ≤ 256 ∧ t1 = .int .i64 c ∧ Hid (Below w.heap.size w wr)) (fun t1 _ => 256 - (intOf t1).toNat)
  case atStart => exact ⟨0, by omega, rfl, HB0.out⟩
  case round =>
    obtain ⟨c, hc, rfl, HB⟩ := hrel
    by_cases hlt : c < 256
    · have hz : (c : Int) < 256 := by omega
      have w8 : IntKind.u8.wrap (c : Int) = (c : Int) := by simp [IntKind.wrap, IntKind.bits, IntKind.signed]; omega
      have hcv := conv1 wr c
      have hS : bytesN (strOf [c]) = [c] := bytesN_strOf _ (by simpa using hlt)
      have hS1 : (strOf [c]).size = 1 := by simp
      obtain ⟨S, hSS⟩ : ∃ S, strOf [c] = S := ⟨_, rfl⟩
      rw [hSS] at hcv hS hS1
      have HB1 : Hid (Below w.heap.size w (wr.alloc (.cells #[.int .u8 (c : Int)] 5))) := HB.out.alloc HB.out.size _
      have HX := hide (fun w => hex13_any c hlt w)
      have hd := hexT_lt c hlt
      have k3 := esc3 c hlt
      have k4 := esc4 c hlt
      obtain ⟨d, hd2⟩ : ∃ d, (hexT c).1 = d := ⟨_, rfl⟩
      obtain ⟨ok, hok⟩ : ∃ ok, (hexT c).2 = ok := ⟨_, rfl⟩
      rw [hd2] at hd k3 k4 HX
      rw [hok] at k3 k4 HX
      obtain ⟨xA, hxA⟩ : ∃ x, 16 * d + 5 = x := ⟨_, rfl⟩
      obtain ⟨xB, hxB⟩ : ∃ x, 80 + d = x := ⟨_, rfl⟩
      have wA : IntKind.u8.wrap (16 * (d : Int) + 5) = (xA : Int) := by rw [IntKind.wrap_u8]; omega
      have wB : IntKind.u8.wrap (80 + (d : Int)) = (xB : Int) := by rw [IntKind.wrap_u8]; omega
      have HR3 := hide (fun w he => rd3 c S hlt hS d xA ok hd hxA k3 w he)
      have HR4 := hide (fun w he => rd4 c S hlt hS d xB ok hd hxB k4 w he)
      have ha16 : c / 16 < 16 := by omega
      have hb16 : c % 16 < 16 := by omega
      have qz : (c : Int).tdiv 16 = ((c / 16 : Nat) : Int) := by rw [Int.tdiv_eq_ediv_of_nonneg (by omega)]; omega
      have rz : (c : Int).tmod 16 = ((c % 16 : Nat) : Int) := by rw [Int.tmod_eq_emod_of_nonneg (by omega)]; omega
      have HQ : Hid (∀ w, UT w → Calls Tryz.prog 11 #[.string S] w fun e w' => e = .returned (.string (strOf (wantL c))) ∧ Below w.heap.size w w') := hide (fun w h => by have h2 := Quote_any S w (by omega) h; rw [hS, esc5 c hlt] at h2; exact h2)
      clear k3 k4 hxA hxB hok hd2
      obtain ⟨a, ha⟩ : ∃ a, c / 16 = a := ⟨_, rfl⟩
      obtain ⟨b, hb2⟩ : ∃ b, c % 16 = b := ⟨_, rfl⟩
      rw [ha] at ha16 qz
      rw [hb2] at hb16 rz
      rcases classes c hlt with ⟨g1, g2⟩ | g1 | g1 | g1 | g1 | g1 | g1 | ⟨g1, g2, g3, g4, g5⟩
      · have i1 : ¬ (32 : Int) ≤ (c : Int) := by omega
        have i2 : (c : Int) < 127 := by omega
        have p127 : ¬ (c : Int) = 127 := by omega
        have q127 : ((c : Int) == 127) = false := by simp; omega
        have r127 : ((c : Int) != 127) = true := by simp; omega
        have p34 : ¬ (c : Int) = 34 := by omega
        have q34 : ((c : Int) == 34) = false := by simp; omega
        have r34 : ((c : Int) != 34) = true := by simp; omega
        have p92 : ¬ (c : Int) = 92 := by omega
        have q92 : ((c : Int) == 92) = false := by simp; omega
        have r92 : ((c : Int) != 92) = true := by simp; omega
        have p110 : ¬ (c : Int) = 110 := by omega
        have q110 : ((c : Int) == 110) = false := by simp; omega
        have r110 : ((c : Int) != 110) = true := by simp; omega
        have p10 : ¬ (c : Int) = 10 := by omega
        have q10 : ((c : Int) == 10) = false := by simp; omega
        have r10 : ((c : Int) != 10) = true := by simp; omega
        have HR1 := hide (fun w he => rd1 c S hlt hS (by omega) false (by symm; first | (apply decide_eq_true; omega) | (apply decide_eq_false; omega)) w he)
        have HR2 := hide (fun w he => rd2 c S S hlt hS false (by rw [esc2 c hlt, if_neg (by omega), if_neg (by omega)]; rfl) w he)
        have hX : strOf (wantL c) = ⟨#[34, 92, 120]⟩ ++ (⟨#[48, 49, 50, 51, 52, 53, 54, 55, 56, 57, 97, 98, 99, 100, 101, 102]⟩ : ByteArray).extract a (a + 1) ++ (⟨#[48, 49, 50, 51, 52, 53, 54, 55, 56, 57, 97, 98, 99, 100, 101, 102]⟩ : ByteArray).extract b (b + 1) ++ ⟨#[34]⟩ := str_eq (by rw [wantL, if_neg (by omega), if_neg (by omega), if_neg (by omega), ha, hb2]; rw [bytesN_append, bytesN_append, bytesN_append, low_at a ha16, low_at b hb16]; rfl)
        rw [hX] at HQ
        clear hX ha hb2
        go_wp2_with (first
          | (go_at_call 14; refine (HX.out _).mono ?_; rintro e wn ⟨rfl, rfl⟩)
          | (go_at_call 15; refine (HR4.out _ (HE.out.below HBB.out)).mono ?_; rintro e w5 ⟨rfl, hb⟩; have HB5 := hide (HBB.out.trans (hb.mono HBB.out.size)); clear hb)
          | (go_at_call 15; refine (HR3.out _ (HE.out.below HBA.out)).mono ?_; rintro e w4 ⟨rfl, hb⟩; have HB4 := hide (HBA.out.trans (hb.mono HBA.out.size)); clear hb; have hcvB := conv1 w4 xB; have HBB : Hid (Below w.heap.size w (w4.alloc (.cells #[.int .u8 (xB : Int)] 5))) := HB4.out.alloc HB4.out.size _)
          | (go_at_call 15; refine (HR2.out _ (HE.out.below HB2.out)).mono ?_; rintro e w3 ⟨rfl, hb⟩; have HB3 := hide (HB2.out.trans (hb.mono HB2.out.size)); clear hb; have hcvA := conv1 w3 xA; have HBA : Hid (Below w.heap.size w (w3.alloc (.cells #[.int .u8 (xA : Int)] 5))) := HB3.out.alloc HB3.out.size _)
          | (go_at_call 15; refine (HR1.out _ (HE.out.below HB1.out)).mono ?_; rintro e w2 ⟨rfl, hb⟩; have HB2 := hide (HB1.out.trans (hb.mono HB1.out.size)); clear hb))
        go_quiet (fail)
        have HB6 : Hid (Below w.heap.size w (w5.drewN nq)) := bel_drewN HB5.out _
        generalize w5.drewN nq = wq at *
        go_wp2_with (go_at_call 11; refine (HQ.out _ (HT.out.below HB6.out)).mono ?_; rintro e w7 ⟨rfl, hb⟩; have HB7 := hide (HB6.out.trans (hb.mono HB6.out.size)); clear hb)
        go_roundw
        case rel => exact ⟨c + 1, by omega, by go_num, HB7.out⟩
        case measure => simp [intOf]; omega
      · have i1 : ¬ (32 : Int) ≤ (c : Int) := by omega
        have i2 : (c : Int) < 127 := by omega
        have p127 : ¬ (c : Int) = 127 := by omega
        have q127 : ((c : Int) == 127) = false := by simp; omega
        have r127 : ((c : Int) != 127) = true := by simp; omega
        have p34 : ¬ (c : Int) = 34 := by omega
        have q34 : ((c : Int) == 34) = false := by simp; omega
        have r34 : ((c : Int) != 34) = true := by simp; omega
        have p92 : ¬ (c : Int) = 92 := by omega
        have q92 : ((c : Int) == 92) = false := by simp; omega
        have r92 : ((c : Int) != 92) = true := by simp; omega
        have p110 : ¬ (c : Int) = 110 := by omega
        have q110 : ((c : Int) == 110) = false := by simp; omega
        have r110 : ((c : Int) != 110) = true := by simp; omega
        have q10 : ((c : Int) == 10) = true := by simp; omega
        have r10 : ((c : Int) != 10) = false := by simp; omega
        have HR1 := hide (fun w he => rd1 c S hlt hS (by omega) false (by symm; first | (apply decide_eq_true; omega) | (apply decide_eq_false; omega)) w he)
        have HR2 := hide (fun w he => rd2 c S S hlt hS false (by rw [esc2 c hlt, if_neg (by omega), if_neg (by omega)]; rfl) w he)
        have hX : strOf (wantL c) = ⟨#[34, 92, 110, 34]⟩ := str_eq (by rw [wantL, if_pos g1]; rfl)
        rw [hX] at HQ
        clear hX ha hb2 g1
        go_wp2_with (first
          | (go_at_call 14; refine (HX.out _).mono ?_; rintro e wn ⟨rfl, rfl⟩)
          | (go_at_call 15; refine (HR4.out _ (HE.out.below HBB.out)).mono ?_; rintro e w5 ⟨rfl, hb⟩; have HB5 := hide (HBB.out.trans (hb.mono HBB.out.size)); clear hb)
          | (go_at_call 15; refine (HR3.out _ (HE.out.below HBA.out)).mono ?_; rintro e w4 ⟨rfl, hb⟩; have HB4 := hide (HBA.out.trans (hb.mono HBA.out.size)); clear hb; have hcvB := conv1 w4 xB; have HBB : Hid (Below w.heap.size w (w4.alloc (.cells #[.int .u8 (xB : Int)] 5))) := HB4.out.alloc HB4.out.size _)
          | (go_at_call 15; refine (HR2.out _ (HE.out.below HB2.out)).mono ?_; rintro e w3 ⟨rfl, hb⟩; have HB3 := hide (HB2.out.trans (hb.mono HB2.out.size)); clear hb; have hcvA := conv1 w3 xA; have HBA : Hid (Below w.heap.size w (w3.alloc (.cells #[.int .u8 (xA : Int)] 5))) := HB3.out.alloc HB3.out.size _)
          | (go_at_call 15; refine (HR1.out _ (HE.out.below HB1.out)).mono ?_; rintro e w2 ⟨rfl, hb⟩; have HB2 := hide (HB1.out.trans (hb.mono HB1.out.size)); clear hb))
        go_quiet (fail)
        have HB6 : Hid (Below w.heap.size w (w5.drewN nq)) := bel_drewN HB5.out _
        generalize w5.drewN nq = wq at *
        go_wp2_with (go_at_call 11; refine (HQ.out _ (HT.out.below HB6.out)).mono ?_; rintro e w7 ⟨rfl, hb⟩; have HB7 := hide (HB6.out.trans (hb.mono HB6.out.size)); clear hb)
        go_roundw
        case rel => exact ⟨c + 1, by omega, by go_num, HB7.out⟩
        case measure => simp [intOf]; omega
      · have i1 : (32 : Int) ≤ (c : Int) := by omega
        have i2 : (c : Int) < 127 := by omega
        have p127 : ¬ (c : Int) = 127 := by omega
        have q127 : ((c : Int) == 127) = false := by simp; omega
        have r127 : ((c : Int) != 127) = true := by simp; omega
        have q34 : ((c : Int) == 34) = true := by simp; omega
        have r34 : ((c : Int) != 34) = false := by simp; omega
        have p92 : ¬ (c : Int) = 92 := by omega
        have q92 : ((c : Int) == 92) = false := by simp; omega
        have r92 : ((c : Int) != 92) = true := by simp; omega
        have p110 : ¬ (c : Int) = 110 := by omega
        have q110 : ((c : Int) == 110) = false := by simp; omega
        have r110 : ((c : Int) != 110) = true := by simp; omega
        have p10 : ¬ (c : Int) = 10 := by omega
        have q10 : ((c : Int) == 10) = false := by simp; omega
        have r10 : ((c : Int) != 10) = true := by simp; omega
        have HB2 := HB1
        have HR2 := hide (fun w he => rd2 c S S hlt hS true (by rw [esc2 c hlt, if_neg (by omega), if_pos (by omega), hS]; rfl) w he)
        have hX : strOf (wantL c) = ⟨#[34, 92]⟩ ++ S ++ ⟨#[34]⟩ := str_eq (by rw [wantL, if_neg (by omega), if_pos (by omega)]; rw [bytesN_append, bytesN_append, hS]; rfl)
        rw [hX] at HQ
        clear hX ha hb2 g1
        go_wp2_with (first
          | (go_at_call 14; refine (HX.out _).mono ?_; rintro e wn ⟨rfl, rfl⟩)
          | (go_at_call 15; refine (HR4.out _ (HE.out.below HBB.out)).mono ?_; rintro e w5 ⟨rfl, hb⟩; have HB5 := hide (HBB.out.trans (hb.mono HBB.out.size)); clear hb)
          | (go_at_call 15; refine (HR3.out _ (HE.out.below HBA.out)).mono ?_; rintro e w4 ⟨rfl, hb⟩; have HB4 := hide (HBA.out.trans (hb.mono HBA.out.size)); clear hb; have hcvB := conv1 w4 xB; have HBB : Hid (Below w.heap.size w (w4.alloc (.cells #[.int .u8 (xB : Int)] 5))) := HB4.out.alloc HB4.out.size _)
          | (go_at_call 15; refine (HR2.out _ (HE.out.below HB2.out)).mono ?_; rintro e w3 ⟨rfl, hb⟩; have HB3 := hide (HB2.out.trans (hb.mono HB2.out.size)); clear hb; have hcvA := conv1 w3 xA; have HBA : Hid (Below w.heap.size w (w3.alloc (.cells #[.int .u8 (xA : Int)] 5))) := HB3.out.alloc HB3.out.size _))
        go_quiet (fail)
        have HB6 : Hid (Below w.heap.size w (w5.drewN nq)) := bel_drewN HB5.out _
        generalize w5.drewN nq = wq at *
        go_wp2_with (go_at_call 11; refine (HQ.out _ (HT.out.below HB6.out)).mono ?_; rintro e w7 ⟨rfl, hb⟩; have HB7 := hide (HB6.out.trans (hb.mono HB6.out.size)); clear hb)
        go_roundw
        case rel => exact ⟨c + 1, by omega, by go_num, HB7.out⟩
        case measure => simp [intOf]; omega
      · have i1 : (32 : Int) ≤ (c : Int) := by omega
        have i2 : (c : Int) < 127 := by omega
        have p127 : ¬ (c : Int) = 127 := by omega
        have q127 : ((c : Int) == 127) = false := by simp; omega
        have r127 : ((c : Int) != 127) = true := by simp; omega
        have p34 : ¬ (c : Int) = 34 := by omega
        have q34 : ((c : Int) == 34) = false := by simp; omega
        have r34 : ((c : Int) != 34) = true := by simp; omega
        have q92 : ((c : Int) == 92) = true := by simp; omega
        have r92 : ((c : Int) != 92) = false := by simp; omega
        have p110 : ¬ (c : Int) = 110 := by omega
        have q110 : ((c : Int) == 110) = false := by simp; omega
        have r110 : ((c : Int) != 110) = true := by simp; omega
        have p10 : ¬ (c : Int) = 10 := by omega
        have q10 : ((c : Int) == 10) = false := by simp; omega
        have r10 : ((c : Int) != 10) = true := by simp; omega
        have HR1 := hide (fun w he => rd1 c S hlt hS (by omega) false (by symm; first | (apply decide_eq_true; omega) | (apply decide_eq_false; omega)) w he)
        have HR2 := hide (fun w he => rd2 c S S hlt hS true (by rw [esc2 c hlt, if_neg (by omega), if_pos (by omega), hS]; rfl) w he)
        have hX : strOf (wantL c) = ⟨#[34, 92]⟩ ++ S ++ ⟨#[34]⟩ := str_eq (by rw [wantL, if_neg (by omega), if_pos (by omega)]; rw [bytesN_append, bytesN_append, hS]; rfl)
        rw [hX] at HQ
        clear hX ha hb2 g1
        go_wp2_with (first
          | (go_at_call 14; refine (HX.out _).mono ?_; rintro e wn ⟨rfl, rfl⟩)
          | (go_at_call 15; refine (HR4.out _ (HE.out.below HBB.out)).mono ?_; rintro e w5 ⟨rfl, hb⟩; have HB5 := hide (HBB.out.trans (hb.mono HBB.out.size)); clear hb)
          | (go_at_call 15; refine (HR3.out _ (HE.out.below HBA.out)).mono ?_; rintro e w4 ⟨rfl, hb⟩; have HB4 := hide (HBA.out.trans (hb.mono HBA.out.size)); clear hb; have hcvB := conv1 w4 xB; have HBB : Hid (Below w.heap.size w (w4.alloc (.cells #[.int .u8 (xB : Int)] 5))) := HB4.out.alloc HB4.out.size _)
          | (go_at_call 15; refine (HR2.out _ (HE.out.below HB2.out)).mono ?_; rintro e w3 ⟨rfl, hb⟩; have HB3 := hide (HB2.out.trans (hb.mono HB2.out.size)); clear hb; have hcvA := conv1 w3 xA; have HBA : Hid (Below w.heap.size w (w3.alloc (.cells #[.int .u8 (xA : Int)] 5))) := HB3.out.alloc HB3.out.size _)
          | (go_at_call 15; refine (HR1.out _ (HE.out.below HB1.out)).mono ?_; rintro e w2 ⟨rfl, hb⟩; have HB2 := hide (HB1.out.trans (hb.mono HB1.out.size)); clear hb))
        go_quiet (fail)
        have HB6 : Hid (Below w.heap.size w (w5.drewN nq)) := bel_drewN HB5.out _
        generalize w5.drewN nq = wq at *
        go_wp2_with (go_at_call 11; refine (HQ.out _ (HT.out.below HB6.out)).mono ?_; rintro e w7 ⟨rfl, hb⟩; have HB7 := hide (HB6.out.trans (hb.mono HB6.out.size)); clear hb)
        go_roundw
        case rel => exact ⟨c + 1, by omega, by go_num, HB7.out⟩
        case measure => simp [intOf]; omega
      · have i1 : (32 : Int) ≤ (c : Int) := by omega
        have i2 : (c : Int) < 127 := by omega
        have p127 : ¬ (c : Int) = 127 := by omega
        have q127 : ((c : Int) == 127) = false := by simp; omega
        have r127 : ((c : Int) != 127) = true := by simp; omega
        have p34 : ¬ (c : Int) = 34 := by omega
        have q34 : ((c : Int) == 34) = false := by simp; omega
        have r34 : ((c : Int) != 34) = true := by simp; omega
        have p92 : ¬ (c : Int) = 92 := by omega
        have q92 : ((c : Int) == 92) = false := by simp; omega
        have r92 : ((c : Int) != 92) = true := by simp; omega
        have q110 : ((c : Int) == 110) = true := by simp; omega
        have r110 : ((c : Int) != 110) = false := by simp; omega
        have p10 : ¬ (c : Int) = 10 := by omega
        have q10 : ((c : Int) == 10) = false := by simp; omega
        have r10 : ((c : Int) != 10) = true := by simp; omega
        have HR1 := hide (fun w he => rd1 c S hlt hS (by omega) true (by symm; first | (apply decide_eq_true; omega) | (apply decide_eq_false; omega)) w he)
        have HR2 := hide (fun w he => rd2 c S ⟨#[10]⟩ hlt hS true (by rw [esc2 c hlt, if_pos g1]; rfl) w he)
        have hX : strOf (wantL c) = ⟨#[34]⟩ ++ S ++ ⟨#[34]⟩ := str_eq (by rw [wantL, if_neg (by omega), if_neg (by omega), if_pos (by omega)]; rw [bytesN_append, bytesN_append, hS]; rfl)
        rw [hX] at HQ
        clear hX ha hb2 g1
        go_wp2_with (first
          | (go_at_call 14; refine (HX.out _).mono ?_; rintro e wn ⟨rfl, rfl⟩)
          | (go_at_call 15; refine (HR4.out _ (HE.out.below HBB.out)).mono ?_; rintro e w5 ⟨rfl, hb⟩; have HB5 := hide (HBB.out.trans (hb.mono HBB.out.size)); clear hb)
          | (go_at_call 15; refine (HR3.out _ (HE.out.below HBA.out)).mono ?_; rintro e w4 ⟨rfl, hb⟩; have HB4 := hide (HBA.out.trans (hb.mono HBA.out.size)); clear hb; have hcvB := conv1 w4 xB; have HBB : Hid (Below w.heap.size w (w4.alloc (.cells #[.int .u8 (xB : Int)] 5))) := HB4.out.alloc HB4.out.size _)
          | (go_at_call 15; refine (HR2.out _ (HE.out.below HB2.out)).mono ?_; rintro e w3 ⟨rfl, hb⟩; have HB3 := hide (HB2.out.trans (hb.mono HB2.out.size)); clear hb; have hcvA := conv1 w3 xA; have HBA : Hid (Below w.heap.size w (w3.alloc (.cells #[.int .u8 (xA : Int)] 5))) := HB3.out.alloc HB3.out.size _)
          | (go_at_call 15; refine (HR1.out _ (HE.out.below HB1.out)).mono ?_; rintro e w2 ⟨rfl, hb⟩; have HB2 := hide (HB1.out.trans (hb.mono HB1.out.size)); clear hb))
        go_quiet (fail)
        have HB6 : Hid (Below w.heap.size w (w5.drewN nq)) := bel_drewN HB5.out _
        generalize w5.drewN nq = wq at *
        go_wp2_with (go_at_call 11; refine (HQ.out _ (HT.out.below HB6.out)).mono ?_; rintro e w7 ⟨rfl, hb⟩; have HB7 := hide (HB6.out.trans (hb.mono HB6.out.size)); clear hb)
        go_roundw
        case rel => exact ⟨c + 1, by omega, by go_num, HB7.out⟩
        case measure => simp [intOf]; omega
      · have i1 : (32 : Int) ≤ (c : Int) := by omega
        have i2 : ¬ (c : Int) < 127 := by omega
        have q127 : ((c : Int) == 127) = true := by simp; omega
        have r127 : ((c : Int) != 127) = false := by simp; omega
        have p34 : ¬ (c : Int) = 34 := by omega
        have q34 : ((c : Int) == 34) = false := by simp; omega
        have r34 : ((c : Int) != 34) = true := by simp; omega
        have p92 : ¬ (c : Int) = 92 := by omega
        have q92 : ((c : Int) == 92) = false := by simp; omega
        have r92 : ((c : Int) != 92) = true := by simp; omega
        have p110 : ¬ (c : Int) = 110 := by omega
        have q110 : ((c : Int) == 110) = false := by simp; omega
        have r110 : ((c : Int) != 110) = true := by simp; omega
        have p10 : ¬ (c : Int) = 10 := by omega
        have q10 : ((c : Int) == 10) = false := by simp; omega
        have r10 : ((c : Int) != 10) = true := by simp; omega
        have HR1 := hide (fun w he => rd1 c S hlt hS (by omega) false (by symm; first | (apply decide_eq_true; omega) | (apply decide_eq_false; omega)) w he)
        have HR2 := hide (fun w he => rd2 c S S hlt hS false (by rw [esc2 c hlt, if_neg (by omega), if_neg (by omega)]; rfl) w he)
        have hX : strOf (wantL c) = ⟨#[34, 92, 120]⟩ ++ (⟨#[48, 49, 50, 51, 52, 53, 54, 55, 56, 57, 97, 98, 99, 100, 101, 102]⟩ : ByteArray).extract a (a + 1) ++ (⟨#[48, 49, 50, 51, 52, 53, 54, 55, 56, 57, 97, 98, 99, 100, 101, 102]⟩ : ByteArray).extract b (b + 1) ++ ⟨#[34]⟩ := str_eq (by rw [wantL, if_neg (by omega), if_neg (by omega), if_neg (by omega), ha, hb2]; rw [bytesN_append, bytesN_append, bytesN_append, low_at a ha16, low_at b hb16]; rfl)
        rw [hX] at HQ
        clear hX ha hb2 g1
        go_wp2_with (first
          | (go_at_call 14; refine (HX.out _).mono ?_; rintro e wn ⟨rfl, rfl⟩)
          | (go_at_call 15; refine (HR4.out _ (HE.out.below HBB.out)).mono ?_; rintro e w5 ⟨rfl, hb⟩; have HB5 := hide (HBB.out.trans (hb.mono HBB.out.size)); clear hb)
          | (go_at_call 15; refine (HR3.out _ (HE.out.below HBA.out)).mono ?_; rintro e w4 ⟨rfl, hb⟩; have HB4 := hide (HBA.out.trans (hb.mono HBA.out.size)); clear hb; have hcvB := conv1 w4 xB; have HBB : Hid (Below w.heap.size w (w4.alloc (.cells #[.int .u8 (xB : Int)] 5))) := HB4.out.alloc HB4.out.size _)
          | (go_at_call 15; refine (HR2.out _ (HE.out.below HB2.out)).mono ?_; rintro e w3 ⟨rfl, hb⟩; have HB3 := hide (HB2.out.trans (hb.mono HB2.out.size)); clear hb; have hcvA := conv1 w3 xA; have HBA : Hid (Below w.heap.size w (w3.alloc (.cells #[.int .u8 (xA : Int)] 5))) := HB3.out.alloc HB3.out.size _)
          | (go_at_call 15; refine (HR1.out _ (HE.out.below HB1.out)).mono ?_; rintro e w2 ⟨rfl, hb⟩; have HB2 := hide (HB1.out.trans (hb.mono HB1.out.size)); clear hb))
        go_quiet (fail)
        have HB6 : Hid (Below w.heap.size w (w5.drewN nq)) := bel_drewN HB5.out _
        generalize w5.drewN nq = wq at *
        go_wp2_with (go_at_call 11; refine (HQ.out _ (HT.out.below HB6.out)).mono ?_; rintro e w7 ⟨rfl, hb⟩; have HB7 := hide (HB6.out.trans (hb.mono HB6.out.size)); clear hb)
        go_roundw
        case rel => exact ⟨c + 1, by omega, by go_num, HB7.out⟩
        case measure => simp [intOf]; omega
      · have i1 : (32 : Int) ≤ (c : Int) := by omega
        have i2 : ¬ (c : Int) < 127 := by omega
        have p127 : ¬ (c : Int) = 127 := by omega
        have q127 : ((c : Int) == 127) = false := by simp; omega
        have r127 : ((c : Int) != 127) = true := by simp; omega
        have p34 : ¬ (c : Int) = 34 := by omega
        have q34 : ((c : Int) == 34) = false := by simp; omega
        have r34 : ((c : Int) != 34) = true := by simp; omega
        have p92 : ¬ (c : Int) = 92 := by omega
        have q92 : ((c : Int) == 92) = false := by simp; omega
        have r92 : ((c : Int) != 92) = true := by simp; omega
        have p110 : ¬ (c : Int) = 110 := by omega
        have q110 : ((c : Int) == 110) = false := by simp; omega
        have r110 : ((c : Int) != 110) = true := by simp; omega
        have p10 : ¬ (c : Int) = 10 := by omega
        have q10 : ((c : Int) == 10) = false := by simp; omega
        have r10 : ((c : Int) != 10) = true := by simp; omega
        have HR1 := hide (fun w he => rd1 c S hlt hS (by omega) true (by symm; first | (apply decide_eq_true; omega) | (apply decide_eq_false; omega)) w he)
        have HR2 := hide (fun w he => rd2 c S S hlt hS false (by rw [esc2 c hlt, if_neg (by omega), if_neg (by omega)]; rfl) w he)
        have hX : strOf (wantL c) = ⟨#[34, 92, 120]⟩ ++ (⟨#[48, 49, 50, 51, 52, 53, 54, 55, 56, 57, 97, 98, 99, 100, 101, 102]⟩ : ByteArray).extract a (a + 1) ++ (⟨#[48, 49, 50, 51, 52, 53, 54, 55, 56, 57, 97, 98, 99, 100, 101, 102]⟩ : ByteArray).extract b (b + 1) ++ ⟨#[34]⟩ := str_eq (by rw [wantL, if_neg (by omega), if_neg (by omega), if_neg (by omega), ha, hb2]; rw [bytesN_append, bytesN_append, bytesN_append, low_at a ha16, low_at b hb16]; rfl)
        rw [hX] at HQ
        clear hX ha hb2 g1
        go_wp2_with (first
          | (go_at_call 14; refine (HX.out _).mono ?_; rintro e wn ⟨rfl, rfl⟩)
          | (go_at_call 15; refine (HR4.out _ (HE.out.below HBB.out)).mono ?_; rintro e w5 ⟨rfl, hb⟩; have HB5 := hide (HBB.out.trans (hb.mono HBB.out.size)); clear hb)
          | (go_at_call 15; refine (HR3.out _ (HE.out.below HBA.out)).mono ?_; rintro e w4 ⟨rfl, hb⟩; have HB4 := hide (HBA.out.trans (hb.mono HBA.out.size)); clear hb; have hcvB := conv1 w4 xB; have HBB : Hid (Below w.heap.size w (w4.alloc (.cells #[.int .u8 (xB : Int)] 5))) := HB4.out.alloc HB4.out.size _)
          | (go_at_call 15; refine (HR2.out _ (HE.out.below HB2.out)).mono ?_; rintro e w3 ⟨rfl, hb⟩; have HB3 := hide (HB2.out.trans (hb.mono HB2.out.size)); clear hb; have hcvA := conv1 w3 xA; have HBA : Hid (Below w.heap.size w (w3.alloc (.cells #[.int .u8 (xA : Int)] 5))) := HB3.out.alloc HB3.out.size _)
          | (go_at_call 15; refine (HR1.out _ (HE.out.below HB1.out)).mono ?_; rintro e w2 ⟨rfl, hb⟩; have HB2 := hide (HB1.out.trans (hb.mono HB1.out.size)); clear hb))
        go_quiet (fail)
        have HB6 : Hid (Below w.heap.size w (w5.drewN nq)) := bel_drewN HB5.out _
        generalize w5.drewN nq = wq at *
        go_wp2_with (go_at_call 11; refine (HQ.out _ (HT.out.below HB6.out)).mono ?_; rintro e w7 ⟨rfl, hb⟩; have HB7 := hide (HB6.out.trans (hb.mono HB6.out.size)); clear hb)
        go_roundw
        case rel => exact ⟨c + 1, by omega, by go_num, HB7.out⟩
        case measure => simp [intOf]; omega
      · have i1 : (32 : Int) ≤ (c : Int) := by omega
        have i2 : (c : Int) < 127 := by omega
        have p127 : ¬ (c : Int) = 127 := by omega
        have q127 : ((c : Int) == 127) = false := by simp; omega
        have r127 : ((c : Int) != 127) = true := by simp; omega
        have p34 : ¬ (c : Int) = 34 := by omega
        have q34 : ((c : Int) == 34) = false := by simp; omega
        have r34 : ((c : Int) != 34) = true := by simp; omega
        have p92 : ¬ (c : Int) = 92 := by omega
        have q92 : ((c : Int) == 92) = false := by simp; omega
        have r92 : ((c : Int) != 92) = true := by simp; omega
        have p110 : ¬ (c : Int) = 110 := by omega
        have q110 : ((c : Int) == 110) = false := by simp; omega
        have r110 : ((c : Int) != 110) = true := by simp; omega
        have p10 : ¬ (c : Int) = 10 := by omega
        have q10 : ((c : Int) == 10) = false := by simp; omega
        have r10 : ((c : Int) != 10) = true := by simp; omega
        have HR1 := hide (fun w he => rd1 c S hlt hS (by omega) true (by symm; first | (apply decide_eq_true; omega) | (apply decide_eq_false; omega)) w he)
        have HR2 := hide (fun w he => rd2 c S S hlt hS false (by rw [esc2 c hlt, if_neg (by omega), if_neg (by omega)]; rfl) w he)
        have hX : strOf (wantL c) = ⟨#[34]⟩ ++ S ++ ⟨#[34]⟩ := str_eq (by rw [wantL, if_neg (by omega), if_neg (by omega), if_pos (by omega)]; rw [bytesN_append, bytesN_append, hS]; rfl)
        rw [hX] at HQ
        clear hX ha hb2
        go_wp2_with (first
          | (go_at_call 14; refine (HX.out _).mono ?_; rintro e wn ⟨rfl, rfl⟩)
          | (go_at_call 15; refine (HR4.out _ (HE.out.below HBB.out)).mono ?_; rintro e w5 ⟨rfl, hb⟩; have HB5 := hide (HBB.out.trans (hb.mono HBB.out.size)); clear hb)
          | (go_at_call 15; refine (HR3.out _ (HE.out.below HBA.out)).mono ?_; rintro e w4 ⟨rfl, hb⟩; have HB4 := hide (HBA.out.trans (hb.mono HBA.out.size)); clear hb; have hcvB := conv1 w4 xB; have HBB : Hid (Below w.heap.size w (w4.alloc (.cells #[.int .u8 (xB : Int)] 5))) := HB4.out.alloc HB4.out.size _)
          | (go_at_call 15; refine (HR2.out _ (HE.out.below HB2.out)).mono ?_; rintro e w3 ⟨rfl, hb⟩; have HB3 := hide (HB2.out.trans (hb.mono HB2.out.size)); clear hb; have hcvA := conv1 w3 xA; have HBA : Hid (Below w.heap.size w (w3.alloc (.cells #[.int .u8 (xA : Int)] 5))) := HB3.out.alloc HB3.out.size _)
          | (go_at_call 15; refine (HR1.out _ (HE.out.below HB1.out)).mono ?_; rintro e w2 ⟨rfl, hb⟩; have HB2 := hide (HB1.out.trans (hb.mono HB1.out.size)); clear hb))
        go_quiet (fail)
        have HB6 : Hid (Below w.heap.size w (w5.drewN nq)) := bel_drewN HB5.out _
        generalize w5.drewN nq = wq at *
        go_wp2_with (go_at_call 11; refine (HQ.out _ (HT.out.below HB6.out)).mono ?_; rintro e w7 ⟨rfl, hb⟩; have HB7 := hide (HB6.out.trans (hb.mono HB6.out.size)); clear hb)
        go_roundw
        case rel => exact ⟨c + 1, by omega, by go_num, HB7.out⟩
        case measure => simp [intOf]; omega
    · have hz : ¬ (c : Int) < 256 := by omega
      obtain ⟨wE, hwE⟩ : ∃ wE, wr.alloc (.cells #[.string ⟨#[]⟩, .string ⟨#[34]⟩, .string ⟨#[34, 97]⟩, .string ⟨#[34, 92]⟩, .string ⟨#[34, 92, 120]⟩, .string ⟨#[34, 92, 120, 52]⟩, .string ⟨#[34, 92, 120, 52, 34]⟩, .string ⟨#[34, 92, 120, 34]⟩, .string ⟨#[34, 92, 120, 52, 49]⟩, .string ⟨#[97, 34, 34]⟩, .string ⟨#[32, 34, 34]⟩] 9) = wE := ⟨_, rfl⟩
      have HBE : Hid (Below w.heap.size w wE) := by rw [← hwE]; exact hide (HB.out.alloc HB.out.size _)
      have HSz : Hid (w.heap.size ≤ wr.heap.size) := HB.out.size
      obtain ⟨gE, hgE⟩ : ∃ g, wr.heap.size = g := ⟨_, rfl⟩
      have HC0 : Hid (∀ i, i < 11 → wE.cell? ⟨gE, i, none⟩ = some (.string (endS i))) := hide fun i hi => by
        rw [← hwE, ← hgE, cell_of_row _ _ _ _ _ _ (heap_alloc_new wr _)]
        match i, hi with
        | 0, _ => rfl
        | 1, _ => rfl
        | 2, _ => rfl
        | 3, _ => rfl
        | 4, _ => rfl
        | 5, _ => rfl
        | 6, _ => rfl
        | 7, _ => rfl
        | 8, _ => rfl
        | 9, _ => rfl
        | 10, _ => rfl
      have HRow : Hid (gE < wE.heap.size) := by rw [← hwE, ← hgE]; exact hide (by simp)
      have HgE := hide hgE
      clear hgE
      go_wp2_with fail
      rw [HgE.out]
      clear hwE HgE
      go_loopw [10] (fun t10 wq => ∃ i : Nat, i ≤ 11 ∧ t10 = .int .i64 i ∧ Hid (Below wE.heap.size wE wq)) (fun t10 _ => 11 - (intOf t10).toNat)
      case atStart => exact ⟨0, by omega, rfl, Below.refl _ _⟩
      case round =>
        obtain ⟨i, hi, rfl, HI⟩ := hrel
        have HBq : Hid (Below w.heap.size w wr) := hide (HBE.out.trans (HI.out.mono HBE.out.size))
        by_cases hil : i < 11
        · have hiz : (i : Int) < 11 := by omega
          have ci : wr.cell? ⟨gE, i, none⟩ = some (.string (endS i)) := by rw [HI.out.cell (p := ⟨gE, i, none⟩) HRow.out]; exact HC0.out i hil
          have HRi := hide (fun w he => reads_any (endS i) ⟨#[]⟩ false w he (ends_is i hil).2 (by rw [(ends_is i hil).1]; rfl))
          obtain ⟨T, hT⟩ : ∃ T, endS i = T := ⟨_, rfl⟩
          rw [hT] at ci HRi
          clear hT HC0
          go_wp2_with (go_at_call 15; refine (HRi.out _ (HE.out.below HBq.out)).mono ?_; rintro e w2 ⟨rfl, hb⟩; have HB2 := hide (HI.out.trans (hb.mono HI.out.size)); clear hb)
          go_roundw
          case rel => exact ⟨i + 1, by omega, by go_num, HB2.out⟩
          case measure => simp [intOf]; omega
        · have hiz : ¬ (i : Int) < 11 := by omega
          have HR5 := hide (fun w he => reads_any ⟨#[34, 92, 34, 34]⟩ ⟨#[34]⟩ true w he (by decide) (by decide +kernel))
          have HR6 := hide (fun w he => reads_any ⟨#[34, 34]⟩ ⟨#[]⟩ true w he (by decide) (by decide +kernel))
          go_wp2_with (first
            | (go_at_call 9; refine (works13_any _ (HE.out.below HB3.out) (HT.out.below HB3.out) (HM.out.below HB3.out)).mono ?_; rintro e w4 ⟨rfl, hb⟩; have HB4 := hide (HB3.out.trans (hb.mono HB3.out.size)); clear hb)
            | (go_at_call 15; refine (HR6.out _ (HE.out.below HB2.out)).mono ?_; rintro e w3 ⟨rfl, hb⟩; have HB3 := hide (HB2.out.trans (hb.mono HB2.out.size)); clear hb)
            | (go_at_call 15; refine (HR5.out _ (HE.out.below HBq.out)).mono ?_; rintro e w2 ⟨rfl, hb⟩; have HB2 := hide (HBq.out.trans (hb.mono HBq.out.size)); clear hb))
          go_ret
          exact ⟨rfl, HB4.out⟩

end Go.Proofs.YtgcmdbpanfeaaabGreatDoor

/- The contracts of suits, pick (32 bits). -/
import Derived.Test.YtgjjkopmoobilaaGreatDoorC1A64
import Derived.Test.YtgjjkopmoobilaaGreatDoorC5W
import Derived.Test.YtgjjkopmoobilaaGreatDoorP1T
import Derived.Deep.RegionHeld3
import Derived.Laws.Tables
import Derived.Great.Walk
/- The law's own works() is true (of fathomlaw8). -/
namespace Go.Proofs.YtgjjkopmoobilaaGreatDoor
open Go.RowKit
open M
set_option linter.unusedVariables false
set_option linter.unusedSimpArgs false

theorem wkO (k : Nat) (h1 : 1 ≤ k) (h6 : k ≤ 6) : ∃ l, codeO64 k wkF 3 = some l ∧ 0 < l.length ∧ (k ≠ 6 → 56 < l.length) ∧ (k = 6 → l.length = 53) := by
  obtain rfl | rfl | rfl | rfl | rfl | rfl : k = 1 ∨ k = 2 ∨ k = 3 ∨ k = 4 ∨ k = 5 ∨ k = 6 := by omega
  · exact ⟨_, rfl, by rw [wk1]; omega, fun _ => by rw [wk1]; omega, fun h => by omega⟩
  · exact ⟨_, rfl, by have := wk2; omega, fun _ => wk2, fun h => by omega⟩
  · exact ⟨_, rfl, by have := wk3; omega, fun _ => wk3, fun h => by omega⟩
  · refine ⟨dcB 64 wkF 3, ?_, by have := wk4.2; omega, fun _ => wk4.2, fun h => by omega⟩
    show dcO 64 wkF 3 = _
    unfold dcO
    rw [if_pos wk4.1]
  · exact ⟨_, rfl, by have := wk5; omega, fun _ => wk5, fun h => by omega⟩
  · exact ⟨_, rfl, by rw [wk6]; omega, fun h => absurd rfl h, fun _ => wk6⟩

theorem wkIs (k : Nat) (bs : List Nat) (h1 : 1 ≤ k) (h6 : k ≤ 6) (hP : PackIs64 k 3 wkF bs) : 0 < bs.length ∧ (k ≠ 6 → 7 < bs.length) ∧ (k = 6 → bs.length = 7) := by
  obtain ⟨l, q1, q2, q3, q4⟩ := wkO k h1 h6
  obtain ⟨l', r1, r2⟩ := hP.2.2 (by omega)
  rw [q1] at r1
  cases r1
  have := packed_length l
  rw [r2] at this
  exact ⟨by omega, fun h => by have := q3 h; omega, fun h => by have := q4 h; omega⟩

theorem wkSome (k : Nat) (h1 : 1 ≤ k) (h6 : k ≤ 6) : ∃ bs, PackIs64 k 3 wkF bs := by
  obtain ⟨l, q1, _⟩ := wkO k h1 h6
  exact ⟨packed l, fun i _ => wkF_lt i, fun h => by omega, fun _ => ⟨l, q1, rfl⟩⟩

theorem wkRow {w : World} {g : Nat} {t : TypeId} (h : w.heap[g]? = some (.cells #[.int .u64 4609434218613702656, .int .u64 4612811918334230528, .int .u64 4612248968380809216] t (0, 0))) : URow64 w (some ⟨g, 0, none⟩) 3 wkF := fun _ =>
  ⟨g, 0, rfl, fun i hi => by
    rw [cell_of_row _ _ _ _ _ _ h]
    rcases (show i = 0 ∨ i = 1 ∨ i = 2 by omega) with rfl | rfl | rfl <;> rfl⟩

set_option maxRecDepth 100000 in
set_option maxHeartbeats 4000000 in
theorem works8_any (w : World) (hT : Tab64 w) : Calls Tryz.prog 10 #[] w fun e w' => e = .returned (.bool true) ∧ Below w.heap.size w w' := by
  have HR : Hid (URow64 (w.alloc (.cells #[.int .u64 4609434218613702656, .int .u64 4612811918334230528, .int .u64 4612248968380809216] 39)) (some ⟨w.heap.size, 0, none⟩) 3 wkF) := wkRow (heap_alloc_new _ _)
  have HB : Hid (Below w.heap.size w (w.alloc (.cells #[.int .u64 4609434218613702656, .int .u64 4612811918334230528, .int .u64 4612248968380809216] 39))) := (Below.refl _ _).alloc (Nat.le_refl _) _
  have HT := hide hT
  have HAG := hide (fun k w1 (hk1 : 1 ≤ k) (hk6 : k ≤ 6) (h : URow64 w1 (some ⟨w.heap.size, 0, none⟩) 3 wkF) (hT : Tab64 w1) => cAgain64 k (some ⟨w.heap.size, 0, none⟩) 3 3 wkF w1 hk1 hk6 h (by omega) (by omega) (fun i _ => wkF_lt i) hT)
  have HUN := hide (fun k v bs w1 (hk1 : 1 ≤ k) (hk6 : k ≤ 6) h1 h2 h3 (hT : Tab64 w1) => cUnpack64_any k v bs 3 w1 hk1 hk6 h1 h2 h3 (by omega) hT)
  have HBE := hide (fun w1 (h : URow64 w1 (some ⟨w.heap.size, 0, none⟩) 3 wkF) (hT : Tab64 w1) => best64_any (some ⟨w.heap.size, 0, none⟩) 3 3 wkF w1 h (by omega) (by omega) (fun i _ => wkF_lt i) hT)
  have HSM := hide (fun p cap (f : Nat → Nat) w1 (h : URow64 w1 p 3 f) (h' : URow64 w1 (some ⟨w.heap.size, 0, none⟩) 3 wkF) => same8_any p (some ⟨w.heap.size, 0, none⟩) 3 3 cap 3 f wkF w1 h h' (by omega) (by omega))
  obtain ⟨g, hg⟩ : ∃ g, w.heap.size = g := ⟨_, rfl⟩
  have HGG := hide hg
  rw [hg] at HR HAG HBE HSM
  clear hT
  go_enter Tryz.func10, Tryz.ntmps10
  go_upto_region 2 with fail
  (try rw [hg])
  clear hg
  generalize w.alloc (.cells #[.int .u64 4609434218613702656, .int .u64 4612811918334230528, .int .u64 4612248968380809216] 39) = w0 at *
  go_wp2_with fail
  go_loopw [2] (fun t2 wr => ∃ k : Nat, t2 = .int .i64 ((k : Int) + 1) ∧ Hid (k ≤ 6 ∧ Below w0.heap.size w0 wr)) (fun t2 _ => 8 - (intOf t2).toNat)
  case atStart => exact ⟨0, rfl, by omega, Below.refl _ _⟩
  case round =>
    obtain ⟨k, rfl, hI⟩ := hrel
    have HBw : Hid (Below w.heap.size w wr) := HB.out.trans (hI.out.2.mono HB.out.size)
    have HRw : Hid (URow64 wr (some ⟨g, 0, none⟩) 3 wkF) := HR.out.below hI.out.2
    by_cases hlt : k + 1 ≤ 6
    · have hle : (k : Int) + 1 ≤ 6 := by omega
      have HA := hide (HAG.out (k + 1) wr (by omega) hlt HRw.out (HT.out.below HBw.out))
      rw [show (((k + 1 : Nat)) : Int) = (k : Int) + 1 from by simp] at HA
      go_wp2_with fail
      refine HA.out.mono ?_
      intro e w1 hE
      rcases hE with ⟨pu, cu, bs, rfl, h2, h3, h4, h5, h6⟩ | ⟨rfl, h2, h3⟩
      · have hwk := wkIs (k + 1) bs (by omega) hlt h5
        have HP := hide h5
        have HB1 : Hid (Below w.heap.size w w1 ∧ Below w0.heap.size w0 w1) := ⟨HBw.out.trans (h4.mono HBw.out.size), hI.out.2.trans (h4.mono hI.out.2.size)⟩
        have hlen : bs.length ≤ 1000000000000 := by
          by_cases e : k + 1 = 6
          · have := hwk.2.2 e; omega
          · obtain ⟨l, q1, q2⟩ := h5.2.2 (by omega)
            rw [← q2, packed_length]
            obtain rfl | rfl | rfl | rfl | rfl : k = 0 ∨ k = 1 ∨ k = 2 ∨ k = 3 ∨ k = 4 := by omega
            · cases q1; rw [wk1]; omega
            · cases q1; have : (cbn 64 6 wkF 3).length ≤ 1000 := by decide +kernel
              omega
            · cases q1; have := rnB_len64 wkF 3 0 3; omega
            · have e2 : dcB 64 wkF 3 = l := by
                have q3 : dcO 64 wkF 3 = some l := q1
                unfold dcO at q3
                rw [if_pos wk4.1] at q3
                cases q3; rfl
              rw [← e2]
              have : (dcB 64 wkF 3).length ≤ 1000 := by decide +kernel
              omega
            · cases q1; have := stB_len64 9223372036854775808 18446744073709551616 wkF 3; omega
        have HU := hide (HUN.out (k + 1) _ bs w1 (by omega) hlt h2 h3 hlen (HT.out.below HB1.out.1))
        rw [show (((k + 1 : Nat)) : Int) = (k : Int) + 1 from by simp] at HU
        have hb0 : ((bs.length : Int) == 0) = false := by rw [beq_eq_false_iff_ne]; have := hwk.1; omega
        clear h2 h3 h4 h5 h6 hlen hwk
        go_wp2_with fail
        refine HU.out.mono ?_
        intro e w2 hE
        rcases hE with ⟨rfl, h2, h3⟩ | ⟨v, f, rfl, h2, h3, h4⟩
        · exact absurd HP.out (fun h => h3 wkF h)
        · obtain ⟨pv, cv, rfl, hcv, hrow⟩ := h2.row
          have hf := h4 wkF HP.out
          have HB2 : Hid (Below w.heap.size w w2 ∧ Below w0.heap.size w0 w2) := by
            have hB := h2.2.1
            exact ⟨HB1.out.1.trans (hB.mono HB1.out.1.size), HB1.out.2.trans (hB.mono HB1.out.2.size)⟩
          have HSA := hide (HSM.out pv cv f w2 hrow (HR.out.below HB2.out.2))
          have HFE := hide hf
          clear h2 h3 h4 hrow hf
          go_wp2_with fail
          refine (num8_any _ _).mono ?_
          rintro e wn ⟨rfl, hwn⟩
          have hwn := hwn.symm
          subst hwn
          go_wp2_with fail
          refine (num8_any _ _).mono ?_
          rintro e wn ⟨rfl, hwn⟩
          have hwn := hwn.symm
          subst hwn
          go_wp2_with fail
          refine HSA.out.mono ?_
          rintro e w3 ⟨v, rfl, hv, m, rfl⟩
          obtain rfl : v = true := hv.2 ⟨by trivial, HFE.out⟩
          have HB3 : Hid (Below w0.heap.size w0 (w2.drewN m)) := ⟨HB2.out.2.os, HB2.out.2.tape, HB2.out.2.output, HB2.out.2.size, HB2.out.2.block⟩
          clear hv
          generalize w2.drewN m = w4 at *
          go_wp2_with fail
          go_roundw
          case rel => exact ⟨k + 1, by simp, hlt, HB3.out⟩
          case measure => simp [intOf]; omega
      · exfalso
        obtain ⟨bs, hbs⟩ := wkSome (k + 1) (by omega) hlt
        exact h3 bs hbs
    · have hk : k = 6 := by have := hI.out.1; omega
      subst hk
      have HBB := hide (HBE.out wr HRw.out (HT.out.below HBw.out))
      go_wp2_with fail
      refine HBB.out.mono ?_
      rintro e w1 ⟨k, p, c, bs, rfl, h2, h3, h4, h5⟩
      have hw := wkIs k bs h4.lo (by have := h4.hi; omega) h4.is
      obtain ⟨b6, hb6⟩ := wkSome 6 (by omega) (by omega)
      have hw6 := (wkIs 6 b6 (by omega) (by omega) hb6).2.2 rfl
      have hk6 : k = 6 := by
        by_cases e : k = 6
        · exact e
        · have := hw.2.1 e
          rcases h4.least 6 b6 (by omega) (by omega) hb6 with h | h <;> omega
      have hl7 : bs.length = 7 := hw.2.2 hk6
      have HB1 : Hid (Below w.heap.size w w1) := HBw.out.trans (h5.mono HBw.out.size)
      subst hk6
      rw [hl7]
      clear h2 h3 h4 h5 hw hb6 hw6 hl7
      go_wp2_with fail
      refine (num8_any _ _).mono ?_
      rintro e wn ⟨rfl, hwn⟩
      have hwn := hwn.symm
      subst hwn
      go_wp2_with fail
      go_ret
      exact ⟨rfl, HB1.out⟩

end Go.Proofs.YtgjjkopmoobilaaGreatDoor

/- The contracts of code's width, layValue, takeValue (32 bits). -/
namespace Go.Proofs.YtgjjkopmoobilaaGreatDoor
open Go.RowKit
open M
set_option linter.unusedVariables false
set_option linter.unusedSimpArgs false

theorem clen32_any (x : Nat) (w : World) (hx : x < 18446744073709551616) : Calls Tryz.prog 112 #[.int .u64 x] w fun e w' => e = .returned (.int .i64 (bitLen x : Nat)) ∧ w' = w := by
  have HL := hide (len64_all x w hx)
  go_enter Tryz.func112, Tryz.ntmps112
  go_wp2_with fail
  refine HL.out.mono ?_
  rintro e w1 ⟨rfl, rfl⟩
  go_wp2_with fail
  go_ret
  exact ⟨rfl, rfl⟩

theorem cwidth32_any (w : World) : Calls Tryz.prog 116 #[] w fun e w' => e = .returned (.int .i64 32) ∧ w' = w := by
  have hx : bits BinOp.xor IntKind.u32 0 4294967295 = 4294967295 := by decide +kernel
  have HL := hide (clen32_any 4294967295 w (by omega))
  rw [show bitLen 4294967295 = 32 from by decide +kernel] at HL
  go_enter Tryz.func116, Tryz.ntmps116
  go_wp2_with fail
  refine HL.out.mono ?_
  rintro e w1 ⟨rfl, rfl⟩
  go_wp2_with fail
  go_ret
  exact ⟨rfl, rfl⟩

theorem layValue32_any (b off lo : Nat) (v : Nat) (w : World) (l : List Bool) (hW : Wr w lo b off l 0) (hb : b < lo) (hlo : lo ≤ w.heap.size) (hlen : l.length + 32 < 1000000000000) (hv : v < 4294967296) :
    Calls Tryz.prog 96 #[.pointer (some ⟨b, off, none⟩), .int .u32 v] w fun e w' => e = .returned (.tuple #[]) ∧ Wr w' lo b off (l ++ bitsOf v 32) 0 ∧ Only b off (off + 123) w w' := by
  have r0 : IntKind.u64.wrap (v : Int) = (v : Int) := by rw [IntKind.wrap_u64]; omega
  have HW := hide hW
  clear hW
  go_enter Tryz.func96, Tryz.ntmps96
  go_wp2_with fail
  refine (cwidth32_any _).mono ?_
  rintro e w1 ⟨rfl, rfl⟩
  go_wp2_with fail
  refine (wbits_any b off lo 32 v _ l HW.out hb hlo hlen (by omega) (by omega) (by omega)).mono ?_
  rintro e w1 ⟨rfl, W1, O1⟩
  go_wp2_with fail
  go_end0
  exact ⟨rfl, W1, O1⟩

/-- What takeValue tells. -/
def ValueEnd32 (w : World) (b off : Nat) (s : ByteArray) (a : Nat) (e0 : Int) (e : Ending) (w' : World) : Prop :=
  ∃ (x a' : Nat) (e1 : Int), e = .returned (.int .u32 (x : Int)) ∧ x < 4294967296 ∧ Tk w w' b off s a e0 a' e1 (bitsOf x 32)

theorem takeValue32_any (b off : Nat) (s : ByteArray) (a : Nat) (e0 : Int) (w : World) (h : Rd w b off s a e0) :
    Calls Tryz.prog 76 #[.pointer (some ⟨b, off, none⟩)] w (ValueEnd32 w b off s a e0) := by
  have H := hide h
  clear h
  go_enter Tryz.func76, Tryz.ntmps76
  go_wp2_with fail
  refine (cwidth32_any _).mono ?_
  rintro e w1 ⟨rfl, rfl⟩
  go_wp2_with fail
  refine (tk_bits b off s a 32 e0 _ H.out (by omega)).mono ?_
  rintro e w2 ⟨x, a', e1, rfl, hx, T⟩
  have HT := hide T
  clear T
  have hx' : x < 4294967296 := by simpa using hx
  have r0 : IntKind.u32.wrap (x : Int) = (x : Int) := by rw [IntKind.wrap_u32]; omega
  go_wp2_with fail
  go_ret
  exact ⟨x, a', e1, rfl, hx', HT.out⟩

end Go.Proofs.YtgjjkopmoobilaaGreatDoor

/- The contracts of pack's width, fieldWidth, windows; pick (32 bits). -/
namespace Go.Proofs.YtgjjkopmoobilaaGreatDoor
open Go.RowKit
open M
set_option linter.unusedVariables false
set_option linter.unusedSimpArgs false

theorem width32_any (w : World) : Calls Tryz.prog 117 #[] w fun e w' => e = .returned (.int .i64 32) ∧ w' = w := by
  have hx : bits BinOp.xor IntKind.u32 0 4294967295 = 4294967295 := by decide +kernel
  have HL := hide (len64_all 4294967295 w (by omega))
  rw [show bitLen 4294967295 = 32 from by decide +kernel] at HL
  go_enter Tryz.func117, Tryz.ntmps117
  go_wp2_with fail
  refine HL.out.mono ?_
  rintro e w1 ⟨rfl, rfl⟩
  go_wp2_with fail
  go_ret
  exact ⟨rfl, rfl⟩

theorem fieldWidth32_any (w : World) : Calls Tryz.prog 180 #[] w fun e w' => e = .returned (.int .i64 5) ∧ w' = w := by
  have HL := hide (len64_all 31 w (by omega))
  rw [show bitLen 31 = 5 from by decide +kernel] at HL
  go_enter Tryz.func180, Tryz.ntmps180
  go_wp2_with fail
  refine (width32_any w).mono ?_
  rintro e w1 ⟨rfl, rfl⟩
  go_wp2_with fail
  refine HL.out.mono ?_
  rintro e w1 ⟨rfl, rfl⟩
  go_wp2_with fail
  go_ret
  exact ⟨rfl, rfl⟩

/-- A window as a value. -/
def wn32 (L N : Nat) : Value := .agg #[.int .i64 (L : Int), .int .i64 (N : Int)]

theorem is_struct32 {o p : Option TypeDesc} (e : p = o) (h : (match o with | some (.struct _) => true | _ => false) = true) : ∃ fs, p = some (.struct fs) := by
  subst e
  cases p with
  | none => simp at h
  | some d => cases d <;> first | exact ⟨_, rfl⟩ | simp at h

set_option maxRecDepth 100000 in
set_option maxHeartbeats 1000000 in
theorem windowOf32_any (x : Nat) (w : World) (hx : x < 4294967296) (h0 : x ≠ 0) (hT : Tab64 w) : Calls Tryz.prog 181 #[.int .u32 x] w fun e w' => e = .returned (.agg #[.int .i64 ((32 - bitLen x : Nat) : Int), .int .i64 (wl x : Int)]) ∧ Below w.heap.size w w' := by
  have hb := bitLen_le x 32 hx
  have ht := tz_lt x h0 (by omega)
  obtain ⟨B, hB⟩ : ∃ B, B = bitLen x := ⟨_, rfl⟩
  obtain ⟨Z, hZ⟩ : ∃ Z, Z = tz x := ⟨_, rfl⟩
  obtain ⟨L, hL⟩ : ∃ L, L = 32 - bitLen x := ⟨_, rfl⟩
  obtain ⟨N, hN⟩ : ∃ N, N = wl x := ⟨_, rfl⟩
  have q1 : (32 : Int) - (B : Int) = (L : Int) := by omega
  have q2 : wl x = bitLen x - tz x := rfl
  have q3 : (32 : Int) - (L : Int) = (B : Int) := by omega
  have q4 : (B : Int) - (Z : Int) = (N : Int) := by omega
  have HL : Hid (∀ w : World, Calls Tryz.prog 138 #[.int .u64 x] w fun e w' => e = .returned (.int .i64 (B : Int)) ∧ w' = w) := fun w => by rw [hB]; exact len64_all x w (by omega)
  have HZ : Hid (∀ w : World, Tab64 w → Calls Tryz.prog 188 #[.int .u64 x] w fun e w' => e = .returned (.int .i64 (Z : Int)) ∧ w' = w) := fun w h => by rw [hZ]; exact tz64_any x w (by omega) h0 h
  rw [← hL, ← hN]
  have r0 : IntKind.u64.wrap (x : Int) = (x : Int) := by rw [IntKind.wrap_u64]; omega
  have HT : Hid (Tab64 (w.alloc (.cells #[.int .i64 0, .int .i64 0] 162))) := hT.below ((Below.refl _ w).alloc (Nat.le_refl _) _)
  have HX := hide hx
  clear hB hZ hL hN q2 hT hx hb ht h0
  go_enter Tryz.func181, Tryz.ntmps181
  go_wp2_with fail
  refine (width32_any _).mono ?_
  rintro e w1 ⟨rfl, rfl⟩
  go_wp2_with fail
  refine (HL.out _).mono ?_
  rintro e w1 ⟨rfl, rfl⟩
  go_wp2_with fail
  refine (HZ.out _ HT.out).mono ?_
  rintro e w1 ⟨rfl, rfl⟩
  go_wp2_with fail
  refine (width32_any _).mono ?_
  rintro e w1 ⟨rfl, rfl⟩
  go_wp2_with fail
  obtain ⟨fs, hu⟩ := is_struct32 (show Tryz.prog.underlying 162 = Tryz.prog.underlying 162 from rfl) (by kernel_rfl)
  first
    | (refine bodyPost_ret (results_cell_row rfl _ _ w.heap.size _ _ (0, 0) (.struct fs) rfl (heap_alloc_new w _) hu rfl (by kernel_rfl)) rfl ?_
       exact ⟨rfl, ((Below.refl _ w).alloc (Nat.le_refl _) _)⟩)
    | trace_state

theorem behind32_any (L N s : Nat) (w : World) (h : L + N + s = 32) : Calls Tryz.prog 156 #[wn32 L N] w fun e w' => e = .returned (.int .i64 (s : Int)) ∧ Below w.heap.size w w' := by
  have q1 : (32 : Int) - (L : Int) = ((N + s : Nat) : Int) := by omega
  have q2 : ((N + s : Nat) : Int) - (N : Int) = (s : Int) := by omega
  generalize N + s = Z at *
  unfold wn32
  go_enter Tryz.func156, Tryz.ntmps156
  go_wp2_with fail
  go_quiet ((go_at_call 117; exact Calls.quiet_of_same (width32_any _)))
  go_wp2_with fail
  go_ret
  exact ⟨rfl, below_drewN ((Below.refl _ w).alloc (Nat.le_refl _) _) _⟩

theorem behindZ32_any (L N : Nat) (z : Int) (w : World) (hL : L ≤ 64) (hN : N ≤ 64) (h : z = (32 : Int) - L - N) : Calls Tryz.prog 156 #[wn32 L N] w fun e w' => e = .returned (.int .i64 z) ∧ Below w.heap.size w w' := by
  obtain ⟨y, hy⟩ : ∃ y : Int, y = (32 : Int) - L := ⟨_, rfl⟩
  have q1 : (32 : Int) - (L : Int) = y := by omega
  have q2 : y - (N : Int) = z := by omega
  have r1 : wrap64 y = y := by unfold wrap64; omega
  have r2 : wrap64 z = z := by unfold wrap64; omega
  have r3 : IntKind.i64.wrap y = y := by rw [IntKind.wrap_i64]; omega
  have r4 : IntKind.i64.wrap z = z := by rw [IntKind.wrap_i64]; omega
  have HH := hide h
  have HY := hide hy
  clear h hy
  unfold wn32
  go_enter Tryz.func156, Tryz.ntmps156
  go_wp2_with fail
  go_quiet ((go_at_call 117; exact Calls.quiet_of_same (width32_any _)))
  go_wp2_with fail
  go_ret
  exact ⟨rfl, below_drewN ((Below.refl _ w).alloc (Nat.le_refl _) _) _⟩

/-- How many bits stand behind a window. -/
def bh32 (L N : Nat) : Nat := 32 - L - N
theorem behindN32_any (L N : Nat) (w : World) (h : L + N ≤ 32) : Calls Tryz.prog 156 #[.agg #[.int .i64 (L : Int), .int .i64 (N : Int)]] w fun e w' => e = .returned (.int .i64 (bh32 L N : Int)) ∧ Below w.heap.size w w' := behind32_any L N _ w (by unfold bh32; omega)

/-- A window that is none, or lies within a value, stands if it is one. -/
theorem stands32_any (L N : Nat) (w : World) (h : L + N ≤ 32) : Calls Tryz.prog 155 #[wn32 L N] w fun e w' => e = .returned (.bool (decide (0 < N))) ∧ Below w.heap.size w w' := by
  by_cases h0 : N = 0
  · subst h0
    unfold wn32
    go_enter Tryz.func155, Tryz.ntmps155
    go_wp2_with fail
    go_ret
    exact ⟨rfl, ((Below.refl _ w).alloc (Nat.le_refl _) _)⟩
  · have hp : decide ((0 : Int) < (N : Int)) = true := by simp; omega
    rw [show decide (0 < N) = true from by simp; omega]
    have HB : Hid (∀ w, Calls Tryz.prog 156 #[.agg #[.int .i64 (L : Int), .int .i64 (N : Int)]] w fun e w' => e = .returned (.int .i64 ((32 - L - N : Nat) : Int)) ∧ Below w.heap.size w w') := fun w => behind32_any L N (32 - L - N) w (by omega)
    generalize 32 - L - N = s at *
    unfold wn32
    go_enter Tryz.func155, Tryz.ntmps155
    go_wp2_with fail
    refine (HB.out _).mono ?_
    rintro e w1 ⟨rfl, hb⟩
    have hb2 : Below w.heap.size w w1 := ((Below.refl _ w).alloc (Nat.le_refl _) _).trans (hb.mono (by simp))
    clear hb
    go_wp2_with fail
    go_ret
    exact ⟨rfl, hb2⟩

/-- A window that goes beyond the value does not. -/
theorem stands32_bad (L N : Nat) (w : World) (hL : L ≤ 64) (hN : N ≤ 64) (h : 32 < L + N) (h0 : 0 < N) : Calls Tryz.prog 155 #[wn32 L N] w fun e w' => e = .returned (.bool false) ∧ Below w.heap.size w w' := by
  have hp : decide ((0 : Int) < (N : Int)) = true := by simp; omega
  obtain ⟨z, hz⟩ : ∃ z : Int, z = (32 : Int) - L - N := ⟨_, rfl⟩
  have hz0 : decide ((0 : Int) ≤ z) = false := by simp; omega
  have HB : Hid (∀ w, Calls Tryz.prog 156 #[.agg #[.int .i64 (L : Int), .int .i64 (N : Int)]] w fun e w' => e = .returned (.int .i64 z) ∧ Below w.heap.size w w') := fun w => behindZ32_any L N z w hL hN hz
  unfold wn32
  have HZ := hide hz
  have HH := hide h
  clear hz h
  go_enter Tryz.func155, Tryz.ntmps155
  go_wp2_with fail
  refine (HB.out _).mono ?_
  rintro e w1 ⟨rfl, hb⟩
  have hb2 : Below w.heap.size w w1 := ((Below.refl _ w).alloc (Nat.le_refl _) _).trans (hb.mono (by simp))
  clear hb
  go_wp2_with fail
  go_ret
  exact ⟨rfl, hb2⟩

end Go.Proofs.YtgjjkopmoobilaaGreatDoor

namespace Go.Proofs.YtgjjkopmoobilaaGreatDoor
open Go.RowKit
open M
set_option linter.unusedVariables false
set_option linter.unusedSimpArgs false

/-- What suits tells. -/
def SuitEnd32 (L N l n : Nat) (w : World) (e : Ending) (w' : World) : Prop :=
  ∃ v : Bool, e = .returned (.bool v) ∧ (v = true ↔ 0 < N ∧ L ≤ l ∧ 32 - L - N ≤ 32 - l - n ∧ N ≤ n + 2 * 5) ∧ Below w.heap.size w w'

theorem boxed32 (w : World) (L N l n : Nat) : ((w.alloc (.cells #[.int .i64 (L : Int), .int .i64 (N : Int)] 162)).alloc (.cells #[.int .i64 (l : Int), .int .i64 (n : Int)] 162)).cell? ⟨w.heap.size, 0, none⟩ = some (.int .i64 (L : Int)) ∧
    ((w.alloc (.cells #[.int .i64 (L : Int), .int .i64 (N : Int)] 162)).alloc (.cells #[.int .i64 (l : Int), .int .i64 (n : Int)] 162)).cell? ⟨w.heap.size, 1, none⟩ = some (.int .i64 (N : Int)) ∧
    ((w.alloc (.cells #[.int .i64 (L : Int), .int .i64 (N : Int)] 162)).alloc (.cells #[.int .i64 (l : Int), .int .i64 (n : Int)] 162)).cell? ⟨w.heap.size + 1, 0, none⟩ = some (.int .i64 (l : Int)) ∧
    ((w.alloc (.cells #[.int .i64 (L : Int), .int .i64 (N : Int)] 162)).alloc (.cells #[.int .i64 (l : Int), .int .i64 (n : Int)] 162)).cell? ⟨w.heap.size + 1, 1, none⟩ = some (.int .i64 (n : Int)) ∧
    Below w.heap.size w ((w.alloc (.cells #[.int .i64 (L : Int), .int .i64 (N : Int)] 162)).alloc (.cells #[.int .i64 (l : Int), .int .i64 (n : Int)] 162)) := by
  have h1 := new_kept (heap_alloc_new w (.cells #[.int .i64 (L : Int), .int .i64 (N : Int)] 162)) (.cells #[.int .i64 (l : Int), .int .i64 (n : Int)] 162)
  have h2 := heap_alloc_new (w.alloc (.cells #[.int .i64 (L : Int), .int .i64 (N : Int)] 162)) (.cells #[.int .i64 (l : Int), .int .i64 (n : Int)] 162)
  rw [World.size_alloc] at h2
  exact ⟨by rw [cell_of_row _ _ _ _ _ _ h1]; rfl, by rw [cell_of_row _ _ _ _ _ _ h1]; rfl, by rw [cell_of_row _ _ _ _ _ _ h2]; rfl, by rw [cell_of_row _ _ _ _ _ _ h2]; rfl, ((Below.refl _ w).alloc (Nat.le_refl _) _).alloc (by simp) _⟩

set_option maxRecDepth 100000 in
set_option maxHeartbeats 4000000 in
theorem suits32_a (L N l n : Nat) (w : World) (h1 : L + N ≤ 32) (h2 : l + n ≤ 32) (c : ¬ (L ≤ l)) :
    Calls Tryz.prog 182 #[wn32 L N, wn32 l n] w (SuitEnd32 L N l n w) := by
  have HNO : Hid (¬ (0 < N ∧ L ≤ l ∧ 32 - L - N ≤ 32 - l - n ∧ N ≤ n + 2 * 5)) := fun h => c h.2.1
  have cd : decide (L ≤ l) = false := decide_eq_false c
  have HS : Hid (∀ w, Calls Tryz.prog 155 #[.agg #[.int .i64 (L : Int), .int .i64 (N : Int)]] w fun e w' => e = .returned (.bool (decide (0 < N))) ∧ Below w.heap.size w w') := fun w => stands32_any L N w h1
  have HB1 : Hid (∀ w, Calls Tryz.prog 156 #[.agg #[.int .i64 (L : Int), .int .i64 (N : Int)]] w fun e w' => e = .returned (.int .i64 ((32 - L - N : Nat) : Int)) ∧ Below w.heap.size w w') := fun w => behind32_any L N (32 - L - N) w (by omega)
  have HB2 : Hid (∀ w, Calls Tryz.prog 156 #[.agg #[.int .i64 (l : Int), .int .i64 (n : Int)]] w fun e w' => e = .returned (.int .i64 ((32 - l - n : Nat) : Int)) ∧ Below w.heap.size w w') := fun w => behind32_any l n (32 - l - n) w (by omega)
  have HM := hide (boxed32 w L N l n)
  clear h1 h2 c
  unfold wn32
  go_enter Tryz.func182, Tryz.ntmps182
  go_wp2_with fail
  generalize (w.alloc (.cells #[.int .i64 (L : Int), .int .i64 (N : Int)] 162)).alloc (.cells #[.int .i64 (l : Int), .int .i64 (n : Int)] 162) = W1 at *
  obtain ⟨c0, c1, c2, c3, B1⟩ := HM.out
  have HBW : Hid (Below w.heap.size w W1 ∧ w.heap.size ≤ W1.heap.size) := ⟨B1, B1.size⟩
  clear B1 HM
  obtain ⟨G, hG⟩ : ∃ G, w.heap.size = G := ⟨_, rfl⟩
  rw [hG] at c0 c1 c2 c3 HBW ⊢
  have HG := hide hG
  clear hG
  refine wp_region_held_drew (S := fun w' => w'.cell? ⟨G, 0, none⟩ = some (.int .i64 (L : Int)) ∧ w'.cell? ⟨G, 1, none⟩ = some (.int .i64 (N : Int)) ∧ w'.cell? ⟨G + 1, 0, none⟩ = some (.int .i64 (l : Int)) ∧ w'.cell? ⟨G + 1, 1, none⟩ = some (.int .i64 (n : Int))) (by kernel_rfl) ⟨c0, c1, c2, c3⟩ (fun hHeld => ?_)
  refine wpAnyH_take (i := 0) (v := ?_) rfl (by kernel_rfl) (by kernel_rfl) (by kernel_rfl) (fun _ _ _ h => h) (Or.inl ⟨by rfl, ?_⟩) hHeld ?_
  rotate_left
  · (intro wq hSw; (try dsimp only at hSw); (try obtain ⟨s0, s1, s2, s3⟩ := hSw); (go_simp <;> with_reducible rfl))
  try simp only [Act.put, List.getElem_toArray, List.getElem_cons_zero, List.getElem_cons_succ, List.setIfInBounds_toArray, List.set_cons_zero, List.set_cons_succ]
  refine wpAnyH_take (i := 1) (v := ?_) rfl (by kernel_rfl) (by kernel_rfl) (by kernel_rfl) (fun _ _ _ h => h) (Or.inl ⟨by rfl, ?_⟩) hHeld ?_
  rotate_left
  · (intro wq hSw; (try dsimp only at hSw); (try obtain ⟨s0, s1, s2, s3⟩ := hSw); (go_simp <;> with_reducible rfl))
  try simp only [Act.put, List.getElem_toArray, List.getElem_cons_zero, List.getElem_cons_succ, List.setIfInBounds_toArray, List.set_cons_zero, List.set_cons_succ]
  refine wpAnyH_take (i := 2) (v := ?_) rfl (by kernel_rfl) (by kernel_rfl) (by kernel_rfl) (fun _ _ _ h => h) (Or.inl ⟨by rfl, ?_⟩) hHeld ?_
  rotate_left
  · (intro wq hSw; (try dsimp only at hSw); (try obtain ⟨s0, s1, s2, s3⟩ := hSw); (go_simp <;> with_reducible rfl))
  try simp only [Act.put, List.getElem_toArray, List.getElem_cons_zero, List.getElem_cons_succ, List.setIfInBounds_toArray, List.set_cons_zero, List.set_cons_succ]
  refine wpAnyH_take (i := 3) (v := ?_) rfl (by kernel_rfl) (by kernel_rfl) (by kernel_rfl) (fun _ _ _ h => h) (Or.inl ⟨by rfl, ?_⟩) hHeld ?_
  rotate_left
  · (intro wq hSw; (try dsimp only at hSw); (try obtain ⟨s0, s1, s2, s3⟩ := hSw); (go_simp <;> with_reducible rfl))
  try simp only [Act.put, List.getElem_toArray, List.getElem_cons_zero, List.getElem_cons_succ, List.setIfInBounds_toArray, List.set_cons_zero, List.set_cons_succ]
  refine wpAnyH_take (i := 4) (v := ?_) rfl (by kernel_rfl) (by kernel_rfl) (by kernel_rfl) (fun _ _ _ h => h) (Or.inl ⟨by rfl, ?_⟩) hHeld ?_
  rotate_left
  · (intro wq hSw; (try dsimp only at hSw); (try obtain ⟨s0, s1, s2, s3⟩ := hSw); (go_simp <;> with_reducible rfl))
  try simp only [Act.put, List.getElem_toArray, List.getElem_cons_zero, List.getElem_cons_succ, List.setIfInBounds_toArray, List.set_cons_zero, List.set_cons_succ]
  refine wpAnyH_take (i := 5) (v := ?_) rfl (by kernel_rfl) (by kernel_rfl) (by kernel_rfl) (fun _ _ _ h => h) (Or.inl ⟨by rfl, ?_⟩) hHeld ?_
  rotate_left
  · (intro wq hSw; (try dsimp only at hSw); (try obtain ⟨s0, s1, s2, s3⟩ := hSw); (go_simp <;> with_reducible rfl))
  try simp only [Act.put, List.getElem_toArray, List.getElem_cons_zero, List.getElem_cons_succ, List.setIfInBounds_toArray, List.set_cons_zero, List.set_cons_succ]
  refine wpAnyH_take (i := 6) (v := undef) rfl (by kernel_rfl) (by kernel_rfl) (by kernel_rfl) (fun _ _ _ h => h) (Or.inr ⟨by rfl, rfl⟩) hHeld ?_
  try simp only [Act.put, List.getElem_toArray, List.getElem_cons_zero, List.getElem_cons_succ, List.setIfInBounds_toArray, List.set_cons_zero, List.set_cons_succ]
  refine wpAnyH_take (i := 8) (v := undef) rfl (by kernel_rfl) (by kernel_rfl) (by kernel_rfl) (fun _ _ _ h => h) (Or.inr ⟨by rfl, rfl⟩) hHeld ?_
  try simp only [Act.put, List.getElem_toArray, List.getElem_cons_zero, List.getElem_cons_succ, List.setIfInBounds_toArray, List.set_cons_zero, List.set_cons_succ]
  refine wpAnyH_ready (rs := [7]) (by kernel_rfl) (by simp) ?_
  refine AllReadyH.cons rfl (fun K hK => ?_) AllReadyH.nil
  go_simp
  refine hK.out _ _ ?_ (fun hHeld => ?_)
  · exact ⟨c0, c1, c2, c3⟩
  clear hK K
  try simp only [Act.put, List.getElem_toArray, List.getElem_cons_zero, List.getElem_cons_succ, List.setIfInBounds_toArray, List.set_cons_zero, List.set_cons_succ]
  refine wpAnyH_ready (rs := [9]) (by kernel_rfl) (by simp) ?_
  refine AllReadyH.cons rfl (fun K hK => ?_) AllReadyH.nil
  go_simp
  refine hK.out _ _ ?_ (fun hHeld => ?_)
  · exact ⟨c0, c1, c2, c3⟩
  clear hK K
  try simp only [Act.put, List.getElem_toArray, List.getElem_cons_zero, List.getElem_cons_succ, List.setIfInBounds_toArray, List.set_cons_zero, List.set_cons_succ]
  refine wpAnyH_take (i := 10) (v := undef) rfl (by kernel_rfl) (by kernel_rfl) (by kernel_rfl) (fun _ _ _ h => h) (Or.inr ⟨by rfl, rfl⟩) hHeld ?_
  try simp only [Act.put, List.getElem_toArray, List.getElem_cons_zero, List.getElem_cons_succ, List.setIfInBounds_toArray, List.set_cons_zero, List.set_cons_succ]
  refine wpAnyH_take (i := 11) (v := ?_) rfl (by kernel_rfl) (by kernel_rfl) (by kernel_rfl) (fun _ _ _ h => h) (Or.inl ⟨by rfl, ?_⟩) hHeld ?_
  rotate_left
  · (intro wq hSw; (try dsimp only at hSw); (try obtain ⟨s0, s1, s2, s3⟩ := hSw); (go_simp <;> with_reducible rfl))
  try simp only [Act.put, List.getElem_toArray, List.getElem_cons_zero, List.getElem_cons_succ, List.setIfInBounds_toArray, List.set_cons_zero, List.set_cons_succ]
  refine wpAnyH_take (i := 12) (v := ?_) rfl (by kernel_rfl) (by kernel_rfl) (by kernel_rfl) (fun _ _ _ h => h) (Or.inl ⟨by rfl, ?_⟩) hHeld ?_
  rotate_left
  · (intro wq hSw; (try dsimp only at hSw); (try obtain ⟨s0, s1, s2, s3⟩ := hSw); (go_simp <;> with_reducible rfl))
  try simp only [Act.put, List.getElem_toArray, List.getElem_cons_zero, List.getElem_cons_succ, List.setIfInBounds_toArray, List.set_cons_zero, List.set_cons_succ]
  refine wpAnyH_done (by kernel_rfl) ?_ _
  go_wp2_with fail
  by_cases h0 : N = 0
  · rw [show decide (0 < N) = false from by simp; omega] at HS
    have HN := hide h0
    clear h0
    refine wp_region_held_drew (S := fun w' => w'.cell? ⟨G, 0, none⟩ = some (.int .i64 (L : Int)) ∧ w'.cell? ⟨G, 1, none⟩ = some (.int .i64 (N : Int)) ∧ w'.cell? ⟨G + 1, 0, none⟩ = some (.int .i64 (l : Int)) ∧ w'.cell? ⟨G + 1, 1, none⟩ = some (.int .i64 (n : Int))) (by kernel_rfl) (by first | exact ⟨d0, d1, d2, d3⟩ | exact ⟨c0, c1, c2, c3⟩) (fun hHeld => ?_)
    refine wpAnyH_take (i := 0) (v := ?_) rfl (by kernel_rfl) (by kernel_rfl) (by kernel_rfl) (fun _ _ _ h => h) (Or.inl ⟨by rfl, ?_⟩) hHeld ?_
    rotate_left
    · (intro wq hSw; (try dsimp only at hSw); (try obtain ⟨s0, s1, s2, s3⟩ := hSw); (go_simp <;> with_reducible rfl))
    try simp only [Act.put, List.getElem_toArray, List.getElem_cons_zero, List.getElem_cons_succ, List.setIfInBounds_toArray, List.set_cons_zero, List.set_cons_succ]
    refine wpAnyH_ready (rs := [1]) (by kernel_rfl) (by simp) ?_
    refine AllReadyH.cons rfl (fun K hK => ?_) AllReadyH.nil
    go_simp
    refine (HS.out _).mono ?_
    rintro e wz ⟨rfl, hbz⟩
    have d0 : wz.cell? ⟨G, 0, none⟩ = some (.int .i64 (L : Int)) := by rw [hbz.cell (p := ⟨G, 0, none⟩) (block_lt_of_cell (by first | exact d0 | exact c0))]; first | exact d0 | exact c0
    have d1 : wz.cell? ⟨G, 1, none⟩ = some (.int .i64 (N : Int)) := by rw [hbz.cell (p := ⟨G, 1, none⟩) (block_lt_of_cell (by first | exact d1 | exact c1))]; first | exact d1 | exact c1
    have d2 : wz.cell? ⟨G + 1, 0, none⟩ = some (.int .i64 (l : Int)) := by rw [hbz.cell (p := ⟨G + 1, 0, none⟩) (block_lt_of_cell (by first | exact d2 | exact c2))]; first | exact d2 | exact c2
    have d3 : wz.cell? ⟨G + 1, 1, none⟩ = some (.int .i64 (n : Int)) := by rw [hbz.cell (p := ⟨G + 1, 1, none⟩) (block_lt_of_cell (by first | exact d3 | exact c3))]; first | exact d3 | exact c3
    have HBW : Hid (Below G w wz ∧ G ≤ wz.heap.size) := next_below HBW.out hbz ⟨rfl, rfl, rfl, Nat.le_refl _, fun _ _ => rfl⟩
    clear hbz
    go_wp2_with fail
    refine hK.out _ _ ?_ (fun hHeld => ?_)
    · exact ⟨d0, d1, d2, d3⟩
    clear hK K
    try simp only [Act.put, List.getElem_toArray, List.getElem_cons_zero, List.getElem_cons_succ, List.setIfInBounds_toArray, List.set_cons_zero, List.set_cons_succ]
    refine wpAnyH_take (i := 2) (v := ?_) rfl (by kernel_rfl) (by kernel_rfl) (by kernel_rfl) (fun _ _ _ h => h) (Or.inl ⟨by rfl, ?_⟩) hHeld ?_
    rotate_left
    · (intro wq hSw; (try dsimp only at hSw); (try obtain ⟨s0, s1, s2, s3⟩ := hSw); (go_simp <;> with_reducible rfl))
    try simp only [Act.put, List.getElem_toArray, List.getElem_cons_zero, List.getElem_cons_succ, List.setIfInBounds_toArray, List.set_cons_zero, List.set_cons_succ]
    refine wpAnyH_take (i := 3) (v := undef) rfl (by kernel_rfl) (by kernel_rfl) (by kernel_rfl) (fun _ _ _ h => h) (Or.inr ⟨by rfl, rfl⟩) hHeld ?_
    try simp only [Act.put, List.getElem_toArray, List.getElem_cons_zero, List.getElem_cons_succ, List.setIfInBounds_toArray, List.set_cons_zero, List.set_cons_succ]
    refine wpAnyH_take (i := 4) (v := ?_) rfl (by kernel_rfl) (by kernel_rfl) (by kernel_rfl) (fun _ _ _ h => h) (Or.inl ⟨by rfl, ?_⟩) hHeld ?_
    rotate_left
    · (intro wq hSw; (try dsimp only at hSw); (try obtain ⟨s0, s1, s2, s3⟩ := hSw); (go_simp <;> with_reducible rfl))
    try simp only [Act.put, List.getElem_toArray, List.getElem_cons_zero, List.getElem_cons_succ, List.setIfInBounds_toArray, List.set_cons_zero, List.set_cons_succ]
    refine wpAnyH_take (i := 5) (v := ?_) rfl (by kernel_rfl) (by kernel_rfl) (by kernel_rfl) (fun _ _ _ h => h) (Or.inl ⟨by rfl, ?_⟩) hHeld ?_
    rotate_left
    · (intro wq hSw; (try dsimp only at hSw); (try obtain ⟨s0, s1, s2, s3⟩ := hSw); (go_simp <;> with_reducible rfl))
    try simp only [Act.put, List.getElem_toArray, List.getElem_cons_zero, List.getElem_cons_succ, List.setIfInBounds_toArray, List.set_cons_zero, List.set_cons_succ]
    refine wpAnyH_take (i := 6) (v := undef) rfl (by kernel_rfl) (by kernel_rfl) (by kernel_rfl) (fun _ _ _ h => h) (Or.inr ⟨by rfl, rfl⟩) hHeld ?_
    try simp only [Act.put, List.getElem_toArray, List.getElem_cons_zero, List.getElem_cons_succ, List.setIfInBounds_toArray, List.set_cons_zero, List.set_cons_succ]
    refine wpAnyH_take (i := 7) (v := undef) rfl (by kernel_rfl) (by kernel_rfl) (by kernel_rfl) (fun _ _ _ h => h) (Or.inr ⟨by rfl, rfl⟩) hHeld ?_
    try simp only [Act.put, List.getElem_toArray, List.getElem_cons_zero, List.getElem_cons_succ, List.setIfInBounds_toArray, List.set_cons_zero, List.set_cons_succ]
    refine wpAnyH_take (i := 8) (v := undef) rfl (by kernel_rfl) (by kernel_rfl) (by kernel_rfl) (fun _ _ _ h => h) (Or.inr ⟨by rfl, rfl⟩) hHeld ?_
    try simp only [Act.put, List.getElem_toArray, List.getElem_cons_zero, List.getElem_cons_succ, List.setIfInBounds_toArray, List.set_cons_zero, List.set_cons_succ]
    refine wpAnyH_take (i := 9) (v := undef) rfl (by kernel_rfl) (by kernel_rfl) (by kernel_rfl) (fun _ _ _ h => h) (Or.inr ⟨by rfl, rfl⟩) hHeld ?_
    try simp only [Act.put, List.getElem_toArray, List.getElem_cons_zero, List.getElem_cons_succ, List.setIfInBounds_toArray, List.set_cons_zero, List.set_cons_succ]
    refine wpAnyH_ready (rs := [10]) (by kernel_rfl) (by simp) ?_
    refine AllReadyH.cons rfl (fun K hK => ?_) AllReadyH.nil
    go_simp
    refine hK.out _ _ ?_ (fun hHeld => ?_)
    · exact ⟨d0, d1, d2, d3⟩
    clear hK K
    try simp only [Act.put, List.getElem_toArray, List.getElem_cons_zero, List.getElem_cons_succ, List.setIfInBounds_toArray, List.set_cons_zero, List.set_cons_succ]
    refine wpAnyH_take (i := 11) (v := undef) rfl (by kernel_rfl) (by kernel_rfl) (by kernel_rfl) (fun _ _ _ h => h) (Or.inr ⟨by rfl, rfl⟩) hHeld ?_
    try simp only [Act.put, List.getElem_toArray, List.getElem_cons_zero, List.getElem_cons_succ, List.setIfInBounds_toArray, List.set_cons_zero, List.set_cons_succ]
    refine wpAnyH_take (i := 12) (v := undef) rfl (by kernel_rfl) (by kernel_rfl) (by kernel_rfl) (fun _ _ _ h => h) (Or.inr ⟨by rfl, rfl⟩) hHeld ?_
    try simp only [Act.put, List.getElem_toArray, List.getElem_cons_zero, List.getElem_cons_succ, List.setIfInBounds_toArray, List.set_cons_zero, List.set_cons_succ]
    refine wpAnyH_take (i := 13) (v := undef) rfl (by kernel_rfl) (by kernel_rfl) (by kernel_rfl) (fun _ _ _ h => h) (Or.inr ⟨by rfl, rfl⟩) hHeld ?_
    try simp only [Act.put, List.getElem_toArray, List.getElem_cons_zero, List.getElem_cons_succ, List.setIfInBounds_toArray, List.set_cons_zero, List.set_cons_succ]
    refine wpAnyH_take (i := 14) (v := ?_) rfl (by kernel_rfl) (by kernel_rfl) (by kernel_rfl) (fun _ _ _ h => h) (Or.inl ⟨by rfl, ?_⟩) hHeld ?_
    rotate_left
    · (intro wq hSw; (try dsimp only at hSw); (try obtain ⟨s0, s1, s2, s3⟩ := hSw); (go_simp <;> with_reducible rfl))
    try simp only [Act.put, List.getElem_toArray, List.getElem_cons_zero, List.getElem_cons_succ, List.setIfInBounds_toArray, List.set_cons_zero, List.set_cons_succ]
    refine wpAnyH_take (i := 15) (v := ?_) rfl (by kernel_rfl) (by kernel_rfl) (by kernel_rfl) (fun _ _ _ h => h) (Or.inl ⟨by rfl, ?_⟩) hHeld ?_
    rotate_left
    · (intro wq hSw; (try dsimp only at hSw); (try obtain ⟨s0, s1, s2, s3⟩ := hSw); (go_simp <;> with_reducible rfl))
    try simp only [Act.put, List.getElem_toArray, List.getElem_cons_zero, List.getElem_cons_succ, List.setIfInBounds_toArray, List.set_cons_zero, List.set_cons_succ]
    refine wpAnyH_done (by kernel_rfl) ?_ _
    go_wp2_with fail
    go_ret
    refine ⟨false, rfl, ⟨fun h => (by cases h), fun h => absurd h.1 (by have := HN.out; omega)⟩, by rw [HG.out]; exact HBW.out.1⟩
  rw [show decide (0 < N) = true from by simp; omega] at HS
  have HN := hide h0
  clear h0
  refine wp_region_held_drew (S := fun w' => w'.cell? ⟨G, 0, none⟩ = some (.int .i64 (L : Int)) ∧ w'.cell? ⟨G, 1, none⟩ = some (.int .i64 (N : Int)) ∧ w'.cell? ⟨G + 1, 0, none⟩ = some (.int .i64 (l : Int)) ∧ w'.cell? ⟨G + 1, 1, none⟩ = some (.int .i64 (n : Int))) (by kernel_rfl) (by first | exact ⟨d0, d1, d2, d3⟩ | exact ⟨c0, c1, c2, c3⟩) (fun hHeld => ?_)
  refine wpAnyH_take (i := 0) (v := ?_) rfl (by kernel_rfl) (by kernel_rfl) (by kernel_rfl) (fun _ _ _ h => h) (Or.inl ⟨by rfl, ?_⟩) hHeld ?_
  rotate_left
  · (intro wq hSw; (try dsimp only at hSw); (try obtain ⟨s0, s1, s2, s3⟩ := hSw); (go_simp <;> with_reducible rfl))
  try simp only [Act.put, List.getElem_toArray, List.getElem_cons_zero, List.getElem_cons_succ, List.setIfInBounds_toArray, List.set_cons_zero, List.set_cons_succ]
  refine wpAnyH_ready (rs := [1]) (by kernel_rfl) (by simp) ?_
  refine AllReadyH.cons rfl (fun K hK => ?_) AllReadyH.nil
  go_simp
  refine (HS.out _).mono ?_
  rintro e wz ⟨rfl, hbz⟩
  have d0 : wz.cell? ⟨G, 0, none⟩ = some (.int .i64 (L : Int)) := by rw [hbz.cell (p := ⟨G, 0, none⟩) (block_lt_of_cell (by first | exact d0 | exact c0))]; first | exact d0 | exact c0
  have d1 : wz.cell? ⟨G, 1, none⟩ = some (.int .i64 (N : Int)) := by rw [hbz.cell (p := ⟨G, 1, none⟩) (block_lt_of_cell (by first | exact d1 | exact c1))]; first | exact d1 | exact c1
  have d2 : wz.cell? ⟨G + 1, 0, none⟩ = some (.int .i64 (l : Int)) := by rw [hbz.cell (p := ⟨G + 1, 0, none⟩) (block_lt_of_cell (by first | exact d2 | exact c2))]; first | exact d2 | exact c2
  have d3 : wz.cell? ⟨G + 1, 1, none⟩ = some (.int .i64 (n : Int)) := by rw [hbz.cell (p := ⟨G + 1, 1, none⟩) (block_lt_of_cell (by first | exact d3 | exact c3))]; first | exact d3 | exact c3
  have HBW : Hid (Below G w wz ∧ G ≤ wz.heap.size) := next_below HBW.out hbz ⟨rfl, rfl, rfl, Nat.le_refl _, fun _ _ => rfl⟩
  clear hbz
  go_wp2_with fail
  refine hK.out _ _ ?_ (fun hHeld => ?_)
  · exact ⟨d0, d1, d2, d3⟩
  clear hK K
  try simp only [Act.put, List.getElem_toArray, List.getElem_cons_zero, List.getElem_cons_succ, List.setIfInBounds_toArray, List.set_cons_zero, List.set_cons_succ]
  refine wpAnyH_take (i := 2) (v := ?_) rfl (by kernel_rfl) (by kernel_rfl) (by kernel_rfl) (fun _ _ _ h => h) (Or.inl ⟨by rfl, ?_⟩) hHeld ?_
  rotate_left
  · (intro wq hSw; (try dsimp only at hSw); (try obtain ⟨s0, s1, s2, s3⟩ := hSw); (go_simp <;> with_reducible rfl))
  try simp only [Act.put, List.getElem_toArray, List.getElem_cons_zero, List.getElem_cons_succ, List.setIfInBounds_toArray, List.set_cons_zero, List.set_cons_succ]
  refine wpAnyH_take (i := 3) (v := ?_) rfl (by kernel_rfl) (by kernel_rfl) (by kernel_rfl) (fun _ _ _ h => h) (Or.inl ⟨by rfl, ?_⟩) hHeld ?_
  rotate_left
  · (intro wq hSw; (try dsimp only at hSw); (try obtain ⟨s0, s1, s2, s3⟩ := hSw); (go_simp <;> with_reducible rfl))
  try simp only [Act.put, List.getElem_toArray, List.getElem_cons_zero, List.getElem_cons_succ, List.setIfInBounds_toArray, List.set_cons_zero, List.set_cons_succ]
  refine wpAnyH_take (i := 4) (v := ?_) rfl (by kernel_rfl) (by kernel_rfl) (by kernel_rfl) (fun _ _ _ h => h) (Or.inl ⟨by rfl, ?_⟩) hHeld ?_
  rotate_left
  · (intro wq hSw; (try dsimp only at hSw); (try obtain ⟨s0, s1, s2, s3⟩ := hSw); (go_simp <;> with_reducible rfl))
  try simp only [Act.put, List.getElem_toArray, List.getElem_cons_zero, List.getElem_cons_succ, List.setIfInBounds_toArray, List.set_cons_zero, List.set_cons_succ]
  refine wpAnyH_take (i := 5) (v := ?_) rfl (by kernel_rfl) (by kernel_rfl) (by kernel_rfl) (fun _ _ _ h => h) (Or.inl ⟨by rfl, ?_⟩) hHeld ?_
  rotate_left
  · (intro wq hSw; (try dsimp only at hSw); (try obtain ⟨s0, s1, s2, s3⟩ := hSw); (go_simp <;> with_reducible rfl))
  try simp only [Act.put, List.getElem_toArray, List.getElem_cons_zero, List.getElem_cons_succ, List.setIfInBounds_toArray, List.set_cons_zero, List.set_cons_succ]
  refine wpAnyH_take (i := 6) (v := undef) rfl (by kernel_rfl) (by kernel_rfl) (by kernel_rfl) (fun _ _ _ h => h) (Or.inr ⟨by rfl, rfl⟩) hHeld ?_
  try simp only [Act.put, List.getElem_toArray, List.getElem_cons_zero, List.getElem_cons_succ, List.setIfInBounds_toArray, List.set_cons_zero, List.set_cons_succ]
  refine wpAnyH_take (i := 7) (v := undef) rfl (by kernel_rfl) (by kernel_rfl) (by kernel_rfl) (fun _ _ _ h => h) (Or.inr ⟨by rfl, rfl⟩) hHeld ?_
  try simp only [Act.put, List.getElem_toArray, List.getElem_cons_zero, List.getElem_cons_succ, List.setIfInBounds_toArray, List.set_cons_zero, List.set_cons_succ]
  refine wpAnyH_take (i := 8) (v := undef) rfl (by kernel_rfl) (by kernel_rfl) (by kernel_rfl) (fun _ _ _ h => h) (Or.inr ⟨by rfl, rfl⟩) hHeld ?_
  try simp only [Act.put, List.getElem_toArray, List.getElem_cons_zero, List.getElem_cons_succ, List.setIfInBounds_toArray, List.set_cons_zero, List.set_cons_succ]
  refine wpAnyH_take (i := 9) (v := undef) rfl (by kernel_rfl) (by kernel_rfl) (by kernel_rfl) (fun _ _ _ h => h) (Or.inr ⟨by rfl, rfl⟩) hHeld ?_
  try simp only [Act.put, List.getElem_toArray, List.getElem_cons_zero, List.getElem_cons_succ, List.setIfInBounds_toArray, List.set_cons_zero, List.set_cons_succ]
  refine wpAnyH_ready (rs := [10]) (by kernel_rfl) (by simp) ?_
  refine AllReadyH.cons rfl (fun K hK => ?_) AllReadyH.nil
  go_simp
  refine hK.out _ _ ?_ (fun hHeld => ?_)
  · exact ⟨d0, d1, d2, d3⟩
  clear hK K
  try simp only [Act.put, List.getElem_toArray, List.getElem_cons_zero, List.getElem_cons_succ, List.setIfInBounds_toArray, List.set_cons_zero, List.set_cons_succ]
  refine wpAnyH_take (i := 11) (v := undef) rfl (by kernel_rfl) (by kernel_rfl) (by kernel_rfl) (fun _ _ _ h => h) (Or.inr ⟨by rfl, rfl⟩) hHeld ?_
  try simp only [Act.put, List.getElem_toArray, List.getElem_cons_zero, List.getElem_cons_succ, List.setIfInBounds_toArray, List.set_cons_zero, List.set_cons_succ]
  refine wpAnyH_take (i := 12) (v := undef) rfl (by kernel_rfl) (by kernel_rfl) (by kernel_rfl) (fun _ _ _ h => h) (Or.inr ⟨by rfl, rfl⟩) hHeld ?_
  try simp only [Act.put, List.getElem_toArray, List.getElem_cons_zero, List.getElem_cons_succ, List.setIfInBounds_toArray, List.set_cons_zero, List.set_cons_succ]
  refine wpAnyH_take (i := 13) (v := undef) rfl (by kernel_rfl) (by kernel_rfl) (by kernel_rfl) (fun _ _ _ h => h) (Or.inr ⟨by rfl, rfl⟩) hHeld ?_
  try simp only [Act.put, List.getElem_toArray, List.getElem_cons_zero, List.getElem_cons_succ, List.setIfInBounds_toArray, List.set_cons_zero, List.set_cons_succ]
  refine wpAnyH_take (i := 14) (v := ?_) rfl (by kernel_rfl) (by kernel_rfl) (by kernel_rfl) (fun _ _ _ h => h) (Or.inl ⟨by rfl, ?_⟩) hHeld ?_
  rotate_left
  · (intro wq hSw; (try dsimp only at hSw); (try obtain ⟨s0, s1, s2, s3⟩ := hSw); (go_simp <;> with_reducible rfl))
  try simp only [Act.put, List.getElem_toArray, List.getElem_cons_zero, List.getElem_cons_succ, List.setIfInBounds_toArray, List.set_cons_zero, List.set_cons_succ]
  refine wpAnyH_take (i := 15) (v := ?_) rfl (by kernel_rfl) (by kernel_rfl) (by kernel_rfl) (fun _ _ _ h => h) (Or.inl ⟨by rfl, ?_⟩) hHeld ?_
  rotate_left
  · (intro wq hSw; (try dsimp only at hSw); (try obtain ⟨s0, s1, s2, s3⟩ := hSw); (go_simp <;> with_reducible rfl))
  try simp only [Act.put, List.getElem_toArray, List.getElem_cons_zero, List.getElem_cons_succ, List.setIfInBounds_toArray, List.set_cons_zero, List.set_cons_succ]
  refine wpAnyH_done (by kernel_rfl) ?_ _
  go_wp2_with fail
  go_ret
  refine ⟨false, rfl, ⟨fun h => (by cases h), fun h => absurd h HNO.out⟩, by rw [HG.out]; exact HBW.out.1⟩

set_option maxRecDepth 100000 in
set_option maxHeartbeats 4000000 in
theorem suits32_b (L N l n : Nat) (w : World) (h1 : L + N ≤ 32) (h2 : l + n ≤ 32) (c : L ≤ l) (c' : ¬ (bh32 L N ≤ bh32 l n)) :
    Calls Tryz.prog 182 #[wn32 L N, wn32 l n] w (SuitEnd32 L N l n w) := by
  have HNO : Hid (¬ (0 < N ∧ L ≤ l ∧ 32 - L - N ≤ 32 - l - n ∧ N ≤ n + 2 * 5)) := fun h => c' (by unfold bh32; exact h.2.2.1)
  have cd : decide (L ≤ l) = true := decide_eq_true c
  have cd2 : decide (bh32 L N ≤ bh32 l n) = false := decide_eq_false c'
  have H1 := hide h1
  have H2 := hide h2
  have HS : Hid (∀ w, Calls Tryz.prog 155 #[.agg #[.int .i64 (L : Int), .int .i64 (N : Int)]] w fun e w' => e = .returned (.bool (decide (0 < N))) ∧ Below w.heap.size w w') := fun w => stands32_any L N w h1
  have HB1 : Hid (∀ w, Calls Tryz.prog 156 #[.agg #[.int .i64 (L : Int), .int .i64 (N : Int)]] w fun e w' => e = .returned (.int .i64 ((32 - L - N : Nat) : Int)) ∧ Below w.heap.size w w') := fun w => behind32_any L N (32 - L - N) w (by omega)
  have HB2 : Hid (∀ w, Calls Tryz.prog 156 #[.agg #[.int .i64 (l : Int), .int .i64 (n : Int)]] w fun e w' => e = .returned (.int .i64 ((32 - l - n : Nat) : Int)) ∧ Below w.heap.size w w') := fun w => behind32_any l n (32 - l - n) w (by omega)
  have HM := hide (boxed32 w L N l n)
  clear h1 h2 c c'
  unfold wn32
  go_enter Tryz.func182, Tryz.ntmps182
  go_wp2_with fail
  generalize (w.alloc (.cells #[.int .i64 (L : Int), .int .i64 (N : Int)] 162)).alloc (.cells #[.int .i64 (l : Int), .int .i64 (n : Int)] 162) = W1 at *
  obtain ⟨c0, c1, c2, c3, B1⟩ := HM.out
  have HBW : Hid (Below w.heap.size w W1 ∧ w.heap.size ≤ W1.heap.size) := ⟨B1, B1.size⟩
  clear B1 HM HB1 HB2
  obtain ⟨G, hG⟩ : ∃ G, w.heap.size = G := ⟨_, rfl⟩
  rw [hG] at c0 c1 c2 c3 HBW ⊢
  have HG := hide hG
  clear hG
  go_region_held3 (fun w' => w'.cell? ⟨G, 0, none⟩ = some (.int .i64 (L : Int)) ∧ w'.cell? ⟨G, 1, none⟩ = some (.int .i64 (N : Int)) ∧ w'.cell? ⟨G + 1, 0, none⟩ = some (.int .i64 (l : Int)) ∧ w'.cell? ⟨G + 1, 1, none⟩ = some (.int .i64 (n : Int))) (first | exact ⟨d0, d1, d2, d3⟩ | exact ⟨c0, c1, c2, c3⟩)
    ((go_at_call 156; go_must (refine (behindN32_any _ _ _ (by first | exact H1.out | exact H2.out)).mono ?_); rintro _ wz ⟨rfl, hbz⟩; (have d0 : wz.cell? ⟨G, 0, none⟩ = some (.int .i64 (L : Int)) := by rw [hbz.cell (p := ⟨G, 0, none⟩) (block_lt_of_cell (by first | exact d0 | exact c0))]; first | exact d0 | exact c0); (have d1 : wz.cell? ⟨G, 1, none⟩ = some (.int .i64 (N : Int)) := by rw [hbz.cell (p := ⟨G, 1, none⟩) (block_lt_of_cell (by first | exact d1 | exact c1))]; first | exact d1 | exact c1); (have d2 : wz.cell? ⟨G + 1, 0, none⟩ = some (.int .i64 (l : Int)) := by rw [hbz.cell (p := ⟨G + 1, 0, none⟩) (block_lt_of_cell (by first | exact d2 | exact c2))]; first | exact d2 | exact c2); (have d3 : wz.cell? ⟨G + 1, 1, none⟩ = some (.int .i64 (n : Int)) := by rw [hbz.cell (p := ⟨G + 1, 1, none⟩) (block_lt_of_cell (by first | exact d3 | exact c3))]; first | exact d3 | exact c3); (have HBW : Hid (Below G w wz ∧ G ≤ wz.heap.size) := next_below HBW.out hbz ⟨rfl, rfl, rfl, Nat.le_refl _, fun _ _ => rfl⟩); clear hbz))
  go_wp2_with fail
  by_cases h0 : N = 0
  · rw [show decide (0 < N) = false from by simp; omega] at HS
    have HN := hide h0
    clear h0
    refine wp_region_held_drew (S := fun w' => w'.cell? ⟨G, 0, none⟩ = some (.int .i64 (L : Int)) ∧ w'.cell? ⟨G, 1, none⟩ = some (.int .i64 (N : Int)) ∧ w'.cell? ⟨G + 1, 0, none⟩ = some (.int .i64 (l : Int)) ∧ w'.cell? ⟨G + 1, 1, none⟩ = some (.int .i64 (n : Int))) (by kernel_rfl) (by first | exact ⟨d0, d1, d2, d3⟩ | exact ⟨c0, c1, c2, c3⟩) (fun hHeld => ?_)
    refine wpAnyH_take (i := 0) (v := ?_) rfl (by kernel_rfl) (by kernel_rfl) (by kernel_rfl) (fun _ _ _ h => h) (Or.inl ⟨by rfl, ?_⟩) hHeld ?_
    rotate_left
    · (intro wq hSw; (try dsimp only at hSw); (try obtain ⟨s0, s1, s2, s3⟩ := hSw); (go_simp <;> with_reducible rfl))
    try simp only [Act.put, List.getElem_toArray, List.getElem_cons_zero, List.getElem_cons_succ, List.setIfInBounds_toArray, List.set_cons_zero, List.set_cons_succ]
    refine wpAnyH_ready (rs := [1]) (by kernel_rfl) (by simp) ?_
    refine AllReadyH.cons rfl (fun K hK => ?_) AllReadyH.nil
    go_simp
    refine (HS.out _).mono ?_
    rintro e wz ⟨rfl, hbz⟩
    have d0 : wz.cell? ⟨G, 0, none⟩ = some (.int .i64 (L : Int)) := by rw [hbz.cell (p := ⟨G, 0, none⟩) (block_lt_of_cell (by first | exact d0 | exact c0))]; first | exact d0 | exact c0
    have d1 : wz.cell? ⟨G, 1, none⟩ = some (.int .i64 (N : Int)) := by rw [hbz.cell (p := ⟨G, 1, none⟩) (block_lt_of_cell (by first | exact d1 | exact c1))]; first | exact d1 | exact c1
    have d2 : wz.cell? ⟨G + 1, 0, none⟩ = some (.int .i64 (l : Int)) := by rw [hbz.cell (p := ⟨G + 1, 0, none⟩) (block_lt_of_cell (by first | exact d2 | exact c2))]; first | exact d2 | exact c2
    have d3 : wz.cell? ⟨G + 1, 1, none⟩ = some (.int .i64 (n : Int)) := by rw [hbz.cell (p := ⟨G + 1, 1, none⟩) (block_lt_of_cell (by first | exact d3 | exact c3))]; first | exact d3 | exact c3
    have HBW : Hid (Below G w wz ∧ G ≤ wz.heap.size) := next_below HBW.out hbz ⟨rfl, rfl, rfl, Nat.le_refl _, fun _ _ => rfl⟩
    clear hbz
    go_wp2_with fail
    refine hK.out _ _ ?_ (fun hHeld => ?_)
    · exact ⟨d0, d1, d2, d3⟩
    clear hK K
    try simp only [Act.put, List.getElem_toArray, List.getElem_cons_zero, List.getElem_cons_succ, List.setIfInBounds_toArray, List.set_cons_zero, List.set_cons_succ]
    refine wpAnyH_take (i := 2) (v := ?_) rfl (by kernel_rfl) (by kernel_rfl) (by kernel_rfl) (fun _ _ _ h => h) (Or.inl ⟨by rfl, ?_⟩) hHeld ?_
    rotate_left
    · (intro wq hSw; (try dsimp only at hSw); (try obtain ⟨s0, s1, s2, s3⟩ := hSw); (go_simp <;> with_reducible rfl))
    try simp only [Act.put, List.getElem_toArray, List.getElem_cons_zero, List.getElem_cons_succ, List.setIfInBounds_toArray, List.set_cons_zero, List.set_cons_succ]
    refine wpAnyH_take (i := 3) (v := undef) rfl (by kernel_rfl) (by kernel_rfl) (by kernel_rfl) (fun _ _ _ h => h) (Or.inr ⟨by rfl, rfl⟩) hHeld ?_
    try simp only [Act.put, List.getElem_toArray, List.getElem_cons_zero, List.getElem_cons_succ, List.setIfInBounds_toArray, List.set_cons_zero, List.set_cons_succ]
    refine wpAnyH_take (i := 4) (v := ?_) rfl (by kernel_rfl) (by kernel_rfl) (by kernel_rfl) (fun _ _ _ h => h) (Or.inl ⟨by rfl, ?_⟩) hHeld ?_
    rotate_left
    · (intro wq hSw; (try dsimp only at hSw); (try obtain ⟨s0, s1, s2, s3⟩ := hSw); (go_simp <;> with_reducible rfl))
    try simp only [Act.put, List.getElem_toArray, List.getElem_cons_zero, List.getElem_cons_succ, List.setIfInBounds_toArray, List.set_cons_zero, List.set_cons_succ]
    refine wpAnyH_take (i := 5) (v := ?_) rfl (by kernel_rfl) (by kernel_rfl) (by kernel_rfl) (fun _ _ _ h => h) (Or.inl ⟨by rfl, ?_⟩) hHeld ?_
    rotate_left
    · (intro wq hSw; (try dsimp only at hSw); (try obtain ⟨s0, s1, s2, s3⟩ := hSw); (go_simp <;> with_reducible rfl))
    try simp only [Act.put, List.getElem_toArray, List.getElem_cons_zero, List.getElem_cons_succ, List.setIfInBounds_toArray, List.set_cons_zero, List.set_cons_succ]
    refine wpAnyH_take (i := 6) (v := undef) rfl (by kernel_rfl) (by kernel_rfl) (by kernel_rfl) (fun _ _ _ h => h) (Or.inr ⟨by rfl, rfl⟩) hHeld ?_
    try simp only [Act.put, List.getElem_toArray, List.getElem_cons_zero, List.getElem_cons_succ, List.setIfInBounds_toArray, List.set_cons_zero, List.set_cons_succ]
    refine wpAnyH_take (i := 7) (v := undef) rfl (by kernel_rfl) (by kernel_rfl) (by kernel_rfl) (fun _ _ _ h => h) (Or.inr ⟨by rfl, rfl⟩) hHeld ?_
    try simp only [Act.put, List.getElem_toArray, List.getElem_cons_zero, List.getElem_cons_succ, List.setIfInBounds_toArray, List.set_cons_zero, List.set_cons_succ]
    refine wpAnyH_take (i := 8) (v := undef) rfl (by kernel_rfl) (by kernel_rfl) (by kernel_rfl) (fun _ _ _ h => h) (Or.inr ⟨by rfl, rfl⟩) hHeld ?_
    try simp only [Act.put, List.getElem_toArray, List.getElem_cons_zero, List.getElem_cons_succ, List.setIfInBounds_toArray, List.set_cons_zero, List.set_cons_succ]
    refine wpAnyH_take (i := 9) (v := undef) rfl (by kernel_rfl) (by kernel_rfl) (by kernel_rfl) (fun _ _ _ h => h) (Or.inr ⟨by rfl, rfl⟩) hHeld ?_
    try simp only [Act.put, List.getElem_toArray, List.getElem_cons_zero, List.getElem_cons_succ, List.setIfInBounds_toArray, List.set_cons_zero, List.set_cons_succ]
    refine wpAnyH_ready (rs := [10]) (by kernel_rfl) (by simp) ?_
    refine AllReadyH.cons rfl (fun K hK => ?_) AllReadyH.nil
    go_simp
    refine hK.out _ _ ?_ (fun hHeld => ?_)
    · exact ⟨d0, d1, d2, d3⟩
    clear hK K
    try simp only [Act.put, List.getElem_toArray, List.getElem_cons_zero, List.getElem_cons_succ, List.setIfInBounds_toArray, List.set_cons_zero, List.set_cons_succ]
    refine wpAnyH_take (i := 11) (v := undef) rfl (by kernel_rfl) (by kernel_rfl) (by kernel_rfl) (fun _ _ _ h => h) (Or.inr ⟨by rfl, rfl⟩) hHeld ?_
    try simp only [Act.put, List.getElem_toArray, List.getElem_cons_zero, List.getElem_cons_succ, List.setIfInBounds_toArray, List.set_cons_zero, List.set_cons_succ]
    refine wpAnyH_take (i := 12) (v := undef) rfl (by kernel_rfl) (by kernel_rfl) (by kernel_rfl) (fun _ _ _ h => h) (Or.inr ⟨by rfl, rfl⟩) hHeld ?_
    try simp only [Act.put, List.getElem_toArray, List.getElem_cons_zero, List.getElem_cons_succ, List.setIfInBounds_toArray, List.set_cons_zero, List.set_cons_succ]
    refine wpAnyH_take (i := 13) (v := undef) rfl (by kernel_rfl) (by kernel_rfl) (by kernel_rfl) (fun _ _ _ h => h) (Or.inr ⟨by rfl, rfl⟩) hHeld ?_
    try simp only [Act.put, List.getElem_toArray, List.getElem_cons_zero, List.getElem_cons_succ, List.setIfInBounds_toArray, List.set_cons_zero, List.set_cons_succ]
    refine wpAnyH_take (i := 14) (v := ?_) rfl (by kernel_rfl) (by kernel_rfl) (by kernel_rfl) (fun _ _ _ h => h) (Or.inl ⟨by rfl, ?_⟩) hHeld ?_
    rotate_left
    · (intro wq hSw; (try dsimp only at hSw); (try obtain ⟨s0, s1, s2, s3⟩ := hSw); (go_simp <;> with_reducible rfl))
    try simp only [Act.put, List.getElem_toArray, List.getElem_cons_zero, List.getElem_cons_succ, List.setIfInBounds_toArray, List.set_cons_zero, List.set_cons_succ]
    refine wpAnyH_take (i := 15) (v := ?_) rfl (by kernel_rfl) (by kernel_rfl) (by kernel_rfl) (fun _ _ _ h => h) (Or.inl ⟨by rfl, ?_⟩) hHeld ?_
    rotate_left
    · (intro wq hSw; (try dsimp only at hSw); (try obtain ⟨s0, s1, s2, s3⟩ := hSw); (go_simp <;> with_reducible rfl))
    try simp only [Act.put, List.getElem_toArray, List.getElem_cons_zero, List.getElem_cons_succ, List.setIfInBounds_toArray, List.set_cons_zero, List.set_cons_succ]
    refine wpAnyH_done (by kernel_rfl) ?_ _
    go_wp2_with fail
    go_ret
    refine ⟨false, rfl, ⟨fun h => (by cases h), fun h => absurd h.1 (by have := HN.out; omega)⟩, by rw [HG.out]; exact HBW.out.1⟩
  rw [show decide (0 < N) = true from by simp; omega] at HS
  have HN := hide h0
  clear h0
  refine wp_region_held_drew (S := fun w' => w'.cell? ⟨G, 0, none⟩ = some (.int .i64 (L : Int)) ∧ w'.cell? ⟨G, 1, none⟩ = some (.int .i64 (N : Int)) ∧ w'.cell? ⟨G + 1, 0, none⟩ = some (.int .i64 (l : Int)) ∧ w'.cell? ⟨G + 1, 1, none⟩ = some (.int .i64 (n : Int))) (by kernel_rfl) (by first | exact ⟨d0, d1, d2, d3⟩ | exact ⟨c0, c1, c2, c3⟩) (fun hHeld => ?_)
  refine wpAnyH_take (i := 0) (v := ?_) rfl (by kernel_rfl) (by kernel_rfl) (by kernel_rfl) (fun _ _ _ h => h) (Or.inl ⟨by rfl, ?_⟩) hHeld ?_
  rotate_left
  · (intro wq hSw; (try dsimp only at hSw); (try obtain ⟨s0, s1, s2, s3⟩ := hSw); (go_simp <;> with_reducible rfl))
  try simp only [Act.put, List.getElem_toArray, List.getElem_cons_zero, List.getElem_cons_succ, List.setIfInBounds_toArray, List.set_cons_zero, List.set_cons_succ]
  refine wpAnyH_ready (rs := [1]) (by kernel_rfl) (by simp) ?_
  refine AllReadyH.cons rfl (fun K hK => ?_) AllReadyH.nil
  go_simp
  refine (HS.out _).mono ?_
  rintro e wz ⟨rfl, hbz⟩
  have d0 : wz.cell? ⟨G, 0, none⟩ = some (.int .i64 (L : Int)) := by rw [hbz.cell (p := ⟨G, 0, none⟩) (block_lt_of_cell (by first | exact d0 | exact c0))]; first | exact d0 | exact c0
  have d1 : wz.cell? ⟨G, 1, none⟩ = some (.int .i64 (N : Int)) := by rw [hbz.cell (p := ⟨G, 1, none⟩) (block_lt_of_cell (by first | exact d1 | exact c1))]; first | exact d1 | exact c1
  have d2 : wz.cell? ⟨G + 1, 0, none⟩ = some (.int .i64 (l : Int)) := by rw [hbz.cell (p := ⟨G + 1, 0, none⟩) (block_lt_of_cell (by first | exact d2 | exact c2))]; first | exact d2 | exact c2
  have d3 : wz.cell? ⟨G + 1, 1, none⟩ = some (.int .i64 (n : Int)) := by rw [hbz.cell (p := ⟨G + 1, 1, none⟩) (block_lt_of_cell (by first | exact d3 | exact c3))]; first | exact d3 | exact c3
  have HBW : Hid (Below G w wz ∧ G ≤ wz.heap.size) := next_below HBW.out hbz ⟨rfl, rfl, rfl, Nat.le_refl _, fun _ _ => rfl⟩
  clear hbz
  go_wp2_with fail
  refine hK.out _ _ ?_ (fun hHeld => ?_)
  · exact ⟨d0, d1, d2, d3⟩
  clear hK K
  try simp only [Act.put, List.getElem_toArray, List.getElem_cons_zero, List.getElem_cons_succ, List.setIfInBounds_toArray, List.set_cons_zero, List.set_cons_succ]
  refine wpAnyH_take (i := 2) (v := ?_) rfl (by kernel_rfl) (by kernel_rfl) (by kernel_rfl) (fun _ _ _ h => h) (Or.inl ⟨by rfl, ?_⟩) hHeld ?_
  rotate_left
  · (intro wq hSw; (try dsimp only at hSw); (try obtain ⟨s0, s1, s2, s3⟩ := hSw); (go_simp <;> with_reducible rfl))
  try simp only [Act.put, List.getElem_toArray, List.getElem_cons_zero, List.getElem_cons_succ, List.setIfInBounds_toArray, List.set_cons_zero, List.set_cons_succ]
  refine wpAnyH_take (i := 3) (v := ?_) rfl (by kernel_rfl) (by kernel_rfl) (by kernel_rfl) (fun _ _ _ h => h) (Or.inl ⟨by rfl, ?_⟩) hHeld ?_
  rotate_left
  · (intro wq hSw; (try dsimp only at hSw); (try obtain ⟨s0, s1, s2, s3⟩ := hSw); (go_simp <;> with_reducible rfl))
  try simp only [Act.put, List.getElem_toArray, List.getElem_cons_zero, List.getElem_cons_succ, List.setIfInBounds_toArray, List.set_cons_zero, List.set_cons_succ]
  refine wpAnyH_take (i := 4) (v := ?_) rfl (by kernel_rfl) (by kernel_rfl) (by kernel_rfl) (fun _ _ _ h => h) (Or.inl ⟨by rfl, ?_⟩) hHeld ?_
  rotate_left
  · (intro wq hSw; (try dsimp only at hSw); (try obtain ⟨s0, s1, s2, s3⟩ := hSw); (go_simp <;> with_reducible rfl))
  try simp only [Act.put, List.getElem_toArray, List.getElem_cons_zero, List.getElem_cons_succ, List.setIfInBounds_toArray, List.set_cons_zero, List.set_cons_succ]
  refine wpAnyH_take (i := 5) (v := ?_) rfl (by kernel_rfl) (by kernel_rfl) (by kernel_rfl) (fun _ _ _ h => h) (Or.inl ⟨by rfl, ?_⟩) hHeld ?_
  rotate_left
  · (intro wq hSw; (try dsimp only at hSw); (try obtain ⟨s0, s1, s2, s3⟩ := hSw); (go_simp <;> with_reducible rfl))
  try simp only [Act.put, List.getElem_toArray, List.getElem_cons_zero, List.getElem_cons_succ, List.setIfInBounds_toArray, List.set_cons_zero, List.set_cons_succ]
  refine wpAnyH_take (i := 6) (v := undef) rfl (by kernel_rfl) (by kernel_rfl) (by kernel_rfl) (fun _ _ _ h => h) (Or.inr ⟨by rfl, rfl⟩) hHeld ?_
  try simp only [Act.put, List.getElem_toArray, List.getElem_cons_zero, List.getElem_cons_succ, List.setIfInBounds_toArray, List.set_cons_zero, List.set_cons_succ]
  refine wpAnyH_take (i := 7) (v := undef) rfl (by kernel_rfl) (by kernel_rfl) (by kernel_rfl) (fun _ _ _ h => h) (Or.inr ⟨by rfl, rfl⟩) hHeld ?_
  try simp only [Act.put, List.getElem_toArray, List.getElem_cons_zero, List.getElem_cons_succ, List.setIfInBounds_toArray, List.set_cons_zero, List.set_cons_succ]
  refine wpAnyH_take (i := 8) (v := undef) rfl (by kernel_rfl) (by kernel_rfl) (by kernel_rfl) (fun _ _ _ h => h) (Or.inr ⟨by rfl, rfl⟩) hHeld ?_
  try simp only [Act.put, List.getElem_toArray, List.getElem_cons_zero, List.getElem_cons_succ, List.setIfInBounds_toArray, List.set_cons_zero, List.set_cons_succ]
  refine wpAnyH_take (i := 9) (v := undef) rfl (by kernel_rfl) (by kernel_rfl) (by kernel_rfl) (fun _ _ _ h => h) (Or.inr ⟨by rfl, rfl⟩) hHeld ?_
  try simp only [Act.put, List.getElem_toArray, List.getElem_cons_zero, List.getElem_cons_succ, List.setIfInBounds_toArray, List.set_cons_zero, List.set_cons_succ]
  refine wpAnyH_ready (rs := [10]) (by kernel_rfl) (by simp) ?_
  refine AllReadyH.cons rfl (fun K hK => ?_) AllReadyH.nil
  go_simp
  refine hK.out _ _ ?_ (fun hHeld => ?_)
  · exact ⟨d0, d1, d2, d3⟩
  clear hK K
  try simp only [Act.put, List.getElem_toArray, List.getElem_cons_zero, List.getElem_cons_succ, List.setIfInBounds_toArray, List.set_cons_zero, List.set_cons_succ]
  refine wpAnyH_take (i := 11) (v := undef) rfl (by kernel_rfl) (by kernel_rfl) (by kernel_rfl) (fun _ _ _ h => h) (Or.inr ⟨by rfl, rfl⟩) hHeld ?_
  try simp only [Act.put, List.getElem_toArray, List.getElem_cons_zero, List.getElem_cons_succ, List.setIfInBounds_toArray, List.set_cons_zero, List.set_cons_succ]
  refine wpAnyH_take (i := 12) (v := undef) rfl (by kernel_rfl) (by kernel_rfl) (by kernel_rfl) (fun _ _ _ h => h) (Or.inr ⟨by rfl, rfl⟩) hHeld ?_
  try simp only [Act.put, List.getElem_toArray, List.getElem_cons_zero, List.getElem_cons_succ, List.setIfInBounds_toArray, List.set_cons_zero, List.set_cons_succ]
  refine wpAnyH_take (i := 13) (v := undef) rfl (by kernel_rfl) (by kernel_rfl) (by kernel_rfl) (fun _ _ _ h => h) (Or.inr ⟨by rfl, rfl⟩) hHeld ?_
  try simp only [Act.put, List.getElem_toArray, List.getElem_cons_zero, List.getElem_cons_succ, List.setIfInBounds_toArray, List.set_cons_zero, List.set_cons_succ]
  refine wpAnyH_take (i := 14) (v := ?_) rfl (by kernel_rfl) (by kernel_rfl) (by kernel_rfl) (fun _ _ _ h => h) (Or.inl ⟨by rfl, ?_⟩) hHeld ?_
  rotate_left
  · (intro wq hSw; (try dsimp only at hSw); (try obtain ⟨s0, s1, s2, s3⟩ := hSw); (go_simp <;> with_reducible rfl))
  try simp only [Act.put, List.getElem_toArray, List.getElem_cons_zero, List.getElem_cons_succ, List.setIfInBounds_toArray, List.set_cons_zero, List.set_cons_succ]
  refine wpAnyH_take (i := 15) (v := ?_) rfl (by kernel_rfl) (by kernel_rfl) (by kernel_rfl) (fun _ _ _ h => h) (Or.inl ⟨by rfl, ?_⟩) hHeld ?_
  rotate_left
  · (intro wq hSw; (try dsimp only at hSw); (try obtain ⟨s0, s1, s2, s3⟩ := hSw); (go_simp <;> with_reducible rfl))
  try simp only [Act.put, List.getElem_toArray, List.getElem_cons_zero, List.getElem_cons_succ, List.setIfInBounds_toArray, List.set_cons_zero, List.set_cons_succ]
  refine wpAnyH_done (by kernel_rfl) ?_ _
  go_wp2_with fail
  go_ret
  refine ⟨false, rfl, ⟨fun h => (by cases h), fun h => absurd h HNO.out⟩, by rw [HG.out]; exact HBW.out.1⟩

set_option maxRecDepth 100000 in
set_option maxHeartbeats 4000000 in
theorem suits32_c (L N l n : Nat) (w : World) (h1 : L + N ≤ 32) (h2 : l + n ≤ 32) (c : L ≤ l) (c' : bh32 L N ≤ bh32 l n) :
    Calls Tryz.prog 182 #[wn32 L N, wn32 l n] w (SuitEnd32 L N l n w) := by
  have HC1 := hide c
  have HC2 := hide c'
  have cd : decide (L ≤ l) = true := decide_eq_true c
  have cd2 : decide (bh32 L N ≤ bh32 l n) = true := decide_eq_true c'
  have H1 := hide h1
  have H2 := hide h2
  have HS : Hid (∀ w, Calls Tryz.prog 155 #[.agg #[.int .i64 (L : Int), .int .i64 (N : Int)]] w fun e w' => e = .returned (.bool (decide (0 < N))) ∧ Below w.heap.size w w') := fun w => stands32_any L N w h1
  have HB1 : Hid (∀ w, Calls Tryz.prog 156 #[.agg #[.int .i64 (L : Int), .int .i64 (N : Int)]] w fun e w' => e = .returned (.int .i64 ((32 - L - N : Nat) : Int)) ∧ Below w.heap.size w w') := fun w => behind32_any L N (32 - L - N) w (by omega)
  have HB2 : Hid (∀ w, Calls Tryz.prog 156 #[.agg #[.int .i64 (l : Int), .int .i64 (n : Int)]] w fun e w' => e = .returned (.int .i64 ((32 - l - n : Nat) : Int)) ∧ Below w.heap.size w w') := fun w => behind32_any l n (32 - l - n) w (by omega)
  have HM := hide (boxed32 w L N l n)
  clear h1 h2 c c'
  unfold wn32
  go_enter Tryz.func182, Tryz.ntmps182
  go_wp2_with fail
  generalize (w.alloc (.cells #[.int .i64 (L : Int), .int .i64 (N : Int)] 162)).alloc (.cells #[.int .i64 (l : Int), .int .i64 (n : Int)] 162) = W1 at *
  obtain ⟨c0, c1, c2, c3, B1⟩ := HM.out
  have HBW : Hid (Below w.heap.size w W1 ∧ w.heap.size ≤ W1.heap.size) := ⟨B1, B1.size⟩
  clear B1 HM HB1 HB2
  obtain ⟨G, hG⟩ : ∃ G, w.heap.size = G := ⟨_, rfl⟩
  rw [hG] at c0 c1 c2 c3 HBW ⊢
  have HG := hide hG
  clear hG
  go_region_held3 (fun w' => w'.cell? ⟨G, 0, none⟩ = some (.int .i64 (L : Int)) ∧ w'.cell? ⟨G, 1, none⟩ = some (.int .i64 (N : Int)) ∧ w'.cell? ⟨G + 1, 0, none⟩ = some (.int .i64 (l : Int)) ∧ w'.cell? ⟨G + 1, 1, none⟩ = some (.int .i64 (n : Int))) (first | exact ⟨d0, d1, d2, d3⟩ | exact ⟨c0, c1, c2, c3⟩)
    ((go_at_call 156; go_must (refine (behindN32_any _ _ _ (by first | exact H1.out | exact H2.out)).mono ?_); rintro _ wz ⟨rfl, hbz⟩; (have d0 : wz.cell? ⟨G, 0, none⟩ = some (.int .i64 (L : Int)) := by rw [hbz.cell (p := ⟨G, 0, none⟩) (block_lt_of_cell (by first | exact d0 | exact c0))]; first | exact d0 | exact c0); (have d1 : wz.cell? ⟨G, 1, none⟩ = some (.int .i64 (N : Int)) := by rw [hbz.cell (p := ⟨G, 1, none⟩) (block_lt_of_cell (by first | exact d1 | exact c1))]; first | exact d1 | exact c1); (have d2 : wz.cell? ⟨G + 1, 0, none⟩ = some (.int .i64 (l : Int)) := by rw [hbz.cell (p := ⟨G + 1, 0, none⟩) (block_lt_of_cell (by first | exact d2 | exact c2))]; first | exact d2 | exact c2); (have d3 : wz.cell? ⟨G + 1, 1, none⟩ = some (.int .i64 (n : Int)) := by rw [hbz.cell (p := ⟨G + 1, 1, none⟩) (block_lt_of_cell (by first | exact d3 | exact c3))]; first | exact d3 | exact c3); (have HBW : Hid (Below G w wz ∧ G ≤ wz.heap.size) := next_below HBW.out hbz ⟨rfl, rfl, rfl, Nat.le_refl _, fun _ _ => rfl⟩); clear hbz))
  go_wp2_with fail
  by_cases h0 : N = 0
  · rw [show decide (0 < N) = false from by simp; omega] at HS
    have HN := hide h0
    clear h0
    refine wp_region_held_drew (S := fun w' => w'.cell? ⟨G, 0, none⟩ = some (.int .i64 (L : Int)) ∧ w'.cell? ⟨G, 1, none⟩ = some (.int .i64 (N : Int)) ∧ w'.cell? ⟨G + 1, 0, none⟩ = some (.int .i64 (l : Int)) ∧ w'.cell? ⟨G + 1, 1, none⟩ = some (.int .i64 (n : Int))) (by kernel_rfl) (by first | exact ⟨d0, d1, d2, d3⟩ | exact ⟨c0, c1, c2, c3⟩) (fun hHeld => ?_)
    refine wpAnyH_take (i := 0) (v := ?_) rfl (by kernel_rfl) (by kernel_rfl) (by kernel_rfl) (fun _ _ _ h => h) (Or.inl ⟨by rfl, ?_⟩) hHeld ?_
    rotate_left
    · (intro wq hSw; (try dsimp only at hSw); (try obtain ⟨s0, s1, s2, s3⟩ := hSw); (go_simp <;> with_reducible rfl))
    try simp only [Act.put, List.getElem_toArray, List.getElem_cons_zero, List.getElem_cons_succ, List.setIfInBounds_toArray, List.set_cons_zero, List.set_cons_succ]
    refine wpAnyH_ready (rs := [1]) (by kernel_rfl) (by simp) ?_
    refine AllReadyH.cons rfl (fun K hK => ?_) AllReadyH.nil
    go_simp
    refine (HS.out _).mono ?_
    rintro e wz ⟨rfl, hbz⟩
    have d0 : wz.cell? ⟨G, 0, none⟩ = some (.int .i64 (L : Int)) := by rw [hbz.cell (p := ⟨G, 0, none⟩) (block_lt_of_cell (by first | exact d0 | exact c0))]; first | exact d0 | exact c0
    have d1 : wz.cell? ⟨G, 1, none⟩ = some (.int .i64 (N : Int)) := by rw [hbz.cell (p := ⟨G, 1, none⟩) (block_lt_of_cell (by first | exact d1 | exact c1))]; first | exact d1 | exact c1
    have d2 : wz.cell? ⟨G + 1, 0, none⟩ = some (.int .i64 (l : Int)) := by rw [hbz.cell (p := ⟨G + 1, 0, none⟩) (block_lt_of_cell (by first | exact d2 | exact c2))]; first | exact d2 | exact c2
    have d3 : wz.cell? ⟨G + 1, 1, none⟩ = some (.int .i64 (n : Int)) := by rw [hbz.cell (p := ⟨G + 1, 1, none⟩) (block_lt_of_cell (by first | exact d3 | exact c3))]; first | exact d3 | exact c3
    have HBW : Hid (Below G w wz ∧ G ≤ wz.heap.size) := next_below HBW.out hbz ⟨rfl, rfl, rfl, Nat.le_refl _, fun _ _ => rfl⟩
    clear hbz
    go_wp2_with fail
    refine hK.out _ _ ?_ (fun hHeld => ?_)
    · exact ⟨d0, d1, d2, d3⟩
    clear hK K
    try simp only [Act.put, List.getElem_toArray, List.getElem_cons_zero, List.getElem_cons_succ, List.setIfInBounds_toArray, List.set_cons_zero, List.set_cons_succ]
    refine wpAnyH_take (i := 2) (v := ?_) rfl (by kernel_rfl) (by kernel_rfl) (by kernel_rfl) (fun _ _ _ h => h) (Or.inl ⟨by rfl, ?_⟩) hHeld ?_
    rotate_left
    · (intro wq hSw; (try dsimp only at hSw); (try obtain ⟨s0, s1, s2, s3⟩ := hSw); (go_simp <;> with_reducible rfl))
    try simp only [Act.put, List.getElem_toArray, List.getElem_cons_zero, List.getElem_cons_succ, List.setIfInBounds_toArray, List.set_cons_zero, List.set_cons_succ]
    refine wpAnyH_take (i := 3) (v := undef) rfl (by kernel_rfl) (by kernel_rfl) (by kernel_rfl) (fun _ _ _ h => h) (Or.inr ⟨by rfl, rfl⟩) hHeld ?_
    try simp only [Act.put, List.getElem_toArray, List.getElem_cons_zero, List.getElem_cons_succ, List.setIfInBounds_toArray, List.set_cons_zero, List.set_cons_succ]
    refine wpAnyH_take (i := 4) (v := ?_) rfl (by kernel_rfl) (by kernel_rfl) (by kernel_rfl) (fun _ _ _ h => h) (Or.inl ⟨by rfl, ?_⟩) hHeld ?_
    rotate_left
    · (intro wq hSw; (try dsimp only at hSw); (try obtain ⟨s0, s1, s2, s3⟩ := hSw); (go_simp <;> with_reducible rfl))
    try simp only [Act.put, List.getElem_toArray, List.getElem_cons_zero, List.getElem_cons_succ, List.setIfInBounds_toArray, List.set_cons_zero, List.set_cons_succ]
    refine wpAnyH_take (i := 5) (v := ?_) rfl (by kernel_rfl) (by kernel_rfl) (by kernel_rfl) (fun _ _ _ h => h) (Or.inl ⟨by rfl, ?_⟩) hHeld ?_
    rotate_left
    · (intro wq hSw; (try dsimp only at hSw); (try obtain ⟨s0, s1, s2, s3⟩ := hSw); (go_simp <;> with_reducible rfl))
    try simp only [Act.put, List.getElem_toArray, List.getElem_cons_zero, List.getElem_cons_succ, List.setIfInBounds_toArray, List.set_cons_zero, List.set_cons_succ]
    refine wpAnyH_take (i := 6) (v := undef) rfl (by kernel_rfl) (by kernel_rfl) (by kernel_rfl) (fun _ _ _ h => h) (Or.inr ⟨by rfl, rfl⟩) hHeld ?_
    try simp only [Act.put, List.getElem_toArray, List.getElem_cons_zero, List.getElem_cons_succ, List.setIfInBounds_toArray, List.set_cons_zero, List.set_cons_succ]
    refine wpAnyH_take (i := 7) (v := undef) rfl (by kernel_rfl) (by kernel_rfl) (by kernel_rfl) (fun _ _ _ h => h) (Or.inr ⟨by rfl, rfl⟩) hHeld ?_
    try simp only [Act.put, List.getElem_toArray, List.getElem_cons_zero, List.getElem_cons_succ, List.setIfInBounds_toArray, List.set_cons_zero, List.set_cons_succ]
    refine wpAnyH_take (i := 8) (v := undef) rfl (by kernel_rfl) (by kernel_rfl) (by kernel_rfl) (fun _ _ _ h => h) (Or.inr ⟨by rfl, rfl⟩) hHeld ?_
    try simp only [Act.put, List.getElem_toArray, List.getElem_cons_zero, List.getElem_cons_succ, List.setIfInBounds_toArray, List.set_cons_zero, List.set_cons_succ]
    refine wpAnyH_take (i := 9) (v := undef) rfl (by kernel_rfl) (by kernel_rfl) (by kernel_rfl) (fun _ _ _ h => h) (Or.inr ⟨by rfl, rfl⟩) hHeld ?_
    try simp only [Act.put, List.getElem_toArray, List.getElem_cons_zero, List.getElem_cons_succ, List.setIfInBounds_toArray, List.set_cons_zero, List.set_cons_succ]
    refine wpAnyH_ready (rs := [10]) (by kernel_rfl) (by simp) ?_
    refine AllReadyH.cons rfl (fun K hK => ?_) AllReadyH.nil
    go_simp
    refine hK.out _ _ ?_ (fun hHeld => ?_)
    · exact ⟨d0, d1, d2, d3⟩
    clear hK K
    try simp only [Act.put, List.getElem_toArray, List.getElem_cons_zero, List.getElem_cons_succ, List.setIfInBounds_toArray, List.set_cons_zero, List.set_cons_succ]
    refine wpAnyH_take (i := 11) (v := undef) rfl (by kernel_rfl) (by kernel_rfl) (by kernel_rfl) (fun _ _ _ h => h) (Or.inr ⟨by rfl, rfl⟩) hHeld ?_
    try simp only [Act.put, List.getElem_toArray, List.getElem_cons_zero, List.getElem_cons_succ, List.setIfInBounds_toArray, List.set_cons_zero, List.set_cons_succ]
    refine wpAnyH_take (i := 12) (v := undef) rfl (by kernel_rfl) (by kernel_rfl) (by kernel_rfl) (fun _ _ _ h => h) (Or.inr ⟨by rfl, rfl⟩) hHeld ?_
    try simp only [Act.put, List.getElem_toArray, List.getElem_cons_zero, List.getElem_cons_succ, List.setIfInBounds_toArray, List.set_cons_zero, List.set_cons_succ]
    refine wpAnyH_take (i := 13) (v := undef) rfl (by kernel_rfl) (by kernel_rfl) (by kernel_rfl) (fun _ _ _ h => h) (Or.inr ⟨by rfl, rfl⟩) hHeld ?_
    try simp only [Act.put, List.getElem_toArray, List.getElem_cons_zero, List.getElem_cons_succ, List.setIfInBounds_toArray, List.set_cons_zero, List.set_cons_succ]
    refine wpAnyH_take (i := 14) (v := ?_) rfl (by kernel_rfl) (by kernel_rfl) (by kernel_rfl) (fun _ _ _ h => h) (Or.inl ⟨by rfl, ?_⟩) hHeld ?_
    rotate_left
    · (intro wq hSw; (try dsimp only at hSw); (try obtain ⟨s0, s1, s2, s3⟩ := hSw); (go_simp <;> with_reducible rfl))
    try simp only [Act.put, List.getElem_toArray, List.getElem_cons_zero, List.getElem_cons_succ, List.setIfInBounds_toArray, List.set_cons_zero, List.set_cons_succ]
    refine wpAnyH_take (i := 15) (v := ?_) rfl (by kernel_rfl) (by kernel_rfl) (by kernel_rfl) (fun _ _ _ h => h) (Or.inl ⟨by rfl, ?_⟩) hHeld ?_
    rotate_left
    · (intro wq hSw; (try dsimp only at hSw); (try obtain ⟨s0, s1, s2, s3⟩ := hSw); (go_simp <;> with_reducible rfl))
    try simp only [Act.put, List.getElem_toArray, List.getElem_cons_zero, List.getElem_cons_succ, List.setIfInBounds_toArray, List.set_cons_zero, List.set_cons_succ]
    refine wpAnyH_done (by kernel_rfl) ?_ _
    go_wp2_with fail
    go_ret
    refine ⟨false, rfl, ⟨fun h => (by cases h), fun h => absurd h.1 (by have := HN.out; omega)⟩, by rw [HG.out]; exact HBW.out.1⟩
  rw [show decide (0 < N) = true from by simp; omega] at HS
  have HN := hide h0
  clear h0
  go_region_held3 (fun w' => w'.cell? ⟨G, 0, none⟩ = some (.int .i64 (L : Int)) ∧ w'.cell? ⟨G, 1, none⟩ = some (.int .i64 (N : Int)) ∧ w'.cell? ⟨G + 1, 0, none⟩ = some (.int .i64 (l : Int)) ∧ w'.cell? ⟨G + 1, 1, none⟩ = some (.int .i64 (n : Int))) (first | exact ⟨d0, d1, d2, d3⟩ | exact ⟨c0, c1, c2, c3⟩)
    (first | (go_at_call 155; go_must (refine (HS.out _).mono ?_); rintro _ wz ⟨rfl, hbz⟩; (have d0 : wz.cell? ⟨G, 0, none⟩ = some (.int .i64 (L : Int)) := by rw [hbz.cell (p := ⟨G, 0, none⟩) (block_lt_of_cell (by first | exact d0 | exact c0))]; first | exact d0 | exact c0); (have d1 : wz.cell? ⟨G, 1, none⟩ = some (.int .i64 (N : Int)) := by rw [hbz.cell (p := ⟨G, 1, none⟩) (block_lt_of_cell (by first | exact d1 | exact c1))]; first | exact d1 | exact c1); (have d2 : wz.cell? ⟨G + 1, 0, none⟩ = some (.int .i64 (l : Int)) := by rw [hbz.cell (p := ⟨G + 1, 0, none⟩) (block_lt_of_cell (by first | exact d2 | exact c2))]; first | exact d2 | exact c2); (have d3 : wz.cell? ⟨G + 1, 1, none⟩ = some (.int .i64 (n : Int)) := by rw [hbz.cell (p := ⟨G + 1, 1, none⟩) (block_lt_of_cell (by first | exact d3 | exact c3))]; first | exact d3 | exact c3); (have HBW : Hid (Below G w wz ∧ G ≤ wz.heap.size) := next_below HBW.out hbz ⟨rfl, rfl, rfl, Nat.le_refl _, fun _ _ => rfl⟩); clear hbz) | (go_at_call 180; go_must (refine (fieldWidth32_any _).mono ?_); rintro _ wy ⟨rfl, rfl⟩))
  go_wp2_with fail
  go_ret
  refine ⟨_, rfl, ?_, by rw [HG.out]; exact HBW.out.1⟩
  have q0 := H2.out
  rw [decide_eq_true_iff, IntKind.wrap_i64, IntKind.wrap_i64]
  have q1 := HN.out
  have q2 := HC1.out
  have q3 := HC2.out
  unfold bh32 at q3
  omega

theorem suits32_any (L N l n : Nat) (w : World) (h1 : L + N ≤ 32) (h2 : l + n ≤ 32) : Calls Tryz.prog 182 #[wn32 L N, wn32 l n] w (SuitEnd32 L N l n w) := by
  by_cases c : L ≤ l
  · by_cases c2 : bh32 L N ≤ bh32 l n
    · exact suits32_c L N l n w h1 h2 c c2
    · exact suits32_b L N l n w h1 h2 c c2
  · exact suits32_a L N l n w h1 h2 c

end Go.Proofs.YtgjjkopmoobilaaGreatDoor

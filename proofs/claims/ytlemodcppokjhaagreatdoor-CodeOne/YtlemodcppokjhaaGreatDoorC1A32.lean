/- The contracts of code's width, layValue, takeValue (32 bits). -/
import Derived.Test.YtlemodcppokjhaaGreatDoorC4C64
import Derived.Test.YtlemodcppokjhaaGreatDoorC5A
import Derived.Test.YtlemodcppokjhaaGreatDoorC1A64
import Derived.Test.YtlemodcppokjhaaGreatDoorP1B64
import Derived.Deep.RegionHeld3
import Derived.Laws.Tables
import Derived.Great.Walk
/- What the law's own column comes to, by each kind. -/
namespace Go.Proofs.YtlemodcppokjhaaGreatDoor
open Go.RowKit
open M
set_option linter.unusedVariables false

/-- The column that the laws lay to see that the program works. -/
def wkF (i : Nat) : Nat := if i = 0 then 4609434218613702656 else if i = 1 then 4612811918334230528 else 4612248968380809216

theorem wkF_lt (i : Nat) : wkF i < 18446744073709551616 := by unfold wkF; split; omega; split <;> omega

set_option maxRecDepth 100000 in
theorem wk_bs : F64.bs wkF 3 22 = (2, 0) := by
  have h2 : F64.bs wkF 3 2 = (2, 0) := by decide +kernel
  rw [F64.bs_stop wkF 3 2 22 (by omega) (by rw [h2]), h2]

set_option maxRecDepth 100000 in
theorem wk_wb : F64.wb 2 wkF 0 3 0 = varB (zig 150) ++ (varB (zig 100) ++ varB (zig (-25))) := by decide +kernel

theorem wk_nt : F64.nt 64 2 wkF 0 3 0 = [] := by decide +kernel
theorem wk_cnt : F64.cnt 2 wkF 0 3 = 0 := by decide +kernel

theorem wk6 : (F64.dm 64 wkF 3).length = 53 := by
  unfold Dm.dm
  rw [show F64.mostP = 22 from rfl, wk_bs, wk_cnt, wk_nt, wk_wb]
  decide +kernel

theorem wk1 : (plB 64 wkF 3).length = 192 := by rw [plB_length]
theorem wk2 : 56 < (cbn 64 6 wkF 3).length := by decide +kernel
theorem wk3 : 56 < (rnB 64 wkF 3 0 3).length := by decide +kernel
theorem wk4 : (uq wkF 3).length ≤ 256 ∧ 56 < (dcB 64 wkF 3).length := by decide +kernel
theorem wk5 : 56 < (stB 9223372036854775808 18446744073709551616 wkF 3).length := by decide +kernel

end Go.Proofs.YtlemodcppokjhaaGreatDoor

/- The law's own works() is true (of fathomlaw8). -/
namespace Go.Proofs.YtlemodcppokjhaaGreatDoor
open Go.RowKit
open M
set_option linter.unusedVariables false
set_option linter.unusedSimpArgs false

theorem wkO (k : Nat) (h1 : 1 ≤ k) (h6 : k ≤ 6) : ∃ l, codeO64 k wkF 3 = some l ∧ 0 < l.length ∧ (k ≠ 6 → 56 < l.length) ∧ (k = 6 → l.length = 53) := by
  obtain rfl | rfl | rfl | rfl | rfl | rfl : k = 1 ∨ k = 2 ∨ k = 3 ∨ k = 4 ∨ k = 5 ∨ k = 6 := by omega
  · exact ⟨_, rfl, by rw [wk1]; omega, fun _ => by rw [wk1]; omega, fun h => by omega⟩
  · exact ⟨_, rfl, by have := wk2; omega, fun _ => wk2, fun h => by omega⟩
  · exact ⟨_, rfl, by have := wk3; omega, fun _ => wk3, fun h => by omega⟩
  · refine ⟨dcB 64 wkF 3, ?_, by have := wk4.2; omega, fun _ => wk4.2, fun h => by omega⟩
    show dcO 64 wkF 3 = _
    unfold dcO
    rw [if_pos wk4.1]
  · exact ⟨_, rfl, by have := wk5; omega, fun _ => wk5, fun h => by omega⟩
  · exact ⟨_, rfl, by rw [wk6]; omega, fun h => absurd rfl h, fun _ => wk6⟩

theorem wkIs (k : Nat) (bs : List Nat) (h1 : 1 ≤ k) (h6 : k ≤ 6) (hP : PackIs64 k 3 wkF bs) : 0 < bs.length ∧ (k ≠ 6 → 7 < bs.length) ∧ (k = 6 → bs.length = 7) := by
  obtain ⟨l, q1, q2, q3, q4⟩ := wkO k h1 h6
  obtain ⟨l', r1, r2⟩ := hP.2.2 (by omega)
  rw [q1] at r1
  cases r1
  have := packed_length l
  rw [r2] at this
  exact ⟨by omega, fun h => by have := q3 h; omega, fun h => by have := q4 h; omega⟩

theorem wkSome (k : Nat) (h1 : 1 ≤ k) (h6 : k ≤ 6) : ∃ bs, PackIs64 k 3 wkF bs := by
  obtain ⟨l, q1, _⟩ := wkO k h1 h6
  exact ⟨packed l, fun i _ => wkF_lt i, fun h => by omega, fun _ => ⟨l, q1, rfl⟩⟩

theorem wkRow {w : World} {g : Nat} {t : TypeId} (h : w.heap[g]? = some (.cells #[.int .u64 4609434218613702656, .int .u64 4612811918334230528, .int .u64 4612248968380809216] t (0, 0))) : URow64 w (some ⟨g, 0, none⟩) 3 wkF := fun _ =>
  ⟨g, 0, rfl, fun i hi => by
    rw [cell_of_row _ _ _ _ _ _ h]
    rcases (show i = 0 ∨ i = 1 ∨ i = 2 by omega) with rfl | rfl | rfl <;> rfl⟩

set_option maxRecDepth 100000 in
set_option maxHeartbeats 4000000 in
theorem works8_any (w : World) (hT : Tab64 w) : Calls Tryz.prog 10 #[] w fun e w' => e = .returned (.bool true) ∧ Below w.heap.size w w' := by
  have HR : Hid (URow64 (w.alloc (.cells #[.int .u64 4609434218613702656, .int .u64 4612811918334230528, .int .u64 4612248968380809216] 39)) (some ⟨w.heap.size, 0, none⟩) 3 wkF) := wkRow (heap_alloc_new _ _)
  have HB : Hid (Below w.heap.size w (w.alloc (.cells #[.int .u64 4609434218613702656, .int .u64 4612811918334230528, .int .u64 4612248968380809216] 39))) := (Below.refl _ _).alloc (Nat.le_refl _) _
  have HT := hide hT
  have HAG := hide (fun k w1 (hk1 : 1 ≤ k) (hk6 : k ≤ 6) (h : URow64 w1 (some ⟨w.heap.size, 0, none⟩) 3 wkF) (hT : Tab64 w1) => cAgain64 k (some ⟨w.heap.size, 0, none⟩) 3 3 wkF w1 hk1 hk6 h (by omega) (by omega) (fun i _ => wkF_lt i) hT)
  have HUN := hide (fun k v bs w1 (hk1 : 1 ≤ k) (hk6 : k ≤ 6) h1 h2 h3 (hT : Tab64 w1) => cUnpack64_any k v bs 3 w1 hk1 hk6 h1 h2 h3 (by omega) hT)
  have HBE := hide (fun w1 (h : URow64 w1 (some ⟨w.heap.size, 0, none⟩) 3 wkF) (hT : Tab64 w1) => best64_any (some ⟨w.heap.size, 0, none⟩) 3 3 wkF w1 h (by omega) (by omega) (fun i _ => wkF_lt i) hT)
  have HSM := hide (fun p cap (f : Nat → Nat) w1 (h : URow64 w1 p 3 f) (h' : URow64 w1 (some ⟨w.heap.size, 0, none⟩) 3 wkF) => same8_any p (some ⟨w.heap.size, 0, none⟩) 3 3 cap 3 f wkF w1 h h' (by omega) (by omega))
  obtain ⟨g, hg⟩ : ∃ g, w.heap.size = g := ⟨_, rfl⟩
  have HGG := hide hg
  rw [hg] at HR HAG HBE HSM
  clear hT
  go_enter Tryz.func10, Tryz.ntmps10
  go_upto_region 2 with fail
  (try rw [hg])
  clear hg
  generalize w.alloc (.cells #[.int .u64 4609434218613702656, .int .u64 4612811918334230528, .int .u64 4612248968380809216] 39) = w0 at *
  go_wp2_with fail
  go_loopw [2] (fun t2 wr => ∃ k : Nat, t2 = .int .i64 ((k : Int) + 1) ∧ Hid (k ≤ 6 ∧ Below w0.heap.size w0 wr)) (fun t2 _ => 8 - (intOf t2).toNat)
  case atStart => exact ⟨0, rfl, by omega, Below.refl _ _⟩
  case round =>
    obtain ⟨k, rfl, hI⟩ := hrel
    have HBw : Hid (Below w.heap.size w wr) := HB.out.trans (hI.out.2.mono HB.out.size)
    have HRw : Hid (URow64 wr (some ⟨g, 0, none⟩) 3 wkF) := HR.out.below hI.out.2
    by_cases hlt : k + 1 ≤ 6
    · have hle : (k : Int) + 1 ≤ 6 := by omega
      have HA := hide (HAG.out (k + 1) wr (by omega) hlt HRw.out (HT.out.below HBw.out))
      rw [show (((k + 1 : Nat)) : Int) = (k : Int) + 1 from by simp] at HA
      go_wp2_with fail
      refine HA.out.mono ?_
      intro e w1 hE
      rcases hE with ⟨pu, cu, bs, rfl, h2, h3, h4, h5, h6⟩ | ⟨rfl, h2, h3⟩
      · have hwk := wkIs (k + 1) bs (by omega) hlt h5
        have HP := hide h5
        have HB1 : Hid (Below w.heap.size w w1 ∧ Below w0.heap.size w0 w1) := ⟨HBw.out.trans (h4.mono HBw.out.size), hI.out.2.trans (h4.mono hI.out.2.size)⟩
        have hlen : bs.length ≤ 1000000000000 := by
          by_cases e : k + 1 = 6
          · have := hwk.2.2 e; omega
          · obtain ⟨l, q1, q2⟩ := h5.2.2 (by omega)
            rw [← q2, packed_length]
            obtain rfl | rfl | rfl | rfl | rfl : k = 0 ∨ k = 1 ∨ k = 2 ∨ k = 3 ∨ k = 4 := by omega
            · cases q1; rw [wk1]; omega
            · cases q1; have : (cbn 64 6 wkF 3).length ≤ 1000 := by decide +kernel
              omega
            · cases q1; have := rnB_len64 wkF 3 0 3; omega
            · have e2 : dcB 64 wkF 3 = l := by
                have q3 : dcO 64 wkF 3 = some l := q1
                unfold dcO at q3
                rw [if_pos wk4.1] at q3
                cases q3; rfl
              rw [← e2]
              have : (dcB 64 wkF 3).length ≤ 1000 := by decide +kernel
              omega
            · cases q1; have := stB_len64 9223372036854775808 18446744073709551616 wkF 3; omega
        have HU := hide (HUN.out (k + 1) _ bs w1 (by omega) hlt h2 h3 hlen (HT.out.below HB1.out.1))
        rw [show (((k + 1 : Nat)) : Int) = (k : Int) + 1 from by simp] at HU
        have hb0 : ((bs.length : Int) == 0) = false := by rw [beq_eq_false_iff_ne]; have := hwk.1; omega
        clear h2 h3 h4 h5 h6 hlen hwk
        go_wp2_with fail
        refine HU.out.mono ?_
        intro e w2 hE
        rcases hE with ⟨rfl, h2, h3⟩ | ⟨v, f, rfl, h2, h3, h4⟩
        · exact absurd HP.out (fun h => h3 wkF h)
        · obtain ⟨pv, cv, rfl, hcv, hrow⟩ := h2.row
          have hf := h4 wkF HP.out
          have HB2 : Hid (Below w.heap.size w w2 ∧ Below w0.heap.size w0 w2) := by
            have hB := h2.2.1
            exact ⟨HB1.out.1.trans (hB.mono HB1.out.1.size), HB1.out.2.trans (hB.mono HB1.out.2.size)⟩
          have HSA := hide (HSM.out pv cv f w2 hrow (HR.out.below HB2.out.2))
          have HFE := hide hf
          clear h2 h3 h4 hrow hf
          go_wp2_with fail
          refine (num8_any _ _).mono ?_
          rintro e wn ⟨rfl, hwn⟩
          have hwn := hwn.symm
          subst hwn
          go_wp2_with fail
          refine (num8_any _ _).mono ?_
          rintro e wn ⟨rfl, hwn⟩
          have hwn := hwn.symm
          subst hwn
          go_wp2_with fail
          refine HSA.out.mono ?_
          rintro e w3 ⟨v, rfl, hv, m, rfl⟩
          obtain rfl : v = true := hv.2 ⟨by trivial, HFE.out⟩
          have HB3 : Hid (Below w0.heap.size w0 (w2.drewN m)) := ⟨HB2.out.2.os, HB2.out.2.tape, HB2.out.2.output, HB2.out.2.size, HB2.out.2.block⟩
          clear hv
          generalize w2.drewN m = w4 at *
          go_wp2_with fail
          go_roundw
          case rel => exact ⟨k + 1, by simp, hlt, HB3.out⟩
          case measure => simp [intOf]; omega
      · exfalso
        obtain ⟨bs, hbs⟩ := wkSome (k + 1) (by omega) hlt
        exact h3 bs hbs
    · have hk : k = 6 := by have := hI.out.1; omega
      subst hk
      have HBB := hide (HBE.out wr HRw.out (HT.out.below HBw.out))
      go_wp2_with fail
      refine HBB.out.mono ?_
      rintro e w1 ⟨k, p, c, bs, rfl, h2, h3, h4, h5⟩
      have hw := wkIs k bs h4.lo (by have := h4.hi; omega) h4.is
      obtain ⟨b6, hb6⟩ := wkSome 6 (by omega) (by omega)
      have hw6 := (wkIs 6 b6 (by omega) (by omega) hb6).2.2 rfl
      have hk6 : k = 6 := by
        by_cases e : k = 6
        · exact e
        · have := hw.2.1 e
          rcases h4.least 6 b6 (by omega) (by omega) hb6 with h | h <;> omega
      have hl7 : bs.length = 7 := hw.2.2 hk6
      have HB1 : Hid (Below w.heap.size w w1) := HBw.out.trans (h5.mono HBw.out.size)
      subst hk6
      rw [hl7]
      clear h2 h3 h4 h5 hw hb6 hw6 hl7
      go_wp2_with fail
      refine (num8_any _ _).mono ?_
      rintro e wn ⟨rfl, hwn⟩
      have hwn := hwn.symm
      subst hwn
      go_wp2_with fail
      go_ret
      exact ⟨rfl, HB1.out⟩

end Go.Proofs.YtlemodcppokjhaaGreatDoor

namespace Go.Proofs.YtlemodcppokjhaaGreatDoor
open Go.RowKit
open M
set_option linter.unusedVariables false
set_option linter.unusedSimpArgs false

theorem clen32_any (x : Nat) (w : World) (hx : x < 18446744073709551616) : Calls Tryz.prog 112 #[.int .u64 x] w fun e w' => e = .returned (.int .i64 (bitLen x : Nat)) ∧ w' = w := by
  have HL := hide (len64_all x w hx)
  go_enter Tryz.func112, Tryz.ntmps112
  go_wp2_with fail
  refine HL.out.mono ?_
  rintro e w1 ⟨rfl, rfl⟩
  go_wp2_with fail
  go_ret
  exact ⟨rfl, rfl⟩

theorem cwidth32_any (w : World) : Calls Tryz.prog 116 #[] w fun e w' => e = .returned (.int .i64 32) ∧ w' = w := by
  have hx : bits BinOp.xor IntKind.u32 0 4294967295 = 4294967295 := by decide +kernel
  have HL := hide (clen32_any 4294967295 w (by omega))
  rw [show bitLen 4294967295 = 32 from by decide +kernel] at HL
  go_enter Tryz.func116, Tryz.ntmps116
  go_wp2_with fail
  refine HL.out.mono ?_
  rintro e w1 ⟨rfl, rfl⟩
  go_wp2_with fail
  go_ret
  exact ⟨rfl, rfl⟩

theorem layValue32_any (b off lo : Nat) (v : Nat) (w : World) (l : List Bool) (hW : Wr w lo b off l 0) (hb : b < lo) (hlo : lo ≤ w.heap.size) (hlen : l.length + 32 < 1000000000000) (hv : v < 4294967296) :
    Calls Tryz.prog 96 #[.pointer (some ⟨b, off, none⟩), .int .u32 v] w fun e w' => e = .returned (.tuple #[]) ∧ Wr w' lo b off (l ++ bitsOf v 32) 0 ∧ Only b off (off + 123) w w' := by
  have r0 : IntKind.u64.wrap (v : Int) = (v : Int) := by rw [IntKind.wrap_u64]; omega
  have HW := hide hW
  clear hW
  go_enter Tryz.func96, Tryz.ntmps96
  go_wp2_with fail
  refine (cwidth32_any _).mono ?_
  rintro e w1 ⟨rfl, rfl⟩
  go_wp2_with fail
  refine (wbits_any b off lo 32 v _ l HW.out hb hlo hlen (by omega) (by omega) (by omega)).mono ?_
  rintro e w1 ⟨rfl, W1, O1⟩
  go_wp2_with fail
  go_end0
  exact ⟨rfl, W1, O1⟩

/-- What takeValue tells. -/
def ValueEnd32 (w : World) (b off : Nat) (s : ByteArray) (a : Nat) (e0 : Int) (e : Ending) (w' : World) : Prop :=
  ∃ (x a' : Nat) (e1 : Int), e = .returned (.int .u32 (x : Int)) ∧ x < 4294967296 ∧ Tk w w' b off s a e0 a' e1 (bitsOf x 32)

theorem takeValue32_any (b off : Nat) (s : ByteArray) (a : Nat) (e0 : Int) (w : World) (h : Rd w b off s a e0) :
    Calls Tryz.prog 76 #[.pointer (some ⟨b, off, none⟩)] w (ValueEnd32 w b off s a e0) := by
  have H := hide h
  clear h
  go_enter Tryz.func76, Tryz.ntmps76
  go_wp2_with fail
  refine (cwidth32_any _).mono ?_
  rintro e w1 ⟨rfl, rfl⟩
  go_wp2_with fail
  refine (tk_bits b off s a 32 e0 _ H.out (by omega)).mono ?_
  rintro e w2 ⟨x, a', e1, rfl, hx, T⟩
  have HT := hide T
  clear T
  have hx' : x < 4294967296 := by simpa using hx
  have r0 : IntKind.u32.wrap (x : Int) = (x : Int) := by rw [IntKind.wrap_u32]; omega
  go_wp2_with fail
  go_ret
  exact ⟨x, a', e1, rfl, hx', HT.out⟩

end Go.Proofs.YtlemodcppokjhaaGreatDoor

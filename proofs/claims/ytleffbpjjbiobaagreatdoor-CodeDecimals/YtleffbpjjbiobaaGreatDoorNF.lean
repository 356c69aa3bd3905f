/- A quotient lies between the middles. -/
import Derived.Test.YtleffbpjjbiobaaGreatDoorP1F64
import Derived.Deep.Cut
import Derived.Test.YtleffbpjjbiobaaGreatDoorP1C64
import Derived.BigQuiet
import Derived.Test.YtleffbpjjbiobaaGreatDoorFP
/- The contract of Pack (64 bits). -/
namespace Go.Proofs.YtleffbpjjbiobaaGreatDoor
open Go.RowKit
open M
set_option linter.unusedVariables false
set_option linter.unusedSimpArgs false

/-- The slice at p of n values of 64 bits holds f. -/
def URow64 (w : World) (p : Option Addr) (n : Nat) (f : Nat → Nat) : Prop :=
  0 < n → ∃ b o, p = some ⟨b, o, none⟩ ∧ ∀ i, i < n → w.cell? ⟨b, o + i, none⟩ = some (.int .u64 (f i : Int))

theorem URow64.below {w w' : World} {p : Option Addr} {n : Nat} {f : Nat → Nat} (h : URow64 w p n f) (hB : Below w.heap.size w w') : URow64 w' p n f := fun h0 => by
  obtain ⟨b, o, hp, hc⟩ := h h0
  exact ⟨b, o, hp, fun i hi => by rw [hB.cell (p := ⟨b, o + i, none⟩) (block_lt_of_cell (hc i hi))]; exact hc i hi⟩
theorem URow64.drewN {w : World} {p : Option Addr} {n : Nat} {f : Nat → Nat} (h : URow64 w p n f) (m : Nat) : URow64 (w.drewN m) p n f := h
theorem URow64.take {w : World} {p : Option Addr} {n m : Nat} {f : Nat → Nat} (h : URow64 w p n f) (hm : m ≤ n) : URow64 w p m f := fun h0 => by
  obtain ⟨b, o, hp, hc⟩ := h (by omega)
  exact ⟨b, o, hp, fun i hi => hc i (by omega)⟩
theorem URow64.nil (w : World) (p : Option Addr) (f : Nat → Nat) : URow64 w p 0 f := fun h => by omega
theorem URow64.congr {w : World} {p : Option Addr} {n : Nat} {f g : Nat → Nat} (h : URow64 w p n f) (e : ∀ i, i < n → f i = g i) : URow64 w p n g := fun h0 => by
  obtain ⟨b, o, hp, hc⟩ := h h0
  exact ⟨b, o, hp, fun i hi => by rw [hc i hi, e i hi]⟩

theorem Wr.rebase64 {w : World} {lo lo' b off : Nat} {l : List Bool} {e : Int} (h : Wr w lo b off l e) (hl : l.length < 960) : Wr w lo' b off l e := by
  obtain ⟨p, h1, h2⟩ := h
  have e0 : l.length / 960 = 0 := by omega
  refine ⟨p, h1, ?_⟩
  rw [e0] at h2 ⊢
  exact h2

/-- What layAll leaves. -/
def AllEnd64 (b : Nat) (f : Nat → Nat) (n : Nat) (w : World) (e : Ending) (w' : World) : Prop :=
  e = .returned (.tuple #[]) ∧ ∃ lo, b < lo ∧ lo ≤ w'.heap.size ∧ Wr w' lo b 0 (cbn 64 6 f n) 0 ∧ Below b w w'

set_option maxRecDepth 100000 in
set_option maxHeartbeats 4000000 in
theorem layAll64_any (b : Nat) (p : Option Addr) (n cap : Nat) (f : Nat → Nat) (w : World) (h : URow64 w p n f) (hpb : ∀ a, p = some a → 0 < n → a.block < b) (hn : n ≤ 4096) (hcap : n ≤ cap) (hf : ∀ i, i < n → f i < 18446744073709551616)
    (hW : Wr w (b + 1) b 0 [] 0) (hb : b < w.heap.size) (hT : Tab64 w) (hTb : 1 < b) :
    Calls Tryz.prog 86 #[.pointer (some ⟨b, 0, none⟩), .slice p n cap] w (AllEnd64 b f n w) := by
  have HW := hide hW
  have HF := hide hf
  have HT := hide hT
  clear hW hf hT
  by_cases h0 : n = 0
  · subst h0
    go_enter Tryz.func86, Tryz.ntmps86
    go_wp2_with fail
    refine bodyPost_ret (results_none rfl _ _ _) rfl ?_
    exact ⟨rfl, b + 1, by omega, by omega, HW.out, Below.refl _ _⟩
  obtain ⟨rb0, ro, rfl, hc⟩ := h (by omega)
  have hrb : rb0 < b := hpb _ rfl (by omega)
  have c0 : w.cell? ⟨rb0, ro, none⟩ = some (.int .u64 (f 0 : Int)) := hc 0 (by omega)
  have HC := hide hc
  clear hc h hpb
  have hne : ((n : Int) == 0) = false := by rw [beq_eq_false_iff_ne]; omega
  have hn0 : 0 < n := by omega
  obtain ⟨v0, hv0⟩ : ∃ v0, f 0 = v0 := ⟨_, rfl⟩
  have hvM : v0 < 18446744073709551616 := by rw [← hv0]; exact HF.out 0 (by omega)
  rw [hv0] at c0
  have r0 : IntKind.u64.wrap (v0 : Int) = (v0 : Int) := by rw [IntKind.wrap_u64]; omega
  have HV := hide hvM
  have HV0 := hide hv0
  clear hvM hv0
  have HWd : Hid (Wr w.drew (b + 1) b 0 [] 0) := HW.out.below (w' := w.drew) ⟨rfl, rfl, rfl, Nat.le_refl _, fun _ _ => rfl⟩
  go_enter Tryz.func86, Tryz.ntmps86
  go_wp2_with fail
  go_region_held3 (fun w' => w'.cell? ⟨rb0, ro, none⟩ = some (.int .u64 (v0 : Int))) (first | exact c0' | exact c0)
    (first | (go_at_call 105; go_must (refine (width64_any _).mono ?_); rintro _ wy ⟨rfl, rfl⟩) | (go_at_call 90; go_must (refine (wbits_any b 0 (b + 1) 64 v0 _ _ HWd.out (by omega) (show b + 1 ≤ w.drew.heap.size from hb) (by simp) (by omega) (by have := HV.out; omega) (by have := HV.out; omega)).mono ?_); rintro _ w1 ⟨rfl, W1, O1⟩; (have c0' : w1.cell? ⟨rb0, ro, none⟩ = some (.int .u64 (v0 : Int)) := by rw [World.cell?_of_block (O1.block rb0 (Nat.lt_trans hrb hb) (by omega))]; exact c0)))
  have HM1 : Hid (Wr w1 (b + 1) b 0 (bitsOf v0 64) 0 ∧ Only b 0 123 w w1) := ⟨W1, ((Only.refl b 0 123 w).drew).trans O1⟩
  clear W1 O1 c0 HWd
  have HM2 : Hid (Wr (w1.alloc (.cells #[.int .u64 (v0 : Int), .int .i64 0, .int .i64 0] 152)) (w1.heap.size + 1) b 0 (cbn 64 6 f 1) 0 ∧ Col64 (w1.alloc (.cells #[.int .u64 (v0 : Int), .int .i64 0, .int .i64 0] 152)) w1.heap.size (f 0) (win 64 6 f 0).1 (win 64 6 f 0).2 ∧
      Below b w (w1.alloc (.cells #[.int .u64 (v0 : Int), .int .i64 0, .int .i64 0] 152)) ∧ w1.heap.size + 1 ≤ (w1.alloc (.cells #[.int .u64 (v0 : Int), .int .i64 0, .int .i64 0] 152)).heap.size ∧ b < w1.heap.size) := by
    have hs := HM1.out.2.size
    have hN := heap_alloc_new w1 (.cells #[.int .u64 (v0 : Int), .int .i64 0, .int .i64 0] 152)
    refine ⟨?_, ⟨?_, ?_, ?_, fun i => frozen_of_row _ _ _ _ _ hN⟩, (HM1.out.2.below (Nat.le_refl _) (Nat.le_of_lt hb)).alloc (by omega) _, by simp, by omega⟩
    · rw [cbn_one, HV0.out]
      exact ((HM1.out.1.below (w' := w1.alloc _) ((Below.refl _ w1).alloc (Nat.le_refl _) _))).rebase64 (by simp)
    · rw [cell_of_row _ _ _ _ _ _ hN, HV0.out]; rfl
    · rw [cell_of_row _ _ _ _ _ _ hN]; rfl
    · rw [cell_of_row _ _ _ _ _ _ hN]; rfl
  by_cases hc1 : cap = 1
  · obtain rfl : n = 1 := by omega
    subst hc1
    go_wp2_with fail
    generalize w1.alloc (.cells #[.int .u64 (v0 : Int), .int .i64 0, .int .i64 0] 152) = w2 at *
    go_loopw [23] (fun t23 wr => t23 = .int .i64 0 ∧ Hid (wr = w2)) (fun _ _ => 0)
    case atStart => exact ⟨rfl, rfl⟩
    case round =>
      obtain ⟨rfl, hI⟩ := hrel
      go_wp2_with fail
      go_end0
      rw [hI.out]
      exact ⟨rfl, w1.heap.size + 1, by have := HM2.out; omega, HM2.out.2.2.2.1, HM2.out.1, HM2.out.2.2.1⟩
  obtain ⟨n1, hn1⟩ : ∃ n1, n - 1 = n1 := ⟨_, rfl⟩
  go_wp2_with fail
  obtain ⟨c, hcw⟩ : ∃ c, w1.heap.size = c := ⟨_, rfl⟩
  rw [hcw] at HM2 ⊢
  generalize w1.alloc (.cells #[.int .u64 (v0 : Int), .int .i64 0, .int .i64 0] 152) = w2 at *
  clear hcw HV HV0
  go_loopw [23] (fun t23 wr => ∃ k : Nat, t23 = .int .i64 (k : Int) ∧ Hid (k < n ∧ Wr wr (c + 1) b 0 (cbn 64 6 f (k + 1)) 0 ∧ Col64 wr c (f k) (win 64 6 f k).1 (win 64 6 f k).2 ∧ Two64 b c w2 wr)) (fun t23 _ => n1 - (intOf t23).toNat)
  case atStart => exact ⟨0, rfl, hn0, HM2.out.1, HM2.out.2.1, Two64.ofBelow (Below.refl _ _)⟩
  case round =>
    obtain ⟨k, rfl, hI⟩ := hrel
    by_cases hlt : k < n1
    · obtain ⟨v, hv⟩ : ∃ v, f (k + 1) = v := ⟨_, rfl⟩
      have c1 : wr.cell? ⟨rb0, ro + 1 + k, none⟩ = some (.int .u64 (v : Int)) := by
        have e1 := HM2.out.2.2.1.cell (p := ⟨rb0, ro + 1 + k, none⟩) hrb
        have hs : rb0 < w2.heap.size := by have := HM2.out; omega
        have e2 := hI.out.2.2.2.block rb0 hs (by omega) (by have := HM2.out; omega)
        rw [World.cell?_of_block (w := w2) e2, e1, ← hv, show ro + 1 + k = ro + (k + 1) from by omega]
        exact HC.out (k + 1) (by omega)
      have HV := hide hv
      clear hv
      go_wp2_with fail
      refine (lay64_any b c (c + 1) v (f k) (win 64 6 f k).1 (win 64 6 f k).2 wr _ hI.out.2.1 (by have := HM2.out; omega) (by omega) (by have := HM2.out; omega) (Nat.le_trans HM2.out.2.2.2.1 hI.out.2.2.2.size) (by have := cbn_length 64 6 f (by omega) k (fun i hi => HF.out i (by omega)); omega) hI.out.2.2.1
        (win_win 64 6 f (by omega) k (fun j hj => HF.out j (by omega))) (by rw [← HV.out]; exact HF.out _ (by omega)) (HF.out _ (by omega)) ?_ (by omega) (by have := HM2.out; omega)).mono ?_
      · exact hI.out.2.2.2.tab (HT.out.below' HM2.out.2.2.1 hTb) (by omega) (by have := HM2.out; omega)
      rintro e w3 ⟨rfl, W3, C3, T3⟩
      go_wp2_with fail
      go_roundw
      case rel =>
        refine ⟨k + 1, by simp, by show k + 1 < n; omega, ?_, ?_, hI.out.2.2.2.trans T3⟩
        · rw [cbn_step]; unfold xbf; rw [HV.out]; exact W3
        · simp only [win]; rw [HV.out]; exact C3
      case measure => simp [intOf]; omega
    · go_wp2_with fail
      go_end0
      obtain rfl : n = k + 1 := by have := hI.out.1; omega
      exact ⟨rfl, c + 1, by have := HM2.out; omega, Nat.le_trans HM2.out.2.2.2.1 hI.out.2.2.2.size, hI.out.2.1, HM2.out.2.2.1.trans (hI.out.2.2.2.below (Nat.le_refl _) (by have := HM2.out; omega) (by have := HM2.out; omega))⟩

end Go.Proofs.YtleffbpjjbiobaaGreatDoor

namespace Go.Proofs.YtleffbpjjbiobaaGreatDoor
open Go.RowKit
open M
set_option linter.unusedVariables false
set_option linter.unusedSimpArgs false

/-- What Pack tells. -/
def PackEnd64 (f : Nat → Nat) (n : Nat) (w : World) (e : Ending) (w' : World) : Prop :=
  ∃ (g L : Nat), L = (packed (cbn 64 6 f n)).length ∧ w.heap.size ≤ g ∧ e = .returned (.tuple #[.slice (some ⟨g, 0, none⟩) L L, .int .i64 0]) ∧
    w'.heap[g]? = some (.cells (bytesV (packed (cbn 64 6 f n))).toArray 5 (0, 0)) ∧ Below w.heap.size w w'

set_option maxRecDepth 100000 in
set_option maxHeartbeats 1000000 in
theorem pack64_ok (p : Option Addr) (n cap : Nat) (f : Nat → Nat) (w : World) (h : URow64 w p n f) (hn : n ≤ 4096) (hcap : n ≤ cap) (hf : ∀ i, i < n → f i < 18446744073709551616) (hT : Tab64 w) :
    Calls Tryz.prog 52 #[.slice p n cap] w (PackEnd64 f n w) := by
  have H := hide h
  have HF := hide hf
  have HTs : 1 < w.heap.size := block_lt_of_cell (hT 0 (by omega))
  obtain ⟨g, hg⟩ : ∃ g, g = w.heap.size := ⟨_, rfl⟩
  obtain ⟨W1, hW1⟩ : ∃ W1, W1 = w.alloc (.cells zW 125) := ⟨_, rfl⟩
  have HM : Hid (Wr W1 (g + 1) g 0 [] 0 ∧ g < W1.heap.size ∧ Below w.heap.size w W1 ∧ Tab64 W1 ∧ URow64 W1 p n f) := by
    have B1 : Below w.heap.size w W1 := by rw [hW1]; exact (Below.refl _ w).alloc (Nat.le_refl _) _
    refine ⟨?_, by rw [hW1, hg]; simp, B1, hT.below B1, h.below B1⟩
    rw [hg, hW1]; exact wr_of (heap_alloc_new w _)
  have HP : Hid (∀ a, p = some a → 0 < n → a.block < g) := fun a ha h0 => by
    obtain ⟨b, o, hp, hc⟩ := H.out h0
    rw [hp] at ha
    simp only [Option.some.injEq] at ha
    rw [← ha, hg]
    exact block_lt_of_cell (hc 0 h0)
  have HG := hide hg
  clear h hf hT
  go_enter Tryz.func52, Tryz.ntmps52
  go_upto_region 3 with fail
  refine wp_region_list ?_
  refine wpList_build rfl 125 #[] rfl (by kernel_rfl) ?_
  simp only [Array.map_empty]
  rw [zW_built]
  refine Go.Great.wpList_boxTo rfl 125 (.tmp 8) rfl (some 9) rfl g hg.symm zW rfl ?_
  rw [← hW1]
  clear hW1 hg
  go_wp2_with fail
  refine (layAll64_any g p n cap f W1 HM.out.2.2.2.2 HP.out hn hcap HF.out HM.out.1 HM.out.2.1 HM.out.2.2.2.1 (by rw [HG.out]; exact HTs)).mono ?_
  rintro e w2 ⟨rfl, lo, hlo1, hlo2, W2, B2⟩
  have hl := cbn_length' 64 6 f n (by omega) HF.out
  have HL := hide hl
  clear hl
  go_wp2_with fail
  refine (wdone_packed g 0 lo w2 _ W2 hlo2 (by have := HL.out; omega) _ rfl).mono ?_
  rintro e w3 ⟨rfl, G3, B3⟩
  go_wp2_with fail
  go_ret2
  have e3 := HM.out.2.2.1
  have e4 := HG.out
  refine ⟨w2.heap.size, ((cbn 64 6 f n).length + 7) / 8, (packed_length _).symm, ?_, rfl, G3, ?_⟩
  · have := B2.size; have := e3.size; omega
  · rw [e4] at B2
    exact (e3.trans B2).trans (B3.mono (by have := B2.size; have := e3.size; omega))

theorem pack64_many (p : Option Addr) (n cap : Nat) (w : World) (hn : 4096 < n) :
    Calls Tryz.prog 52 #[.slice p n cap] w fun e w' => e = .returned (.tuple #[.slice none 0 0, .int .i64 70]) ∧ w' = w := by
  go_enter Tryz.func52, Tryz.ntmps52
  go_wp2_with fail
  go_ret2
  exact ⟨rfl, rfl⟩

end Go.Proofs.YtleffbpjjbiobaaGreatDoor

/- The contracts of code's wide, signed, expected (64 bits). -/
namespace Go.Proofs.YtleffbpjjbiobaaGreatDoor
open Go.RowKit
open M
set_option linter.unusedVariables false
set_option linter.unusedSimpArgs false

theorem cwide64_any (w : World) : Calls Tryz.prog 127 #[] w fun e w' => e = .returned (.bool true) ∧ w' = w := by
  go_enter Tryz.func127, Tryz.ntmps127
  go_wp2_with fail
  refine (cwidth64_any _).mono ?_
  rintro e w1 ⟨rfl, rfl⟩
  go_wp2_with fail
  go_ret
  exact ⟨rfl, rfl⟩

theorem signed64_any (x : Nat) (w : World) (hx : x < 18446744073709551616) : Calls Tryz.prog 92 #[.int .u64 x] w fun e w' => e = .returned (.int .i64 (sgW 9223372036854775808 18446744073709551616 x)) ∧ w' = w := by
  have r0 : IntKind.i64.wrap (x : Int) = sgW 9223372036854775808 18446744073709551616 x := by rw [IntKind.wrap_i64]; unfold sgW; split <;> omega
  go_enter Tryz.func92, Tryz.ntmps92
  go_wp2_with fail
  refine (cwide64_any _).mono ?_
  rintro e w1 ⟨rfl, rfl⟩
  go_wp2_with fail
  go_ret
  exact ⟨rfl, rfl⟩

theorem expected64_any (p : Option Addr) (n cap : Nat) (f : Nat → Nat) (w : World) (h : URow64 w p n f) (hn : n ≤ 4096) (hcap : n ≤ cap) (hf : ∀ i, i < n → f i < 18446744073709551616) :
    Calls Tryz.prog 71 #[.slice p n cap] w fun e w' => e = .returned (.int .u64 (exS 18446744073709551616 f n : Nat)) ∧ ∃ m, w' = w.drewN m := by
  match n with
  | 0 =>
    go_enter Tryz.func71, Tryz.ntmps71
    go_wp2_with fail
    go_ret
    exact ⟨rfl, 0, rfl⟩
  | 1 =>
    obtain ⟨b, o, rfl, hc⟩ := h (by omega)
    have c0 : w.cell? ⟨b, o, none⟩ = some (.int .u64 (f 0 : Int)) := hc 0 (by omega)
    have q0 : (((1 : Nat) : Int) == 0) = false := by decide
    have q1 : (((1 : Nat) : Int) == 1) = true := by decide
    go_enter Tryz.func71, Tryz.ntmps71
    go_wp2_with fail
    go_ret
    exact ⟨rfl, 0, rfl⟩
  | k + 2 =>
    obtain ⟨b, o, rfl, hc⟩ := h (by omega)
    obtain ⟨x, hx⟩ : ∃ x, f (k + 1) = x := ⟨_, rfl⟩
    obtain ⟨y, hy⟩ : ∃ y, f k = y := ⟨_, rfl⟩
    have c1 : w.cell? ⟨b, o + (k + 1), none⟩ = some (.int .u64 (x : Int)) := by rw [← hx]; exact hc (k + 1) (by omega)
    have c0 : w.cell? ⟨b, o + k, none⟩ = some (.int .u64 (y : Int)) := by rw [← hy]; exact hc k (by omega)
    have hxM : x < 18446744073709551616 := by rw [← hx]; exact hf _ (by omega)
    have hyM : y < 18446744073709551616 := by rw [← hy]; exact hf _ (by omega)
    have e1 : exS 18446744073709551616 f (k + 2) = (2 * x + 18446744073709551616 - y) % 18446744073709551616 := by rw [exS, hx, hy]
    have e2 : IntKind.u64.wrap (IntKind.u64.wrap (2 * (x : Int)) - (y : Int)) = (((2 * x + 18446744073709551616 - y) % 18446744073709551616 : Nat) : Int) := by
      rw [IntKind.wrap_u64, IntKind.wrap_u64]; omega
    have n0 : (((k : Int) + 2) == 0) = false := by rw [beq_eq_false_iff_ne]; omega
    have n1 : (((k : Int) + 2) == 1) = false := by rw [beq_eq_false_iff_ne]; omega
    rw [e1]
    have HX := hide (And.intro hx hy)
    clear e1 hx hy hc h hf
    go_enter Tryz.func71, Tryz.ntmps71
    go_wp2_with fail
    go_quiet (fail)
    go_wp2_with fail
    go_ret
    exact ⟨by first | (rw [Int.natCast_emod]; rfl) | rfl | (rw [← e2]; rfl), _, rfl⟩

end Go.Proofs.YtleffbpjjbiobaaGreatDoor

namespace Go.Proofs.YtleffbpjjbiobaaGreatDoor
namespace Flt
set_option linter.unusedVariables false
set_option linter.unusedSimpArgs false
open Ieee

theorem V_form (f : Format) (r : Nat) : ∃ c, V f r = c * 2 ^ (r / f.binade - 1) ∧ V f (r + 1) = (c + 1) * 2 ^ (r / f.binade - 1) ∧ c < 2 * f.binade := by
  have hb := binade_pos f
  have hs := V_step f r
  by_cases h : r < f.binade
  · refine ⟨r, ?_, ?_, by omega⟩
    · rw [Nat.div_eq_of_lt h]; unfold V; rw [if_pos h]; simp
    · rw [hs, Nat.div_eq_of_lt h]; unfold V; rw [if_pos h]; simp
  · have hm := Nat.mod_lt r hb
    have e : V f r = (f.binade + r % f.binade) * 2 ^ (r / f.binade - 1) := by unfold V; rw [if_neg h]
    exact ⟨f.binade + r % f.binade, e, by rw [hs, e, Nat.add_mul _ 1, Nat.one_mul], by omega⟩

/-- The digit that says that something is left. -/
theorem sticky_le (d n y : Nat) (h : 2 * y ≤ 2 * (d / n) + (d % n != 0).toNat) : y * n ≤ d := by
  have hy : y ≤ d / n := by
    have : (d % n != 0).toNat ≤ 1 := Bool.toNat_le _
    omega
  exact Nat.le_trans (Nat.mul_le_mul_right n hy) (Nat.div_mul_le_self d n)
theorem sticky_ge (d n y : Nat) (hn : 0 < n) (h : 2 * (d / n) + (d % n != 0).toNat ≤ 2 * y) : d ≤ y * n := by
  have hd := Nat.div_add_mod d n
  by_cases h0 : d % n = 0
  · have hy : d / n ≤ y := by omega
    have := Nat.mul_le_mul_right n hy
    rw [Nat.mul_comm (d / n)] at this
    omega
  · have e : (d % n != 0).toNat = 1 := by
      have : (d % n != 0) = true := by simp [h0]
      rw [this]; rfl
    rw [e] at h
    have hy : d / n + 1 ≤ y := by omega
    have h1 := Nat.mul_le_mul_right n hy
    have h2 := Nat.mod_lt d hn
    rw [Nat.add_mul, Nat.one_mul, Nat.mul_comm (d / n)] at h1
    omega

theorem pow_split {a b : Nat} (h : a = b) : 2 ^ a = 2 ^ b := by rw [h]

theorem quot_mid (m n k l T ep em more R : Nat) (hm0 : m ≠ 0) (hn0 : n ≠ 0) (hm : m < 2 ^ 53) (hmore : more = 54 + n.log2 - m.log2) (hT : T = 1075) (hrel : ep + more + l + 2 = k + T + em)
    (hR : R = rnd double ((2 * (m * 2 ^ more / n) + (m * 2 ^ more % n != 0).toNat) * 2 ^ ep) (2 ^ em)) :
    (R ≠ 0 → (V double R + V double (R - 1)) * (n * 2 ^ l) ≤ m * 2 ^ k * 2 ^ T) ∧ m * 2 ^ k * 2 ^ T ≤ (V double R + V double (R + 1)) * (n * 2 ^ l) := by
  have hnp : 0 < n := Nat.pos_of_ne_zero hn0
  have hml : m.log2 ≤ 52 := by have : m.log2 < 53 := (Nat.log2_lt hm0).2 hm; omega
  have hdv : 2 ^ (54 + n.log2) ≤ m * 2 ^ more := by
    have := Nat.mul_le_mul_right (2 ^ more) (Nat.log2_self_le hm0)
    rw [← Nat.pow_add, show m.log2 + more = 54 + n.log2 by omega] at this
    exact this
  generalize hd : m * 2 ^ more = d at *
  have ht : 2 ^ 53 ≤ d / n := by
    rw [Nat.le_div_iff_mul_le hnp]
    refine Nat.le_trans (Nat.le_of_lt (Nat.mul_lt_mul_of_pos_left (Nat.lt_log2_self (n := n)) (Nat.two_pow_pos 53))) ?_
    rw [← Nat.pow_add, show 53 + (n.log2 + 1) = 54 + n.log2 by omega]; exact hdv
  have hQ : 2 ^ 54 ≤ 2 * (d / n) + (d % n != 0).toNat := by omega
  have sle := fun y => sticky_le d n y
  have sge := fun y => sticky_ge d n y hnp
  generalize 2 * (d / n) + (d % n != 0).toNat = Q at *
  obtain ⟨r, s1, s2, s3⟩ := rnd_spec double (by decide) (Q * 2 ^ ep) (2 ^ em) (Nat.two_pow_pos _)
  rw [← hR] at s3
  obtain ⟨c, v1, v2, v3⟩ := V_form double r
  generalize r / double.binade - 1 = kk at *
  have hc1 : c + 1 ≤ 2 ^ 53 := by
    have : 2 * double.binade = 2 ^ 53 := by decide
    omega
  -- the digits that are left are enough
  have hkk : ep + 2 ≤ kk + em := by
    have h1 : 2 ^ (54 + ep) < 2 ^ (53 + kk + em) := by
      rw [Nat.pow_add 2 54, Nat.pow_add 2 (53 + kk), Nat.pow_add 2 53]
      rw [v2] at s2
      refine Nat.lt_of_le_of_lt (Nat.mul_le_mul_right (2 ^ ep) hQ) (Nat.lt_of_lt_of_le s2 ?_)
      exact Nat.mul_le_mul_right _ (Nat.mul_le_mul_right _ hc1)
    have := (Nat.pow_lt_pow_iff_right (by omega : 1 < 2)).1 h1
    omega
  obtain ⟨s, hs⟩ : ∃ s, kk + em = ep + 2 + s := ⟨kk + em - (ep + 2), by omega⟩
  have hsp : ∀ u : Nat, u * 2 ^ kk * 2 ^ em = u * 4 * 2 ^ s * 2 ^ ep := by
    intro u
    rw [Nat.mul_assoc u, ← Nat.pow_add, hs, Nat.pow_add, Nat.pow_add, show (2 : Nat) ^ 2 = 4 from rfl, Nat.mul_assoc u 4, Nat.mul_assoc u, Nat.mul_assoc (2 ^ ep), Nat.mul_comm (2 ^ ep)]
  have cancel : ∀ x y : Nat, x * 2 ^ ep ≤ y * 2 ^ ep → x ≤ y := fun x y h => Nat.le_of_mul_le_mul_right h (Nat.two_pow_pos _)
  have cancelt : ∀ x y : Nat, x * 2 ^ ep < y * 2 ^ ep → x < y := fun x y h => Nat.lt_of_mul_lt_mul_right h
  -- how the two sides stand to d
  have up : ∀ u, d ≤ u * 2 ^ s * n → m * 2 ^ k * 2 ^ T ≤ u * 2 ^ kk * (n * 2 ^ l) := by
    intro u hu
    have h1 := Nat.mul_le_mul_right (2 ^ (l + ep + 2)) hu
    refine Nat.le_of_mul_le_mul_right (c := 2 ^ em) ?_ (Nat.two_pow_pos _)
    have e1 : m * 2 ^ k * 2 ^ T * 2 ^ em = d * 2 ^ (l + ep + 2) := by
      rw [← hd, Nat.mul_assoc, Nat.mul_assoc, Nat.mul_assoc, ← Nat.pow_add, ← Nat.pow_add, ← Nat.pow_add]
      exact congrArg _ (pow_split (by omega))
    have e2 : u * 2 ^ kk * (n * 2 ^ l) * 2 ^ em = u * 2 ^ s * n * 2 ^ (l + ep + 2) := by
      have : 2 ^ kk * 2 ^ l * 2 ^ em = 2 ^ s * 2 ^ (l + ep + 2) := by rw [← Nat.pow_add, ← Nat.pow_add, ← Nat.pow_add]; exact pow_split (by omega)
      calc u * 2 ^ kk * (n * 2 ^ l) * 2 ^ em = u * n * (2 ^ kk * 2 ^ l * 2 ^ em) := by simp only [Nat.mul_assoc, Nat.mul_left_comm]
        _ = u * n * (2 ^ s * 2 ^ (l + ep + 2)) := by rw [this]
        _ = u * 2 ^ s * n * 2 ^ (l + ep + 2) := by simp only [Nat.mul_assoc, Nat.mul_left_comm]
    rw [e1, e2]; exact h1
  have dn : ∀ u, u * 2 ^ s * n ≤ d → u * 2 ^ kk * (n * 2 ^ l) ≤ m * 2 ^ k * 2 ^ T := by
    intro u hu
    have h1 := Nat.mul_le_mul_right (2 ^ (l + ep + 2)) hu
    refine Nat.le_of_mul_le_mul_right (c := 2 ^ em) ?_ (Nat.two_pow_pos _)
    have e1 : m * 2 ^ k * 2 ^ T * 2 ^ em = d * 2 ^ (l + ep + 2) := by
      rw [← hd, Nat.mul_assoc, Nat.mul_assoc, Nat.mul_assoc, ← Nat.pow_add, ← Nat.pow_add, ← Nat.pow_add]
      exact congrArg _ (pow_split (by omega))
    have e2 : u * 2 ^ kk * (n * 2 ^ l) * 2 ^ em = u * 2 ^ s * n * 2 ^ (l + ep + 2) := by
      have : 2 ^ kk * 2 ^ l * 2 ^ em = 2 ^ s * 2 ^ (l + ep + 2) := by rw [← Nat.pow_add, ← Nat.pow_add, ← Nat.pow_add]; exact pow_split (by omega)
      calc u * 2 ^ kk * (n * 2 ^ l) * 2 ^ em = u * n * (2 ^ kk * 2 ^ l * 2 ^ em) := by simp only [Nat.mul_assoc, Nat.mul_left_comm]
        _ = u * n * (2 ^ s * 2 ^ (l + ep + 2)) := by rw [this]
        _ = u * 2 ^ s * n * 2 ^ (l + ep + 2) := by simp only [Nat.mul_assoc, Nat.mul_left_comm]
    rw [e1, e2]; exact h1
  have hlo : c * 4 * 2 ^ s ≤ Q := cancel _ _ (by rw [← hsp, ← v1]; exact s1)
  have hhi : Q < (c + 1) * 4 * 2 ^ s := cancelt _ _ (by rw [← hsp, ← v2]; exact s2)
  have hmid : (V double r + V double (r + 1)) * 2 ^ em = (2 * c + 1) * 4 * 2 ^ s * 2 ^ ep := by
    rw [v1, v2, ← Nat.add_mul, ← hsp, show c + (c + 1) = 2 * c + 1 by omega]
  have hmv : V double r + V double (r + 1) = (2 * c + 1) * 2 ^ kk := by rw [v1, v2, ← Nat.add_mul, show c + (c + 1) = 2 * c + 1 by omega]
  rw [hmid] at s3
  by_cases hbit : (2 * c + 1) * 4 * 2 ^ s * 2 ^ ep < 2 * (Q * 2 ^ ep) ∨ ((2 * c + 1) * 4 * 2 ^ s * 2 ^ ep = 2 * (Q * 2 ^ ep) ∧ r % 2 = 1)
  · rw [if_pos hbit] at s3
    subst s3
    have hle : (2 * c + 1) * 4 * 2 ^ s * 2 ^ ep ≤ 2 * Q * 2 ^ ep := by
      rw [Nat.mul_assoc 2]
      rcases hbit with h | h
      · exact Nat.le_of_lt h
      · exact Nat.le_of_eq h.1
    have h2 := cancel _ _ hle
    have h3 : 2 * ((2 * c + 1) * 2 ^ s) ≤ Q := by
      have e : (2 * c + 1) * 4 * 2 ^ s = 2 * (2 * ((2 * c + 1) * 2 ^ s)) := by rw [Nat.mul_right_comm]; omega
      rw [e] at h2
      exact Nat.le_of_mul_le_mul_left h2 (by omega)
    refine ⟨fun _ => ?_, ?_⟩
    · rw [Nat.add_sub_cancel, Nat.add_comm (V double (r + 1)), hmv]
      exact dn _ (sle _ h3)
    · have h4 : Q ≤ 2 * ((2 * (c + 1)) * 2 ^ s) := by
        have e : (c + 1) * 4 * 2 ^ s = 2 * ((2 * (c + 1)) * 2 ^ s) := by rw [Nat.mul_right_comm, Nat.mul_assoc 2]; omega
        rw [e] at hhi
        exact Nat.le_of_lt hhi
      refine Nat.le_trans (up _ (sge _ h4)) (Nat.mul_le_mul_right _ ?_)
      have := V_lt (f := double) (Nat.lt_succ_self (r + 1))
      rw [Nat.mul_assoc 2, ← v2]
      show 2 * V double (r + 1) ≤ V double (r + 1) + V double (r + 1 + 1)
      generalize V double (r + 1) = p at *
      generalize V double (r + 1 + 1) = q at *
      omega
  · rw [if_neg hbit, Nat.add_zero] at s3
    subst s3
    have hge : 2 * Q * 2 ^ ep ≤ (2 * c + 1) * 4 * 2 ^ s * 2 ^ ep := by
      rw [Nat.mul_assoc 2]
      exact Nat.le_of_not_lt fun h => hbit (.inl h)
    have h2 := cancel _ _ hge
    refine ⟨fun h0 => ?_, ?_⟩
    · have h4 : 2 * ((2 * c) * 2 ^ s) ≤ Q := by
        have e : c * 4 * 2 ^ s = 2 * ((2 * c) * 2 ^ s) := by rw [Nat.mul_right_comm, Nat.mul_assoc 2]; omega
        rw [e] at hlo
        exact hlo
      refine Nat.le_trans (Nat.mul_le_mul_right _ ?_) (dn _ (sle _ h4))
      have hv := V_le (f := double) (show R - 1 ≤ R by omega)
      rw [Nat.mul_assoc 2, ← v1]
      generalize V double R = p at *
      generalize V double (R - 1) = q at *
      omega
    · rw [hmv]
      refine up _ (sge _ ?_)
      have e : (2 * c + 1) * 4 * 2 ^ s = 2 * (2 * ((2 * c + 1) * 2 ^ s)) := by rw [Nat.mul_right_comm]; omega
      rw [e] at h2
      exact Nat.le_of_mul_le_mul_left h2 (by omega)

/-- The quotient of two numbers above nought. -/
theorem div_mid (a b T : Nat) (ha : rg double a < double.infRung) (hb : rg double b < double.infRung) (ha0 : rg double a ≠ 0) (hb0 : rg double b ≠ 0) (hsa : sg double a = false) (hsb : sg double b = false) (hT : T = 1075) :
    ∃ R, R ≤ double.infRung ∧ double.div a b = some R ∧ (R ≠ 0 → (V double R + V double (R - 1)) * V double (rg double b) ≤ V double (rg double a) * 2 ^ T) ∧ (R ≠ double.infRung → V double (rg double a) * 2 ^ T ≤ (V double R + V double (R + 1)) * V double (rg double b)) := by
  obtain ⟨m, k, e1, e2, e3, _⟩ := read_fin double a ha
  obtain ⟨n, l, e4, e5, e6, _⟩ := read_fin double b hb
  rw [hsa] at e1
  rw [hsb] at e4
  have hva : V double (rg double a) ≠ 0 := by
    intro h; apply ha0; exact V_inj (f := double) (by rw [h, V_zero])
  have hvb : V double (rg double b) ≠ 0 := by
    intro h; apply hb0; exact V_inj (f := double) (by rw [h, V_zero])
  have hm0 : m ≠ 0 := by rintro rfl; rw [Nat.zero_mul] at e2; exact hva e2.symm
  have hn0 : n ≠ 0 := by rintro rfl; rw [Nat.zero_mul] at e5; exact hvb e5.symm
  have hbin : 2 * double.binade = 2 ^ 53 := by decide
  have hl1 : double.leastPlace = -1074 := by decide
  obtain ⟨more, hmore⟩ : ∃ more, more = 54 + n.log2 - m.log2 := ⟨_, rfl⟩
  obtain ⟨ep, hep⟩ : ∃ ep : Nat, ep = ((double.leastPlace + (k : Int)) - (double.leastPlace + (l : Int)) - (more : Int) - 1 - double.leastPlace).toNat := ⟨_, rfl⟩
  obtain ⟨em, hem⟩ : ∃ em : Nat, em = (double.leastPlace - ((double.leastPlace + (k : Int)) - (double.leastPlace + (l : Int)) - (more : Int) - 1)).toNat := ⟨_, rfl⟩
  have hrel : ep + more + l + 2 = k + T + em := by rw [hl1] at hep hem; omega
  obtain ⟨h1, h2⟩ := quot_mid m n k l T ep em more _ hm0 hn0 (by omega) hmore hT hrel rfl
  rw [e2, e5] at h1 h2
  have hdiv : double.div a b = some (min (rnd double ((2 * (m * 2 ^ more / n) + (m * 2 ^ more % n != 0).toNat) * 2 ^ ep) (2 ^ em)) double.infRung) := by
    unfold Format.div
    rw [e1, e4]
    simp only [Datum.quotient, if_neg hn0, Option.map_some, Format.write, Bool.xor_false]
    rw [nearest_rnd, Nat.shiftLeft_eq]
    have hw : ∀ x, double.word false x = x := fun _ => rfl
    have hmo : double.fractionBits + 2 + n.log2 - m.log2 = more := by rw [hmore]; rfl
    rw [hmo, ← hep, ← hem, hw]
  generalize rnd double ((2 * (m * 2 ^ more / n) + (m * 2 ^ more % n != 0).toNat) * 2 ^ ep) (2 ^ em) = R at *
  refine ⟨min R double.infRung, Nat.min_le_right .., hdiv, fun h0 => ?_, fun hne => ?_⟩
  · have hR0 : R ≠ 0 := by rintro rfl; apply h0; simp
    refine Nat.le_trans (Nat.mul_le_mul_right _ (Nat.add_le_add (V_le (Nat.min_le_left ..)) (V_le ?_))) (h1 hR0)
    have := Nat.min_le_left R double.infRung
    omega
  · have : min R double.infRung = R := by omega
    rw [this]; exact h2
end Flt
end Go.Proofs.YtleffbpjjbiobaaGreatDoor

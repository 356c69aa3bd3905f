/- The contract of Pack (32 bits). -/
import Derived.Test.YtenhippcjnemcaaDoorP1F32
import Derived.Deep.Cut
namespace Go.Proofs.YtenhippcjnemcaaDoor
open Go.RowKit
open M
set_option linter.unusedVariables false
set_option linter.unusedSimpArgs false

/-- The slice at p of n values of 32 bits holds f. -/
def URow32 (w : World) (p : Option Addr) (n : Nat) (f : Nat → Nat) : Prop :=
  0 < n → ∃ b o, p = some ⟨b, o, none⟩ ∧ ∀ i, i < n → w.cell? ⟨b, o + i, none⟩ = some (.int .u32 (f i : Int))

theorem URow32.below {w w' : World} {p : Option Addr} {n : Nat} {f : Nat → Nat} (h : URow32 w p n f) (hB : Below w.heap.size w w') : URow32 w' p n f := fun h0 => by
  obtain ⟨b, o, hp, hc⟩ := h h0
  exact ⟨b, o, hp, fun i hi => by rw [hB.cell (p := ⟨b, o + i, none⟩) (block_lt_of_cell (hc i hi))]; exact hc i hi⟩
theorem URow32.drewN {w : World} {p : Option Addr} {n : Nat} {f : Nat → Nat} (h : URow32 w p n f) (m : Nat) : URow32 (w.drewN m) p n f := h
theorem URow32.take {w : World} {p : Option Addr} {n m : Nat} {f : Nat → Nat} (h : URow32 w p n f) (hm : m ≤ n) : URow32 w p m f := fun h0 => by
  obtain ⟨b, o, hp, hc⟩ := h (by omega)
  exact ⟨b, o, hp, fun i hi => hc i (by omega)⟩
theorem URow32.nil (w : World) (p : Option Addr) (f : Nat → Nat) : URow32 w p 0 f := fun h => by omega
theorem URow32.congr {w : World} {p : Option Addr} {n : Nat} {f g : Nat → Nat} (h : URow32 w p n f) (e : ∀ i, i < n → f i = g i) : URow32 w p n g := fun h0 => by
  obtain ⟨b, o, hp, hc⟩ := h h0
  exact ⟨b, o, hp, fun i hi => by rw [hc i hi, e i hi]⟩

theorem Wr.rebase32 {w : World} {lo lo' b off : Nat} {l : List Bool} {e : Int} (h : Wr w lo b off l e) (hl : l.length < 960) : Wr w lo' b off l e := by
  obtain ⟨p, h1, h2⟩ := h
  have e0 : l.length / 960 = 0 := by omega
  refine ⟨p, h1, ?_⟩
  rw [e0] at h2 ⊢
  exact h2

/-- What layAll leaves. -/
def AllEnd32 (b : Nat) (f : Nat → Nat) (n : Nat) (w : World) (e : Ending) (w' : World) : Prop :=
  e = .returned (.tuple #[]) ∧ ∃ lo, b < lo ∧ lo ≤ w'.heap.size ∧ Wr w' lo b 0 (cbn 32 5 f n) 0 ∧ Below b w w'

set_option maxRecDepth 100000 in
set_option maxHeartbeats 4000000 in
theorem layAll32_any (b : Nat) (p : Option Addr) (n cap : Nat) (f : Nat → Nat) (w : World) (h : URow32 w p n f) (hpb : ∀ a, p = some a → 0 < n → a.block < b) (hn : n ≤ 4096) (hcap : n ≤ cap) (hf : ∀ i, i < n → f i < 4294967296)
    (hW : Wr w (b + 1) b 0 [] 0) (hb : b < w.heap.size) (hT : Tab64 w) (hTb : 0 < b) :
    Calls Tryd.prog 25 #[.pointer (some ⟨b, 0, none⟩), .slice p n cap] w (AllEnd32 b f n w) := by
  have HW := hide hW
  have HF := hide hf
  have HT := hide hT
  clear hW hf hT
  by_cases h0 : n = 0
  · subst h0
    go_enter Tryd.func25, Tryd.ntmps25
    go_wp2_with fail
    refine bodyPost_ret (results_none rfl _ _ _) rfl ?_
    exact ⟨rfl, b + 1, by omega, by omega, HW.out, Below.refl _ _⟩
  obtain ⟨rb0, ro, rfl, hc⟩ := h (by omega)
  have hrb : rb0 < b := hpb _ rfl (by omega)
  have c0 : w.cell? ⟨rb0, ro, none⟩ = some (.int .u32 (f 0 : Int)) := hc 0 (by omega)
  have HC := hide hc
  clear hc h hpb
  have hne : ((n : Int) == 0) = false := by rw [beq_eq_false_iff_ne]; omega
  have hn0 : 0 < n := by omega
  obtain ⟨v0, hv0⟩ : ∃ v0, f 0 = v0 := ⟨_, rfl⟩
  have hvM : v0 < 4294967296 := by rw [← hv0]; exact HF.out 0 (by omega)
  rw [hv0] at c0
  have r0 : IntKind.u64.wrap (v0 : Int) = (v0 : Int) := by rw [IntKind.wrap_u64]; omega
  have HV := hide hvM
  have HV0 := hide hv0
  clear hvM hv0
  have HWd : Hid (Wr w.drew (b + 1) b 0 [] 0) := HW.out.below (w' := w.drew) ⟨rfl, rfl, rfl, Nat.le_refl _, fun _ _ => rfl⟩
  go_enter Tryd.func25, Tryd.ntmps25
  go_wp2_with fail
  go_region_held3 (fun w' => w'.cell? ⟨rb0, ro, none⟩ = some (.int .u32 (v0 : Int))) (first | exact c0' | exact c0)
    (first | (go_at_call 31; go_must (refine (width32_any _).mono ?_); rintro _ wy ⟨rfl, rfl⟩) | (go_at_call 33; go_must (refine (wbits_any b 0 (b + 1) 32 v0 _ _ HWd.out (by omega) (show b + 1 ≤ w.drew.heap.size from hb) (by simp) (by omega) (by have := HV.out; omega) (by have := HV.out; omega)).mono ?_); rintro _ w1 ⟨rfl, W1, O1⟩; (have c0' : w1.cell? ⟨rb0, ro, none⟩ = some (.int .u32 (v0 : Int)) := by rw [World.cell?_of_block (O1.block rb0 (Nat.lt_trans hrb hb) (by omega))]; exact c0)))
  have HM1 : Hid (Wr w1 (b + 1) b 0 (bitsOf v0 32) 0 ∧ Only b 0 123 w w1) := ⟨W1, ((Only.refl b 0 123 w).drew).trans O1⟩
  clear W1 O1 c0 HWd
  have HM2 : Hid (Wr (w1.alloc (.cells #[.int .u32 (v0 : Int), .int .i64 0, .int .i64 0] 80)) (w1.heap.size + 1) b 0 (cbn 32 5 f 1) 0 ∧ Col32 (w1.alloc (.cells #[.int .u32 (v0 : Int), .int .i64 0, .int .i64 0] 80)) w1.heap.size (f 0) (win 32 5 f 0).1 (win 32 5 f 0).2 ∧
      Below b w (w1.alloc (.cells #[.int .u32 (v0 : Int), .int .i64 0, .int .i64 0] 80)) ∧ w1.heap.size + 1 ≤ (w1.alloc (.cells #[.int .u32 (v0 : Int), .int .i64 0, .int .i64 0] 80)).heap.size ∧ b < w1.heap.size) := by
    have hs := HM1.out.2.size
    have hN := heap_alloc_new w1 (.cells #[.int .u32 (v0 : Int), .int .i64 0, .int .i64 0] 80)
    refine ⟨?_, ⟨?_, ?_, ?_, fun i => frozen_of_row _ _ _ _ _ hN⟩, (HM1.out.2.below (Nat.le_refl _) (Nat.le_of_lt hb)).alloc (by omega) _, by simp, by omega⟩
    · rw [cbn_one, HV0.out]
      exact ((HM1.out.1.below (w' := w1.alloc _) ((Below.refl _ w1).alloc (Nat.le_refl _) _))).rebase32 (by simp)
    · rw [cell_of_row _ _ _ _ _ _ hN, HV0.out]; rfl
    · rw [cell_of_row _ _ _ _ _ _ hN]; rfl
    · rw [cell_of_row _ _ _ _ _ _ hN]; rfl
  by_cases hc1 : cap = 1
  · obtain rfl : n = 1 := by omega
    subst hc1
    go_wp2_with fail
    generalize w1.alloc (.cells #[.int .u32 (v0 : Int), .int .i64 0, .int .i64 0] 80) = w2 at *
    go_loopw [24] (fun t23 wr => t23 = .int .i64 0 ∧ Hid (wr = w2)) (fun _ _ => 0)
    case atStart => exact ⟨rfl, rfl⟩
    case round =>
      obtain ⟨rfl, hI⟩ := hrel
      go_wp2_with fail
      go_end0
      rw [hI.out]
      exact ⟨rfl, w1.heap.size + 1, by have := HM2.out; omega, HM2.out.2.2.2.1, HM2.out.1, HM2.out.2.2.1⟩
  obtain ⟨n1, hn1⟩ : ∃ n1, n - 1 = n1 := ⟨_, rfl⟩
  go_wp2_with fail
  obtain ⟨c, hcw⟩ : ∃ c, w1.heap.size = c := ⟨_, rfl⟩
  rw [hcw] at HM2 ⊢
  generalize w1.alloc (.cells #[.int .u32 (v0 : Int), .int .i64 0, .int .i64 0] 80) = w2 at *
  clear hcw HV HV0
  go_loopw [24] (fun t23 wr => ∃ k : Nat, t23 = .int .i64 (k : Int) ∧ Hid (k < n ∧ Wr wr (c + 1) b 0 (cbn 32 5 f (k + 1)) 0 ∧ Col32 wr c (f k) (win 32 5 f k).1 (win 32 5 f k).2 ∧ Two32 b c w2 wr)) (fun t23 _ => n1 - (intOf t23).toNat)
  case atStart => exact ⟨0, rfl, hn0, HM2.out.1, HM2.out.2.1, Two32.ofBelow (Below.refl _ _)⟩
  case round =>
    obtain ⟨k, rfl, hI⟩ := hrel
    by_cases hlt : k < n1
    · obtain ⟨v, hv⟩ : ∃ v, f (k + 1) = v := ⟨_, rfl⟩
      have c1 : wr.cell? ⟨rb0, ro + 1 + k, none⟩ = some (.int .u32 (v : Int)) := by
        have e1 := HM2.out.2.2.1.cell (p := ⟨rb0, ro + 1 + k, none⟩) hrb
        have hs : rb0 < w2.heap.size := by have := HM2.out; omega
        have e2 := hI.out.2.2.2.block rb0 hs (by omega) (by have := HM2.out; omega)
        rw [World.cell?_of_block (w := w2) e2, e1, ← hv, show ro + 1 + k = ro + (k + 1) from by omega]
        exact HC.out (k + 1) (by omega)
      have HV := hide hv
      clear hv
      go_wp2_with fail
      refine (lay32_any b c (c + 1) v (f k) (win 32 5 f k).1 (win 32 5 f k).2 wr _ hI.out.2.1 (by have := HM2.out; omega) (by omega) (by have := HM2.out; omega) (Nat.le_trans HM2.out.2.2.2.1 hI.out.2.2.2.size) (by have := cbn_length 32 5 f (by omega) k (fun i hi => HF.out i (by omega)); omega) hI.out.2.2.1
        (win_win 32 5 f (by omega) k (fun j hj => HF.out j (by omega))) (by rw [← HV.out]; exact HF.out _ (by omega)) (HF.out _ (by omega)) ?_ (by omega) (by have := HM2.out; omega)).mono ?_
      · exact hI.out.2.2.2.tab (HT.out.below' HM2.out.2.2.1 hTb) (by omega) (by have := HM2.out; omega)
      rintro e w3 ⟨rfl, W3, C3, T3⟩
      go_wp2_with fail
      go_roundw
      case rel =>
        refine ⟨k + 1, by simp, by show k + 1 < n; omega, ?_, ?_, hI.out.2.2.2.trans T3⟩
        · rw [cbn_step]; unfold xbf; rw [HV.out]; exact W3
        · simp only [win]; rw [HV.out]; exact C3
      case measure => simp [intOf]; omega
    · go_wp2_with fail
      go_end0
      obtain rfl : n = k + 1 := by have := hI.out.1; omega
      exact ⟨rfl, c + 1, by have := HM2.out; omega, Nat.le_trans HM2.out.2.2.2.1 hI.out.2.2.2.size, hI.out.2.1, HM2.out.2.2.1.trans (hI.out.2.2.2.below (Nat.le_refl _) (by have := HM2.out; omega) (by have := HM2.out; omega))⟩

end Go.Proofs.YtenhippcjnemcaaDoor

namespace Go.Proofs.YtenhippcjnemcaaDoor
open Go.RowKit
open M
set_option linter.unusedVariables false
set_option linter.unusedSimpArgs false

/-- What Pack tells. -/
def PackEnd32 (f : Nat → Nat) (n : Nat) (w : World) (e : Ending) (w' : World) : Prop :=
  ∃ (g L : Nat), L = (packed (cbn 32 5 f n)).length ∧ w.heap.size ≤ g ∧ e = .returned (.tuple #[.slice (some ⟨g, 0, none⟩) L L, .int .i64 0]) ∧
    w'.heap[g]? = some (.cells (bytesV (packed (cbn 32 5 f n))).toArray 5 (0, 0)) ∧ Below w.heap.size w w'

set_option maxRecDepth 100000 in
set_option maxHeartbeats 1000000 in
theorem pack32_ok (p : Option Addr) (n cap : Nat) (f : Nat → Nat) (w : World) (h : URow32 w p n f) (hn : n ≤ 4096) (hcap : n ≤ cap) (hf : ∀ i, i < n → f i < 4294967296) (hT : Tab64 w) :
    Calls Tryd.prog 15 #[.slice p n cap] w (PackEnd32 f n w) := by
  have H := hide h
  have HF := hide hf
  have HTs : 0 < w.heap.size := block_lt_of_cell (hT 0 (by omega))
  obtain ⟨g, hg⟩ : ∃ g, g = w.heap.size := ⟨_, rfl⟩
  obtain ⟨W1, hW1⟩ : ∃ W1, W1 = w.alloc (.cells zW 64) := ⟨_, rfl⟩
  have HM : Hid (Wr W1 (g + 1) g 0 [] 0 ∧ g < W1.heap.size ∧ Below w.heap.size w W1 ∧ Tab64 W1 ∧ URow32 W1 p n f) := by
    have B1 : Below w.heap.size w W1 := by rw [hW1]; exact (Below.refl _ w).alloc (Nat.le_refl _) _
    refine ⟨?_, by rw [hW1, hg]; simp, B1, hT.below B1, h.below B1⟩
    rw [hg, hW1]; exact wr_of (heap_alloc_new w _)
  have HP : Hid (∀ a, p = some a → 0 < n → a.block < g) := fun a ha h0 => by
    obtain ⟨b, o, hp, hc⟩ := H.out h0
    rw [hp] at ha
    simp only [Option.some.injEq] at ha
    rw [← ha, hg]
    exact block_lt_of_cell (hc 0 h0)
  have HG := hide hg
  clear h hf hT
  go_enter Tryd.func15, Tryd.ntmps15
  go_upto_region 3 with fail
  refine wp_region_list ?_
  refine wpList_build rfl 64 #[] rfl (by kernel_rfl) ?_
  simp only [Array.map_empty]
  rw [zW_built]
  refine Go.Great.wpList_boxTo rfl 64 (.tmp 8) rfl (some 9) rfl g hg.symm zW rfl ?_
  rw [← hW1]
  clear hW1 hg
  go_wp2_with fail
  refine (layAll32_any g p n cap f W1 HM.out.2.2.2.2 HP.out hn hcap HF.out HM.out.1 HM.out.2.1 HM.out.2.2.2.1 (by rw [HG.out]; exact HTs)).mono ?_
  rintro e w2 ⟨rfl, lo, hlo1, hlo2, W2, B2⟩
  have hl := cbn_length' 32 5 f n (by omega) HF.out
  have HL := hide hl
  clear hl
  go_wp2_with fail
  refine (wdone_packed g 0 lo w2 _ W2 hlo2 (by have := HL.out; omega) _ rfl).mono ?_
  rintro e w3 ⟨rfl, G3, B3⟩
  go_wp2_with fail
  go_ret2
  have e3 := HM.out.2.2.1
  have e4 := HG.out
  refine ⟨w2.heap.size, ((cbn 32 5 f n).length + 7) / 8, (packed_length _).symm, ?_, rfl, G3, ?_⟩
  · have := B2.size; have := e3.size; omega
  · rw [e4] at B2
    exact (e3.trans B2).trans (B3.mono (by have := B2.size; have := e3.size; omega))

theorem pack32_many (p : Option Addr) (n cap : Nat) (w : World) (hn : 4096 < n) :
    Calls Tryd.prog 15 #[.slice p n cap] w fun e w' => e = .returned (.tuple #[.slice none 0 0, .int .i64 70]) ∧ w' = w := by
  go_enter Tryd.func15, Tryd.ntmps15
  go_wp2_with fail
  go_ret2
  exact ⟨rfl, rfl⟩

end Go.Proofs.YtenhippcjnemcaaDoor

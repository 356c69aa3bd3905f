/- The contract of Unpack (32 bits). -/
import Derived.Test.YtnjcedlbdjidiaaGreatDoorP1K32
import Derived.Deep.Cut
import Derived.Test.YtnjcedlbdjidiaaGreatDoorB1T
/- The contract of Pack (32 bits). -/
namespace Go.Proofs.YtnjcedlbdjidiaaGreatDoor
open Go.RowKit
open M
set_option linter.unusedVariables false
set_option linter.unusedSimpArgs false

/-- The slice at p of n values of 32 bits holds f. -/
def URow32 (w : World) (p : Option Addr) (n : Nat) (f : Nat → Nat) : Prop :=
  0 < n → ∃ b o, p = some ⟨b, o, none⟩ ∧ ∀ i, i < n → w.cell? ⟨b, o + i, none⟩ = some (.int .u32 (f i : Int))

theorem URow32.below {w w' : World} {p : Option Addr} {n : Nat} {f : Nat → Nat} (h : URow32 w p n f) (hB : Below w.heap.size w w') : URow32 w' p n f := fun h0 => by
  obtain ⟨b, o, hp, hc⟩ := h h0
  exact ⟨b, o, hp, fun i hi => by rw [hB.cell (p := ⟨b, o + i, none⟩) (block_lt_of_cell (hc i hi))]; exact hc i hi⟩
theorem URow32.drewN {w : World} {p : Option Addr} {n : Nat} {f : Nat → Nat} (h : URow32 w p n f) (m : Nat) : URow32 (w.drewN m) p n f := h
theorem URow32.take {w : World} {p : Option Addr} {n m : Nat} {f : Nat → Nat} (h : URow32 w p n f) (hm : m ≤ n) : URow32 w p m f := fun h0 => by
  obtain ⟨b, o, hp, hc⟩ := h (by omega)
  exact ⟨b, o, hp, fun i hi => hc i (by omega)⟩
theorem URow32.nil (w : World) (p : Option Addr) (f : Nat → Nat) : URow32 w p 0 f := fun h => by omega
theorem URow32.congr {w : World} {p : Option Addr} {n : Nat} {f g : Nat → Nat} (h : URow32 w p n f) (e : ∀ i, i < n → f i = g i) : URow32 w p n g := fun h0 => by
  obtain ⟨b, o, hp, hc⟩ := h h0
  exact ⟨b, o, hp, fun i hi => by rw [hc i hi, e i hi]⟩

theorem Wr.rebase32 {w : World} {lo lo' b off : Nat} {l : List Bool} {e : Int} (h : Wr w lo b off l e) (hl : l.length < 960) : Wr w lo' b off l e := by
  obtain ⟨p, h1, h2⟩ := h
  have e0 : l.length / 960 = 0 := by omega
  refine ⟨p, h1, ?_⟩
  rw [e0] at h2 ⊢
  exact h2

/-- What layAll leaves. -/
def AllEnd32 (b : Nat) (f : Nat → Nat) (n : Nat) (w : World) (e : Ending) (w' : World) : Prop :=
  e = .returned (.tuple #[]) ∧ ∃ lo, b < lo ∧ lo ≤ w'.heap.size ∧ Wr w' lo b 0 (cbn 32 5 f n) 0 ∧ Below b w w'

set_option maxRecDepth 100000 in
set_option maxHeartbeats 4000000 in
theorem layAll32_any (b : Nat) (p : Option Addr) (n cap : Nat) (f : Nat → Nat) (w : World) (h : URow32 w p n f) (hpb : ∀ a, p = some a → 0 < n → a.block < b) (hn : n ≤ 4096) (hcap : n ≤ cap) (hf : ∀ i, i < n → f i < 4294967296)
    (hW : Wr w (b + 1) b 0 [] 0) (hb : b < w.heap.size) (hT : Tab64 w) (hTb : 0 < b) :
    Calls Tryz.prog 45 #[.pointer (some ⟨b, 0, none⟩), .slice p n cap] w (AllEnd32 b f n w) := by
  have HW := hide hW
  have HF := hide hf
  have HT := hide hT
  clear hW hf hT
  by_cases h0 : n = 0
  · subst h0
    go_enter Tryz.func45, Tryz.ntmps45
    go_wp2_with fail
    refine bodyPost_ret (results_none rfl _ _ _) rfl ?_
    exact ⟨rfl, b + 1, by omega, by omega, HW.out, Below.refl _ _⟩
  obtain ⟨rb0, ro, rfl, hc⟩ := h (by omega)
  have hrb : rb0 < b := hpb _ rfl (by omega)
  have c0 : w.cell? ⟨rb0, ro, none⟩ = some (.int .u32 (f 0 : Int)) := hc 0 (by omega)
  have HC := hide hc
  clear hc h hpb
  have hne : ((n : Int) == 0) = false := by rw [beq_eq_false_iff_ne]; omega
  have hn0 : 0 < n := by omega
  obtain ⟨v0, hv0⟩ : ∃ v0, f 0 = v0 := ⟨_, rfl⟩
  have hvM : v0 < 4294967296 := by rw [← hv0]; exact HF.out 0 (by omega)
  rw [hv0] at c0
  have r0 : IntKind.u64.wrap (v0 : Int) = (v0 : Int) := by rw [IntKind.wrap_u64]; omega
  have HV := hide hvM
  have HV0 := hide hv0
  clear hvM hv0
  have HWd : Hid (Wr w.drew (b + 1) b 0 [] 0) := HW.out.below (w' := w.drew) ⟨rfl, rfl, rfl, Nat.le_refl _, fun _ _ => rfl⟩
  go_enter Tryz.func45, Tryz.ntmps45
  go_wp2_with fail
  go_region_held3 (fun w' => w'.cell? ⟨rb0, ro, none⟩ = some (.int .u32 (v0 : Int))) (first | exact c0' | exact c0)
    (first | (go_at_call 92; go_must (refine (width32_any _).mono ?_); rintro _ wy ⟨rfl, rfl⟩) | (go_at_call 86; go_must (refine (wbits_any b 0 (b + 1) 32 v0 _ _ HWd.out (by omega) (show b + 1 ≤ w.drew.heap.size from hb) (by simp) (by omega) (by have := HV.out; omega) (by have := HV.out; omega)).mono ?_); rintro _ w1 ⟨rfl, W1, O1⟩; (have c0' : w1.cell? ⟨rb0, ro, none⟩ = some (.int .u32 (v0 : Int)) := by rw [World.cell?_of_block (O1.block rb0 (Nat.lt_trans hrb hb) (by omega))]; exact c0)))
  have HM1 : Hid (Wr w1 (b + 1) b 0 (bitsOf v0 32) 0 ∧ Only b 0 123 w w1) := ⟨W1, ((Only.refl b 0 123 w).drew).trans O1⟩
  clear W1 O1 c0 HWd
  have HM2 : Hid (Wr (w1.alloc (.cells #[.int .u32 (v0 : Int), .int .i64 0, .int .i64 0] 133)) (w1.heap.size + 1) b 0 (cbn 32 5 f 1) 0 ∧ Col32 (w1.alloc (.cells #[.int .u32 (v0 : Int), .int .i64 0, .int .i64 0] 133)) w1.heap.size (f 0) (win 32 5 f 0).1 (win 32 5 f 0).2 ∧
      Below b w (w1.alloc (.cells #[.int .u32 (v0 : Int), .int .i64 0, .int .i64 0] 133)) ∧ w1.heap.size + 1 ≤ (w1.alloc (.cells #[.int .u32 (v0 : Int), .int .i64 0, .int .i64 0] 133)).heap.size ∧ b < w1.heap.size) := by
    have hs := HM1.out.2.size
    have hN := heap_alloc_new w1 (.cells #[.int .u32 (v0 : Int), .int .i64 0, .int .i64 0] 133)
    refine ⟨?_, ⟨?_, ?_, ?_, fun i => frozen_of_row _ _ _ _ _ hN⟩, (HM1.out.2.below (Nat.le_refl _) (Nat.le_of_lt hb)).alloc (by omega) _, by simp, by omega⟩
    · rw [cbn_one, HV0.out]
      exact ((HM1.out.1.below (w' := w1.alloc _) ((Below.refl _ w1).alloc (Nat.le_refl _) _))).rebase32 (by simp)
    · rw [cell_of_row _ _ _ _ _ _ hN, HV0.out]; rfl
    · rw [cell_of_row _ _ _ _ _ _ hN]; rfl
    · rw [cell_of_row _ _ _ _ _ _ hN]; rfl
  by_cases hc1 : cap = 1
  · obtain rfl : n = 1 := by omega
    subst hc1
    go_wp2_with fail
    generalize w1.alloc (.cells #[.int .u32 (v0 : Int), .int .i64 0, .int .i64 0] 133) = w2 at *
    go_loopw [24] (fun t23 wr => t23 = .int .i64 0 ∧ Hid (wr = w2)) (fun _ _ => 0)
    case atStart => exact ⟨rfl, rfl⟩
    case round =>
      obtain ⟨rfl, hI⟩ := hrel
      go_wp2_with fail
      go_end0
      rw [hI.out]
      exact ⟨rfl, w1.heap.size + 1, by have := HM2.out; omega, HM2.out.2.2.2.1, HM2.out.1, HM2.out.2.2.1⟩
  obtain ⟨n1, hn1⟩ : ∃ n1, n - 1 = n1 := ⟨_, rfl⟩
  go_wp2_with fail
  obtain ⟨c, hcw⟩ : ∃ c, w1.heap.size = c := ⟨_, rfl⟩
  rw [hcw] at HM2 ⊢
  generalize w1.alloc (.cells #[.int .u32 (v0 : Int), .int .i64 0, .int .i64 0] 133) = w2 at *
  clear hcw HV HV0
  go_loopw [24] (fun t23 wr => ∃ k : Nat, t23 = .int .i64 (k : Int) ∧ Hid (k < n ∧ Wr wr (c + 1) b 0 (cbn 32 5 f (k + 1)) 0 ∧ Col32 wr c (f k) (win 32 5 f k).1 (win 32 5 f k).2 ∧ Two32 b c w2 wr)) (fun t23 _ => n1 - (intOf t23).toNat)
  case atStart => exact ⟨0, rfl, hn0, HM2.out.1, HM2.out.2.1, Two32.ofBelow (Below.refl _ _)⟩
  case round =>
    obtain ⟨k, rfl, hI⟩ := hrel
    by_cases hlt : k < n1
    · obtain ⟨v, hv⟩ : ∃ v, f (k + 1) = v := ⟨_, rfl⟩
      have c1 : wr.cell? ⟨rb0, ro + 1 + k, none⟩ = some (.int .u32 (v : Int)) := by
        have e1 := HM2.out.2.2.1.cell (p := ⟨rb0, ro + 1 + k, none⟩) hrb
        have hs : rb0 < w2.heap.size := by have := HM2.out; omega
        have e2 := hI.out.2.2.2.block rb0 hs (by omega) (by have := HM2.out; omega)
        rw [World.cell?_of_block (w := w2) e2, e1, ← hv, show ro + 1 + k = ro + (k + 1) from by omega]
        exact HC.out (k + 1) (by omega)
      have HV := hide hv
      clear hv
      go_wp2_with fail
      refine (lay32_any b c (c + 1) v (f k) (win 32 5 f k).1 (win 32 5 f k).2 wr _ hI.out.2.1 (by have := HM2.out; omega) (by omega) (by have := HM2.out; omega) (Nat.le_trans HM2.out.2.2.2.1 hI.out.2.2.2.size) (by have := cbn_length 32 5 f (by omega) k (fun i hi => HF.out i (by omega)); omega) hI.out.2.2.1
        (win_win 32 5 f (by omega) k (fun j hj => HF.out j (by omega))) (by rw [← HV.out]; exact HF.out _ (by omega)) (HF.out _ (by omega)) ?_ (by omega) (by have := HM2.out; omega)).mono ?_
      · exact hI.out.2.2.2.tab (HT.out.below' HM2.out.2.2.1 hTb) (by omega) (by have := HM2.out; omega)
      rintro e w3 ⟨rfl, W3, C3, T3⟩
      go_wp2_with fail
      go_roundw
      case rel =>
        refine ⟨k + 1, by simp, by show k + 1 < n; omega, ?_, ?_, hI.out.2.2.2.trans T3⟩
        · rw [cbn_step]; unfold xbf; rw [HV.out]; exact W3
        · simp only [win]; rw [HV.out]; exact C3
      case measure => simp [intOf]; omega
    · go_wp2_with fail
      go_end0
      obtain rfl : n = k + 1 := by have := hI.out.1; omega
      exact ⟨rfl, c + 1, by have := HM2.out; omega, Nat.le_trans HM2.out.2.2.2.1 hI.out.2.2.2.size, hI.out.2.1, HM2.out.2.2.1.trans (hI.out.2.2.2.below (Nat.le_refl _) (by have := HM2.out; omega) (by have := HM2.out; omega))⟩

end Go.Proofs.YtnjcedlbdjidiaaGreatDoor

namespace Go.Proofs.YtnjcedlbdjidiaaGreatDoor
open Go.RowKit
open M
set_option linter.unusedVariables false
set_option linter.unusedSimpArgs false

/-- What Pack tells. -/
def PackEnd32 (f : Nat → Nat) (n : Nat) (w : World) (e : Ending) (w' : World) : Prop :=
  ∃ (g L : Nat), L = (packed (cbn 32 5 f n)).length ∧ w.heap.size ≤ g ∧ e = .returned (.tuple #[.slice (some ⟨g, 0, none⟩) L L, .int .i64 0]) ∧
    w'.heap[g]? = some (.cells (bytesV (packed (cbn 32 5 f n))).toArray 5 (0, 0)) ∧ Below w.heap.size w w'

set_option maxRecDepth 100000 in
set_option maxHeartbeats 1000000 in
theorem pack32_ok (p : Option Addr) (n cap : Nat) (f : Nat → Nat) (w : World) (h : URow32 w p n f) (hn : n ≤ 4096) (hcap : n ≤ cap) (hf : ∀ i, i < n → f i < 4294967296) (hT : Tab64 w) :
    Calls Tryz.prog 25 #[.slice p n cap] w (PackEnd32 f n w) := by
  have H := hide h
  have HF := hide hf
  have HTs : 0 < w.heap.size := block_lt_of_cell (hT 0 (by omega))
  obtain ⟨g, hg⟩ : ∃ g, g = w.heap.size := ⟨_, rfl⟩
  obtain ⟨W1, hW1⟩ : ∃ W1, W1 = w.alloc (.cells zW 96) := ⟨_, rfl⟩
  have HM : Hid (Wr W1 (g + 1) g 0 [] 0 ∧ g < W1.heap.size ∧ Below w.heap.size w W1 ∧ Tab64 W1 ∧ URow32 W1 p n f) := by
    have B1 : Below w.heap.size w W1 := by rw [hW1]; exact (Below.refl _ w).alloc (Nat.le_refl _) _
    refine ⟨?_, by rw [hW1, hg]; simp, B1, hT.below B1, h.below B1⟩
    rw [hg, hW1]; exact wr_of (heap_alloc_new w _)
  have HP : Hid (∀ a, p = some a → 0 < n → a.block < g) := fun a ha h0 => by
    obtain ⟨b, o, hp, hc⟩ := H.out h0
    rw [hp] at ha
    simp only [Option.some.injEq] at ha
    rw [← ha, hg]
    exact block_lt_of_cell (hc 0 h0)
  have HG := hide hg
  clear h hf hT
  go_enter Tryz.func25, Tryz.ntmps25
  go_upto_region 3 with fail
  refine wp_region_list ?_
  refine wpList_build rfl 96 #[] rfl (by kernel_rfl) ?_
  simp only [Array.map_empty]
  rw [zW_built]
  refine Go.Great.wpList_boxTo rfl 96 (.tmp 8) rfl (some 9) rfl g hg.symm zW rfl ?_
  rw [← hW1]
  clear hW1 hg
  go_wp2_with fail
  refine (layAll32_any g p n cap f W1 HM.out.2.2.2.2 HP.out hn hcap HF.out HM.out.1 HM.out.2.1 HM.out.2.2.2.1 (by rw [HG.out]; exact HTs)).mono ?_
  rintro e w2 ⟨rfl, lo, hlo1, hlo2, W2, B2⟩
  have hl := cbn_length' 32 5 f n (by omega) HF.out
  have HL := hide hl
  clear hl
  go_wp2_with fail
  refine (wdone_packed g 0 lo w2 _ W2 hlo2 (by have := HL.out; omega) _ rfl).mono ?_
  rintro e w3 ⟨rfl, G3, B3⟩
  go_wp2_with fail
  go_ret2
  have e3 := HM.out.2.2.1
  have e4 := HG.out
  refine ⟨w2.heap.size, ((cbn 32 5 f n).length + 7) / 8, (packed_length _).symm, ?_, rfl, G3, ?_⟩
  · have := B2.size; have := e3.size; omega
  · rw [e4] at B2
    exact (e3.trans B2).trans (B3.mono (by have := B2.size; have := e3.size; omega))

theorem pack32_many (p : Option Addr) (n cap : Nat) (w : World) (hn : 4096 < n) :
    Calls Tryz.prog 25 #[.slice p n cap] w fun e w' => e = .returned (.tuple #[.slice none 0 0, .int .i64 70]) ∧ w' = w := by
  go_enter Tryz.func25, Tryz.ntmps25
  go_wp2_with fail
  go_ret2
  exact ⟨rfl, rfl⟩

end Go.Proofs.YtnjcedlbdjidiaaGreatDoor

/- Values that are taken one by one (32 bits). -/
namespace Go.Proofs.YtnjcedlbdjidiaaGreatDoor
open Go.RowKit
open M
set_option linter.unusedVariables false
set_option linter.unusedSimpArgs false

theorem make_vals32 (c : Nat) (h : c ≤ 4096) (w : World) :
    (Instr.makeSlice 57 (.int .i64 (c : Int)) (.int .i64 (c : Int))).run Tryz.prog w = .ok (.slice (some ⟨w.heap.size, 0, none⟩) c c) (w.alloc (.cells (Array.replicate c (Value.int .u32 0)) 80)) := by
  have hz : (Tryz.prog.info? 80).bind (·.zero) = some (.int .u32 0) := by kernel_rfl
  have hs : (Tryz.prog.info? 80).map (·.size) = some 1 := by kernel_rfl
  have hb : (Tryz.prog.info? 80).map (·.bytes) = some (32 / 8) := by kernel_rfl
  cases hi : Tryz.prog.info? 80 with
  | none => simp [hi] at hs
  | some i =>
    simp only [hi, Option.bind_some, Option.map_some, Option.some.injEq] at hz hs hb
    rw [run_make w 57 80 i _ Tryz.underlying57 hi hz .i64 .i64 (c : Int) (c : Int) (by omega) (by omega) (by rw [hb]; omega) (by omega)]
    have e : madeCells (Value.int .u32 0).cells ((c : Int).toNat * i.size) = Array.replicate c (Value.int .u32 0) := by
      rw [hs]
      apply Array.ext
      · simp [madeCells]
      · intro j h1 h2
        simp [madeCells, Value.cells, Nat.mod_one]
    rw [e]; simp

/-- A row of n values of one's own, of which the first k are laid. -/
structure UW32 (w : World) (g n k : Nat) (f : Nat → Nat) : Prop where
  cell : ∀ i, i < n → w.cell? ⟨g, i, none⟩ = some (.int .u32 ((if i < k then f i else 0 : Nat) : Int))
  fz : ∀ i, w.frozen? ⟨g, i, none⟩ = false
  blk : ∃ cur : Array Value, w.heap[g]? = some (.cells cur 80 (0, 0)) ∧ cur.size = n

theorem UW32.new (w : World) (n : Nat) (f : Nat → Nat) : UW32 (w.alloc (.cells (Array.replicate n (Value.int .u32 0)) 80)) w.heap.size n 0 f := by
  have hn := heap_alloc_new w (.cells (Array.replicate n (Value.int .u32 0)) 80)
  refine ⟨fun i hi => ?_, fun i => frozen_of_row _ _ _ _ _ hn, _, hn, by simp⟩
  rw [cell_of_row _ _ _ _ _ _ hn]
  simp [hi]

theorem UW32.set {w : World} {g n k : Nat} {f : Nat → Nat} (h : UW32 w g n k f) (hk : k < n) (t : Nat) : UW32 (w.setCell ⟨g, k, none⟩ (.int .u32 (t : Int))) g n (k + 1) (fun i => if i = k then t else f i) := by
  refine ⟨fun i hi => ?_, fun i => by rw [frozen_setCell]; exact h.fz i, ?_⟩
  case refine_2 =>
    obtain ⟨cur, h1, h2⟩ := h.blk
    exact ⟨_, heap_setCell_same w g k cur _ _ h1, by simpa using h2⟩
  by_cases e : i = k
  · subst e
    rw [cell_setCell_eq _ _ _ _ _ (h.cell i hi)]; simp
  · rw [cell_setCell_ne _ _ _ _ _ e, h.cell i hi]
    by_cases h1 : i < k
    · simp [h1, e, show i < k + 1 from by omega]
    · simp [h1, show ¬ i < k + 1 from by omega]

theorem UW32.ofBlock {w w' : World} {g n k : Nat} {f : Nat → Nat} (h : UW32 w g n k f) (e : w'.heap[g]? = w.heap[g]?) : UW32 w' g n k f :=
  ⟨fun i hi => by rw [World.cell?_of_block (w := w) e]; exact h.cell i hi, fun i => by rw [World.frozen?_of_block (w := w) (w' := w') (a := ⟨g, i, none⟩) e]; exact h.fz i, by rw [e]; exact h.blk⟩

theorem UW32.congr {w : World} {g n k : Nat} {f f' : Nat → Nat} (h : UW32 w g n k f) (e : ∀ i, i < k → f i = f' i) : UW32 w g n k f' :=
  ⟨fun i hi => by rw [h.cell i hi]; by_cases h1 : i < k
                  · rw [if_pos h1, if_pos h1, e i h1]
                  · rw [if_neg h1, if_neg h1], h.fz, h.blk⟩

theorem UW32.urow {w : World} {g n : Nat} {f : Nat → Nat} (h : UW32 w g n n f) : URow32 w (some ⟨g, 0, none⟩) n f := fun _ =>
  ⟨g, 0, rfl, fun i hi => by rw [Nat.zero_add, h.cell i hi, if_pos hi]⟩

theorem Two32.setNew {b c : Nat} {u w : World} (h : Two32 b c u w) (g i : Nat) (hg : u.heap.size ≤ g) (v : Value) : Two32 b c u (w.setCell ⟨g, i, none⟩ v) :=
  ⟨h.os, h.tape, h.output, Nat.le_trans h.size (by simp [World.setCell]), fun k hk h1 h2 => by rw [Below.heap_setCell _ _ _ _ (show k ≠ g by omega)]; exact h.block k hk h1 h2⟩

/-- The bits begin with those of n values g. -/
def Begins32 (R : List Bool) (g : Nat → Nat) (n : Nat) : Prop := (∀ i, i < n → g i < 4294967296) ∧ ∃ r, R = cbn 32 5 g n ++ r

/-- What stands where k + 1 values have been taken. -/
structure Cn32 (w wr : World) (b c : Nat) (s : ByteArray) (g n k a : Nat) (e1 : Int) (f : Nat → Nat) : Prop where
  row : UW32 wr g n (k + 1) f
  rd : Rd wr b 0 s a e1
  col : Col32 wr c (f k) (win 32 5 f k).1 (win 32 5 f k).2
  two : Two32 b c w wr
  size : g < wr.heap.size
  rng : ∀ i, i < k + 1 → f i < 4294967296
  sound : e1 = 0 → (rb s).take a = cbn 32 5 f (k + 1)
  full : ∀ h, Begins32 (rb s) h n → e1 = 0 ∧ ∀ i, i < k + 1 → f i = h i

theorem xor_back32 (p x : Nat) : (p ^^^ x) ^^^ p = x := by rw [Nat.xor_comm p x, Nat.xor_assoc, Nat.xor_self, Nat.xor_zero]

/-- One value more. -/
theorem Cn32.next {w wr w2 : World} {b c : Nat} {s : ByteArray} {g n k a a' : Nat} {e1 e2 : Int} {f : Nat → Nat} (hk : k + 1 < n) (hg : w.heap.size ≤ g) (hgb : g ≠ b) (hgc : g ≠ c) (T : Cn32 w wr b c s g n k a e1 f) (x : Nat) (hx : x < 4294967296)
    (hR : Rd w2 b 0 s a' e2) (hO : Two32 b c wr w2) (hC : Col32 w2 c (f k ^^^ x) (nxt 32 5 ((win 32 5 f k).1, (win 32 5 f k).2) x).1 (nxt 32 5 ((win 32 5 f k).1, (win 32 5 f k).2) x).2)
    (hs : e2 = 0 → e1 = 0 ∧ (rb s).take a' = (rb s).take a ++ xb 32 5 (win 32 5 f k).1 (win 32 5 f k).2 x)
    (hf : e1 = 0 → ∀ y r, y < 4294967296 → (rb s).drop a = xb 32 5 (win 32 5 f k).1 (win 32 5 f k).2 y ++ r → x = y ∧ e2 = 0) :
    Cn32 w (w2.setCell ⟨g, k + 1, none⟩ (.int .u32 ((f k ^^^ x : Nat) : Int))) b c s g n (k + 1) a' e2 (fun i => if i = k + 1 then f k ^^^ x else f i) := by
  have hs2 := hO.size
  have hsz := T.size
  have ht : f k ^^^ x < 4294967296 := xor_lt 32 _ _ (T.rng k (by omega)) hx
  obtain ⟨F, hF⟩ : ∃ F : Nat → Nat, F = fun i => if i = k + 1 then f k ^^^ x else f i := ⟨_, rfl⟩
  have F1 : F (k + 1) = f k ^^^ x := by rw [hF]; simp
  have F2 : ∀ i, i ≤ k → F i = f i := fun i hi => by rw [hF]; simp; omega
  have ew : win 32 5 F k = win 32 5 f k := win_congr _ _ _ _ k (fun j hj => F2 j hj)
  have exx : F (k + 1) ^^^ F k = x := by rw [F1, F2 k (Nat.le_refl _)]; exact xor_back32 _ _
  have ez : xbf 32 5 F k = xb 32 5 (win 32 5 f k).1 (win 32 5 f k).2 x := by unfold xbf; rw [ew, exx]
  have en : win 32 5 F (k + 1) = nxt 32 5 ((win 32 5 f k).1, (win 32 5 f k).2) x := by simp only [win]; rw [ew, exx]
  have eb : cbn 32 5 F (k + 1) = cbn 32 5 f (k + 1) := cbn_congr _ _ _ _ _ fun i hi => F2 i (by omega)
  have hbk : (w2.setCell ⟨g, k + 1, none⟩ (.int .u32 ((f k ^^^ x : Nat) : Int))).heap[c]? = w2.heap[c]? := Below.heap_setCell _ _ _ _ (fun e => hgc e.symm)
  rw [← hF]
  refine ⟨?_, hR.setOther' g _ hgb _, ?_, (T.two.trans hO).setNew g _ hg _, by simp [World.setCell]; omega, fun i hi => ?_, fun he => ?_, ?_⟩
  · rw [hF]; exact (T.row.ofBlock (hO.block g T.size hgb hgc)).set hk (f k ^^^ x)
  · rw [F1, en]
    exact ⟨by rw [World.cell?_of_block (w := w2) hbk]; exact hC.ahead, by rw [World.cell?_of_block (w := w2) hbk]; exact hC.lead, by rw [World.cell?_of_block (w := w2) hbk]; exact hC.len, fun i => by rw [frozen_setCell]; exact hC.fz i⟩
  · by_cases e : i = k + 1
    · subst e; rw [F1]; exact ht
    · rw [F2 i (by omega)]; exact T.rng i (by omega)
  · obtain ⟨h1, h2⟩ := hs he
    rw [h2, T.sound h1, cbn_step, ez, eb]
  · intro h hB
    obtain ⟨h1, h2⟩ := T.full h hB
    obtain ⟨hr, r, hRR⟩ := hB
    obtain ⟨r1, h3⟩ := cbn_prefix 32 5 h (k + 2) n (by omega)
    rw [h3, cbn_step, List.append_assoc, List.append_assoc] at hRR
    have h4 : (rb s).take a = cbn 32 5 h (k + 1) := by rw [T.sound h1]; exact cbn_congr _ _ _ _ _ h2
    have h5 : (rb s).drop a = xbf 32 5 h k ++ (r1 ++ r) := by
      have := List.take_append_drop a (rb s)
      rw [h4] at this
      rw [hRR] at this ⊢
      exact List.append_cancel_left this
    have e5 : xbf 32 5 h k = xb 32 5 (win 32 5 f k).1 (win 32 5 f k).2 (h (k + 1) ^^^ h k) := by
      unfold xbf; rw [win_congr 32 5 f h k (fun j hj => h2 j (by omega))]
    rw [e5] at h5
    obtain ⟨h6, h7⟩ := hf h1 _ _ (xor_lt 32 _ _ (hr _ (by omega)) (hr _ (by omega))) h5
    refine ⟨h7, fun i hi => ?_⟩
    by_cases e : i = k + 1
    · subst e
      rw [F1, h6, h2 k (by omega), Nat.xor_comm (h (k + 1)), ← Nat.xor_assoc, Nat.xor_self, Nat.zero_xor]
    · rw [F2 i (by omega)]; exact h2 i (by omega)

/-- Bits that no value lays. -/
theorem Cn32.none {w wr : World} {b c : Nat} {s : ByteArray} {g n k a : Nat} {e1 : Int} {f : Nat → Nat} (hk : k + 1 < n) (T : Cn32 w wr b c s g n k a e1 f)
    (hf : e1 = 0 → ∀ y r, y < 4294967296 → (rb s).drop a = xb 32 5 (win 32 5 f k).1 (win 32 5 f k).2 y ++ r → False) : ¬ ∃ h, Begins32 (rb s) h n := by
  rintro ⟨h, hB⟩
  obtain ⟨h1, h2⟩ := T.full h hB
  obtain ⟨hr, r, hRR⟩ := hB
  obtain ⟨r1, h3⟩ := cbn_prefix 32 5 h (k + 2) n (by omega)
  rw [h3, cbn_step, List.append_assoc, List.append_assoc] at hRR
  have h4 : (rb s).take a = cbn 32 5 h (k + 1) := by rw [T.sound h1]; exact cbn_congr _ _ _ _ _ h2
  have h5 : (rb s).drop a = xbf 32 5 h k ++ (r1 ++ r) := by
    have := List.take_append_drop a (rb s)
    rw [h4] at this
    rw [hRR] at this ⊢
    exact List.append_cancel_left this
  have e5 : xbf 32 5 h k = xb 32 5 (win 32 5 f k).1 (win 32 5 f k).2 (h (k + 1) ^^^ h k) := by
    unfold xbf; rw [win_congr 32 5 f h k (fun j hj => h2 j (by omega))]
  rw [e5] at h5
  exact hf h1 _ _ (xor_lt 32 _ _ (hr _ (by omega)) (hr _ (by omega))) h5

/-- What takeAll tells. -/
def TakeAllEnd32 (w : World) (b : Nat) (s : ByteArray) (n : Nat) (e : Ending) (w' : World) : Prop :=
  (e = .returned (.tuple #[.slice none 0 0, .bool false]) ∧ Below b w w' ∧ ¬ ∃ h, Begins32 (rb s) h n) ∨
    ∃ (a : Nat) (e1 : Int) (f : Nat → Nat), e = .returned (.tuple #[.slice (some ⟨w.heap.size, 0, none⟩) n n, .bool true]) ∧ UW32 w' w.heap.size n n f ∧ Rd w' b 0 s a e1 ∧ Below b w w' ∧ (∀ i, i < n → f i < 4294967296) ∧
      (e1 = 0 → (rb s).take a = cbn 32 5 f n) ∧ (∀ h, Begins32 (rb s) h n → e1 = 0 ∧ ∀ i, i < n → f i = h i)

end Go.Proofs.YtnjcedlbdjidiaaGreatDoor

namespace Go.Proofs.YtnjcedlbdjidiaaGreatDoor
open Go.RowKit
open M
set_option linter.unusedVariables false
set_option linter.unusedSimpArgs false

set_option maxRecDepth 100000 in
set_option maxHeartbeats 2000000 in
theorem takeAll32_any (b : Nat) (s : ByteArray) (n : Nat) (w : World) (h : Rd w b 0 s 0 0) (hn : n ≤ 4096) (hT : Tab64 w) (hTb : 0 ≠ b) :
    Calls Tryz.prog 49 #[.pointer (some ⟨b, 0, none⟩), .int .i64 n] w (TakeAllEnd32 w b s n) := by
  have hbs : b < w.heap.size := block_lt_of_cell h.text
  have hTs : 0 < w.heap.size := block_lt_of_cell (hT 0 (by omega))
  have H := hide h
  have HT := hide hT
  clear h hT
  have hmk := make_vals32 n hn
  have hA : Hid (Below w.heap.size w (w.alloc (.cells (Array.replicate n (Value.int .u32 0)) 80))) := (Below.refl _ w).alloc (Nat.le_refl _) _
  by_cases h0 : n = 0
  · have hne : ((n : Int) == 0) = true := by rw [beq_iff_eq]; omega
    have H0 := hide h0
    clear h0
    go_enter Tryz.func49, Tryz.ntmps49
    go_wp2_with fail
    go_ret2
    refine .inr ⟨0, 0, fun _ => 0, rfl, ?_, H.out.below hA.out hbs, hA.out.mono (Nat.le_of_lt hbs), fun i hi => by have := H0.out; omega, fun _ => by rw [H0.out]; simp [cbn], fun h hB => ⟨rfl, fun i hi => by have := H0.out; omega⟩⟩
    rw [H0.out]; exact UW32.new w 0 _
  have hne : ((n : Int) == 0) = false := by rw [beq_eq_false_iff_ne]; omega
  have hn0 : 0 < n := by omega
  have HN : Hid (UW32 (w.alloc (.cells (Array.replicate n (Value.int .u32 0)) 80)) w.heap.size n 0 (fun _ => 0)) := UW32.new w n _
  have HR : Hid (Rd (w.alloc (.cells (Array.replicate n (Value.int .u32 0)) 80)) b 0 s 0 0) := H.out.below hA.out hbs
  have hs1 : Hid (w.heap.size < (w.alloc (.cells (Array.replicate n (Value.int .u32 0)) 80)).heap.size) := by show _ < _; simp
  have hgb : w.heap.size ≠ b := by omega
  go_enter Tryz.func49, Tryz.ntmps49
  go_upto_region 4 with fail
  generalize w.alloc (.cells (Array.replicate n (Value.int .u32 0)) 80) = W0 at *
  clear hmk
  go_wp2_with fail
  refine (width32_any _).mono ?_
  rintro e wy ⟨rfl, hwy⟩
  have hwy := hwy.symm
  subst hwy
  go_wp2_with fail
  refine (tk_bits b 0 s 0 32 0 W0 HR.out (by omega)).mono ?_
  rintro e w1 ⟨x, a, e1, rfl, hx, T⟩
  have hxM : x < 4294967296 := hx
  have x1 : IntKind.u32.wrap (x : Int) = (x : Int) := wrap_nat32 hxM
  have HX := hide hxM
  clear hx hxM
  have e1b := T.only.block w.heap.size hs1.out hgb
  have R1 : UW32 w1 w.heap.size n 0 (fun _ => 0) := HN.out.ofBlock e1b
  have c1 : w1.cell? ⟨w.heap.size, 0, none⟩ = some (.int .u32 0) := R1.cell 0 (by omega)
  have c2 := R1.fz 0
  obtain ⟨g, hg⟩ : ∃ g, w.heap.size = g := ⟨_, rfl⟩
  have HT1 : Hid (UW32 (w1.setCell ⟨w.heap.size, 0, none⟩ (.int .u32 (x : Int))) w.heap.size n 1 (fun _ => x) ∧ Rd (w1.setCell ⟨w.heap.size, 0, none⟩ (.int .u32 (x : Int))) b 0 s a e1 ∧ Only b 0 3 w (w1.setCell ⟨w.heap.size, 0, none⟩ (.int .u32 (x : Int))) ∧ w.heap.size < (w1.setCell ⟨w.heap.size, 0, none⟩ (.int .u32 (x : Int))).heap.size) := by
    have O1 : Only b 0 3 w w1 := Only.trans ⟨hA.out.os, hA.out.tape, hA.out.output, hA.out.size, fun k hk _ => hA.out.block k hk, fun j _ => World.cell?_of_block (hA.out.block b hbs), fun j => World.frozen?_of_block (w := w) (w' := W0) (a := ⟨b, j, none⟩) (hA.out.block b hbs)⟩ T.only
    refine ⟨(R1.set (by omega) x).congr fun i hi => by rw [if_pos (by omega)], T.rd.setOther' _ 0 hgb _, O1.setOther' _ 0 (Nat.le_refl _) hgb _, ?_⟩
    have := T.only.size
    have := hs1.out
    simp [World.setCell]; omega
  have HTS := hide (And.intro T.sound T.full)
  have c3 := cell_setCell_eq w1 w.heap.size 0 (.int .u32 (x : Int)) _ c1
  clear R1 T e1b
  rw [hg] at c1 c2 c3 HT1 hgb ⊢
  go_upto_region 5 with fail
  generalize w1.setCell ⟨g, 0, none⟩ (.int .u32 (x : Int)) = W1 at *
  clear c1 c2
  have hN2 := heap_alloc_new W1 (.cells #[.int .u32 (x : Int), .int .i64 0, .int .i64 0] 133)
  have B2 : Below W1.heap.size W1 (W1.alloc (.cells #[.int .u32 (x : Int), .int .i64 0, .int .i64 0] 133)) := (Below.refl _ _).alloc (Nat.le_refl _) _
  have HCN : Hid (Cn32 w (W1.alloc (.cells #[.int .u32 (x : Int), .int .i64 0, .int .i64 0] 133)) b W1.heap.size s g n 0 a e1 (fun _ => x) ∧ g < W1.heap.size ∧ Tab64 (W1.alloc (.cells #[.int .u32 (x : Int), .int .i64 0, .int .i64 0] 133))) := by
    have hgs := HT1.out.2.2.2
    have tw : Two32 b W1.heap.size w (W1.alloc (.cells #[.int .u32 (x : Int), .int .i64 0, .int .i64 0] 133)) := (Two32.ofB HT1.out.2.2.1).trans (Two32.ofBelow B2)
    have hbW : b < W1.heap.size := by omega
    refine ⟨⟨HT1.out.1.ofBlock (B2.block g (by omega)), HT1.out.2.1.below B2 hbW, ⟨?_, ?_, ?_, fun i => frozen_of_row _ _ _ _ _ hN2⟩, tw, ?_, fun i hi => HX.out, fun he => ?_, ?_⟩, by omega, tw.tab HT.out hTb (by omega)⟩
    · rw [cell_of_row _ _ _ _ _ _ hN2]; rfl
    · rw [cell_of_row _ _ _ _ _ _ hN2]; rfl
    · rw [cell_of_row _ _ _ _ _ _ hN2]; rfl
    · have := B2.size; omega
    · rw [cbn_one, (HTS.out.1 he).2]; simp
    · rintro h ⟨hr, r, hR⟩
      obtain ⟨r1, h1⟩ := cbn_prefix 32 5 h 1 n (by omega)
      rw [h1, cbn_one, List.append_assoc] at hR
      have he : e1 = 0 := HTS.out.2 (by trivial) (by rw [hR]; simp)
      refine ⟨he, fun i hi => ?_⟩
      obtain rfl : i = 0 := by omega
      have h2 := take_eq_drop' _ _ 0 a (by rw [(HTS.out.1 he).2])
      rw [List.drop_zero, hR] at h2
      exact ((pbits_inj _ _ 32 _ _ (hr 0 (by omega)) HX.out h2).1).symm
  go_wp2_with fail
  obtain ⟨c, hcw⟩ : ∃ c, W1.heap.size = c := ⟨_, rfl⟩
  rw [hcw] at HCN ⊢
  clear hN2 B2 c3 hcw
  generalize W1.alloc (.cells #[.int .u32 (x : Int), .int .i64 0, .int .i64 0] 133) = W2 at *
  have hgc : g < c := HCN.out.2.1
  have hbc : c ≠ b := by omega
  go_loopw [4, 7] (fun t4 t7 wr => ∃ (k a : Nat) (e1 : Int) (f : Nat → Nat), t4 = .slice (some ⟨g, 0, none⟩) n n ∧ t7 = .int .i64 ((k : Int) + 1) ∧ Hid (k < n) ∧ Hid (Cn32 w wr b c s g n k a e1 f ∧ Tab64 wr)) (fun _ t7 _ => n - (intOf t7).toNat)
  case atStart => exact ⟨0, a, e1, _, rfl, rfl, hn0, HCN.out.1, HCN.out.2.2⟩
  case round =>
    clear HT1 HX HCN HTS
    obtain ⟨k, a, e1, f, rfl, rfl, hk, hI⟩ := hrel
    by_cases hlt : k + 1 < n
    · go_wp2_with fail
      refine (take32_any b c s a e1 (f k) (win 32 5 f k).1 (win 32 5 f k).2 wr hI.out.1.rd hI.out.1.col hbc (win_win 32 5 f (by omega) k (fun j hj => hI.out.1.rng j (by omega))) (hI.out.1.rng k (by omega)) hI.out.2 hTb (by omega)).mono ?_
      rintro e w2 ⟨ok, x, a2, e2, rfl, R2, T2, hx, hok, hfull⟩
      have HU := hide hx
      have HS := hide hok
      have HF := hide hfull
      have HR2 := hide R2
      have HT2 := hide T2
      clear hx hok hfull R2 T2
      cases ok with
      | false =>
        go_wp2_with fail
        go_ret2
        refine .inl ⟨rfl, (hI.out.1.two.trans HT2.out).below (Nat.le_refl _) (by omega) (by omega), hI.out.1.none hlt fun h1 y r hy hr => ?_⟩
        have := (HF.out h1 y r hy hr).1
        cases this
      | true =>
        have NX := Cn32.next hlt (Nat.le_of_eq hg) hgb (by omega) hI.out.1 x HU.out HR2.out HT2.out (HS.out rfl).1 (HS.out rfl).2 (fun h y r hy hr => ⟨(HF.out h y r hy hr).2.1, (HF.out h y r hy hr).2.2⟩)
        obtain ⟨q, hq⟩ : ∃ q : Nat, f k ^^^ x = q := ⟨_, rfl⟩
        have cq : w2.cell? ⟨c, 0, none⟩ = some (.int .u32 (q : Int)) := by rw [← hq]; exact (HS.out rfl).1.ahead
        have RW := hI.out.1.row.ofBlock (HT2.out.block g hI.out.1.size hgb (by omega))
        have c2 : w2.cell? ⟨g, k + 1, none⟩ = some (.int .u32 0) := by rw [RW.cell (k + 1) hlt, if_neg (by omega)]; rfl
        have c3 := RW.fz (k + 1)
        rw [hq] at NX
        have HNX := hide NX
        have HTb2 : Hid (Tab64 w2) := HT2.out.tab hI.out.2 hTb (by omega)
        clear NX hq RW
        go_wp2_with fail
        go_roundw
        case rel =>
          refine ⟨k + 1, a2, e2, _, rfl, by simp, hlt, HNX.out, ?_⟩
          exact fun j hj => by
            rw [World.cell?_of_block (w := w2) (Below.heap_setCell _ _ _ _ (show 0 ≠ g by omega))]; exact HTb2.out j hj
        case measure => simp [intOf]; omega
    · go_wp2_with fail
      go_ret2
      obtain rfl : n = k + 1 := by have := hk.out; omega
      refine .inr ⟨a, e1, f, by rw [hg]; rfl, by rw [hg]; exact hI.out.1.row, hI.out.1.rd, hI.out.1.two.below (Nat.le_refl _) (by omega) (by omega), hI.out.1.rng, hI.out.1.sound, hI.out.1.full⟩

end Go.Proofs.YtnjcedlbdjidiaaGreatDoor

namespace Go.Proofs.YtnjcedlbdjidiaaGreatDoor
open Go.RowKit
open M
set_option linter.unusedVariables false
set_option linter.unusedSimpArgs false

/-- The bytes are those of n values h. -/
def Packs32 (bs : List Nat) (h : Nat → Nat) (n : Nat) : Prop := (∀ i, i < n → h i < 4294967296) ∧ packed (cbn 32 5 h n) = bs

theorem begins_of32 {bs : List Nat} {h : Nat → Nat} {n : Nat} (hP : Packs32 bs h n) : Begins32 (rbits bs) h n := by
  obtain ⟨h1, h2⟩ := hP
  exact ⟨h1, _, by rw [← h2, rbits_packed]⟩

/-- What Unpack tells, and where the values lie: in a block of their own. -/
def UnpackEnd32 (w : World) (bs : List Nat) (n : Nat) (e : Ending) (w' : World) : Prop :=
  (e = .returned (.tuple #[.slice none 0 0, .int .i64 71]) ∧ Below w.heap.size w w' ∧ ¬ ∃ h, Packs32 bs h n) ∨
    ∃ (g : Nat) (f : Nat → Nat), e = .returned (.tuple #[.slice (some ⟨g, 0, none⟩) n n, .int .i64 0]) ∧ w.heap.size ≤ g ∧ UW32 w' g n n f ∧ Below w.heap.size w w' ∧ Packs32 bs f n ∧
      ∀ h, Begins32 (rbits bs) h n → ∀ i, i < n → f i = h i

theorem ended32 {s : ByteArray} {bs : List Nat} {n a : Nat} {e1 : Int} {f h : Nat → Nat} (hb : ∀ n ∈ bs, n < 256) (hs : s = strOf bs) (hle : a ≤ 8 * s.size) (sound : e1 = 0 → (rb s).take a = cbn 32 5 f n) (full : ∀ h, Begins32 (rb s) h n → e1 = 0 ∧ ∀ i, i < n → f i = h i) (hP : Packs32 bs h n) : endE s a e1 = 0 := by
  subst hs
  obtain ⟨h1, h2⟩ := full h (by rw [rb_strOf bs hb]; exact begins_of32 hP)
  subst h1
  have h3 := sound rfl
  rw [cbn_congr _ _ _ _ _ h2] at h3
  have h4 := congrArg List.length h3
  rw [List.length_take, rb_length, Nat.min_eq_left hle] at h4
  obtain ⟨_, hbs⟩ := hP
  rw [← hbs, h4]
  exact end_packed _

theorem packs32 {s : ByteArray} {bs : List Nat} {n a : Nat} {e1 : Int} {f : Nat → Nat} (hb : ∀ n ∈ bs, n < 256) (hs : s = strOf bs) (hle : a ≤ 8 * s.size) (rng : ∀ i, i < n → f i < 4294967296) (sound : e1 = 0 → (rb s).take a = cbn 32 5 f n) (hE : endE s a e1 = 0) : Packs32 bs f n := by
  subst hs
  refine ⟨rng, ?_⟩
  unfold endE at hE
  by_cases he : e1 = 0
  · rw [if_pos he] at hE
    have hs : (strOf bs).size = bs.length := by simp
    rw [hs, rb_strOf bs hb] at hE
    by_cases h8 : 8 ≤ 8 * bs.length - a
    · rw [if_pos h8] at hE; cases hE
    · rw [if_neg h8] at hE
      by_cases hz : num ((rbits bs).drop a) = 0
      · rw [hs] at hle
        have h1 := sound he
        rw [rb_strOf bs hb] at h1
        rw [← h1]
        exact packed_back bs hb a hle (by omega) hz
      · rw [if_neg hz] at hE; cases hE
  · rw [if_neg he] at hE; exact absurd hE he

set_option maxRecDepth 100000 in
set_option maxHeartbeats 1000000 in
theorem unpack32_any (v : Value) (bs : List Nat) (n : Nat) (w : World) (h : IsBy w v bs) (hb : ∀ n ∈ bs, n < 256) (hl : bs.length ≤ 1000000000000) (hn : n ≤ 4096) (hT : Tab64 w) :
    Calls Tryz.prog 31 #[v, .int .i64 n] w (UnpackEnd32 w bs n) := by
  have H := hide h
  have HB := hide hb
  have HL := hide hl
  have HT := hide hT
  have hTs : 0 < w.heap.size := block_lt_of_cell (hT 0 (by omega))
  clear h hb hl hT
  go_enter Tryz.func31, Tryz.ntmps31
  go_wp2_with fail
  refine (from_by w v bs H.out).mono ?_
  rintro e w1 ⟨rfl, hw1⟩
  have HR : Hid (Rd w1 w.heap.size 0 (strOf bs) 0 0) := by rw [hw1]; exact rd_new w bs HL.out
  have HB1 : Hid (Below w.heap.size w w1) := by rw [hw1]; exact (Below.refl _ _).alloc (Nat.le_refl _) _
  clear hw1
  go_wp2_with fail
  refine (takeAll32_any w.heap.size (strOf bs) n w1 HR.out hn (HT.out.below HB1.out) (by omega)).mono ?_
  rintro e w2 (⟨rfl, B2, hno⟩ | ⟨a, e1, f, rfl, U2, R2, B2, rng, sound, full⟩)
  · have HB2 : Hid (Below w.heap.size w w2) := HB1.out.trans B2
    have HNO := hide hno
    clear hno B2
    go_wp2_with fail
    go_ret2
    refine .inl ⟨rfl, HB2.out, fun ⟨h, hP⟩ => HNO.out ⟨h, ?_⟩⟩
    rw [rb_strOf bs HB.out]; exact begins_of32 hP
  · have HB2 : Hid (Below w.heap.size w w2) := HB1.out.trans B2
    have hg1 : Hid (w.heap.size ≤ w1.heap.size) := HB1.out.size
    have HU := hide U2
    have HA := hide (And.intro rng (And.intro sound full))
    have hle := hide R2.le
    have HR2 := hide R2
    clear U2 B2 rng sound full R2
    go_wp2_with fail
    refine (rend_any w.heap.size 0 (strOf bs) a e1 w2 HR2.out).mono ?_
    rintro e w3 ⟨rfl, m, hw3⟩
    have HB3 : Hid (Below w.heap.size w w3) := by rw [hw3]; exact below_drewN HB2.out m
    have HU3 : Hid (UW32 w3 w1.heap.size n n f) := by rw [hw3]; exact ⟨HU.out.cell, HU.out.fz, HU.out.blk⟩
    clear hw3
    by_cases hE : endE (strOf bs) a e1 = 0
    · rw [hE]
      have HE := hide hE
      clear hE
      go_wp2_with fail
      go_ret2
      refine .inr ⟨w1.heap.size, f, rfl, hg1.out, HU3.out, HB3.out, packs32 HB.out rfl hle.out HA.out.1 HA.out.2.1 HE.out, fun h hB => (HA.out.2.2 h (by rw [rb_strOf bs HB.out]; exact hB)).2⟩
    · have hE' : (endE (strOf bs) a e1 != 0) = true := by simp [hE]
      have HE := hide hE
      clear hE
      go_wp2_with fail
      go_ret2
      exact .inl ⟨rfl, HB3.out, fun ⟨h, hP⟩ => HE.out (ended32 HB.out rfl hle.out HA.out.2.1 HA.out.2.2 hP)⟩

theorem unpack32_count (v : Value) (n : Int) (w : World) (hn : n < 0 ∨ 4096 < n) :
    Calls Tryz.prog 31 #[v, .int .i64 n] w fun e w' => e = .returned (.tuple #[.slice none 0 0, .int .i64 70]) ∧ w' = w := by
  by_cases h0 : n < 0
  · go_enter Tryz.func31, Tryz.ntmps31
    go_wp2_with fail
    go_ret2
    exact ⟨rfl, rfl⟩
  · have h1 : 4096 < n := by omega
    go_enter Tryz.func31, Tryz.ntmps31
    go_wp2_with fail
    go_ret2
    exact ⟨rfl, rfl⟩

end Go.Proofs.YtnjcedlbdjidiaaGreatDoor

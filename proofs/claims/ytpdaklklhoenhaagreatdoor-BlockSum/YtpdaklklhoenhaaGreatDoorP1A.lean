/- Columns in bits, plain: a number's window, the bits of an exclusive or (xb), of a column (cbn); that they are told apart, and how long they are. -/
import Derived.Test.YtpdaklklhoenhaaGreatDoorU1D
import Derived.Deep.Cut
import Derived.Laws.Tables
import Derived.Great.Walk
import Derived.Test.YtpdaklklhoenhaaGreatDoorB1R
import Derived.Laws.MathBits
import Derived.Lib.TrailingZeros
/- The contracts of lay and Pack. -/
namespace Go.Proofs.YtpdaklklhoenhaaGreatDoor
open Go.RowKit
open M
set_option linter.unusedVariables false

set_option maxHeartbeats 1000000 in
theorem lay_any (b lo : Nat) (p : Option Addr) (n cap : Nat) (f : Nat → Int) (w0 w : World) (h : TRow w0 p n f) (hw0 : w0.heap.size ≤ b) (hB : Below w0.heap.size w0 w) (hn : n ≤ 4096) (hf : ∀ i, i < n → I64 (f i))
    (hW : Wr w lo b 0 [] 0) (hb : b < lo) (hlo : lo ≤ w.heap.size) :
    Calls Tryz.prog 93 #[.pointer (some ⟨b, 0, none⟩), .slice p n cap] w fun e w' => e = .returned (.tuple #[]) ∧ Wr w' lo b 0 (tbn f n) 0 ∧ Only b 0 123 w w' := by
  have HW := hide hW
  have HF := hide hf
  have HB := hide hB
  have H := hide h
  clear hW hf hB h
  by_cases h0 : n = 0
  · subst h0
    go_enter Tryz.func93, Tryz.ntmps93
    go_wp2_with fail
    refine bodyPost_ret (results_none rfl _ _ _) rfl ?_
    exact ⟨rfl, HW.out, Only.refl _ _ _ _⟩
  obtain ⟨rb0, ro, rfl, hc⟩ := H.out (by omega)
  have hrb : rb0 < w0.heap.size := block_lt_of_cell (hc 0 (by omega))
  have c0 : w.cell? ⟨rb0, ro, none⟩ = some (.int .i64 (f 0)) := by rw [HB.out.cell (p := ⟨rb0, ro, none⟩) hrb]; exact hc 0 (by omega)
  have HC := hide hc
  clear hc
  have hne : ((n : Int) == 0) = false := by rw [beq_eq_false_iff_ne]; omega
  go_enter Tryz.func93, Tryz.ntmps93
  go_wp2_with fail
  have e0 : IntKind.u64.wrap (f 0) = ((u64 (f 0) : Nat) : Int) := by
    unfold u64; simp only [IntKind.wrap, IntKind.bits, IntKind.signed]; simp; omega
  try rw [e0]
  refine (wbits_any b 0 lo 64 (u64 (f 0)) w [] HW.out hb hlo (by simp) (by omega) (u64_lt _) (u64_lt _)).mono ?_
  rintro e w1 ⟨rfl, W1, O1⟩
  clear c0
  go_wp2_with fail
  go_loopw [4, 5] (fun t4 t5 wr => ∃ k : Nat, t4 = .int .u64 (ahd f k : Int) ∧ t5 = .int .i64 ((k : Int) + 1) ∧ Hid (k < n ∧ Wr wr lo b 0 (tbn f (k + 1)) 0 ∧ Only b 0 123 w wr)) (fun _ t5 _ => n - (intOf t5).toNat)
  case atStart => exact ⟨0, rfl, rfl, by omega, W1, O1⟩
  case round =>
    obtain ⟨k, rfl, rfl, hI⟩ := hrel
    by_cases hlt : k + 1 < n
    · have hBr : Below w0.heap.size w0 wr := HB.out.trans (hI.out.2.2.below hw0 (by have := HB.out.size; omega))
      have c1 : wr.cell? ⟨rb0, ro + (k + 1), none⟩ = some (.int .i64 (f (k + 1))) := by rw [hBr.cell (p := ⟨rb0, ro + (k + 1), none⟩) hrb]; exact HC.out (k + 1) hlt
      have c2 : wr.cell? ⟨rb0, ro + k, none⟩ = some (.int .i64 (f k)) := by rw [hBr.cell (p := ⟨rb0, ro + k, none⟩) hrb]; exact HC.out k (by omega)
      clear hBr
      go_wp2_with fail
      go_region
      have ed : IntKind.u64.wrap (IntKind.u64.wrap (f (k + 1)) - IntKind.u64.wrap (f k)) = ((dif (f (k + 1)) (f k) : Nat) : Int) := by
        unfold dif; simp only [IntKind.wrap, IntKind.bits, IntKind.signed]; simp; omega
      rw [ed]
      clear ed
      obtain ⟨D, hD⟩ : ∃ D, D = dif (f (k + 1)) (f k) := ⟨_, rfl⟩
      obtain ⟨A, hA⟩ : ∃ A, A = ahd f k := ⟨_, rfl⟩
      have hD2 : D < 18446744073709551616 := by rw [hD]; exact dif_lt _ _
      have hA2 : A < 18446744073709551616 := by rw [hA]; exact ahd_lt _ _
      rw [← hD, ← hA]
      obtain ⟨y, hy⟩ : ∃ y : Nat, y = (((D : Int) - (A : Int)) % 18446744073709551616).toNat := ⟨_, rfl⟩
      have e1 : IntKind.u64.wrap ((D : Int) - (A : Int)) = (y : Int) := by
        rw [hy]; simp only [IntKind.wrap, IntKind.bits, IntKind.signed]; simp; omega
      have e2 : wrap64 (y : Int) = bend D A := by rw [hy]; unfold wrap64 bend; omega
      have e3 : IntKind.i64.wrap (y : Int) = bend D A := by rw [hy]; unfold bend; simp only [IntKind.wrap, IntKind.bits, IntKind.signed]; simp; omega
      have HD := hide hD
      have HA := hide hA
      have HD2 := hide hD2
      have HA2 := hide hA2
      clear hD hA hD2 hA2 hy
      go_wp2_with fail
      refine (zigzag_any (bend D A) _ (bend_range _ _)).mono ?_
      rintro e w2 ⟨rfl, rfl⟩
      have Wd : Wr wr.drew lo b 0 (tbn f (k + 1)) 0 := hI.out.2.1.below (Below.refl _ _).drew
      have Od : Only b 0 123 w wr.drew := hI.out.2.2.drew
      go_wp2_with fail
      refine (layZigzag_any b 0 lo (zig (bend D A)) _ _ Wd hb (by have := Od.size; omega) (by have := tbn_length f k; omega) (zig_lt' _ (bend_range _ _))).mono ?_
      rintro e w3 ⟨rfl, W3, O3⟩
      go_wp2_with fail
      go_roundw
      case rel =>
        refine ⟨k + 1, ?_, by simp, hlt, ?_, Od.trans O3⟩
        · rw [HD.out]; rfl
        · rw [tbn_step]; unfold zg; rw [← HD.out, ← HA.out]; exact W3
      case measure => simp [intOf]; omega
    · go_wp2_with fail
      go_end0
      obtain rfl : n = k + 1 := by have := hI.out.1; omega
      exact ⟨rfl, hI.out.2.1, hI.out.2.2⟩

/-- What Pack tells of times that rise. -/
def PackEnd (f : Nat → Int) (n : Nat) (w : World) (e : Ending) (w' : World) : Prop :=
  ∃ (g L : Nat), L = (packed (tbn f n)).length ∧ w.heap.size ≤ g ∧ e = .returned (.tuple #[.slice (some ⟨g, 0, none⟩) L L, .int .i64 0]) ∧
    w'.heap[g]? = some (.cells (bytesV (packed (tbn f n))).toArray 5 (0, 0)) ∧ Below w.heap.size w w'

theorem below_drewNT {B : Nat} {w w' : World} (h : Below B w w') (m : Nat) : Below B w (w'.drewN m) := ⟨h.os, h.tape, h.output, h.size, h.block⟩

set_option maxRecDepth 100000 in
set_option maxHeartbeats 1000000 in
theorem pack_ok (p : Option Addr) (n cap : Nat) (f : Nat → Int) (w : World) (h : TRow w p n f) (hn : n ≤ 4096) (hf : ∀ i, i < n → I64 (f i)) (hr : Rises f n) :
    Calls Tryz.prog 68 #[.slice p n cap] w (PackEnd f n w) := by
  have H := hide h
  have HF := hide hf
  have HR := hide hr
  clear h hf hr
  go_enter Tryz.func68, Tryz.ntmps68
  go_wp2_with fail
  refine (rise_any p n cap f w H.out (by omega)).mono ?_
  rintro e w1 ⟨v, rfl, hv, m, rfl⟩
  obtain rfl : v = true := hv.2 HR.out
  clear hv
  obtain ⟨wm, hwm⟩ : ∃ wm, wm = w.drewN m := ⟨_, rfl⟩
  have Hwm : Hid (Below w.heap.size w wm ∧ wm.heap.size = w.heap.size ∧ TRow wm p n f) := by
    rw [hwm]; exact ⟨below_drewNT (Below.refl _ _) m, rfl, H.out⟩
  rw [← hwm]
  clear hwm H
  obtain ⟨g, hg⟩ : ∃ g, g = wm.heap.size := ⟨_, rfl⟩
  obtain ⟨W1, hW1⟩ : ∃ W1, W1 = wm.alloc (.cells zW 101) := ⟨_, rfl⟩
  have HM : Hid (Wr W1 (g + 1) g 0 [] 0 ∧ g + 1 ≤ W1.heap.size ∧ Below wm.heap.size wm W1) := by
    have B1 : Below wm.heap.size wm W1 := by rw [hW1]; exact (Below.refl _ wm).alloc (Nat.le_refl _) _
    refine ⟨?_, by rw [hW1, hg]; simp, B1⟩
    rw [hg, hW1]; exact wr_of (heap_alloc_new wm _)
  have HG := hide hg
  go_upto_region 5 with fail
  refine wp_region_list ?_
  refine wpList_build rfl 101 #[] rfl (by kernel_rfl) ?_
  simp only [Array.map_empty]
  rw [zW_built]
  refine Go.Great.wpList_boxTo rfl 101 (.tmp 13) rfl (some 14) rfl g hg.symm zW rfl ?_
  rw [← hW1]
  clear hW1 hg
  go_wp2_with fail
  refine (lay_any g (g + 1) p n cap f wm W1 Hwm.out.2.2 (by rw [HG.out]; omega) HM.out.2.2 hn HF.out HM.out.1 (by omega) HM.out.2.1).mono ?_
  rintro e w2 ⟨rfl, W2, O2⟩
  have s2 := HM.out.2.1
  have s3 := O2.size
  have hl := tbn_length' f n
  have HL := hide hl
  clear hl
  go_wp2_with fail
  refine (wdone_packed g 0 (g + 1) w2 _ W2 (by omega) (by have := HL.out; omega) _ rfl).mono ?_
  rintro e w3 ⟨rfl, G3, B3⟩
  go_wp2_with fail
  go_ret2
  have e1 := Hwm.out.1
  have e2 := Hwm.out.2.1
  have e3 := HM.out.2.2
  have e4 := HG.out
  refine ⟨w2.heap.size, ((tbn f n).length + 7) / 8, (packed_length _).symm, by omega, rfl, G3, ?_⟩
  rw [e2] at e3
  exact ((e1.trans e3).trans (O2.below (by omega) (by omega))).trans (B3.mono (by omega))

set_option maxHeartbeats 1000000 in
theorem pack_bad (p : Option Addr) (n cap : Nat) (f : Nat → Int) (w : World) (h : TRow w p n f) (hn : n ≤ 4096) (hr : ¬ Rises f n) :
    Calls Tryz.prog 68 #[.slice p n cap] w fun e w' => e = .returned (.tuple #[.slice none 0 0, .int .i64 61]) ∧ ∃ m, w' = w.drewN m := by
  have H := hide h
  have HR := hide hr
  clear h hr
  go_enter Tryz.func68, Tryz.ntmps68
  go_wp2_with fail
  refine (rise_any p n cap f w H.out (by omega)).mono ?_
  rintro e w1 ⟨v, rfl, hv, m, rfl⟩
  obtain rfl : v = false := by cases v with
    | false => rfl
    | true => exact absurd (hv.1 rfl) HR.out
  go_wp2_with fail
  go_ret2
  exact ⟨rfl, m, rfl⟩

theorem pack_many (p : Option Addr) (n cap : Nat) (w : World) (hn : 4096 < n) :
    Calls Tryz.prog 68 #[.slice p n cap] w fun e w' => e = .returned (.tuple #[.slice none 0 0, .int .i64 60]) ∧ w' = w := by
  go_enter Tryz.func68, Tryz.ntmps68
  go_wp2_with fail
  go_ret2
  exact ⟨rfl, rfl⟩

end Go.Proofs.YtpdaklklhoenhaaGreatDoor

/- The contract of take. -/
namespace Go.Proofs.YtpdaklklhoenhaaGreatDoor
open Go.RowKit
open M
set_option linter.unusedVariables false

theorem make_times (c : Nat) (h : c ≤ 4096) (w : World) :
    (Instr.makeSlice 107 (.int .i64 (c : Int)) (.int .i64 (c : Int))).run Tryz.prog w = .ok (.slice (some ⟨w.heap.size, 0, none⟩) c c) (w.alloc (.cells (Array.replicate c (Value.int .i64 0)) 2)) := by
  have hz : (Tryz.prog.info? 2).bind (·.zero) = some (.int .i64 0) := by kernel_rfl
  have hs : (Tryz.prog.info? 2).map (·.size) = some 1 := by kernel_rfl
  have hb : (Tryz.prog.info? 2).map (·.bytes) = some 8 := by kernel_rfl
  cases hi : Tryz.prog.info? 2 with
  | none => simp [hi] at hs
  | some i =>
    simp only [hi, Option.bind_some, Option.map_some, Option.some.injEq] at hz hs hb
    rw [run_make w 107 2 i _ Tryz.underlying107 hi hz .i64 .i64 (c : Int) (c : Int) (by omega) (by omega) (by rw [hb]; omega) (by omega)]
    have e : madeCells (Value.int .i64 0).cells ((c : Int).toNat * i.size) = Array.replicate c (Value.int .i64 0) := by
      rw [hs]
      apply Array.ext
      · simp [madeCells]
      · intro j h1 h2
        simp [madeCells, Value.cells, Nat.mod_one]
    rw [e]; simp

/-- A row of n times of one's own, of which the first k are laid. -/
structure TW (w : World) (g n k : Nat) (f : Nat → Int) : Prop where
  cell : ∀ i, i < n → w.cell? ⟨g, i, none⟩ = some (.int .i64 (if i < k then f i else 0))
  fz : ∀ i, w.frozen? ⟨g, i, none⟩ = false
  blk : ∃ cur : Array Value, w.heap[g]? = some (.cells cur 2 (0, 0)) ∧ cur.size = n

theorem TW.new (w : World) (n : Nat) (f : Nat → Int) : TW (w.alloc (.cells (Array.replicate n (Value.int .i64 0)) 2)) w.heap.size n 0 f := by
  have hn := heap_alloc_new w (.cells (Array.replicate n (Value.int .i64 0)) 2)
  refine ⟨fun i hi => ?_, fun i => frozen_of_row _ _ _ _ _ hn, _, hn, by simp⟩
  rw [cell_of_row _ _ _ _ _ _ hn]
  simp [hi]

theorem TW.set {w : World} {g n k : Nat} {f : Nat → Int} (h : TW w g n k f) (hk : k < n) (t : Int) : TW (w.setCell ⟨g, k, none⟩ (.int .i64 t)) g n (k + 1) (fun i => if i = k then t else f i) := by
  refine ⟨fun i hi => ?_, fun i => by rw [frozen_setCell]; exact h.fz i, ?_⟩
  case refine_2 =>
    obtain ⟨cur, h1, h2⟩ := h.blk
    exact ⟨_, heap_setCell_same w g k cur _ _ h1, by simpa using h2⟩
  by_cases e : i = k
  · subst e
    rw [cell_setCell_eq _ _ _ _ _ (h.cell i hi)]; simp
  · rw [cell_setCell_ne _ _ _ _ _ e, h.cell i hi]
    by_cases h1 : i < k
    · simp [h1, e, show i < k + 1 from by omega]
    · simp [h1, show ¬ i < k + 1 from by omega]

theorem TW.only {w w' : World} {g n k b lo hi : Nat} {f : Nat → Int} (h : TW w g n k f) (ho : Only b lo hi w w') (hg : g ≠ b) (hs : g < w.heap.size) : TW w' g n k f := by
  have e := ho.block g hs hg
  exact ⟨fun i hi => by rw [World.cell?_of_block (w := w) e]; exact h.cell i hi, fun i => by rw [World.frozen?_of_block (w := w) (w' := w') (a := ⟨g, i, none⟩) e]; exact h.fz i, by rw [e]; exact h.blk⟩

theorem TW.congr {w : World} {g n k : Nat} {f f' : Nat → Int} (h : TW w g n k f) (e : ∀ i, i < k → f i = f' i) : TW w g n k f' :=
  ⟨fun i hi => by rw [h.cell i hi]; by_cases h1 : i < k
                  · rw [if_pos h1, if_pos h1, e i h1]
                  · rw [if_neg h1, if_neg h1], h.fz, h.blk⟩

theorem Only.setOther {b lo hi : Nat} {u w : World} (h : Only b lo hi u w) (g i : Nat) (hg : u.heap.size ≤ g) (hb : g ≠ b) (v : Value) : Only b lo hi u (w.setCell ⟨g, i, none⟩ v) := by
  have hbk : ∀ k, k ≠ g → (w.setCell ⟨g, i, none⟩ v).heap[k]? = w.heap[k]? := fun k hk => Below.heap_setCell _ _ _ _ hk
  refine ⟨h.os, h.tape, h.output, Nat.le_trans h.size (by simp [World.setCell]), fun k hk hb => ?_, fun j hj => ?_, fun j => ?_⟩
  · rw [hbk k (by omega)]; exact h.block k hk hb
  · rw [World.cell?_of_block (w := w) (hbk b (by omega))]; exact h.cell j hj
  · rw [frozen_setCell]; exact h.frozen j

theorem Rd.setOther {w : World} {b off : Nat} {s : ByteArray} {a : Nat} {e : Int} (h : Rd w b off s a e) (g i : Nat) (hb : g ≠ b) (v : Value) : Rd (w.setCell ⟨g, i, none⟩ v) b off s a e := by
  have hbk : (w.setCell ⟨g, i, none⟩ v).heap[b]? = w.heap[b]? := Below.heap_setCell _ _ _ _ (fun e => hb e.symm)
  have hc : ∀ j, (w.setCell ⟨g, i, none⟩ v).cell? ⟨b, j, none⟩ = w.cell? ⟨b, j, none⟩ := fun j => World.cell?_of_block (w := w) hbk
  exact ⟨by rw [hc]; exact h.text, by rw [hc]; exact h.at_, by rw [hc]; exact h.err, fun j hj => by rw [frozen_setCell]; exact h.fz j hj, h.size, h.le⟩

/-- The bits begin with those of n times g. -/
def Begins (R : List Bool) (g : Nat → Int) (n : Nat) : Prop := (∀ i, i < n → I64 (g i)) ∧ ∃ r, R = tbn g n ++ r

/-- What stands where k times have been taken. -/
structure Tn (w wr : World) (b : Nat) (s : ByteArray) (g n k a : Nat) (e1 : Int) (f : Nat → Int) : Prop where
  row : TW wr g n k f
  rd : Rd wr b 0 s a e1
  only : Only b 0 3 w wr
  size : g < wr.heap.size
  rng : ∀ i, i < k → I64 (f i)
  sound : e1 = 0 → (rb s).take a = tbn f k
  full : ∀ h, Begins (rb s) h n → e1 = 0 ∧ ∀ i, i < k → f i = h i

/-- What take tells. -/
def TakeEnd (w : World) (b : Nat) (s : ByteArray) (n : Nat) (e : Ending) (w' : World) : Prop :=
  (e = .returned (.tuple #[.slice none 0 0, .bool false]) ∧ Only b 0 3 w w' ∧ ¬ ∃ h, Begins (rb s) h n) ∨
    ∃ (a : Nat) (e1 : Int) (f : Nat → Int), e = .returned (.tuple #[.slice (some ⟨w.heap.size, 0, none⟩) n n, .bool true]) ∧ Tn w w' b s w.heap.size n n a e1 f

/-- The first time. -/
theorem Tn.first {w w1 w2 : World} {b : Nat} {s : ByteArray} {g n a x : Nat} {e1 : Int} {f : Nat → Int} (hn : 0 < n) (hg : w.heap.size ≤ g) (hgb : g ≠ b) (hgs : g < w1.heap.size) (R : TW w1 g n 0 f) (O : Only b 0 3 w w1)
    (T : TkT w1 w2 b 0 s 0 0 a e1 (bitsOf x 64)) (hx : x < 18446744073709551616) :
    Tn w (w2.setCell ⟨g, 0, none⟩ (.int .i64 (wrap64 (x : Int)))) b s g n 1 a e1 (fun _ => wrap64 (x : Int)) := by
  have hu : u64 (wrap64 (x : Int)) = x := by unfold u64 wrap64; omega
  have hs2 := T.only.size
  have hS : e1 = 0 → (rb s).take a = tbn (fun _ => wrap64 (x : Int)) 1 := fun h => by rw [(T.sound h).2, tbn_one, hu]; simp
  refine ⟨?_, T.rd.setOther g 0 hgb _, (O.trans T.only).setOther g 0 hg hgb _, by simp [World.setCell]; omega, fun i hi => ?_, hS, ?_⟩
  · exact ((R.only T.only hgb hgs).set hn _).congr fun i hi => by rw [if_pos (by omega)]
  · unfold I64 wrap64; omega
  · rintro h ⟨hr, r, hR⟩
    obtain ⟨r1, h1⟩ := tbn_prefix h 1 n hn
    rw [h1, tbn_one, List.append_assoc] at hR
    have he : e1 = 0 := T.full rfl (by rw [hR]; simp)
    refine ⟨he, fun i hi => ?_⟩
    obtain rfl : i = 0 := by omega
    have h2 := take_eq_drop _ _ 0 a (by rw [hS he, tbn_one]; rfl)
    rw [List.drop_zero, hR] at h2
    have := (bits_inj _ _ 64 _ _ (u64_lt _) (u64_lt _) h2).1
    exact (u64_inj _ _ (hr 0 hn) (by unfold I64 wrap64; omega) this).symm

theorem zag_zg {a : Nat} {u : Nat} (hu : u < 18446744073709551616) : zig (zag u) = u := zig_zag u

/-- One time more. -/
theorem Tn.next {w wr w2 : World} {b : Nat} {s : ByteArray} {g n k a a' : Nat} {e1 e2 : Int} {f : Nat → Int} (hk : k + 1 < n) (hg : w.heap.size ≤ g) (hgb : g ≠ b) (T : Tn w wr b s g n (k + 1) a e1 f) (u D : Nat) (t : Int) (hu : u < 18446744073709551616)
    (hR : Rd w2 b 0 s a' e2) (hO : Only b 0 3 wr w2) (hs : e2 = 0 → e1 = 0 ∧ (rb s).take a' = (rb s).take a ++ zb u)
    (hf : e1 = 0 → ∀ v r, v < 18446744073709551616 → (rb s).drop a = zb v ++ r → u = v ∧ e2 = 0)
    (hD : (D : Int) = ((ahd f k : Nat) + zag u) % 18446744073709551616) (ht : t = (f k + (D : Int) + 9223372036854775808) % 18446744073709551616 - 9223372036854775808) :
    Tn w (w2.setCell ⟨g, k + 1, none⟩ (.int .i64 t)) b s g n (k + 2) a' e2 (fun i => if i = k + 1 then t else f i) ∧ ahd (fun i => if i = k + 1 then t else f i) (k + 1) = D := by
  obtain ⟨t1, t2, t3, t4⟩ := take_next (f k) (ahd f k) u (T.rng k (by omega)) (zag u) (zig_zag u) (zag_range u hu) D hD t ht
  have hs2 := hO.size
  have hsz := T.size
  obtain ⟨F, hF⟩ : ∃ F : Nat → Int, F = fun i => if i = k + 1 then t else f i := ⟨_, rfl⟩
  have F1 : F (k + 1) = t := by rw [hF]; simp
  have F2 : ∀ i, i ≤ k → F i = f i := fun i hi => by rw [hF]; simp; omega
  have ea : ahd F k = ahd f k := by
    cases k with
    | zero => rfl
    | succ k => simp only [ahd]; rw [F2 (k + 1) (by omega), F2 k (by omega)]
  have ez : zg F k = u := by unfold zg; rw [F1, F2 k (by omega), ea]; exact t4
  have ed : ahd F (k + 1) = D := by simp only [ahd]; rw [F1, F2 k (by omega)]; exact t2
  have eb : tbn F (k + 1) = tbn f (k + 1) := tbn_congr _ _ _ fun i hi => F2 i (by omega)
  rw [← hF]
  refine ⟨⟨?_, hR.setOther g _ hgb _, (T.only.trans hO).setOther g _ hg hgb _, by simp [World.setCell]; omega, fun i hi => ?_, fun he => ?_, ?_⟩, ed⟩
  · rw [hF]; exact (T.row.only hO hgb T.size).set hk t
  · by_cases e : i = k + 1
    · subst e; rw [F1]; exact t1
    · rw [F2 i (by omega)]; exact T.rng i (by omega)
  · obtain ⟨h1, h2⟩ := hs he
    rw [h2, T.sound h1, tbn_step, ez, eb]
  · intro h hB
    obtain ⟨h1, h2⟩ := T.full h hB
    obtain ⟨hr, r, hRR⟩ := hB
    obtain ⟨r1, h3⟩ := tbn_prefix h (k + 2) n (by omega)
    rw [h3, tbn_step, List.append_assoc, List.append_assoc] at hRR
    have h4 : (rb s).take a = tbn h (k + 1) := by rw [T.sound h1]; exact tbn_congr _ _ _ h2
    have h5 : (rb s).drop a = zb (zg h k) ++ (r1 ++ r) := by
      have := List.take_append_drop a (rb s)
      rw [h4] at this
      rw [hRR] at this ⊢
      exact List.append_cancel_left this
    obtain ⟨h6, h7⟩ := hf h1 _ _ (zg_lt h k) h5
    refine ⟨h7, fun i hi => ?_⟩
    by_cases e : i = k + 1
    · subst e
      exact zg_inj F h k (by rw [F1]; exact t1) (hr _ (by omega)) (fun j hj => by rw [F2 j hj]; exact h2 j (by omega)) (by rw [ez]; exact h6)
    · rw [F2 i (by omega)]; exact h2 i (by omega)

/-- A zigzag that has a shorter form: there are no such times. -/
theorem Tn.none {w wr : World} {b : Nat} {s : ByteArray} {g n k a : Nat} {e1 : Int} {f : Nat → Int} (hk : k + 1 < n) (T : Tn w wr b s g n (k + 1) a e1 f)
    (hf : e1 = 0 → ∀ v r, v < 18446744073709551616 → (rb s).drop a = zb v ++ r → False) : ¬ ∃ h, Begins (rb s) h n := by
  rintro ⟨h, hB⟩
  obtain ⟨h1, h2⟩ := T.full h hB
  obtain ⟨hr, r, hRR⟩ := hB
  obtain ⟨r1, h3⟩ := tbn_prefix h (k + 2) n (by omega)
  rw [h3, tbn_step, List.append_assoc, List.append_assoc] at hRR
  have h4 : (rb s).take a = tbn h (k + 1) := by rw [T.sound h1]; exact tbn_congr _ _ _ h2
  refine hf h1 (zg h k) (r1 ++ r) (zg_lt h k) ?_
  have := List.take_append_drop a (rb s)
  rw [h4] at this
  rw [hRR] at this ⊢
  exact List.append_cancel_left this

end Go.Proofs.YtpdaklklhoenhaaGreatDoor

namespace Go.Proofs.YtpdaklklhoenhaaGreatDoor.M
set_option linter.unusedVariables false

/-- How many bits a number has behind its last 1. -/
def tz (x : Nat) : Nat := Lib.ctz 64 x
/-- The length of a number's window. -/
def wl (x : Nat) : Nat := bitLen x - tz x

theorem tz_spec (x : Nat) (h0 : x ≠ 0) (h : x < 2 ^ 64) : ∃ m, x = 2 ^ tz x * (2 * m + 1) := by
  obtain ⟨m, hm, _⟩ := Lib.ctzFrom_spec 64 x (by omega) h
  exact ⟨m, by unfold tz Lib.ctz; rw [if_neg h0]; exact hm⟩

theorem bitLen_le (x n : Nat) (h : x < 2 ^ n) : bitLen x ≤ n := by
  rcases Nat.lt_or_ge n (bitLen x) with h1 | h1
  · by_cases h0 : x = 0
    · subst h0; simp [bitLen]
    · have := (bitLen_spec x).2 h0
      have := Nat.pow_le_pow_right (n := 2) (by omega) (show n ≤ bitLen x - 1 by omega)
      omega
  · exact h1

theorem bitLen_pos (x : Nat) (h0 : x ≠ 0) : 0 < bitLen x := by unfold bitLen; rw [if_neg h0]; omega

theorem tz_lt (x : Nat) (h0 : x ≠ 0) (h : x < 2 ^ 64) : tz x < bitLen x := by
  obtain ⟨m, hm⟩ := tz_spec x h0 h
  have h1 := (bitLen_spec x).1
  rcases Nat.lt_or_ge (tz x) (bitLen x) with h2 | h2
  · exact h2
  · have h3 := Nat.pow_le_pow_right (n := 2) (by omega) h2
    have h4 : 2 ^ tz x * 1 ≤ 2 ^ tz x * (2 * m + 1) := Nat.mul_le_mul_left _ (by omega)
    omega

theorem wl_pos (x : Nat) (h0 : x ≠ 0) (h : x < 2 ^ 64) : 0 < wl x := by
  have := tz_lt x h0 h; unfold wl; omega

/-- What is cut off at a number's end and laid again. -/
theorem cut_back (x s : Nat) (h0 : x ≠ 0) (h : x < 2 ^ 64) (hs : s ≤ tz x) : x / 2 ^ s * 2 ^ s = x := by
  obtain ⟨m, hm⟩ := tz_spec x h0 h
  have e : 2 ^ tz x = 2 ^ (tz x - s) * 2 ^ s := by rw [← Nat.pow_add]; congr 1; omega
  have hd : 2 ^ s ∣ x := by
    refine ⟨2 ^ (tz x - s) * (2 * m + 1), ?_⟩
    rw [← Nat.mul_assoc, Nat.mul_comm (2 ^ s), ← e]; exact hm
  exact Nat.div_mul_cancel hd

/-- Is x laid in the window (L, N) that was laid last? -/
def sut (W K L N x : Nat) : Prop := 0 < N ∧ L ≤ W - bitLen x ∧ W - L - N ≤ tz x ∧ N ≤ wl x + 2 * K
instance (W K L N x : Nat) : Decidable (sut W K L N x) := by unfold sut; infer_instance

/-- The bits of an exclusive or. -/
def xb (W K L N x : Nat) : List Bool :=
  if x = 0 then [false] else if sut W K L N x then [true, false] ++ bitsOf (x / 2 ^ (W - L - N)) N
  else [true, true] ++ bitsOf (W - bitLen x) K ++ bitsOf (wl x - 1) K ++ bitsOf (x / 2 ^ tz x) (wl x)

/-- The window that was laid last, behind x. -/
def nxt (W K : Nat) (p : Nat × Nat) (x : Nat) : Nat × Nat := if x = 0 ∨ sut W K p.1 p.2 x then p else (W - bitLen x, wl x)

theorem xb_0 (W K L N : Nat) : xb W K L N 0 = [false] := rfl
theorem xb_old (W K L N x : Nat) (h0 : x ≠ 0) (h : sut W K L N x) : xb W K L N x = [true, false] ++ bitsOf (x / 2 ^ (W - L - N)) N := by
  unfold xb; rw [if_neg h0, if_pos h]
theorem xb_new (W K L N x : Nat) (h0 : x ≠ 0) (h : ¬ sut W K L N x) : xb W K L N x = [true, true] ++ bitsOf (W - bitLen x) K ++ bitsOf (wl x - 1) K ++ bitsOf (x / 2 ^ tz x) (wl x) := by
  unfold xb; rw [if_neg h0, if_neg h]

/-- A window within W bits. -/
def Win (W : Nat) (p : Nat × Nat) : Prop := p.1 + p.2 ≤ W

theorem nxt_win (W K x : Nat) (p : Nat × Nat) (h : Win W p) (hx : x < 2 ^ W) (hW : W ≤ 64) : Win W (nxt W K p x) := by
  unfold nxt
  split
  · exact h
  · have := bitLen_le x W hx
    unfold Win wl
    simp only
    omega

theorem lt64 {x W : Nat} (hx : x < 2 ^ W) (hW : W ≤ 64) : x < 2 ^ 64 := Nat.lt_of_lt_of_le hx (Nat.pow_le_pow_right (by omega) hW)

/-- What is laid in the old window is as long as that. -/
theorem old_fits (W K L N x : Nat) (hx : x < 2 ^ W) (hw : L + N ≤ W) (h : sut W K L N x) : x / 2 ^ (W - L - N) < 2 ^ N := by
  obtain ⟨h1, h2, h3, h4⟩ := h
  have h5 := (bitLen_spec x).1
  have h6 := bitLen_le x W hx
  rw [Nat.div_lt_iff_lt_mul (Nat.two_pow_pos _), ← Nat.pow_add]
  exact Nat.lt_of_lt_of_le h5 (Nat.pow_le_pow_right (by omega) (by omega))

theorem new_fits (x : Nat) (h0 : x ≠ 0) (h : x < 2 ^ 64) : x / 2 ^ tz x < 2 ^ wl x := by
  have h5 := (bitLen_spec x).1
  have h6 := tz_lt x h0 h
  rw [Nat.div_lt_iff_lt_mul (Nat.two_pow_pos _), ← Nat.pow_add]
  exact Nat.lt_of_lt_of_le h5 (Nat.pow_le_pow_right (by omega) (by unfold wl; omega))

theorem pbits_inj (x y n : Nat) (r r' : List Bool) (hx : x < 2 ^ n) (hy : y < 2 ^ n) (h : bitsOf x n ++ r = bitsOf y n ++ r') : x = y ∧ r = r' := by
  obtain ⟨h1, h2⟩ := List.append_inj h (by simp)
  have : num (bitsOf x n) = num (bitsOf y n) := by rw [h1]
  rw [num_bitsOf, num_bitsOf, Nat.mod_eq_of_lt hx, Nat.mod_eq_of_lt hy] at this
  exact ⟨this, h2⟩

/-- The bits of unlike numbers are unlike, and none are the beginning of others. -/
theorem xb_inj (W K L N x y : Nat) (r r' : List Bool) (hW : W ≤ 64) (hK : W ≤ 2 ^ K) (hx : x < 2 ^ W) (hy : y < 2 ^ W) (hw : L + N ≤ W) (h : xb W K L N x ++ r = xb W K L N y ++ r') : x = y ∧ r = r' := by
  have hx6 := lt64 hx hW
  have hy6 := lt64 hy hW
  by_cases x0 : x = 0
  · subst x0
    by_cases y0 : y = 0
    · subst y0; exact ⟨rfl, List.append_cancel_left h⟩
    · exfalso
      rw [xb_0] at h
      by_cases sy : sut W K L N y
      · rw [xb_old _ _ _ _ _ y0 sy] at h; simp at h
      · rw [xb_new _ _ _ _ _ y0 sy] at h; simp at h
  by_cases y0 : y = 0
  · exfalso
    subst y0
    rw [xb_0] at h
    by_cases sx : sut W K L N x
    · rw [xb_old _ _ _ _ _ x0 sx] at h; simp at h
    · rw [xb_new _ _ _ _ _ x0 sx] at h; simp at h
  by_cases sx : sut W K L N x
  · by_cases sy : sut W K L N y
    · rw [xb_old _ _ _ _ _ x0 sx, xb_old _ _ _ _ _ y0 sy] at h
      simp only [List.cons_append, List.nil_append, List.cons.injEq, true_and] at h
      obtain ⟨h1, h2⟩ := pbits_inj _ _ _ _ _ (old_fits W K L N x hx hw sx) (old_fits W K L N y hy hw sy) h
      refine ⟨?_, h2⟩
      rw [← cut_back x (W - L - N) x0 hx6 sx.2.2.1, ← cut_back y (W - L - N) y0 hy6 sy.2.2.1, h1]
    · exfalso
      rw [xb_old _ _ _ _ _ x0 sx, xb_new _ _ _ _ _ y0 sy] at h; simp at h
  · by_cases sy : sut W K L N y
    · exfalso
      rw [xb_new _ _ _ _ _ x0 sx, xb_old _ _ _ _ _ y0 sy] at h; simp at h
    · rw [xb_new _ _ _ _ _ x0 sx, xb_new _ _ _ _ _ y0 sy] at h
      simp only [List.cons_append, List.nil_append, List.cons.injEq, true_and, List.append_assoc] at h
      have bx := bitLen_le x W hx
      have by_ := bitLen_le y W hy
      have px := bitLen_pos x x0
      have py := bitLen_pos y y0
      have wx := wl_pos x x0 hx6
      have wy := wl_pos y y0 hy6
      have tx := tz_lt x x0 hx6
      have ty := tz_lt y y0 hy6
      have wx' : wl x ≤ W := by unfold wl; omega
      have wy' : wl y ≤ W := by unfold wl; omega
      obtain ⟨h1, h2⟩ := pbits_inj _ _ _ _ _ (by omega) (by omega) h
      obtain ⟨h3, h4⟩ := pbits_inj _ _ _ _ _ (by omega) (by omega) h2
      have e1 : wl x = wl y := by omega
      have e2 : tz x = tz y := by unfold wl at e1; omega
      rw [e1] at h4
      obtain ⟨h5, h6⟩ := pbits_inj _ _ _ _ _ (by rw [← e1]; exact new_fits x x0 hx6) (new_fits y y0 hy6) h4
      refine ⟨?_, h6⟩
      rw [← cut_back x (tz x) x0 hx6 (Nat.le_refl _), ← cut_back y (tz y) y0 hy6 (Nat.le_refl _), h5, e2]

theorem xb_length (W K L N x : Nat) (hW : W ≤ 64) (hx : x < 2 ^ W) (hw : L + N ≤ W) : (xb W K L N x).length ≤ 2 + 2 * K + W := by
  have := bitLen_le x W hx
  have : wl x ≤ W := by unfold wl; omega
  unfold xb
  repeat' split
  · simp; omega
  · simp; omega
  · simp; omega

/-- The window that was laid last, behind value i. -/
def win (W K : Nat) (f : Nat → Nat) : Nat → Nat × Nat
  | 0 => (0, 0)
  | i + 1 => nxt W K (win W K f i) (f (i + 1) ^^^ f i)

/-- The bits of a value behind the first. -/
def xbf (W K : Nat) (f : Nat → Nat) (i : Nat) : List Bool := xb W K (win W K f i).1 (win W K f i).2 (f (i + 1) ^^^ f i)

/-- The bits of the first n values. -/
def cbn (W K : Nat) (f : Nat → Nat) : Nat → List Bool
  | 0 => []
  | 1 => bitsOf (f 0) W
  | n + 2 => cbn W K f (n + 1) ++ xbf W K f n

theorem cbn_one (W K : Nat) (f : Nat → Nat) : cbn W K f 1 = bitsOf (f 0) W := rfl
theorem cbn_step (W K : Nat) (f : Nat → Nat) (n : Nat) : cbn W K f (n + 2) = cbn W K f (n + 1) ++ xbf W K f n := rfl

theorem win_congr (W K : Nat) (f g : Nat → Nat) : ∀ i, (∀ j, j ≤ i → f j = g j) → win W K f i = win W K g i
  | 0, _ => rfl
  | i + 1, h => by simp only [win]; rw [win_congr W K f g i (fun j hj => h j (by omega)), h (i + 1) (by omega), h i (by omega)]

theorem xbf_congr (W K : Nat) (f g : Nat → Nat) (i : Nat) (h : ∀ j, j ≤ i + 1 → f j = g j) : xbf W K f i = xbf W K g i := by
  unfold xbf; rw [win_congr W K f g i (fun j hj => h j (by omega)), h (i + 1) (by omega), h i (by omega)]

theorem cbn_congr (W K : Nat) (f g : Nat → Nat) : ∀ n, (∀ i, i < n → f i = g i) → cbn W K f n = cbn W K g n
  | 0, _ => rfl
  | 1, h => by rw [cbn_one, cbn_one, h 0 (by omega)]
  | n + 2, h => by rw [cbn_step, cbn_step, cbn_congr W K f g (n + 1) (fun i hi => h i (by omega)), xbf_congr W K f g n (fun j hj => h j (by omega))]

theorem cbn_pre (W K : Nat) (f : Nat → Nat) (n : Nat) : ∃ r, cbn W K f (n + 1) = cbn W K f n ++ r := by
  cases n with
  | zero => exact ⟨_, rfl⟩
  | succ n => exact ⟨_, rfl⟩

theorem cbn_prefix (W K : Nat) (f : Nat → Nat) (n m : Nat) (h : n ≤ m) : ∃ r, cbn W K f m = cbn W K f n ++ r := by
  induction m with
  | zero => obtain rfl : n = 0 := by omega
            exact ⟨[], rfl⟩
  | succ m ih =>
    by_cases e : n = m + 1
    · subst e; exact ⟨[], by simp⟩
    · obtain ⟨r, hr⟩ := ih (by omega)
      obtain ⟨r2, hr2⟩ := cbn_pre W K f m
      exact ⟨r ++ r2, by rw [hr2, hr, List.append_assoc]⟩

theorem xor_lt (W a b : Nat) (ha : a < 2 ^ W) (hb : b < 2 ^ W) : a ^^^ b < 2 ^ W := Nat.xor_lt_two_pow ha hb

theorem win_win (W K : Nat) (f : Nat → Nat) (hW : W ≤ 64) : ∀ i, (∀ j, j ≤ i → f j < 2 ^ W) → Win W (win W K f i)
  | 0, _ => by unfold Win win; omega
  | i + 1, h => nxt_win W K _ _ (win_win W K f hW i (fun j hj => h j (by omega))) (xor_lt W _ _ (h _ (by omega)) (h _ (by omega))) hW

theorem xor_right (a b c : Nat) (h : a ^^^ c = b ^^^ c) : a = b := by
  have : (a ^^^ c) ^^^ c = (b ^^^ c) ^^^ c := by rw [h]
  rwa [Nat.xor_assoc, Nat.xor_self, Nat.xor_zero, Nat.xor_assoc, Nat.xor_self, Nat.xor_zero] at this

/-- What the next bits tell of the next value. -/
theorem xbf_inj (W K : Nat) (f g : Nat → Nat) (i : Nat) (r r' : List Bool) (hW : W ≤ 64) (hK : W ≤ 2 ^ K) (hf : ∀ j, j ≤ i + 1 → f j < 2 ^ W) (hg : g (i + 1) < 2 ^ W) (h : ∀ j, j ≤ i → f j = g j) (e : xbf W K f i ++ r = xbf W K g i ++ r') :
    f (i + 1) = g (i + 1) ∧ r = r' := by
  unfold xbf at e
  have hw := win_win W K f hW i (fun j hj => hf j (by omega))
  rw [← win_congr W K f g i h, ← h i (by omega)] at e
  obtain ⟨h1, h2⟩ := xb_inj W K _ _ _ _ r r' hW hK (xor_lt W _ _ (hf _ (by omega)) (hf i (by omega))) (xor_lt W _ _ hg (hf i (by omega))) hw e
  exact ⟨xor_right _ _ _ h1, h2⟩

/-- Columns of as many values whose bits begin alike are the same. -/
theorem cbn_inj (W K : Nat) (f g : Nat → Nat) (hW : W ≤ 64) (hK : W ≤ 2 ^ K) : ∀ n (r r' : List Bool), (∀ i, i < n → f i < 2 ^ W) → (∀ i, i < n → g i < 2 ^ W) → cbn W K f n ++ r = cbn W K g n ++ r' → (∀ i, i < n → f i = g i) ∧ r = r'
  | 0, r, r', _, _, h => ⟨fun i hi => by omega, h⟩
  | 1, r, r', hf, hg, h => by
    obtain ⟨h1, h2⟩ := pbits_inj _ _ W _ _ (hf 0 (by omega)) (hg 0 (by omega)) h
    refine ⟨fun i hi => ?_, h2⟩
    obtain rfl : i = 0 := by omega
    exact h1
  | n + 2, r, r', hf, hg, h => by
    rw [cbn_step, cbn_step, List.append_assoc, List.append_assoc] at h
    obtain ⟨h1, h2⟩ := cbn_inj W K f g hW hK (n + 1) _ _ (fun i hi => hf i (by omega)) (fun i hi => hg i (by omega)) h
    obtain ⟨h3, h4⟩ := xbf_inj W K f g n _ _ hW hK (fun j hj => hf j (by omega)) (hg _ (by omega)) (fun j hj => h1 j (by omega)) h2
    refine ⟨fun i hi => ?_, h4⟩
    by_cases e : i = n + 1
    · subst e; exact h3
    · exact h1 i (by omega)

theorem cbn_length (W K : Nat) (f : Nat → Nat) (hW : W ≤ 64) : ∀ n, (∀ i, i < n + 1 → f i < 2 ^ W) → (cbn W K f (n + 1)).length ≤ W + (2 + 2 * K + W) * n
  | 0, _ => by rw [cbn_one]; simp
  | n + 1, h => by
    rw [cbn_step]
    have h1 := cbn_length W K f hW n (fun i hi => h i (by omega))
    have h2 := xb_length W K _ _ _ hW (xor_lt W _ _ (h (n + 1) (by omega)) (h n (by omega))) (win_win W K f hW n (fun j hj => h j (by omega)))
    rw [List.length_append, Nat.mul_succ]
    unfold xbf
    omega

theorem cbn_length' (W K : Nat) (f : Nat → Nat) (n : Nat) (hW : W ≤ 64) (h : ∀ i, i < n → f i < 2 ^ W) : (cbn W K f n).length ≤ (2 + 2 * K + W) * n := by
  cases n with
  | zero => simp [cbn]
  | succ n => have := cbn_length W K f hW n h; rw [Nat.mul_succ]; omega

theorem take_eq_drop' (R l : List Bool) (a b : Nat) (h : R.take b = R.take a ++ l) : R.drop a = l ++ R.drop b := by
  have e1 := List.take_append_drop b R
  rw [h, List.append_assoc] at e1
  have e2 : R.take a ++ (l ++ R.drop b) = R.take a ++ R.drop a := by rw [e1, List.take_append_drop]
  exact (List.append_cancel_left e2).symm

theorem tkn_len' (R l : List Bool) (a b : Nat) (h : R.take b = R.take a ++ l) (ha : a ≤ R.length) (hb : b ≤ R.length) : b = a + l.length := by
  have := congrArg List.length h
  simp at this; omega

end Go.Proofs.YtpdaklklhoenhaaGreatDoor.M

/- The law's own num, EqPoints, wakes. -/
import Derived.Test.YtpdaklklhoenhaaGreatDoorE2J
import Derived.Deep.CutBlock
import Derived.Deep.DeepCutAuto
import Derived.Deep.CutRange
import Derived.Test.YtpdaklklhoenhaaGreatDoorD1Z
/- block: points, of a block's own parts. -/
namespace Go.Proofs.YtpdaklklhoenhaaGreatDoor
open Go.RowKit
open M
set_option linter.unusedVariables false
set_option linter.unusedSimpArgs false

/-- n points of noughts. -/
def ptN (n : Nat) : Array Value := madeCells (Value.agg #[.int .i64 0, .int .u64 0]).cells (n * 2)
theorem ptN_at (n i : Nat) (h : i < n) : (ptN n)[i * 2]? = some (.int .i64 0) ∧ (ptN n)[i * 2 + 1]? = some (.int .u64 0) := by
  unfold ptN
  have e0 : i * 2 % 2 = 0 := by omega
  have e1 : (i * 2 + 1) % 2 = 1 := by omega
  constructor
  · simp [madeCells, Value.cells, h]
  · simp [madeCells, Value.cells, e1, show i * 2 + 1 < n * 2 by omega]

theorem make_points (c : Nat) (h : c ≤ 4096) (w : World) :
    (Instr.makeSlice 30 (.int .i64 (c : Int)) (.int .i64 (c : Int))).run Tryz.prog w = .ok (.slice (some ⟨w.heap.size, 0, none⟩) c c) (w.alloc (.cells (ptN c) 51)) := by
  have hz : (Tryz.prog.info? 51).bind (·.zero) = some (.agg #[.int .i64 0, .int .u64 0]) := by kernel_rfl
  have hs : (Tryz.prog.info? 51).map (·.size) = some 2 := by kernel_rfl
  have hb : (Tryz.prog.info? 51).map (·.bytes) = some 16 := by kernel_rfl
  cases hi : Tryz.prog.info? 51 with
  | none => simp [hi] at hs
  | some i =>
    simp only [hi, Option.bind_some, Option.map_some, Option.some.injEq] at hz hs hb
    rw [run_make w 30 51 i _ Tryz.underlying30 hi hz .i64 .i64 (c : Int) (c : Int) (by omega) (by omega) (by rw [hb]; omega) (by omega)]
    rw [hs]; simp [ptN]

/-- n points of one's own, of which the first k are laid. -/
structure PW (w : World) (g n k : Nat) (t : Nat → Int) (v : Nat → Nat) : Prop where
  c1 : ∀ i, i < n → w.cell? ⟨g, i * 2, none⟩ = some (.int .i64 (if i < k then t i else 0))
  c2 : ∀ i, i < n → w.cell? ⟨g, i * 2 + 1, none⟩ = some (.int .u64 ((if i < k then v i else 0 : Nat) : Int))
  fz : ∀ j, w.frozen? ⟨g, j, none⟩ = false
  blk : ∃ cur : Array Value, w.heap[g]? = some (.cells cur 51 (0, 0))

theorem PW.new (w : World) (n : Nat) (t : Nat → Int) (v : Nat → Nat) : PW (w.alloc (.cells (ptN n) 51)) w.heap.size n 0 t v := by
  have hn := heap_alloc_new w (.cells (ptN n) 51)
  refine ⟨fun i hi => ?_, fun i hi => ?_, fun i => frozen_of_row _ _ _ _ _ hn, _, hn⟩
  · rw [cell_of_row _ _ _ _ _ _ hn, (ptN_at n i hi).1]; rfl
  · rw [cell_of_row _ _ _ _ _ _ hn, (ptN_at n i hi).2]; rfl

theorem PW.set {w : World} {g n k : Nat} {t : Nat → Int} {v : Nat → Nat} (h : PW w g n k t v) (hk : k < n) : PW ((w.setCell ⟨g, k * 2, none⟩ (.int .i64 (t k))).setCell ⟨g, k * 2 + 1, none⟩ (.int .u64 (v k : Int))) g n (k + 1) t v := by
  refine ⟨fun i hi => ?_, fun i hi => ?_, fun i => by rw [frozen_setCell, frozen_setCell]; exact h.fz i, ?_⟩
  · rw [cell_setCell_ne _ _ _ _ _ (by omega)]
    by_cases e : i = k
    · subst e
      rw [cell_setCell_eq _ _ _ _ _ (h.c1 i hi)]; simp
    · rw [cell_setCell_ne _ _ _ _ _ (by omega), h.c1 i hi]
      by_cases h1 : i < k
      · simp [h1, show i < k + 1 from by omega]
      · simp [h1, show ¬ i < k + 1 from by omega]
  · by_cases e : i = k
    · subst e
      rw [cell_setCell_eq _ _ _ _ (.int .u64 ((if i < i then v i else 0 : Nat) : Int)) (by rw [cell_setCell_ne _ _ _ _ _ (by omega)]; exact h.c2 i hi)]; simp
    · rw [cell_setCell_ne _ _ _ _ _ (by omega), cell_setCell_ne _ _ _ _ _ (by omega), h.c2 i hi]
      by_cases h1 : i < k
      · simp [h1, show i < k + 1 from by omega]
      · simp [h1, show ¬ i < k + 1 from by omega]
  · obtain ⟨cur, h1⟩ := h.blk
    exact ⟨_, heap_setCell_same _ _ _ _ _ _ (heap_setCell_same _ _ _ _ _ _ h1)⟩

theorem PW.lt {w : World} {g n k : Nat} {t : Nat → Int} {v : Nat → Nat} (h : PW w g n k t v) : g < w.heap.size := by
  obtain ⟨cur, h1⟩ := h.blk
  exact size_lt_of_row h1
theorem PW.drew {w : World} {g n k : Nat} {t : Nat → Int} {v : Nat → Nat} (h : PW w g n k t v) : PW w.drew g n k t v := ⟨h.c1, h.c2, h.fz, h.blk⟩
theorem PW.row {w : World} {g n : Nat} {t : Nat → Int} {v : Nat → Nat} (h : PW w g n n t v) : PRow w (some ⟨g, 0, none⟩) n t v := fun _ =>
  ⟨g, 0, rfl, fun i hi => ⟨by rw [Nat.zero_add, h.c1 i hi, if_pos hi], by rw [Nat.zero_add, h.c2 i hi, if_pos hi]⟩⟩

/-- What points tells. -/
def PtsEnd (n : Nat) (t : Nat → Int) (v : Nat → Nat) (w : World) (e : Ending) (w' : World) : Prop := ∃ g, e = .returned (.tuple #[.slice (some ⟨g, 0, none⟩) n n, .int .i64 0]) ∧ PRow w' (some ⟨g, 0, none⟩) n t v ∧ Below w.heap.size w w'

set_option maxRecDepth 100000 in
set_option maxHeartbeats 4000000 in
theorem points_good (kd co m na le gr ti va ct cv : Nat) (pt pv : Option Addr) (fi la : Int) (t : Nat → Int) (v : Nat → Nat) (tb vb : List Nat) (w : World) (hG : Good kd (m + 1) t v) (ht : ∀ i, i < m + 1 → I64 (t i)) (hf : ∀ i, i < m + 1 → v i < 18446744073709551616) (hval : ValIs kd (m + 1) v co vb) (htb : packed (tbn t (m + 1)) = tb) (hti : ti = tb.length) (hva : va = vb.length)
    (hna : na = nanN v (m + 1)) (hfi : fi = t 0) (hla : la = t m) (hle : le = leV v (m + 1)) (hgr : gr = grV v (m + 1)) (hT1 : IsBy w (.slice pt ti ct) tb) (hV1 : IsBy w (.slice pv va cv) vb) (hvb : ∀ n ∈ vb, n < 256) (hT : Tab64 w) :
    Calls Tryz.prog 34 #[.agg #[.int .i64 (kd : Int), .int .i64 ((m : Int) + 1), .int .i64 (na : Int), .int .i64 fi, .int .i64 la, .int .u64 (le : Int), .int .u64 (gr : Int), .int .i64 ((ti : Int) + (va : Int) + 55), .int .i64 (co : Int), .int .i64 (ti : Int), .int .i64 (va : Int), .slice pt ti ct, .slice pv va cv]] w (PtsEnd (m + 1) t v w) := by
  have hn : m + 1 ≤ 4096 := hG.hi
  have hvl := valIs_len kd (m + 1) v co vb hf hval
  have htl := tbn_bytes t (m + 1)
  rw [htb] at htl
  obtain ⟨q, hq⟩ : ∃ q, w.heap.size = q := ⟨_, rfl⟩
  obtain ⟨W1, hW1⟩ : ∃ W1, w.alloc (.cells #[.int .i64 (kd : Int), .int .i64 ((m : Int) + 1), .int .i64 (na : Int), .int .i64 fi, .int .i64 la, .int .u64 (le : Int), .int .u64 (gr : Int), .int .i64 ((ti : Int) + (va : Int) + 55), .int .i64 (co : Int), .int .i64 (ti : Int), .int .i64 (va : Int), .slice pt ti ct, .slice pv va cv] 68) = W1 := ⟨_, rfl⟩
  have HW : Hid (W1.heap[q]? = some (.cells #[.int .i64 (kd : Int), .int .i64 ((m : Int) + 1), .int .i64 (na : Int), .int .i64 fi, .int .i64 la, .int .u64 (le : Int), .int .u64 (gr : Int), .int .i64 ((ti : Int) + (va : Int) + 55), .int .i64 (co : Int), .int .i64 (ti : Int), .int .i64 (va : Int), .slice pt ti ct, .slice pv va cv] 68 (0, 0)) ∧ Below w.heap.size w W1) := by rw [← hW1, ← hq]; exact ⟨heap_alloc_new _ _, (Below.refl _ _).alloc (Nat.le_refl _) _⟩
  have HUt := hide (fun (w1 : World) (hB : Below w.heap.size w w1) => unpack_any (.slice pt ti ct) tb (m + 1) w1 (isBy_below hT1 hB) (by rw [← htb]; exact packed_lt _) (by omega) hn)
  rw [show (((m + 1 : Nat)) : Int) = (m : Int) + 1 from by simp] at HUt
  have HPk : Hid (Packs tb t (m + 1)) := ⟨ht, hG.up, htb⟩
  have HUv := hide (fun (w1 : World) (hB : Below w.heap.size w w1) => unpackValues_good kd co m na le gr ti va fi la ((ti : Int) + (va : Int) + 55) v (.slice pv va cv) vb w1 (isBy_below hV1 hB) hvb (by omega) hn hval (by have := hG.kd; omega) hf (hT.below hB))
  have HPo := hide (fun (g : Nat) (w1 : World) (hB : Below w.heap.size w w1) (hR : PRow w1 (some ⟨g, 0, none⟩) (m + 1) t v) => partsOf_good kd (some ⟨g, 0, none⟩) m (m + 1) t v w1 hR hG ht hf (hT.below hB))
  have HEQ : Hid (∀ (co' T V gt c : Nat) (p : Option Addr) (vb' : List Nat), T = (packed (tbn t (m + 1))).length → V = vb'.length → ValIs kd (m + 1) v co' vb' → ptA kd (m + 1) (nanN v (m + 1)) (t 0) (t (m + 1 - 1)) (leV v (m + 1)) (grV v (m + 1)) ((T : Int) + (V : Int) + 55) co' T V (.slice (some ⟨gt, 0, none⟩) T T) (.slice p V c) = ptA kd (m + 1) na fi la le gr ((ti : Int) + (va : Int) + 55) co ti va (.slice (some ⟨gt, 0, none⟩) ti ti) (.slice p va c)) := fun co' T V gt c p vb' h1 h2 h3 => by
    obtain ⟨rfl, rfl⟩ := valIs_one kd (m + 1) v co' co vb' vb h3 hval
    rw [Nat.add_sub_cancel, h1, h2, htb, ← hti, ← hva, hna, hfi, hla, hle, hgr]
  have hmk := make_points (m + 1) hn
  rw [show (((m + 1 : Nat)) : Int) = (m : Int) + 1 from by simp] at hmk
  clear hG ht hf hval htb hti hva hna hfi hla hle hgr hT1 hV1 hvb hT hvl htl
  have o0 : W1.cell? ⟨q, 0, none⟩ = some (.int .i64 (kd : Int)) := by rw [cell_of_row _ _ _ _ _ _ HW.out.1]; rfl
  have o1 : W1.cell? ⟨q, 1, none⟩ = some (.int .i64 ((m : Int) + 1)) := by rw [cell_of_row _ _ _ _ _ _ HW.out.1]; rfl
  have o2 : W1.cell? ⟨q, 2, none⟩ = some (.int .i64 (na : Int)) := by rw [cell_of_row _ _ _ _ _ _ HW.out.1]; rfl
  have o3 : W1.cell? ⟨q, 3, none⟩ = some (.int .i64 fi) := by rw [cell_of_row _ _ _ _ _ _ HW.out.1]; rfl
  have o4 : W1.cell? ⟨q, 4, none⟩ = some (.int .i64 la) := by rw [cell_of_row _ _ _ _ _ _ HW.out.1]; rfl
  have o5 : W1.cell? ⟨q, 5, none⟩ = some (.int .u64 (le : Int)) := by rw [cell_of_row _ _ _ _ _ _ HW.out.1]; rfl
  have o6 : W1.cell? ⟨q, 6, none⟩ = some (.int .u64 (gr : Int)) := by rw [cell_of_row _ _ _ _ _ _ HW.out.1]; rfl
  have o7 : W1.cell? ⟨q, 7, none⟩ = some (.int .i64 ((ti : Int) + (va : Int) + 55)) := by rw [cell_of_row _ _ _ _ _ _ HW.out.1]; rfl
  have o8 : W1.cell? ⟨q, 8, none⟩ = some (.int .i64 (co : Int)) := by rw [cell_of_row _ _ _ _ _ _ HW.out.1]; rfl
  have o9 : W1.cell? ⟨q, 9, none⟩ = some (.int .i64 (ti : Int)) := by rw [cell_of_row _ _ _ _ _ _ HW.out.1]; rfl
  have o10 : W1.cell? ⟨q, 10, none⟩ = some (.int .i64 (va : Int)) := by rw [cell_of_row _ _ _ _ _ _ HW.out.1]; rfl
  have o11 : W1.cell? ⟨q, 11, none⟩ = some (.slice pt ti ct) := by rw [cell_of_row _ _ _ _ _ _ HW.out.1]; rfl
  have o12 : W1.cell? ⟨q, 12, none⟩ = some (.slice pv va cv) := by rw [cell_of_row _ _ _ _ _ _ HW.out.1]; rfl
  have HQ := hide hq
  go_enter Tryz.func34, Tryz.ntmps34
  go_wp2_with fail
  (try rw [hW1])
  (try rw [hq])
  clear hW1 hq o0 o1 o2 o3 o4 o5 o6 o7 o8 o9 o10 o11 o12
  refine (HUt.out W1 HW.out.2).mono ?_
  intro e w2 hE
  rcases hE with ⟨rfl, B2, hno⟩ | ⟨g2, f2, rfl, hg2, hT2, B2, hP2, hf2⟩
  · exact absurd ⟨t, HPk.out⟩ hno
  have HT2 : Hid (TRow w2 (some ⟨g2, 0, none⟩) (m + 1) t) := fun h0 => by
    obtain ⟨b, o, hp, hc⟩ := hT2 h0
    exact ⟨b, o, hp, fun i hi => by rw [hc i hi, hf2 t (begins_of HPk.out) i hi]⟩
  have HW2 : Hid (w2.heap[q]? = some (.cells #[.int .i64 (kd : Int), .int .i64 ((m : Int) + 1), .int .i64 (na : Int), .int .i64 fi, .int .i64 la, .int .u64 (le : Int), .int .u64 (gr : Int), .int .i64 ((ti : Int) + (va : Int) + 55), .int .i64 (co : Int), .int .i64 (ti : Int), .int .i64 (va : Int), .slice pt ti ct, .slice pv va cv] 68 (0, 0)) ∧ Below w.heap.size w w2) := ⟨by rw [B2.block q (size_lt_of_row HW.out.1)]; exact HW.out.1, HW.out.2.trans (B2.mono HW.out.2.size)⟩
  clear B2 hg2 hT2 hP2 hf2 HW HUt HPk
  have o0 : w2.cell? ⟨q, 0, none⟩ = some (.int .i64 (kd : Int)) := by rw [cell_of_row _ _ _ _ _ _ HW2.out.1]; rfl
  have o1 : w2.cell? ⟨q, 1, none⟩ = some (.int .i64 ((m : Int) + 1)) := by rw [cell_of_row _ _ _ _ _ _ HW2.out.1]; rfl
  have o2 : w2.cell? ⟨q, 2, none⟩ = some (.int .i64 (na : Int)) := by rw [cell_of_row _ _ _ _ _ _ HW2.out.1]; rfl
  have o3 : w2.cell? ⟨q, 3, none⟩ = some (.int .i64 fi) := by rw [cell_of_row _ _ _ _ _ _ HW2.out.1]; rfl
  have o4 : w2.cell? ⟨q, 4, none⟩ = some (.int .i64 la) := by rw [cell_of_row _ _ _ _ _ _ HW2.out.1]; rfl
  have o5 : w2.cell? ⟨q, 5, none⟩ = some (.int .u64 (le : Int)) := by rw [cell_of_row _ _ _ _ _ _ HW2.out.1]; rfl
  have o6 : w2.cell? ⟨q, 6, none⟩ = some (.int .u64 (gr : Int)) := by rw [cell_of_row _ _ _ _ _ _ HW2.out.1]; rfl
  have o7 : w2.cell? ⟨q, 7, none⟩ = some (.int .i64 ((ti : Int) + (va : Int) + 55)) := by rw [cell_of_row _ _ _ _ _ _ HW2.out.1]; rfl
  have o8 : w2.cell? ⟨q, 8, none⟩ = some (.int .i64 (co : Int)) := by rw [cell_of_row _ _ _ _ _ _ HW2.out.1]; rfl
  have o9 : w2.cell? ⟨q, 9, none⟩ = some (.int .i64 (ti : Int)) := by rw [cell_of_row _ _ _ _ _ _ HW2.out.1]; rfl
  have o10 : w2.cell? ⟨q, 10, none⟩ = some (.int .i64 (va : Int)) := by rw [cell_of_row _ _ _ _ _ _ HW2.out.1]; rfl
  have o11 : w2.cell? ⟨q, 11, none⟩ = some (.slice pt ti ct) := by rw [cell_of_row _ _ _ _ _ _ HW2.out.1]; rfl
  have o12 : w2.cell? ⟨q, 12, none⟩ = some (.slice pv va cv) := by rw [cell_of_row _ _ _ _ _ _ HW2.out.1]; rfl
  go_wp2_with fail
  refine (HUv.out w2 HW2.out.2).mono ?_
  rintro e w3 ⟨p3, c3, rfl, hc3, R3, B3⟩
  have HR3 := hide R3
  have HW3 : Hid (w3.heap[q]? = some (.cells #[.int .i64 (kd : Int), .int .i64 ((m : Int) + 1), .int .i64 (na : Int), .int .i64 fi, .int .i64 la, .int .u64 (le : Int), .int .u64 (gr : Int), .int .i64 ((ti : Int) + (va : Int) + 55), .int .i64 (co : Int), .int .i64 (ti : Int), .int .i64 (va : Int), .slice pt ti ct, .slice pv va cv] 68 (0, 0)) ∧ Below w.heap.size w w3) := ⟨by rw [B3.block q (size_lt_of_row HW2.out.1)]; exact HW2.out.1, HW2.out.2.trans (B3.mono HW2.out.2.size)⟩
  have HT3 := hide (HT2.out.below B3)
  clear R3 B3 HUv HW2 HT2 o0 o1 o2 o3 o4 o5 o6 o7 o8 o9 o10 o11 o12
  have o1 : w3.cell? ⟨q, 1, none⟩ = some (.int .i64 ((m : Int) + 1)) := by rw [cell_of_row _ _ _ _ _ _ HW3.out.1]; rfl
  obtain ⟨g, hg⟩ : ∃ g, w3.heap.size = g := ⟨_, rfl⟩
  obtain ⟨W4, hW4⟩ : ∃ W4, w3.alloc (.cells (ptN (m + 1)) 51) = W4 := ⟨_, rfl⟩
  have HA : Hid (PW W4 g (m + 1) 0 t v ∧ Below g w3 W4) := by rw [← hW4, ← hg]; exact ⟨PW.new _ _ _ _, (Below.refl _ _).alloc (Nat.le_refl _) _⟩
  have HGG := hide hg
  go_upto_region 8 with fail
  (try rw [hW4])
  (try rw [hg])
  clear hW4 hg hmk o1
  go_upto_block 0 with fail
  go_cut [7] from 8 (fun t7 wc => t7 = .slice (some ⟨g, 0, none⟩) (m + 1) (m + 1) ∧ Hid (PW wc g (m + 1) (m + 1) t v ∧ Below g w3 wc))
  case first =>
    as_aux_lemma =>
      go_wp2_with fail
      go_loopw [39] (fun t39 wr => ∃ k : Nat, t39 = .int .i64 (k : Int) ∧ Hid (k ≤ m + 1 ∧ PW wr g (m + 1) k t v ∧ Below g w3 wr)) (fun t39 _ => m + 1 - (intOf t39).toNat)
      case atStart => exact ⟨0, rfl, Nat.zero_le _, HA.out⟩
      case round =>
        obtain ⟨k, rfl, hI⟩ := hrel
        by_cases hlt : k < m + 1
        · have hli : (k : Int) < (m : Int) + 1 := by omega
          obtain ⟨b5, o5, hp5, hc5⟩ := HT3.out (by omega)
          obtain ⟨b6, o6, hp6, hc6⟩ := HR3.out (by omega)
          simp only [Option.some.injEq, Addr.mk.injEq, and_true] at hp5
          obtain ⟨rfl, rfl⟩ := hp5
          have c5 : wr.cell? ⟨g2, k, none⟩ = some (.int .i64 (t k)) := by
            have := hc5 k hlt
            rw [Nat.zero_add] at this
            rw [hI.out.2.2.cell (p := ⟨g2, k, none⟩) (by rw [← HGG.out]; exact block_lt_of_cell this)]; exact this
          have c6 : wr.cell? ⟨b6, o6 + k, none⟩ = some (.int .u64 (v k : Int)) := by
            rw [hI.out.2.2.cell (p := ⟨b6, o6 + k, none⟩) (by rw [← HGG.out]; exact block_lt_of_cell (hc6 k hlt))]; exact hc6 k hlt
          have d1 : wr.cell? ⟨g, k * 2, none⟩ = some (.int .i64 0) := by rw [hI.out.2.1.c1 k hlt, if_neg (by omega)]
          have d2 : wr.cell? ⟨g, k * 2 + 1, none⟩ = some (.int .u64 0) := by rw [hI.out.2.1.c2 k hlt, if_neg (by omega)]; rfl
          have d3 := hI.out.2.1.fz (k * 2)
          have d4 := hI.out.2.1.fz (k * 2 + 1)
          obtain ⟨x, hx⟩ : ∃ x, t k = x := ⟨_, rfl⟩
          obtain ⟨y, hy⟩ : ∃ y, v k = y := ⟨_, rfl⟩
          have HN : Hid (PW ((wr.setCell ⟨g, k * 2, none⟩ (.int .i64 x)).setCell ⟨g, k * 2 + 1, none⟩ (.int .u64 (y : Int))) g (m + 1) (k + 1) t v ∧ Below g w3 ((wr.setCell ⟨g, k * 2, none⟩ (.int .i64 x)).setCell ⟨g, k * 2 + 1, none⟩ (.int .u64 (y : Int)))) := by
            rw [← hx, ← hy]; exact ⟨hI.out.2.1.set hlt, below_set (below_set hI.out.2.2 _ _ _ (Nat.le_refl _)) _ _ _ (Nat.le_refl _)⟩
          obtain ⟨X, hX⟩ : ∃ X, (wr.setCell ⟨g, k * 2, none⟩ (.int .i64 x)).setCell ⟨g, k * 2 + 1, none⟩ (.int .u64 (y : Int)) = X := ⟨_, rfl⟩
          rw [hX] at HN
          rw [hx] at c5
          rw [hy] at c6
          have HP6 := hide hp6
          rw [hp6]
          clear hc5 hc6 hx hy hp6
          go_wp2_with fail
          go_region
          (try rw [hX])
          clear hX c5 c6 d1 d2 d3 d4
          go_wp2_with fail
          go_roundw
          case rel => exact ⟨k + 1, by simp, hlt, HN.out.1.drew, HN.out.2.drew⟩
          case measure => simp [intOf]; omega
        · have hk : k = m + 1 := by have := hI.out.1; omega
          have hI' : Hid (PW wr g (m + 1) (m + 1) t v ∧ Below g w3 wr) := by have := hI.out.2; rw [hk] at this; exact this
          have hli : ¬ (k : Int) < (m : Int) + 1 := by omega
          go_wp2_with fail
          go_meet
          case rel => exact ⟨rfl, hI'.out⟩
  case rest =>
    obtain ⟨rfl, HC⟩ := hcut
    as_aux_lemma =>
      have HB4 : Hid (Below w.heap.size w wc) := HW3.out.2.trans (HC.out.2.mono (by rw [← HGG.out]; exact HW3.out.2.size))
      have HQ4 : Hid (wc.heap[q]? = some (.cells #[.int .i64 (kd : Int), .int .i64 ((m : Int) + 1), .int .i64 (na : Int), .int .i64 fi, .int .i64 la, .int .u64 (le : Int), .int .u64 (gr : Int), .int .i64 ((ti : Int) + (va : Int) + 55), .int .i64 (co : Int), .int .i64 (ti : Int), .int .i64 (va : Int), .slice pt ti ct, .slice pv va cv] 68 (0, 0))) := by show _ = _; rw [HC.out.2.block q (by rw [← HGG.out]; exact size_lt_of_row HW3.out.1)]; exact HW3.out.1
      have o0 : wc.cell? ⟨q, 0, none⟩ = some (.int .i64 (kd : Int)) := by rw [cell_of_row _ _ _ _ _ _ HQ4.out]; rfl
      have HPR := hide HC.out.1.row
      clear HC HW3 HT3 HR3 HA
      go_wp2_with fail
      refine (HPo.out g wc HB4.out HPR.out).mono ?_
      rintro e w5 ⟨co', T', V', gt, cx, px, vb', rfl, hT', -, hV', -, -, hval', B5⟩
      rw [HEQ.out co' T' V' gt cx px vb' hT' hV' hval']
      unfold ptA
      have HQ5 : Hid (w5.heap[q]? = some (.cells #[.int .i64 (kd : Int), .int .i64 ((m : Int) + 1), .int .i64 (na : Int), .int .i64 fi, .int .i64 la, .int .u64 (le : Int), .int .u64 (gr : Int), .int .i64 ((ti : Int) + (va : Int) + 55), .int .i64 (co : Int), .int .i64 (ti : Int), .int .i64 (va : Int), .slice pt ti ct, .slice pv va cv] 68 (0, 0)) ∧ Below w.heap.size w w5 ∧ PRow w5 (some ⟨g, 0, none⟩) (m + 1) t v) := ⟨by rw [B5.block q (size_lt_of_row HQ4.out)]; exact HQ4.out, HB4.out.trans (B5.mono HB4.out.size), HPR.out.below B5⟩
      clear hT' hV' hval' B5 HQ4 HB4 HPR o0 HPo HEQ
      obtain ⟨r, hr⟩ : ∃ r, w5.heap.size = r := ⟨_, rfl⟩
      obtain ⟨W6, hW6⟩ : ∃ W6, w5.alloc (.cells #[.int .i64 (kd : Int), .int .i64 ((m : Int) + 1), .int .i64 (na : Int), .int .i64 fi, .int .i64 la, .int .u64 (le : Int), .int .u64 (gr : Int), .int .i64 ((ti : Int) + (va : Int) + 55), .int .i64 (co : Int), .int .i64 (ti : Int), .int .i64 (va : Int), .slice (some ⟨gt, 0, none⟩) ti ti, .slice px va cx] 68) = W6 := ⟨_, rfl⟩
      have HW6 : Hid (W6.heap[r]? = some (.cells #[.int .i64 (kd : Int), .int .i64 ((m : Int) + 1), .int .i64 (na : Int), .int .i64 fi, .int .i64 la, .int .u64 (le : Int), .int .u64 (gr : Int), .int .i64 ((ti : Int) + (va : Int) + 55), .int .i64 (co : Int), .int .i64 (ti : Int), .int .i64 (va : Int), .slice (some ⟨gt, 0, none⟩) ti ti, .slice px va cx] 68 (0, 0)) ∧ W6.heap[q]? = some (.cells #[.int .i64 (kd : Int), .int .i64 ((m : Int) + 1), .int .i64 (na : Int), .int .i64 fi, .int .i64 la, .int .u64 (le : Int), .int .u64 (gr : Int), .int .i64 ((ti : Int) + (va : Int) + 55), .int .i64 (co : Int), .int .i64 (ti : Int), .int .i64 (va : Int), .slice pt ti ct, .slice pv va cv] 68 (0, 0)) ∧ PtsEnd (m + 1) t v w (.returned (.tuple #[.slice (some ⟨g, 0, none⟩) (m + 1) (m + 1), .int .i64 0])) W6) := by
        have hA : Below w5.heap.size w5 W6 := by rw [← hW6]; exact (Below.refl _ _).alloc (Nat.le_refl _) _
        refine ⟨by rw [← hW6, ← hr]; exact heap_alloc_new _ _, by rw [hA.block q (size_lt_of_row HQ5.out.1)]; exact HQ5.out.1, g, rfl, HQ5.out.2.2.below hA, HQ5.out.2.1.trans (hA.mono HQ5.out.2.1.size)⟩
      go_upto_region 14 with fail
      (try rw [hW6])
      (try rw [hr])
      clear hW6 hr HQ5
      have a0 : W6.cell? ⟨r, 0, none⟩ = some (.int .i64 (kd : Int)) := by rw [cell_of_row _ _ _ _ _ _ HW6.out.1]; rfl
      have a1 : W6.cell? ⟨r, 1, none⟩ = some (.int .i64 ((m : Int) + 1)) := by rw [cell_of_row _ _ _ _ _ _ HW6.out.1]; rfl
      have a2 : W6.cell? ⟨r, 2, none⟩ = some (.int .i64 (na : Int)) := by rw [cell_of_row _ _ _ _ _ _ HW6.out.1]; rfl
      have a3 : W6.cell? ⟨r, 3, none⟩ = some (.int .i64 fi) := by rw [cell_of_row _ _ _ _ _ _ HW6.out.1]; rfl
      have a4 : W6.cell? ⟨r, 4, none⟩ = some (.int .i64 la) := by rw [cell_of_row _ _ _ _ _ _ HW6.out.1]; rfl
      have a5 : W6.cell? ⟨r, 5, none⟩ = some (.int .u64 (le : Int)) := by rw [cell_of_row _ _ _ _ _ _ HW6.out.1]; rfl
      have a6 : W6.cell? ⟨r, 6, none⟩ = some (.int .u64 (gr : Int)) := by rw [cell_of_row _ _ _ _ _ _ HW6.out.1]; rfl
      have a7 : W6.cell? ⟨r, 7, none⟩ = some (.int .i64 ((ti : Int) + (va : Int) + 55)) := by rw [cell_of_row _ _ _ _ _ _ HW6.out.1]; rfl
      have a8 : W6.cell? ⟨r, 8, none⟩ = some (.int .i64 (co : Int)) := by rw [cell_of_row _ _ _ _ _ _ HW6.out.1]; rfl
      have a9 : W6.cell? ⟨r, 9, none⟩ = some (.int .i64 (ti : Int)) := by rw [cell_of_row _ _ _ _ _ _ HW6.out.1]; rfl
      have a10 : W6.cell? ⟨r, 10, none⟩ = some (.int .i64 (va : Int)) := by rw [cell_of_row _ _ _ _ _ _ HW6.out.1]; rfl
      have o0 : W6.cell? ⟨q, 0, none⟩ = some (.int .i64 (kd : Int)) := by rw [cell_of_row _ _ _ _ _ _ HW6.out.2.1]; rfl
      have o1 : W6.cell? ⟨q, 1, none⟩ = some (.int .i64 ((m : Int) + 1)) := by rw [cell_of_row _ _ _ _ _ _ HW6.out.2.1]; rfl
      have o2 : W6.cell? ⟨q, 2, none⟩ = some (.int .i64 (na : Int)) := by rw [cell_of_row _ _ _ _ _ _ HW6.out.2.1]; rfl
      have o3 : W6.cell? ⟨q, 3, none⟩ = some (.int .i64 fi) := by rw [cell_of_row _ _ _ _ _ _ HW6.out.2.1]; rfl
      have o4 : W6.cell? ⟨q, 4, none⟩ = some (.int .i64 la) := by rw [cell_of_row _ _ _ _ _ _ HW6.out.2.1]; rfl
      have o5 : W6.cell? ⟨q, 5, none⟩ = some (.int .u64 (le : Int)) := by rw [cell_of_row _ _ _ _ _ _ HW6.out.2.1]; rfl
      have o6 : W6.cell? ⟨q, 6, none⟩ = some (.int .u64 (gr : Int)) := by rw [cell_of_row _ _ _ _ _ _ HW6.out.2.1]; rfl
      have o7 : W6.cell? ⟨q, 7, none⟩ = some (.int .i64 ((ti : Int) + (va : Int) + 55)) := by rw [cell_of_row _ _ _ _ _ _ HW6.out.2.1]; rfl
      have o8 : W6.cell? ⟨q, 8, none⟩ = some (.int .i64 (co : Int)) := by rw [cell_of_row _ _ _ _ _ _ HW6.out.2.1]; rfl
      have o9 : W6.cell? ⟨q, 9, none⟩ = some (.int .i64 (ti : Int)) := by rw [cell_of_row _ _ _ _ _ _ HW6.out.2.1]; rfl
      have o10 : W6.cell? ⟨q, 10, none⟩ = some (.int .i64 (va : Int)) := by rw [cell_of_row _ _ _ _ _ _ HW6.out.2.1]; rfl
      have HFIN := hide HW6.out.2.2
      clear HW6
      go_wp2_with fail
      go_ret2
      exact HFIN.out

end Go.Proofs.YtpdaklklhoenhaaGreatDoor

/- block: Decode and Head of a block. -/
namespace Go.Proofs.YtpdaklklhoenhaaGreatDoor
open Go.RowKit
open M
set_option linter.unusedVariables false
set_option linter.unusedSimpArgs false

theorem u64_back (x : Int) (h : I64 x) : IntKind.i64.wrap (u64 x : Int) = x := by
  obtain ⟨h1, h2⟩ := h
  rw [IntKind.wrap_i64]; unfold u64; omega

theorem rises_span (t : Nat → Int) (m : Nat) (h : Rises t (m + 1)) : if m + 1 = 1 then t m = t 0 else t 0 < t m := by
  have key : ∀ k, k ≤ m → (k = 0 ∨ t 0 < t k) := by
    intro k
    induction k with
    | zero => intro _; exact .inl rfl
    | succ k ih =>
      intro hk
      have := h k (by omega)
      rcases ih (by omega) with rfl | h2
      · exact .inr this
      · exact .inr (by omega)
  split
  · rename_i h1
    obtain rfl : m = 0 := by omega
    rfl
  · rcases key m (Nat.le_refl _) with h0 | h0
    · omega
    · exact h0

theorem blkB_len (kd m : Nat) (t : Nat → Int) (v : Nat → Nat) (co : Nat) (vb : List Nat) : (blkB kd (m + 1) t v co vb).length = (packed (tbn t (m + 1))).length + vb.length + 55 := by
  unfold blkB sealB
  simp only [List.length_append, headB_len]
  have : ∀ x, (four x).length = 4 := fun x => rfl
  rw [this, this]; omega

/-- What headAt tells of a block, whatever stands behind its head. -/
theorem headAt_blk (kd : Nat) (m : Nat) (t : Nat → Int) (v : Nat → Nat) (co : Nat) (vb : List Nat) (b o n cap : Nat) (w : World) (hc : CellsAt w b o (blkB kd (m + 1) t v co vb)) (hn : 51 ≤ n) (hcap : n ≤ cap) (hn2 : n ≤ 1000000000000) (hG : Good kd (m + 1) t v) (ht : ∀ i, i < m + 1 → I64 (t i)) (hf : ∀ i, i < m + 1 → v i < 18446744073709551616) (hval : ValIs kd (m + 1) v co vb) (hC : TabC w) :
    Calls Tryz.prog 32 #[.slice (some ⟨b, o, none⟩) n cap] w (HeadEnd (hdA kd (m + 1) (nanN v (m + 1)) (t 0) (t m) (leV v (m + 1)) (grV v (m + 1)) (((packed (tbn t (m + 1))).length : Int) + (vb.length : Int) + 55) co (packed (tbn t (m + 1))).length vb.length) 0 w) := by
  have hvl := valIs_len kd (m + 1) v co vb hf hval
  have htl := tbn_bytes t (m + 1)
  have hhi := hG.hi
  have h1 : CellsAt w b o (sealB (packed (hdB kd co (m + 1) (nanN v (m + 1)) (u64 (t 0)) (u64 (t m)) (leV v (m + 1)) (grV v (m + 1)) (packed (tbn t (m + 1))).length vb.length))) := by
    have := CellsAt.left hc
    unfold headB at this
    rw [Nat.add_sub_cancel] at this
    exact this
  exact headAt_good kd co (m + 1) (nanN v (m + 1)) (u64 (t 0)) (u64 (t m)) (leV v (m + 1)) (grV v (m + 1)) (packed (tbn t (m + 1))).length vb.length (t 0) (t m) b o n cap w h1 hn hcap hn2
    ⟨by have := hG.kd; omega, hvl.2.1, hvl.2.2, hG.lo, hG.hi, nanN_le v _, rises_span t m hG.up⟩ (u64_lt _) (u64_lt _) (leV_lt _ _) (grV_lt _ _ hf) (by omega) (by omega) (u64_back _ (ht 0 (by omega))) (u64_back _ (ht m (by omega))) hC

/-- What Head tells of a block. -/
def HeadsEnd (kd m : Nat) (t : Nat → Int) (v : Nat → Nat) (N : Nat) (w : World) (e : Ending) (w' : World) : Prop := e = .returned (.tuple #[.agg (bhA kd (m + 1) (nanN v (m + 1)) (t 0) (t m) (leV v (m + 1)) (grV v (m + 1)) (N : Int)), .int .i64 0]) ∧ Below w.heap.size w w'

set_option maxRecDepth 100000 in
set_option maxHeartbeats 4000000 in
theorem head_good (kd : Nat) (m : Nat) (t : Nat → Int) (v : Nat → Nat) (co : Nat) (vb : List Nat) (b o n cap : Nat) (w : World) (hc : CellsAt w b o (blkB kd (m + 1) t v co vb)) (hn : 51 ≤ n) (hcap : n ≤ cap) (hn2 : n ≤ 1000000000000) (hG : Good kd (m + 1) t v) (ht : ∀ i, i < m + 1 → I64 (t i)) (hf : ∀ i, i < m + 1 → v i < 18446744073709551616) (hval : ValIs kd (m + 1) v co vb) (hC : TabC w) :
    Calls Tryz.prog 17 #[.slice (some ⟨b, o, none⟩) n cap] w (HeadsEnd kd m t v (blkB kd (m + 1) t v co vb).length w) := by
  have HH := hide (fun (w1 : World) (hB : Below w.heap.size w w1) => headAt_blk kd m t v co vb b o n cap w1 (hc.below hB) hn hcap hn2 hG ht hf hval (hC.below hB))
  have HN := hide (blkB_len kd m t v co vb)
  clear hc hn hcap hn2 hG ht hf hval hC
  unfold HeadsEnd
  rw [HN.out]
  obtain ⟨fi, hfi⟩ : ∃ x, t 0 = x := ⟨_, rfl⟩
  obtain ⟨la, hla⟩ : ∃ x, t m = x := ⟨_, rfl⟩
  obtain ⟨na, hna⟩ : ∃ x, nanN v (m + 1) = x := ⟨_, rfl⟩
  obtain ⟨le, hle⟩ : ∃ x, leV v (m + 1) = x := ⟨_, rfl⟩
  obtain ⟨gr, hgr⟩ : ∃ x, grV v (m + 1) = x := ⟨_, rfl⟩
  rw [hfi, hla, hna, hle, hgr] at HH ⊢
  obtain ⟨T, hT⟩ : ∃ T, (packed (tbn t (m + 1))).length = T := ⟨_, rfl⟩
  obtain ⟨V, hV⟩ : ∃ V, vb.length = V := ⟨_, rfl⟩
  rw [hT, hV] at HH ⊢
  clear hfi hla hna hle hgr hT hV HN
  unfold hdA at HH
  obtain ⟨g, hg⟩ : ∃ g, w.heap.size = g := ⟨_, rfl⟩
  obtain ⟨W1, hW1⟩ : ∃ W1, w.alloc (.cells #[.int .i64 0, .int .i64 0, .int .i64 0, .int .i64 0, .int .i64 0, .int .u64 0, .int .u64 0, .int .i64 0] 43) = W1 := ⟨_, rfl⟩
  have HW1 : Hid (W1.heap[g]? = some (.cells #[.int .i64 0, .int .i64 0, .int .i64 0, .int .i64 0, .int .i64 0, .int .u64 0, .int .u64 0, .int .i64 0] 43 (0, 0)) ∧ Below w.heap.size w W1) := by rw [← hW1, ← hg]; exact ⟨heap_alloc_new _ _, (Below.refl _ _).alloc (Nat.le_refl _) _⟩
  have HG := hide hg
  go_enter Tryz.func17, Tryz.ntmps17
  go_wp2_with fail
  (try rw [hW1])
  (try rw [hg])
  clear hW1 hg
  refine (HH.out W1 HW1.out.2).mono ?_
  rintro e w2 ⟨rfl, B2⟩
  have HW2 : Hid (w2.heap[g]? = some (.cells #[.int .i64 0, .int .i64 0, .int .i64 0, .int .i64 0, .int .i64 0, .int .u64 0, .int .u64 0, .int .i64 0] 43 (0, 0)) ∧ Below w.heap.size w w2) := ⟨by rw [B2.block g (size_lt_of_row HW1.out.1)]; exact HW1.out.1, HW1.out.2.trans (B2.mono HW1.out.2.size)⟩
  clear B2 HH HW1
  obtain ⟨r, hr⟩ : ∃ r, w2.heap.size = r := ⟨_, rfl⟩
  obtain ⟨W3, hW3⟩ : ∃ W3, w2.alloc (.cells #[.int .i64 (kd : Int), .int .i64 ((m : Int) + 1), .int .i64 (na : Int), .int .i64 fi, .int .i64 la, .int .u64 (le : Int), .int .u64 (gr : Int), .int .i64 ((T : Int) + (V : Int) + 55), .int .i64 (co : Int), .int .i64 (T : Int), .int .i64 (V : Int)] 66) = W3 := ⟨_, rfl⟩
  have HW3 : Hid (W3.heap[r]? = some (.cells #[.int .i64 (kd : Int), .int .i64 ((m : Int) + 1), .int .i64 (na : Int), .int .i64 fi, .int .i64 la, .int .u64 (le : Int), .int .u64 (gr : Int), .int .i64 ((T : Int) + (V : Int) + 55), .int .i64 (co : Int), .int .i64 (T : Int), .int .i64 (V : Int)] 66 (0, 0)) ∧ W3.heap[g]? = some (.cells #[.int .i64 0, .int .i64 0, .int .i64 0, .int .i64 0, .int .i64 0, .int .u64 0, .int .u64 0, .int .i64 0] 43 (0, 0)) ∧ Below w.heap.size w W3) := by
    have hA : Below w2.heap.size w2 W3 := by rw [← hW3]; exact (Below.refl _ _).alloc (Nat.le_refl _) _
    exact ⟨by rw [← hW3, ← hr]; exact heap_alloc_new _ _, by rw [hA.block g (size_lt_of_row HW2.out.1)]; exact HW2.out.1, HW2.out.2.trans (hA.mono HW2.out.2.size)⟩
  go_upto_region 2 with fail
  (try rw [hW3])
  (try rw [hr])
  clear hW3 hr HW2
  have o0 : W3.cell? ⟨r, 0, none⟩ = some (.int .i64 (kd : Int)) := by rw [cell_of_row _ _ _ _ _ _ HW3.out.1]; rfl
  have o1 : W3.cell? ⟨r, 1, none⟩ = some (.int .i64 ((m : Int) + 1)) := by rw [cell_of_row _ _ _ _ _ _ HW3.out.1]; rfl
  have o2 : W3.cell? ⟨r, 2, none⟩ = some (.int .i64 (na : Int)) := by rw [cell_of_row _ _ _ _ _ _ HW3.out.1]; rfl
  have o3 : W3.cell? ⟨r, 3, none⟩ = some (.int .i64 fi) := by rw [cell_of_row _ _ _ _ _ _ HW3.out.1]; rfl
  have o4 : W3.cell? ⟨r, 4, none⟩ = some (.int .i64 la) := by rw [cell_of_row _ _ _ _ _ _ HW3.out.1]; rfl
  have o5 : W3.cell? ⟨r, 5, none⟩ = some (.int .u64 (le : Int)) := by rw [cell_of_row _ _ _ _ _ _ HW3.out.1]; rfl
  have o6 : W3.cell? ⟨r, 6, none⟩ = some (.int .u64 (gr : Int)) := by rw [cell_of_row _ _ _ _ _ _ HW3.out.1]; rfl
  have o7 : W3.cell? ⟨r, 7, none⟩ = some (.int .i64 ((T : Int) + (V : Int) + 55)) := by rw [cell_of_row _ _ _ _ _ _ HW3.out.1]; rfl
  have z0 : W3.cell? ⟨g, 0, none⟩ = some (.int .i64 0) := by rw [cell_of_row _ _ _ _ _ _ HW3.out.2.1]; rfl
  have y0 : W3.frozen? ⟨g, 0, none⟩ = false := frozen_of_row _ _ _ _ _ HW3.out.2.1
  have z1 : W3.cell? ⟨g, 1, none⟩ = some (.int .i64 0) := by rw [cell_of_row _ _ _ _ _ _ HW3.out.2.1]; rfl
  have y1 : W3.frozen? ⟨g, 1, none⟩ = false := frozen_of_row _ _ _ _ _ HW3.out.2.1
  have z2 : W3.cell? ⟨g, 2, none⟩ = some (.int .i64 0) := by rw [cell_of_row _ _ _ _ _ _ HW3.out.2.1]; rfl
  have y2 : W3.frozen? ⟨g, 2, none⟩ = false := frozen_of_row _ _ _ _ _ HW3.out.2.1
  have z3 : W3.cell? ⟨g, 3, none⟩ = some (.int .i64 0) := by rw [cell_of_row _ _ _ _ _ _ HW3.out.2.1]; rfl
  have y3 : W3.frozen? ⟨g, 3, none⟩ = false := frozen_of_row _ _ _ _ _ HW3.out.2.1
  have z4 : W3.cell? ⟨g, 4, none⟩ = some (.int .i64 0) := by rw [cell_of_row _ _ _ _ _ _ HW3.out.2.1]; rfl
  have y4 : W3.frozen? ⟨g, 4, none⟩ = false := frozen_of_row _ _ _ _ _ HW3.out.2.1
  have z5 : W3.cell? ⟨g, 5, none⟩ = some (.int .u64 0) := by rw [cell_of_row _ _ _ _ _ _ HW3.out.2.1]; rfl
  have y5 : W3.frozen? ⟨g, 5, none⟩ = false := frozen_of_row _ _ _ _ _ HW3.out.2.1
  have z6 : W3.cell? ⟨g, 6, none⟩ = some (.int .u64 0) := by rw [cell_of_row _ _ _ _ _ _ HW3.out.2.1]; rfl
  have y6 : W3.frozen? ⟨g, 6, none⟩ = false := frozen_of_row _ _ _ _ _ HW3.out.2.1
  have z7 : W3.cell? ⟨g, 7, none⟩ = some (.int .i64 0) := by rw [cell_of_row _ _ _ _ _ _ HW3.out.2.1]; rfl
  have y7 : W3.frozen? ⟨g, 7, none⟩ = false := frozen_of_row _ _ _ _ _ HW3.out.2.1
  have HFR : Hid (((((((((W3.setCell ⟨g, 0, none⟩ (.int .i64 (kd : Int))).setCell ⟨g, 1, none⟩ (.int .i64 ((m : Int) + 1))).setCell ⟨g, 2, none⟩ (.int .i64 (na : Int))).setCell ⟨g, 3, none⟩ (.int .i64 fi)).setCell ⟨g, 4, none⟩ (.int .i64 la)).setCell ⟨g, 5, none⟩ (.int .u64 (le : Int))).setCell ⟨g, 6, none⟩ (.int .u64 (gr : Int))).setCell ⟨g, 7, none⟩ (.int .i64 ((T : Int) + (V : Int) + 55))).heap[g]? = some (.cells #[.int .i64 (kd : Int), .int .i64 ((m : Int) + 1), .int .i64 (na : Int), .int .i64 fi, .int .i64 la, .int .u64 (le : Int), .int .u64 (gr : Int), .int .i64 ((T : Int) + (V : Int) + 55)] 43 (0, 0)) ∧ Below w.heap.size w ((((((((W3.setCell ⟨g, 0, none⟩ (.int .i64 (kd : Int))).setCell ⟨g, 1, none⟩ (.int .i64 ((m : Int) + 1))).setCell ⟨g, 2, none⟩ (.int .i64 (na : Int))).setCell ⟨g, 3, none⟩ (.int .i64 fi)).setCell ⟨g, 4, none⟩ (.int .i64 la)).setCell ⟨g, 5, none⟩ (.int .u64 (le : Int))).setCell ⟨g, 6, none⟩ (.int .u64 (gr : Int))).setCell ⟨g, 7, none⟩ (.int .i64 ((T : Int) + (V : Int) + 55)))) := ⟨set_row8 _ _ _ _ _ _ _ _ _ _ _ _ _ _ _ _ _ _ _ HW3.out.2.1, below_row8 HW3.out.2.2 _ _ _ _ _ _ _ _ _ (Nat.le_of_eq HG.out)⟩
  clear HW3
  go_wp2_with fail
  generalize ((((((((W3.setCell ⟨g, 0, none⟩ (.int .i64 (kd : Int))).setCell ⟨g, 1, none⟩ (.int .i64 ((m : Int) + 1))).setCell ⟨g, 2, none⟩ (.int .i64 (na : Int))).setCell ⟨g, 3, none⟩ (.int .i64 fi)).setCell ⟨g, 4, none⟩ (.int .i64 la)).setCell ⟨g, 5, none⟩ (.int .u64 (le : Int))).setCell ⟨g, 6, none⟩ (.int .u64 (gr : Int))).setCell ⟨g, 7, none⟩ (.int .i64 ((T : Int) + (V : Int) + 55))) = WF at *
  have u0 : WF.cell? ⟨g, 0, none⟩ = some (.int .i64 (kd : Int)) := by rw [cell_of_row _ _ _ _ _ _ HFR.out.1]; rfl
  have u1 : WF.cell? ⟨g, 1, none⟩ = some (.int .i64 ((m : Int) + 1)) := by rw [cell_of_row _ _ _ _ _ _ HFR.out.1]; rfl
  have u2 : WF.cell? ⟨g, 2, none⟩ = some (.int .i64 (na : Int)) := by rw [cell_of_row _ _ _ _ _ _ HFR.out.1]; rfl
  have u3 : WF.cell? ⟨g, 3, none⟩ = some (.int .i64 fi) := by rw [cell_of_row _ _ _ _ _ _ HFR.out.1]; rfl
  have u4 : WF.cell? ⟨g, 4, none⟩ = some (.int .i64 la) := by rw [cell_of_row _ _ _ _ _ _ HFR.out.1]; rfl
  have u5 : WF.cell? ⟨g, 5, none⟩ = some (.int .u64 (le : Int)) := by rw [cell_of_row _ _ _ _ _ _ HFR.out.1]; rfl
  have u6 : WF.cell? ⟨g, 6, none⟩ = some (.int .u64 (gr : Int)) := by rw [cell_of_row _ _ _ _ _ _ HFR.out.1]; rfl
  have u7 : WF.cell? ⟨g, 7, none⟩ = some (.int .i64 ((T : Int) + (V : Int) + 55)) := by rw [cell_of_row _ _ _ _ _ _ HFR.out.1]; rfl
  exact bodyPost_ret (v := .tuple #[.agg (bhA kd (m + 1) na fi la le gr (((T + V + 55 : Nat)) : Int)), .int .i64 0]) (by simp [results, Tryz.results17, go_sem, bhA, u0, u1, u2, u3, u4, u5, u6, u7]) rfl ⟨rfl, HFR.out.2⟩

/-- What Decode tells of a block. -/
def DecdEnd (kd n : Nat) (t : Nat → Int) (v : Nat → Nat) (w : World) (e : Ending) (w' : World) : Prop := ∃ g, e = .returned (.tuple #[.int .i64 (kd : Int), .slice (some ⟨g, 0, none⟩) n n, .int .i64 0]) ∧ PRow w' (some ⟨g, 0, none⟩) n t v ∧ Below w.heap.size w w'

set_option maxRecDepth 100000 in
set_option maxHeartbeats 4000000 in
theorem decode_good (kd : Nat) (m : Nat) (t : Nat → Int) (v : Nat → Nat) (co : Nat) (vb : List Nat) (b o n K : Nat) (w : World) (hc : CellsAt w b o (blkB kd (m + 1) t v co vb)) (hn : n = (blkB kd (m + 1) t v co vb).length) (hcap : n ≤ K + 51) (hK2 : K ≤ 1000000000000) (hG : Good kd (m + 1) t v) (ht : ∀ i, i < m + 1 → I64 (t i)) (hf : ∀ i, i < m + 1 → v i < 18446744073709551616) (hval : ValIs kd (m + 1) v co vb) (hvb : ∀ n ∈ vb, n < 256) (hT : Tab64 w) (hC : TabC w) :
    Calls Tryz.prog 16 #[.slice (some ⟨b, o, none⟩) n (K + 51)] w (DecdEnd kd (m + 1) t v w) := by
  have hvl := valIs_len kd (m + 1) v co vb hf hval
  have htl := tbn_bytes t (m + 1)
  have hhi := hG.hi
  rw [blkB_len] at hn
  have HH := hide (headAt_blk kd m t v co vb b o n (K + 51) w hc (by omega) hcap (by omega) hG ht hf hval hC)
  have hrest : CellsAt w b (o + 51) (sealB (packed (tbn t (m + 1)) ++ vb)) := by
    have := CellsAt.right hc
    have e : (sealB (headB kd (m + 1) t v co (packed (tbn t (m + 1))).length vb.length)).length = 51 := by unfold sealB; rw [List.length_append, headB_len]; rfl
    rw [e] at this; exact this
  obtain ⟨tb, htb⟩ : ∃ tb, packed (tbn t (m + 1)) = tb := ⟨_, rfl⟩
  have htb2 : ∀ n ∈ tb, n < 256 := by rw [← htb]; exact packed_lt _
  rw [htb] at hrest hn htl
  obtain ⟨fi, hfi⟩ : ∃ x, t 0 = x := ⟨_, rfl⟩
  obtain ⟨la, hla⟩ : ∃ x, t m = x := ⟨_, rfl⟩
  obtain ⟨na, hna⟩ : ∃ x, nanN v (m + 1) = x := ⟨_, rfl⟩
  obtain ⟨le, hle⟩ : ∃ x, leV v (m + 1) = x := ⟨_, rfl⟩
  obtain ⟨gr, hgr⟩ : ∃ x, grV v (m + 1) = x := ⟨_, rfl⟩
  obtain ⟨T, hTT⟩ : ∃ T, tb.length = T := ⟨_, rfl⟩
  obtain ⟨V, hVV⟩ : ∃ V, vb.length = V := ⟨_, rfl⟩
  rw [htb, hfi, hla, hna, hle, hgr, hTT, hVV] at HH
  rw [hTT, hVV] at hn
  subst hn
  have HA := hide (fun (w1 : World) (hB : Below w.heap.size w w1) => takeApart_good kd co (m + 1) na le gr T V fi la b o K tb vb w1 (hrest.below hB) hTT hVV htb2 hvb (by omega) (by omega) (by omega) hK2 (hC.below hB))
  have HP := hide (fun (w1 : World) (hB : Below w.heap.size w w1) => points_good kd co m na le gr T V K (K - T) (some ⟨b, o + 51, none⟩) (some ⟨b, o + 51 + T, none⟩) fi la t v tb vb w1 hG ht hf hval htb hTT.symm hVV.symm hna.symm hfi.symm hla.symm hle.symm hgr.symm
    (by have := (CellsAt.left (CellsAt.left (hrest.below hB))).by_ K; rw [hTT] at this; exact this)
    (by have := (CellsAt.right (CellsAt.left (hrest.below hB))).by_ (K - T); rw [hTT, hVV] at this; exact this) hvb (hT.below hB))
  clear hc hG ht hf hval hvb hT hC hvl htl hrest htb htb2 hfi hla hna hle hgr hTT hVV
  unfold hdA at HH
  unfold ptA at HA
  rw [show (((m + 1 : Nat)) : Int) = (m : Int) + 1 from by simp] at HH HA
  go_enter Tryz.func16, Tryz.ntmps16
  go_wp2_with fail
  refine HH.out.mono ?_
  rintro e w2 ⟨rfl, B2⟩
  obtain ⟨r, hr⟩ : ∃ r, w2.heap.size = r := ⟨_, rfl⟩
  obtain ⟨W3, hW3⟩ : ∃ W3, w2.alloc (.cells #[.int .i64 (kd : Int), .int .i64 ((m : Int) + 1), .int .i64 (na : Int), .int .i64 fi, .int .i64 la, .int .u64 (le : Int), .int .u64 (gr : Int), .int .i64 ((T : Int) + (V : Int) + 55), .int .i64 (co : Int), .int .i64 (T : Int), .int .i64 (V : Int)] 66) = W3 := ⟨_, rfl⟩
  have HW3 : Hid (W3.heap[r]? = some (.cells #[.int .i64 (kd : Int), .int .i64 ((m : Int) + 1), .int .i64 (na : Int), .int .i64 fi, .int .i64 la, .int .u64 (le : Int), .int .u64 (gr : Int), .int .i64 ((T : Int) + (V : Int) + 55), .int .i64 (co : Int), .int .i64 (T : Int), .int .i64 (V : Int)] 66 (0, 0)) ∧ Below w.heap.size w W3) := by
    have hA : Below w2.heap.size w2 W3 := by rw [← hW3]; exact (Below.refl _ _).alloc (Nat.le_refl _) _
    exact ⟨by rw [← hW3, ← hr]; exact heap_alloc_new _ _, B2.trans (hA.mono B2.size)⟩
  clear B2 HH
  have o0 : W3.cell? ⟨r, 0, none⟩ = some (.int .i64 (kd : Int)) := by rw [cell_of_row _ _ _ _ _ _ HW3.out.1]; rfl
  have o1 : W3.cell? ⟨r, 1, none⟩ = some (.int .i64 ((m : Int) + 1)) := by rw [cell_of_row _ _ _ _ _ _ HW3.out.1]; rfl
  have o2 : W3.cell? ⟨r, 2, none⟩ = some (.int .i64 (na : Int)) := by rw [cell_of_row _ _ _ _ _ _ HW3.out.1]; rfl
  have o3 : W3.cell? ⟨r, 3, none⟩ = some (.int .i64 fi) := by rw [cell_of_row _ _ _ _ _ _ HW3.out.1]; rfl
  have o4 : W3.cell? ⟨r, 4, none⟩ = some (.int .i64 la) := by rw [cell_of_row _ _ _ _ _ _ HW3.out.1]; rfl
  have o5 : W3.cell? ⟨r, 5, none⟩ = some (.int .u64 (le : Int)) := by rw [cell_of_row _ _ _ _ _ _ HW3.out.1]; rfl
  have o6 : W3.cell? ⟨r, 6, none⟩ = some (.int .u64 (gr : Int)) := by rw [cell_of_row _ _ _ _ _ _ HW3.out.1]; rfl
  have o7 : W3.cell? ⟨r, 7, none⟩ = some (.int .i64 ((T : Int) + (V : Int) + 55)) := by rw [cell_of_row _ _ _ _ _ _ HW3.out.1]; rfl
  have o8 : W3.cell? ⟨r, 8, none⟩ = some (.int .i64 (co : Int)) := by rw [cell_of_row _ _ _ _ _ _ HW3.out.1]; rfl
  have o9 : W3.cell? ⟨r, 9, none⟩ = some (.int .i64 (T : Int)) := by rw [cell_of_row _ _ _ _ _ _ HW3.out.1]; rfl
  have o10 : W3.cell? ⟨r, 10, none⟩ = some (.int .i64 (V : Int)) := by rw [cell_of_row _ _ _ _ _ _ HW3.out.1]; rfl
  go_wp2_with fail
  (try rw [hW3])
  (try rw [hr])
  clear hW3 hr
  refine (HA.out W3 HW3.out.2).mono ?_
  rintro e w4 ⟨rfl, B4⟩
  have HW4 : Hid (w4.heap[r]? = some (.cells #[.int .i64 (kd : Int), .int .i64 ((m : Int) + 1), .int .i64 (na : Int), .int .i64 fi, .int .i64 la, .int .u64 (le : Int), .int .u64 (gr : Int), .int .i64 ((T : Int) + (V : Int) + 55), .int .i64 (co : Int), .int .i64 (T : Int), .int .i64 (V : Int)] 66 (0, 0)) ∧ Below w.heap.size w w4) := ⟨by rw [B4.block r (size_lt_of_row HW3.out.1)]; exact HW3.out.1, HW3.out.2.trans (B4.mono HW3.out.2.size)⟩
  clear B4 HW3 HA o0 o1 o2 o3 o4 o5 o6 o7 o8 o9 o10
  obtain ⟨q, hq⟩ : ∃ q, w4.heap.size = q := ⟨_, rfl⟩
  obtain ⟨W5, hW5⟩ : ∃ W5, w4.alloc (.cells #[.int .i64 (kd : Int), .int .i64 ((m : Int) + 1), .int .i64 (na : Int), .int .i64 fi, .int .i64 la, .int .u64 (le : Int), .int .u64 (gr : Int), .int .i64 ((T : Int) + (V : Int) + 55), .int .i64 (co : Int), .int .i64 (T : Int), .int .i64 (V : Int), .slice (some ⟨b, o + 51, none⟩) T K, .slice (some ⟨b, o + 51 + T, none⟩) V (K - T)] 68) = W5 := ⟨_, rfl⟩
  have HW5 : Hid (W5.heap[q]? = some (.cells #[.int .i64 (kd : Int), .int .i64 ((m : Int) + 1), .int .i64 (na : Int), .int .i64 fi, .int .i64 la, .int .u64 (le : Int), .int .u64 (gr : Int), .int .i64 ((T : Int) + (V : Int) + 55), .int .i64 (co : Int), .int .i64 (T : Int), .int .i64 (V : Int), .slice (some ⟨b, o + 51, none⟩) T K, .slice (some ⟨b, o + 51 + T, none⟩) V (K - T)] 68 (0, 0)) ∧ W5.heap[r]? = some (.cells #[.int .i64 (kd : Int), .int .i64 ((m : Int) + 1), .int .i64 (na : Int), .int .i64 fi, .int .i64 la, .int .u64 (le : Int), .int .u64 (gr : Int), .int .i64 ((T : Int) + (V : Int) + 55), .int .i64 (co : Int), .int .i64 (T : Int), .int .i64 (V : Int)] 66 (0, 0)) ∧ Below w.heap.size w W5) := by
    have hA : Below w4.heap.size w4 W5 := by rw [← hW5]; exact (Below.refl _ _).alloc (Nat.le_refl _) _
    exact ⟨by rw [← hW5, ← hq]; exact heap_alloc_new _ _, by rw [hA.block r (size_lt_of_row HW4.out.1)]; exact HW4.out.1, HW4.out.2.trans (hA.mono HW4.out.2.size)⟩
  have o0 : W5.cell? ⟨q, 0, none⟩ = some (.int .i64 (kd : Int)) := by rw [cell_of_row _ _ _ _ _ _ HW5.out.1]; rfl
  have o1 : W5.cell? ⟨q, 1, none⟩ = some (.int .i64 ((m : Int) + 1)) := by rw [cell_of_row _ _ _ _ _ _ HW5.out.1]; rfl
  have o2 : W5.cell? ⟨q, 2, none⟩ = some (.int .i64 (na : Int)) := by rw [cell_of_row _ _ _ _ _ _ HW5.out.1]; rfl
  have o3 : W5.cell? ⟨q, 3, none⟩ = some (.int .i64 fi) := by rw [cell_of_row _ _ _ _ _ _ HW5.out.1]; rfl
  have o4 : W5.cell? ⟨q, 4, none⟩ = some (.int .i64 la) := by rw [cell_of_row _ _ _ _ _ _ HW5.out.1]; rfl
  have o5 : W5.cell? ⟨q, 5, none⟩ = some (.int .u64 (le : Int)) := by rw [cell_of_row _ _ _ _ _ _ HW5.out.1]; rfl
  have o6 : W5.cell? ⟨q, 6, none⟩ = some (.int .u64 (gr : Int)) := by rw [cell_of_row _ _ _ _ _ _ HW5.out.1]; rfl
  have o7 : W5.cell? ⟨q, 7, none⟩ = some (.int .i64 ((T : Int) + (V : Int) + 55)) := by rw [cell_of_row _ _ _ _ _ _ HW5.out.1]; rfl
  have o8 : W5.cell? ⟨q, 8, none⟩ = some (.int .i64 (co : Int)) := by rw [cell_of_row _ _ _ _ _ _ HW5.out.1]; rfl
  have o9 : W5.cell? ⟨q, 9, none⟩ = some (.int .i64 (T : Int)) := by rw [cell_of_row _ _ _ _ _ _ HW5.out.1]; rfl
  have o10 : W5.cell? ⟨q, 10, none⟩ = some (.int .i64 (V : Int)) := by rw [cell_of_row _ _ _ _ _ _ HW5.out.1]; rfl
  have o11 : W5.cell? ⟨q, 11, none⟩ = some (.slice (some ⟨b, o + 51, none⟩) T K) := by rw [cell_of_row _ _ _ _ _ _ HW5.out.1]; rfl
  have o12 : W5.cell? ⟨q, 12, none⟩ = some (.slice (some ⟨b, o + 51 + T, none⟩) V (K - T)) := by rw [cell_of_row _ _ _ _ _ _ HW5.out.1]; rfl
  go_wp2_with fail
  (try rw [hW5])
  (try rw [hq])
  clear hW5 hq
  refine (HP.out W5 HW5.out.2.2).mono ?_
  rintro e w6 ⟨g, rfl, hrow, B6⟩
  have k0 : w6.cell? ⟨r, 0, none⟩ = some (.int .i64 (kd : Int)) := by
    have k5 : W5.cell? ⟨r, 0, none⟩ = some (.int .i64 (kd : Int)) := by rw [cell_of_row _ _ _ _ _ _ HW5.out.2.1]; rfl
    rw [B6.cell (p := ⟨r, 0, none⟩) (block_lt_of_cell k5)]; exact k5
  have HF : Hid (DecdEnd kd (m + 1) t v w (.returned (.tuple #[.int .i64 (kd : Int), .slice (some ⟨g, 0, none⟩) (m + 1) (m + 1), .int .i64 0])) w6) := ⟨g, rfl, hrow, HW5.out.2.2.trans (B6.mono HW5.out.2.2.size)⟩
  clear hrow B6 HW5 HW4 HP o0 o1 o2 o3 o4 o5 o6 o7 o8 o9 o10 o11 o12
  go_wp2_with fail
  go_ret3
  exact HF.out

end Go.Proofs.YtpdaklklhoenhaaGreatDoor

namespace Go.Proofs.YtpdaklklhoenhaaGreatDoor
open Go.RowKit
open M
set_option linter.unusedVariables false
set_option linter.unusedSimpArgs false

theorem num9_any (n : Int) (w : World) : Calls Tryz.prog 18 #[.int .i64 n] w fun e w' => e = .returned (.int .i64 n) ∧ w' = w := by
  go_enter Tryz.func18, Tryz.ntmps18
  go_wp2
  go_ret
  exact ⟨rfl, rfl⟩

set_option maxRecDepth 100000 in
theorem eqPoints_same (p q : Option Addr) (n cap cap' : Nat) (t : Nat → Int) (v : Nat → Nat) (w : World) (h : PRow w p n t v) (h' : PRow w q n t v) (hn : n ≤ 1000000) :
    Calls Tryz.prog 19 #[.slice p n cap, .slice q n cap'] w fun e w' => e = .returned (.bool true) ∧ ∃ m, w' = w.drewN m := by
  have H := hide h
  have H' := hide h'
  clear h h'
  go_enter Tryz.func19, Tryz.ntmps19
  go_wp2_with fail
  go_loopw [5] (fun i wr => ∃ k : Nat, i = .int .i64 (k : Int) ∧ Hid (k ≤ n) ∧ Hid (∃ m, wr = w.drewN m)) (fun i _ => n - (intOf i).toNat)
  case atStart => exact ⟨0, rfl, Nat.zero_le _, 0, rfl⟩
  case round =>
    obtain ⟨k, rfl, hk, hm⟩ := hrel
    by_cases hlt : k < n
    · obtain ⟨b, o, rfl, hc⟩ := H.out (by omega)
      obtain ⟨b', o', rfl, hc'⟩ := H'.out (by omega)
      obtain ⟨x, hx⟩ : ∃ x, t k = x := ⟨_, rfl⟩
      obtain ⟨y, hy⟩ : ∃ y, v k = y := ⟨_, rfl⟩
      have c1 : wr.cell? ⟨b, o + k * 2, none⟩ = some (.int .i64 x) := by obtain ⟨m, rfl⟩ := hm.out; rw [← hx]; exact (hc k hlt).1
      have c2 : wr.cell? ⟨b, o + k * 2 + 1, none⟩ = some (.int .u64 (y : Int)) := by obtain ⟨m, rfl⟩ := hm.out; rw [← hy]; exact (hc k hlt).2
      have c3 : wr.cell? ⟨b', o' + k * 2, none⟩ = some (.int .i64 x) := by obtain ⟨m, rfl⟩ := hm.out; rw [← hx]; exact (hc' k hlt).1
      have c4 : wr.cell? ⟨b', o' + k * 2 + 1, none⟩ = some (.int .u64 (y : Int)) := by obtain ⟨m, rfl⟩ := hm.out; rw [← hy]; exact (hc' k hlt).2
      clear hx hy hc hc'
      go_wp2_with fail
      go_region
      go_wp2_with fail
      go_roundw
      case rel => exact ⟨k + 1, by simp, hlt, by obtain ⟨m, rfl⟩ := hm.out; exact ⟨m + 1, rfl⟩⟩
      case measure => simp [intOf]; omega
    · go_wp2_with fail
      go_ret
      exact ⟨rfl, hm.out⟩

/-- The two points of wakes. -/
def wkT (i : Nat) : Int := if i = 0 then -5 else 9
def wkV (i : Nat) : Nat := if i = 0 then 1 else 18442240474082181121
theorem wk_up : Rises wkT (1 + 1) := fun i hi => by
  obtain rfl : i = 0 := by omega
  decide
theorem wk_good : Good ((1 : Nat) : Int) (1 + 1) wkT wkV := ⟨rfl, by omega, by omega, wk_up⟩
theorem wk_t (i : Nat) (h : i < 1 + 1) : I64 (wkT i) := by
  obtain rfl | rfl : i = 0 ∨ i = 1 := by omega
  · unfold I64 wkT; decide
  · unfold I64 wkT; decide
theorem wk_v (i : Nat) (h : i < 1 + 1) : wkV i < 18446744073709551616 := by
  obtain rfl | rfl : i = 0 ∨ i = 1 := by omega
  · decide
  · decide
theorem wk_sum : nanN wkV 2 = 1 ∧ leV wkV 2 = 1 ∧ grV wkV 2 = 1 := by decide +kernel

set_option maxRecDepth 100000 in
set_option maxHeartbeats 4000000 in
theorem wakes9_any (w : World) (hT : Tab64 w) (hC : TabC w) : Calls Tryz.prog 12 #[] w fun e w' => e = .returned (.bool true) ∧ Below w.heap.size w w' := by
  obtain ⟨g, hg⟩ : ∃ g, w.heap.size = g := ⟨_, rfl⟩
  obtain ⟨W1, hW1⟩ : ∃ W1, w.alloc (.cells #[.int .i64 (-5), .int .u64 1, .int .i64 9, .int .u64 18442240474082181121] 51) = W1 := ⟨_, rfl⟩
  have HW1 : Hid (PRow W1 (some ⟨g, 0, none⟩) 2 wkT wkV ∧ Below w.heap.size w W1 ∧ Tab64 W1 ∧ TabC W1) := by
    have hA : Below w.heap.size w W1 := by rw [← hW1]; exact (Below.refl _ _).alloc (Nat.le_refl _) _
    have hn : W1.heap[g]? = some (.cells #[.int .i64 (-5), .int .u64 1, .int .i64 9, .int .u64 18442240474082181121] 51 (0, 0)) := by rw [← hW1, ← hg]; exact heap_alloc_new _ _
    refine ⟨fun _ => ⟨g, 0, rfl, fun i hi => ?_⟩, hA, hT.below hA, hC.below hA⟩
    obtain rfl | rfl : i = 0 ∨ i = 1 := by omega
    · exact ⟨by rw [cell_of_row _ _ _ _ _ _ hn]; rfl, by rw [cell_of_row _ _ _ _ _ _ hn]; rfl⟩
    · exact ⟨by rw [cell_of_row _ _ _ _ _ _ hn]; rfl, by rw [cell_of_row _ _ _ _ _ _ hn]; rfl⟩
  have HE := hide (encode_good 1 (some ⟨g, 0, none⟩) 1 2 wkT wkV W1 HW1.out.1 wk_good wk_t wk_v HW1.out.2.2.1 HW1.out.2.2.2)
  clear hT hC
  go_enter Tryz.func12, Tryz.ntmps12
  go_wp2_with fail
  (try rw [hW1])
  (try rw [hg])
  clear hW1 hg
  refine HE.out.mono ?_
  rintro e w2 ⟨co, vb, gb, rfl, hrow, hval, hvb, B2⟩
  have HB2 : Hid (Below w.heap.size w w2) := HW1.out.2.1.trans (B2.mono HW1.out.2.1.size)
  have HP2 := hide (HW1.out.1.below B2)
  have hT2 := HW1.out.2.2.1.below B2
  have hC2 := HW1.out.2.2.2.below B2
  have hvl := valIs_len 1 2 wkV co vb wk_v hval
  have htl : (packed (tbn wkT (1 + 1))).length ≤ 18 := tbn_bytes wkT (1 + 1)
  have hbl : (blkB 1 (1 + 1) wkT wkV co vb).length = (packed (tbn wkT (1 + 1))).length + vb.length + 55 := blkB_len 1 1 wkT wkV co vb
  obtain ⟨N, hN⟩ : ∃ N, (blkB 1 (1 + 1) wkT wkV co vb).length = N := ⟨_, rfl⟩
  have hNb : 55 ≤ N ∧ N ≤ 1000 := by rw [← hN, hbl]; omega
  have hcells : CellsAt w2 gb 0 (blkB 1 (1 + 1) wkT wkV co vb) := fun i hi => by
    rw [Nat.zero_add, cell_of_row _ _ _ _ _ _ hrow]; simp [bytesV, List.getD, hi]
  have HD : Hid (∀ K, N = K + 51 → Calls Tryz.prog 16 #[.slice (some ⟨gb, 0, none⟩) N N] w2 (DecdEnd 1 (1 + 1) wkT wkV w2)) := fun K hK => by
    have := decode_good 1 1 wkT wkV co vb gb 0 N K w2 hcells hN.symm (by omega) (by omega) wk_good wk_t wk_v hval hvb hT2 hC2
    rw [← hK] at this; exact this
  have HH := hide (fun (w3 : World) (hB : Below w2.heap.size w2 w3) => head_good 1 1 wkT wkV co vb gb 0 N N w3 (hcells.below hB) (by omega) (Nat.le_refl _) (by omega) wk_good wk_t wk_v hval (hC2.below hB))
  rw [hN] at HH ⊢
  have HNB := hide hNb
  clear B2 hT2 hC2 hvl htl hbl hN hNb hcells hrow hval hvb HE HW1
  have hN1 : 55 ≤ N := HNB.out.1
  have hN2 : N ≤ 1000 := HNB.out.2
  go_wp2_with fail
  refine (HD.out (N - 51) (by omega)).mono ?_
  rintro e w3 ⟨gp, rfl, hp, B3⟩
  have HB3 : Hid (Below w.heap.size w w3) := HB2.out.trans (B3.mono HB2.out.size)
  have HP3 : Hid (PRow w3 (some ⟨g, 0, none⟩) 2 wkT wkV ∧ PRow w3 (some ⟨gp, 0, none⟩) 2 wkT wkV) := ⟨HP2.out.below B3, hp⟩
  have HH3 := hide (HH.out w3 B3)
  clear hp B3 HD HH HP2
  go_wp2_with fail
  refine HH3.out.mono ?_
  rintro e w4 ⟨rfl, B4⟩
  have HB4 : Hid (Below w.heap.size w w4) := HB3.out.trans (B4.mono HB3.out.size)
  have HP4 : Hid (PRow w4 (some ⟨g, 0, none⟩) 2 wkT wkV ∧ PRow w4 (some ⟨gp, 0, none⟩) 2 wkT wkV) := ⟨HP3.out.1.below B4, HP3.out.2.below B4⟩
  clear B4 HH3 HP3 HB2 HB3
  rw [show nanN wkV (1 + 1) = 1 from wk_sum.1, show leV wkV (1 + 1) = 1 from wk_sum.2.1, show grV wkV (1 + 1) = 1 from wk_sum.2.2, show wkT 0 = -5 from rfl, show wkT 1 = 9 from rfl]
  unfold bhA
  obtain ⟨r, hr⟩ : ∃ r, w4.heap.size = r := ⟨_, rfl⟩
  obtain ⟨W5, hW5⟩ : ∃ W5, w4.alloc (.cells #[.int .i64 1, .int .i64 2, .int .i64 1, .int .i64 (-5), .int .i64 9, .int .u64 1, .int .u64 1, .int .i64 (N : Int)] 43) = W5 := ⟨_, rfl⟩
  have HW5 : Hid (W5.heap[r]? = some (.cells #[.int .i64 1, .int .i64 2, .int .i64 1, .int .i64 (-5), .int .i64 9, .int .u64 1, .int .u64 1, .int .i64 (N : Int)] 43 (0, 0)) ∧ Below w.heap.size w W5 ∧ PRow W5 (some ⟨g, 0, none⟩) 2 wkT wkV ∧ PRow W5 (some ⟨gp, 0, none⟩) 2 wkT wkV) := by
    have hA : Below w4.heap.size w4 W5 := by rw [← hW5]; exact (Below.refl _ _).alloc (Nat.le_refl _) _
    exact ⟨by rw [← hW5, ← hr]; exact heap_alloc_new _ _, HB4.out.trans (hA.mono HB4.out.size), HP4.out.1.below hA, HP4.out.2.below hA⟩
  go_upto_region 5 with fail
  (try rw [hW5])
  (try rw [hr])
  clear hW5 hr HP4 HB4
  go_wp2_with fail
  refine (num9_any _ _).mono ?_
  rintro e wn ⟨rfl, hwn⟩
  have hwn := hwn.symm
  subst hwn
  go_wp2_with fail
  refine (num9_any _ _).mono ?_
  rintro e wn ⟨rfl, hwn⟩
  have hwn := hwn.symm
  subst hwn
  go_wp2_with fail
  refine (num9_any _ _).mono ?_
  rintro e wn ⟨rfl, hwn⟩
  have hwn := hwn.symm
  subst hwn
  go_wp2_with fail
  refine (eqPoints_same _ _ 2 _ _ wkT wkV _ HW5.out.2.2.1 HW5.out.2.2.2 (by omega)).mono ?_
  rintro e w6 ⟨rfl, md, rfl⟩
  have k0 : (W5.drewN md).cell? ⟨r, 0, none⟩ = some (.int .i64 1) := by show W5.cell? ⟨r, 0, none⟩ = _; rw [cell_of_row _ _ _ _ _ _ HW5.out.1]; rfl
  have k1 : (W5.drewN md).cell? ⟨r, 1, none⟩ = some (.int .i64 2) := by show W5.cell? ⟨r, 1, none⟩ = _; rw [cell_of_row _ _ _ _ _ _ HW5.out.1]; rfl
  have k2 : (W5.drewN md).cell? ⟨r, 2, none⟩ = some (.int .i64 1) := by show W5.cell? ⟨r, 2, none⟩ = _; rw [cell_of_row _ _ _ _ _ _ HW5.out.1]; rfl
  have k3 : (W5.drewN md).cell? ⟨r, 3, none⟩ = some (.int .i64 (-5)) := by show W5.cell? ⟨r, 3, none⟩ = _; rw [cell_of_row _ _ _ _ _ _ HW5.out.1]; rfl
  have k4 : (W5.drewN md).cell? ⟨r, 4, none⟩ = some (.int .i64 9) := by show W5.cell? ⟨r, 4, none⟩ = _; rw [cell_of_row _ _ _ _ _ _ HW5.out.1]; rfl
  have k5 : (W5.drewN md).cell? ⟨r, 5, none⟩ = some (.int .u64 1) := by show W5.cell? ⟨r, 5, none⟩ = _; rw [cell_of_row _ _ _ _ _ _ HW5.out.1]; rfl
  have k6 : (W5.drewN md).cell? ⟨r, 6, none⟩ = some (.int .u64 1) := by show W5.cell? ⟨r, 6, none⟩ = _; rw [cell_of_row _ _ _ _ _ _ HW5.out.1]; rfl
  have k7 : (W5.drewN md).cell? ⟨r, 7, none⟩ = some (.int .i64 (N : Int)) := by show W5.cell? ⟨r, 7, none⟩ = _; rw [cell_of_row _ _ _ _ _ _ HW5.out.1]; rfl
  have HF : Hid (Below w.heap.size w (W5.drewN md)) := below_drewN HW5.out.2.1 md
  clear HW5
  go_wp2_with fail
  go_ret
  exact ⟨by simp, HF.out⟩

end Go.Proofs.YtpdaklklhoenhaaGreatDoor

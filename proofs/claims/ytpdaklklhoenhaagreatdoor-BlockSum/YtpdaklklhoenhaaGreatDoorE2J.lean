/- block: unpackValues. -/
import Derived.Test.YtpdaklklhoenhaaGreatDoorD1Z
import Derived.Test.YtpdaklklhoenhaaGreatDoorD1V
import Derived.Test.YtpdaklklhoenhaaGreatDoorD1W
/- block: mayBe, headAt. -/
namespace Go.Proofs.YtpdaklklhoenhaaGreatDoor
open Go.RowKit
open M
set_option linter.unusedVariables false
set_option linter.unusedSimpArgs false

theorem isCoding_any (k : Nat) (w : World) (h1 : 1 ≤ k) (h6 : k ≤ 6) : Calls Tryz.prog 82 #[.int .i64 (k : Int)] w fun e w' => e = .returned (.bool true) ∧ w' = w := by
  go_enter Tryz.func82, Tryz.ntmps82
  go_wp2_with fail
  go_ret
  exact ⟨by simp <;> omega, rfl⟩

theorem spanMayBe_any (kd ct na le gr co ti va : Nat) (fi la by_ : Int) (w : World) (h : if ct = 1 then la = fi else fi < la) :
    Calls Tryz.prog 83 #[.agg #[.int .i64 (kd : Int), .int .i64 (ct : Int), .int .i64 (na : Int), .int .i64 fi, .int .i64 la, .int .u64 (le : Int), .int .u64 (gr : Int), .int .i64 by_, .int .i64 (co : Int), .int .i64 (ti : Int), .int .i64 (va : Int)]] w fun e w' => e = .returned (.bool true) ∧ Below w.heap.size w w' := by
  have HB : Hid (Below w.heap.size w (w.alloc (.cells #[.int .i64 (kd : Int), .int .i64 (ct : Int), .int .i64 (na : Int), .int .i64 fi, .int .i64 la, .int .u64 (le : Int), .int .u64 (gr : Int), .int .i64 by_, .int .i64 (co : Int), .int .i64 (ti : Int), .int .i64 (va : Int)] 66))) := (Below.refl _ _).alloc (Nat.le_refl _) _
  by_cases h1 : ct = 1
  · rw [if_pos h1] at h
    subst h1
    subst h
    go_enter Tryz.func83, Tryz.ntmps83
    go_wp2_with fail
    go_ret
    exact ⟨by simp, HB.out⟩
  · rw [if_neg h1] at h
    have e1 : ((ct : Int) == 1) = false := by rw [beq_eq_false_iff_ne]; omega
    go_enter Tryz.func83, Tryz.ntmps83
    go_wp2_with fail
    go_ret
    exact ⟨by simp <;> omega, HB.out⟩

/-- A head that a block may have. -/
structure HdOk (kd ct na co : Nat) (fi la : Int) : Prop where
  kd : kd = 1 ∨ kd = 2
  co1 : 1 ≤ co
  co6 : co ≤ 6
  ct1 : 1 ≤ ct
  ct4 : ct ≤ 4096
  na : na ≤ ct
  span : if ct = 1 then la = fi else fi < la

set_option maxRecDepth 100000 in
theorem mayBe_any (kd ct na le gr co ti va : Nat) (fi la by_ : Int) (w : World) (h : HdOk kd ct na co fi la) :
    Calls Tryz.prog 53 #[.agg #[.int .i64 (kd : Int), .int .i64 (ct : Int), .int .i64 (na : Int), .int .i64 fi, .int .i64 la, .int .u64 (le : Int), .int .u64 (gr : Int), .int .i64 by_, .int .i64 (co : Int), .int .i64 (ti : Int), .int .i64 (va : Int)]] w fun e w' => e = .returned (.bool true) ∧ Below w.heap.size w w' := by
  have HK : Hid (∀ w, Calls Tryz.prog 64 #[.int .i64 (kd : Int)] w fun e w' => e = .returned (.bool true) ∧ w' = w) := fun w => by
    have := isKind_any (kd : Int) w
    rw [decide_eq_true (by rcases h.kd with h | h <;> omega)] at this; exact this
  have HC : Hid (∀ w, Calls Tryz.prog 65 #[.int .i64 (ct : Int)] w fun e w' => e = .returned (.bool true) ∧ w' = w) := fun w => by
    have := isCount_any ct w (by have := h.ct4; omega)
    rw [decide_eq_true ⟨h.ct1, h.ct4⟩] at this; exact this
  have HD := hide (fun w : World => isCoding_any co w h.co1 h.co6)
  have HS := hide (fun w : World => spanMayBe_any kd ct na le gr co ti va fi la by_ w h.span)
  have hna : (na : Int) ≤ (ct : Int) := by have := h.na; omega
  clear h
  obtain ⟨g, hg⟩ : ∃ g, w.heap.size = g := ⟨_, rfl⟩
  obtain ⟨W1, hW1⟩ : ∃ W1, w.alloc (.cells #[.int .i64 (kd : Int), .int .i64 (ct : Int), .int .i64 (na : Int), .int .i64 fi, .int .i64 la, .int .u64 (le : Int), .int .u64 (gr : Int), .int .i64 by_, .int .i64 (co : Int), .int .i64 (ti : Int), .int .i64 (va : Int)] 66) = W1 := ⟨_, rfl⟩
  have HW : Hid (W1.heap[g]? = some (.cells #[.int .i64 (kd : Int), .int .i64 (ct : Int), .int .i64 (na : Int), .int .i64 fi, .int .i64 la, .int .u64 (le : Int), .int .u64 (gr : Int), .int .i64 by_, .int .i64 (co : Int), .int .i64 (ti : Int), .int .i64 (va : Int)] 66 (0, 0)) ∧ Below g w W1) := by rw [← hW1, ← hg]; exact ⟨heap_alloc_new _ _, (Below.refl _ _).alloc (Nat.le_refl _) _⟩
  have HG := hide hg
  have o0 : W1.cell? ⟨g, 0, none⟩ = some (.int .i64 (kd : Int)) := by rw [cell_of_row _ _ _ _ _ _ HW.out.1]; rfl
  have o1 : W1.cell? ⟨g, 1, none⟩ = some (.int .i64 (ct : Int)) := by rw [cell_of_row _ _ _ _ _ _ HW.out.1]; rfl
  have o2 : W1.cell? ⟨g, 2, none⟩ = some (.int .i64 (na : Int)) := by rw [cell_of_row _ _ _ _ _ _ HW.out.1]; rfl
  have o3 : W1.cell? ⟨g, 3, none⟩ = some (.int .i64 fi) := by rw [cell_of_row _ _ _ _ _ _ HW.out.1]; rfl
  have o4 : W1.cell? ⟨g, 4, none⟩ = some (.int .i64 la) := by rw [cell_of_row _ _ _ _ _ _ HW.out.1]; rfl
  have o5 : W1.cell? ⟨g, 5, none⟩ = some (.int .u64 (le : Int)) := by rw [cell_of_row _ _ _ _ _ _ HW.out.1]; rfl
  have o6 : W1.cell? ⟨g, 6, none⟩ = some (.int .u64 (gr : Int)) := by rw [cell_of_row _ _ _ _ _ _ HW.out.1]; rfl
  have o7 : W1.cell? ⟨g, 7, none⟩ = some (.int .i64 by_) := by rw [cell_of_row _ _ _ _ _ _ HW.out.1]; rfl
  have o8 : W1.cell? ⟨g, 8, none⟩ = some (.int .i64 (co : Int)) := by rw [cell_of_row _ _ _ _ _ _ HW.out.1]; rfl
  have o9 : W1.cell? ⟨g, 9, none⟩ = some (.int .i64 (ti : Int)) := by rw [cell_of_row _ _ _ _ _ _ HW.out.1]; rfl
  have o10 : W1.cell? ⟨g, 10, none⟩ = some (.int .i64 (va : Int)) := by rw [cell_of_row _ _ _ _ _ _ HW.out.1]; rfl
  go_enter Tryz.func53, Tryz.ntmps53
  go_wp2_with fail
  (try rw [hW1])
  (try rw [hg])
  clear hW1 hg
  refine (HK.out _).mono ?_
  rintro e w2 ⟨rfl, hw⟩
  obtain rfl := hw
  go_wp2_with fail
  refine (HD.out _).mono ?_
  rintro e w3 ⟨rfl, hw⟩
  obtain rfl := hw
  go_wp2_with fail
  refine (HC.out _).mono ?_
  rintro e w4 ⟨rfl, hw⟩
  obtain rfl := hw
  go_wp2_with fail
  refine (HS.out _).mono ?_
  rintro e w5 ⟨rfl, B5⟩
  have HF : Hid (Below w.heap.size w w5) := by rw [HG.out]; exact HW.out.2.trans (B5.mono (Nat.le_of_lt (size_lt_of_row HW.out.1)))
  clear B5 HW o0 o1 o2 o3 o4 o5 o6 o7 o8 o9 o10
  go_wp2_with fail
  go_ret
  exact ⟨rfl, HF.out⟩

theorem four_num (x : Nat) (h : x < 4294967296) : x / 16777216 % 256 * 16777216 + x / 65536 % 256 * 65536 + x / 256 % 256 * 256 + x % 256 = x := by omega

/-- The bytes at a place of a slice. -/
def CellsAt (w : World) (b o : Nat) (bs : List Nat) : Prop := ∀ i, i < bs.length → w.cell? ⟨b, o + i, none⟩ = some (.int .u8 ((bs.getD i 0 : Nat) : Int))
theorem CellsAt.left {w : World} {b o : Nat} {xs ys : List Nat} (h : CellsAt w b o (xs ++ ys)) : CellsAt w b o xs := fun i hi => by
  have := h i (by rw [List.length_append]; omega)
  rw [this, List.getD_eq_getElem?_getD, List.getD_eq_getElem?_getD, List.getElem?_append_left hi]
theorem CellsAt.right {w : World} {b o : Nat} {xs ys : List Nat} (h : CellsAt w b o (xs ++ ys)) : CellsAt w b (o + xs.length) ys := fun i hi => by
  have := h (xs.length + i) (by rw [List.length_append]; omega)
  rw [Nat.add_assoc, this, List.getD_eq_getElem?_getD, List.getD_eq_getElem?_getD, List.getElem?_append_right (by omega), Nat.add_sub_cancel_left]
theorem CellsAt.below {w w' : World} {b o : Nat} {bs : List Nat} (h : CellsAt w b o bs) (hB : Below w.heap.size w w') : CellsAt w' b o bs := fun i hi => by
  rw [hB.cell (p := ⟨b, o + i, none⟩) (block_lt_of_cell (h i hi))]; exact h i hi
theorem CellsAt.by_ {w : World} {b o : Nat} {bs : List Nat} (h : CellsAt w b o bs) (cap : Nat) : IsBy w (.slice (some ⟨b, o, none⟩) bs.length cap) bs := .inl (.inr ⟨b, o, cap, rfl, h⟩)

/-- unsealed of what is sealed. -/
theorem unsealed_good (b o cap : Nat) (bs : List Nat) (w : World) (h : CellsAt w b o (sealB bs)) (hb : ∀ n ∈ bs, n < 256) (hl : bs.length ≤ 1000000000) (hcap : bs.length + 4 ≤ cap) (hT : TabC w) :
    Calls Tryz.prog 51 #[.slice (some ⟨b, o, none⟩) (bs.length + 4) cap] w fun e w' => e = .returned (.tuple #[.slice (some ⟨b, o, none⟩) bs.length cap, .bool true]) ∧ ∃ m, w' = w.drewN m := by
  have hL : CellsAt w b o bs := CellsAt.left h
  have hR : CellsAt w b (o + bs.length) (four (crcO bs)) := CellsAt.right h
  have r0 := hR 0 (by simp [four])
  have r1 := hR 1 (by simp [four])
  have r2 := hR 2 (by simp [four])
  have r3 := hR 3 (by simp [four])
  have hu := unsealed_any b o bs.length cap bs (crcO bs / 16777216 % 256) (crcO bs / 65536 % 256) (crcO bs / 256 % 256) (crcO bs % 256) w rfl hL hb hl hcap (Nat.mod_lt _ (by omega)) (Nat.mod_lt _ (by omega)) (Nat.mod_lt _ (by omega)) (Nat.mod_lt _ (by omega)) (by simpa [four] using r0) (by simpa [four, Nat.add_assoc] using r1) (by simpa [four, Nat.add_assoc] using r2) (by simpa [four, Nat.add_assoc] using r3) hT
  rw [four_num _ (crcO_lt bs hb), decide_eq_true rfl] at hu
  exact hu

/-- What headAt tells. -/
def HeadEnd (A : Array Value) (c : Int) (w : World) (e : Ending) (w' : World) : Prop := e = .returned (.tuple #[.agg A, .int .i64 c]) ∧ Below w.heap.size w w'

set_option maxRecDepth 100000 in
set_option maxHeartbeats 4000000 in
theorem headAt_good (kd co ct na F L le gr ti va : Nat) (fi la : Int) (b o n cap : Nat) (w : World) (hc : CellsAt w b o (sealB (packed (hdB kd co ct na F L le gr ti va)))) (hn : 51 ≤ n) (hcap : n ≤ cap) (hn2 : n ≤ 1000000000000) (hok : HdOk kd ct na co fi la) (hF : F < 18446744073709551616) (hL : L < 18446744073709551616) (h6 : le < 18446744073709551616) (h7 : gr < 18446744073709551616) (h8 : ti < 4294967296) (h9 : va < 4294967296) (h4 : IntKind.i64.wrap (F : Int) = fi) (h5 : IntKind.i64.wrap (L : Int) = la) (hT : TabC w) :
    Calls Tryz.prog 32 #[.slice (some ⟨b, o, none⟩) n cap] w (HeadEnd (hdA kd ct na fi la le gr ((ti : Int) + (va : Int) + 55) co ti va) 0 w) := by
  obtain ⟨hb, hhb⟩ : ∃ hb, packed (hdB kd co ct na F L le gr ti va) = hb := ⟨_, rfl⟩
  have hl47 : hb.length = 47 := by rw [← hhb, packed_length, hdB_length]
  have h256 : ∀ n ∈ hb, n < 256 := by rw [← hhb]; exact packed_lt _
  have hmark : hb.getD 0 0 = 181 := by
    rw [← hhb, packed_getD _ 0 (by rw [hdB_length]; omega)]
    unfold hdB
    simp only [List.append_assoc]
    rw [byteAt_full _ _ 0 (by simp)]
    decide
  have HOf := hide (fun (w1 : World) (hv : IsBy w1 (.slice (some ⟨b, o, none⟩) 47 cap) hb) => headOf_any kd co ct na F L le gr ti va fi la (.slice (some ⟨b, o, none⟩) 47 cap) w1 (by rw [hhb]; exact hv) (by rcases hok.kd with h | h <;> omega) (by have := hok.co6; omega) (by have := hok.ct4; omega) (by have := hok.na; have := hok.ct4; omega) hF hL h6 h7 h8 h9 h4 h5)
  rw [hhb] at hc
  have HMB := hide (fun w : World => mayBe_any kd ct na le gr co ti va fi la ((ti : Int) + (va : Int) + 55) w hok)
  have HUn := hide (fun (w1 : World) (hB : Below w.heap.size w w1) => unsealed_good b o cap hb w1 (hc.below hB) h256 (by omega) (by omega) (hT.below hB))
  rw [hl47] at HUn
  have HBy : Hid (∀ w1, Below w.heap.size w w1 → IsBy w1 (.slice (some ⟨b, o, none⟩) 47 cap) hb) := fun w1 hB => by
    have := ((CellsAt.left hc).below hB).by_ cap
    rw [hl47] at this; exact this
  have HC0 : Hid (w.cell? ⟨b, o, none⟩ = some (.int .u8 181)) := by
    have := (CellsAt.left hc) 0 (by omega)
    rw [hmark] at this
    show _ = _
    simpa using this
  obtain ⟨g0, hg0⟩ : ∃ g, w.heap.size = g := ⟨_, rfl⟩
  obtain ⟨W1, hW1⟩ : ∃ W1, w.alloc (.cells #[.int .i64 0, .int .i64 0, .int .i64 0, .int .i64 0, .int .i64 0, .int .u64 0, .int .u64 0, .int .i64 0, .int .i64 0, .int .i64 0, .int .i64 0] 66) = W1 := ⟨_, rfl⟩
  have HW1 : Hid (W1.heap[g0]? = some (.cells #[.int .i64 0, .int .i64 0, .int .i64 0, .int .i64 0, .int .i64 0, .int .u64 0, .int .u64 0, .int .i64 0, .int .i64 0, .int .i64 0, .int .i64 0] 66 (0, 0)) ∧ Below w.heap.size w W1 ∧ g0 < W1.heap.size) := by rw [← hW1, ← hg0]; exact ⟨heap_alloc_new _ _, (Below.refl _ _).alloc (Nat.le_refl _) _, by simp⟩
  have c0 : W1.cell? ⟨b, o, none⟩ = some (.int .u8 181) := by rw [HW1.out.2.1.cell (p := ⟨b, o, none⟩) (block_lt_of_cell HC0.out)]; exact HC0.out
  have HG := hide hg0
  clear hc hok hF hL h6 h7 h8 h9 h4 h5 hT hhb hl47 h256 hmark HC0
  go_enter Tryz.func32, Tryz.ntmps32
  go_wp2_with fail
  (try rw [hW1])
  (try rw [hg0])
  clear hW1 hg0
  refine (HUn.out W1 HW1.out.2.1).mono ?_
  rintro e w2 ⟨rfl, md, rfl⟩
  have HB2 : Hid (Below w.heap.size w (W1.drewN md)) := ⟨HW1.out.2.1.os, HW1.out.2.1.tape, HW1.out.2.1.output, HW1.out.2.1.size, HW1.out.2.1.block⟩
  have HR2 : Hid ((W1.drewN md).heap[g0]? = some (.cells #[.int .i64 0, .int .i64 0, .int .i64 0, .int .i64 0, .int .i64 0, .int .u64 0, .int .u64 0, .int .i64 0, .int .i64 0, .int .i64 0, .int .i64 0] 66 (0, 0)) ∧ g0 < (W1.drewN md).heap.size) := ⟨HW1.out.1, HW1.out.2.2⟩
  clear HUn HW1 c0
  generalize W1.drewN md = W2 at *
  go_wp2_with fail
  refine (HOf.out W2 (HBy.out W2 HB2.out)).mono ?_
  rintro e w3 ⟨rfl, B3⟩
  have HB3 : Hid (Below w.heap.size w w3) := HB2.out.trans (B3.mono HB2.out.size)
  have HR3 : Hid (w3.heap[g0]? = some (.cells #[.int .i64 0, .int .i64 0, .int .i64 0, .int .i64 0, .int .i64 0, .int .u64 0, .int .u64 0, .int .i64 0, .int .i64 0, .int .i64 0, .int .i64 0] 66 (0, 0)) ∧ g0 < w3.heap.size) := ⟨by rw [B3.block g0 HR2.out.2]; exact HR2.out.1, Nat.lt_of_lt_of_le HR2.out.2 B3.size⟩
  clear B3 HOf HB2 HR2 HBy
  unfold hdA
  obtain ⟨h, hh⟩ : ∃ h, w3.heap.size = h := ⟨_, rfl⟩
  obtain ⟨W4, hW4⟩ : ∃ W4, w3.alloc (.cells #[.int .i64 (kd : Int), .int .i64 (ct : Int), .int .i64 (na : Int), .int .i64 fi, .int .i64 la, .int .u64 (le : Int), .int .u64 (gr : Int), .int .i64 ((ti : Int) + (va : Int) + 55), .int .i64 (co : Int), .int .i64 (ti : Int), .int .i64 (va : Int)] 66) = W4 := ⟨_, rfl⟩
  have HW4 : Hid (W4.heap[h]? = some (.cells #[.int .i64 (kd : Int), .int .i64 (ct : Int), .int .i64 (na : Int), .int .i64 fi, .int .i64 la, .int .u64 (le : Int), .int .u64 (gr : Int), .int .i64 ((ti : Int) + (va : Int) + 55), .int .i64 (co : Int), .int .i64 (ti : Int), .int .i64 (va : Int)] 66 (0, 0)) ∧ Below w3.heap.size w3 W4) := by rw [← hW4, ← hh]; exact ⟨heap_alloc_new _ _, (Below.refl _ _).alloc (Nat.le_refl _) _⟩
  have o0 : W4.cell? ⟨h, 0, none⟩ = some (.int .i64 (kd : Int)) := by rw [cell_of_row _ _ _ _ _ _ HW4.out.1]; rfl
  have o1 : W4.cell? ⟨h, 1, none⟩ = some (.int .i64 (ct : Int)) := by rw [cell_of_row _ _ _ _ _ _ HW4.out.1]; rfl
  have o2 : W4.cell? ⟨h, 2, none⟩ = some (.int .i64 (na : Int)) := by rw [cell_of_row _ _ _ _ _ _ HW4.out.1]; rfl
  have o3 : W4.cell? ⟨h, 3, none⟩ = some (.int .i64 fi) := by rw [cell_of_row _ _ _ _ _ _ HW4.out.1]; rfl
  have o4 : W4.cell? ⟨h, 4, none⟩ = some (.int .i64 la) := by rw [cell_of_row _ _ _ _ _ _ HW4.out.1]; rfl
  have o5 : W4.cell? ⟨h, 5, none⟩ = some (.int .u64 (le : Int)) := by rw [cell_of_row _ _ _ _ _ _ HW4.out.1]; rfl
  have o6 : W4.cell? ⟨h, 6, none⟩ = some (.int .u64 (gr : Int)) := by rw [cell_of_row _ _ _ _ _ _ HW4.out.1]; rfl
  have o7 : W4.cell? ⟨h, 7, none⟩ = some (.int .i64 ((ti : Int) + (va : Int) + 55)) := by rw [cell_of_row _ _ _ _ _ _ HW4.out.1]; rfl
  have o8 : W4.cell? ⟨h, 8, none⟩ = some (.int .i64 (co : Int)) := by rw [cell_of_row _ _ _ _ _ _ HW4.out.1]; rfl
  have o9 : W4.cell? ⟨h, 9, none⟩ = some (.int .i64 (ti : Int)) := by rw [cell_of_row _ _ _ _ _ _ HW4.out.1]; rfl
  have o10 : W4.cell? ⟨h, 10, none⟩ = some (.int .i64 (va : Int)) := by rw [cell_of_row _ _ _ _ _ _ HW4.out.1]; rfl
  go_wp2_with fail
  (try rw [hW4])
  (try rw [hh])
  clear hW4 hh
  refine (HMB.out W4).mono ?_
  rintro e w5 ⟨rfl, B5⟩
  have HW5 : Hid (w5.heap[h]? = some (.cells #[.int .i64 (kd : Int), .int .i64 (ct : Int), .int .i64 (na : Int), .int .i64 fi, .int .i64 la, .int .u64 (le : Int), .int .u64 (gr : Int), .int .i64 ((ti : Int) + (va : Int) + 55), .int .i64 (co : Int), .int .i64 (ti : Int), .int .i64 (va : Int)] 66 (0, 0)) ∧ w5.heap[g0]? = some (.cells #[.int .i64 0, .int .i64 0, .int .i64 0, .int .i64 0, .int .i64 0, .int .u64 0, .int .u64 0, .int .i64 0, .int .i64 0, .int .i64 0, .int .i64 0] 66 (0, 0)) ∧ Below w.heap.size w w5) := by
    have B35 : Below w3.heap.size w3 w5 := HW4.out.2.trans (B5.mono HW4.out.2.size)
    exact ⟨by rw [B5.block h (size_lt_of_row HW4.out.1)]; exact HW4.out.1, by rw [B35.block g0 HR3.out.2]; exact HR3.out.1, HB3.out.trans (B35.mono HB3.out.size)⟩
  clear B5 HW4 HR3 HB3 HMB o0 o1 o2 o3 o4 o5 o6 o7 o8 o9 o10
  have o0 : w5.cell? ⟨h, 0, none⟩ = some (.int .i64 (kd : Int)) := by rw [cell_of_row _ _ _ _ _ _ HW5.out.1]; rfl
  have o1 : w5.cell? ⟨h, 1, none⟩ = some (.int .i64 (ct : Int)) := by rw [cell_of_row _ _ _ _ _ _ HW5.out.1]; rfl
  have o2 : w5.cell? ⟨h, 2, none⟩ = some (.int .i64 (na : Int)) := by rw [cell_of_row _ _ _ _ _ _ HW5.out.1]; rfl
  have o3 : w5.cell? ⟨h, 3, none⟩ = some (.int .i64 fi) := by rw [cell_of_row _ _ _ _ _ _ HW5.out.1]; rfl
  have o4 : w5.cell? ⟨h, 4, none⟩ = some (.int .i64 la) := by rw [cell_of_row _ _ _ _ _ _ HW5.out.1]; rfl
  have o5 : w5.cell? ⟨h, 5, none⟩ = some (.int .u64 (le : Int)) := by rw [cell_of_row _ _ _ _ _ _ HW5.out.1]; rfl
  have o6 : w5.cell? ⟨h, 6, none⟩ = some (.int .u64 (gr : Int)) := by rw [cell_of_row _ _ _ _ _ _ HW5.out.1]; rfl
  have o7 : w5.cell? ⟨h, 7, none⟩ = some (.int .i64 ((ti : Int) + (va : Int) + 55)) := by rw [cell_of_row _ _ _ _ _ _ HW5.out.1]; rfl
  have o8 : w5.cell? ⟨h, 8, none⟩ = some (.int .i64 (co : Int)) := by rw [cell_of_row _ _ _ _ _ _ HW5.out.1]; rfl
  have o9 : w5.cell? ⟨h, 9, none⟩ = some (.int .i64 (ti : Int)) := by rw [cell_of_row _ _ _ _ _ _ HW5.out.1]; rfl
  have o10 : w5.cell? ⟨h, 10, none⟩ = some (.int .i64 (va : Int)) := by rw [cell_of_row _ _ _ _ _ _ HW5.out.1]; rfl
  have z0 : w5.cell? ⟨g0, 0, none⟩ = some (.int .i64 0) := by rw [cell_of_row _ _ _ _ _ _ HW5.out.2.1]; rfl
  have y0 : w5.frozen? ⟨g0, 0, none⟩ = false := frozen_of_row _ _ _ _ _ HW5.out.2.1
  have z1 : w5.cell? ⟨g0, 1, none⟩ = some (.int .i64 0) := by rw [cell_of_row _ _ _ _ _ _ HW5.out.2.1]; rfl
  have y1 : w5.frozen? ⟨g0, 1, none⟩ = false := frozen_of_row _ _ _ _ _ HW5.out.2.1
  have z2 : w5.cell? ⟨g0, 2, none⟩ = some (.int .i64 0) := by rw [cell_of_row _ _ _ _ _ _ HW5.out.2.1]; rfl
  have y2 : w5.frozen? ⟨g0, 2, none⟩ = false := frozen_of_row _ _ _ _ _ HW5.out.2.1
  have z3 : w5.cell? ⟨g0, 3, none⟩ = some (.int .i64 0) := by rw [cell_of_row _ _ _ _ _ _ HW5.out.2.1]; rfl
  have y3 : w5.frozen? ⟨g0, 3, none⟩ = false := frozen_of_row _ _ _ _ _ HW5.out.2.1
  have z4 : w5.cell? ⟨g0, 4, none⟩ = some (.int .i64 0) := by rw [cell_of_row _ _ _ _ _ _ HW5.out.2.1]; rfl
  have y4 : w5.frozen? ⟨g0, 4, none⟩ = false := frozen_of_row _ _ _ _ _ HW5.out.2.1
  have z5 : w5.cell? ⟨g0, 5, none⟩ = some (.int .u64 0) := by rw [cell_of_row _ _ _ _ _ _ HW5.out.2.1]; rfl
  have y5 : w5.frozen? ⟨g0, 5, none⟩ = false := frozen_of_row _ _ _ _ _ HW5.out.2.1
  have z6 : w5.cell? ⟨g0, 6, none⟩ = some (.int .u64 0) := by rw [cell_of_row _ _ _ _ _ _ HW5.out.2.1]; rfl
  have y6 : w5.frozen? ⟨g0, 6, none⟩ = false := frozen_of_row _ _ _ _ _ HW5.out.2.1
  have z7 : w5.cell? ⟨g0, 7, none⟩ = some (.int .i64 0) := by rw [cell_of_row _ _ _ _ _ _ HW5.out.2.1]; rfl
  have y7 : w5.frozen? ⟨g0, 7, none⟩ = false := frozen_of_row _ _ _ _ _ HW5.out.2.1
  have z8 : w5.cell? ⟨g0, 8, none⟩ = some (.int .i64 0) := by rw [cell_of_row _ _ _ _ _ _ HW5.out.2.1]; rfl
  have y8 : w5.frozen? ⟨g0, 8, none⟩ = false := frozen_of_row _ _ _ _ _ HW5.out.2.1
  have z9 : w5.cell? ⟨g0, 9, none⟩ = some (.int .i64 0) := by rw [cell_of_row _ _ _ _ _ _ HW5.out.2.1]; rfl
  have y9 : w5.frozen? ⟨g0, 9, none⟩ = false := frozen_of_row _ _ _ _ _ HW5.out.2.1
  have z10 : w5.cell? ⟨g0, 10, none⟩ = some (.int .i64 0) := by rw [cell_of_row _ _ _ _ _ _ HW5.out.2.1]; rfl
  have y10 : w5.frozen? ⟨g0, 10, none⟩ = false := frozen_of_row _ _ _ _ _ HW5.out.2.1
  have HFR : Hid ((((((((((((w5.setCell ⟨g0, 0, none⟩ (.int .i64 (kd : Int))).setCell ⟨g0, 1, none⟩ (.int .i64 (ct : Int))).setCell ⟨g0, 2, none⟩ (.int .i64 (na : Int))).setCell ⟨g0, 3, none⟩ (.int .i64 fi)).setCell ⟨g0, 4, none⟩ (.int .i64 la)).setCell ⟨g0, 5, none⟩ (.int .u64 (le : Int))).setCell ⟨g0, 6, none⟩ (.int .u64 (gr : Int))).setCell ⟨g0, 7, none⟩ (.int .i64 ((ti : Int) + (va : Int) + 55))).setCell ⟨g0, 8, none⟩ (.int .i64 (co : Int))).setCell ⟨g0, 9, none⟩ (.int .i64 (ti : Int))).setCell ⟨g0, 10, none⟩ (.int .i64 (va : Int))).heap[g0]? = some (.cells #[.int .i64 (kd : Int), .int .i64 (ct : Int), .int .i64 (na : Int), .int .i64 fi, .int .i64 la, .int .u64 (le : Int), .int .u64 (gr : Int), .int .i64 ((ti : Int) + (va : Int) + 55), .int .i64 (co : Int), .int .i64 (ti : Int), .int .i64 (va : Int)] 66 (0, 0)) ∧ Below w.heap.size w (((((((((((w5.setCell ⟨g0, 0, none⟩ (.int .i64 (kd : Int))).setCell ⟨g0, 1, none⟩ (.int .i64 (ct : Int))).setCell ⟨g0, 2, none⟩ (.int .i64 (na : Int))).setCell ⟨g0, 3, none⟩ (.int .i64 fi)).setCell ⟨g0, 4, none⟩ (.int .i64 la)).setCell ⟨g0, 5, none⟩ (.int .u64 (le : Int))).setCell ⟨g0, 6, none⟩ (.int .u64 (gr : Int))).setCell ⟨g0, 7, none⟩ (.int .i64 ((ti : Int) + (va : Int) + 55))).setCell ⟨g0, 8, none⟩ (.int .i64 (co : Int))).setCell ⟨g0, 9, none⟩ (.int .i64 (ti : Int))).setCell ⟨g0, 10, none⟩ (.int .i64 (va : Int)))) := ⟨set_row11 _ _ _ _ _ _ _ _ _ _ _ _ _ _ _ _ _ _ _ _ _ _ _ _ _ HW5.out.2.1, below_row11 HW5.out.2.2 _ _ _ _ _ _ _ _ _ _ _ _ (Nat.le_of_eq HG.out)⟩
  clear HW5
  go_wp2_with fail
  generalize (((((((((((w5.setCell ⟨g0, 0, none⟩ (.int .i64 (kd : Int))).setCell ⟨g0, 1, none⟩ (.int .i64 (ct : Int))).setCell ⟨g0, 2, none⟩ (.int .i64 (na : Int))).setCell ⟨g0, 3, none⟩ (.int .i64 fi)).setCell ⟨g0, 4, none⟩ (.int .i64 la)).setCell ⟨g0, 5, none⟩ (.int .u64 (le : Int))).setCell ⟨g0, 6, none⟩ (.int .u64 (gr : Int))).setCell ⟨g0, 7, none⟩ (.int .i64 ((ti : Int) + (va : Int) + 55))).setCell ⟨g0, 8, none⟩ (.int .i64 (co : Int))).setCell ⟨g0, 9, none⟩ (.int .i64 (ti : Int))).setCell ⟨g0, 10, none⟩ (.int .i64 (va : Int))) = WF at *
  have u0 : WF.cell? ⟨g0, 0, none⟩ = some (.int .i64 (kd : Int)) := by rw [cell_of_row _ _ _ _ _ _ HFR.out.1]; rfl
  have u1 : WF.cell? ⟨g0, 1, none⟩ = some (.int .i64 (ct : Int)) := by rw [cell_of_row _ _ _ _ _ _ HFR.out.1]; rfl
  have u2 : WF.cell? ⟨g0, 2, none⟩ = some (.int .i64 (na : Int)) := by rw [cell_of_row _ _ _ _ _ _ HFR.out.1]; rfl
  have u3 : WF.cell? ⟨g0, 3, none⟩ = some (.int .i64 fi) := by rw [cell_of_row _ _ _ _ _ _ HFR.out.1]; rfl
  have u4 : WF.cell? ⟨g0, 4, none⟩ = some (.int .i64 la) := by rw [cell_of_row _ _ _ _ _ _ HFR.out.1]; rfl
  have u5 : WF.cell? ⟨g0, 5, none⟩ = some (.int .u64 (le : Int)) := by rw [cell_of_row _ _ _ _ _ _ HFR.out.1]; rfl
  have u6 : WF.cell? ⟨g0, 6, none⟩ = some (.int .u64 (gr : Int)) := by rw [cell_of_row _ _ _ _ _ _ HFR.out.1]; rfl
  have u7 : WF.cell? ⟨g0, 7, none⟩ = some (.int .i64 ((ti : Int) + (va : Int) + 55)) := by rw [cell_of_row _ _ _ _ _ _ HFR.out.1]; rfl
  have u8 : WF.cell? ⟨g0, 8, none⟩ = some (.int .i64 (co : Int)) := by rw [cell_of_row _ _ _ _ _ _ HFR.out.1]; rfl
  have u9 : WF.cell? ⟨g0, 9, none⟩ = some (.int .i64 (ti : Int)) := by rw [cell_of_row _ _ _ _ _ _ HFR.out.1]; rfl
  have u10 : WF.cell? ⟨g0, 10, none⟩ = some (.int .i64 (va : Int)) := by rw [cell_of_row _ _ _ _ _ _ HFR.out.1]; rfl
  exact bodyPost_ret (v := .tuple #[.agg (hdA kd ct na fi la le gr ((ti : Int) + (va : Int) + 55) co ti va), .int .i64 0]) (by simp [results, Tryz.results32, go_sem, hdA, u0, u1, u2, u3, u4, u5, u6, u7, u8, u9, u10]) rfl ⟨rfl, HFR.out.2⟩

end Go.Proofs.YtpdaklklhoenhaaGreatDoor

/- block: takeApart of a whole block. -/
namespace Go.Proofs.YtpdaklklhoenhaaGreatDoor
open Go.RowKit
open M
set_option linter.unusedVariables false
set_option linter.unusedSimpArgs false

/-- What takeApart tells. -/
def ApartEnd (A : Array Value) (c : Int) (w : World) (e : Ending) (w' : World) : Prop := e = .returned (.tuple #[.agg A, .int .i64 c]) ∧ Below w.heap.size w w'

set_option maxRecDepth 100000 in
set_option maxHeartbeats 4000000 in
theorem takeApart_good (kd co ct na le gr ti va : Nat) (fi la : Int) (b o K : Nat) (tb vb : List Nat) (w : World) (hc : CellsAt w b (o + 51) (sealB (tb ++ vb))) (htb : tb.length = ti) (hvb : vb.length = va) (ht : ∀ n ∈ tb, n < 256) (hv : ∀ n ∈ vb, n < 256) (hK : ti + va + 4 ≤ K) (hti : ti ≤ 100000) (hva : va ≤ 100000) (hKm : K ≤ 1000000000000) (hT : TabC w) :
    Calls Tryz.prog 33 #[.agg #[.int .i64 (kd : Int), .int .i64 (ct : Int), .int .i64 (na : Int), .int .i64 fi, .int .i64 la, .int .u64 (le : Int), .int .u64 (gr : Int), .int .i64 ((ti : Int) + (va : Int) + 55), .int .i64 (co : Int), .int .i64 (ti : Int), .int .i64 (va : Int)], .slice (some ⟨b, o, none⟩) (ti + va + 55) (K + 51)] w (ApartEnd (ptA kd ct na fi la le gr ((ti : Int) + (va : Int) + 55) co ti va (.slice (some ⟨b, o + 51, none⟩) ti K) (.slice (some ⟨b, o + 51 + ti, none⟩) va (K - ti))) 0 w) := by
  have HUn := hide (fun (w1 : World) (hB : Below w.heap.size w w1) => unsealed_good b (o + 51) K (tb ++ vb) w1 (hc.below hB) (fun n hn => by rcases List.mem_append.1 hn with h | h; exact ht n h; exact hv n h) (by rw [List.length_append]; omega) (by rw [List.length_append]; omega) (hT.below hB))
  rw [List.length_append, htb, hvb] at HUn
  clear hc htb hvb ht hv hT
  obtain ⟨q, hq⟩ : ∃ q, w.heap.size = q := ⟨_, rfl⟩
  obtain ⟨W1, hW1⟩ : ∃ W1, (w.alloc (.cells #[.int .i64 (kd : Int), .int .i64 (ct : Int), .int .i64 (na : Int), .int .i64 fi, .int .i64 la, .int .u64 (le : Int), .int .u64 (gr : Int), .int .i64 ((ti : Int) + (va : Int) + 55), .int .i64 (co : Int), .int .i64 (ti : Int), .int .i64 (va : Int)] 66)).alloc (.cells #[.int .i64 0, .int .i64 0, .int .i64 0, .int .i64 0, .int .i64 0, .int .u64 0, .int .u64 0, .int .i64 0, .int .i64 0, .int .i64 0, .int .i64 0, .slice none 0 0, .slice none 0 0] 68) = W1 := ⟨_, rfl⟩
  have HW1 : Hid (W1.heap[q]? = some (.cells #[.int .i64 (kd : Int), .int .i64 (ct : Int), .int .i64 (na : Int), .int .i64 fi, .int .i64 la, .int .u64 (le : Int), .int .u64 (gr : Int), .int .i64 ((ti : Int) + (va : Int) + 55), .int .i64 (co : Int), .int .i64 (ti : Int), .int .i64 (va : Int)] 66 (0, 0)) ∧ W1.heap[q + 1]? = some (.cells #[.int .i64 0, .int .i64 0, .int .i64 0, .int .i64 0, .int .i64 0, .int .u64 0, .int .u64 0, .int .i64 0, .int .i64 0, .int .i64 0, .int .i64 0, .slice none 0 0, .slice none 0 0] 68 (0, 0)) ∧ Below w.heap.size w W1) := by
    have hA : Below w.heap.size w (w.alloc (.cells #[.int .i64 (kd : Int), .int .i64 (ct : Int), .int .i64 (na : Int), .int .i64 fi, .int .i64 la, .int .u64 (le : Int), .int .u64 (gr : Int), .int .i64 ((ti : Int) + (va : Int) + 55), .int .i64 (co : Int), .int .i64 (ti : Int), .int .i64 (va : Int)] 66)) := (Below.refl _ _).alloc (Nat.le_refl _) _
    have hs : (w.alloc (.cells #[.int .i64 (kd : Int), .int .i64 (ct : Int), .int .i64 (na : Int), .int .i64 fi, .int .i64 la, .int .u64 (le : Int), .int .u64 (gr : Int), .int .i64 ((ti : Int) + (va : Int) + 55), .int .i64 (co : Int), .int .i64 (ti : Int), .int .i64 (va : Int)] 66)).heap.size = q + 1 := by rw [← hq]; simp
    have h1 := heap_alloc_new w (.cells #[.int .i64 (kd : Int), .int .i64 (ct : Int), .int .i64 (na : Int), .int .i64 fi, .int .i64 la, .int .u64 (le : Int), .int .u64 (gr : Int), .int .i64 ((ti : Int) + (va : Int) + 55), .int .i64 (co : Int), .int .i64 (ti : Int), .int .i64 (va : Int)] 66)
    rw [hq] at h1
    have hB : Below (w.alloc (.cells #[.int .i64 (kd : Int), .int .i64 (ct : Int), .int .i64 (na : Int), .int .i64 fi, .int .i64 la, .int .u64 (le : Int), .int .u64 (gr : Int), .int .i64 ((ti : Int) + (va : Int) + 55), .int .i64 (co : Int), .int .i64 (ti : Int), .int .i64 (va : Int)] 66)).heap.size (w.alloc (.cells #[.int .i64 (kd : Int), .int .i64 (ct : Int), .int .i64 (na : Int), .int .i64 fi, .int .i64 la, .int .u64 (le : Int), .int .u64 (gr : Int), .int .i64 ((ti : Int) + (va : Int) + 55), .int .i64 (co : Int), .int .i64 (ti : Int), .int .i64 (va : Int)] 66)) W1 := by rw [← hW1]; exact (Below.refl _ _).alloc (Nat.le_refl _) _
    refine ⟨?_, ?_, hA.trans (hB.mono hA.size)⟩
    · rw [hB.block q (by omega)]; exact h1
    · rw [← hW1, ← hs]; exact heap_alloc_new _ _
  have HQ := hide hq
  have o0 : W1.cell? ⟨q, 0, none⟩ = some (.int .i64 (kd : Int)) := by rw [cell_of_row _ _ _ _ _ _ HW1.out.1]; rfl
  have o1 : W1.cell? ⟨q, 1, none⟩ = some (.int .i64 (ct : Int)) := by rw [cell_of_row _ _ _ _ _ _ HW1.out.1]; rfl
  have o2 : W1.cell? ⟨q, 2, none⟩ = some (.int .i64 (na : Int)) := by rw [cell_of_row _ _ _ _ _ _ HW1.out.1]; rfl
  have o3 : W1.cell? ⟨q, 3, none⟩ = some (.int .i64 fi) := by rw [cell_of_row _ _ _ _ _ _ HW1.out.1]; rfl
  have o4 : W1.cell? ⟨q, 4, none⟩ = some (.int .i64 la) := by rw [cell_of_row _ _ _ _ _ _ HW1.out.1]; rfl
  have o5 : W1.cell? ⟨q, 5, none⟩ = some (.int .u64 (le : Int)) := by rw [cell_of_row _ _ _ _ _ _ HW1.out.1]; rfl
  have o6 : W1.cell? ⟨q, 6, none⟩ = some (.int .u64 (gr : Int)) := by rw [cell_of_row _ _ _ _ _ _ HW1.out.1]; rfl
  have o7 : W1.cell? ⟨q, 7, none⟩ = some (.int .i64 ((ti : Int) + (va : Int) + 55)) := by rw [cell_of_row _ _ _ _ _ _ HW1.out.1]; rfl
  have o8 : W1.cell? ⟨q, 8, none⟩ = some (.int .i64 (co : Int)) := by rw [cell_of_row _ _ _ _ _ _ HW1.out.1]; rfl
  have o9 : W1.cell? ⟨q, 9, none⟩ = some (.int .i64 (ti : Int)) := by rw [cell_of_row _ _ _ _ _ _ HW1.out.1]; rfl
  have o10 : W1.cell? ⟨q, 10, none⟩ = some (.int .i64 (va : Int)) := by rw [cell_of_row _ _ _ _ _ _ HW1.out.1]; rfl
  have n1 : (ti : Int) + (va : Int) + 55 - 51 = (ti : Int) + (va : Int) + 4 := by omega
  go_enter Tryz.func33, Tryz.ntmps33
  go_wp2_with fail
  (try rw [hW1])
  (try rw [hq])
  clear hW1 hq o0 o1 o2 o3 o4 o5 o6 o7 o8 o9 o10
  refine (HUn.out W1 HW1.out.2.2).mono ?_
  rintro e w2 ⟨rfl, md, rfl⟩
  have HW2 : Hid ((W1.drewN md).heap[q]? = some (.cells #[.int .i64 (kd : Int), .int .i64 (ct : Int), .int .i64 (na : Int), .int .i64 fi, .int .i64 la, .int .u64 (le : Int), .int .u64 (gr : Int), .int .i64 ((ti : Int) + (va : Int) + 55), .int .i64 (co : Int), .int .i64 (ti : Int), .int .i64 (va : Int)] 66 (0, 0)) ∧ (W1.drewN md).heap[q + 1]? = some (.cells #[.int .i64 0, .int .i64 0, .int .i64 0, .int .i64 0, .int .i64 0, .int .u64 0, .int .u64 0, .int .i64 0, .int .i64 0, .int .i64 0, .int .i64 0, .slice none 0 0, .slice none 0 0] 68 (0, 0)) ∧ Below w.heap.size w (W1.drewN md)) := ⟨HW1.out.1, HW1.out.2.1, HW1.out.2.2.os, HW1.out.2.2.tape, HW1.out.2.2.output, HW1.out.2.2.size, HW1.out.2.2.block⟩
  clear HUn HW1
  generalize W1.drewN md = W2 at *
  go_upto_region 8 with fail
  have o0 : W2.cell? ⟨q, 0, none⟩ = some (.int .i64 (kd : Int)) := by rw [cell_of_row _ _ _ _ _ _ HW2.out.1]; rfl
  have o1 : W2.cell? ⟨q, 1, none⟩ = some (.int .i64 (ct : Int)) := by rw [cell_of_row _ _ _ _ _ _ HW2.out.1]; rfl
  have o2 : W2.cell? ⟨q, 2, none⟩ = some (.int .i64 (na : Int)) := by rw [cell_of_row _ _ _ _ _ _ HW2.out.1]; rfl
  have o3 : W2.cell? ⟨q, 3, none⟩ = some (.int .i64 fi) := by rw [cell_of_row _ _ _ _ _ _ HW2.out.1]; rfl
  have o4 : W2.cell? ⟨q, 4, none⟩ = some (.int .i64 la) := by rw [cell_of_row _ _ _ _ _ _ HW2.out.1]; rfl
  have o5 : W2.cell? ⟨q, 5, none⟩ = some (.int .u64 (le : Int)) := by rw [cell_of_row _ _ _ _ _ _ HW2.out.1]; rfl
  have o6 : W2.cell? ⟨q, 6, none⟩ = some (.int .u64 (gr : Int)) := by rw [cell_of_row _ _ _ _ _ _ HW2.out.1]; rfl
  have o7 : W2.cell? ⟨q, 7, none⟩ = some (.int .i64 ((ti : Int) + (va : Int) + 55)) := by rw [cell_of_row _ _ _ _ _ _ HW2.out.1]; rfl
  have o8 : W2.cell? ⟨q, 8, none⟩ = some (.int .i64 (co : Int)) := by rw [cell_of_row _ _ _ _ _ _ HW2.out.1]; rfl
  have o9 : W2.cell? ⟨q, 9, none⟩ = some (.int .i64 (ti : Int)) := by rw [cell_of_row _ _ _ _ _ _ HW2.out.1]; rfl
  have o10 : W2.cell? ⟨q, 10, none⟩ = some (.int .i64 (va : Int)) := by rw [cell_of_row _ _ _ _ _ _ HW2.out.1]; rfl
  have z0 : W2.cell? ⟨q + 1, 0, none⟩ = some (.int .i64 0) := by rw [cell_of_row _ _ _ _ _ _ HW2.out.2.1]; rfl
  have y0 : W2.frozen? ⟨q + 1, 0, none⟩ = false := frozen_of_row _ _ _ _ _ HW2.out.2.1
  have z1 : W2.cell? ⟨q + 1, 1, none⟩ = some (.int .i64 0) := by rw [cell_of_row _ _ _ _ _ _ HW2.out.2.1]; rfl
  have y1 : W2.frozen? ⟨q + 1, 1, none⟩ = false := frozen_of_row _ _ _ _ _ HW2.out.2.1
  have z2 : W2.cell? ⟨q + 1, 2, none⟩ = some (.int .i64 0) := by rw [cell_of_row _ _ _ _ _ _ HW2.out.2.1]; rfl
  have y2 : W2.frozen? ⟨q + 1, 2, none⟩ = false := frozen_of_row _ _ _ _ _ HW2.out.2.1
  have z3 : W2.cell? ⟨q + 1, 3, none⟩ = some (.int .i64 0) := by rw [cell_of_row _ _ _ _ _ _ HW2.out.2.1]; rfl
  have y3 : W2.frozen? ⟨q + 1, 3, none⟩ = false := frozen_of_row _ _ _ _ _ HW2.out.2.1
  have z4 : W2.cell? ⟨q + 1, 4, none⟩ = some (.int .i64 0) := by rw [cell_of_row _ _ _ _ _ _ HW2.out.2.1]; rfl
  have y4 : W2.frozen? ⟨q + 1, 4, none⟩ = false := frozen_of_row _ _ _ _ _ HW2.out.2.1
  have z5 : W2.cell? ⟨q + 1, 5, none⟩ = some (.int .u64 0) := by rw [cell_of_row _ _ _ _ _ _ HW2.out.2.1]; rfl
  have y5 : W2.frozen? ⟨q + 1, 5, none⟩ = false := frozen_of_row _ _ _ _ _ HW2.out.2.1
  have z6 : W2.cell? ⟨q + 1, 6, none⟩ = some (.int .u64 0) := by rw [cell_of_row _ _ _ _ _ _ HW2.out.2.1]; rfl
  have y6 : W2.frozen? ⟨q + 1, 6, none⟩ = false := frozen_of_row _ _ _ _ _ HW2.out.2.1
  have z7 : W2.cell? ⟨q + 1, 7, none⟩ = some (.int .i64 0) := by rw [cell_of_row _ _ _ _ _ _ HW2.out.2.1]; rfl
  have y7 : W2.frozen? ⟨q + 1, 7, none⟩ = false := frozen_of_row _ _ _ _ _ HW2.out.2.1
  have z8 : W2.cell? ⟨q + 1, 8, none⟩ = some (.int .i64 0) := by rw [cell_of_row _ _ _ _ _ _ HW2.out.2.1]; rfl
  have y8 : W2.frozen? ⟨q + 1, 8, none⟩ = false := frozen_of_row _ _ _ _ _ HW2.out.2.1
  have z9 : W2.cell? ⟨q + 1, 9, none⟩ = some (.int .i64 0) := by rw [cell_of_row _ _ _ _ _ _ HW2.out.2.1]; rfl
  have y9 : W2.frozen? ⟨q + 1, 9, none⟩ = false := frozen_of_row _ _ _ _ _ HW2.out.2.1
  have z10 : W2.cell? ⟨q + 1, 10, none⟩ = some (.int .i64 0) := by rw [cell_of_row _ _ _ _ _ _ HW2.out.2.1]; rfl
  have y10 : W2.frozen? ⟨q + 1, 10, none⟩ = false := frozen_of_row _ _ _ _ _ HW2.out.2.1
  have z11 : W2.cell? ⟨q + 1, 11, none⟩ = some (.slice none 0 0) := by rw [cell_of_row _ _ _ _ _ _ HW2.out.2.1]; rfl
  have y11 : W2.frozen? ⟨q + 1, 11, none⟩ = false := frozen_of_row _ _ _ _ _ HW2.out.2.1
  have z12 : W2.cell? ⟨q + 1, 12, none⟩ = some (.slice none 0 0) := by rw [cell_of_row _ _ _ _ _ _ HW2.out.2.1]; rfl
  have y12 : W2.frozen? ⟨q + 1, 12, none⟩ = false := frozen_of_row _ _ _ _ _ HW2.out.2.1
  have k1 : ¬ K = ti := by omega
  have k2 : ti ≤ ti + va := by omega
  have k3 : (ti : Int) ≤ (ti : Int) + (va : Int) := by omega
  have k4 : ti ≤ K := by omega
  have k5 : (ti : Int) ≤ (K : Int) := by omega
  obtain ⟨X, hX⟩ : ∃ X, (((((((((((((W2.setCell ⟨q + 1, 0, none⟩ (.int .i64 (kd : Int))).setCell ⟨q + 1, 1, none⟩ (.int .i64 (ct : Int))).setCell ⟨q + 1, 2, none⟩ (.int .i64 (na : Int))).setCell ⟨q + 1, 3, none⟩ (.int .i64 fi)).setCell ⟨q + 1, 4, none⟩ (.int .i64 la)).setCell ⟨q + 1, 5, none⟩ (.int .u64 (le : Int))).setCell ⟨q + 1, 6, none⟩ (.int .u64 (gr : Int))).setCell ⟨q + 1, 7, none⟩ (.int .i64 ((ti : Int) + (va : Int) + 55))).setCell ⟨q + 1, 8, none⟩ (.int .i64 (co : Int))).setCell ⟨q + 1, 9, none⟩ (.int .i64 (ti : Int))).setCell ⟨q + 1, 10, none⟩ (.int .i64 (va : Int))).setCell ⟨q + 1, 11, none⟩ (.slice (some ⟨b, o + 51, none⟩) ti K)).setCell ⟨q + 1, 12, none⟩ (.slice (some ⟨b, o + 51 + ti, none⟩) va (K - ti))) = X := ⟨_, rfl⟩
  have hx1 : X.heap[q + 1]? = some (.cells #[.int .i64 (kd : Int), .int .i64 (ct : Int), .int .i64 (na : Int), .int .i64 fi, .int .i64 la, .int .u64 (le : Int), .int .u64 (gr : Int), .int .i64 ((ti : Int) + (va : Int) + 55), .int .i64 (co : Int), .int .i64 (ti : Int), .int .i64 (va : Int), .slice (some ⟨b, o + 51, none⟩) ti K, .slice (some ⟨b, o + 51 + ti, none⟩) va (K - ti)] 68 (0, 0)) := by rw [← hX]; exact set_row13 _ _ _ _ _ _ _ _ _ _ _ _ _ _ _ _ _ _ _ _ _ _ _ _ _ _ _ _ _ HW2.out.2.1
  have hx2 : Below w.heap.size w X := by rw [← hX]; exact below_row13 HW2.out.2.2 _ _ _ _ _ _ _ _ _ _ _ _ _ _ (by have := HQ.out; omega)
  have HFR : Hid (X.drew.heap[q + 1]? = some (.cells #[.int .i64 (kd : Int), .int .i64 (ct : Int), .int .i64 (na : Int), .int .i64 fi, .int .i64 la, .int .u64 (le : Int), .int .u64 (gr : Int), .int .i64 ((ti : Int) + (va : Int) + 55), .int .i64 (co : Int), .int .i64 (ti : Int), .int .i64 (va : Int), .slice (some ⟨b, o + 51, none⟩) ti K, .slice (some ⟨b, o + 51 + ti, none⟩) va (K - ti)] 68 (0, 0)) ∧ Below w.heap.size w X.drew) := ⟨hx1, hx2.drew⟩
  clear hx1 hx2
  clear HW2
  go_region
  go_wp2_with fail
  (try rw [hX])
  clear hX
  obtain ⟨WF, hWF⟩ : ∃ WF, X.drew = WF := ⟨_, rfl⟩
  rw [hWF] at HFR ⊢
  clear hWF
  have u0 : WF.cell? ⟨q + 1, 0, none⟩ = some (.int .i64 (kd : Int)) := by rw [cell_of_row _ _ _ _ _ _ HFR.out.1]; rfl
  have u1 : WF.cell? ⟨q + 1, 1, none⟩ = some (.int .i64 (ct : Int)) := by rw [cell_of_row _ _ _ _ _ _ HFR.out.1]; rfl
  have u2 : WF.cell? ⟨q + 1, 2, none⟩ = some (.int .i64 (na : Int)) := by rw [cell_of_row _ _ _ _ _ _ HFR.out.1]; rfl
  have u3 : WF.cell? ⟨q + 1, 3, none⟩ = some (.int .i64 fi) := by rw [cell_of_row _ _ _ _ _ _ HFR.out.1]; rfl
  have u4 : WF.cell? ⟨q + 1, 4, none⟩ = some (.int .i64 la) := by rw [cell_of_row _ _ _ _ _ _ HFR.out.1]; rfl
  have u5 : WF.cell? ⟨q + 1, 5, none⟩ = some (.int .u64 (le : Int)) := by rw [cell_of_row _ _ _ _ _ _ HFR.out.1]; rfl
  have u6 : WF.cell? ⟨q + 1, 6, none⟩ = some (.int .u64 (gr : Int)) := by rw [cell_of_row _ _ _ _ _ _ HFR.out.1]; rfl
  have u7 : WF.cell? ⟨q + 1, 7, none⟩ = some (.int .i64 ((ti : Int) + (va : Int) + 55)) := by rw [cell_of_row _ _ _ _ _ _ HFR.out.1]; rfl
  have u8 : WF.cell? ⟨q + 1, 8, none⟩ = some (.int .i64 (co : Int)) := by rw [cell_of_row _ _ _ _ _ _ HFR.out.1]; rfl
  have u9 : WF.cell? ⟨q + 1, 9, none⟩ = some (.int .i64 (ti : Int)) := by rw [cell_of_row _ _ _ _ _ _ HFR.out.1]; rfl
  have u10 : WF.cell? ⟨q + 1, 10, none⟩ = some (.int .i64 (va : Int)) := by rw [cell_of_row _ _ _ _ _ _ HFR.out.1]; rfl
  have u11 : WF.cell? ⟨q + 1, 11, none⟩ = some (.slice (some ⟨b, o + 51, none⟩) ti K) := by rw [cell_of_row _ _ _ _ _ _ HFR.out.1]; rfl
  have u12 : WF.cell? ⟨q + 1, 12, none⟩ = some (.slice (some ⟨b, o + 51 + ti, none⟩) va (K - ti)) := by rw [cell_of_row _ _ _ _ _ _ HFR.out.1]; rfl
  exact bodyPost_ret (v := .tuple #[.agg (ptA kd ct na fi la le gr ((ti : Int) + (va : Int) + 55) co ti va (.slice (some ⟨b, o + 51, none⟩) ti K) (.slice (some ⟨b, o + 51 + ti, none⟩) va (K - ti))), .int .i64 0]) (by simp [results, Tryz.results33, go_sem, ptA, u0, u1, u2, u3, u4, u5, u6, u7, u8, u9, u10, u11, u12]) rfl ⟨rfl, HFR.out.2⟩

end Go.Proofs.YtpdaklklhoenhaaGreatDoor

namespace Go.Proofs.YtpdaklklhoenhaaGreatDoor
open Go.RowKit
open M
set_option linter.unusedVariables false
set_option linter.unusedSimpArgs false

/-- What unpackValues tells. -/
def UvEnd (n : Nat) (v : Nat → Nat) (w : World) (e : Ending) (w' : World) : Prop := ∃ (p : Option Addr) (c : Nat), e = .returned (.tuple #[.slice p n c, .int .i64 0]) ∧ n ≤ c ∧ URow64 w' p n v ∧ Below w.heap.size w w'

set_option maxRecDepth 100000 in
set_option maxHeartbeats 1000000 in
theorem unpackValues_good (kd co m na le gr ti va : Nat) (fi la by_ : Int) (v : Nat → Nat) (vs : Value) (vb : List Nat) (w : World) (hv : IsBy w vs vb) (hb : ∀ n ∈ vb, n < 256) (hl : vb.length ≤ 1000000000000) (hn : m + 1 ≤ 4096) (hval : ValIs kd (m + 1) v co vb) (hkd : kd = 1) (hf : ∀ i, i < m + 1 → v i < 18446744073709551616) (hT : Tab64 w) :
    Calls Tryz.prog 55 #[.agg #[.int .i64 (kd : Int), .int .i64 ((m : Int) + 1), .int .i64 (na : Int), .int .i64 fi, .int .i64 la, .int .u64 (le : Int), .int .u64 (gr : Int), .int .i64 by_, .int .i64 (co : Int), .int .i64 (ti : Int), .int .i64 (va : Int)], vs] w (UvEnd (m + 1) v w) := by
  obtain ⟨q, hq⟩ : ∃ q, w.heap.size = q := ⟨_, rfl⟩
  obtain ⟨W1, hW1⟩ : ∃ W1, w.alloc (.cells #[.int .i64 (kd : Int), .int .i64 ((m : Int) + 1), .int .i64 (na : Int), .int .i64 fi, .int .i64 la, .int .u64 (le : Int), .int .u64 (gr : Int), .int .i64 by_, .int .i64 (co : Int), .int .i64 (ti : Int), .int .i64 (va : Int)] 66) = W1 := ⟨_, rfl⟩
  have HW : Hid (W1.heap[q]? = some (.cells #[.int .i64 (kd : Int), .int .i64 ((m : Int) + 1), .int .i64 (na : Int), .int .i64 fi, .int .i64 la, .int .u64 (le : Int), .int .u64 (gr : Int), .int .i64 by_, .int .i64 (co : Int), .int .i64 (ti : Int), .int .i64 (va : Int)] 66 (0, 0)) ∧ Below w.heap.size w W1) := by rw [← hW1, ← hq]; exact ⟨heap_alloc_new _ _, (Below.refl _ _).alloc (Nat.le_refl _) _⟩
  have o0 : W1.cell? ⟨q, 0, none⟩ = some (.int .i64 (kd : Int)) := by rw [cell_of_row _ _ _ _ _ _ HW.out.1]; rfl
  have o1 : W1.cell? ⟨q, 1, none⟩ = some (.int .i64 ((m : Int) + 1)) := by rw [cell_of_row _ _ _ _ _ _ HW.out.1]; rfl
  have o8 : W1.cell? ⟨q, 8, none⟩ = some (.int .i64 (co : Int)) := by rw [cell_of_row _ _ _ _ _ _ HW.out.1]; rfl
  · have hB : Bst64 (m + 1) v 6 co vb := hval
    have HU := hide (cUnpack64_any co vs vb (m + 1) W1 hB.lo hB.hi (isBy_below hv HW.out.2) hb hl hn (hT.below HW.out.2))
    rw [show (((m + 1 : Nat)) : Int) = (m : Int) + 1 from by simp] at HU
    have HIS := hide hB.is
    have e2 : ((kd : Int) == 2) = false := by rw [beq_eq_false_iff_ne]; omega
    clear hv hb hl hval hkd hf hT hB
    go_enter Tryz.func55, Tryz.ntmps55
    go_wp2_with fail
    (try rw [hW1])
    (try rw [hq])
    clear hW1 hq o0 o1 o8
    refine HU.out.mono ?_
    intro e w2 hE
    rcases hE with ⟨rfl, B2, hno⟩ | ⟨u, f, rfl, hU, hP, hfx⟩
    · exact absurd HIS.out (hno _)
    obtain ⟨p2, c2, rfl, hc2, R2⟩ := hU.row
    have HF : Hid (UvEnd (m + 1) v w (.returned (.tuple #[.slice p2 (m + 1) c2, .int .i64 0])) w2) := ⟨_, _, rfl, hc2, R2.congr (hfx _ HIS.out), HW.out.2.trans (hU.2.1.mono HW.out.2.size)⟩
    clear hU hP hfx R2 HU HW HIS
    go_wp2_with fail
    go_ret2
    exact HF.out

end Go.Proofs.YtpdaklklhoenhaaGreatDoor

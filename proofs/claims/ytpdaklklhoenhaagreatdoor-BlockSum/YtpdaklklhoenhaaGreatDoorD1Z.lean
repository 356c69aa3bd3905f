/- The contract of block.unsealed. -/
import Derived.Test.YtpdaklklhoenhaaGreatDoorD1W
import Derived.Test.YtpdaklklhoenhaaGreatDoorD1V
import Derived.Test.YtpdaklklhoenhaaGreatDoorC2A
import Derived.BigQuiet
/- block: Encode. -/
namespace Go.Proofs.YtpdaklklhoenhaaGreatDoor
open Go.RowKit
open M
set_option linter.unusedVariables false
set_option linter.unusedSimpArgs false

theorem PartsOf.below {w w' : World} {p : Option Addr} {m : Nat} {q : Nat → List Nat} (h : PartsOf w p m q) (hB : Below w.heap.size w w') : PartsOf w' p m q := fun i hi => by
  obtain ⟨b, o, v, h1, h2, h3⟩ := h i hi
  exact ⟨b, o, v, h1, by rw [hB.cell (p := ⟨b, o + i, none⟩) (block_lt_of_cell h2)]; exact h2, isBy_below h3 hB⟩

theorem parts_one {w : World} {x : Nat} {v : Value} {ty : TypeId} {a : List Nat} (h : w.heap[x]? = some (.cells #[v] ty (0, 0))) (ha : IsBy w v a) : PartsOf w (some ⟨x, 0, none⟩) 1 (fun _ => a) := fun i hi => by
  obtain rfl : i = 0 := by omega
  exact ⟨x, 0, v, rfl, by rw [cell_of_row _ _ _ _ _ _ h]; rfl, ha⟩
theorem parts_two {w : World} {x : Nat} {u v : Value} {ty : TypeId} {a b : List Nat} (h : w.heap[x]? = some (.cells #[u, v] ty (0, 0))) (ha : IsBy w u a) (hb : IsBy w v b) : PartsOf w (some ⟨x, 0, none⟩) 2 (fun i => if i = 0 then a else b) := fun i hi => by
  obtain rfl | rfl : i = 0 ∨ i = 1 := by omega
  · exact ⟨x, 0, u, rfl, by rw [cell_of_row _ _ _ _ _ _ h]; rfl, ha⟩
  · exact ⟨x, 0, v, rfl, by rw [cell_of_row _ _ _ _ _ _ h]; rfl, hb⟩
theorem isBytes_row47 {w : World} {g : Nat} {bs : List Nat} (hl : bs.length = 47) (h : w.heap[g]? = some (.cells (bytesV bs).toArray 5 (0, 0))) : IsBytes w (.slice (some ⟨g, 0, none⟩) 47 47) bs := by
  have := isBytes_row (cap := 47) h
  rw [hl] at this; exact this

/-- The head's bytes, without their Sum. -/
def headB (kd n : Nat) (t : Nat → Int) (v : Nat → Nat) (co T V : Nat) : List Nat := packed (hdB kd co n (nanN v n) (u64 (t 0)) (u64 (t (n - 1))) (leV v n) (grV v n) T V)
/-- A block's bytes. -/
def blkB (kd n : Nat) (t : Nat → Int) (v : Nat → Nat) (co : Nat) (vb : List Nat) : List Nat := sealB (headB kd n t v co (packed (tbn t n)).length vb.length) ++ sealB (packed (tbn t n) ++ vb)

theorem headB_len (kd n : Nat) (t : Nat → Int) (v : Nat → Nat) (co T V : Nat) : (headB kd n t v co T V).length = 47 := by
  unfold headB; rw [packed_length, hdB_length]

/-- What stands while a block is put together. -/
structure EncSt (w : World) (g q : Nat) (kd m na : Nat) (x0 xl : Int) (lv gv co T V gt cv : Nat) (pv : Option Addr) (tb vb : List Nat) (wr : World) : Prop where
  box : wr.heap[q]? = some (.cells #[.int .i64 (kd : Int), .int .i64 ((m : Int) + 1), .int .i64 (na : Int), .int .i64 x0, .int .i64 xl, .int .u64 (lv : Int), .int .u64 (gv : Int), .int .i64 ((T : Int) + (V : Int) + 55), .int .i64 (co : Int), .int .i64 (T : Int), .int .i64 (V : Int), .slice (some ⟨gt, 0, none⟩) T T, .slice pv V cv] 68 (0, 0))
  tim : IsBy wr (.slice (some ⟨gt, 0, none⟩) T T) tb
  val : IsBy wr (.slice pv V cv) vb
  tab : TabC wr
  bel : Below g w wr
  le : g ≤ wr.heap.size
theorem EncSt.below {w : World} {g q kd m na : Nat} {x0 xl : Int} {lv gv co T V gt cv : Nat} {pv : Option Addr} {tb vb : List Nat} {wr w2 : World} (h : EncSt w g q kd m na x0 xl lv gv co T V gt cv pv tb vb wr) (hB : Below wr.heap.size wr w2) : EncSt w g q kd m na x0 xl lv gv co T V gt cv pv tb vb w2 :=
  ⟨by rw [hB.block q (size_lt_of_row h.box)]; exact h.box, isBy_below h.tim hB, isBy_below h.val hB, h.tab.below hB, h.bel.trans (hB.mono h.le), Nat.le_trans h.le hB.size⟩

/-- What Encode tells of points that a block may have. -/
def EncEnd (kd n : Nat) (t : Nat → Int) (v : Nat → Nat) (w : World) (e : Ending) (w' : World) : Prop :=
  ∃ (co : Nat) (vb : List Nat) (g : Nat), e = .returned (.tuple #[.slice (some ⟨g, 0, none⟩) (blkB kd n t v co vb).length (blkB kd n t v co vb).length, .int .i64 0]) ∧ w'.heap[g]? = some (.cells (bytesV (blkB kd n t v co vb)).toArray 5 (0, 0)) ∧ ValIs kd n v co vb ∧ (∀ n ∈ vb, n < 256) ∧ Below w.heap.size w w'

theorem leV_lt (v : Nat → Nat) (n : Nat) : leV v n < 18446744073709551616 := by
  unfold leV; split
  · omega
  · exact ofKey64_lt _ (leK_lt v n)
theorem grV_lt (v : Nat → Nat) (n : Nat) (h : ∀ i, i < n → v i < 18446744073709551616) : grV v n < 18446744073709551616 := by
  unfold grV; split
  · omega
  · exact ofKey64_lt _ (grK_lt v n h)
theorem u64_wrap (x : Int) : IntKind.u64.wrap x = (u64 x : Int) := by rw [IntKind.wrap_u64]; unfold u64; omega
theorem u64_lt (x : Int) : u64 x < 18446744073709551616 := by unfold u64; omega

set_option maxRecDepth 100000 in
set_option maxHeartbeats 8000000 in
theorem encode_good (kd : Nat) (p : Option Addr) (m cap : Nat) (t : Nat → Int) (v : Nat → Nat) (w : World) (h : PRow w p (m + 1) t v) (hG : Good kd (m + 1) t v) (ht : ∀ i, i < m + 1 → I64 (t i)) (hf : ∀ i, i < m + 1 → v i < 18446744073709551616) (hT : Tab64 w) (hC : TabC w) :
    Calls Tryz.prog 14 #[.int .i64 (kd : Int), .slice p (m + 1) cap] w (EncEnd kd (m + 1) t v w) := by
  have hn : m + 1 ≤ 4096 := hG.hi
  have hkd : kd < 256 := by have := hG.kd; omega
  have HP := hide (partsOf_good kd p m cap t v w h hG ht hf hT)
  have HTC := hide hC
  have HF := hide hf
  clear h hG ht hf hT hC
  go_enter Tryz.func14, Tryz.ntmps14
  go_wp2_with fail
  refine HP.out.mono ?_
  rintro e w2 ⟨co, T, V, gt, cv, pv, vb, rfl, hTl, hTb, hVl, hVb, h256, hval, B2⟩
  have hvl := valIs_len kd (m + 1) v co vb HF.out hval
  rw [← hVl] at hvl
  have hTs : T ≤ 40000 := by have := tbn_bytes t (m + 1); rw [hTl]; omega
  have hVs : V ≤ 40000 := by omega
  have hco : co < 256 := by omega
  unfold ptA
  rw [Nat.add_sub_cancel]
  have HBy := hide (fun w1 : World => hbytes_any kd co (m + 1) (nanN v (m + 1)) (u64 (t 0)) (u64 (t m)) (leV v (m + 1)) (grV v (m + 1)) T V (t 0) (t m) ((T : Int) + (V : Int) + 55) w1 hkd hco (by omega) (by have := nanN_le v (m + 1); omega) (u64_wrap _) (u64_wrap _) (u64_lt _) (u64_lt _) (leV_lt _ _) (grV_lt _ _ HF.out) (by omega) (by omega))
  obtain ⟨hb, hhb⟩ : ∃ hb, packed (hdB kd co (m + 1) (nanN v (m + 1)) (u64 (t 0)) (u64 (t m)) (leV v (m + 1)) (grV v (m + 1)) T V) = hb := ⟨_, rfl⟩
  rw [hhb] at HBy
  have HB47 : Hid (hb.length = 47) := by show _ = _; rw [← hhb, packed_length, hdB_length]
  have HB256 : Hid (∀ n ∈ hb, n < 256) := by rw [← hhb]; exact packed_lt _
  obtain ⟨tb, htb⟩ : ∃ tb, packed (tbn t (m + 1)) = tb := ⟨_, rfl⟩
  rw [htb] at hTl hTb
  have HT256 : Hid (∀ n ∈ tb, n < 256) := by rw [← htb]; exact packed_lt _
  have HS1 := hide (fun (w1 : World) (x : Nat) (hp : PartsOf w1 (some ⟨x, 0, none⟩) 1 (fun _ => hb)) (hC : TabC w1) => sealed_any (some ⟨x, 0, none⟩) 1 1 (fun _ => hb) w1 hp (fun _ _ => HB256.out) (by omega) (by simp [catP]; rw [HB47.out]; omega) hC)
  have HS2 := hide (fun (w1 : World) (x : Nat) (hp : PartsOf w1 (some ⟨x, 0, none⟩) 2 (fun i => if i = 0 then tb else vb)) (hC : TabC w1) => sealed_any (some ⟨x, 0, none⟩) 2 2 (fun i => if i = 0 then tb else vb) w1 hp (fun i _ => by
    show ∀ n ∈ (if i = 0 then tb else vb), n < 256
    split
    · exact HT256.out
    · exact h256) (by omega) (by rw [catP_two, List.length_append]; omega) hC)
  have HL1 : Hid ((sealB hb).length = 51) := by show _ = _; unfold sealB; rw [List.length_append, HB47.out]; rfl
  have HL2 : Hid ((sealB (tb ++ vb)).length = T + V + 4) := by show _ = _; unfold sealB; rw [List.length_append, List.length_append, ← hTl, ← hVl]; rfl
  have HJ := hide (fun (w1 : World) (x : Nat) (hp : PartsOf w1 (some ⟨x, 0, none⟩) 2 (fun i => if i = 0 then sealB hb else sealB (tb ++ vb))) => joined_any (some ⟨x, 0, none⟩) 2 2 (fun i => if i = 0 then sealB hb else sealB (tb ++ vb)) w1 hp (by omega) (by rw [catP_two, List.length_append, HL1.out, HL2.out]; omega))
  have ec1 : catP (fun _ => hb) 1 = hb := by simp [catP]
  rw [ec1] at HS1
  rw [catP_two] at HS2 HJ
  clear ec1
  have HBLK : Hid (blkB kd (m + 1) t v co vb = sealB hb ++ sealB (tb ++ vb)) := by
    show _ = _
    unfold blkB headB
    rw [Nat.add_sub_cancel, htb, ← hTl, ← hVl, hhb]
  clear hhb htb
  obtain ⟨x0, hx0⟩ : ∃ x, t 0 = x := ⟨_, rfl⟩
  obtain ⟨xl, hxl⟩ : ∃ x, t m = x := ⟨_, rfl⟩
  obtain ⟨na, hna⟩ : ∃ x, nanN v (m + 1) = x := ⟨_, rfl⟩
  obtain ⟨lv, hlv⟩ : ∃ x, leV v (m + 1) = x := ⟨_, rfl⟩
  obtain ⟨gv, hgv⟩ : ∃ x, grV v (m + 1) = x := ⟨_, rfl⟩
  rw [hx0, hxl, hna, hlv, hgv] at HBy ⊢
  clear hx0 hxl hna hlv hgv
  obtain ⟨q, hq⟩ : ∃ q, w2.heap.size = q := ⟨_, rfl⟩
  obtain ⟨g, hg⟩ : ∃ g, w.heap.size = g := ⟨_, rfl⟩
  obtain ⟨W3, hW3⟩ : ∃ W3, w2.alloc (.cells #[.int .i64 (kd : Int), .int .i64 ((m : Int) + 1), .int .i64 (na : Int), .int .i64 x0, .int .i64 xl, .int .u64 (lv : Int), .int .u64 (gv : Int), .int .i64 ((T : Int) + (V : Int) + 55), .int .i64 (co : Int), .int .i64 (T : Int), .int .i64 (V : Int), .slice (some ⟨gt, 0, none⟩) T T, .slice pv V cv] 68) = W3 := ⟨_, rfl⟩
  have HES0 : Hid (EncSt w g q kd m na x0 xl lv gv co T V gt cv pv tb vb W3) := by
    have hA : Below w2.heap.size w2 W3 := by rw [← hW3]; exact (Below.refl _ _).alloc (Nat.le_refl _) _
    have hBY : IsBytes w2 (.slice (some ⟨gt, 0, none⟩) T T) tb := by have := isBytes_row (cap := T) hTb; rw [← hTl] at this; exact this
    refine ⟨by rw [← hW3, ← hq]; exact heap_alloc_new _ _, isBy_below (.inl hBY) hA, isBy_below hVb hA, (HTC.out.below B2).below hA, ?_, ?_⟩
    · rw [← hg]; exact B2.trans (hA.mono B2.size)
    · rw [← hg]; exact Nat.le_trans B2.size hA.size
  have HVV : Hid (ValIs kd (m + 1) v co vb ∧ ∀ n ∈ vb, n < 256) := ⟨hval, h256⟩
  have HG := hide hg
  clear hTl hTb hVl hVb h256 hval B2 hvl HP HTC HF hg
  go_upto_region 4 with fail
  (try rw [hW3])
  (try rw [hq])
  clear hW3 hq
  have HES : Hid (EncSt w g q kd m na x0 xl lv gv co T V gt cv pv tb vb W3.drew) := ⟨HES0.out.box, HES0.out.tim, HES0.out.val, HES0.out.tab, HES0.out.bel.drew, HES0.out.le⟩
  refine wp_region_held_drew (S := fun w' => w'.heap[q]? = some (.cells #[.int .i64 (kd : Int), .int .i64 ((m : Int) + 1), .int .i64 (na : Int), .int .i64 x0, .int .i64 xl, .int .u64 (lv : Int), .int .u64 (gv : Int), .int .i64 ((T : Int) + (V : Int) + 55), .int .i64 (co : Int), .int .i64 (T : Int), .int .i64 (V : Int), .slice (some ⟨gt, 0, none⟩) T T, .slice pv V cv] 68 (0, 0))) (by kernel_rfl) HES.out.box (fun hHeld => ?_)
  refine wpAnyH_take (i := 0) (v := ?_) rfl (by kernel_rfl) (by kernel_rfl) (by kernel_rfl) (fun _ _ _ h => h) (Or.inl ⟨by rfl, ?_⟩) hHeld ?_
  rotate_left
  · (intro wq hSw; (try dsimp only at hSw); skip; (go_simp <;> with_reducible rfl))
  try simp only [Act.put, List.getElem_toArray, List.getElem_cons_zero, List.getElem_cons_succ, List.setIfInBounds_toArray, List.set_cons_zero, List.set_cons_succ]
  refine wpAnyH_take (i := 1) (v := ?_) rfl (by kernel_rfl) (by kernel_rfl) (by kernel_rfl) (fun _ _ _ h => h) (Or.inl ⟨by rfl, ?_⟩) hHeld ?_
  rotate_left
  · (intro wq hSw; (try dsimp only at hSw); have s0 : wq.cell? ⟨q, 0, none⟩ = some (.int .i64 (kd : Int)) := (by rw [cell_of_row _ _ _ _ _ _ hSw]; rfl); have s1 : wq.cell? ⟨q, 1, none⟩ = some (.int .i64 ((m : Int) + 1)) := (by rw [cell_of_row _ _ _ _ _ _ hSw]; rfl); have s2 : wq.cell? ⟨q, 2, none⟩ = some (.int .i64 (na : Int)) := (by rw [cell_of_row _ _ _ _ _ _ hSw]; rfl); have s3 : wq.cell? ⟨q, 3, none⟩ = some (.int .i64 x0) := (by rw [cell_of_row _ _ _ _ _ _ hSw]; rfl); have s4 : wq.cell? ⟨q, 4, none⟩ = some (.int .i64 xl) := (by rw [cell_of_row _ _ _ _ _ _ hSw]; rfl); have s5 : wq.cell? ⟨q, 5, none⟩ = some (.int .u64 (lv : Int)) := (by rw [cell_of_row _ _ _ _ _ _ hSw]; rfl); have s6 : wq.cell? ⟨q, 6, none⟩ = some (.int .u64 (gv : Int)) := (by rw [cell_of_row _ _ _ _ _ _ hSw]; rfl); have s7 : wq.cell? ⟨q, 7, none⟩ = some (.int .i64 ((T : Int) + (V : Int) + 55)) := (by rw [cell_of_row _ _ _ _ _ _ hSw]; rfl); have s8 : wq.cell? ⟨q, 8, none⟩ = some (.int .i64 (co : Int)) := (by rw [cell_of_row _ _ _ _ _ _ hSw]; rfl); have s9 : wq.cell? ⟨q, 9, none⟩ = some (.int .i64 (T : Int)) := (by rw [cell_of_row _ _ _ _ _ _ hSw]; rfl); have s10 : wq.cell? ⟨q, 10, none⟩ = some (.int .i64 (V : Int)) := (by rw [cell_of_row _ _ _ _ _ _ hSw]; rfl); have s11 : wq.cell? ⟨q, 11, none⟩ = some (.slice (some ⟨gt, 0, none⟩) T T) := (by rw [cell_of_row _ _ _ _ _ _ hSw]; rfl); have s12 : wq.cell? ⟨q, 12, none⟩ = some (.slice pv V cv) := (by rw [cell_of_row _ _ _ _ _ _ hSw]; rfl); (go_simp <;> with_reducible rfl))
  try simp only [Act.put, List.getElem_toArray, List.getElem_cons_zero, List.getElem_cons_succ, List.setIfInBounds_toArray, List.set_cons_zero, List.set_cons_succ]
  refine wpAnyH_take (i := 5) (v := ?_) rfl (by kernel_rfl) (by kernel_rfl) (by kernel_rfl) (fun _ _ _ h => h) (Or.inl ⟨by rfl, ?_⟩) hHeld ?_
  rotate_left
  · (intro wq hSw; (try dsimp only at hSw); skip; (go_simp <;> with_reducible rfl))
  try simp only [Act.put, List.getElem_toArray, List.getElem_cons_zero, List.getElem_cons_succ, List.setIfInBounds_toArray, List.set_cons_zero, List.set_cons_succ]
  refine wpAnyH_take (i := 6) (v := ?_) rfl (by kernel_rfl) (by kernel_rfl) (by kernel_rfl) (fun _ _ _ h => h) (Or.inl ⟨by rfl, ?_⟩) hHeld ?_
  rotate_left
  · (intro wq hSw; (try dsimp only at hSw); have s0 : wq.cell? ⟨q, 0, none⟩ = some (.int .i64 (kd : Int)) := (by rw [cell_of_row _ _ _ _ _ _ hSw]; rfl); have s1 : wq.cell? ⟨q, 1, none⟩ = some (.int .i64 ((m : Int) + 1)) := (by rw [cell_of_row _ _ _ _ _ _ hSw]; rfl); have s2 : wq.cell? ⟨q, 2, none⟩ = some (.int .i64 (na : Int)) := (by rw [cell_of_row _ _ _ _ _ _ hSw]; rfl); have s3 : wq.cell? ⟨q, 3, none⟩ = some (.int .i64 x0) := (by rw [cell_of_row _ _ _ _ _ _ hSw]; rfl); have s4 : wq.cell? ⟨q, 4, none⟩ = some (.int .i64 xl) := (by rw [cell_of_row _ _ _ _ _ _ hSw]; rfl); have s5 : wq.cell? ⟨q, 5, none⟩ = some (.int .u64 (lv : Int)) := (by rw [cell_of_row _ _ _ _ _ _ hSw]; rfl); have s6 : wq.cell? ⟨q, 6, none⟩ = some (.int .u64 (gv : Int)) := (by rw [cell_of_row _ _ _ _ _ _ hSw]; rfl); have s7 : wq.cell? ⟨q, 7, none⟩ = some (.int .i64 ((T : Int) + (V : Int) + 55)) := (by rw [cell_of_row _ _ _ _ _ _ hSw]; rfl); have s8 : wq.cell? ⟨q, 8, none⟩ = some (.int .i64 (co : Int)) := (by rw [cell_of_row _ _ _ _ _ _ hSw]; rfl); have s9 : wq.cell? ⟨q, 9, none⟩ = some (.int .i64 (T : Int)) := (by rw [cell_of_row _ _ _ _ _ _ hSw]; rfl); have s10 : wq.cell? ⟨q, 10, none⟩ = some (.int .i64 (V : Int)) := (by rw [cell_of_row _ _ _ _ _ _ hSw]; rfl); have s11 : wq.cell? ⟨q, 11, none⟩ = some (.slice (some ⟨gt, 0, none⟩) T T) := (by rw [cell_of_row _ _ _ _ _ _ hSw]; rfl); have s12 : wq.cell? ⟨q, 12, none⟩ = some (.slice pv V cv) := (by rw [cell_of_row _ _ _ _ _ _ hSw]; rfl); (go_simp <;> with_reducible rfl))
  try simp only [Act.put, List.getElem_toArray, List.getElem_cons_zero, List.getElem_cons_succ, List.setIfInBounds_toArray, List.set_cons_zero, List.set_cons_succ]
  refine wpAnyH_take (i := 7) (v := ?_) rfl (by kernel_rfl) (by kernel_rfl) (by kernel_rfl) (fun _ _ _ h => h) (Or.inl ⟨by rfl, ?_⟩) hHeld ?_
  rotate_left
  · (intro wq hSw; (try dsimp only at hSw); skip; (go_simp <;> with_reducible rfl))
  try simp only [Act.put, List.getElem_toArray, List.getElem_cons_zero, List.getElem_cons_succ, List.setIfInBounds_toArray, List.set_cons_zero, List.set_cons_succ]
  refine wpAnyH_take (i := 8) (v := ?_) rfl (by kernel_rfl) (by kernel_rfl) (by kernel_rfl) (fun _ _ _ h => h) (Or.inl ⟨by rfl, ?_⟩) hHeld ?_
  rotate_left
  · (intro wq hSw; (try dsimp only at hSw); have s0 : wq.cell? ⟨q, 0, none⟩ = some (.int .i64 (kd : Int)) := (by rw [cell_of_row _ _ _ _ _ _ hSw]; rfl); have s1 : wq.cell? ⟨q, 1, none⟩ = some (.int .i64 ((m : Int) + 1)) := (by rw [cell_of_row _ _ _ _ _ _ hSw]; rfl); have s2 : wq.cell? ⟨q, 2, none⟩ = some (.int .i64 (na : Int)) := (by rw [cell_of_row _ _ _ _ _ _ hSw]; rfl); have s3 : wq.cell? ⟨q, 3, none⟩ = some (.int .i64 x0) := (by rw [cell_of_row _ _ _ _ _ _ hSw]; rfl); have s4 : wq.cell? ⟨q, 4, none⟩ = some (.int .i64 xl) := (by rw [cell_of_row _ _ _ _ _ _ hSw]; rfl); have s5 : wq.cell? ⟨q, 5, none⟩ = some (.int .u64 (lv : Int)) := (by rw [cell_of_row _ _ _ _ _ _ hSw]; rfl); have s6 : wq.cell? ⟨q, 6, none⟩ = some (.int .u64 (gv : Int)) := (by rw [cell_of_row _ _ _ _ _ _ hSw]; rfl); have s7 : wq.cell? ⟨q, 7, none⟩ = some (.int .i64 ((T : Int) + (V : Int) + 55)) := (by rw [cell_of_row _ _ _ _ _ _ hSw]; rfl); have s8 : wq.cell? ⟨q, 8, none⟩ = some (.int .i64 (co : Int)) := (by rw [cell_of_row _ _ _ _ _ _ hSw]; rfl); have s9 : wq.cell? ⟨q, 9, none⟩ = some (.int .i64 (T : Int)) := (by rw [cell_of_row _ _ _ _ _ _ hSw]; rfl); have s10 : wq.cell? ⟨q, 10, none⟩ = some (.int .i64 (V : Int)) := (by rw [cell_of_row _ _ _ _ _ _ hSw]; rfl); have s11 : wq.cell? ⟨q, 11, none⟩ = some (.slice (some ⟨gt, 0, none⟩) T T) := (by rw [cell_of_row _ _ _ _ _ _ hSw]; rfl); have s12 : wq.cell? ⟨q, 12, none⟩ = some (.slice pv V cv) := (by rw [cell_of_row _ _ _ _ _ _ hSw]; rfl); (go_simp <;> with_reducible rfl))
  try simp only [Act.put, List.getElem_toArray, List.getElem_cons_zero, List.getElem_cons_succ, List.setIfInBounds_toArray, List.set_cons_zero, List.set_cons_succ]
  refine wpAnyH_ready (rs := [2, 9]) (by kernel_rfl) (by simp) ?_
  refine AllReadyH.cons rfl (fun K hK => ?_) (AllReadyH.cons rfl (fun K hK => ?_) AllReadyH.nil)
  · skip
    go_simp
    refine (HBy.out W3.drew).mono ?_
    rintro _ wx1 ⟨ga, rfl, hgg, hrow, B5⟩
    replace HES := hide (HES.out.below B5)
    have QA0 : Hid (IsBy wx1 (.slice (some ⟨ga, 0, none⟩) 47 47) hb) := .inl (isBytes_row47 HB47.out hrow)
    clear hgg hrow B5
    refine hK.out _ _ ?_ (fun hHeld => ?_)
    · exact HES.out.box
    clear hK K
    try simp only [Act.put, List.getElem_toArray, List.getElem_cons_zero, List.getElem_cons_succ, List.setIfInBounds_toArray, List.set_cons_zero, List.set_cons_succ]
    refine wpAnyH_ready (rs := [3, 9]) (by kernel_rfl) (by simp) ?_
    refine AllReadyH.cons rfl (fun K hK => ?_) (AllReadyH.cons rfl (fun K hK => ?_) AllReadyH.nil)
    · skip
      go_simp
      obtain ⟨wx2, hN⟩ : ∃ wx2, (wx1.alloc (.cells #[.slice (some ⟨ga, 0, none⟩) 47 47] 23)) = wx2 := ⟨_, rfl⟩
      have BA : Below wx1.heap.size wx1 wx2 := by rw [← hN]; exact ((Below.refl _ _).alloc (Nat.le_refl _) _)
      have HN : Hid (wx2.heap[wx1.heap.size]? = some (.cells #[.slice (some ⟨ga, 0, none⟩) 47 47] 23 (0, 0))) := by rw [← hN]; exact heap_alloc_new _ _
      replace QA0 := hide (isBy_below QA0.out BA)
      replace HES := hide (HES.out.below BA)
      obtain ⟨xa, hxa⟩ : ∃ xa, wx1.heap.size = xa := ⟨_, rfl⟩
      rw [hxa] at HN
      rw [hN]
      (try rw [hxa])
      clear BA hN hxa
      have QA1 : Hid (PartsOf wx2 (some ⟨xa, 0, none⟩) 1 (fun _ => hb)) := parts_one HN.out QA0.out
      clear HN
      refine hK.out _ _ ?_ (fun hHeld => ?_)
      · exact HES.out.box
      clear hK K
      try simp only [Act.put, List.getElem_toArray, List.getElem_cons_zero, List.getElem_cons_succ, List.setIfInBounds_toArray, List.set_cons_zero, List.set_cons_succ]
      refine wpAnyH_ready (rs := [4, 9]) (by kernel_rfl) (by simp) ?_
      refine AllReadyH.cons rfl (fun K hK => ?_) (AllReadyH.cons rfl (fun K hK => ?_) AllReadyH.nil)
      · skip
        go_simp
        refine (HS1.out wx2 xa QA1.out HES.out.tab).mono ?_
        rintro _ wx3 ⟨gc, rfl, hgg, hrow, B5⟩
        replace QA0 := hide (isBy_below QA0.out B5)
        replace QA1 := hide (PartsOf.below QA1.out B5)
        replace HES := hide (HES.out.below B5)
        have QA2 : Hid (IsBy wx3 (.slice (some ⟨gc, 0, none⟩) (sealB hb).length (sealB hb).length) (sealB hb)) := .inl (isBytes_row hrow)
        clear hgg hrow B5
        refine hK.out _ _ ?_ (fun hHeld => ?_)
        · exact HES.out.box
        clear hK K
        try simp only [Act.put, List.getElem_toArray, List.getElem_cons_zero, List.getElem_cons_succ, List.setIfInBounds_toArray, List.set_cons_zero, List.set_cons_succ]
        refine wpAnyH_ready (rs := [9]) (by kernel_rfl) (by simp) ?_
        refine AllReadyH.cons rfl (fun K hK => ?_) AllReadyH.nil
        go_simp
        obtain ⟨wx4, hN⟩ : ∃ wx4, (wx3.alloc (.cells #[.slice (some ⟨gt, 0, none⟩) T T, .slice pv V cv] 23)) = wx4 := ⟨_, rfl⟩
        have BA : Below wx3.heap.size wx3 wx4 := by rw [← hN]; exact ((Below.refl _ _).alloc (Nat.le_refl _) _)
        have HN : Hid (wx4.heap[wx3.heap.size]? = some (.cells #[.slice (some ⟨gt, 0, none⟩) T T, .slice pv V cv] 23 (0, 0))) := by rw [← hN]; exact heap_alloc_new _ _
        replace QA0 := hide (isBy_below QA0.out BA)
        replace QA1 := hide (PartsOf.below QA1.out BA)
        replace QA2 := hide (isBy_below QA2.out BA)
        replace HES := hide (HES.out.below BA)
        obtain ⟨xb, hxb⟩ : ∃ xb, wx3.heap.size = xb := ⟨_, rfl⟩
        rw [hxb] at HN
        rw [hN]
        (try rw [hxb])
        clear BA hN hxb
        have QB1 : Hid (PartsOf wx4 (some ⟨xb, 0, none⟩) 2 (fun i => if i = 0 then tb else vb)) := parts_two HN.out HES.out.tim HES.out.val
        clear HN
        refine hK.out _ _ ?_ (fun hHeld => ?_)
        · exact HES.out.box
        clear hK K
        try simp only [Act.put, List.getElem_toArray, List.getElem_cons_zero, List.getElem_cons_succ, List.setIfInBounds_toArray, List.set_cons_zero, List.set_cons_succ]
        refine wpAnyH_ready (rs := [10]) (by kernel_rfl) (by simp) ?_
        refine AllReadyH.cons rfl (fun K hK => ?_) AllReadyH.nil
        go_simp
        refine (HS2.out wx4 xb QB1.out HES.out.tab).mono ?_
        rintro _ wx5 ⟨gd, rfl, hgg, hrow, B5⟩
        replace QA0 := hide (isBy_below QA0.out B5)
        replace QA1 := hide (PartsOf.below QA1.out B5)
        replace QA2 := hide (isBy_below QA2.out B5)
        replace QB1 := hide (PartsOf.below QB1.out B5)
        replace HES := hide (HES.out.below B5)
        have QB2 : Hid (IsBy wx5 (.slice (some ⟨gd, 0, none⟩) (sealB (tb ++ vb)).length (sealB (tb ++ vb)).length) (sealB (tb ++ vb))) := .inl (isBytes_row hrow)
        clear hgg hrow B5
        refine hK.out _ _ ?_ (fun hHeld => ?_)
        · exact HES.out.box
        clear hK K
        try simp only [Act.put, List.getElem_toArray, List.getElem_cons_zero, List.getElem_cons_succ, List.setIfInBounds_toArray, List.set_cons_zero, List.set_cons_succ]
        refine wpAnyH_ready (rs := [11]) (by kernel_rfl) (by simp) ?_
        refine AllReadyH.cons rfl (fun K hK => ?_) AllReadyH.nil
        go_simp
        obtain ⟨wx6, hN⟩ : ∃ wx6, (wx5.alloc (.cells #[.slice (some ⟨gc, 0, none⟩) (sealB hb).length (sealB hb).length, .slice (some ⟨gd, 0, none⟩) (sealB (tb ++ vb)).length (sealB (tb ++ vb)).length] 23)) = wx6 := ⟨_, rfl⟩
        have BA : Below wx5.heap.size wx5 wx6 := by rw [← hN]; exact ((Below.refl _ _).alloc (Nat.le_refl _) _)
        have HN : Hid (wx6.heap[wx5.heap.size]? = some (.cells #[.slice (some ⟨gc, 0, none⟩) (sealB hb).length (sealB hb).length, .slice (some ⟨gd, 0, none⟩) (sealB (tb ++ vb)).length (sealB (tb ++ vb)).length] 23 (0, 0))) := by rw [← hN]; exact heap_alloc_new _ _
        replace QA0 := hide (isBy_below QA0.out BA)
        replace QA1 := hide (PartsOf.below QA1.out BA)
        replace QA2 := hide (isBy_below QA2.out BA)
        replace QB1 := hide (PartsOf.below QB1.out BA)
        replace QB2 := hide (isBy_below QB2.out BA)
        replace HES := hide (HES.out.below BA)
        obtain ⟨xc, hxc⟩ : ∃ xc, wx5.heap.size = xc := ⟨_, rfl⟩
        rw [hxc] at HN
        rw [hN]
        (try rw [hxc])
        clear BA hN hxc
        have QC : Hid (PartsOf wx6 (some ⟨xc, 0, none⟩) 2 (fun i => if i = 0 then sealB hb else sealB (tb ++ vb))) := parts_two HN.out QA2.out QB2.out
        clear HN
        refine hK.out _ _ ?_ (fun hHeld => ?_)
        · exact HES.out.box
        clear hK K
        try simp only [Act.put, List.getElem_toArray, List.getElem_cons_zero, List.getElem_cons_succ, List.setIfInBounds_toArray, List.set_cons_zero, List.set_cons_succ]
        refine wpAnyH_ready (rs := [12]) (by kernel_rfl) (by simp) ?_
        refine AllReadyH.cons rfl (fun K hK => ?_) AllReadyH.nil
        go_simp
        refine (HJ.out wx6 xc QC.out).mono ?_
        rintro _ wz ⟨gz, rfl, hgz, hrow, B5⟩
        replace HES := hide (HES.out.below B5)
        have HROW := hide hrow
        clear hgz hrow B5
        refine hK.out _ _ ?_ (fun hHeld => ?_)
        · exact HES.out.box
        clear hK K
        try simp only [Act.put, List.getElem_toArray, List.getElem_cons_zero, List.getElem_cons_succ, List.setIfInBounds_toArray, List.set_cons_zero, List.set_cons_succ]
        refine wpAnyH_take (i := 13) (v := ?_) rfl (by kernel_rfl) (by kernel_rfl) (by kernel_rfl) (fun _ _ _ h => h) (Or.inl ⟨by rfl, ?_⟩) hHeld ?_
        rotate_left
        · (intro wq hSw; (try dsimp only at hSw); skip; (go_simp <;> with_reducible rfl))
        try simp only [Act.put, List.getElem_toArray, List.getElem_cons_zero, List.getElem_cons_succ, List.setIfInBounds_toArray, List.set_cons_zero, List.set_cons_succ]
        refine wpAnyH_take (i := 14) (v := ?_) rfl (by kernel_rfl) (by kernel_rfl) (by kernel_rfl) (fun _ _ _ h => h) (Or.inl ⟨by rfl, ?_⟩) hHeld ?_
        rotate_left
        · (intro wq hSw; (try dsimp only at hSw); skip; (go_simp <;> with_reducible rfl))
        try simp only [Act.put, List.getElem_toArray, List.getElem_cons_zero, List.getElem_cons_succ, List.setIfInBounds_toArray, List.set_cons_zero, List.set_cons_succ]
        refine wpAnyH_done (by kernel_rfl) ?_ _
        go_wp2_with fail
        go_ret2
        exact ⟨co, vb, gz, by rw [HBLK.out]; simp, by rw [HBLK.out]; exact HROW.out, HVV.out.1, HVV.out.2, by rw [HG.out]; exact HES.out.bel⟩
      · skip
        go_simp
        obtain ⟨wx7, hN⟩ : ∃ wx7, (wx2.alloc (.cells #[.slice (some ⟨gt, 0, none⟩) T T, .slice pv V cv] 23)) = wx7 := ⟨_, rfl⟩
        have BA : Below wx2.heap.size wx2 wx7 := by rw [← hN]; exact ((Below.refl _ _).alloc (Nat.le_refl _) _)
        have HN : Hid (wx7.heap[wx2.heap.size]? = some (.cells #[.slice (some ⟨gt, 0, none⟩) T T, .slice pv V cv] 23 (0, 0))) := by rw [← hN]; exact heap_alloc_new _ _
        replace QA0 := hide (isBy_below QA0.out BA)
        replace QA1 := hide (PartsOf.below QA1.out BA)
        replace HES := hide (HES.out.below BA)
        obtain ⟨xb, hxb⟩ : ∃ xb, wx2.heap.size = xb := ⟨_, rfl⟩
        rw [hxb] at HN
        rw [hN]
        (try rw [hxb])
        clear BA hN hxb
        have QB1 : Hid (PartsOf wx7 (some ⟨xb, 0, none⟩) 2 (fun i => if i = 0 then tb else vb)) := parts_two HN.out HES.out.tim HES.out.val
        clear HN
        refine hK.out _ _ ?_ (fun hHeld => ?_)
        · exact HES.out.box
        clear hK K
        try simp only [Act.put, List.getElem_toArray, List.getElem_cons_zero, List.getElem_cons_succ, List.setIfInBounds_toArray, List.set_cons_zero, List.set_cons_succ]
        refine wpAnyH_ready (rs := [4]) (by kernel_rfl) (by simp) ?_
        refine AllReadyH.cons rfl (fun K hK => ?_) AllReadyH.nil
        go_simp
        refine (HS1.out wx7 xa QA1.out HES.out.tab).mono ?_
        rintro _ wx8 ⟨gc, rfl, hgg, hrow, B5⟩
        replace QA0 := hide (isBy_below QA0.out B5)
        replace QA1 := hide (PartsOf.below QA1.out B5)
        replace QB1 := hide (PartsOf.below QB1.out B5)
        replace HES := hide (HES.out.below B5)
        have QA2 : Hid (IsBy wx8 (.slice (some ⟨gc, 0, none⟩) (sealB hb).length (sealB hb).length) (sealB hb)) := .inl (isBytes_row hrow)
        clear hgg hrow B5
        refine hK.out _ _ ?_ (fun hHeld => ?_)
        · exact HES.out.box
        clear hK K
        try simp only [Act.put, List.getElem_toArray, List.getElem_cons_zero, List.getElem_cons_succ, List.setIfInBounds_toArray, List.set_cons_zero, List.set_cons_succ]
        refine wpAnyH_ready (rs := [10]) (by kernel_rfl) (by simp) ?_
        refine AllReadyH.cons rfl (fun K hK => ?_) AllReadyH.nil
        go_simp
        refine (HS2.out wx8 xb QB1.out HES.out.tab).mono ?_
        rintro _ wx9 ⟨gd, rfl, hgg, hrow, B5⟩
        replace QA0 := hide (isBy_below QA0.out B5)
        replace QA1 := hide (PartsOf.below QA1.out B5)
        replace QB1 := hide (PartsOf.below QB1.out B5)
        replace QA2 := hide (isBy_below QA2.out B5)
        replace HES := hide (HES.out.below B5)
        have QB2 : Hid (IsBy wx9 (.slice (some ⟨gd, 0, none⟩) (sealB (tb ++ vb)).length (sealB (tb ++ vb)).length) (sealB (tb ++ vb))) := .inl (isBytes_row hrow)
        clear hgg hrow B5
        refine hK.out _ _ ?_ (fun hHeld => ?_)
        · exact HES.out.box
        clear hK K
        try simp only [Act.put, List.getElem_toArray, List.getElem_cons_zero, List.getElem_cons_succ, List.setIfInBounds_toArray, List.set_cons_zero, List.set_cons_succ]
        refine wpAnyH_ready (rs := [11]) (by kernel_rfl) (by simp) ?_
        refine AllReadyH.cons rfl (fun K hK => ?_) AllReadyH.nil
        go_simp
        obtain ⟨wx10, hN⟩ : ∃ wx10, (wx9.alloc (.cells #[.slice (some ⟨gc, 0, none⟩) (sealB hb).length (sealB hb).length, .slice (some ⟨gd, 0, none⟩) (sealB (tb ++ vb)).length (sealB (tb ++ vb)).length] 23)) = wx10 := ⟨_, rfl⟩
        have BA : Below wx9.heap.size wx9 wx10 := by rw [← hN]; exact ((Below.refl _ _).alloc (Nat.le_refl _) _)
        have HN : Hid (wx10.heap[wx9.heap.size]? = some (.cells #[.slice (some ⟨gc, 0, none⟩) (sealB hb).length (sealB hb).length, .slice (some ⟨gd, 0, none⟩) (sealB (tb ++ vb)).length (sealB (tb ++ vb)).length] 23 (0, 0))) := by rw [← hN]; exact heap_alloc_new _ _
        replace QA0 := hide (isBy_below QA0.out BA)
        replace QA1 := hide (PartsOf.below QA1.out BA)
        replace QB1 := hide (PartsOf.below QB1.out BA)
        replace QA2 := hide (isBy_below QA2.out BA)
        replace QB2 := hide (isBy_below QB2.out BA)
        replace HES := hide (HES.out.below BA)
        obtain ⟨xc, hxc⟩ : ∃ xc, wx9.heap.size = xc := ⟨_, rfl⟩
        rw [hxc] at HN
        rw [hN]
        (try rw [hxc])
        clear BA hN hxc
        have QC : Hid (PartsOf wx10 (some ⟨xc, 0, none⟩) 2 (fun i => if i = 0 then sealB hb else sealB (tb ++ vb))) := parts_two HN.out QA2.out QB2.out
        clear HN
        refine hK.out _ _ ?_ (fun hHeld => ?_)
        · exact HES.out.box
        clear hK K
        try simp only [Act.put, List.getElem_toArray, List.getElem_cons_zero, List.getElem_cons_succ, List.setIfInBounds_toArray, List.set_cons_zero, List.set_cons_succ]
        refine wpAnyH_ready (rs := [12]) (by kernel_rfl) (by simp) ?_
        refine AllReadyH.cons rfl (fun K hK => ?_) AllReadyH.nil
        go_simp
        refine (HJ.out wx10 xc QC.out).mono ?_
        rintro _ wz ⟨gz, rfl, hgz, hrow, B5⟩
        replace HES := hide (HES.out.below B5)
        have HROW := hide hrow
        clear hgz hrow B5
        refine hK.out _ _ ?_ (fun hHeld => ?_)
        · exact HES.out.box
        clear hK K
        try simp only [Act.put, List.getElem_toArray, List.getElem_cons_zero, List.getElem_cons_succ, List.setIfInBounds_toArray, List.set_cons_zero, List.set_cons_succ]
        refine wpAnyH_take (i := 13) (v := ?_) rfl (by kernel_rfl) (by kernel_rfl) (by kernel_rfl) (fun _ _ _ h => h) (Or.inl ⟨by rfl, ?_⟩) hHeld ?_
        rotate_left
        · (intro wq hSw; (try dsimp only at hSw); skip; (go_simp <;> with_reducible rfl))
        try simp only [Act.put, List.getElem_toArray, List.getElem_cons_zero, List.getElem_cons_succ, List.setIfInBounds_toArray, List.set_cons_zero, List.set_cons_succ]
        refine wpAnyH_take (i := 14) (v := ?_) rfl (by kernel_rfl) (by kernel_rfl) (by kernel_rfl) (fun _ _ _ h => h) (Or.inl ⟨by rfl, ?_⟩) hHeld ?_
        rotate_left
        · (intro wq hSw; (try dsimp only at hSw); skip; (go_simp <;> with_reducible rfl))
        try simp only [Act.put, List.getElem_toArray, List.getElem_cons_zero, List.getElem_cons_succ, List.setIfInBounds_toArray, List.set_cons_zero, List.set_cons_succ]
        refine wpAnyH_done (by kernel_rfl) ?_ _
        go_wp2_with fail
        go_ret2
        exact ⟨co, vb, gz, by rw [HBLK.out]; simp, by rw [HBLK.out]; exact HROW.out, HVV.out.1, HVV.out.2, by rw [HG.out]; exact HES.out.bel⟩
    · skip
      go_simp
      obtain ⟨wx11, hN⟩ : ∃ wx11, (wx1.alloc (.cells #[.slice (some ⟨gt, 0, none⟩) T T, .slice pv V cv] 23)) = wx11 := ⟨_, rfl⟩
      have BA : Below wx1.heap.size wx1 wx11 := by rw [← hN]; exact ((Below.refl _ _).alloc (Nat.le_refl _) _)
      have HN : Hid (wx11.heap[wx1.heap.size]? = some (.cells #[.slice (some ⟨gt, 0, none⟩) T T, .slice pv V cv] 23 (0, 0))) := by rw [← hN]; exact heap_alloc_new _ _
      replace QA0 := hide (isBy_below QA0.out BA)
      replace HES := hide (HES.out.below BA)
      obtain ⟨xb, hxb⟩ : ∃ xb, wx1.heap.size = xb := ⟨_, rfl⟩
      rw [hxb] at HN
      rw [hN]
      (try rw [hxb])
      clear BA hN hxb
      have QB1 : Hid (PartsOf wx11 (some ⟨xb, 0, none⟩) 2 (fun i => if i = 0 then tb else vb)) := parts_two HN.out HES.out.tim HES.out.val
      clear HN
      refine hK.out _ _ ?_ (fun hHeld => ?_)
      · exact HES.out.box
      clear hK K
      try simp only [Act.put, List.getElem_toArray, List.getElem_cons_zero, List.getElem_cons_succ, List.setIfInBounds_toArray, List.set_cons_zero, List.set_cons_succ]
      refine wpAnyH_ready (rs := [3]) (by kernel_rfl) (by simp) ?_
      refine AllReadyH.cons rfl (fun K hK => ?_) AllReadyH.nil
      go_simp
      obtain ⟨wx12, hN⟩ : ∃ wx12, (wx11.alloc (.cells #[.slice (some ⟨ga, 0, none⟩) 47 47] 23)) = wx12 := ⟨_, rfl⟩
      have BA : Below wx11.heap.size wx11 wx12 := by rw [← hN]; exact ((Below.refl _ _).alloc (Nat.le_refl _) _)
      have HN : Hid (wx12.heap[wx11.heap.size]? = some (.cells #[.slice (some ⟨ga, 0, none⟩) 47 47] 23 (0, 0))) := by rw [← hN]; exact heap_alloc_new _ _
      replace QA0 := hide (isBy_below QA0.out BA)
      replace QB1 := hide (PartsOf.below QB1.out BA)
      replace HES := hide (HES.out.below BA)
      obtain ⟨xa, hxa⟩ : ∃ xa, wx11.heap.size = xa := ⟨_, rfl⟩
      rw [hxa] at HN
      rw [hN]
      (try rw [hxa])
      clear BA hN hxa
      have QA1 : Hid (PartsOf wx12 (some ⟨xa, 0, none⟩) 1 (fun _ => hb)) := parts_one HN.out QA0.out
      clear HN
      refine hK.out _ _ ?_ (fun hHeld => ?_)
      · exact HES.out.box
      clear hK K
      try simp only [Act.put, List.getElem_toArray, List.getElem_cons_zero, List.getElem_cons_succ, List.setIfInBounds_toArray, List.set_cons_zero, List.set_cons_succ]
      refine wpAnyH_ready (rs := [4]) (by kernel_rfl) (by simp) ?_
      refine AllReadyH.cons rfl (fun K hK => ?_) AllReadyH.nil
      go_simp
      refine (HS1.out wx12 xa QA1.out HES.out.tab).mono ?_
      rintro _ wx13 ⟨gc, rfl, hgg, hrow, B5⟩
      replace QA0 := hide (isBy_below QA0.out B5)
      replace QB1 := hide (PartsOf.below QB1.out B5)
      replace QA1 := hide (PartsOf.below QA1.out B5)
      replace HES := hide (HES.out.below B5)
      have QA2 : Hid (IsBy wx13 (.slice (some ⟨gc, 0, none⟩) (sealB hb).length (sealB hb).length) (sealB hb)) := .inl (isBytes_row hrow)
      clear hgg hrow B5
      refine hK.out _ _ ?_ (fun hHeld => ?_)
      · exact HES.out.box
      clear hK K
      try simp only [Act.put, List.getElem_toArray, List.getElem_cons_zero, List.getElem_cons_succ, List.setIfInBounds_toArray, List.set_cons_zero, List.set_cons_succ]
      refine wpAnyH_ready (rs := [10]) (by kernel_rfl) (by simp) ?_
      refine AllReadyH.cons rfl (fun K hK => ?_) AllReadyH.nil
      go_simp
      refine (HS2.out wx13 xb QB1.out HES.out.tab).mono ?_
      rintro _ wx14 ⟨gd, rfl, hgg, hrow, B5⟩
      replace QA0 := hide (isBy_below QA0.out B5)
      replace QB1 := hide (PartsOf.below QB1.out B5)
      replace QA1 := hide (PartsOf.below QA1.out B5)
      replace QA2 := hide (isBy_below QA2.out B5)
      replace HES := hide (HES.out.below B5)
      have QB2 : Hid (IsBy wx14 (.slice (some ⟨gd, 0, none⟩) (sealB (tb ++ vb)).length (sealB (tb ++ vb)).length) (sealB (tb ++ vb))) := .inl (isBytes_row hrow)
      clear hgg hrow B5
      refine hK.out _ _ ?_ (fun hHeld => ?_)
      · exact HES.out.box
      clear hK K
      try simp only [Act.put, List.getElem_toArray, List.getElem_cons_zero, List.getElem_cons_succ, List.setIfInBounds_toArray, List.set_cons_zero, List.set_cons_succ]
      refine wpAnyH_ready (rs := [11]) (by kernel_rfl) (by simp) ?_
      refine AllReadyH.cons rfl (fun K hK => ?_) AllReadyH.nil
      go_simp
      obtain ⟨wx15, hN⟩ : ∃ wx15, (wx14.alloc (.cells #[.slice (some ⟨gc, 0, none⟩) (sealB hb).length (sealB hb).length, .slice (some ⟨gd, 0, none⟩) (sealB (tb ++ vb)).length (sealB (tb ++ vb)).length] 23)) = wx15 := ⟨_, rfl⟩
      have BA : Below wx14.heap.size wx14 wx15 := by rw [← hN]; exact ((Below.refl _ _).alloc (Nat.le_refl _) _)
      have HN : Hid (wx15.heap[wx14.heap.size]? = some (.cells #[.slice (some ⟨gc, 0, none⟩) (sealB hb).length (sealB hb).length, .slice (some ⟨gd, 0, none⟩) (sealB (tb ++ vb)).length (sealB (tb ++ vb)).length] 23 (0, 0))) := by rw [← hN]; exact heap_alloc_new _ _
      replace QA0 := hide (isBy_below QA0.out BA)
      replace QB1 := hide (PartsOf.below QB1.out BA)
      replace QA1 := hide (PartsOf.below QA1.out BA)
      replace QA2 := hide (isBy_below QA2.out BA)
      replace QB2 := hide (isBy_below QB2.out BA)
      replace HES := hide (HES.out.below BA)
      obtain ⟨xc, hxc⟩ : ∃ xc, wx14.heap.size = xc := ⟨_, rfl⟩
      rw [hxc] at HN
      rw [hN]
      (try rw [hxc])
      clear BA hN hxc
      have QC : Hid (PartsOf wx15 (some ⟨xc, 0, none⟩) 2 (fun i => if i = 0 then sealB hb else sealB (tb ++ vb))) := parts_two HN.out QA2.out QB2.out
      clear HN
      refine hK.out _ _ ?_ (fun hHeld => ?_)
      · exact HES.out.box
      clear hK K
      try simp only [Act.put, List.getElem_toArray, List.getElem_cons_zero, List.getElem_cons_succ, List.setIfInBounds_toArray, List.set_cons_zero, List.set_cons_succ]
      refine wpAnyH_ready (rs := [12]) (by kernel_rfl) (by simp) ?_
      refine AllReadyH.cons rfl (fun K hK => ?_) AllReadyH.nil
      go_simp
      refine (HJ.out wx15 xc QC.out).mono ?_
      rintro _ wz ⟨gz, rfl, hgz, hrow, B5⟩
      replace HES := hide (HES.out.below B5)
      have HROW := hide hrow
      clear hgz hrow B5
      refine hK.out _ _ ?_ (fun hHeld => ?_)
      · exact HES.out.box
      clear hK K
      try simp only [Act.put, List.getElem_toArray, List.getElem_cons_zero, List.getElem_cons_succ, List.setIfInBounds_toArray, List.set_cons_zero, List.set_cons_succ]
      refine wpAnyH_take (i := 13) (v := ?_) rfl (by kernel_rfl) (by kernel_rfl) (by kernel_rfl) (fun _ _ _ h => h) (Or.inl ⟨by rfl, ?_⟩) hHeld ?_
      rotate_left
      · (intro wq hSw; (try dsimp only at hSw); skip; (go_simp <;> with_reducible rfl))
      try simp only [Act.put, List.getElem_toArray, List.getElem_cons_zero, List.getElem_cons_succ, List.setIfInBounds_toArray, List.set_cons_zero, List.set_cons_succ]
      refine wpAnyH_take (i := 14) (v := ?_) rfl (by kernel_rfl) (by kernel_rfl) (by kernel_rfl) (fun _ _ _ h => h) (Or.inl ⟨by rfl, ?_⟩) hHeld ?_
      rotate_left
      · (intro wq hSw; (try dsimp only at hSw); skip; (go_simp <;> with_reducible rfl))
      try simp only [Act.put, List.getElem_toArray, List.getElem_cons_zero, List.getElem_cons_succ, List.setIfInBounds_toArray, List.set_cons_zero, List.set_cons_succ]
      refine wpAnyH_done (by kernel_rfl) ?_ _
      go_wp2_with fail
      go_ret2
      exact ⟨co, vb, gz, by rw [HBLK.out]; simp, by rw [HBLK.out]; exact HROW.out, HVV.out.1, HVV.out.2, by rw [HG.out]; exact HES.out.bel⟩
  · skip
    go_simp
    obtain ⟨wx16, hN⟩ : ∃ wx16, (W3.alloc (.cells #[.slice (some ⟨gt, 0, none⟩) T T, .slice pv V cv] 23)).drew = wx16 := ⟨_, rfl⟩
    have BA : Below W3.heap.size W3 wx16 := by rw [← hN]; exact ((Below.refl _ _).alloc (Nat.le_refl _) _).drew
    replace HES := HES0
    have HN : Hid (wx16.heap[W3.heap.size]? = some (.cells #[.slice (some ⟨gt, 0, none⟩) T T, .slice pv V cv] 23 (0, 0))) := by rw [← hN]; exact heap_alloc_new _ _
    replace HES := hide (HES.out.below BA)
    obtain ⟨xb, hxb⟩ : ∃ xb, W3.heap.size = xb := ⟨_, rfl⟩
    rw [hxb] at HN
    rw [hN]
    (try rw [hxb])
    clear BA hN hxb
    have QB1 : Hid (PartsOf wx16 (some ⟨xb, 0, none⟩) 2 (fun i => if i = 0 then tb else vb)) := parts_two HN.out HES.out.tim HES.out.val
    clear HN
    refine hK.out _ _ ?_ (fun hHeld => ?_)
    · exact HES.out.box
    clear hK K
    try simp only [Act.put, List.getElem_toArray, List.getElem_cons_zero, List.getElem_cons_succ, List.setIfInBounds_toArray, List.set_cons_zero, List.set_cons_succ]
    refine wpAnyH_ready (rs := [2]) (by kernel_rfl) (by simp) ?_
    refine AllReadyH.cons rfl (fun K hK => ?_) AllReadyH.nil
    go_simp
    refine (HBy.out wx16).mono ?_
    rintro _ wx17 ⟨ga, rfl, hgg, hrow, B5⟩
    replace QB1 := hide (PartsOf.below QB1.out B5)
    replace HES := hide (HES.out.below B5)
    have QA0 : Hid (IsBy wx17 (.slice (some ⟨ga, 0, none⟩) 47 47) hb) := .inl (isBytes_row47 HB47.out hrow)
    clear hgg hrow B5
    refine hK.out _ _ ?_ (fun hHeld => ?_)
    · exact HES.out.box
    clear hK K
    try simp only [Act.put, List.getElem_toArray, List.getElem_cons_zero, List.getElem_cons_succ, List.setIfInBounds_toArray, List.set_cons_zero, List.set_cons_succ]
    refine wpAnyH_ready (rs := [3]) (by kernel_rfl) (by simp) ?_
    refine AllReadyH.cons rfl (fun K hK => ?_) AllReadyH.nil
    go_simp
    obtain ⟨wx18, hN⟩ : ∃ wx18, (wx17.alloc (.cells #[.slice (some ⟨ga, 0, none⟩) 47 47] 23)) = wx18 := ⟨_, rfl⟩
    have BA : Below wx17.heap.size wx17 wx18 := by rw [← hN]; exact ((Below.refl _ _).alloc (Nat.le_refl _) _)
    have HN : Hid (wx18.heap[wx17.heap.size]? = some (.cells #[.slice (some ⟨ga, 0, none⟩) 47 47] 23 (0, 0))) := by rw [← hN]; exact heap_alloc_new _ _
    replace QB1 := hide (PartsOf.below QB1.out BA)
    replace QA0 := hide (isBy_below QA0.out BA)
    replace HES := hide (HES.out.below BA)
    obtain ⟨xa, hxa⟩ : ∃ xa, wx17.heap.size = xa := ⟨_, rfl⟩
    rw [hxa] at HN
    rw [hN]
    (try rw [hxa])
    clear BA hN hxa
    have QA1 : Hid (PartsOf wx18 (some ⟨xa, 0, none⟩) 1 (fun _ => hb)) := parts_one HN.out QA0.out
    clear HN
    refine hK.out _ _ ?_ (fun hHeld => ?_)
    · exact HES.out.box
    clear hK K
    try simp only [Act.put, List.getElem_toArray, List.getElem_cons_zero, List.getElem_cons_succ, List.setIfInBounds_toArray, List.set_cons_zero, List.set_cons_succ]
    refine wpAnyH_ready (rs := [4]) (by kernel_rfl) (by simp) ?_
    refine AllReadyH.cons rfl (fun K hK => ?_) AllReadyH.nil
    go_simp
    refine (HS1.out wx18 xa QA1.out HES.out.tab).mono ?_
    rintro _ wx19 ⟨gc, rfl, hgg, hrow, B5⟩
    replace QB1 := hide (PartsOf.below QB1.out B5)
    replace QA0 := hide (isBy_below QA0.out B5)
    replace QA1 := hide (PartsOf.below QA1.out B5)
    replace HES := hide (HES.out.below B5)
    have QA2 : Hid (IsBy wx19 (.slice (some ⟨gc, 0, none⟩) (sealB hb).length (sealB hb).length) (sealB hb)) := .inl (isBytes_row hrow)
    clear hgg hrow B5
    refine hK.out _ _ ?_ (fun hHeld => ?_)
    · exact HES.out.box
    clear hK K
    try simp only [Act.put, List.getElem_toArray, List.getElem_cons_zero, List.getElem_cons_succ, List.setIfInBounds_toArray, List.set_cons_zero, List.set_cons_succ]
    refine wpAnyH_ready (rs := [10]) (by kernel_rfl) (by simp) ?_
    refine AllReadyH.cons rfl (fun K hK => ?_) AllReadyH.nil
    go_simp
    refine (HS2.out wx19 xb QB1.out HES.out.tab).mono ?_
    rintro _ wx20 ⟨gd, rfl, hgg, hrow, B5⟩
    replace QB1 := hide (PartsOf.below QB1.out B5)
    replace QA0 := hide (isBy_below QA0.out B5)
    replace QA1 := hide (PartsOf.below QA1.out B5)
    replace QA2 := hide (isBy_below QA2.out B5)
    replace HES := hide (HES.out.below B5)
    have QB2 : Hid (IsBy wx20 (.slice (some ⟨gd, 0, none⟩) (sealB (tb ++ vb)).length (sealB (tb ++ vb)).length) (sealB (tb ++ vb))) := .inl (isBytes_row hrow)
    clear hgg hrow B5
    refine hK.out _ _ ?_ (fun hHeld => ?_)
    · exact HES.out.box
    clear hK K
    try simp only [Act.put, List.getElem_toArray, List.getElem_cons_zero, List.getElem_cons_succ, List.setIfInBounds_toArray, List.set_cons_zero, List.set_cons_succ]
    refine wpAnyH_ready (rs := [11]) (by kernel_rfl) (by simp) ?_
    refine AllReadyH.cons rfl (fun K hK => ?_) AllReadyH.nil
    go_simp
    obtain ⟨wx21, hN⟩ : ∃ wx21, (wx20.alloc (.cells #[.slice (some ⟨gc, 0, none⟩) (sealB hb).length (sealB hb).length, .slice (some ⟨gd, 0, none⟩) (sealB (tb ++ vb)).length (sealB (tb ++ vb)).length] 23)) = wx21 := ⟨_, rfl⟩
    have BA : Below wx20.heap.size wx20 wx21 := by rw [← hN]; exact ((Below.refl _ _).alloc (Nat.le_refl _) _)
    have HN : Hid (wx21.heap[wx20.heap.size]? = some (.cells #[.slice (some ⟨gc, 0, none⟩) (sealB hb).length (sealB hb).length, .slice (some ⟨gd, 0, none⟩) (sealB (tb ++ vb)).length (sealB (tb ++ vb)).length] 23 (0, 0))) := by rw [← hN]; exact heap_alloc_new _ _
    replace QB1 := hide (PartsOf.below QB1.out BA)
    replace QA0 := hide (isBy_below QA0.out BA)
    replace QA1 := hide (PartsOf.below QA1.out BA)
    replace QA2 := hide (isBy_below QA2.out BA)
    replace QB2 := hide (isBy_below QB2.out BA)
    replace HES := hide (HES.out.below BA)
    obtain ⟨xc, hxc⟩ : ∃ xc, wx20.heap.size = xc := ⟨_, rfl⟩
    rw [hxc] at HN
    rw [hN]
    (try rw [hxc])
    clear BA hN hxc
    have QC : Hid (PartsOf wx21 (some ⟨xc, 0, none⟩) 2 (fun i => if i = 0 then sealB hb else sealB (tb ++ vb))) := parts_two HN.out QA2.out QB2.out
    clear HN
    refine hK.out _ _ ?_ (fun hHeld => ?_)
    · exact HES.out.box
    clear hK K
    try simp only [Act.put, List.getElem_toArray, List.getElem_cons_zero, List.getElem_cons_succ, List.setIfInBounds_toArray, List.set_cons_zero, List.set_cons_succ]
    refine wpAnyH_ready (rs := [12]) (by kernel_rfl) (by simp) ?_
    refine AllReadyH.cons rfl (fun K hK => ?_) AllReadyH.nil
    go_simp
    refine (HJ.out wx21 xc QC.out).mono ?_
    rintro _ wz ⟨gz, rfl, hgz, hrow, B5⟩
    replace HES := hide (HES.out.below B5)
    have HROW := hide hrow
    clear hgz hrow B5
    refine hK.out _ _ ?_ (fun hHeld => ?_)
    · exact HES.out.box
    clear hK K
    try simp only [Act.put, List.getElem_toArray, List.getElem_cons_zero, List.getElem_cons_succ, List.setIfInBounds_toArray, List.set_cons_zero, List.set_cons_succ]
    refine wpAnyH_take (i := 13) (v := ?_) rfl (by kernel_rfl) (by kernel_rfl) (by kernel_rfl) (fun _ _ _ h => h) (Or.inl ⟨by rfl, ?_⟩) hHeld ?_
    rotate_left
    · (intro wq hSw; (try dsimp only at hSw); skip; (go_simp <;> with_reducible rfl))
    try simp only [Act.put, List.getElem_toArray, List.getElem_cons_zero, List.getElem_cons_succ, List.setIfInBounds_toArray, List.set_cons_zero, List.set_cons_succ]
    refine wpAnyH_take (i := 14) (v := ?_) rfl (by kernel_rfl) (by kernel_rfl) (by kernel_rfl) (fun _ _ _ h => h) (Or.inl ⟨by rfl, ?_⟩) hHeld ?_
    rotate_left
    · (intro wq hSw; (try dsimp only at hSw); skip; (go_simp <;> with_reducible rfl))
    try simp only [Act.put, List.getElem_toArray, List.getElem_cons_zero, List.getElem_cons_succ, List.setIfInBounds_toArray, List.set_cons_zero, List.set_cons_succ]
    refine wpAnyH_done (by kernel_rfl) ?_ _
    go_wp2_with fail
    go_ret2
    exact ⟨co, vb, gz, by rw [HBLK.out]; simp, by rw [HBLK.out]; exact HROW.out, HVV.out.1, HVV.out.2, by rw [HG.out]; exact HES.out.bel⟩

end Go.Proofs.YtpdaklklhoenhaaGreatDoor

/- block: headOf, of a head's own bytes. -/
namespace Go.Proofs.YtpdaklklhoenhaaGreatDoor
open Go.RowKit
open M
set_option linter.unusedVariables false
set_option linter.unusedSimpArgs false

/-- What stands while a head is read. -/
structure HdSt (w : World) (g0 b h : Nat) (s : ByteArray) (a : Nat) (R : List Bool) (cs : Array Value) (wr : World) : Prop where
  rd : Rd wr b 0 s a 0
  rest : (rb s).drop a = R
  own : wr.heap[h]? = some (.cells cs 66 (0, 0))
  res : wr.heap[g0]? = some (.cells #[.int .i64 0, .int .i64 0, .int .i64 0, .int .i64 0, .int .i64 0, .int .u64 0, .int .u64 0, .int .i64 0, .int .i64 0, .int .i64 0, .int .i64 0] 66 (0, 0))
  bel : Below g0 w wr
  ne : g0 < b ∧ b < h

theorem HdSt.read {w : World} {g0 b h : Nat} {s : ByteArray} {a n y x a' : Nat} {e1 : Int} {R' : List Bool} {cs : Array Value} {wr w2 : World} (S : HdSt w g0 b h s a (bitsOf y n ++ R') cs wr) (hy : y < 2 ^ n) (hk : Hk (fun y => bitsOf y n) (fun y => y < 2 ^ n) wr w2 b 0 s a 0 x a' e1) : x = y ∧ HdSt w g0 b h s a' R' cs w2 := by
  obtain ⟨h1, h2, h3⟩ := hk.drop rfl y R' hy S.rest
  subst h2
  have hl := size_lt_of_row S.own
  have hl0 := size_lt_of_row S.res
  refine ⟨h1, hk.rd, h3, ?_, ?_, S.bel.trans (hk.only.below (by have := S.ne; omega) (by omega)), S.ne⟩
  · rw [hk.only.block h hl (by have := S.ne; omega)]; exact S.own
  · rw [hk.only.block g0 hl0 (by have := S.ne; omega)]; exact S.res

theorem HdSt.put {w : World} {g0 b h : Nat} {s : ByteArray} {a : Nat} {R : List Bool} {cs : Array Value} {wr : World} (S : HdSt w g0 b h s a R cs wr) (i : Nat) (v : Value) : HdSt w g0 b h s a R (cs.setIfInBounds i v) (wr.setCell ⟨h, i, none⟩ v) := by
  refine ⟨S.rd.setOther' h i (by have := S.ne; omega) v, S.rest, heap_setCell_same _ _ _ _ _ _ S.own, ?_, below_set S.bel _ _ _ (by have := S.ne; omega), S.ne⟩
  rw [Below.heap_setCell _ _ _ _ (show g0 ≠ h by have := S.ne; omega)]; exact S.res

set_option maxRecDepth 100000 in
set_option maxHeartbeats 4000000 in
theorem headOf_any (kd co ct na F L le gr ti va : Nat) (fi la : Int) (v : Value) (w : World) (hv : IsBy w v (packed (hdB kd co ct na F L le gr ti va))) (h0 : kd < 256) (h1 : co < 256) (h2 : ct < 65536) (h3 : na < 65536) (hF : F < 18446744073709551616) (hL : L < 18446744073709551616) (h6 : le < 18446744073709551616) (h7 : gr < 18446744073709551616) (h8 : ti < 4294967296) (h9 : va < 4294967296) (h4 : IntKind.i64.wrap (F : Int) = fi) (h5 : IntKind.i64.wrap (L : Int) = la) :
    Calls Tryz.prog 52 #[v] w fun e w' => e = .returned (.agg (hdA kd ct na fi la le gr ((ti : Int) + (va : Int) + 55) co ti va)) ∧ Below w.heap.size w w' := by
  have HV := hide hv
  obtain ⟨bs, hbs⟩ : ∃ bs, packed (hdB kd co ct na F L le gr ti va) = bs := ⟨_, rfl⟩
  rw [hbs] at HV
  have HL : Hid (bs.length ≤ 1000000000000) := by show _ ≤ _; rw [← hbs, packed_length, hdB_length]; omega
  have HR : Hid (∃ r, (rb (strOf bs)).drop 0 = bitsOf 181 8 ++ (bitsOf kd 8 ++ (bitsOf co 8 ++ (bitsOf ct 16 ++ (bitsOf na 16 ++ (bitsOf F 64 ++ (bitsOf L 64 ++ (bitsOf le 64 ++ (bitsOf gr 64 ++ (bitsOf ti 32 ++ (bitsOf va 32 ++ r))))))))))) := by
    show ∃ r, _
    rw [List.drop_zero, rb_strOf bs (by rw [← hbs]; exact packed_lt _), ← hbs, rbits_packed]
    unfold hdB
    simp only [List.append_assoc]
    exact ⟨_, rfl⟩
  have g4 : wrap64 (F : Int) = fi := by rw [← h4, IntKind.wrap_i64]; unfold wrap64; omega
  have g5 : wrap64 (L : Int) = la := by rw [← h5, IntKind.wrap_i64]; unfold wrap64; omega
  clear hv hbs
  obtain ⟨g0, hg0⟩ : ∃ g, w.heap.size = g := ⟨_, rfl⟩
  obtain ⟨W1, hW1⟩ : ∃ W1, w.alloc (.cells #[.int .i64 0, .int .i64 0, .int .i64 0, .int .i64 0, .int .i64 0, .int .u64 0, .int .u64 0, .int .i64 0, .int .i64 0, .int .i64 0, .int .i64 0] 66) = W1 := ⟨_, rfl⟩
  have HW1 : Hid (W1.heap[g0]? = some (.cells #[.int .i64 0, .int .i64 0, .int .i64 0, .int .i64 0, .int .i64 0, .int .u64 0, .int .u64 0, .int .i64 0, .int .i64 0, .int .i64 0, .int .i64 0] 66 (0, 0)) ∧ Below g0 w W1 ∧ W1.heap.size = g0 + 1) := by rw [← hW1, ← hg0]; exact ⟨heap_alloc_new _ _, (Below.refl _ _).alloc (Nat.le_refl _) _, by simp⟩
  have HV1 : Hid (IsBy W1 v bs) := by rw [← hW1]; exact isBy_below HV.out ((Below.refl _ _).alloc (Nat.le_refl _) _)
  have HG := hide hg0
  have HH := hide (And.intro h0 (And.intro h1 (And.intro h2 (And.intro h3 (And.intro hF (And.intro hL (And.intro h6 (And.intro h7 (And.intro h8 h9)))))))))
  clear h0 h1 h2 h3 hF hL h6 h7
  go_enter Tryz.func52, Tryz.ntmps52
  go_wp2_with fail
  (try rw [hW1])
  (try rw [hg0])
  clear hW1 hg0
  refine (from_by W1 v bs HV1.out).mono ?_
  rintro e w2 ⟨rfl, hw2⟩
  obtain ⟨b, hb⟩ : ∃ b, W1.heap.size = b := ⟨_, rfl⟩
  have HRd : Hid (Rd w2 b 0 (strOf bs) 0 0 ∧ w2.heap.size = b + 1 ∧ Below b W1 w2) := by
    rw [hw2, ← hb]; exact ⟨rd_new W1 bs HL.out, by simp, (Below.refl _ _).alloc (Nat.le_refl _) _⟩
  have HBG : Hid (b = g0 + 1) := by rw [← hb]; exact HW1.out.2.2
  rw [hb]
  clear hw2 hb
  go_wp2_with fail
  refine (hk_bits b 0 (strOf bs) 0 8 0 w2 HRd.out.1 (by omega)).mono ?_
  rintro e w3 ⟨x, a3, e1, rfl, hx, HK⟩
  obtain ⟨r, hr⟩ := HR.out
  obtain ⟨-, he1, hr3⟩ := HK.drop rfl 181 _ (by decide) hr
  subst he1
  go_upto_region 4 with fail
  obtain ⟨h, hh⟩ : ∃ h, w3.heap.size = h := ⟨_, rfl⟩
  obtain ⟨W4, hW4⟩ : ∃ W4, w3.alloc (.cells #[.int .i64 0, .int .i64 0, .int .i64 0, .int .i64 0, .int .i64 0, .int .u64 0, .int .u64 0, .int .i64 0, .int .i64 0, .int .i64 0, .int .i64 0] 66) = W4 := ⟨_, rfl⟩
  have HS : Hid (HdSt w g0 b h (strOf bs) a3 (bitsOf kd 8 ++ (bitsOf co 8 ++ (bitsOf ct 16 ++ (bitsOf na 16 ++ (bitsOf F 64 ++ (bitsOf L 64 ++ (bitsOf le 64 ++ (bitsOf gr 64 ++ (bitsOf ti 32 ++ (bitsOf va 32 ++ r)))))))))) #[.int .i64 0, .int .i64 0, .int .i64 0, .int .i64 0, .int .i64 0, .int .u64 0, .int .u64 0, .int .i64 0, .int .i64 0, .int .i64 0, .int .i64 0] W4) := by
    have hbg := HBG.out
    have hs2 := HRd.out.2.1
    have hs3 := HK.only.size
    have hs1 := HW1.out.2.2
    have hA : Below w3.heap.size w3 W4 := by rw [← hW4]; exact (Below.refl _ _).alloc (Nat.le_refl _) _
    have B12 : Below g0 W1 w2 := HRd.out.2.2.mono (by omega)
    have B23 : Below b w2 w3 := HK.only.below (Nat.le_refl _) (by omega)
    refine ⟨HK.rd.below hA (by omega), hr3, by rw [← hW4, ← hh]; exact heap_alloc_new _ _, ?_, ((HW1.out.2.1.trans (HRd.out.2.2.mono (by omega))).trans (B23.mono (by omega))).trans (hA.mono (by omega)), by omega⟩
    rw [hA.block g0 (by omega), B23.block g0 (by omega), HRd.out.2.2.block g0 (by omega)]; exact HW1.out.1
  rw [hW4]
  rw [hh]
  clear hW4 hh hr hr3 HK hx HRd HBG HW1 HV HV1 HR HL
  go_wp2_with fail
  refine (hk_bits b 0 (strOf bs) a3 8 0 W4 HS.out.rd (by omega)).mono ?_
  rintro e w5 ⟨x0, b0, e0, rfl, hx, HK⟩
  obtain ⟨hxe, hS2⟩ := HS.out.read HH.out.1 HK
  obtain rfl := hxe.symm
  have cc : w5.cell? ⟨h, 0, none⟩ = some (.int .i64 0) := by rw [cell_of_row _ _ _ _ _ _ hS2.own]; rfl
  have ff : w5.frozen? ⟨h, 0, none⟩ = false := frozen_of_row _ _ _ _ _ hS2.own
  obtain ⟨N0, hN⟩ : ∃ N, w5.setCell ⟨h, 0, none⟩ (.int .i64 (kd : Int)) = N := ⟨_, rfl⟩
  have hS3 := hS2.put 0 (.int .i64 (kd : Int))
  rw [hN] at hS3
  simp only [List.setIfInBounds_toArray, List.set_cons_zero, List.set_cons_succ] at hS3
  replace HS := hide hS3
  clear hS3
  have hsm : kd < 256 := hx
  clear hS2 HK hx
  go_upto_region 5 with fail
  (try rw [hN])
  clear hN cc ff hsm
  go_wp2_with fail
  refine (hk_bits b 0 (strOf bs) b0 8 0 N0 HS.out.rd (by omega)).mono ?_
  rintro e w6 ⟨x1, b1, e1, rfl, hx, HK⟩
  obtain ⟨hxe, hS2⟩ := HS.out.read HH.out.2.1 HK
  obtain rfl := hxe.symm
  have cc : w6.cell? ⟨h, 8, none⟩ = some (.int .i64 0) := by rw [cell_of_row _ _ _ _ _ _ hS2.own]; rfl
  have ff : w6.frozen? ⟨h, 8, none⟩ = false := frozen_of_row _ _ _ _ _ hS2.own
  obtain ⟨N1, hN⟩ : ∃ N, w6.setCell ⟨h, 8, none⟩ (.int .i64 (co : Int)) = N := ⟨_, rfl⟩
  have hS3 := hS2.put 8 (.int .i64 (co : Int))
  rw [hN] at hS3
  simp only [List.setIfInBounds_toArray, List.set_cons_zero, List.set_cons_succ] at hS3
  replace HS := hide hS3
  clear hS3
  have hsm : co < 256 := hx
  clear hS2 HK hx
  go_upto_region 6 with fail
  (try rw [hN])
  clear hN cc ff hsm
  go_wp2_with fail
  refine (hk_bits b 0 (strOf bs) b1 16 0 N1 HS.out.rd (by omega)).mono ?_
  rintro e w7 ⟨x2, b2, e2, rfl, hx, HK⟩
  obtain ⟨hxe, hS2⟩ := HS.out.read HH.out.2.2.1 HK
  obtain rfl := hxe.symm
  have cc : w7.cell? ⟨h, 1, none⟩ = some (.int .i64 0) := by rw [cell_of_row _ _ _ _ _ _ hS2.own]; rfl
  have ff : w7.frozen? ⟨h, 1, none⟩ = false := frozen_of_row _ _ _ _ _ hS2.own
  obtain ⟨N2, hN⟩ : ∃ N, w7.setCell ⟨h, 1, none⟩ (.int .i64 (ct : Int)) = N := ⟨_, rfl⟩
  have hS3 := hS2.put 1 (.int .i64 (ct : Int))
  rw [hN] at hS3
  simp only [List.setIfInBounds_toArray, List.set_cons_zero, List.set_cons_succ] at hS3
  replace HS := hide hS3
  clear hS3
  have hsm : ct < 65536 := hx
  clear hS2 HK hx
  go_upto_region 7 with fail
  (try rw [hN])
  clear hN cc ff hsm
  go_wp2_with fail
  refine (hk_bits b 0 (strOf bs) b2 16 0 N2 HS.out.rd (by omega)).mono ?_
  rintro e w8 ⟨x3, b3, e3, rfl, hx, HK⟩
  obtain ⟨hxe, hS2⟩ := HS.out.read HH.out.2.2.2.1 HK
  obtain rfl := hxe.symm
  have cc : w8.cell? ⟨h, 2, none⟩ = some (.int .i64 0) := by rw [cell_of_row _ _ _ _ _ _ hS2.own]; rfl
  have ff : w8.frozen? ⟨h, 2, none⟩ = false := frozen_of_row _ _ _ _ _ hS2.own
  obtain ⟨N3, hN⟩ : ∃ N, w8.setCell ⟨h, 2, none⟩ (.int .i64 (na : Int)) = N := ⟨_, rfl⟩
  have hS3 := hS2.put 2 (.int .i64 (na : Int))
  rw [hN] at hS3
  simp only [List.setIfInBounds_toArray, List.set_cons_zero, List.set_cons_succ] at hS3
  replace HS := hide hS3
  clear hS3
  have hsm : na < 65536 := hx
  clear hS2 HK hx
  go_upto_region 8 with fail
  (try rw [hN])
  clear hN cc ff hsm
  go_wp2_with fail
  refine (hk_bits b 0 (strOf bs) b3 64 0 N3 HS.out.rd (by omega)).mono ?_
  rintro e w9 ⟨x4, b4, e4, rfl, hx, HK⟩
  obtain ⟨hxe, hS2⟩ := HS.out.read HH.out.2.2.2.2.1 HK
  obtain rfl := hxe.symm
  have cc : w9.cell? ⟨h, 3, none⟩ = some (.int .i64 0) := by rw [cell_of_row _ _ _ _ _ _ hS2.own]; rfl
  have ff : w9.frozen? ⟨h, 3, none⟩ = false := frozen_of_row _ _ _ _ _ hS2.own
  obtain ⟨N4, hN⟩ : ∃ N, w9.setCell ⟨h, 3, none⟩ (.int .i64 fi) = N := ⟨_, rfl⟩
  have hS3 := hS2.put 3 (.int .i64 fi)
  rw [hN] at hS3
  simp only [List.setIfInBounds_toArray, List.set_cons_zero, List.set_cons_succ] at hS3
  replace HS := hide hS3
  clear hS3
  clear hS2 HK hx
  go_upto_region 9 with fail
  (try rw [hN])
  clear hN cc ff
  go_wp2_with fail
  refine (hk_bits b 0 (strOf bs) b4 64 0 N4 HS.out.rd (by omega)).mono ?_
  rintro e w10 ⟨x5, b5, e5, rfl, hx, HK⟩
  obtain ⟨hxe, hS2⟩ := HS.out.read HH.out.2.2.2.2.2.1 HK
  obtain rfl := hxe.symm
  have cc : w10.cell? ⟨h, 4, none⟩ = some (.int .i64 0) := by rw [cell_of_row _ _ _ _ _ _ hS2.own]; rfl
  have ff : w10.frozen? ⟨h, 4, none⟩ = false := frozen_of_row _ _ _ _ _ hS2.own
  obtain ⟨N5, hN⟩ : ∃ N, w10.setCell ⟨h, 4, none⟩ (.int .i64 la) = N := ⟨_, rfl⟩
  have hS3 := hS2.put 4 (.int .i64 la)
  rw [hN] at hS3
  simp only [List.setIfInBounds_toArray, List.set_cons_zero, List.set_cons_succ] at hS3
  replace HS := hide hS3
  clear hS3
  clear hS2 HK hx
  go_upto_region 10 with fail
  (try rw [hN])
  clear hN cc ff
  go_wp2_with fail
  refine (hk_bits b 0 (strOf bs) b5 64 0 N5 HS.out.rd (by omega)).mono ?_
  rintro e w11 ⟨x6, b6, e6, rfl, hx, HK⟩
  obtain ⟨hxe, hS2⟩ := HS.out.read HH.out.2.2.2.2.2.2.1 HK
  obtain rfl := hxe.symm
  have cc : w11.cell? ⟨h, 5, none⟩ = some (.int .u64 0) := by rw [cell_of_row _ _ _ _ _ _ hS2.own]; rfl
  have ff : w11.frozen? ⟨h, 5, none⟩ = false := frozen_of_row _ _ _ _ _ hS2.own
  obtain ⟨N6, hN⟩ : ∃ N, w11.setCell ⟨h, 5, none⟩ (.int .u64 (le : Int)) = N := ⟨_, rfl⟩
  have hS3 := hS2.put 5 (.int .u64 (le : Int))
  rw [hN] at hS3
  simp only [List.setIfInBounds_toArray, List.set_cons_zero, List.set_cons_succ] at hS3
  replace HS := hide hS3
  clear hS3
  clear hS2 HK hx
  go_upto_region 11 with fail
  (try rw [hN])
  clear hN cc ff
  go_wp2_with fail
  refine (hk_bits b 0 (strOf bs) b6 64 0 N6 HS.out.rd (by omega)).mono ?_
  rintro e w12 ⟨x7, b7, e7, rfl, hx, HK⟩
  obtain ⟨hxe, hS2⟩ := HS.out.read HH.out.2.2.2.2.2.2.2.1 HK
  obtain rfl := hxe.symm
  have cc : w12.cell? ⟨h, 6, none⟩ = some (.int .u64 0) := by rw [cell_of_row _ _ _ _ _ _ hS2.own]; rfl
  have ff : w12.frozen? ⟨h, 6, none⟩ = false := frozen_of_row _ _ _ _ _ hS2.own
  obtain ⟨N7, hN⟩ : ∃ N, w12.setCell ⟨h, 6, none⟩ (.int .u64 (gr : Int)) = N := ⟨_, rfl⟩
  have hS3 := hS2.put 6 (.int .u64 (gr : Int))
  rw [hN] at hS3
  simp only [List.setIfInBounds_toArray, List.set_cons_zero, List.set_cons_succ] at hS3
  replace HS := hide hS3
  clear hS3
  clear hS2 HK hx
  go_upto_region 12 with fail
  (try rw [hN])
  clear hN cc ff
  go_wp2_with fail
  refine (hk_bits b 0 (strOf bs) b7 32 0 N7 HS.out.rd (by omega)).mono ?_
  rintro e w13 ⟨x8, b8, e8, rfl, hx, HK⟩
  obtain ⟨hxe, hS2⟩ := HS.out.read HH.out.2.2.2.2.2.2.2.2.1 HK
  obtain rfl := hxe.symm
  have cc : w13.cell? ⟨h, 9, none⟩ = some (.int .i64 0) := by rw [cell_of_row _ _ _ _ _ _ hS2.own]; rfl
  have ff : w13.frozen? ⟨h, 9, none⟩ = false := frozen_of_row _ _ _ _ _ hS2.own
  obtain ⟨N8, hN⟩ : ∃ N, w13.setCell ⟨h, 9, none⟩ (.int .i64 (ti : Int)) = N := ⟨_, rfl⟩
  have hS3 := hS2.put 9 (.int .i64 (ti : Int))
  rw [hN] at hS3
  simp only [List.setIfInBounds_toArray, List.set_cons_zero, List.set_cons_succ] at hS3
  replace HS := hide hS3
  clear hS3
  have hsm : ti < 4294967296 := hx
  clear hS2 HK hx
  go_upto_region 13 with fail
  (try rw [hN])
  clear hN cc ff hsm
  go_wp2_with fail
  refine (hk_bits b 0 (strOf bs) b8 32 0 N8 HS.out.rd (by omega)).mono ?_
  rintro e w14 ⟨x9, b9, e9, rfl, hx, HK⟩
  obtain ⟨hxe, hS2⟩ := HS.out.read HH.out.2.2.2.2.2.2.2.2.2 HK
  obtain rfl := hxe.symm
  have cc : w14.cell? ⟨h, 10, none⟩ = some (.int .i64 0) := by rw [cell_of_row _ _ _ _ _ _ hS2.own]; rfl
  have ff : w14.frozen? ⟨h, 10, none⟩ = false := frozen_of_row _ _ _ _ _ hS2.own
  obtain ⟨N9, hN⟩ : ∃ N, w14.setCell ⟨h, 10, none⟩ (.int .i64 (va : Int)) = N := ⟨_, rfl⟩
  have hS3 := hS2.put 10 (.int .i64 (va : Int))
  rw [hN] at hS3
  simp only [List.setIfInBounds_toArray, List.set_cons_zero, List.set_cons_succ] at hS3
  replace HS := hide hS3
  clear hS3
  have hsm : va < 4294967296 := hx
  clear hS2 HK hx
  go_upto_region 14 with fail
  (try rw [hN])
  clear hN cc ff hsm
  have o0 : N9.cell? ⟨h, 0, none⟩ = some (.int .i64 (kd : Int)) := by rw [cell_of_row _ _ _ _ _ _ HS.out.own]; rfl
  have o1 : N9.cell? ⟨h, 1, none⟩ = some (.int .i64 (ct : Int)) := by rw [cell_of_row _ _ _ _ _ _ HS.out.own]; rfl
  have o2 : N9.cell? ⟨h, 2, none⟩ = some (.int .i64 (na : Int)) := by rw [cell_of_row _ _ _ _ _ _ HS.out.own]; rfl
  have o3 : N9.cell? ⟨h, 3, none⟩ = some (.int .i64 fi) := by rw [cell_of_row _ _ _ _ _ _ HS.out.own]; rfl
  have o4 : N9.cell? ⟨h, 4, none⟩ = some (.int .i64 la) := by rw [cell_of_row _ _ _ _ _ _ HS.out.own]; rfl
  have o5 : N9.cell? ⟨h, 5, none⟩ = some (.int .u64 (le : Int)) := by rw [cell_of_row _ _ _ _ _ _ HS.out.own]; rfl
  have o6 : N9.cell? ⟨h, 6, none⟩ = some (.int .u64 (gr : Int)) := by rw [cell_of_row _ _ _ _ _ _ HS.out.own]; rfl
  have o7 : N9.cell? ⟨h, 7, none⟩ = some (.int .i64 0) := by rw [cell_of_row _ _ _ _ _ _ HS.out.own]; rfl
  have o8 : N9.cell? ⟨h, 8, none⟩ = some (.int .i64 (co : Int)) := by rw [cell_of_row _ _ _ _ _ _ HS.out.own]; rfl
  have o9 : N9.cell? ⟨h, 9, none⟩ = some (.int .i64 (ti : Int)) := by rw [cell_of_row _ _ _ _ _ _ HS.out.own]; rfl
  have o10 : N9.cell? ⟨h, 10, none⟩ = some (.int .i64 (va : Int)) := by rw [cell_of_row _ _ _ _ _ _ HS.out.own]; rfl
  go_wp2_with fail
  refine (size_any (kd : Int) (ct : Int) (na : Int) fi la 0 (co : Int) (ti : Int) (va : Int) (le : Int) (gr : Int) N9 (by omega) (by omega) (by omega) (by omega)).mono ?_
  rintro e wa ⟨rfl, Ba⟩
  have HSa : Hid (wa.heap[h]? = some (.cells #[.int .i64 (kd : Int), .int .i64 (ct : Int), .int .i64 (na : Int), .int .i64 fi, .int .i64 la, .int .u64 (le : Int), .int .u64 (gr : Int), .int .i64 0, .int .i64 (co : Int), .int .i64 (ti : Int), .int .i64 (va : Int)] 66 (0, 0)) ∧ wa.heap[g0]? = some (.cells #[.int .i64 0, .int .i64 0, .int .i64 0, .int .i64 0, .int .i64 0, .int .u64 0, .int .u64 0, .int .i64 0, .int .i64 0, .int .i64 0, .int .i64 0] 66 (0, 0)) ∧ Below g0 w wa) := by
    have hl := size_lt_of_row HS.out.own
    have hl0 := size_lt_of_row HS.out.res
    exact ⟨by rw [Ba.block h hl]; exact HS.out.own, by rw [Ba.block g0 hl0]; exact HS.out.res, HS.out.bel.trans (Ba.mono (by omega))⟩
  have HNE := hide HS.out.ne
  clear Ba HS o0 o1 o2 o3 o4 o5 o6 o7 o8 o9 o10
  have c7 : wa.cell? ⟨h, 7, none⟩ = some (.int .i64 0) := by rw [cell_of_row _ _ _ _ _ _ HSa.out.1]; rfl
  have f7 : wa.frozen? ⟨h, 7, none⟩ = false := frozen_of_row _ _ _ _ _ HSa.out.1
  obtain ⟨W8, hW8⟩ : ∃ W8, wa.setCell ⟨h, 7, none⟩ (.int .i64 ((ti : Int) + (va : Int) + 55)) = W8 := ⟨_, rfl⟩
  have HW8 : Hid (W8.heap[h]? = some (.cells #[.int .i64 (kd : Int), .int .i64 (ct : Int), .int .i64 (na : Int), .int .i64 fi, .int .i64 la, .int .u64 (le : Int), .int .u64 (gr : Int), .int .i64 ((ti : Int) + (va : Int) + 55), .int .i64 (co : Int), .int .i64 (ti : Int), .int .i64 (va : Int)] 66 (0, 0)) ∧ W8.heap[g0]? = some (.cells #[.int .i64 0, .int .i64 0, .int .i64 0, .int .i64 0, .int .i64 0, .int .u64 0, .int .u64 0, .int .i64 0, .int .i64 0, .int .i64 0, .int .i64 0] 66 (0, 0)) ∧ Below g0 w W8) := by
    rw [← hW8]
    refine ⟨?_, ?_, below_set HSa.out.2.2 _ _ _ (by have := HNE.out; omega)⟩
    · rw [heap_setCell_same _ _ _ _ _ _ HSa.out.1]; simp
    · rw [Below.heap_setCell _ _ _ _ (show g0 ≠ h by have := HNE.out; omega)]; exact HSa.out.2.1
  go_upto_region 15 with fail
  (try rw [hW8])
  clear hW8 c7 f7 HSa
  have o0 : W8.cell? ⟨h, 0, none⟩ = some (.int .i64 (kd : Int)) := by rw [cell_of_row _ _ _ _ _ _ HW8.out.1]; rfl
  have o1 : W8.cell? ⟨h, 1, none⟩ = some (.int .i64 (ct : Int)) := by rw [cell_of_row _ _ _ _ _ _ HW8.out.1]; rfl
  have o2 : W8.cell? ⟨h, 2, none⟩ = some (.int .i64 (na : Int)) := by rw [cell_of_row _ _ _ _ _ _ HW8.out.1]; rfl
  have o3 : W8.cell? ⟨h, 3, none⟩ = some (.int .i64 fi) := by rw [cell_of_row _ _ _ _ _ _ HW8.out.1]; rfl
  have o4 : W8.cell? ⟨h, 4, none⟩ = some (.int .i64 la) := by rw [cell_of_row _ _ _ _ _ _ HW8.out.1]; rfl
  have o5 : W8.cell? ⟨h, 5, none⟩ = some (.int .u64 (le : Int)) := by rw [cell_of_row _ _ _ _ _ _ HW8.out.1]; rfl
  have o6 : W8.cell? ⟨h, 6, none⟩ = some (.int .u64 (gr : Int)) := by rw [cell_of_row _ _ _ _ _ _ HW8.out.1]; rfl
  have o7 : W8.cell? ⟨h, 7, none⟩ = some (.int .i64 ((ti : Int) + (va : Int) + 55)) := by rw [cell_of_row _ _ _ _ _ _ HW8.out.1]; rfl
  have o8 : W8.cell? ⟨h, 8, none⟩ = some (.int .i64 (co : Int)) := by rw [cell_of_row _ _ _ _ _ _ HW8.out.1]; rfl
  have o9 : W8.cell? ⟨h, 9, none⟩ = some (.int .i64 (ti : Int)) := by rw [cell_of_row _ _ _ _ _ _ HW8.out.1]; rfl
  have o10 : W8.cell? ⟨h, 10, none⟩ = some (.int .i64 (va : Int)) := by rw [cell_of_row _ _ _ _ _ _ HW8.out.1]; rfl
  have z0 : W8.cell? ⟨g0, 0, none⟩ = some (.int .i64 0) := by rw [cell_of_row _ _ _ _ _ _ HW8.out.2.1]; rfl
  have y0 : W8.frozen? ⟨g0, 0, none⟩ = false := frozen_of_row _ _ _ _ _ HW8.out.2.1
  have z1 : W8.cell? ⟨g0, 1, none⟩ = some (.int .i64 0) := by rw [cell_of_row _ _ _ _ _ _ HW8.out.2.1]; rfl
  have y1 : W8.frozen? ⟨g0, 1, none⟩ = false := frozen_of_row _ _ _ _ _ HW8.out.2.1
  have z2 : W8.cell? ⟨g0, 2, none⟩ = some (.int .i64 0) := by rw [cell_of_row _ _ _ _ _ _ HW8.out.2.1]; rfl
  have y2 : W8.frozen? ⟨g0, 2, none⟩ = false := frozen_of_row _ _ _ _ _ HW8.out.2.1
  have z3 : W8.cell? ⟨g0, 3, none⟩ = some (.int .i64 0) := by rw [cell_of_row _ _ _ _ _ _ HW8.out.2.1]; rfl
  have y3 : W8.frozen? ⟨g0, 3, none⟩ = false := frozen_of_row _ _ _ _ _ HW8.out.2.1
  have z4 : W8.cell? ⟨g0, 4, none⟩ = some (.int .i64 0) := by rw [cell_of_row _ _ _ _ _ _ HW8.out.2.1]; rfl
  have y4 : W8.frozen? ⟨g0, 4, none⟩ = false := frozen_of_row _ _ _ _ _ HW8.out.2.1
  have z5 : W8.cell? ⟨g0, 5, none⟩ = some (.int .u64 0) := by rw [cell_of_row _ _ _ _ _ _ HW8.out.2.1]; rfl
  have y5 : W8.frozen? ⟨g0, 5, none⟩ = false := frozen_of_row _ _ _ _ _ HW8.out.2.1
  have z6 : W8.cell? ⟨g0, 6, none⟩ = some (.int .u64 0) := by rw [cell_of_row _ _ _ _ _ _ HW8.out.2.1]; rfl
  have y6 : W8.frozen? ⟨g0, 6, none⟩ = false := frozen_of_row _ _ _ _ _ HW8.out.2.1
  have z7 : W8.cell? ⟨g0, 7, none⟩ = some (.int .i64 0) := by rw [cell_of_row _ _ _ _ _ _ HW8.out.2.1]; rfl
  have y7 : W8.frozen? ⟨g0, 7, none⟩ = false := frozen_of_row _ _ _ _ _ HW8.out.2.1
  have z8 : W8.cell? ⟨g0, 8, none⟩ = some (.int .i64 0) := by rw [cell_of_row _ _ _ _ _ _ HW8.out.2.1]; rfl
  have y8 : W8.frozen? ⟨g0, 8, none⟩ = false := frozen_of_row _ _ _ _ _ HW8.out.2.1
  have z9 : W8.cell? ⟨g0, 9, none⟩ = some (.int .i64 0) := by rw [cell_of_row _ _ _ _ _ _ HW8.out.2.1]; rfl
  have y9 : W8.frozen? ⟨g0, 9, none⟩ = false := frozen_of_row _ _ _ _ _ HW8.out.2.1
  have z10 : W8.cell? ⟨g0, 10, none⟩ = some (.int .i64 0) := by rw [cell_of_row _ _ _ _ _ _ HW8.out.2.1]; rfl
  have y10 : W8.frozen? ⟨g0, 10, none⟩ = false := frozen_of_row _ _ _ _ _ HW8.out.2.1
  have HFR : Hid ((((((((((((W8.setCell ⟨g0, 0, none⟩ (.int .i64 (kd : Int))).setCell ⟨g0, 1, none⟩ (.int .i64 (ct : Int))).setCell ⟨g0, 2, none⟩ (.int .i64 (na : Int))).setCell ⟨g0, 3, none⟩ (.int .i64 fi)).setCell ⟨g0, 4, none⟩ (.int .i64 la)).setCell ⟨g0, 5, none⟩ (.int .u64 (le : Int))).setCell ⟨g0, 6, none⟩ (.int .u64 (gr : Int))).setCell ⟨g0, 7, none⟩ (.int .i64 ((ti : Int) + (va : Int) + 55))).setCell ⟨g0, 8, none⟩ (.int .i64 (co : Int))).setCell ⟨g0, 9, none⟩ (.int .i64 (ti : Int))).setCell ⟨g0, 10, none⟩ (.int .i64 (va : Int))).heap[g0]? = some (.cells #[.int .i64 (kd : Int), .int .i64 (ct : Int), .int .i64 (na : Int), .int .i64 fi, .int .i64 la, .int .u64 (le : Int), .int .u64 (gr : Int), .int .i64 ((ti : Int) + (va : Int) + 55), .int .i64 (co : Int), .int .i64 (ti : Int), .int .i64 (va : Int)] 66 (0, 0)) ∧ Below g0 w (((((((((((W8.setCell ⟨g0, 0, none⟩ (.int .i64 (kd : Int))).setCell ⟨g0, 1, none⟩ (.int .i64 (ct : Int))).setCell ⟨g0, 2, none⟩ (.int .i64 (na : Int))).setCell ⟨g0, 3, none⟩ (.int .i64 fi)).setCell ⟨g0, 4, none⟩ (.int .i64 la)).setCell ⟨g0, 5, none⟩ (.int .u64 (le : Int))).setCell ⟨g0, 6, none⟩ (.int .u64 (gr : Int))).setCell ⟨g0, 7, none⟩ (.int .i64 ((ti : Int) + (va : Int) + 55))).setCell ⟨g0, 8, none⟩ (.int .i64 (co : Int))).setCell ⟨g0, 9, none⟩ (.int .i64 (ti : Int))).setCell ⟨g0, 10, none⟩ (.int .i64 (va : Int)))) := ⟨set_row11 _ _ _ _ _ _ _ _ _ _ _ _ _ _ _ _ _ _ _ _ _ _ _ _ _ HW8.out.2.1, below_row11 HW8.out.2.2 _ _ _ _ _ _ _ _ _ _ _ _ (Nat.le_refl _)⟩
  clear HW8
  go_wp2_with fail
  generalize (((((((((((W8.setCell ⟨g0, 0, none⟩ (.int .i64 (kd : Int))).setCell ⟨g0, 1, none⟩ (.int .i64 (ct : Int))).setCell ⟨g0, 2, none⟩ (.int .i64 (na : Int))).setCell ⟨g0, 3, none⟩ (.int .i64 fi)).setCell ⟨g0, 4, none⟩ (.int .i64 la)).setCell ⟨g0, 5, none⟩ (.int .u64 (le : Int))).setCell ⟨g0, 6, none⟩ (.int .u64 (gr : Int))).setCell ⟨g0, 7, none⟩ (.int .i64 ((ti : Int) + (va : Int) + 55))).setCell ⟨g0, 8, none⟩ (.int .i64 (co : Int))).setCell ⟨g0, 9, none⟩ (.int .i64 (ti : Int))).setCell ⟨g0, 10, none⟩ (.int .i64 (va : Int))) = WF at *
  have u0 : WF.cell? ⟨g0, 0, none⟩ = some (.int .i64 (kd : Int)) := by rw [cell_of_row _ _ _ _ _ _ HFR.out.1]; rfl
  have u1 : WF.cell? ⟨g0, 1, none⟩ = some (.int .i64 (ct : Int)) := by rw [cell_of_row _ _ _ _ _ _ HFR.out.1]; rfl
  have u2 : WF.cell? ⟨g0, 2, none⟩ = some (.int .i64 (na : Int)) := by rw [cell_of_row _ _ _ _ _ _ HFR.out.1]; rfl
  have u3 : WF.cell? ⟨g0, 3, none⟩ = some (.int .i64 fi) := by rw [cell_of_row _ _ _ _ _ _ HFR.out.1]; rfl
  have u4 : WF.cell? ⟨g0, 4, none⟩ = some (.int .i64 la) := by rw [cell_of_row _ _ _ _ _ _ HFR.out.1]; rfl
  have u5 : WF.cell? ⟨g0, 5, none⟩ = some (.int .u64 (le : Int)) := by rw [cell_of_row _ _ _ _ _ _ HFR.out.1]; rfl
  have u6 : WF.cell? ⟨g0, 6, none⟩ = some (.int .u64 (gr : Int)) := by rw [cell_of_row _ _ _ _ _ _ HFR.out.1]; rfl
  have u7 : WF.cell? ⟨g0, 7, none⟩ = some (.int .i64 ((ti : Int) + (va : Int) + 55)) := by rw [cell_of_row _ _ _ _ _ _ HFR.out.1]; rfl
  have u8 : WF.cell? ⟨g0, 8, none⟩ = some (.int .i64 (co : Int)) := by rw [cell_of_row _ _ _ _ _ _ HFR.out.1]; rfl
  have u9 : WF.cell? ⟨g0, 9, none⟩ = some (.int .i64 (ti : Int)) := by rw [cell_of_row _ _ _ _ _ _ HFR.out.1]; rfl
  have u10 : WF.cell? ⟨g0, 10, none⟩ = some (.int .i64 (va : Int)) := by rw [cell_of_row _ _ _ _ _ _ HFR.out.1]; rfl
  exact bodyPost_ret (v := .agg (hdA kd ct na fi la le gr ((ti : Int) + (va : Int) + 55) co ti va)) (by simp [results, Tryz.results52, go_sem, hdA, u0, u1, u2, u3, u4, u5, u6, u7, u8, u9, u10]) rfl ⟨rfl, by rw [HG.out]; exact HFR.out.2⟩

end Go.Proofs.YtpdaklklhoenhaaGreatDoor

namespace Go.Proofs.YtpdaklklhoenhaaGreatDoor
open Go.RowKit
open M
set_option linter.unusedVariables false
set_option linter.unusedSimpArgs false

theorem or_part (i a b : Nat) (h : b < 2 ^ i) : (a * 2 ^ i) ||| b = a * 2 ^ i + b := by
  have := Nat.two_pow_add_eq_or_of_lt h a
  rw [Nat.mul_comm a, this]

theorem or_four (c0 c1 c2 c3 : Nat) (h0 : c0 < 256) (h1 : c1 < 256) (h2 : c2 < 256) (h3 : c3 < 256) : bits BinOp.or IntKind.u32 (bits BinOp.or IntKind.u32 (bits BinOp.or IntKind.u32 ((c0 : Int) * 16777216) ((c1 : Int) * 65536)) ((c2 : Int) * 256)) (c3 : Int) = ((c0 * 16777216 + c1 * 65536 + c2 * 256 + c3 : Nat) : Int) := by
  have e1 : bits BinOp.or IntKind.u32 ((c0 : Int) * 16777216) ((c1 : Int) * 65536) = ((c0 * 16777216 + c1 * 65536 : Nat) : Int) := by
    have h := u32_or_nat (c0 * 16777216) (c1 * 65536) (by omega) (by omega)
    have q := or_part 24 c0 (c1 * 65536) (by show c1 * 65536 < 16777216; omega)
    rw [show (2 : Nat) ^ 24 = 16777216 from rfl] at q
    rw [q] at h
    rw [← h]; simp
  have e2 : bits BinOp.or IntKind.u32 ((c0 * 16777216 + c1 * 65536 : Nat) : Int) ((c2 : Int) * 256) = ((c0 * 16777216 + c1 * 65536 + c2 * 256 : Nat) : Int) := by
    have h := u32_or_nat (c0 * 16777216 + c1 * 65536) (c2 * 256) (by omega) (by omega)
    have q := or_part 16 (c0 * 256 + c1) (c2 * 256) (by show c2 * 256 < 65536; omega)
    rw [show (2 : Nat) ^ 16 = 65536 from rfl, show (c0 * 256 + c1) * 65536 = c0 * 16777216 + c1 * 65536 from by omega] at q
    rw [q] at h
    rw [← h]; simp
  have e3 : bits BinOp.or IntKind.u32 ((c0 * 16777216 + c1 * 65536 + c2 * 256 : Nat) : Int) (c3 : Int) = ((c0 * 16777216 + c1 * 65536 + c2 * 256 + c3 : Nat) : Int) := by
    have h := u32_or_nat (c0 * 16777216 + c1 * 65536 + c2 * 256) c3 (by omega) (by omega)
    have q := or_part 8 (c0 * 65536 + c1 * 256 + c2) c3 (by show c3 < 256; omega)
    rw [show (2 : Nat) ^ 8 = 256 from rfl, show (c0 * 65536 + c1 * 256 + c2) * 256 = c0 * 16777216 + c1 * 65536 + c2 * 256 from by omega] at q
    rw [q] at h
    exact h
  rw [e1, e2, e3]

set_option maxRecDepth 100000 in
set_option maxHeartbeats 1000000 in
theorem unsealed_any (b o n cap : Nat) (bs : List Nat) (c0 c1 c2 c3 : Nat) (w : World) (hn : bs.length = n) (hc : ∀ i, i < n → w.cell? ⟨b, o + i, none⟩ = some (.int .u8 ((bs.getD i 0 : Nat) : Int))) (hb : ∀ n ∈ bs, n < 256) (hl : n ≤ 1000000000) (hcap : n + 4 ≤ cap) (h0 : c0 < 256) (h1 : c1 < 256) (h2 : c2 < 256) (h3 : c3 < 256)
    (d0 : w.cell? ⟨b, o + n, none⟩ = some (.int .u8 (c0 : Int))) (d1 : w.cell? ⟨b, o + (n + 1), none⟩ = some (.int .u8 (c1 : Int))) (d2 : w.cell? ⟨b, o + (n + 2), none⟩ = some (.int .u8 (c2 : Int))) (d3 : w.cell? ⟨b, o + (n + 3), none⟩ = some (.int .u8 (c3 : Int))) (hT : TabC w) :
    Calls Tryz.prog 51 #[.slice (some ⟨b, o, none⟩) (n + 4) cap] w fun e w' => e = .returned (.tuple #[.slice (some ⟨b, o, none⟩) n cap, .bool (decide (crcO bs = c0 * 16777216 + c1 * 65536 + c2 * 256 + c3))]) ∧ ∃ m, w' = w.drewN m := by
  have r0 : IntKind.u32.wrap (c0 : Int) = (c0 : Int) := by rw [IntKind.wrap_u32]; omega
  have r1 : IntKind.u32.wrap (c1 : Int) = (c1 : Int) := by rw [IntKind.wrap_u32]; omega
  have r2 : IntKind.u32.wrap (c2 : Int) = (c2 : Int) := by rw [IntKind.wrap_u32]; omega
  have r3 : IntKind.u32.wrap (c3 : Int) = (c3 : Int) := by rw [IntKind.wrap_u32]; omega
  have HC := hide hc
  have HT := hide hT
  have HB := hide hb
  have HN := hide hn
  clear hc hT hb hn
  go_enter Tryz.func51, Tryz.ntmps51
  go_wp2_with fail
  go_quiet (fail)
  rw [or_four c0 c1 c2 c3 h0 h1 h2 h3]
  obtain ⟨X, hX⟩ : ∃ X, c0 * 16777216 + c1 * 65536 + c2 * 256 + c3 = X := ⟨_, rfl⟩
  rw [hX]
  have HX := hide hX
  clear hX d0 d1 d2 d3 r0 r1 r2 r3
  have HS := hide (fun (w' : World) (hw : w'.heap = w.heap) => bsum_any (.slice (some ⟨b, o, none⟩) n cap) bs w' (.inl (.inr ⟨b, o, cap, by rw [HN.out], fun i hi => by rw [HN.out] at hi; rw [World.cell?_of_block (w := w) (by rw [hw])]; exact HC.out i hi⟩)) HB.out (by rw [HN.out]; omega) (fun j hj => by rw [World.cell?_of_block (w := w) (by rw [hw])]; exact HT.out j hj))
  obtain ⟨cs, hcs⟩ : ∃ cs, crcO bs = cs := ⟨_, rfl⟩
  rw [hcs] at HS
  have HCS := hide hcs
  have hdd : Hid ((((cs : Int)) == (X : Int)) = decide (cs = X)) := by
    show _ = _
    rw [Bool.eq_iff_iff, beq_iff_eq, decide_eq_true_iff]; omega
  have hnc : n ≤ cap := by omega
  clear hcs
  go_wp2_with fail
  go_quiet ((go_at_call 8; go_must (refine Calls.mono (HS.out _ ?_) ?_; rfl; rintro e2 w2 ⟨rfl, rfl⟩; exact ⟨rfl, _, rfl⟩)))
  go_wp2_with fail
  go_ret2
  refine ⟨?_, ?_⟩
  · rw [HCS.out, HX.out, ← hdd.out]; rfl
  · exact ⟨_, World.drewN_drewN ..⟩

end Go.Proofs.YtpdaklklhoenhaaGreatDoor

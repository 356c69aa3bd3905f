/- Moments of finite values: share, Sum, Count. -/
import Derived.Test.YtleeahigceppiaaDoorYK
import Derived.Test.YtleeahigceppiaaDoorYI
/- Slope of finite values. -/
namespace Go.Proofs.YtleeahigceppiaaDoor
open Go.RowKit
open M
open Flt
set_option linter.unusedVariables false
set_option linter.unusedSimpArgs false

theorem val_small (x q : Nat) (hx : x < 9007199254740992) (hq : q ≤ 2098) : 4 * (x * 2 ^ q) < 18446744073709551616 ^ 34 := by
  obtain ⟨Z, hZ⟩ : ∃ Z : Nat, Z = 2098 := ⟨_, rfl⟩
  obtain ⟨E, hE⟩ : ∃ E : Nat, E = 34 := ⟨_, rfl⟩
  rw [← hE]
  have e : (18446744073709551616 : Nat) ^ E = 2 ^ (64 * E) := by rw [Nat.pow_mul]
  have h1 : 2 ^ q ≤ 2 ^ Z := Nat.pow_le_pow_right (by omega) (by omega)
  have h2 : 2 ^ (55 + Z) ≤ 2 ^ (64 * E) := Nat.pow_le_pow_right (by omega) (by omega)
  have h3 : (2 : Nat) ^ (55 + Z) = 36028797018963968 * 2 ^ Z := by rw [Nat.pow_add]
  have h4 : x * 2 ^ q ≤ x * 2 ^ Z := Nat.mul_le_mul_left _ h1
  have h5 : (x + 1) * 2 ^ Z ≤ 9007199254740992 * 2 ^ Z := Nat.mul_le_mul_right _ hx
  have h6 := Nat.two_pow_pos Z
  rw [Nat.add_mul, Nat.one_mul] at h5
  rw [e]
  omega

theorem Ws.hlt {w : World} {g o n N : Nat} (h : Ws w g o n N) (hn : 0 < n) : g < w.heap.size := block_lt_of_cell (h.cell 0 hn)

set_option maxRecDepth 100000 in
set_option maxHeartbeats 2000000 in
theorem Slope_num (t1 t2 : Int) (b1 b2 : Nat) (w : World) (h1 : -9223372036854775808 ≤ t1) (h2 : t2 < 9223372036854775808) (ht : t1 < t2) (hb1 : b1 < 18446744073709551616) (hf1 : b1 % 9223372036854775808 < 9218868437227405312) (hb2 : b2 < 18446744073709551616) (hf2 : b2 % 9223372036854775808 < 9218868437227405312) (hT : Tab64 w) :
    Calls Tryd.prog 14 #[.agg #[.int .i64 t1, .int .u64 b1], .agg #[.int .i64 t2, .int .u64 b2]] w fun e w' => ∃ val : Nat, e = .returned (.tuple #[.int .u64 val, .int .i64 0]) ∧ (∃ head more e', val = wdX (decide (ofV b2 - ofV b1 < 0)) 9223372036854775808 (unsF 53 1074 9218868437227405312 head more e') ∧ LeadQ (ofV b2 - ofV b1).natAbs (t2 - t1).toNat (-1074) head more e') ∧ Below w.heap.size w w' := by
  have HV1 : Hid (∀ W : World, Below w.heap.size w W → Calls Tryd.prog 9 #[.int .u64 b1] W fun e w' => ValEnd b1 W e w') := fun W o => valueOf_fin b1 W hb1 hf1 (hT.below o)
  have HV2 : Hid (∀ W : World, Below w.heap.size w W → Calls Tryd.prog 9 #[.int .u64 b2] W fun e w' => ValEnd b2 W e w') := fun W o => valueOf_fin b2 W hb2 hf2 (hT.below o)
  have hle : ¬ t2 ≤ t1 := by omega
  unfold ValEnd at HV1 HV2
  generalize hs1 : decide (9223372036854775808 ≤ b1) = s1 at *
  generalize hs2 : decide (9223372036854775808 ≤ b2) = s2 at *
  obtain ⟨W0, hW0⟩ : ∃ W0, W0 = (w.alloc (.cells #[.int .i64 t1, .int .u64 (b1 : Nat)] 50)).alloc (.cells #[.int .i64 t2, .int .u64 (b2 : Nat)] 50) := ⟨_, rfl⟩
  have B0 : Below w.heap.size w W0 := by rw [hW0]; exact ((Below.refl _ w).alloc (Nat.le_refl _) _).alloc (by simp) _
  have HSs := hide (And.intro hs1 hs2)
  clear hb1 hf1 hb2 hf2 hT hs1 hs2
  go_enter Tryd.func14, Tryd.ntmps14
  go_wp2_with fail
  rw [← hW0]
  refine (HV1.out _ B0).mono ?_
  rintro e w1 ⟨x1, q1, rfl, hx1, hq1, hU1, b1'⟩
  have hz : (w.alloc (.cells #[.int .i64 t1, .int .u64 (b1 : Nat)] 50)).heap.size = w.heap.size + 1 := by simp
  have hz0 : W0.heap.size = w.heap.size + 1 + 1 := by rw [hW0]; simp
  have hb0 : Below (w.alloc (.cells #[.int .i64 t1, .int .u64 (b1 : Nat)] 50)).heap.size (w.alloc (.cells #[.int .i64 t1, .int .u64 (b1 : Nat)] 50)) W0 := by rw [hW0]; exact (Below.refl _ _).alloc (Nat.le_refl _) _
  have p0 : W0.cell? ⟨w.heap.size, 0, none⟩ = some (.int .i64 t1) := by rw [hb0.cell (p := ⟨w.heap.size, 0, none⟩) (by simp)]; exact cell_of_row _ _ 0 _ _ _ (heap_alloc_new w _)
  have p1 : W0.cell? ⟨w.heap.size + 1, 0, none⟩ = some (.int .i64 t2) := by rw [← hz, hW0]; exact cell_of_row _ _ 0 _ _ _ (heap_alloc_new _ _)
  have p2 : W0.cell? ⟨w.heap.size + 1, 1, none⟩ = some (.int .u64 (b2 : Nat)) := by rw [← hz, hW0]; exact cell_of_row _ _ 1 _ _ _ (heap_alloc_new _ _)
  obtain ⟨W1, hW1⟩ : ∃ W1, W1 = w1.alloc (.cells #[.bool s1, .int .u64 (x1 : Nat), .int .i64 (q1 : Nat)] 38) := ⟨_, rfl⟩
  have B1 : Below W0.heap.size W0 W1 := by rw [hW1]; exact b1'.alloc b1'.size _
  have r2 : W1.cell? ⟨w.heap.size + 1, 1, none⟩ = some (.int .u64 (b2 : Nat)) := by rw [B1.cell (p := ⟨w.heap.size + 1, 1, none⟩) (block_lt_of_cell p2)]; exact p2
  have B01 := B0.trans (B1.mono B0.size)
  have e1 : ∀ o, (w1.alloc o).cell? ⟨w.heap.size + 1, 1, none⟩ = some (.int .u64 (b2 : Nat)) := fun o => by
    rw [((Below.refl _ w1).alloc (Nat.le_refl _) o).cell (p := ⟨w.heap.size + 1, 1, none⟩) (by have := b1'.size; show w.heap.size + 1 < _; omega), b1'.cell (p := ⟨w.heap.size + 1, 1, none⟩) (block_lt_of_cell p2)]; exact p2
  clear hW0 hz hb0
  simp only [prt]
  go_wp2_with (simp only [e1])
  rw [← hW1]
  refine (HV2.out _ B01).mono ?_
  rintro e w2 ⟨x2, q2, rfl, hx2, hq2, hU2, b2'⟩
  have hsz : (Tryd.prog.info? 25).map (·.size) = some 34 := by kernel_rfl
  clear HV1 HV2 r2 e1
  simp only [prt]
  go_upto_region 7 with fail
  refine wp_region_list ?_
  refine wpList_build rfl 25 #[] rfl (by kernel_rfl) ?_
  have hbu : (Tryd.prog.built 25 (#[] : Array (Nat × Value)).toList).getD #[] = z34 := by kernel_rfl
  simp only [Array.map_empty]
  rw [hbu]
  refine Go.Great.wpList_allocTo rfl (some 10) rfl _ _ (alloc34 _ _ rfl _) ?_
  refine wpList_store_row rfl 25 (.tmp 10) (.tmp 34) rfl _ z34 rfl rfl _ _ (heap_alloc_new _ _) hsz rfl z34_one ?_
  obtain ⟨W2, hW2⟩ : ∃ W2, W2 = w2.alloc (.cells #[.bool s2, .int .u64 (x2 : Nat), .int .i64 (q2 : Nat)] 38) := ⟨_, rfl⟩
  rw [← hW2]
  obtain ⟨W3, hW3⟩ : ∃ W3, W3 = (W2.alloc (.cells z34 25)).setRow W2.heap.size z34 := ⟨_, rfl⟩
  rw [← hW3]
  have hB23 : Below W2.heap.size W2 W3 := by rw [hW3]; exact below_setRow ((Below.refl _ W2).alloc (Nat.le_refl _) _) (Nat.le_refl _) _
  have hB12 : Below W1.heap.size W1 W2 := by rw [hW2]; exact b2'.alloc b2'.size _
  have hB13 := hB12.trans (hB23.mono hB12.size)
  have hB03 := B1.trans (hB13.mono B1.size)
  have z1 : w1.heap.size < W1.heap.size := by rw [hW1]; simp
  have z2 : w2.heap.size < W2.heap.size := by rw [hW2]; simp
  have c0 : W3.drew.cell? ⟨w2.heap.size, 0, none⟩ = some (.bool s2) := by
    show W3.cell? _ = _
    rw [hB23.cell (p := ⟨w2.heap.size, 0, none⟩) z2, hW2]; exact cell_of_row _ _ 0 _ _ _ (heap_alloc_new w2 _)
  have c1 : W3.drew.cell? ⟨w2.heap.size, 1, none⟩ = some (.int .u64 (x2 : Nat)) := by
    show W3.cell? _ = _
    rw [hB23.cell (p := ⟨w2.heap.size, 1, none⟩) z2, hW2]; exact cell_of_row _ _ 1 _ _ _ (heap_alloc_new w2 _)
  have c2 : W3.drew.cell? ⟨w2.heap.size, 2, none⟩ = some (.int .i64 (q2 : Nat)) := by
    show W3.cell? _ = _
    rw [hB23.cell (p := ⟨w2.heap.size, 2, none⟩) z2, hW2]; exact cell_of_row _ _ 2 _ _ _ (heap_alloc_new w2 _)
  have d0 : W3.drew.cell? ⟨w1.heap.size, 0, none⟩ = some (.bool s1) := by
    show W3.cell? _ = _
    rw [hB13.cell (p := ⟨w1.heap.size, 0, none⟩) z1, hW1]; exact cell_of_row _ _ 0 _ _ _ (heap_alloc_new w1 _)
  have d1 : W3.drew.cell? ⟨w1.heap.size, 1, none⟩ = some (.int .u64 (x1 : Nat)) := by
    show W3.cell? _ = _
    rw [hB13.cell (p := ⟨w1.heap.size, 1, none⟩) z1, hW1]; exact cell_of_row _ _ 1 _ _ _ (heap_alloc_new w1 _)
  have d2 : W3.drew.cell? ⟨w1.heap.size, 2, none⟩ = some (.int .i64 (q1 : Nat)) := by
    show W3.cell? _ = _
    rw [hB13.cell (p := ⟨w1.heap.size, 2, none⟩) z1, hW1]; exact cell_of_row _ _ 2 _ _ _ (heap_alloc_new w1 _)
  have p0 : W3.drew.cell? ⟨w.heap.size, 0, none⟩ = some (.int .i64 t1) := by
    show W3.cell? _ = _
    rw [hB03.cell (p := ⟨w.heap.size, 0, none⟩) (block_lt_of_cell p0)]; exact p0
  have p1 : W3.drew.cell? ⟨w.heap.size + 1, 0, none⟩ = some (.int .i64 t2) := by
    show W3.cell? _ = _
    rw [hB03.cell (p := ⟨w.heap.size + 1, 0, none⟩) (block_lt_of_cell p1)]; exact p1
  obtain ⟨hr, hhr⟩ : ∃ hr, hr = W2.heap.size := ⟨_, rfl⟩
  have hs1' := b1'.size
  have hs2' := b2'.size
  have n1 : w1.heap.size ≠ hr := by have := hB12.size; omega
  have n2 : w2.heap.size ≠ hr := by omega
  have n3 : w.heap.size ≠ hr := by have := hB12.size; omega
  have n4 : w.heap.size + 1 ≠ hr := by have := hB12.size; omega
  have HH : Hid (w.heap.size ≤ hr) := by have := hB12.size; show _ ≤ _; omega
  have HR : Hid (Ws W3.drew hr 0 34 (W6.tc 34 0)) := by
    rw [hhr]
    exact (Ws.noughts (by rw [hW3]; exact setRow_heap _ _ _ _ _ _ (heap_alloc_new W2 _))).drew
  have HI : Hid (Below w.heap.size w W3.drew) := (B0.trans (hB03.mono B0.size)).drew
  have HT : Hid (ofV b2 = 0 + W6.sgn (s2 != false) (x2 * 1 * 2 ^ (q2 + 0)) ∧ ofV b2 - ofV b1 = 0 + W6.sgn (s2 != false) (x2 * 1 * 2 ^ (q2 + 0)) + W6.sgn (s1 != true) (x1 * 1 * 2 ^ (q1 + 0))) := by
    have o1 : ofV b1 = W6.sgn s1 (x1 * 2 ^ q1) := by unfold ofV; rw [HSs.out.1, hU1]
    have o2 : ofV b2 = W6.sgn s2 (x2 * 2 ^ q2) := by unfold ofV; rw [HSs.out.2, hU2]
    show _ ∧ _
    rw [o1, o2, Nat.mul_one, Nat.mul_one, Nat.add_zero, Nat.add_zero]
    cases s1 <;> cases s2 <;> simp [W6.sgn] <;> omega
  have HTs : Hid (2 * (ofV b2 - ofV b1).natAbs < 18446744073709551616 ^ 34) := by
    have v1 := val_small x1 q1 hx1 hq1
    have v2 := val_small x2 q2 hx2 hq2
    have o1 : ofV b1 = W6.sgn s1 (x1 * 2 ^ q1) := by unfold ofV; rw [HSs.out.1, hU1]
    have o2 : ofV b2 = W6.sgn s2 (x2 * 2 ^ q2) := by unfold ofV; rw [HSs.out.2, hU2]
    show _ < _
    rw [o1, o2]
    generalize x1 * 2 ^ q1 = u1 at *
    generalize x2 * 2 ^ q2 = u2 at *
    generalize 18446744073709551616 ^ 34 = KK at *
    unfold W6.sgn
    split <;> split <;> omega
  have HG1 : Hid (∀ V : World, Ws V hr 0 34 (W6.tc 34 0) → Calls Tryd.prog 10 #[.slice (some ⟨hr, 0, none⟩) 34 34, prt s2 x2 q2, prt false 1 0] V fun e w' => e = .returned (.tuple #[]) ∧ Ws w' hr 0 34 (W6.tc 34 (0 + W6.sgn (s2 != false) (x2 * 1 * 2 ^ (q2 + 0)))) ∧ Only hr 0 (0 + 34) V w') :=
    fun V hV => gather_any hr 0 34 34 0 s2 false x2 1 q2 0 V hV (by omega) (by omega) (by omega) (hV.hlt (by omega)) (by omega) (by omega) (by omega)
  have HG2 : Hid (∀ V : World, Ws V hr 0 34 (W6.tc 34 (0 + W6.sgn (s2 != false) (x2 * 1 * 2 ^ (q2 + 0)))) → Calls Tryd.prog 10 #[.slice (some ⟨hr, 0, none⟩) 34 34, prt s1 x1 q1, prt true 1 0] V fun e w' => e = .returned (.tuple #[]) ∧ Ws w' hr 0 34 (W6.tc 34 (ofV b2 - ofV b1)) ∧ Only hr 0 (0 + 34) V w') := by
    intro V hV
    rw [HT.out.2]
    exact gather_any hr 0 34 34 _ s1 true x1 1 q1 0 V hV (by omega) (by omega) (by omega) (hV.hlt (by omega)) (by omega) (by omega) (by omega)
  have HNu : Hid (∀ V : World, Ws V hr 0 34 (W6.tc 34 (ofV b2 - ofV b1)) → Calls Tryd.prog 22 #[.slice (some ⟨hr, 0, none⟩) 34 34] V fun e w' => NumEnd (ofV b2 - ofV b1) V e w') :=
    fun V hV => numberOf_any hr 0 34 34 _ V hV (by omega) (by omega) (by omega) (by omega) (hV.hlt (by omega)) HTs.out
  have HA := hide (fun w : World => apart_any t1 t2 w h1 h2 ht)
  have HC := hide (fun w : World => count_any (t2 - t1).toNat w (by omega))
  have HO := hide (fun (w' : World) (v u : Value) (a : Num w' v (ofV b2 - ofV b1).natAbs) (b : Num w' u (t2 - t1).toNat) => over_any (decide (ofV b2 - ofV b1 < 0)) false (-1074) a b (by omega))
  unfold NumEnd at HNu
  unfold OverEnd at HO
  generalize g1 : ofV b2 - ofV b1 = T at *
  generalize g2 : decide (T < 0) = neg at *
  generalize g3 : T.natAbs = M at *
  generalize g4 : (t2 - t1).toNat = dt at *
  have HEq := hide (And.intro g1 (And.intro g2 (And.intro g3 g4)))
  clear g1 g2 g3 g4
  rw [← hhr]
  clear hW1 hW2 hW3 hB23 hB12 hB13 hB03 z1 z2 hhr hs1' hs2' b1' b2' B0 B1 B01 hU1 hU2 hx1 hx2 hq1 hq2 HT HTs HSs hz0 hsz hle
  go_upto_region 8 with fail
  go_region_held3 (fun w' => w'.cell? ⟨w2.heap.size, 0, none⟩ = some (.bool s2) ∧ w'.cell? ⟨w2.heap.size, 1, none⟩ = some (.int .u64 (x2 : Nat)) ∧ w'.cell? ⟨w2.heap.size, 2, none⟩ = some (.int .i64 (q2 : Nat)) ∧ w'.cell? ⟨w1.heap.size, 0, none⟩ = some (.bool s1) ∧ w'.cell? ⟨w1.heap.size, 1, none⟩ = some (.int .u64 (x1 : Nat)) ∧ w'.cell? ⟨w1.heap.size, 2, none⟩ = some (.int .i64 (q1 : Nat)) ∧ w'.cell? ⟨w.heap.size, 0, none⟩ = some (.int .i64 t1) ∧ w'.cell? ⟨w.heap.size + 1, 0, none⟩ = some (.int .i64 t2)) (exact ⟨c0, c1, c2, d0, d1, d2, p0, p1⟩)
    (first | (go_at_call 11; go_must (refine (once_any _).mono ?_); rintro _ w5 ⟨rfl, B5⟩; have HR := hide (HR.out.below B5 (HR.out.hlt (by omega))); have HI := hide (HI.out.trans (B5.mono HI.out.size)); have c0 : w5.cell? ⟨w2.heap.size, 0, none⟩ = some (.bool s2) := (by rw [B5.cell (p := ⟨w2.heap.size, 0, none⟩) (block_lt_of_cell c0)]; exact c0); have c1 : w5.cell? ⟨w2.heap.size, 1, none⟩ = some (.int .u64 (x2 : Nat)) := (by rw [B5.cell (p := ⟨w2.heap.size, 1, none⟩) (block_lt_of_cell c1)]; exact c1); have c2 : w5.cell? ⟨w2.heap.size, 2, none⟩ = some (.int .i64 (q2 : Nat)) := (by rw [B5.cell (p := ⟨w2.heap.size, 2, none⟩) (block_lt_of_cell c2)]; exact c2); have d0 : w5.cell? ⟨w1.heap.size, 0, none⟩ = some (.bool s1) := (by rw [B5.cell (p := ⟨w1.heap.size, 0, none⟩) (block_lt_of_cell d0)]; exact d0); have d1 : w5.cell? ⟨w1.heap.size, 1, none⟩ = some (.int .u64 (x1 : Nat)) := (by rw [B5.cell (p := ⟨w1.heap.size, 1, none⟩) (block_lt_of_cell d1)]; exact d1); have d2 : w5.cell? ⟨w1.heap.size, 2, none⟩ = some (.int .i64 (q1 : Nat)) := (by rw [B5.cell (p := ⟨w1.heap.size, 2, none⟩) (block_lt_of_cell d2)]; exact d2); have p0 : w5.cell? ⟨w.heap.size, 0, none⟩ = some (.int .i64 t1) := (by rw [B5.cell (p := ⟨w.heap.size, 0, none⟩) (block_lt_of_cell p0)]; exact p0); have p1 : w5.cell? ⟨w.heap.size + 1, 0, none⟩ = some (.int .i64 t2) := (by rw [B5.cell (p := ⟨w.heap.size + 1, 0, none⟩) (block_lt_of_cell p1)]; exact p1); clear B5) | (go_at_call 10; go_must (refine (HG1.out _ HR.out).mono ?_); rintro _ w6 ⟨rfl, hS, hO⟩; have HI := hide (HI.out.trans (hO.below HH.out HI.out.size)); have c0 : w6.cell? ⟨w2.heap.size, 0, none⟩ = some (.bool s2) := (by rw [World.cell?_of_block (hO.block _ (block_lt_of_cell c0) n2)]; exact c0); have c1 : w6.cell? ⟨w2.heap.size, 1, none⟩ = some (.int .u64 (x2 : Nat)) := (by rw [World.cell?_of_block (hO.block _ (block_lt_of_cell c1) n2)]; exact c1); have c2 : w6.cell? ⟨w2.heap.size, 2, none⟩ = some (.int .i64 (q2 : Nat)) := (by rw [World.cell?_of_block (hO.block _ (block_lt_of_cell c2) n2)]; exact c2); have d0 : w6.cell? ⟨w1.heap.size, 0, none⟩ = some (.bool s1) := (by rw [World.cell?_of_block (hO.block _ (block_lt_of_cell d0) n1)]; exact d0); have d1 : w6.cell? ⟨w1.heap.size, 1, none⟩ = some (.int .u64 (x1 : Nat)) := (by rw [World.cell?_of_block (hO.block _ (block_lt_of_cell d1) n1)]; exact d1); have d2 : w6.cell? ⟨w1.heap.size, 2, none⟩ = some (.int .i64 (q1 : Nat)) := (by rw [World.cell?_of_block (hO.block _ (block_lt_of_cell d2) n1)]; exact d2); have p0 : w6.cell? ⟨w.heap.size, 0, none⟩ = some (.int .i64 t1) := (by rw [World.cell?_of_block (hO.block _ (block_lt_of_cell p0) n3)]; exact p0); have p1 : w6.cell? ⟨w.heap.size + 1, 0, none⟩ = some (.int .i64 t2) := (by rw [World.cell?_of_block (hO.block _ (block_lt_of_cell p1) n4)]; exact p1); have HR := hide hS; clear hS hO))
  go_upto_region 9 with fail
  have c0 : w6.drew.cell? ⟨w2.heap.size, 0, none⟩ = some (.bool s2) := c0
  have c1 : w6.drew.cell? ⟨w2.heap.size, 1, none⟩ = some (.int .u64 (x2 : Nat)) := c1
  have c2 : w6.drew.cell? ⟨w2.heap.size, 2, none⟩ = some (.int .i64 (q2 : Nat)) := c2
  have d0 : w6.drew.cell? ⟨w1.heap.size, 0, none⟩ = some (.bool s1) := d0
  have d1 : w6.drew.cell? ⟨w1.heap.size, 1, none⟩ = some (.int .u64 (x1 : Nat)) := d1
  have d2 : w6.drew.cell? ⟨w1.heap.size, 2, none⟩ = some (.int .i64 (q1 : Nat)) := d2
  have p0 : w6.drew.cell? ⟨w.heap.size, 0, none⟩ = some (.int .i64 t1) := p0
  have p1 : w6.drew.cell? ⟨w.heap.size + 1, 0, none⟩ = some (.int .i64 t2) := p1
  have HR := hide HR.out.drew
  have HI := hide HI.out.drew
  go_region_held3 (fun w' => w'.cell? ⟨w2.heap.size, 0, none⟩ = some (.bool s2) ∧ w'.cell? ⟨w2.heap.size, 1, none⟩ = some (.int .u64 (x2 : Nat)) ∧ w'.cell? ⟨w2.heap.size, 2, none⟩ = some (.int .i64 (q2 : Nat)) ∧ w'.cell? ⟨w1.heap.size, 0, none⟩ = some (.bool s1) ∧ w'.cell? ⟨w1.heap.size, 1, none⟩ = some (.int .u64 (x1 : Nat)) ∧ w'.cell? ⟨w1.heap.size, 2, none⟩ = some (.int .i64 (q1 : Nat)) ∧ w'.cell? ⟨w.heap.size, 0, none⟩ = some (.int .i64 t1) ∧ w'.cell? ⟨w.heap.size + 1, 0, none⟩ = some (.int .i64 t2)) (exact ⟨c0, c1, c2, d0, d1, d2, p0, p1⟩)
    (first | (go_at_call 10; go_must (refine (HG2.out _ HR.out).mono ?_); rintro _ w7 ⟨rfl, hS, hO⟩; have HI := hide (HI.out.trans (hO.below HH.out HI.out.size)); have c0 : w7.cell? ⟨w2.heap.size, 0, none⟩ = some (.bool s2) := (by rw [World.cell?_of_block (hO.block _ (block_lt_of_cell c0) n2)]; exact c0); have c1 : w7.cell? ⟨w2.heap.size, 1, none⟩ = some (.int .u64 (x2 : Nat)) := (by rw [World.cell?_of_block (hO.block _ (block_lt_of_cell c1) n2)]; exact c1); have c2 : w7.cell? ⟨w2.heap.size, 2, none⟩ = some (.int .i64 (q2 : Nat)) := (by rw [World.cell?_of_block (hO.block _ (block_lt_of_cell c2) n2)]; exact c2); have d0 : w7.cell? ⟨w1.heap.size, 0, none⟩ = some (.bool s1) := (by rw [World.cell?_of_block (hO.block _ (block_lt_of_cell d0) n1)]; exact d0); have d1 : w7.cell? ⟨w1.heap.size, 1, none⟩ = some (.int .u64 (x1 : Nat)) := (by rw [World.cell?_of_block (hO.block _ (block_lt_of_cell d1) n1)]; exact d1); have d2 : w7.cell? ⟨w1.heap.size, 2, none⟩ = some (.int .i64 (q1 : Nat)) := (by rw [World.cell?_of_block (hO.block _ (block_lt_of_cell d2) n1)]; exact d2); have p0 : w7.cell? ⟨w.heap.size, 0, none⟩ = some (.int .i64 t1) := (by rw [World.cell?_of_block (hO.block _ (block_lt_of_cell p0) n3)]; exact p0); have p1 : w7.cell? ⟨w.heap.size + 1, 0, none⟩ = some (.int .i64 t2) := (by rw [World.cell?_of_block (hO.block _ (block_lt_of_cell p1) n4)]; exact p1); have HR := hide hS; clear hS hO))
  go_upto_region 10 with fail
  have p0 : w7.drew.cell? ⟨w.heap.size, 0, none⟩ = some (.int .i64 t1) := p0
  have p1 : w7.drew.cell? ⟨w.heap.size + 1, 0, none⟩ = some (.int .i64 t2) := p1
  have HR := hide HR.out.drew
  have HI := hide HI.out.drew
  go_region_held3 (fun w' => w'.cell? ⟨w.heap.size, 0, none⟩ = some (.int .i64 t1) ∧ w'.cell? ⟨w.heap.size + 1, 0, none⟩ = some (.int .i64 t2)) (exact ⟨p0, p1⟩)
    (first | (go_at_call 22; go_must (refine (HNu.out _ HR.out).mono ?_); rintro _ w8 ⟨v, rfl, hv, B5⟩; have HR := hide (HR.out.below B5 (HR.out.hlt (by omega))); have HNv := hide hv; (try (have HCu := hide (HCu.out.below B5))); have HI := hide (HI.out.trans (B5.mono HI.out.size)); have p0 : w8.cell? ⟨w.heap.size, 0, none⟩ = some (.int .i64 t1) := (by rw [B5.cell (p := ⟨w.heap.size, 0, none⟩) (block_lt_of_cell p0)]; exact p0); have p1 : w8.cell? ⟨w.heap.size + 1, 0, none⟩ = some (.int .i64 t2) := (by rw [B5.cell (p := ⟨w.heap.size + 1, 0, none⟩) (block_lt_of_cell p1)]; exact p1); clear B5 hv) | (go_at_call 24; go_must (refine (HA.out _).mono ?_); rintro _ wx ⟨rfl, hwx⟩; have hwx := hwx.symm; subst hwx) | (go_at_call 23; go_must (refine (HC.out _).mono ?_); rintro _ w9 ⟨u, rfl, hu, B5⟩; have HR := hide (HR.out.below B5 (HR.out.hlt (by omega))); have HCu := hide hu; (try (have HNv := hide (HNv.out.below B5))); have HI := hide (HI.out.trans (B5.mono HI.out.size)); have p0 : w9.cell? ⟨w.heap.size, 0, none⟩ = some (.int .i64 t1) := (by rw [B5.cell (p := ⟨w.heap.size, 0, none⟩) (block_lt_of_cell p0)]; exact p0); have p1 : w9.cell? ⟨w.heap.size + 1, 0, none⟩ = some (.int .i64 t2) := (by rw [B5.cell (p := ⟨w.heap.size + 1, 0, none⟩) (block_lt_of_cell p1)]; exact p1); clear B5 hu) | (go_at_call 21; go_must (refine (HO.out _ _ _ HNv.out HCu.out).mono ?_); rintro _ w10 ⟨head, more, e', rfl, hl, B5⟩; have HL := hide hl; have HI := hide (HI.out.trans (B5.mono HI.out.size)); have p0 : w10.cell? ⟨w.heap.size, 0, none⟩ = some (.int .i64 t1) := (by rw [B5.cell (p := ⟨w.heap.size, 0, none⟩) (block_lt_of_cell p0)]; exact p0); have p1 : w10.cell? ⟨w.heap.size + 1, 0, none⟩ = some (.int .i64 t2) := (by rw [B5.cell (p := ⟨w.heap.size + 1, 0, none⟩) (block_lt_of_cell p1)]; exact p1); clear B5 hl))
  go_wp2_with fail
  go_ret2
  obtain ⟨g1, g2, g3, g4⟩ := HEq.out
  rw [g1, g2, g3, g4]
  exact ⟨_, rfl, ⟨head, more, e', rfl, HL.out⟩, HI.out⟩

end Go.Proofs.YtleeahigceppiaaDoor

namespace Go.Proofs.YtleeahigceppiaaDoor
open Go.RowKit
open M
open Flt
set_option linter.unusedVariables false
set_option linter.unusedSimpArgs false

/-- What a share of the sum is: some leading bits' float. -/
def ShareV (S : Int) (n val : Nat) : Prop := ∃ head more e', val = wdX (decide (S < 0)) 9223372036854775808 (unsF 53 1074 9218868437227405312 head more e') ∧ LeadQ S.natAbs n (-1074) head more e'

set_option maxRecDepth 100000 in
set_option maxHeartbeats 2000000 in
theorem share_num {w : World} {g c : Nat} {S S2 : Int} (n : Nat) (h : Mo w g c false S S2) (hc : 0 < c) (hn : 0 < n) (hn2 : n < 18446744073709551616) (hS : 2 * S.natAbs < 18446744073709551616 ^ 34) :
    Calls Tryd.prog 13 #[.pointer (some ⟨g, 0, none⟩), .int .u64 n] w fun e w' => ∃ val : Nat, e = .returned (.int .u64 val) ∧ ShareV S n val ∧ Below w.heap.size w w' := by
  have k0 := h.k0
  have k1 := h.k1
  have k2 := h.k2
  have k3 := h.k3
  have k4 := h.k4
  have hc' : ¬ (c : Int) = 0 := by omega
  have HNu := hide (numberOf_any g 5 34 34 S w h.su (by omega) (by omega) (by omega) (by omega) h.lt hS)
  have HC := hide (fun w : World => count_any n w hn2)
  have HO := hide (fun (w' : World) (v u : Value) (a : Num w' v S.natAbs) (b : Num w' u n) => over_any (decide (S < 0)) false (-1074) a b hn)
  unfold NumEnd at HNu
  unfold OverEnd at HO
  unfold ShareV
  generalize decide (S < 0) = neg at *
  generalize S.natAbs = M at *
  clear h hn2 hS hn
  go_enter Tryd.func13, Tryd.ntmps13
  go_wp2_with fail
  refine HNu.out.mono ?_
  rintro e w1 ⟨v, rfl, hv, b1⟩
  have H1 := hide (And.intro hv b1)
  clear hv b1 k0 k1 k2 k3 k4
  go_wp2_with fail
  refine (HC.out _).mono ?_
  rintro e w2 ⟨u, rfl, hu, b2⟩
  have H2 := hide (And.intro hu b2)
  clear hu b2
  go_wp2_with fail
  refine (HO.out _ _ _ (H1.out.1.below H2.out.2) H2.out.1).mono ?_
  rintro e w3 ⟨head, more, e', rfl, hl, b3⟩
  have H3 := hide (And.intro hl b3)
  clear hl b3
  generalize hval : wdX neg 9223372036854775808 (unsF 53 1074 9218868437227405312 head more e') = val at *
  have HV := hide hval
  clear hval
  go_wp2_with fail
  go_ret
  refine ⟨val, rfl, ⟨head, more, e', HV.out.symm, H3.out.1⟩, ?_⟩
  exact (H1.out.2.trans (H2.out.2.mono H1.out.2.size)).trans (H3.out.2.mono (Nat.le_trans H1.out.2.size H2.out.2.size))

set_option maxRecDepth 100000 in
set_option maxHeartbeats 2000000 in
theorem share_dark {w : World} {g c : Nat} {S S2 : Int} (n : Nat) (h : Mo w g c true S S2) :
    Calls Tryd.prog 13 #[.pointer (some ⟨g, 0, none⟩), .int .u64 n] w fun e w' => e = .returned (.int .u64 9223372036854775808) ∧ w' = w := by
  have k0 := h.k0
  have k1 := h.k1
  have k2 := h.k2
  have k3 := h.k3
  have k4 := h.k4
  clear h
  go_enter Tryd.func13, Tryd.ntmps13
  go_wp2_with fail
  go_ret
  exact ⟨rfl, rfl⟩

set_option maxRecDepth 100000 in
set_option maxHeartbeats 2000000 in
theorem share_none {w : World} {g : Nat} {S S2 : Int} (n : Nat) (h : Mo w g 0 false S S2) :
    Calls Tryd.prog 13 #[.pointer (some ⟨g, 0, none⟩), .int .u64 n] w fun e w' => e = .returned (.int .u64 0) ∧ w' = w := by
  have k0 : w.cell? ⟨g, 0, none⟩ = some (.int .u64 0) := h.k0
  have k1 := h.k1
  have k2 := h.k2
  have k3 := h.k3
  have k4 := h.k4
  clear h
  go_enter Tryd.func13, Tryd.ntmps13
  go_wp2_with fail
  go_ret
  exact ⟨rfl, rfl⟩

set_option maxRecDepth 100000 in
set_option maxHeartbeats 2000000 in
theorem Sum_of {w : World} {g c : Nat} {dark : Bool} {S S2 : Int} (Pr : Nat → Prop) (h : Mo w g c dark S S2)
    (hsh : ∀ w1 : World, Mo w1 g c dark S S2 → Calls Tryd.prog 13 #[.pointer (some ⟨g, 0, none⟩), .int .u64 1] w1 fun e w' => ∃ val : Nat, e = .returned (.int .u64 val) ∧ Pr val ∧ Below w1.heap.size w1 w') :
    Calls Tryd.prog 7 #[.pointer (some ⟨g, 0, none⟩)] w fun e w' => ∃ val : Nat, e = .returned (.tuple #[.int .u64 val, .bool (decide (0 < c))]) ∧ Pr val ∧ Below w.heap.size w w' := by
  have HS := hide (fun (w1 : World) (hb : Below w.heap.size w w1) => hsh w1 (h.below hb h.lt))
  have k0 : w.drew.cell? ⟨g, 0, none⟩ = some (.int .u64 (c : Nat)) := h.k0
  have HI : Hid (Below w.heap.size w w.drew) := (Below.refl _ w).drew
  clear h hsh
  go_enter Tryd.func7, Tryd.ntmps7
  go_wp2_with fail
  go_region_held3 (fun w' => w'.cell? ⟨g, 0, none⟩ = some (.int .u64 (c : Nat))) (exact k0)
    (first | (go_at_call 13; go_must (refine (HS.out _ HI.out).mono ?_); rintro _ w5 ⟨val, rfl, hp, B5⟩; have HP := hide hp; have HI := hide (HI.out.trans (B5.mono HI.out.size)); have k0 : w5.cell? ⟨g, 0, none⟩ = some (.int .u64 (c : Nat)) := (by rw [B5.cell (p := ⟨g, 0, none⟩) (block_lt_of_cell k0)]; exact k0); clear B5 hp))
  go_wp2_with fail
  go_ret2
  exact ⟨val, rfl, HP.out, HI.out⟩

set_option maxRecDepth 100000 in
theorem Count_any {w : World} {g c : Nat} {dark : Bool} {S S2 : Int} (h : Mo w g c dark S S2) : Calls Tryd.prog 15 #[.pointer (some ⟨g, 0, none⟩)] w fun e w' => e = .returned (.int .u64 (c : Nat)) ∧ w' = w := by
  have k0 := h.k0
  clear h
  go_enter Tryd.func15, Tryd.ntmps15
  go_wp2_with fail
  go_ret
  exact ⟨rfl, rfl⟩

end Go.Proofs.YtleeahigceppiaaDoor

/- product; Add, Sub, Mul, Cmp. -/
import Derived.Test.YtleeahigceppiaaDoorF
/- difference, sum, product; Add, Sub, Mul, Cmp. -/
namespace Go.Proofs.YtleeahigceppiaaDoor
open Go.RowKit
open M
set_option linter.unusedVariables false
set_option linter.unusedSimpArgs false

set_option maxRecDepth 100000 in
set_option maxHeartbeats 1000000 in
theorem difference_any {S S' : Nat → Prop} (v u : Value) (k A m C : Nat) (w : World) (h : RowX S w v k A) (h' : RowX S' w u m C) (hle : C ≤ A) :
    Calls Tryd.prog 72 #[v, u] w fun e w' => ∃ r, e = .returned r ∧ ∃ n, RowX (w.heap.size ≤ ·) w' r n (A - C) ∧ Nrm n (A - C) ∧ n ≤ k ∧ Below w.heap.size w w' := by
  obtain ⟨i5, hi5⟩ := info32
  have Hi := hide hi5
  clear hi5
  have hb1 : Below w.heap.size w (w.alloc (.cells (madeCells #[Value.int .u32 0] k) 85)) := (Below.refl _ _).alloc (Nat.le_refl _) _
  obtain ⟨w', hrun, hg', hb'⟩ := copy_new (w.alloc (.cells (madeCells #[Value.int .u32 0] k) 85)) v k A k w.heap.size 63 63 3 Tryd.underlying63 (h.below hb1) (Nat.le_refl _) (make_block w k)
  have HF : Hid (Wk w' w.heap.size 0 k A ∧ Below w.heap.size w w' ∧ RowX (· ≠ w.heap.size) w' u m C ∧ w.heap.size < w'.heap.size ∧ subN A C k = A - C) :=
    ⟨wk_of_block h.1 hg', hb1.trans hb', (RowX.belowB (Row.old h'.row) (hb1.trans hb')).mono (fun g _ hg => Nat.ne_of_lt hg), by have := hb'.size; simp at this; omega, subN_ge hle h.1⟩
  clear hg' hb' hb1 h'
  obtain ⟨hN, hk, ad, cap, rfl, hc, hcell⟩ := h
  clear hcell hN
  go_enter Tryd.func72, Tryd.ntmps72
  go_wp2_with (at_make; refine wpList_make_row _ rfl _ _ _ rfl 85 i5 (.int .u32 0) Tryd.underlying63 Hi.out.1 Hi.out.2.1 Hi.out.2.2.1 rfl .i64 .i64 k rfl rfl (by rw [Hi.out.2.2.2]; omega) (by omega) ?_)
  go_loopw [6, 17] (fun t6 t17 wr => ∃ i : Nat, i ≤ k ∧ t6 = .int .u64 (brw A C i : Nat) ∧ t17 = .int .i64 i ∧ Hid (Mid wr w.heap.size 0 k i A (subN A C k) ∧ Only w.heap.size 0 k w' wr)) (fun _ t17 _ => k - (intOf t17).toNat)
  case atStart => exact ⟨0, by omega, by rw [brw_zero]; rfl, rfl, HF.out.1.mid _, Only.refl _ _ _ _⟩
  case round =>
    obtain ⟨i, hi, rfl, rfl, HM⟩ := hrel
    by_cases hlt : i < k
    · have hlt' : (i : Int) < (k : Int) := by omega
      have HR := hide (HF.out.2.2.1.only HM.out.2)
      have hx := HM.out.1.hi i (Nat.le_refl _) hlt
      have hf := HM.out.1.free i hlt
      rw [Nat.zero_add] at hx hf
      have Hs := hide (sub_step A C k i hlt _ _ _ rfl rfl rfl)
      have hxl := dg_le A i
      have hyl := dg_le C i
      have hcl := brw_le A C i
      have HL : Hid (∀ n, Calls Tryd.prog 78 #[u, .int .i64 i] (wr.drewN n) fun e w' => e = .returned (.int .u64 (dg C i : Nat)) ∧ w' = wr.drewN n) := fun n => limbAt_any u m C i _ (HR.out.drewN n) (by omega)
      generalize dg A i = x at *
      generalize dg C i = y at *
      generalize brw A C i = b at *
      go_wp2_with fail
      go_quiet ((go_at_call 78; exact Calls.quiet_of_same (HL.out _)))
      go_wp2_with fail
      have Hr := hide (sub_round A C k i hlt x y b hxl hyl hcl Hs.out)
      go_roundw
      case rel =>
        refine ⟨i + 1, by omega, by rw [Hr.out.2], by go_num, ?_⟩
        rw [show (⟨w.heap.size, i, none⟩ : Addr) = ⟨w.heap.size, 0 + i, none⟩ from by rw [Nat.zero_add]]
        exact ⟨(HM.out.1.drewN nq).step hlt _ Hr.out.1, (HM.out.2.drewN nq).setCell _ (by omega) (by omega) _⟩
      case measure => simp [intOf]; omega
    · obtain rfl : i = k := by omega
      have HW : Hid (RowX (w.heap.size ≤ ·) wr (.slice (some ⟨w.heap.size, 0, none⟩) i i) i (A - C) ∧ Below w.heap.size w wr) := by
        have h1 := HM.out.1.wk (subN_lt A C i)
        rw [HF.out.2.2.2.2] at h1
        exact ⟨h1.row hk (Nat.le_refl _) (Nat.le_refl _) _ (fun _ => rfl), HF.out.2.1.trans (HM.out.2.below (Nat.le_refl _) (by have := HF.out.2.2.2.1; omega))⟩
      go_wp2_with fail
      refine (trim_any _ i (A - C) wr HW.out.1).mono ?_
      rintro e w3 ⟨r, rfl, n, hrow, hnrm, hnk, rfl⟩
      have HZ := hide (And.intro hrow (And.intro hnrm hnk))
      clear hrow hnrm hnk
      go_wp2_with fail
      go_ret
      exact ⟨r, rfl, n, HZ.out.1, HZ.out.2.1, HZ.out.2.2, HW.out.2⟩


set_option maxRecDepth 100000 in
set_option maxHeartbeats 1000000 in
theorem sum_any {S S' : Nat → Prop} (v u : Value) (k A m C : Nat) (w : World) (h : RowX S w v k A) (h' : RowX S' w u m C) (hk2 : k < 70368744177664) (hm2 : m < 70368744177664) :
    Calls Tryd.prog 73 #[v, u] w fun e w' => ∃ r, e = .returned r ∧ ∃ n, RowX (w.heap.size ≤ ·) w' r n (A + C) ∧ Nrm n (A + C) ∧ n ≤ max k m + 1 ∧ Below w.heap.size w w' := by
  obtain ⟨i5, hi5⟩ := info32
  have Hi := hide hi5
  clear hi5
  by_cases hkm : k < m
  · -- the two change places
    have hb1 : Below w.heap.size w (w.alloc (.cells (madeCells #[Value.int .u32 0] (m + 1)) 85)) := (Below.refl _ _).alloc (Nat.le_refl _) _
    obtain ⟨w', hrun, hg', hb'⟩ := copy_new (w.alloc (.cells (madeCells #[Value.int .u32 0] (m + 1)) 85)) u m C (m + 1) w.heap.size 63 63 3 Tryd.underlying63 (h'.below hb1) (by omega) (make_block w (m + 1))
    have hlt : C + A < 4294967296 ^ (m + 1) := by
      have h1 := h'.1
      have h2 : A < 4294967296 ^ m := Nat.lt_of_lt_of_le h.1 (Nat.pow_le_pow_right (by omega) (by omega))
      rw [pw_succ]; omega
    have HF : Hid (Wk w' w.heap.size 0 (m + 1) C ∧ Below w.heap.size w w' ∧ RowX (· ≠ w.heap.size) w' v k A ∧ w.heap.size < w'.heap.size ∧ C + A < 4294967296 ^ (m + 1)) :=
      ⟨wk_of_block (Nat.lt_of_lt_of_le h'.1 (Nat.pow_le_pow_right (by omega) (by omega))) hg', hb1.trans hb', (RowX.belowB (Row.old h.row) (hb1.trans hb')).mono (fun g _ hg => Nat.ne_of_lt hg), by have := hb'.size; simp at this; omega, hlt⟩
    clear hg' hb' hb1 hlt
    obtain ⟨hN, hk, ad, cap, rfl, hc, hcell⟩ := h
    obtain ⟨hN', hk', ad', cap', rfl, hc', hcell'⟩ := h'
    clear hcell hN hcell' hN'
    have hkm' : (k : Int) < (m : Int) := by omega
    obtain ⟨m1, hm1, hm1'⟩ : ∃ m1 : Nat, m1 = m + 1 ∧ (m : Int) + 1 = (m1 : Int) := ⟨m + 1, rfl, by omega⟩
    rw [← hm1] at hrun HF
    have Hm1 := hide hm1
    clear hm1
    go_enter Tryd.func73, Tryd.ntmps73
    go_wp2_with (at_make; refine wpList_make_row _ rfl _ _ _ rfl 85 i5 (.int .u32 0) Tryd.underlying63 Hi.out.1 Hi.out.2.1 Hi.out.2.2.1 rfl .i64 .i64 m1 rfl rfl (by rw [Hi.out.2.2.2]; have := Hm1.out; omega) (by have := Hm1.out; omega) ?_)
    refine (addInto_any _ w.heap.size 0 m1 m1 C _ k A w' HF.out.1 (by have := Hm1.out; omega) (Nat.le_refl _) (fun _ => rfl) HF.out.2.2.1).mono ?_
    rintro e w2 ⟨rfl, hW, hO⟩
    have HW : Hid (RowX (w.heap.size ≤ ·) w2 (.slice (some ⟨w.heap.size, 0, none⟩) m1 m1) m1 (A + C) ∧ Below w.heap.size w w2) := by
      rw [mod_self HF.out.2.2.2.2, Nat.add_comm] at hW
      exact ⟨hW.row (by have := Hm1.out; omega) (Nat.le_refl _) (Nat.le_refl _) _ (fun _ => rfl), HF.out.2.1.trans (hO.below (Nat.le_refl _) (by have := HF.out.2.2.2.1; omega))⟩
    clear hW hO
    go_wp2_with fail
    refine (trim_any _ m1 (A + C) w2 HW.out.1).mono ?_
    rintro e w3 ⟨r, rfl, n, hrow, hnrm, hnk, rfl⟩
    have HZ := hide (And.intro hrow (And.intro hnrm hnk))
    clear hrow hnrm hnk
    go_wp2_with fail
    go_ret
    exact ⟨r, rfl, n, HZ.out.1, HZ.out.2.1, by have := HZ.out.2.2; have := Hm1.out; omega, HW.out.2⟩
  · have hb1 : Below w.heap.size w (w.alloc (.cells (madeCells #[Value.int .u32 0] (k + 1)) 85)) := (Below.refl _ _).alloc (Nat.le_refl _) _
    obtain ⟨w', hrun, hg', hb'⟩ := copy_new (w.alloc (.cells (madeCells #[Value.int .u32 0] (k + 1)) 85)) v k A (k + 1) w.heap.size 63 63 3 Tryd.underlying63 (h.below hb1) (by omega) (make_block w (k + 1))
    have hlt : A + C < 4294967296 ^ (k + 1) := by
      have h1 := h.1
      have h2 : C < 4294967296 ^ k := Nat.lt_of_lt_of_le h'.1 (Nat.pow_le_pow_right (by omega) (by omega))
      rw [pw_succ]; omega
    have HF : Hid (Wk w' w.heap.size 0 (k + 1) A ∧ Below w.heap.size w w' ∧ RowX (· ≠ w.heap.size) w' u m C ∧ w.heap.size < w'.heap.size ∧ A + C < 4294967296 ^ (k + 1)) :=
      ⟨wk_of_block (Nat.lt_of_lt_of_le h.1 (Nat.pow_le_pow_right (by omega) (by omega))) hg', hb1.trans hb', (RowX.belowB (Row.old h'.row) (hb1.trans hb')).mono (fun g _ hg => Nat.ne_of_lt hg), by have := hb'.size; simp at this; omega, hlt⟩
    clear hg' hb' hb1 hlt
    obtain ⟨hN, hk, ad, cap, rfl, hc, hcell⟩ := h
    obtain ⟨hN', hk', ad', cap', rfl, hc', hcell'⟩ := h'
    clear hcell hN hcell' hN'
    have hkm' : ¬ (k : Int) < (m : Int) := by omega
    obtain ⟨m1, hm1, hm1'⟩ : ∃ m1 : Nat, m1 = k + 1 ∧ (k : Int) + 1 = (m1 : Int) := ⟨k + 1, rfl, by omega⟩
    rw [← hm1] at hrun HF
    have Hm1 := hide hm1
    clear hm1
    go_enter Tryd.func73, Tryd.ntmps73
    go_wp2_with (at_make; refine wpList_make_row _ rfl _ _ _ rfl 85 i5 (.int .u32 0) Tryd.underlying63 Hi.out.1 Hi.out.2.1 Hi.out.2.2.1 rfl .i64 .i64 m1 rfl rfl (by rw [Hi.out.2.2.2]; have := Hm1.out; omega) (by have := Hm1.out; omega) ?_)
    refine (addInto_any _ w.heap.size 0 m1 m1 A _ m C w' HF.out.1 (by have := Hm1.out; omega) (Nat.le_refl _) (fun _ => rfl) HF.out.2.2.1).mono ?_
    rintro e w2 ⟨rfl, hW, hO⟩
    have HW : Hid (RowX (w.heap.size ≤ ·) w2 (.slice (some ⟨w.heap.size, 0, none⟩) m1 m1) m1 (A + C) ∧ Below w.heap.size w w2) := by
      rw [mod_self HF.out.2.2.2.2] at hW
      exact ⟨hW.row (by have := Hm1.out; omega) (Nat.le_refl _) (Nat.le_refl _) _ (fun _ => rfl), HF.out.2.1.trans (hO.below (Nat.le_refl _) (by have := HF.out.2.2.2.1; omega))⟩
    clear hW hO
    go_wp2_with fail
    refine (trim_any _ m1 (A + C) w2 HW.out.1).mono ?_
    rintro e w3 ⟨r, rfl, n, hrow, hnrm, hnk, rfl⟩
    have HZ := hide (And.intro hrow (And.intro hnrm hnk))
    clear hrow hnrm hnk
    go_wp2_with fail
    go_ret
    exact ⟨r, rfl, n, HZ.out.1, HZ.out.2.1, by have := HZ.out.2.2; have := Hm1.out; omega, HW.out.2⟩

end Go.Proofs.YtleeahigceppiaaDoor

namespace Go.Proofs.YtleeahigceppiaaDoor
open Go.RowKit
open M
set_option linter.unusedVariables false
set_option linter.unusedSimpArgs false


end Go.Proofs.YtleeahigceppiaaDoor

/- What a column's take reads, and that it is complete (32 bits). -/
import Derived.Test.YtenhippcjnemcaaDoorP1F32
import Derived.Deep.Cut
namespace Go.Proofs.YtenhippcjnemcaaDoor
open Go.RowKit
open M
set_option linter.unusedVariables false
set_option linter.unusedSimpArgs false

/-- What takeWindow tells. -/
def TwEnd32 (w : World) (b : Nat) (s : ByteArray) (a : Nat) (e0 : Int) (e : Ending) (w' : World) : Prop :=
  ∃ (l n N a' : Nat) (e1 : Int), e = .returned (.agg #[.int .i64 (l : Int), .int .i64 (N : Int)]) ∧ n + 1 = N ∧ l < 32 ∧ n < 32 ∧ Tk w w' b 0 s a e0 a' e1 (bitsOf l 5 ++ bitsOf n 5)

set_option maxRecDepth 100000 in
set_option maxHeartbeats 1000000 in
theorem takeWindow32_any (b : Nat) (s : ByteArray) (a : Nat) (e0 : Int) (w : World) (h : Rd w b 0 s a e0) :
    Calls Tryd.prog 45 #[.pointer (some ⟨b, 0, none⟩)] w (TwEnd32 w b s a e0) := by
  have hbs : b < w.heap.size := block_lt_of_cell h.text
  have HM : Hid (Rd (w.alloc (.cells #[.int .i64 0, .int .i64 0] 78)) b 0 s a e0 ∧ Only b 0 3 w (w.alloc (.cells #[.int .i64 0, .int .i64 0] 78)) ∧
      (w.alloc (.cells #[.int .i64 0, .int .i64 0] 78)).heap[w.heap.size]? = some (.cells #[.int .i64 0, .int .i64 0] 78 (0, 0))) :=
    ⟨h.below ((Below.refl _ w).alloc (Nat.le_refl _) _) hbs, (Only.refl b 0 3 w).alloc hbs _, heap_alloc_new w _⟩
  have ha := hide h.le
  clear h
  go_enter Tryd.func45, Tryd.ntmps45
  go_wp2_with fail
  generalize w.alloc (.cells #[.int .i64 0, .int .i64 0] 78) = w0 at *
  refine (fieldWidth32_any _).mono ?_
  rintro e wy ⟨rfl, hwy⟩
  have hwy := hwy.symm
  subst hwy
  go_wp2_with fail
  refine (tk_bits b 0 s a 5 e0 _ HM.out.1 (by omega)).mono ?_
  rintro e w1 ⟨l, a1, e1, rfl, hl, T1⟩
  have hl' : l < 32 := hl
  have l1 : wrap64 (l : Int) = (l : Int) := by unfold wrap64; omega
  have l2 : IntKind.i64.wrap (l : Int) = (l : Int) := by rw [IntKind.wrap_i64]; omega
  go_wp2_with fail
  refine (fieldWidth32_any _).mono ?_
  rintro e wy ⟨rfl, hwy⟩
  have hwy := hwy.symm
  subst hwy
  go_wp2_with fail
  refine (tk_bits b 0 s a1 5 e1 _ T1.rd (by omega)).mono ?_
  rintro e w2 ⟨n, a2, e2, rfl, hn, T2⟩
  have hn' : n < 32 := hn
  obtain ⟨N, hN⟩ : ∃ N, n + 1 = N := ⟨_, rfl⟩
  have n1 : wrap64 (n : Int) = (n : Int) := by unfold wrap64; omega
  have n2 : IntKind.i64.wrap (n : Int) = (n : Int) := by rw [IntKind.wrap_i64]; omega
  have n3 : (n : Int) + 1 = (N : Int) := by omega
  have n4 : wrap64 (N : Int) = (N : Int) := by unfold wrap64; omega
  have O2 : Only b 0 3 w0 w2 := T1.only.trans T2.only
  have hs0 := size_lt_of_row HM.out.2.2
  have hGb : w.heap.size ≠ b := by omega
  have g0 : w2.cell? ⟨w.heap.size, 0, none⟩ = some (.int .i64 0) := by rw [World.cell?_of_block (O2.block w.heap.size hs0 hGb), cell_of_row _ _ _ _ _ _ HM.out.2.2]; rfl
  have g1 : w2.cell? ⟨w.heap.size, 1, none⟩ = some (.int .i64 0) := by rw [World.cell?_of_block (O2.block w.heap.size hs0 hGb), cell_of_row _ _ _ _ _ _ HM.out.2.2]; rfl
  have f0 : w2.frozen? ⟨w.heap.size, 0, none⟩ = false := by rw [World.frozen?_of_block (w := w0) (w' := w2) (a := ⟨w.heap.size, 0, none⟩) (O2.block w.heap.size hs0 hGb)]; exact frozen_of_row _ _ _ _ _ HM.out.2.2
  have f1 : w2.frozen? ⟨w.heap.size, 1, none⟩ = false := by rw [World.frozen?_of_block (w := w0) (w' := w2) (a := ⟨w.heap.size, 1, none⟩) (O2.block w.heap.size hs0 hGb)]; exact frozen_of_row _ _ _ _ _ HM.out.2.2
  have HTT := hide (T1.trans ha.out T2)
  have HN := hide (And.intro hN (And.intro hl' hn'))
  clear T1 T2 O2 hl hn hl' hn' hN
  go_wp2_with fail
  obtain ⟨r0, r1⟩ := set_two (v := .int .i64 (l : Int)) (v' := .int .i64 (N : Int)) g0 g1
  refine bodyPost_ret (v := .agg #[.int .i64 (l : Int), .int .i64 (N : Int)]) (by
    have r2 := cell_setCell_eq w2 w.heap.size 0 (.int .i64 (l : Int)) _ g0
    have r3 := cell_setCell_eq (w2.setCell ⟨w.heap.size, 0, none⟩ (.int .i64 (l : Int))) w.heap.size 1 (.int .i64 (N : Int)) (.int .i64 0) (by rw [cell_setCell_ne _ _ _ _ _ (by omega)]; exact g1)
    simp [results, Tryd.results45, go_sem, r0, r1, r2, r3]) rfl ?_
  refine ⟨l, n, N, a2, e2, rfl, HN.out.1, HN.out.2.1, HN.out.2.2, (HTT.out.rd.setOther' w.heap.size 0 hGb _).setOther' w.heap.size 1 hGb _, ?_, HTT.out.sound, HTT.out.full⟩
  exact ((HM.out.2.1.trans HTT.out.only).setOther' w.heap.size 0 (Nat.le_refl _) hGb _).setOther' w.heap.size 1 (Nat.le_refl _) hGb _

end Go.Proofs.YtenhippcjnemcaaDoor

namespace Go.Proofs.YtenhippcjnemcaaDoor
open Go.RowKit
open M
set_option linter.unusedVariables false
set_option linter.unusedSimpArgs false

theorem full_at32 {w w' : World} {b off : Nat} {s : ByteArray} {a a' : Nat} {e1 : Int} {laid X r : List Bool} (T : Tk w w' b off s a 0 a' e1 laid) (ha : a ≤ 8 * s.size) (h : (rb s).drop a = X ++ r) (hl : laid.length ≤ X.length) :
    e1 = 0 ∧ ∃ r', X ++ r = laid ++ r' := by
  have h1 := congrArg List.length h
  rw [List.length_drop, rb_length, List.length_append] at h1
  have e : e1 = 0 := by
    by_cases h0 : laid.length = 0
    · exact T.full rfl (by rw [rb_length]; omega)
    · exact T.full rfl (by rw [rb_length]; omega)
  exact ⟨e, _, by rw [← h]; exact take_eq_drop' _ _ _ _ (T.sound e).2⟩

theorem xb_first32 (W K L N y : Nat) (h0 : y ≠ 0) : ∃ t, xb W K L N y = true :: (!decide (sut W K L N y)) :: t := by
  by_cases h : sut W K L N y
  · rw [xb_old _ _ _ _ _ h0 h]; exact ⟨_, by simp [h]; rfl⟩
  · rw [xb_new _ _ _ _ _ h0 h]; exact ⟨_, by simp [h]; rfl⟩

/-- The first bit is a nought. -/
theorem zero_done32 {w w' : World} {b off : Nat} {s : ByteArray} {a a' : Nat} {e1 : Int} {L N y : Nat} {r : List Bool} (T : Tk w w' b off s a 0 a' e1 [false]) (ha : a ≤ 8 * s.size) (h : (rb s).drop a = xb 32 5 L N y ++ r) : e1 = 0 ∧ y = 0 := by
  by_cases h0 : y = 0
  · subst h0
    exact ⟨(full_at32 T ha h (by simp [xb_0])).1, rfl⟩
  · obtain ⟨t, ht⟩ := xb_first32 32 5 L N y h0
    obtain ⟨h1, r', h2⟩ := full_at32 T ha h (by rw [ht]; simp)
    rw [ht] at h2
    simp at h2

/-- A 1, then v. -/
theorem second_done32 {w w' : World} {b off : Nat} {s : ByteArray} {a a' : Nat} {e1 : Int} {L N y : Nat} {v : Bool} {r : List Bool} (hr : (rb s).drop a = true :: r) (T : Tk w w' b off s a 0 a' e1 [true, v]) (ha : a ≤ 8 * s.size) {r2 : List Bool} (h : (rb s).drop a = xb 32 5 L N y ++ r2) :
    e1 = 0 ∧ y ≠ 0 ∧ (v = true ↔ ¬ sut 32 5 L N y) := by
  have h0 : y ≠ 0 := by
    rintro rfl
    rw [h, xb_0] at hr
    simp at hr
  obtain ⟨t, ht⟩ := xb_first32 32 5 L N y h0
  obtain ⟨h1, r', h2⟩ := full_at32 T ha h (by rw [ht]; simp)
  rw [ht] at h2
  simp only [List.cons_append, List.nil_append, List.cons.injEq, true_and] at h2
  refine ⟨h1, h0, ?_⟩
  rw [← h2.1]
  by_cases hs : sut 32 5 L N y <;> simp [hs]

/-- In the old window. -/
theorem old_done32 {w w' : World} {b off : Nat} {s : ByteArray} {a a' : Nat} {e1 : Int} {L N y v : Nat} {r : List Bool} (T : Tk w w' b off s a 0 a' e1 ([true, false] ++ bitsOf v N)) (ha : a ≤ 8 * s.size) (hy : y < 4294967296) (hw : L + N ≤ 32) (hv : v < 2 ^ N)
    (h0 : y ≠ 0) (hs : sut 32 5 L N y) (h : (rb s).drop a = xb 32 5 L N y ++ r) : e1 = 0 ∧ v * 2 ^ (32 - L - N) = y := by
  have h' := h
  rw [xb_old _ _ _ _ _ h0 hs] at h'
  obtain ⟨h1, r', h2⟩ := full_at32 T ha h' (by simp)
  refine ⟨h1, ?_⟩
  simp only [List.cons_append, List.nil_append, List.cons.injEq, true_and] at h2
  have h3 := (pbits_inj _ _ _ _ _ (old_fits 32 5 L N y hy hw hs) hv h2).1
  rw [← h3]
  exact cut_back y _ h0 (lt64 (W := 32) hy (by omega)) hs.2.2.1

/-- A window of its own. -/
theorem new_done32 {w w' : World} {b off : Nat} {s : ByteArray} {a a' : Nat} {e1 : Int} {L N y l n : Nat} {r : List Bool} (T : Tk w w' b off s a 0 a' e1 ([true, true] ++ (bitsOf l 5 ++ bitsOf n 5))) (ha : a ≤ 8 * s.size) (hy : y < 4294967296) (hl : l < 32) (hn : n < 32)
    (h0 : y ≠ 0) (hs : ¬ sut 32 5 L N y) (h : (rb s).drop a = xb 32 5 L N y ++ r) : e1 = 0 ∧ l = 32 - bitLen y ∧ n + 1 = wl y := by
  have h' := h
  rw [xb_new _ _ _ _ _ h0 hs] at h'
  have hy6 := lt64 (W := 32) hy (by omega)
  have q1 := bitLen_le y 32 hy
  have q2 := bitLen_pos y h0
  have q3 := wl_pos y h0 hy6
  have q4 : wl y ≤ 32 := by unfold wl; omega
  obtain ⟨h1, r', h2⟩ := full_at32 T ha h' (by simp; omega)
  refine ⟨h1, ?_⟩
  simp only [List.cons_append, List.nil_append, List.cons.injEq, true_and, List.append_assoc] at h2
  obtain ⟨h3, h4⟩ := pbits_inj _ _ 5 _ _ (by omega) (by omega) h2
  obtain ⟨h5, h6⟩ := pbits_inj _ _ 5 _ _ (by omega) (by omega) h4
  omega

theorem own_done32 {w w' : World} {b off : Nat} {s : ByteArray} {a a' : Nat} {e1 : Int} {L N y l n v m : Nat} {r : List Bool} (T : Tk w w' b off s a 0 a' e1 ([true, true] ++ (bitsOf l 5 ++ bitsOf n 5) ++ bitsOf v m)) (ha : a ≤ 8 * s.size) (hy : y < 4294967296) (hv : v < 2 ^ m)
    (h0 : y ≠ 0) (hs : ¬ sut 32 5 L N y) (h : (rb s).drop a = xb 32 5 L N y ++ r) (el : l = 32 - bitLen y) (en : n + 1 = wl y) (em : m = n + 1) : e1 = 0 ∧ v * 2 ^ (32 - l - m) = y := by
  have h' := h
  have hy6 := lt64 (W := 32) hy (by omega)
  have q1 := bitLen_le y 32 hy
  have q2 := tz_lt y h0 hy6
  have q3 : wl y = bitLen y - tz y := rfl
  have em' : wl y = m := by omega
  rw [xb_new _ _ _ _ _ h0 hs, show 32 - bitLen y = l from el.symm, show wl y - 1 = n from by omega, em'] at h'
  obtain ⟨h1, r', h2⟩ := full_at32 T ha h' (by simp)
  refine ⟨h1, ?_⟩
  simp only [List.cons_append, List.nil_append, List.cons.injEq, true_and, List.append_assoc, List.append_cancel_left_eq] at h2
  have h3 := (pbits_inj _ _ _ _ _ (by rw [← em']; exact new_fits y h0 hy6) hv h2).1
  rw [← h3, show 32 - l - m = tz y from by omega]
  exact cut_back y _ h0 hy6 (Nat.le_refl _)

/-- What a value that was read tells: in the old window. -/
theorem old_back32 (L N v : Nat) (hw : L + N ≤ 32) (hv : v < 2 ^ N) : v * 2 ^ (32 - L - N) < 4294967296 ∧ v * 2 ^ (32 - L - N) / 2 ^ (32 - L - N) = v := by
  refine ⟨?_, Nat.mul_div_cancel _ (Nat.two_pow_pos _)⟩
  have h1 : v * 2 ^ (32 - L - N) < 2 ^ N * 2 ^ (32 - L - N) := (Nat.mul_lt_mul_right (Nat.two_pow_pos _)).2 hv
  rw [← Nat.pow_add] at h1
  exact Nat.lt_of_lt_of_le h1 (Nat.le_trans (Nat.pow_le_pow_right (by omega) (show N + (32 - L - N) ≤ 32 by omega)) (by decide))

theorem put_win32 {w1 w3 : World} {b : Nat} {s : ByteArray} {a1 a2 : Nat} {e2 : Int} {l : List Bool} {H : Nat} {u u' v v' : Value} (T : Tk w1 w3 b 0 s a1 0 a2 e2 l) (hH : w1.heap.size ≤ H) (hHb : H ≠ b) (hs : H < w3.heap.size)
    (g0 : w3.cell? ⟨H, 0, none⟩ = some u) (g1 : w3.cell? ⟨H, 1, none⟩ = some u') (hf : ∀ i, w3.frozen? ⟨H, i, none⟩ = false) :
    Tk w1 ((w3.setCell ⟨H, 0, none⟩ v).setCell ⟨H, 1, none⟩ v') b 0 s a1 0 a2 e2 l ∧ H < ((w3.setCell ⟨H, 0, none⟩ v).setCell ⟨H, 1, none⟩ v').heap.size ∧
      ((w3.setCell ⟨H, 0, none⟩ v).setCell ⟨H, 1, none⟩ v').cell? ⟨H, 0, none⟩ = some v ∧ ((w3.setCell ⟨H, 0, none⟩ v).setCell ⟨H, 1, none⟩ v').cell? ⟨H, 1, none⟩ = some v' ∧
      ∀ i, ((w3.setCell ⟨H, 0, none⟩ v).setCell ⟨H, 1, none⟩ v').frozen? ⟨H, i, none⟩ = false := by
  obtain ⟨r0, r1⟩ := set_two (v := v) (v' := v') g0 g1
  refine ⟨⟨(T.rd.setOther' H 0 hHb _).setOther' H 1 hHb _, (T.only.setOther' H 0 hH hHb _).setOther' H 1 hH hHb _, T.sound, T.full⟩, by simp [World.setCell]; exact hs, r0, r1, fun i => by rw [frozen_setCell, frozen_setCell]; exact hf i⟩

theorem cell_setOther32 (w : World) (g i c j : Nat) (v : Value) (h : g ≠ c) : (w.setCell ⟨g, i, none⟩ v).cell? ⟨c, j, none⟩ = w.cell? ⟨c, j, none⟩ :=
  World.cell?_of_block (Below.heap_setCell _ _ _ _ (fun e => h e.symm))

theorem Tk.more32 {w w' w2 : World} {b off : Nat} {s : ByteArray} {a a' : Nat} {e0 e1 : Int} {laid : List Bool} (T : Tk w w' b off s a e0 a' e1 laid) (hB : Below w'.heap.size w' w2) : Tk w w2 b off s a e0 a' e1 laid := by
  have hb : b < w'.heap.size := block_lt_of_cell T.rd.text
  refine ⟨T.rd.below hB hb, T.only.trans ⟨hB.os, hB.tape, hB.output, hB.size, fun k hk _ => hB.block k hk, fun j _ => World.cell?_of_block (hB.block b hb), fun j => World.frozen?_of_block (w := w') (w' := w2) (a := ⟨b, j, none⟩) (hB.block b hb)⟩, T.sound, T.full⟩
theorem wrap_nat32 {x : Nat} (h : x < 4294967296) : IntKind.u32.wrap (x : Int) = (x : Int) := by rw [IntKind.wrap_u32]; omega
theorem wrap_val32 {v n : Nat} (h : v < 2 ^ n) (hn : n ≤ 32) : IntKind.u32.wrap (v : Int) = (v : Int) := wrap_nat32 (Nat.lt_of_lt_of_le h (Nat.le_trans (Nat.pow_le_pow_right (by omega) hn) (by decide)))

/-- What take tells. -/
def TakeEnd32 (w : World) (b c : Nat) (s : ByteArray) (a : Nat) (e0 : Int) (p L N : Nat) (e : Ending) (w' : World) : Prop :=
  ∃ (ok : Bool) (x a' : Nat) (e1 : Int), e = .returned (.bool ok) ∧ Rd w' b 0 s a' e1 ∧ Two32 b c w w' ∧ x < 4294967296 ∧
    (ok = true → Col32 w' c (p ^^^ x) (nxt 32 5 (L, N) x).1 (nxt 32 5 (L, N) x).2 ∧ (e1 = 0 → e0 = 0 ∧ (rb s).take a' = (rb s).take a ++ xb 32 5 L N x)) ∧
    (e0 = 0 → ∀ y r, y < 4294967296 → (rb s).drop a = xb 32 5 L N y ++ r → ok = true ∧ x = y ∧ e1 = 0)

end Go.Proofs.YtenhippcjnemcaaDoor

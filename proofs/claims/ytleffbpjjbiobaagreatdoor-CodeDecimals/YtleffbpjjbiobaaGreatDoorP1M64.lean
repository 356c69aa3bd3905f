/- Values that are taken one by one (64 bits). -/
import Derived.Test.YtleffbpjjbiobaaGreatDoorP1F64
import Derived.Deep.Cut
import Derived.Test.YtleffbpjjbiobaaGreatDoorNF
/- What a column's take reads, and that it is complete (64 bits). -/
namespace Go.Proofs.YtleffbpjjbiobaaGreatDoor
open Go.RowKit
open M
set_option linter.unusedVariables false
set_option linter.unusedSimpArgs false

/-- What takeWindow tells. -/
def TwEnd64 (w : World) (b : Nat) (s : ByteArray) (a : Nat) (e0 : Int) (e : Ending) (w' : World) : Prop :=
  ∃ (l n N a' : Nat) (e1 : Int), e = .returned (.agg #[.int .i64 (l : Int), .int .i64 (N : Int)]) ∧ n + 1 = N ∧ l < 64 ∧ n < 64 ∧ Tk w w' b 0 s a e0 a' e1 (bitsOf l 6 ++ bitsOf n 6)

set_option maxRecDepth 100000 in
set_option maxHeartbeats 1000000 in
theorem takeWindow64_any (b : Nat) (s : ByteArray) (a : Nat) (e0 : Int) (w : World) (h : Rd w b 0 s a e0) :
    Calls Tryz.prog 140 #[.pointer (some ⟨b, 0, none⟩)] w (TwEnd64 w b s a e0) := by
  have hbs : b < w.heap.size := block_lt_of_cell h.text
  have HM : Hid (Rd (w.alloc (.cells #[.int .i64 0, .int .i64 0] 150)) b 0 s a e0 ∧ Only b 0 3 w (w.alloc (.cells #[.int .i64 0, .int .i64 0] 150)) ∧
      (w.alloc (.cells #[.int .i64 0, .int .i64 0] 150)).heap[w.heap.size]? = some (.cells #[.int .i64 0, .int .i64 0] 150 (0, 0))) :=
    ⟨h.below ((Below.refl _ w).alloc (Nat.le_refl _) _) hbs, (Only.refl b 0 3 w).alloc hbs _, heap_alloc_new w _⟩
  have ha := hide h.le
  clear h
  go_enter Tryz.func140, Tryz.ntmps140
  go_wp2_with fail
  generalize w.alloc (.cells #[.int .i64 0, .int .i64 0] 150) = w0 at *
  refine (fieldWidth64_any _).mono ?_
  rintro e wy ⟨rfl, hwy⟩
  have hwy := hwy.symm
  subst hwy
  go_wp2_with fail
  refine (tk_bits b 0 s a 6 e0 _ HM.out.1 (by omega)).mono ?_
  rintro e w1 ⟨l, a1, e1, rfl, hl, T1⟩
  have hl' : l < 64 := hl
  have l1 : wrap64 (l : Int) = (l : Int) := by unfold wrap64; omega
  have l2 : IntKind.i64.wrap (l : Int) = (l : Int) := by rw [IntKind.wrap_i64]; omega
  go_wp2_with fail
  refine (fieldWidth64_any _).mono ?_
  rintro e wy ⟨rfl, hwy⟩
  have hwy := hwy.symm
  subst hwy
  go_wp2_with fail
  refine (tk_bits b 0 s a1 6 e1 _ T1.rd (by omega)).mono ?_
  rintro e w2 ⟨n, a2, e2, rfl, hn, T2⟩
  have hn' : n < 64 := hn
  obtain ⟨N, hN⟩ : ∃ N, n + 1 = N := ⟨_, rfl⟩
  have n1 : wrap64 (n : Int) = (n : Int) := by unfold wrap64; omega
  have n2 : IntKind.i64.wrap (n : Int) = (n : Int) := by rw [IntKind.wrap_i64]; omega
  have n3 : (n : Int) + 1 = (N : Int) := by omega
  have n4 : wrap64 (N : Int) = (N : Int) := by unfold wrap64; omega
  have O2 : Only b 0 3 w0 w2 := T1.only.trans T2.only
  have hs0 := size_lt_of_row HM.out.2.2
  have hGb : w.heap.size ≠ b := by omega
  have g0 : w2.cell? ⟨w.heap.size, 0, none⟩ = some (.int .i64 0) := by rw [World.cell?_of_block (O2.block w.heap.size hs0 hGb), cell_of_row _ _ _ _ _ _ HM.out.2.2]; rfl
  have g1 : w2.cell? ⟨w.heap.size, 1, none⟩ = some (.int .i64 0) := by rw [World.cell?_of_block (O2.block w.heap.size hs0 hGb), cell_of_row _ _ _ _ _ _ HM.out.2.2]; rfl
  have f0 : w2.frozen? ⟨w.heap.size, 0, none⟩ = false := by rw [World.frozen?_of_block (w := w0) (w' := w2) (a := ⟨w.heap.size, 0, none⟩) (O2.block w.heap.size hs0 hGb)]; exact frozen_of_row _ _ _ _ _ HM.out.2.2
  have f1 : w2.frozen? ⟨w.heap.size, 1, none⟩ = false := by rw [World.frozen?_of_block (w := w0) (w' := w2) (a := ⟨w.heap.size, 1, none⟩) (O2.block w.heap.size hs0 hGb)]; exact frozen_of_row _ _ _ _ _ HM.out.2.2
  have HTT := hide (T1.trans ha.out T2)
  have HN := hide (And.intro hN (And.intro hl' hn'))
  clear T1 T2 O2 hl hn hl' hn' hN
  go_wp2_with fail
  obtain ⟨r0, r1⟩ := set_two (v := .int .i64 (l : Int)) (v' := .int .i64 (N : Int)) g0 g1
  refine bodyPost_ret (v := .agg #[.int .i64 (l : Int), .int .i64 (N : Int)]) (by
    have r2 := cell_setCell_eq w2 w.heap.size 0 (.int .i64 (l : Int)) _ g0
    have r3 := cell_setCell_eq (w2.setCell ⟨w.heap.size, 0, none⟩ (.int .i64 (l : Int))) w.heap.size 1 (.int .i64 (N : Int)) (.int .i64 0) (by rw [cell_setCell_ne _ _ _ _ _ (by omega)]; exact g1)
    simp [results, Tryz.results140, go_sem, r0, r1, r2, r3]) rfl ?_
  refine ⟨l, n, N, a2, e2, rfl, HN.out.1, HN.out.2.1, HN.out.2.2, (HTT.out.rd.setOther' w.heap.size 0 hGb _).setOther' w.heap.size 1 hGb _, ?_, HTT.out.sound, HTT.out.full⟩
  exact ((HM.out.2.1.trans HTT.out.only).setOther' w.heap.size 0 (Nat.le_refl _) hGb _).setOther' w.heap.size 1 (Nat.le_refl _) hGb _

end Go.Proofs.YtleffbpjjbiobaaGreatDoor

namespace Go.Proofs.YtleffbpjjbiobaaGreatDoor
open Go.RowKit
open M
set_option linter.unusedVariables false
set_option linter.unusedSimpArgs false

theorem full_at64 {w w' : World} {b off : Nat} {s : ByteArray} {a a' : Nat} {e1 : Int} {laid X r : List Bool} (T : Tk w w' b off s a 0 a' e1 laid) (ha : a ≤ 8 * s.size) (h : (rb s).drop a = X ++ r) (hl : laid.length ≤ X.length) :
    e1 = 0 ∧ ∃ r', X ++ r = laid ++ r' := by
  have h1 := congrArg List.length h
  rw [List.length_drop, rb_length, List.length_append] at h1
  have e : e1 = 0 := by
    by_cases h0 : laid.length = 0
    · exact T.full rfl (by rw [rb_length]; omega)
    · exact T.full rfl (by rw [rb_length]; omega)
  exact ⟨e, _, by rw [← h]; exact take_eq_drop' _ _ _ _ (T.sound e).2⟩

theorem xb_first64 (W K L N y : Nat) (h0 : y ≠ 0) : ∃ t, xb W K L N y = true :: (!decide (sut W K L N y)) :: t := by
  by_cases h : sut W K L N y
  · rw [xb_old _ _ _ _ _ h0 h]; exact ⟨_, by simp [h]; rfl⟩
  · rw [xb_new _ _ _ _ _ h0 h]; exact ⟨_, by simp [h]; rfl⟩

/-- The first bit is a nought. -/
theorem zero_done64 {w w' : World} {b off : Nat} {s : ByteArray} {a a' : Nat} {e1 : Int} {L N y : Nat} {r : List Bool} (T : Tk w w' b off s a 0 a' e1 [false]) (ha : a ≤ 8 * s.size) (h : (rb s).drop a = xb 64 6 L N y ++ r) : e1 = 0 ∧ y = 0 := by
  by_cases h0 : y = 0
  · subst h0
    exact ⟨(full_at64 T ha h (by simp [xb_0])).1, rfl⟩
  · obtain ⟨t, ht⟩ := xb_first64 64 6 L N y h0
    obtain ⟨h1, r', h2⟩ := full_at64 T ha h (by rw [ht]; simp)
    rw [ht] at h2
    simp at h2

/-- A 1, then v. -/
theorem second_done64 {w w' : World} {b off : Nat} {s : ByteArray} {a a' : Nat} {e1 : Int} {L N y : Nat} {v : Bool} {r : List Bool} (hr : (rb s).drop a = true :: r) (T : Tk w w' b off s a 0 a' e1 [true, v]) (ha : a ≤ 8 * s.size) {r2 : List Bool} (h : (rb s).drop a = xb 64 6 L N y ++ r2) :
    e1 = 0 ∧ y ≠ 0 ∧ (v = true ↔ ¬ sut 64 6 L N y) := by
  have h0 : y ≠ 0 := by
    rintro rfl
    rw [h, xb_0] at hr
    simp at hr
  obtain ⟨t, ht⟩ := xb_first64 64 6 L N y h0
  obtain ⟨h1, r', h2⟩ := full_at64 T ha h (by rw [ht]; simp)
  rw [ht] at h2
  simp only [List.cons_append, List.nil_append, List.cons.injEq, true_and] at h2
  refine ⟨h1, h0, ?_⟩
  rw [← h2.1]
  by_cases hs : sut 64 6 L N y <;> simp [hs]

/-- In the old window. -/
theorem old_done64 {w w' : World} {b off : Nat} {s : ByteArray} {a a' : Nat} {e1 : Int} {L N y v : Nat} {r : List Bool} (T : Tk w w' b off s a 0 a' e1 ([true, false] ++ bitsOf v N)) (ha : a ≤ 8 * s.size) (hy : y < 18446744073709551616) (hw : L + N ≤ 64) (hv : v < 2 ^ N)
    (h0 : y ≠ 0) (hs : sut 64 6 L N y) (h : (rb s).drop a = xb 64 6 L N y ++ r) : e1 = 0 ∧ v * 2 ^ (64 - L - N) = y := by
  have h' := h
  rw [xb_old _ _ _ _ _ h0 hs] at h'
  obtain ⟨h1, r', h2⟩ := full_at64 T ha h' (by simp)
  refine ⟨h1, ?_⟩
  simp only [List.cons_append, List.nil_append, List.cons.injEq, true_and] at h2
  have h3 := (pbits_inj _ _ _ _ _ (old_fits 64 6 L N y hy hw hs) hv h2).1
  rw [← h3]
  exact cut_back y _ h0 (lt64 (W := 64) hy (by omega)) hs.2.2.1

/-- A window of its own. -/
theorem new_done64 {w w' : World} {b off : Nat} {s : ByteArray} {a a' : Nat} {e1 : Int} {L N y l n : Nat} {r : List Bool} (T : Tk w w' b off s a 0 a' e1 ([true, true] ++ (bitsOf l 6 ++ bitsOf n 6))) (ha : a ≤ 8 * s.size) (hy : y < 18446744073709551616) (hl : l < 64) (hn : n < 64)
    (h0 : y ≠ 0) (hs : ¬ sut 64 6 L N y) (h : (rb s).drop a = xb 64 6 L N y ++ r) : e1 = 0 ∧ l = 64 - bitLen y ∧ n + 1 = wl y := by
  have h' := h
  rw [xb_new _ _ _ _ _ h0 hs] at h'
  have hy6 := lt64 (W := 64) hy (by omega)
  have q1 := bitLen_le y 64 hy
  have q2 := bitLen_pos y h0
  have q3 := wl_pos y h0 hy6
  have q4 : wl y ≤ 64 := by unfold wl; omega
  obtain ⟨h1, r', h2⟩ := full_at64 T ha h' (by simp; omega)
  refine ⟨h1, ?_⟩
  simp only [List.cons_append, List.nil_append, List.cons.injEq, true_and, List.append_assoc] at h2
  obtain ⟨h3, h4⟩ := pbits_inj _ _ 6 _ _ (by omega) (by omega) h2
  obtain ⟨h5, h6⟩ := pbits_inj _ _ 6 _ _ (by omega) (by omega) h4
  omega

theorem own_done64 {w w' : World} {b off : Nat} {s : ByteArray} {a a' : Nat} {e1 : Int} {L N y l n v m : Nat} {r : List Bool} (T : Tk w w' b off s a 0 a' e1 ([true, true] ++ (bitsOf l 6 ++ bitsOf n 6) ++ bitsOf v m)) (ha : a ≤ 8 * s.size) (hy : y < 18446744073709551616) (hv : v < 2 ^ m)
    (h0 : y ≠ 0) (hs : ¬ sut 64 6 L N y) (h : (rb s).drop a = xb 64 6 L N y ++ r) (el : l = 64 - bitLen y) (en : n + 1 = wl y) (em : m = n + 1) : e1 = 0 ∧ v * 2 ^ (64 - l - m) = y := by
  have h' := h
  have hy6 := lt64 (W := 64) hy (by omega)
  have q1 := bitLen_le y 64 hy
  have q2 := tz_lt y h0 hy6
  have q3 : wl y = bitLen y - tz y := rfl
  have em' : wl y = m := by omega
  rw [xb_new _ _ _ _ _ h0 hs, show 64 - bitLen y = l from el.symm, show wl y - 1 = n from by omega, em'] at h'
  obtain ⟨h1, r', h2⟩ := full_at64 T ha h' (by simp)
  refine ⟨h1, ?_⟩
  simp only [List.cons_append, List.nil_append, List.cons.injEq, true_and, List.append_assoc, List.append_cancel_left_eq] at h2
  have h3 := (pbits_inj _ _ _ _ _ (by rw [← em']; exact new_fits y h0 hy6) hv h2).1
  rw [← h3, show 64 - l - m = tz y from by omega]
  exact cut_back y _ h0 hy6 (Nat.le_refl _)

/-- What a value that was read tells: in the old window. -/
theorem old_back64 (L N v : Nat) (hw : L + N ≤ 64) (hv : v < 2 ^ N) : v * 2 ^ (64 - L - N) < 18446744073709551616 ∧ v * 2 ^ (64 - L - N) / 2 ^ (64 - L - N) = v := by
  refine ⟨?_, Nat.mul_div_cancel _ (Nat.two_pow_pos _)⟩
  have h1 : v * 2 ^ (64 - L - N) < 2 ^ N * 2 ^ (64 - L - N) := (Nat.mul_lt_mul_right (Nat.two_pow_pos _)).2 hv
  rw [← Nat.pow_add] at h1
  exact Nat.lt_of_lt_of_le h1 (Nat.le_trans (Nat.pow_le_pow_right (by omega) (show N + (64 - L - N) ≤ 64 by omega)) (by decide))

theorem put_win64 {w1 w3 : World} {b : Nat} {s : ByteArray} {a1 a2 : Nat} {e2 : Int} {l : List Bool} {H : Nat} {u u' v v' : Value} (T : Tk w1 w3 b 0 s a1 0 a2 e2 l) (hH : w1.heap.size ≤ H) (hHb : H ≠ b) (hs : H < w3.heap.size)
    (g0 : w3.cell? ⟨H, 0, none⟩ = some u) (g1 : w3.cell? ⟨H, 1, none⟩ = some u') (hf : ∀ i, w3.frozen? ⟨H, i, none⟩ = false) :
    Tk w1 ((w3.setCell ⟨H, 0, none⟩ v).setCell ⟨H, 1, none⟩ v') b 0 s a1 0 a2 e2 l ∧ H < ((w3.setCell ⟨H, 0, none⟩ v).setCell ⟨H, 1, none⟩ v').heap.size ∧
      ((w3.setCell ⟨H, 0, none⟩ v).setCell ⟨H, 1, none⟩ v').cell? ⟨H, 0, none⟩ = some v ∧ ((w3.setCell ⟨H, 0, none⟩ v).setCell ⟨H, 1, none⟩ v').cell? ⟨H, 1, none⟩ = some v' ∧
      ∀ i, ((w3.setCell ⟨H, 0, none⟩ v).setCell ⟨H, 1, none⟩ v').frozen? ⟨H, i, none⟩ = false := by
  obtain ⟨r0, r1⟩ := set_two (v := v) (v' := v') g0 g1
  refine ⟨⟨(T.rd.setOther' H 0 hHb _).setOther' H 1 hHb _, (T.only.setOther' H 0 hH hHb _).setOther' H 1 hH hHb _, T.sound, T.full⟩, by simp [World.setCell]; exact hs, r0, r1, fun i => by rw [frozen_setCell, frozen_setCell]; exact hf i⟩

theorem cell_setOther64 (w : World) (g i c j : Nat) (v : Value) (h : g ≠ c) : (w.setCell ⟨g, i, none⟩ v).cell? ⟨c, j, none⟩ = w.cell? ⟨c, j, none⟩ :=
  World.cell?_of_block (Below.heap_setCell _ _ _ _ (fun e => h e.symm))

theorem Tk.more64 {w w' w2 : World} {b off : Nat} {s : ByteArray} {a a' : Nat} {e0 e1 : Int} {laid : List Bool} (T : Tk w w' b off s a e0 a' e1 laid) (hB : Below w'.heap.size w' w2) : Tk w w2 b off s a e0 a' e1 laid := by
  have hb : b < w'.heap.size := block_lt_of_cell T.rd.text
  refine ⟨T.rd.below hB hb, T.only.trans ⟨hB.os, hB.tape, hB.output, hB.size, fun k hk _ => hB.block k hk, fun j _ => World.cell?_of_block (hB.block b hb), fun j => World.frozen?_of_block (w := w') (w' := w2) (a := ⟨b, j, none⟩) (hB.block b hb)⟩, T.sound, T.full⟩
theorem wrap_nat64 {x : Nat} (h : x < 18446744073709551616) : IntKind.u64.wrap (x : Int) = (x : Int) := by rw [IntKind.wrap_u64]; omega
theorem wrap_val64 {v n : Nat} (h : v < 2 ^ n) (hn : n ≤ 64) : IntKind.u64.wrap (v : Int) = (v : Int) := wrap_nat64 (Nat.lt_of_lt_of_le h (Nat.le_trans (Nat.pow_le_pow_right (by omega) hn) (by decide)))

/-- What take tells. -/
def TakeEnd64 (w : World) (b c : Nat) (s : ByteArray) (a : Nat) (e0 : Int) (p L N : Nat) (e : Ending) (w' : World) : Prop :=
  ∃ (ok : Bool) (x a' : Nat) (e1 : Int), e = .returned (.bool ok) ∧ Rd w' b 0 s a' e1 ∧ Two64 b c w w' ∧ x < 18446744073709551616 ∧
    (ok = true → Col64 w' c (p ^^^ x) (nxt 64 6 (L, N) x).1 (nxt 64 6 (L, N) x).2 ∧ (e1 = 0 → e0 = 0 ∧ (rb s).take a' = (rb s).take a ++ xb 64 6 L N x)) ∧
    (e0 = 0 → ∀ y r, y < 18446744073709551616 → (rb s).drop a = xb 64 6 L N y ++ r → ok = true ∧ x = y ∧ e1 = 0)

end Go.Proofs.YtleffbpjjbiobaaGreatDoor

/- The contract of a column's take (64 bits). -/
namespace Go.Proofs.YtleffbpjjbiobaaGreatDoor
open Go.RowKit
open M
set_option linter.unusedVariables false
set_option linter.unusedSimpArgs false

set_option maxRecDepth 100000 in
set_option maxHeartbeats 4000000 in
theorem take64_any (b c : Nat) (s : ByteArray) (a : Nat) (e0 : Int) (p L N : Nat) (w : World) (h : Rd w b 0 s a e0) (hC : Col64 w c p L N) (hbc : c ≠ b) (hw : L + N ≤ 64) (hp : p < 18446744073709551616)
    (hT : Tab64 w) (hTb : 1 ≠ b) (hTc : 1 ≠ c) : Calls Tryz.prog 106 #[.pointer (some ⟨c, 0, none⟩), .pointer (some ⟨b, 0, none⟩)] w (TakeEnd64 w b c s a e0 p L N) := by
  have ha := hide h.le
  have HC := hide hC
  have HT := hide hT
  have HL := hide hw
  have HP := hide hp
  clear hC hT hw hp
  go_enter Tryz.func106, Tryz.ntmps106
  go_wp2_with fail
  refine (tk_bit b 0 s a e0 w h).mono ?_
  rintro e w1 ⟨v1, a1, e1, rfl, T1, hv1⟩
  cases v1 with
  | false =>
    go_wp2_with fail
    go_ret
    refine ⟨true, 0, a1, e1, rfl, T1.rd, Two64.ofB T1.only, by omega, fun _ => ⟨?_, fun he => T1.sound he⟩, fun h0 y r hy hr => ?_⟩
    · rw [Nat.xor_zero]; exact HC.out.other T1.only hbc
    · subst h0
      obtain ⟨h1, h2⟩ := zero_done64 T1 ha.out hr
      exact ⟨rfl, h2.symm, h1⟩
  | true =>
    obtain rfl : e1 = 0 := hv1 rfl
    obtain rfl : e0 = 0 := (T1.sound rfl).1
    clear hv1 h
    have HC1 := hide (HC.out.other T1.only hbc)
    have c1 : w1.cell? ⟨c, 1, none⟩ = some (.int .i64 (L : Int)) := HC1.out.lead
    have c2 : w1.cell? ⟨c, 2, none⟩ = some (.int .i64 (N : Int)) := HC1.out.len
    have HT1 := hide T1
    clear T1
    have hb1 : Hid (b < w1.heap.size) := block_lt_of_cell HT1.out.rd.text
    have HR1 : Hid (Rd w1.drew b 0 s a1 0) := HT1.out.rd.below (w' := w1.drew) (B := w1.heap.size) ⟨rfl, rfl, rfl, Nat.le_refl _, fun _ _ => rfl⟩ hb1.out
    have HR2 : Hid (Rd (w1.drew.alloc (.cells #[.int .i64 0, .int .i64 0] 150)) b 0 s a1 0) := HR1.out.below (B := w1.drew.heap.size) ((Below.refl _ _).alloc (Nat.le_refl _) _) hb1.out
    go_upto_region 3 with fail
    go_cut [5, 6] from 13 (fun t5 t6 wc => ∃ (H : Nat) (v2 : Bool) (a2 : Nat) (e2 : Int), t5 = .pointer (some ⟨H, 0, none⟩) ∧ t6 = .bool v2 ∧ Hid (Tk w1 wc b 0 s a1 0 a2 e2 [v2] ∧ (v2 = true → e2 = 0) ∧ w1.heap.size ≤ H ∧ H < wc.heap.size ∧ wc.cell? ⟨H, 0, none⟩ = some (.int .i64 (L : Int)) ∧ wc.cell? ⟨H, 1, none⟩ = some (.int .i64 (N : Int)) ∧ (∀ i, wc.frozen? ⟨H, i, none⟩ = false)))
    case first =>
      refine wp_region_held_drew (S := fun w' => w'.cell? ⟨c, 1, none⟩ = some (.int .i64 (L : Int)) ∧ w'.cell? ⟨c, 2, none⟩ = some (.int .i64 (N : Int))) (by kernel_rfl) ⟨c1, c2⟩ (fun hHeld => ?_)
      refine wpAnyH_take (i := 0) (v := ?_) rfl (by kernel_rfl) (by kernel_rfl) (by kernel_rfl) (fun _ _ _ h => h) (Or.inl ⟨by rfl, ?_⟩) hHeld ?_
      rotate_left
      · (intro wq hSw; (try dsimp only at hSw); (try obtain ⟨s0, s1⟩ := hSw); (go_simp <;> with_reducible rfl))
      try simp only [Act.put, List.getElem_toArray, List.getElem_cons_zero, List.getElem_cons_succ, List.setIfInBounds_toArray, List.set_cons_zero, List.set_cons_succ]
      refine wpAnyH_take (i := 1) (v := ?_) rfl (by kernel_rfl) (by kernel_rfl) (by kernel_rfl) (fun _ _ _ h => h) (Or.inl ⟨by rfl, ?_⟩) hHeld ?_
      rotate_left
      · (intro wq hSw; (try dsimp only at hSw); (try obtain ⟨s0, s1⟩ := hSw); (go_simp <;> with_reducible rfl))
      try simp only [Act.put, List.getElem_toArray, List.getElem_cons_zero, List.getElem_cons_succ, List.setIfInBounds_toArray, List.set_cons_zero, List.set_cons_succ]
      refine wpAnyH_take (i := 2) (v := ?_) rfl (by kernel_rfl) (by kernel_rfl) (by kernel_rfl) (fun _ _ _ h => h) (Or.inl ⟨by rfl, ?_⟩) hHeld ?_
      rotate_left
      · (intro wq hSw; (try dsimp only at hSw); (try obtain ⟨s0, s1⟩ := hSw); (go_simp <;> with_reducible rfl))
      try simp only [Act.put, List.getElem_toArray, List.getElem_cons_zero, List.getElem_cons_succ, List.setIfInBounds_toArray, List.set_cons_zero, List.set_cons_succ]
      refine wpAnyH_take (i := 3) (v := ?_) rfl (by kernel_rfl) (by kernel_rfl) (by kernel_rfl) (fun _ _ _ h => h) (Or.inl ⟨by rfl, ?_⟩) hHeld ?_
      rotate_left
      · (intro wq hSw; (try dsimp only at hSw); (try obtain ⟨s0, s1⟩ := hSw); (go_simp <;> with_reducible rfl))
      try simp only [Act.put, List.getElem_toArray, List.getElem_cons_zero, List.getElem_cons_succ, List.setIfInBounds_toArray, List.set_cons_zero, List.set_cons_succ]
      refine wpAnyH_take (i := 4) (v := ?_) rfl (by kernel_rfl) (by kernel_rfl) (by kernel_rfl) (fun _ _ _ h => h) (Or.inl ⟨by rfl, ?_⟩) hHeld ?_
      rotate_left
      · (intro wq hSw; (try dsimp only at hSw); (try obtain ⟨s0, s1⟩ := hSw); (go_simp <;> with_reducible rfl))
      try simp only [Act.put, List.getElem_toArray, List.getElem_cons_zero, List.getElem_cons_succ, List.setIfInBounds_toArray, List.set_cons_zero, List.set_cons_succ]
      refine wpAnyH_ready (rs := [5, 6]) (by kernel_rfl) (by simp) ?_
      refine AllReadyH.cons rfl (fun K hK => ?_) (AllReadyH.cons rfl (fun K hK => ?_) AllReadyH.nil)
      · go_simp
        refine (tk_bit b 0 s a1 0 w1.drew HR1.out).mono ?_
        rintro e w2 ⟨v2, a2, e2, rfl, T2, hv2⟩
        have hce : c < w1.heap.size := HC1.out.lt
        have e1 : w2.cell? ⟨c, 1, none⟩ = some (.int .i64 (L : Int)) := by rw [World.cell?_of_block (T2.only.block c hce hbc)]; exact c1
        have e2' : w2.cell? ⟨c, 2, none⟩ = some (.int .i64 (N : Int)) := by rw [World.cell?_of_block (T2.only.block c hce hbc)]; exact c2
        go_wp2_with fail
        refine hK.out _ _ ⟨e1, e2'⟩ (fun hHeld => ?_)
        clear hK K
        try simp only [Act.put, List.getElem_toArray, List.getElem_cons_zero, List.getElem_cons_succ, List.setIfInBounds_toArray, List.set_cons_zero, List.set_cons_succ]
        refine wpAnyH_ready (rs := [6]) (by kernel_rfl) (by simp) ?_
        refine AllReadyH.cons rfl (fun K hK => ?_) AllReadyH.nil
        go_simp
        obtain ⟨H, hH⟩ : ∃ H, w2.heap.size = H := ⟨_, rfl⟩
        have hN := heap_alloc_new w2 (.cells #[.int .i64 0, .int .i64 0] 150)
        have B3 : Below w2.heap.size w2 (w2.alloc (.cells #[.int .i64 0, .int .i64 0] 150)) := (Below.refl _ _).alloc (Nat.le_refl _) _
        have hcs : c < w2.heap.size := Nat.lt_of_lt_of_le hce T2.only.size
        have x1 : (w2.alloc (.cells #[.int .i64 0, .int .i64 0] 150)).cell? ⟨c, 1, none⟩ = some (.int .i64 (L : Int)) := by rw [B3.cell (p := ⟨c, 1, none⟩) hcs]; exact e1
        have x2 : (w2.alloc (.cells #[.int .i64 0, .int .i64 0] 150)).cell? ⟨c, 2, none⟩ = some (.int .i64 (N : Int)) := by rw [B3.cell (p := ⟨c, 2, none⟩) hcs]; exact e2'
        have g0 : (w2.alloc (.cells #[.int .i64 0, .int .i64 0] 150)).cell? ⟨w2.heap.size, 0, none⟩ = some (.int .i64 0) := by rw [cell_of_row _ _ _ _ _ _ hN]; rfl
        have g1 : (w2.alloc (.cells #[.int .i64 0, .int .i64 0] 150)).cell? ⟨w2.heap.size, 1, none⟩ = some (.int .i64 0) := by rw [cell_of_row _ _ _ _ _ _ hN]; rfl
        have HTW : Hid (Tk w1 (w2.alloc (.cells #[.int .i64 0, .int .i64 0] 150)) b 0 s a1 0 a2 e2 [v2] ∧ w1.heap.size ≤ w2.heap.size ∧ w2.heap.size < (w2.alloc (.cells #[.int .i64 0, .int .i64 0] 150)).heap.size ∧ ∀ i, (w2.alloc (.cells #[.int .i64 0, .int .i64 0] 150)).frozen? ⟨w2.heap.size, i, none⟩ = false) :=
          ⟨⟨T2.rd.below B3 (Nat.lt_of_lt_of_le hb1.out T2.only.size), (((Only.refl b 0 3 w1).drew).trans T2.only).alloc (Nat.lt_of_lt_of_le hb1.out T2.only.size) _, T2.sound, T2.full⟩, T2.only.size, by simp, fun i => frozen_of_row _ _ _ _ _ hN⟩
        rw [hH] at g0 g1 HTW ⊢
        clear hN B3 T2
        generalize w2.alloc (.cells #[.int .i64 0, .int .i64 0] 150) = w3 at *
        have f0 := HTW.out.2.2.2 0
        have f1 := HTW.out.2.2.2 1
        refine hK.out _ _ ⟨x1, x2⟩ (fun hHeld => ?_)
        clear hK K hH
        have hH2 := HTW.out.2.1
        try simp only [Act.put, List.getElem_toArray, List.getElem_cons_zero, List.getElem_cons_succ, List.setIfInBounds_toArray, List.set_cons_zero, List.set_cons_succ]
        have hHb : H ≠ b := by have := hb1.out; omega
        have hHc : H ≠ c := by have := HC1.out.lt; omega
        have HPW := hide (put_win64 (v := .int .i64 (L : Int)) (v' := .int .i64 (N : Int)) HTW.out.1 HTW.out.2.1 hHb HTW.out.2.2.1 g0 g1 HTW.out.2.2.2)
        have k1 : ((w3.setCell ⟨H, 0, none⟩ (.int .i64 (L : Int))).setCell ⟨H, 1, none⟩ (.int .i64 (N : Int))).cell? ⟨c, 1, none⟩ = some (.int .i64 (L : Int)) := by rw [cell_setOther64 _ _ _ _ _ _ hHc, cell_setOther64 _ _ _ _ _ _ hHc]; exact x1
        have k2 : ((w3.setCell ⟨H, 0, none⟩ (.int .i64 (L : Int))).setCell ⟨H, 1, none⟩ (.int .i64 (N : Int))).cell? ⟨c, 2, none⟩ = some (.int .i64 (N : Int)) := by rw [cell_setOther64 _ _ _ _ _ _ hHc, cell_setOther64 _ _ _ _ _ _ hHc]; exact x2
        refine wpAnyH_ready (rs := [7]) (by kernel_rfl) (by simp) ?_
        refine AllReadyH.cons rfl (fun K hK => ?_) AllReadyH.nil
        go_simp
        refine hK.out _ _ ⟨k1, k2⟩ (fun hHeld => ?_)
        clear hK K
        try simp only [Act.put, List.getElem_toArray, List.getElem_cons_zero, List.getElem_cons_succ, List.setIfInBounds_toArray, List.set_cons_zero, List.set_cons_succ]
        refine wpAnyH_take (i := 8) (v := ?_) rfl (by kernel_rfl) (by kernel_rfl) (by kernel_rfl) (fun _ _ _ h => h) (Or.inl ⟨by rfl, ?_⟩) hHeld ?_
        rotate_left
        · (intro wq hSw; (try dsimp only at hSw); (try obtain ⟨s0, s1⟩ := hSw); (go_simp <;> with_reducible rfl))
        try simp only [Act.put, List.getElem_toArray, List.getElem_cons_zero, List.getElem_cons_succ, List.setIfInBounds_toArray, List.set_cons_zero, List.set_cons_succ]
        refine wpAnyH_done (by kernel_rfl) ?_ _
        go_wp2_with fail
        go_meet
        case rel => exact ⟨H, v2, a2, e2, rfl, rfl, HPW.out.1, hv2, HTW.out.2.1, HPW.out.2⟩
      · go_simp
        obtain ⟨H, hH⟩ : ∃ H, w1.heap.size = H := ⟨_, rfl⟩
        have hN : (w1.alloc (.cells #[.int .i64 0, .int .i64 0] 150)).drew.heap[w1.heap.size]? = some (.cells #[.int .i64 0, .int .i64 0] 150 (0, 0)) := heap_alloc_new w1 (.cells #[.int .i64 0, .int .i64 0] 150)
        have B3 : Below w1.heap.size w1 (w1.alloc (.cells #[.int .i64 0, .int .i64 0] 150)).drew := ((Below.refl _ _).alloc (Nat.le_refl _) _).drew
        have hcs : c < w1.heap.size := HC1.out.lt
        have y1 : (w1.alloc (.cells #[.int .i64 0, .int .i64 0] 150)).drew.cell? ⟨c, 1, none⟩ = some (.int .i64 (L : Int)) := by rw [B3.cell (p := ⟨c, 1, none⟩) hcs]; exact c1
        have y2 : (w1.alloc (.cells #[.int .i64 0, .int .i64 0] 150)).drew.cell? ⟨c, 2, none⟩ = some (.int .i64 (N : Int)) := by rw [B3.cell (p := ⟨c, 2, none⟩) hcs]; exact c2
        have R3 : Rd (w1.alloc (.cells #[.int .i64 0, .int .i64 0] 150)).drew b 0 s a1 0 := HT1.out.rd.below B3 hb1.out
        have O3 : Only b 0 3 w1 (w1.alloc (.cells #[.int .i64 0, .int .i64 0] 150)).drew := ((Only.refl b 0 3 w1).alloc hb1.out _).drew
        have hs3 : w1.heap.size < (w1.alloc (.cells #[.int .i64 0, .int .i64 0] 150)).drew.heap.size := size_lt_of_row hN
        rw [hH] at hN hs3 ⊢
        generalize (w1.alloc (.cells #[.int .i64 0, .int .i64 0] 150)).drew = wa at *
        refine hK.out _ _ ⟨y1, y2⟩ (fun hHeld => ?_)
        clear hK K
        try simp only [Act.put, List.getElem_toArray, List.getElem_cons_zero, List.getElem_cons_succ, List.setIfInBounds_toArray, List.set_cons_zero, List.set_cons_succ]
        refine wpAnyH_ready (rs := [5]) (by kernel_rfl) (by simp) ?_
        refine AllReadyH.cons rfl (fun K hK => ?_) AllReadyH.nil
        go_simp
        refine (tk_bit b 0 s a1 0 wa R3).mono ?_
        rintro e w3 ⟨v2, a2, e2, rfl, T2, hv2⟩
        have hca : c < wa.heap.size := Nat.lt_of_lt_of_le hcs O3.size
        have hHb0 : H ≠ b := by have := hb1.out; omega
        have x1 : w3.cell? ⟨c, 1, none⟩ = some (.int .i64 (L : Int)) := by rw [World.cell?_of_block (T2.only.block c hca hbc)]; exact y1
        have x2 : w3.cell? ⟨c, 2, none⟩ = some (.int .i64 (N : Int)) := by rw [World.cell?_of_block (T2.only.block c hca hbc)]; exact y2
        have eb := T2.only.block H hs3 hHb0
        have g0 : w3.cell? ⟨H, 0, none⟩ = some (.int .i64 0) := by rw [World.cell?_of_block eb, cell_of_row _ _ _ _ _ _ hN]; rfl
        have g1 : w3.cell? ⟨H, 1, none⟩ = some (.int .i64 0) := by rw [World.cell?_of_block eb, cell_of_row _ _ _ _ _ _ hN]; rfl
        have HTW : Hid (Tk w1 w3 b 0 s a1 0 a2 e2 [v2] ∧ w1.heap.size ≤ H ∧ H < w3.heap.size ∧ ∀ i, w3.frozen? ⟨H, i, none⟩ = false) :=
          ⟨⟨T2.rd, O3.trans T2.only, T2.sound, T2.full⟩, Nat.le_of_eq hH, Nat.lt_of_lt_of_le hs3 T2.only.size, fun i => by rw [World.frozen?_of_block (w := wa) (w' := w3) (a := ⟨H, i, none⟩) eb]; exact frozen_of_row _ _ _ _ _ hN⟩
        have f0 := HTW.out.2.2.2 0
        have f1 := HTW.out.2.2.2 1
        clear T2 hN eb R3 O3 B3
        go_wp2_with fail
        refine hK.out _ _ ⟨x1, x2⟩ (fun hHeld => ?_)
        clear hK K hs3 hHb0 hH
        have hH2 := HTW.out.2.1
        try simp only [Act.put, List.getElem_toArray, List.getElem_cons_zero, List.getElem_cons_succ, List.setIfInBounds_toArray, List.set_cons_zero, List.set_cons_succ]
        have hHb : H ≠ b := by have := hb1.out; omega
        have hHc : H ≠ c := by have := HC1.out.lt; omega
        have HPW := hide (put_win64 (v := .int .i64 (L : Int)) (v' := .int .i64 (N : Int)) HTW.out.1 HTW.out.2.1 hHb HTW.out.2.2.1 g0 g1 HTW.out.2.2.2)
        have k1 : ((w3.setCell ⟨H, 0, none⟩ (.int .i64 (L : Int))).setCell ⟨H, 1, none⟩ (.int .i64 (N : Int))).cell? ⟨c, 1, none⟩ = some (.int .i64 (L : Int)) := by rw [cell_setOther64 _ _ _ _ _ _ hHc, cell_setOther64 _ _ _ _ _ _ hHc]; exact x1
        have k2 : ((w3.setCell ⟨H, 0, none⟩ (.int .i64 (L : Int))).setCell ⟨H, 1, none⟩ (.int .i64 (N : Int))).cell? ⟨c, 2, none⟩ = some (.int .i64 (N : Int)) := by rw [cell_setOther64 _ _ _ _ _ _ hHc, cell_setOther64 _ _ _ _ _ _ hHc]; exact x2
        refine wpAnyH_ready (rs := [7]) (by kernel_rfl) (by simp) ?_
        refine AllReadyH.cons rfl (fun K hK => ?_) AllReadyH.nil
        go_simp
        refine hK.out _ _ ⟨k1, k2⟩ (fun hHeld => ?_)
        clear hK K
        try simp only [Act.put, List.getElem_toArray, List.getElem_cons_zero, List.getElem_cons_succ, List.setIfInBounds_toArray, List.set_cons_zero, List.set_cons_succ]
        refine wpAnyH_take (i := 8) (v := ?_) rfl (by kernel_rfl) (by kernel_rfl) (by kernel_rfl) (fun _ _ _ h => h) (Or.inl ⟨by rfl, ?_⟩) hHeld ?_
        rotate_left
        · (intro wq hSw; (try dsimp only at hSw); (try obtain ⟨s0, s1⟩ := hSw); (go_simp <;> with_reducible rfl))
        try simp only [Act.put, List.getElem_toArray, List.getElem_cons_zero, List.getElem_cons_succ, List.setIfInBounds_toArray, List.set_cons_zero, List.set_cons_succ]
        refine wpAnyH_done (by kernel_rfl) ?_ _
        go_wp2_with fail
        go_meet
        case rel => exact ⟨H, v2, a2, e2, rfl, rfl, HPW.out.1, hv2, HTW.out.2.1, HPW.out.2⟩
    case rest =>
      obtain ⟨H, v2, a2, e2, rfl, rfl, HI⟩ := hcut
      have hcH : c < w1.heap.size := HC1.out.lt
      have HH : Hid (H < wc.heap.size ∧ H ≠ b ∧ H ≠ c) := ⟨HI.out.2.2.2.1, by have := HI.out.2.2.1; have := hb1.out; omega, by have := HI.out.2.2.1; omega⟩
      have T12 := HT1.out.trans ha.out HI.out.1
      have d0 : wc.cell? ⟨H, 0, none⟩ = some (.int .i64 (L : Int)) := HI.out.2.2.2.2.1
      have d1 : wc.cell? ⟨H, 1, none⟩ = some (.int .i64 (N : Int)) := HI.out.2.2.2.2.2.1
      have HFZ := hide HI.out.2.2.2.2.2.2
      have HV2 := hide HI.out.2.1
      have HR0 : Hid (∃ r, (rb s).drop a = true :: r) := ⟨_, take_eq_drop' _ _ _ _ (HT1.out.sound rfl).2⟩
      have HHw : Hid (w.heap.size ≤ H) := Nat.le_trans HT1.out.only.size HI.out.2.2.1
      clear HI hcH c1 c2 HR1 HR2 HC1 HT1 hb1
      cases v2 with
      | false =>
        have HTv : Hid (Tk w wc b 0 s a 0 a2 e2 ([true] ++ [false])) := T12
        have HT12 := hide T12
        clear T12
        by_cases hN0 : N = 0
        · subst hN0
          go_wp2_with fail
          refine (stands64_any L 0 wc HL.out).mono ?_
          rintro e w4 ⟨rfl, B4⟩
          have HB4 := hide B4
          clear B4
          go_wp2_with fail
          go_ret
          have T4 := HTv.out.more64 HB4.out
          refine ⟨false, 0, a2, e2, rfl, T4.rd, Two64.ofB T4.only, by omega, fun h => (by cases h), fun _ y r hy hr => ?_⟩
          exfalso
          obtain ⟨r1, hr1⟩ := HR0.out
          obtain ⟨h1, h2, h3⟩ := second_done64 hr1 HT12.out ha.out hr
          have hs : sut 64 6 L 0 y := Classical.not_not.1 (fun hn => by have := h3.2 hn; cases this)
          exact absurd hs.1 (by omega)
        have HWn : Hid (L + N ≤ 64 ∧ 0 < N) := ⟨HL.out, by omega⟩
        have HK : Hid (∀ y r, y < 18446744073709551616 → (rb s).drop a = xb 64 6 L N y ++ r → y ≠ 0 ∧ sut 64 6 L N y ∧ ∀ (v a5 : Nat) (e5 : Int) (w6 : World), v < 2 ^ N → Tk w w6 b 0 s a 0 a5 e5 ([true] ++ [false] ++ bitsOf v N) → e5 = 0 ∧ v * 2 ^ (64 - L - N) = y) := fun y r hy hr => by
          obtain ⟨r1, hr1⟩ := HR0.out
          obtain ⟨h1, h2, h3⟩ := second_done64 hr1 HT12.out ha.out hr
          have hs : sut 64 6 L N y := Classical.not_not.1 (fun hn => by have := h3.2 hn; cases this)
          exact ⟨h2, hs, fun v a5 e5 w6 hv T => old_done64 T ha.out hy HL.out hv h2 hs hr⟩
        obtain ⟨wv, hwv⟩ : ∃ wv, wv = wc := ⟨_, rfl⟩
        obtain ⟨aq, haq⟩ : ∃ aq, aq = a2 := ⟨_, rfl⟩
        obtain ⟨eq, heq⟩ : ∃ eq, eq = e2 := ⟨_, rfl⟩
        rw [← hwv, ← haq, ← heq] at HTv
        rw [← hwv] at d0 d1 HH ⊢
        clear hwv
        obtain ⟨hHs, hHb, hHc⟩ : H < wv.heap.size ∧ H ≠ b ∧ H ≠ c := HH.out
        have HSt : Hid (∀ w, Calls Tryz.prog 141 #[.agg #[.int .i64 (L : Int), .int .i64 (N : Int)]] w fun e w' => e = .returned (.bool true) ∧ Below w.heap.size w w') := fun w => by
          have := stands64_any L N w HWn.out.1
          rw [show decide (0 < N) = true from decide_eq_true HWn.out.2] at this
          exact this
        go_wp2_with fail
        refine (HSt.out _).mono ?_
        rintro e w4 ⟨rfl, B4⟩
        have T4 : Tk w w4 b 0 s a 0 aq eq ([true] ++ [false]) := HTv.out.more64 B4
        have d0 : w4.cell? ⟨H, 0, none⟩ = some (.int .i64 (L : Int)) := by rw [B4.cell (p := ⟨H, 0, none⟩) hHs]; exact d0
        have d1 : w4.cell? ⟨H, 1, none⟩ = some (.int .i64 (N : Int)) := by rw [B4.cell (p := ⟨H, 1, none⟩) hHs]; exact d1
        have hHs : H < w4.heap.size := Nat.lt_of_lt_of_le hHs B4.size
        have HT4 := hide T4
        clear B4 T4 HTv HSt
        go_wp2_with fail
        obtain ⟨sb, hsb⟩ : ∃ sb, bh64 L N = sb := ⟨_, rfl⟩
        have sbW : sb ≤ 64 := by rw [← hsb]; unfold bh64; omega
        have HBH : Hid (∀ w, Calls Tryz.prog 142 #[.agg #[.int .i64 (L : Int), .int .i64 (N : Int)]] w fun e w' => e = .returned (.int .i64 (sb : Int)) ∧ Below w.heap.size w w') := fun w => by rw [← hsb]; exact behindN64_any L N w HWn.out.1
        have HSB : Hid (sb = 64 - L - N) := by rw [← hsb]; rfl
        have hN : N ≤ 64 := by have := HWn.out.1; omega
        clear hsb
        have HR4 : Hid (Rd w4.drew b 0 s aq eq) := HT4.out.rd.below (w' := w4.drew) (B := w4.heap.size) ⟨rfl, rfl, rfl, Nat.le_refl _, fun _ _ => rfl⟩ (block_lt_of_cell HT4.out.rd.text)
        go_region_held3 (fun w' => w'.cell? ⟨H, 0, none⟩ = some (.int .i64 (L : Int)) ∧ w'.cell? ⟨H, 1, none⟩ = some (.int .i64 (N : Int))) (first | exact ⟨k0, k1⟩ | exact ⟨d0, d1⟩)
          (first | (go_at_call 142; go_must (refine (HBH.out _).mono ?_); rintro _ w6 ⟨rfl, B6⟩; (have k0 : w6.cell? ⟨H, 0, none⟩ = some (.int .i64 (L : Int)) := by rw [B6.cell (p := ⟨H, 0, none⟩) hH5.out]; exact k0); (have k1 : w6.cell? ⟨H, 1, none⟩ = some (.int .i64 (N : Int)) := by rw [B6.cell (p := ⟨H, 1, none⟩) hH5.out]; exact k1)) | (go_at_call 69; go_must (refine (tk_bits b 0 s aq N eq _ HR4.out hN).mono ?_); rintro _ w5 ⟨v, a5, e5, rfl, hv, T5⟩; (have k0 : w5.cell? ⟨H, 0, none⟩ = some (.int .i64 (L : Int)) := by rw [World.cell?_of_block (T5.only.block H hHs hHb)]; exact d0); (have k1 : w5.cell? ⟨H, 1, none⟩ = some (.int .i64 (N : Int)) := by rw [World.cell?_of_block (T5.only.block H hHs hHb)]; exact d1); (have hH5 : Hid (H < w5.heap.size) := Nat.lt_of_lt_of_le hHs T5.only.size); (have HV := hide hv); (clear hv); (have v1 : IntKind.u64.wrap (v : Int) = (v : Int) := wrap_val64 HV.out (by have := HWn.out.1; omega)); (obtain ⟨x, hx⟩ : ∃ x : Nat, v * 2 ^ sb = x := ⟨_, rfl⟩); (have hxx : (v : Int) * 2 ^ sb = (x : Int) := by rw [← hx]; simp); (have hxM : x < 18446744073709551616 := by rw [← hx, HSB.out]; exact (old_back64 L N v HWn.out.1 HV.out).1); (have v2 : IntKind.u64.wrap (x : Int) = (x : Int) := wrap_nat64 hxM); (have HXM := hide hxM); (have HX := hide hx); clear hx hxM))
        have HT6 : Hid (Tk w w6 b 0 s a 0 a5 e5 ([true] ++ [false] ++ bitsOf v N)) := ((HT4.out.more64 (w2 := w4.drew) ⟨rfl, rfl, rfl, Nat.le_refl _, fun _ _ => rfl⟩).trans ha.out T5).more64 B6
        have hH6 : H < w6.heap.size := Nat.lt_of_lt_of_le hH5.out B6.size
        have HC6 : Hid (Col64 w6 c p L N) := HC.out.other HT6.out.only hbc
        have HB6 : Hid (Tab64 w6) := (Two64.ofB (c := c) HT6.out.only).tab HT.out hTb hTc
        clear T5 B6 HT4 HR4 HBH hH5 d0 d1
        by_cases hx0 : x = 0
        · subst hx0
          go_wp2_with fail
          go_ret
          refine ⟨false, 0, a5, e5, rfl, HT6.out.rd, Two64.ofB HT6.out.only, by omega, fun h => (by cases h), fun _ y r hy hr => ?_⟩
          exfalso
          obtain ⟨q1, q2, q3⟩ := HK.out y r hy hr
          have q4 := q3 v a5 e5 w6 HV.out HT6.out
          have q5 := HX.out
          rw [HSB.out] at q5
          exact q1 (q4.2.symm.trans q5)
        have x2 : ((x : Int) == 0) = false := by simp; omega
        have HX0 := hide hx0
        clear hx0
        go_wp2_with fail
        refine (pick64_any c p L N x w6 HC6.out HL.out HXM.out HX0.out HB6.out).mono ?_
        rintro e w7 ⟨l', n', own', rfl, B7, hP⟩
        have HPk := hide hP
        clear hP
        have hN8 := heap_alloc_new w7 (.cells #[.int .i64 (l' : Int), .int .i64 (n' : Int)] 150)
        have B8 : Below w6.heap.size w6 (w7.alloc (.cells #[.int .i64 (l' : Int), .int .i64 (n' : Int)] 150)) := B7.alloc B7.size _
        have HT8 : Hid (Tk w (w7.alloc (.cells #[.int .i64 (l' : Int), .int .i64 (n' : Int)] 150)) b 0 s a 0 a5 e5 ([true] ++ [false] ++ bitsOf v N) ∧ Col64 (w7.alloc (.cells #[.int .i64 (l' : Int), .int .i64 (n' : Int)] 150)) c p L N) := ⟨HT6.out.more64 B8, HC6.out.below B8 HC6.out.lt⟩
        have k0 : (w7.alloc (.cells #[.int .i64 (l' : Int), .int .i64 (n' : Int)] 150)).cell? ⟨H, 0, none⟩ = some (.int .i64 (L : Int)) := by rw [B8.cell (p := ⟨H, 0, none⟩) hH6]; exact k0
        have k1 : (w7.alloc (.cells #[.int .i64 (l' : Int), .int .i64 (n' : Int)] 150)).cell? ⟨H, 1, none⟩ = some (.int .i64 (N : Int)) := by rw [B8.cell (p := ⟨H, 1, none⟩) hH6]; exact k1
        have HK8 : Hid ((w7.alloc (.cells #[.int .i64 (l' : Int), .int .i64 (n' : Int)] 150)).cell? ⟨w7.heap.size, 0, none⟩ = some (.int .i64 (l' : Int)) ∧ (w7.alloc (.cells #[.int .i64 (l' : Int), .int .i64 (n' : Int)] 150)).cell? ⟨w7.heap.size, 1, none⟩ = some (.int .i64 (n' : Int))) := ⟨by rw [cell_of_row _ _ _ _ _ _ hN8]; rfl, by rw [cell_of_row _ _ _ _ _ _ hN8]; rfl⟩
        clear hN8 B8 HT6 HC6 HB6 hH6
        go_upto_region 12 with fail
        generalize w7.alloc (.cells #[.int .i64 (l' : Int), .int .i64 (n' : Int)] 150) = w8 at *
        obtain ⟨m0, m1⟩ := HK8.out
        have HNG : Hid (¬ (L = l' ∧ N = n' ∧ own' = false) → ∀ y r, y < 18446744073709551616 → (rb s).drop a = xb 64 6 L N y ++ r → False) := fun hne y r hy hr => by
          obtain ⟨q1, q2, q3⟩ := HK.out y r hy hr
          have q4 := q3 v a5 e5 _ HV.out HT8.out.1
          have q5 : x = y := by rw [← HX.out, HSB.out]; exact q4.2
          subst q5
          exact hne (HPk.out.elim (fun h => ⟨h.2.2.1.symm, h.2.2.2.symm, h.1⟩) (fun h => absurd q2 h.2.1))
        have HBAD : Hid (¬ (L = l' ∧ N = n' ∧ own' = false) → TakeEnd64 w b c s a 0 p L N (.returned (.bool false)) w8) := fun hne =>
          ⟨false, 0, a5, e5, rfl, HT8.out.1.rd, Two64.ofB HT8.out.1.only, by omega, fun h => (by cases h), fun _ y r hy hr => (HNG.out hne y r hy hr).elim⟩
        by_cases hE1 : L = l'
        · by_cases hE2 : N = n'
          · by_cases hE3 : own' = false
            · have c0 := HT8.out.2.ahead
              have c1 := HT8.out.2.lead
              have c2 := HT8.out.2.len
              have f0 := HT8.out.2.fz 0
              have f1 := HT8.out.2.fz 1
              have f2 := HT8.out.2.fz 2
              subst hE1
              subst hE2
              subst hE3
              obtain ⟨q, hq⟩ : ∃ q : Nat, q = p ^^^ x := ⟨_, rfl⟩
              have q1 : bits BinOp.xor IntKind.u64 (p : Int) (x : Int) = (q : Int) := by rw [hq]; exact u64_xor_nat p x HP.out HXM.out
              have HQ := hide hq
              clear hq
              go_wp2_with fail
              go_ret
              have O9 : Only c 0 3 w8 (((w8.setCell ⟨c, 0, none⟩ (.int .u64 (q : Int))).setCell ⟨c, 1, none⟩ (.int .i64 (L : Int))).setCell ⟨c, 2, none⟩ (.int .i64 (N : Int))) := (((Only.refl c 0 3 w8).setCell 0 (by omega) (by omega) _).setCell 1 (by omega) (by omega) _).setCell 2 (by omega) (by omega) _
              have hbc' : b ≠ c := fun h => hbc h.symm
              obtain ⟨z1, z2⟩ : nxt 64 6 (L, N) x = (L, N) ∧ xb 64 6 L N x = [true] ++ [false] ++ bitsOf v N := by
                rcases HPk.out with ⟨_, h1, _⟩ | ⟨h, _⟩
                · refine ⟨by unfold nxt; rw [if_pos (.inr h1)], ?_⟩
                  rw [xb_old _ _ _ _ _ HX0.out h1, ← HX.out, HSB.out, (old_back64 L N v HWn.out.1 HV.out).2]; rfl
                · cases h
              refine ⟨true, x, a5, e5, rfl, HT8.out.1.rd.other O9 hbc', (Two64.ofB HT8.out.1.only).trans (Two64.ofC O9), HXM.out, fun _ => ⟨?_, fun he => ?_⟩, fun _ y r hy hr => ?_⟩
              · rw [z1, ← HQ.out]; exact (HT8.out.2.setAhead q).setOld L N
              · rw [z2]; exact HT8.out.1.sound he
              · obtain ⟨q1, q2, q3⟩ := HK.out y r hy hr
                have q4 := q3 v a5 e5 _ HV.out HT8.out.1
                exact ⟨rfl, by rw [← HX.out, HSB.out]; exact q4.2, q4.1⟩
            · obtain rfl : own' = true := by cases own' <;> simp at hE3 ⊢
              subst hE1
              subst hE2
              go_wp2_with fail
              go_ret
              exact HBAD.out (fun h => hE3 h.2.2)
          · have b2 : ((N : Int) == (n' : Int)) = false := by simp; omega
            subst hE1
            go_wp2_with fail
            go_ret
            exact HBAD.out (fun h => hE2 h.2.1)
        · have b1 : ((L : Int) == (l' : Int)) = false := by simp; omega
          go_wp2_with fail
          go_ret
          exact HBAD.out (fun h => hE1 h.1)
      | true =>
        obtain rfl : e2 = 0 := HV2.out rfl
        have HT12 := hide T12
        have f0 := HFZ.out 0
        have f1 := HFZ.out 1
        clear T12
        go_wp2_with fail
        refine (takeWindow64_any b s a2 0 wc HT12.out.rd).mono ?_
        rintro e w3 ⟨l, n, NN, a3, e3, rfl, hN, hl, hn, T3⟩
        obtain ⟨hHs, hHb, hHc⟩ : H < wc.heap.size ∧ H ≠ b ∧ H ≠ c := HH.out
        have eb := T3.only.block H hHs hHb
        have d0 : w3.cell? ⟨H, 0, none⟩ = some (.int .i64 (L : Int)) := by rw [World.cell?_of_block eb]; exact d0
        have d1 : w3.cell? ⟨H, 1, none⟩ = some (.int .i64 (N : Int)) := by rw [World.cell?_of_block eb]; exact d1
        have hfz : ∀ i, w3.frozen? ⟨H, i, none⟩ = false := fun i => by rw [World.frozen?_of_block (w := wc) (w' := w3) (a := ⟨H, i, none⟩) eb]; exact HFZ.out i
        have f0 := hfz 0
        have f1 := hfz 1
        have HPW := hide (put_win64 (v := .int .i64 (l : Int)) (v' := .int .i64 (NN : Int)) (HT12.out.trans ha.out T3) HHw.out hHb (Nat.lt_of_lt_of_le hHs T3.only.size) d0 d1 hfz)
        have HLN := hide (And.intro hN (And.intro hl hn))
        clear T3 eb hfz hN hl hn HH HFZ
        go_upto_region 6 with fail
        generalize (w3.setCell ⟨H, 0, none⟩ (.int .i64 (l : Int))).setCell ⟨H, 1, none⟩ (.int .i64 (NN : Int)) = wv at *
        clear d0 d1 f0 f1 hHs
        obtain ⟨d0, d1⟩ : wv.cell? ⟨H, 0, none⟩ = some (.int .i64 (l : Int)) ∧ wv.cell? ⟨H, 1, none⟩ = some (.int .i64 (NN : Int)) := ⟨HPW.out.2.2.1, HPW.out.2.2.2.1⟩
        have HH : Hid (H < wv.heap.size ∧ H ≠ b ∧ H ≠ c) := ⟨HPW.out.2.1, hHb, hHc⟩
        have HTv : Hid (Tk w wv b 0 s a 0 a3 e3 ([true, true] ++ (bitsOf l 6 ++ bitsOf n 6))) := HPW.out.1
        have HTv0 := hide HTv.out
        clear HPW hHb hHc
        by_cases hst : 64 < l + NN
        · go_wp2_with fail
          refine (stands64_bad l NN wv (by have := HLN.out; omega) (by have := HLN.out; omega) hst (by have := HLN.out; omega)).mono ?_
          rintro e w4 ⟨rfl, B4⟩
          have HB4 := hide B4
          have HST := hide hst
          clear B4 hst
          go_wp2_with fail
          go_ret
          have T4 := HTv.out.more64 HB4.out
          refine ⟨false, 0, a3, e3, rfl, T4.rd, Two64.ofB T4.only, by omega, fun h => (by cases h), fun _ y r hy hr => ?_⟩
          exfalso
          obtain ⟨r1, hr1⟩ := HR0.out
          obtain ⟨h1, h2, h3⟩ := second_done64 hr1 HT12.out ha.out hr
          have hs : ¬ sut 64 6 L N y := h3.1 rfl
          obtain ⟨h4, h5, h6⟩ := new_done64 HTv0.out ha.out hy HLN.out.2.1 HLN.out.2.2 h2 hs hr
          have q1 := bitLen_le y 64 hy
          have q2 : wl y = bitLen y - tz y := rfl
          have q3 := HLN.out.1
          have q4 := HST.out
          omega
        have HWn : Hid (l + NN ≤ 64 ∧ 0 < NN) := ⟨by omega, by have := HLN.out.1; omega⟩
        have HK : Hid (∀ y r, y < 18446744073709551616 → (rb s).drop a = xb 64 6 L N y ++ r → y ≠ 0 ∧ (¬ sut 64 6 L N y ∧ l = 64 - bitLen y ∧ NN = wl y) ∧ ∀ (v a5 : Nat) (e5 : Int) (w6 : World), v < 2 ^ NN → Tk w w6 b 0 s a 0 a5 e5 ([true, true] ++ (bitsOf l 6 ++ bitsOf n 6) ++ bitsOf v NN) → e5 = 0 ∧ v * 2 ^ (64 - l - NN) = y) := fun y r hy hr => by
          obtain ⟨r1, hr1⟩ := HR0.out
          obtain ⟨h1, h2, h3⟩ := second_done64 hr1 HT12.out ha.out hr
          have hs : ¬ sut 64 6 L N y := h3.1 rfl
          obtain ⟨h4, h5, h6⟩ := new_done64 HTv0.out ha.out hy HLN.out.2.1 HLN.out.2.2 h2 hs hr
          exact ⟨h2, ⟨hs, h5, HLN.out.1.symm.trans h6⟩, fun v a5 e5 w6 hv T => own_done64 T ha.out hy hv h2 hs hr h5 h6 HLN.out.1.symm⟩
        obtain ⟨aq, haq⟩ : ∃ aq, aq = a3 := ⟨_, rfl⟩
        obtain ⟨eq, heq⟩ : ∃ eq, eq = e3 := ⟨_, rfl⟩
        rw [← haq, ← heq] at HTv
        clear hst
        obtain ⟨hHs, hHb, hHc⟩ : H < wv.heap.size ∧ H ≠ b ∧ H ≠ c := HH.out
        have HSt : Hid (∀ w, Calls Tryz.prog 141 #[.agg #[.int .i64 (l : Int), .int .i64 (NN : Int)]] w fun e w' => e = .returned (.bool true) ∧ Below w.heap.size w w') := fun w => by
          have := stands64_any l NN w HWn.out.1
          rw [show decide (0 < NN) = true from decide_eq_true HWn.out.2] at this
          exact this
        go_wp2_with fail
        refine (HSt.out _).mono ?_
        rintro e w4 ⟨rfl, B4⟩
        have T4 : Tk w w4 b 0 s a 0 aq eq ([true, true] ++ (bitsOf l 6 ++ bitsOf n 6)) := HTv.out.more64 B4
        have d0 : w4.cell? ⟨H, 0, none⟩ = some (.int .i64 (l : Int)) := by rw [B4.cell (p := ⟨H, 0, none⟩) hHs]; exact d0
        have d1 : w4.cell? ⟨H, 1, none⟩ = some (.int .i64 (NN : Int)) := by rw [B4.cell (p := ⟨H, 1, none⟩) hHs]; exact d1
        have hHs : H < w4.heap.size := Nat.lt_of_lt_of_le hHs B4.size
        have HT4 := hide T4
        clear B4 T4 HTv HSt
        go_wp2_with fail
        obtain ⟨sb, hsb⟩ : ∃ sb, bh64 l NN = sb := ⟨_, rfl⟩
        have sbW : sb ≤ 64 := by rw [← hsb]; unfold bh64; omega
        have HBH : Hid (∀ w, Calls Tryz.prog 142 #[.agg #[.int .i64 (l : Int), .int .i64 (NN : Int)]] w fun e w' => e = .returned (.int .i64 (sb : Int)) ∧ Below w.heap.size w w') := fun w => by rw [← hsb]; exact behindN64_any l NN w HWn.out.1
        have HSB : Hid (sb = 64 - l - NN) := by rw [← hsb]; rfl
        have hNN : NN ≤ 64 := by have := HWn.out.1; omega
        clear hsb
        have HR4 : Hid (Rd w4.drew b 0 s aq eq) := HT4.out.rd.below (w' := w4.drew) (B := w4.heap.size) ⟨rfl, rfl, rfl, Nat.le_refl _, fun _ _ => rfl⟩ (block_lt_of_cell HT4.out.rd.text)
        go_region_held3 (fun w' => w'.cell? ⟨H, 0, none⟩ = some (.int .i64 (l : Int)) ∧ w'.cell? ⟨H, 1, none⟩ = some (.int .i64 (NN : Int))) (first | exact ⟨k0, k1⟩ | exact ⟨d0, d1⟩)
          (first | (go_at_call 142; go_must (refine (HBH.out _).mono ?_); rintro _ w6 ⟨rfl, B6⟩; (have k0 : w6.cell? ⟨H, 0, none⟩ = some (.int .i64 (l : Int)) := by rw [B6.cell (p := ⟨H, 0, none⟩) hH5.out]; exact k0); (have k1 : w6.cell? ⟨H, 1, none⟩ = some (.int .i64 (NN : Int)) := by rw [B6.cell (p := ⟨H, 1, none⟩) hH5.out]; exact k1)) | (go_at_call 69; go_must (refine (tk_bits b 0 s aq NN eq _ HR4.out hNN).mono ?_); rintro _ w5 ⟨v, a5, e5, rfl, hv, T5⟩; (have k0 : w5.cell? ⟨H, 0, none⟩ = some (.int .i64 (l : Int)) := by rw [World.cell?_of_block (T5.only.block H hHs hHb)]; exact d0); (have k1 : w5.cell? ⟨H, 1, none⟩ = some (.int .i64 (NN : Int)) := by rw [World.cell?_of_block (T5.only.block H hHs hHb)]; exact d1); (have hH5 : Hid (H < w5.heap.size) := Nat.lt_of_lt_of_le hHs T5.only.size); (have HV := hide hv); (clear hv); (have v1 : IntKind.u64.wrap (v : Int) = (v : Int) := wrap_val64 HV.out (by have := HWn.out.1; omega)); (obtain ⟨x, hx⟩ : ∃ x : Nat, v * 2 ^ sb = x := ⟨_, rfl⟩); (have hxx : (v : Int) * 2 ^ sb = (x : Int) := by rw [← hx]; simp); (have hxM : x < 18446744073709551616 := by rw [← hx, HSB.out]; exact (old_back64 l NN v HWn.out.1 HV.out).1); (have v2 : IntKind.u64.wrap (x : Int) = (x : Int) := wrap_nat64 hxM); (have HXM := hide hxM); (have HX := hide hx); clear hx hxM))
        have HT6 : Hid (Tk w w6 b 0 s a 0 a5 e5 ([true, true] ++ (bitsOf l 6 ++ bitsOf n 6) ++ bitsOf v NN)) := ((HT4.out.more64 (w2 := w4.drew) ⟨rfl, rfl, rfl, Nat.le_refl _, fun _ _ => rfl⟩).trans ha.out T5).more64 B6
        have hH6 : H < w6.heap.size := Nat.lt_of_lt_of_le hH5.out B6.size
        have HC6 : Hid (Col64 w6 c p L N) := HC.out.other HT6.out.only hbc
        have HB6 : Hid (Tab64 w6) := (Two64.ofB (c := c) HT6.out.only).tab HT.out hTb hTc
        clear T5 B6 HT4 HR4 HBH hH5 d0 d1
        by_cases hx0 : x = 0
        · subst hx0
          go_wp2_with fail
          go_ret
          refine ⟨false, 0, a5, e5, rfl, HT6.out.rd, Two64.ofB HT6.out.only, by omega, fun h => (by cases h), fun _ y r hy hr => ?_⟩
          exfalso
          obtain ⟨q1, q2, q3⟩ := HK.out y r hy hr
          have q4 := q3 v a5 e5 w6 HV.out HT6.out
          have q5 := HX.out
          rw [HSB.out] at q5
          exact q1 (q4.2.symm.trans q5)
        have x2 : ((x : Int) == 0) = false := by simp; omega
        have HX0 := hide hx0
        clear hx0
        go_wp2_with fail
        refine (pick64_any c p L N x w6 HC6.out HL.out HXM.out HX0.out HB6.out).mono ?_
        rintro e w7 ⟨l', n', own', rfl, B7, hP⟩
        have HPk := hide hP
        clear hP
        have hN8 := heap_alloc_new w7 (.cells #[.int .i64 (l' : Int), .int .i64 (n' : Int)] 150)
        have B8 : Below w6.heap.size w6 (w7.alloc (.cells #[.int .i64 (l' : Int), .int .i64 (n' : Int)] 150)) := B7.alloc B7.size _
        have HT8 : Hid (Tk w (w7.alloc (.cells #[.int .i64 (l' : Int), .int .i64 (n' : Int)] 150)) b 0 s a 0 a5 e5 ([true, true] ++ (bitsOf l 6 ++ bitsOf n 6) ++ bitsOf v NN) ∧ Col64 (w7.alloc (.cells #[.int .i64 (l' : Int), .int .i64 (n' : Int)] 150)) c p L N) := ⟨HT6.out.more64 B8, HC6.out.below B8 HC6.out.lt⟩
        have k0 : (w7.alloc (.cells #[.int .i64 (l' : Int), .int .i64 (n' : Int)] 150)).cell? ⟨H, 0, none⟩ = some (.int .i64 (l : Int)) := by rw [B8.cell (p := ⟨H, 0, none⟩) hH6]; exact k0
        have k1 : (w7.alloc (.cells #[.int .i64 (l' : Int), .int .i64 (n' : Int)] 150)).cell? ⟨H, 1, none⟩ = some (.int .i64 (NN : Int)) := by rw [B8.cell (p := ⟨H, 1, none⟩) hH6]; exact k1
        have HK8 : Hid ((w7.alloc (.cells #[.int .i64 (l' : Int), .int .i64 (n' : Int)] 150)).cell? ⟨w7.heap.size, 0, none⟩ = some (.int .i64 (l' : Int)) ∧ (w7.alloc (.cells #[.int .i64 (l' : Int), .int .i64 (n' : Int)] 150)).cell? ⟨w7.heap.size, 1, none⟩ = some (.int .i64 (n' : Int))) := ⟨by rw [cell_of_row _ _ _ _ _ _ hN8]; rfl, by rw [cell_of_row _ _ _ _ _ _ hN8]; rfl⟩
        clear hN8 B8 HT6 HC6 HB6 hH6
        go_upto_region 12 with fail
        generalize w7.alloc (.cells #[.int .i64 (l' : Int), .int .i64 (n' : Int)] 150) = w8 at *
        obtain ⟨m0, m1⟩ := HK8.out
        have HNG : Hid (¬ (l = l' ∧ NN = n' ∧ own' = true) → ∀ y r, y < 18446744073709551616 → (rb s).drop a = xb 64 6 L N y ++ r → False) := fun hne y r hy hr => by
          obtain ⟨q1, q2, q3⟩ := HK.out y r hy hr
          have q4 := q3 v a5 e5 _ HV.out HT8.out.1
          have q5 : x = y := by rw [← HX.out, HSB.out]; exact q4.2
          subst q5
          exact hne (HPk.out.elim (fun h => absurd h.2.1 q2.1) (fun h => ⟨by rw [h.2.2.1]; exact q2.2.1, by rw [h.2.2.2]; exact q2.2.2, h.1⟩))
        have HBAD : Hid (¬ (l = l' ∧ NN = n' ∧ own' = true) → TakeEnd64 w b c s a 0 p L N (.returned (.bool false)) w8) := fun hne =>
          ⟨false, 0, a5, e5, rfl, HT8.out.1.rd, Two64.ofB HT8.out.1.only, by omega, fun h => (by cases h), fun _ y r hy hr => (HNG.out hne y r hy hr).elim⟩
        by_cases hE1 : l = l'
        · by_cases hE2 : NN = n'
          · by_cases hE3 : own' = true
            · have c0 := HT8.out.2.ahead
              have c1 := HT8.out.2.lead
              have c2 := HT8.out.2.len
              have f0 := HT8.out.2.fz 0
              have f1 := HT8.out.2.fz 1
              have f2 := HT8.out.2.fz 2
              subst hE1
              subst hE2
              subst hE3
              obtain ⟨q, hq⟩ : ∃ q : Nat, q = p ^^^ x := ⟨_, rfl⟩
              have q1 : bits BinOp.xor IntKind.u64 (p : Int) (x : Int) = (q : Int) := by rw [hq]; exact u64_xor_nat p x HP.out HXM.out
              have HQ := hide hq
              clear hq
              go_wp2_with fail
              go_ret
              have O9 : Only c 0 3 w8 (((w8.setCell ⟨c, 0, none⟩ (.int .u64 (q : Int))).setCell ⟨c, 1, none⟩ (.int .i64 (l : Int))).setCell ⟨c, 2, none⟩ (.int .i64 (NN : Int))) := (((Only.refl c 0 3 w8).setCell 0 (by omega) (by omega) _).setCell 1 (by omega) (by omega) _).setCell 2 (by omega) (by omega) _
              have hbc' : b ≠ c := fun h => hbc h.symm
              obtain ⟨z1, z2⟩ : nxt 64 6 (L, N) x = (l, NN) ∧ xb 64 6 L N x = [true, true] ++ (bitsOf l 6 ++ bitsOf n 6) ++ bitsOf v NN := by
                rcases HPk.out with ⟨h, _⟩ | ⟨_, h1, h2, h3⟩
                · cases h
                · have q1 := bitLen_le x 64 HXM.out
                  have q2 := tz_lt x HX0.out (lt64 (W := 64) HXM.out (by omega))
                  have q3 : wl x = bitLen x - tz x := rfl
                  have q4 := HLN.out.1
                  have q5 := HSB.out
                  have q6 := HWn.out.1
                  have q7 : tz x = 64 - l - NN := by omega
                  refine ⟨by unfold nxt; rw [if_neg (fun h => h.elim HX0.out h1), ← h2, ← h3], ?_⟩
                  rw [xb_new _ _ _ _ _ HX0.out h1, ← h2, ← h3, show NN - 1 = n from by omega, q7]
                  have q8 : x / 2 ^ (64 - l - NN) = v := by rw [← HX.out, HSB.out]; exact (old_back64 l NN v HWn.out.1 HV.out).2
                  rw [q8]; simp
              refine ⟨true, x, a5, e5, rfl, HT8.out.1.rd.other O9 hbc', (Two64.ofB HT8.out.1.only).trans (Two64.ofC O9), HXM.out, fun _ => ⟨?_, fun he => ?_⟩, fun _ y r hy hr => ?_⟩
              · rw [z1, ← HQ.out]; exact (HT8.out.2.setAhead q).setOld l NN
              · rw [z2]; exact HT8.out.1.sound he
              · obtain ⟨q1, q2, q3⟩ := HK.out y r hy hr
                have q4 := q3 v a5 e5 _ HV.out HT8.out.1
                exact ⟨rfl, by rw [← HX.out, HSB.out]; exact q4.2, q4.1⟩
            · obtain rfl : own' = false := by cases own' <;> simp at hE3 ⊢
              subst hE1
              subst hE2
              go_wp2_with fail
              go_ret
              exact HBAD.out (fun h => hE3 h.2.2)
          · have b2 : ((NN : Int) == (n' : Int)) = false := by simp; omega
            subst hE1
            go_wp2_with fail
            go_ret
            exact HBAD.out (fun h => hE2 h.2.1)
        · have b1 : ((l : Int) == (l' : Int)) = false := by simp; omega
          go_wp2_with fail
          go_ret
          exact HBAD.out (fun h => hE1 h.1)

end Go.Proofs.YtleffbpjjbiobaaGreatDoor

namespace Go.Proofs.YtleffbpjjbiobaaGreatDoor
open Go.RowKit
open M
set_option linter.unusedVariables false
set_option linter.unusedSimpArgs false

theorem make_vals64 (c : Nat) (h : c ≤ 4096) (w : World) :
    (Instr.makeSlice 28 (.int .i64 (c : Int)) (.int .i64 (c : Int))).run Tryz.prog w = .ok (.slice (some ⟨w.heap.size, 0, none⟩) c c) (w.alloc (.cells (Array.replicate c (Value.int .u64 0)) 39)) := by
  have hz : (Tryz.prog.info? 39).bind (·.zero) = some (.int .u64 0) := by kernel_rfl
  have hs : (Tryz.prog.info? 39).map (·.size) = some 1 := by kernel_rfl
  have hb : (Tryz.prog.info? 39).map (·.bytes) = some (64 / 8) := by kernel_rfl
  cases hi : Tryz.prog.info? 39 with
  | none => simp [hi] at hs
  | some i =>
    simp only [hi, Option.bind_some, Option.map_some, Option.some.injEq] at hz hs hb
    rw [run_make w 28 39 i _ Tryz.underlying28 hi hz .i64 .i64 (c : Int) (c : Int) (by omega) (by omega) (by rw [hb]; omega) (by omega)]
    have e : madeCells (Value.int .u64 0).cells ((c : Int).toNat * i.size) = Array.replicate c (Value.int .u64 0) := by
      rw [hs]
      apply Array.ext
      · simp [madeCells]
      · intro j h1 h2
        simp [madeCells, Value.cells, Nat.mod_one]
    rw [e]; simp

/-- A row of n values of one's own, of which the first k are laid. -/
structure UW64 (w : World) (g n k : Nat) (f : Nat → Nat) : Prop where
  cell : ∀ i, i < n → w.cell? ⟨g, i, none⟩ = some (.int .u64 ((if i < k then f i else 0 : Nat) : Int))
  fz : ∀ i, w.frozen? ⟨g, i, none⟩ = false
  blk : ∃ cur : Array Value, w.heap[g]? = some (.cells cur 39 (0, 0)) ∧ cur.size = n

theorem UW64.new (w : World) (n : Nat) (f : Nat → Nat) : UW64 (w.alloc (.cells (Array.replicate n (Value.int .u64 0)) 39)) w.heap.size n 0 f := by
  have hn := heap_alloc_new w (.cells (Array.replicate n (Value.int .u64 0)) 39)
  refine ⟨fun i hi => ?_, fun i => frozen_of_row _ _ _ _ _ hn, _, hn, by simp⟩
  rw [cell_of_row _ _ _ _ _ _ hn]
  simp [hi]

theorem UW64.set {w : World} {g n k : Nat} {f : Nat → Nat} (h : UW64 w g n k f) (hk : k < n) (t : Nat) : UW64 (w.setCell ⟨g, k, none⟩ (.int .u64 (t : Int))) g n (k + 1) (fun i => if i = k then t else f i) := by
  refine ⟨fun i hi => ?_, fun i => by rw [frozen_setCell]; exact h.fz i, ?_⟩
  case refine_2 =>
    obtain ⟨cur, h1, h2⟩ := h.blk
    exact ⟨_, heap_setCell_same w g k cur _ _ h1, by simpa using h2⟩
  by_cases e : i = k
  · subst e
    rw [cell_setCell_eq _ _ _ _ _ (h.cell i hi)]; simp
  · rw [cell_setCell_ne _ _ _ _ _ e, h.cell i hi]
    by_cases h1 : i < k
    · simp [h1, e, show i < k + 1 from by omega]
    · simp [h1, show ¬ i < k + 1 from by omega]

theorem UW64.ofBlock {w w' : World} {g n k : Nat} {f : Nat → Nat} (h : UW64 w g n k f) (e : w'.heap[g]? = w.heap[g]?) : UW64 w' g n k f :=
  ⟨fun i hi => by rw [World.cell?_of_block (w := w) e]; exact h.cell i hi, fun i => by rw [World.frozen?_of_block (w := w) (w' := w') (a := ⟨g, i, none⟩) e]; exact h.fz i, by rw [e]; exact h.blk⟩

theorem UW64.congr {w : World} {g n k : Nat} {f f' : Nat → Nat} (h : UW64 w g n k f) (e : ∀ i, i < k → f i = f' i) : UW64 w g n k f' :=
  ⟨fun i hi => by rw [h.cell i hi]; by_cases h1 : i < k
                  · rw [if_pos h1, if_pos h1, e i h1]
                  · rw [if_neg h1, if_neg h1], h.fz, h.blk⟩

theorem UW64.urow {w : World} {g n : Nat} {f : Nat → Nat} (h : UW64 w g n n f) : URow64 w (some ⟨g, 0, none⟩) n f := fun _ =>
  ⟨g, 0, rfl, fun i hi => by rw [Nat.zero_add, h.cell i hi, if_pos hi]⟩

theorem Two64.setNew {b c : Nat} {u w : World} (h : Two64 b c u w) (g i : Nat) (hg : u.heap.size ≤ g) (v : Value) : Two64 b c u (w.setCell ⟨g, i, none⟩ v) :=
  ⟨h.os, h.tape, h.output, Nat.le_trans h.size (by simp [World.setCell]), fun k hk h1 h2 => by rw [Below.heap_setCell _ _ _ _ (show k ≠ g by omega)]; exact h.block k hk h1 h2⟩

/-- The bits begin with those of n values g. -/
def Begins64 (R : List Bool) (g : Nat → Nat) (n : Nat) : Prop := (∀ i, i < n → g i < 18446744073709551616) ∧ ∃ r, R = cbn 64 6 g n ++ r

/-- What stands where k + 1 values have been taken. -/
structure Cn64 (w wr : World) (b c : Nat) (s : ByteArray) (g n k a : Nat) (e1 : Int) (f : Nat → Nat) : Prop where
  row : UW64 wr g n (k + 1) f
  rd : Rd wr b 0 s a e1
  col : Col64 wr c (f k) (win 64 6 f k).1 (win 64 6 f k).2
  two : Two64 b c w wr
  size : g < wr.heap.size
  rng : ∀ i, i < k + 1 → f i < 18446744073709551616
  sound : e1 = 0 → (rb s).take a = cbn 64 6 f (k + 1)
  full : ∀ h, Begins64 (rb s) h n → e1 = 0 ∧ ∀ i, i < k + 1 → f i = h i

theorem xor_back64 (p x : Nat) : (p ^^^ x) ^^^ p = x := by rw [Nat.xor_comm p x, Nat.xor_assoc, Nat.xor_self, Nat.xor_zero]

/-- One value more. -/
theorem Cn64.next {w wr w2 : World} {b c : Nat} {s : ByteArray} {g n k a a' : Nat} {e1 e2 : Int} {f : Nat → Nat} (hk : k + 1 < n) (hg : w.heap.size ≤ g) (hgb : g ≠ b) (hgc : g ≠ c) (T : Cn64 w wr b c s g n k a e1 f) (x : Nat) (hx : x < 18446744073709551616)
    (hR : Rd w2 b 0 s a' e2) (hO : Two64 b c wr w2) (hC : Col64 w2 c (f k ^^^ x) (nxt 64 6 ((win 64 6 f k).1, (win 64 6 f k).2) x).1 (nxt 64 6 ((win 64 6 f k).1, (win 64 6 f k).2) x).2)
    (hs : e2 = 0 → e1 = 0 ∧ (rb s).take a' = (rb s).take a ++ xb 64 6 (win 64 6 f k).1 (win 64 6 f k).2 x)
    (hf : e1 = 0 → ∀ y r, y < 18446744073709551616 → (rb s).drop a = xb 64 6 (win 64 6 f k).1 (win 64 6 f k).2 y ++ r → x = y ∧ e2 = 0) :
    Cn64 w (w2.setCell ⟨g, k + 1, none⟩ (.int .u64 ((f k ^^^ x : Nat) : Int))) b c s g n (k + 1) a' e2 (fun i => if i = k + 1 then f k ^^^ x else f i) := by
  have hs2 := hO.size
  have hsz := T.size
  have ht : f k ^^^ x < 18446744073709551616 := xor_lt 64 _ _ (T.rng k (by omega)) hx
  obtain ⟨F, hF⟩ : ∃ F : Nat → Nat, F = fun i => if i = k + 1 then f k ^^^ x else f i := ⟨_, rfl⟩
  have F1 : F (k + 1) = f k ^^^ x := by rw [hF]; simp
  have F2 : ∀ i, i ≤ k → F i = f i := fun i hi => by rw [hF]; simp; omega
  have ew : win 64 6 F k = win 64 6 f k := win_congr _ _ _ _ k (fun j hj => F2 j hj)
  have exx : F (k + 1) ^^^ F k = x := by rw [F1, F2 k (Nat.le_refl _)]; exact xor_back64 _ _
  have ez : xbf 64 6 F k = xb 64 6 (win 64 6 f k).1 (win 64 6 f k).2 x := by unfold xbf; rw [ew, exx]
  have en : win 64 6 F (k + 1) = nxt 64 6 ((win 64 6 f k).1, (win 64 6 f k).2) x := by simp only [win]; rw [ew, exx]
  have eb : cbn 64 6 F (k + 1) = cbn 64 6 f (k + 1) := cbn_congr _ _ _ _ _ fun i hi => F2 i (by omega)
  have hbk : (w2.setCell ⟨g, k + 1, none⟩ (.int .u64 ((f k ^^^ x : Nat) : Int))).heap[c]? = w2.heap[c]? := Below.heap_setCell _ _ _ _ (fun e => hgc e.symm)
  rw [← hF]
  refine ⟨?_, hR.setOther' g _ hgb _, ?_, (T.two.trans hO).setNew g _ hg _, by simp [World.setCell]; omega, fun i hi => ?_, fun he => ?_, ?_⟩
  · rw [hF]; exact (T.row.ofBlock (hO.block g T.size hgb hgc)).set hk (f k ^^^ x)
  · rw [F1, en]
    exact ⟨by rw [World.cell?_of_block (w := w2) hbk]; exact hC.ahead, by rw [World.cell?_of_block (w := w2) hbk]; exact hC.lead, by rw [World.cell?_of_block (w := w2) hbk]; exact hC.len, fun i => by rw [frozen_setCell]; exact hC.fz i⟩
  · by_cases e : i = k + 1
    · subst e; rw [F1]; exact ht
    · rw [F2 i (by omega)]; exact T.rng i (by omega)
  · obtain ⟨h1, h2⟩ := hs he
    rw [h2, T.sound h1, cbn_step, ez, eb]
  · intro h hB
    obtain ⟨h1, h2⟩ := T.full h hB
    obtain ⟨hr, r, hRR⟩ := hB
    obtain ⟨r1, h3⟩ := cbn_prefix 64 6 h (k + 2) n (by omega)
    rw [h3, cbn_step, List.append_assoc, List.append_assoc] at hRR
    have h4 : (rb s).take a = cbn 64 6 h (k + 1) := by rw [T.sound h1]; exact cbn_congr _ _ _ _ _ h2
    have h5 : (rb s).drop a = xbf 64 6 h k ++ (r1 ++ r) := by
      have := List.take_append_drop a (rb s)
      rw [h4] at this
      rw [hRR] at this ⊢
      exact List.append_cancel_left this
    have e5 : xbf 64 6 h k = xb 64 6 (win 64 6 f k).1 (win 64 6 f k).2 (h (k + 1) ^^^ h k) := by
      unfold xbf; rw [win_congr 64 6 f h k (fun j hj => h2 j (by omega))]
    rw [e5] at h5
    obtain ⟨h6, h7⟩ := hf h1 _ _ (xor_lt 64 _ _ (hr _ (by omega)) (hr _ (by omega))) h5
    refine ⟨h7, fun i hi => ?_⟩
    by_cases e : i = k + 1
    · subst e
      rw [F1, h6, h2 k (by omega), Nat.xor_comm (h (k + 1)), ← Nat.xor_assoc, Nat.xor_self, Nat.zero_xor]
    · rw [F2 i (by omega)]; exact h2 i (by omega)

/-- Bits that no value lays. -/
theorem Cn64.none {w wr : World} {b c : Nat} {s : ByteArray} {g n k a : Nat} {e1 : Int} {f : Nat → Nat} (hk : k + 1 < n) (T : Cn64 w wr b c s g n k a e1 f)
    (hf : e1 = 0 → ∀ y r, y < 18446744073709551616 → (rb s).drop a = xb 64 6 (win 64 6 f k).1 (win 64 6 f k).2 y ++ r → False) : ¬ ∃ h, Begins64 (rb s) h n := by
  rintro ⟨h, hB⟩
  obtain ⟨h1, h2⟩ := T.full h hB
  obtain ⟨hr, r, hRR⟩ := hB
  obtain ⟨r1, h3⟩ := cbn_prefix 64 6 h (k + 2) n (by omega)
  rw [h3, cbn_step, List.append_assoc, List.append_assoc] at hRR
  have h4 : (rb s).take a = cbn 64 6 h (k + 1) := by rw [T.sound h1]; exact cbn_congr _ _ _ _ _ h2
  have h5 : (rb s).drop a = xbf 64 6 h k ++ (r1 ++ r) := by
    have := List.take_append_drop a (rb s)
    rw [h4] at this
    rw [hRR] at this ⊢
    exact List.append_cancel_left this
  have e5 : xbf 64 6 h k = xb 64 6 (win 64 6 f k).1 (win 64 6 f k).2 (h (k + 1) ^^^ h k) := by
    unfold xbf; rw [win_congr 64 6 f h k (fun j hj => h2 j (by omega))]
  rw [e5] at h5
  exact hf h1 _ _ (xor_lt 64 _ _ (hr _ (by omega)) (hr _ (by omega))) h5

/-- What takeAll tells. -/
def TakeAllEnd64 (w : World) (b : Nat) (s : ByteArray) (n : Nat) (e : Ending) (w' : World) : Prop :=
  (e = .returned (.tuple #[.slice none 0 0, .bool false]) ∧ Below b w w' ∧ ¬ ∃ h, Begins64 (rb s) h n) ∨
    ∃ (a : Nat) (e1 : Int) (f : Nat → Nat), e = .returned (.tuple #[.slice (some ⟨w.heap.size, 0, none⟩) n n, .bool true]) ∧ UW64 w' w.heap.size n n f ∧ Rd w' b 0 s a e1 ∧ Below b w w' ∧ (∀ i, i < n → f i < 18446744073709551616) ∧
      (e1 = 0 → (rb s).take a = cbn 64 6 f n) ∧ (∀ h, Begins64 (rb s) h n → e1 = 0 ∧ ∀ i, i < n → f i = h i)

end Go.Proofs.YtleffbpjjbiobaaGreatDoor

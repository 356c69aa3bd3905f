/- The document's DivMod of numbers. -/
import Derived.Test.YtmfimhpbdbbpoaaDoorCE
/- The document's Over: quotients bit by bit. -/
namespace Go.Proofs.YtmfimhpbdbbpoaaDoor
open Go.RowKit
open M
set_option linter.unusedVariables false
set_option linter.unusedSimpArgs false

theorem bit_low {x r : Nat} (hr : r < 32) (h : x % 2 ^ (r + 1) = 0) : dg (x + 2 ^ r) 0 = dg x 0 + 2 ^ r ∧ dg x 0 + 2 ^ r < 4294967296 ∧ (x + 2 ^ r) / 4294967296 = x / 4294967296 := by
  obtain ⟨d, hd⟩ : ∃ d, 32 = r + 1 + d := ⟨31 - r, by omega⟩
  have hB : (4294967296 : Nat) = 2 ^ (r + 1) * 2 ^ d := by rw [← Nat.pow_add, ← hd]
  have hp := Nat.two_pow_pos r
  have hs : 2 ^ (r + 1) = 2 ^ r * 2 := Nat.pow_succ _ _
  obtain ⟨y, rfl⟩ : ∃ y, x = 2 ^ (r + 1) * y := ⟨x / 2 ^ (r + 1), by have := Nat.div_add_mod x (2 ^ (r + 1)); omega⟩
  have hm : 2 ^ (r + 1) * y % 4294967296 + 2 ^ (r + 1) ≤ 4294967296 := by
    rw [hB, Nat.mul_mod_mul_left]
    have h3 : y % 2 ^ d + 1 ≤ 2 ^ d := Nat.mod_lt _ (Nat.two_pow_pos d)
    have h4 : 2 ^ (r + 1) * (y % 2 ^ d + 1) ≤ 2 ^ (r + 1) * 2 ^ d := Nat.mul_le_mul_left _ h3
    rw [Nat.mul_add, Nat.mul_one] at h4
    exact h4
  unfold dg
  rw [Nat.pow_zero, Nat.div_one, Nat.div_one]
  generalize 2 ^ (r + 1) * y = z at *
  generalize 2 ^ r = P at *
  clear hB
  omega

theorem set_bit {N i : Nat} (h : N % 2 ^ (i + 1) = 0) : dg (N + 2 ^ i) (i / 32) = dg N (i / 32) + 2 ^ (i % 32) ∧ dg N (i / 32) + 2 ^ (i % 32) < 4294967296 ∧ ∀ j, j ≠ i / 32 → dg (N + 2 ^ i) j = dg N j := by
  have hr : i % 32 < 32 := Nat.mod_lt _ (by omega)
  have hi : i = 32 * (i / 32) + i % 32 := by omega
  generalize i / 32 = q at *
  generalize i % 32 = r at *
  subst hi
  have e0 : 2 ^ (32 * q + r) = 4294967296 ^ q * 2 ^ r := by rw [Nat.pow_add, pw_two]
  have hp := pw_pos q
  have hx : N / 4294967296 ^ q % 2 ^ (r + 1) = 0 := by
    rw [← Nat.mod_mul_right_div_self, show 4294967296 ^ q * 2 ^ (r + 1) = 2 ^ (32 * q + r + 1) by rw [pw_two, ← Nat.pow_add]; rfl, h, Nat.zero_div]
  obtain ⟨b1, b2, b3⟩ := bit_low hr hx
  have hs : ∀ t, dg (N + 2 ^ (32 * q + r)) (q + t) = dg (N / 4294967296 ^ q + 2 ^ r) t := fun t => by rw [dg_shift, e0, Nat.add_mul_div_left _ _ hp]
  have hn : ∀ t, dg N (q + t) = dg (N / 4294967296 ^ q) t := fun t => dg_shift N q t
  refine ⟨?_, ?_, fun j hj => ?_⟩
  · have := hs 0; have := hn 0; rw [Nat.add_zero] at *; omega
  · have := hn 0; rw [Nat.add_zero] at this; omega
  · rcases Nat.lt_or_ge j q with h1 | h1
    · rw [e0]; exact dg_congr (k := q) (by rw [Nat.add_mul_mod_self_left]) h1
    · obtain ⟨t, rfl⟩ : ∃ t, j = q + (1 + t) := ⟨j - q - 1, by omega⟩
      rw [hs, hn, dg_shift _ 1 t, dg_shift _ 1 t, Nat.pow_one, b3]

theorem Wk.bit {w : World} {g K N i : Nat} (h : Wk w g 0 K N) (hz : N % 2 ^ (i + 1) = 0) (hi : i / 32 < K) (hl : N + 2 ^ i < 4294967296 ^ K) (y : Int) (hy : y = ((dg N (i / 32) + 2 ^ (i % 32) : Nat) : Int)) :
    Wk (w.setCell ⟨g, i / 32, none⟩ (.int .u32 y)) g 0 K (N + 2 ^ i) := by
  obtain ⟨b1, b2, b3⟩ := set_bit hz
  refine ⟨hl, fun j hj => ?_, fun j hj => by rw [frozen_setCell]; exact h.free j hj⟩
  have hc := h.cell j hj
  rw [Nat.zero_add] at hc ⊢
  by_cases e : j = i / 32
  · subst e
    rw [b1, hy]
    exact cell_setCell_eq _ _ _ _ _ hc
  · rw [cell_setCell_ne _ _ _ _ _ e, b3 j e]
    exact hc

/-- A step of the quotient. -/
theorem over_step {A C i : Nat} (hC : 0 < C) : let R := A / 2 ^ (i + 1) % C * 2 ^ 1 + A / 2 ^ i % 2
    (R < C → A / 2 ^ i % C = R ∧ A / 2 ^ i / C * 2 ^ i = A / 2 ^ (i + 1) / C * 2 ^ (i + 1)) ∧ (C ≤ R → A / 2 ^ i % C = R - C ∧ A / 2 ^ i / C * 2 ^ i = A / 2 ^ (i + 1) / C * 2 ^ (i + 1) + 2 ^ i) ∧ A / 2 ^ (i + 1) / C * 2 ^ (i + 1) % 2 ^ (i + 1) = 0 := by
  intro R
  have e1 : A / 2 ^ i / 2 = A / 2 ^ (i + 1) := by rw [Nat.div_div_eq_div_mul, Nat.pow_succ]
  have e2 := Nat.div_add_mod (A / 2 ^ i) 2
  have e3 := Nat.div_add_mod (A / 2 ^ (i + 1)) C
  have e4 := Nat.mod_lt (A / 2 ^ (i + 1)) hC
  have hR : R = A / 2 ^ (i + 1) % C * 2 + A / 2 ^ i % 2 := by show _ * 2 ^ 1 + _ = _; rw [Nat.pow_one]
  have h2 := Nat.mod_lt (A / 2 ^ i) (show 0 < 2 by omega)
  rw [hR]
  clear hR R
  rw [e1] at e2
  have hs : 2 ^ (i + 1) = 2 * 2 ^ i := by rw [Nat.pow_succ, Nat.mul_comm]
  generalize A / 2 ^ i % 2 = b at *
  generalize A / 2 ^ (i + 1) % C = r at *
  generalize A / 2 ^ (i + 1) / C = Q at *
  have e5 : A / 2 ^ i = C * (2 * Q) + (r * 2 + b) := by
    rw [← e2, ← e3, Nat.mul_add, ← Nat.mul_assoc, Nat.mul_comm 2 C, Nat.mul_assoc]; omega
  refine ⟨fun h => ?_, fun h => ?_, Nat.mul_mod_left _ _⟩
  · rw [e5, Nat.mul_add_mod, Nat.mod_eq_of_lt h, Nat.mul_add_div hC, Nat.div_eq_of_lt h, hs]
    refine ⟨rfl, ?_⟩
    rw [Nat.add_zero, Nat.mul_comm 2 Q, Nat.mul_assoc]
  · have e6 : C * (2 * Q) + (r * 2 + b) = C * (2 * Q + 1) + (r * 2 + b - C) := by rw [Nat.mul_add C, Nat.mul_one]; omega
    have h3 : r * 2 + b - C < C := by omega
    rw [e5, e6, Nat.mul_add_mod, Nat.mod_eq_of_lt h3, Nat.mul_add_div hC, Nat.div_eq_of_lt h3, hs]
    refine ⟨rfl, ?_⟩
    rw [Nat.add_zero, Nat.add_mul, Nat.one_mul, Nat.mul_comm 2 Q, Nat.mul_assoc]

end Go.Proofs.YtmfimhpbdbbpoaaDoor

/- The document's Over: the walk. -/
namespace Go.Proofs.YtmfimhpbdbbpoaaDoor
open Go.RowKit
open M
set_option linter.unusedVariables false
set_option linter.unusedSimpArgs false

theorem over_start {A C b : Nat} (hC : 0 < C) (hb : bitLen A + 1 ≤ bitLen C + b) : A / 2 ^ b < C := by
  have hA := (bitLen_spec A).1
  have hc := (bitLen_spec C).2 (by omega)
  refine Nat.div_lt_of_lt_mul ?_
  refine Nat.lt_of_lt_of_le hA ?_
  refine Nat.le_trans (Nat.pow_le_pow_right (by omega) (show bitLen A ≤ b + (bitLen C - 1) by omega)) ?_
  rw [Nat.pow_add]
  exact Nat.mul_le_mul_left _ hc

/-- Behind the bits from j on. -/
structure OverSt (w : World) (A C K j : Nat) (v : Value) (wr : World) : Prop where
  quo : Wk wr w.heap.size 0 K (A / 2 ^ j / C * 2 ^ j)
  rem : ∃ n, RowX (w.heap.size < ·) wr v n (A / 2 ^ j % C) ∧ Nrm n (A / 2 ^ j % C)
  below : Below w.heap.size w wr
  size : w.heap.size < wr.heap.size

theorem OverSt.skip {w wo w5 : World} {A C K i X n5 : Nat} {v0 r5 : Value} (h : OverSt w A C K (i + 1) v0 wo) (hC : 0 < C) (hX : X = A / 2 ^ (i + 1) % C * 2 ^ 1 + A / 2 ^ i % 2) (hlt : X < C)
    (hb : Below wo.heap.size wo w5) (hrow : RowX (wo.heap.size ≤ ·) w5 r5 n5 X) (hn : Nrm n5 X) : OverSt w A C K i r5 w5 := by
  obtain ⟨s1, _, _⟩ := over_step (A := A) (C := C) (i := i) hC
  rw [← hX] at s1
  obtain ⟨e1, e2⟩ := s1 hlt
  refine ⟨by rw [e2]; exact h.quo.below hb h.size, ⟨n5, ?_, by rw [e1]; exact hn⟩, h.below.trans (hb.mono h.below.size), Nat.lt_of_lt_of_le h.size hb.size⟩
  rw [e1]
  exact hrow.mono fun g _ hg => by have := h.size; omega

theorem OverSt.take {w wo w6 : World} {A C K i X n6 : Nat} {v0 r6 : Value} (h : OverSt w A C K (i + 1) v0 wo) (hC : 0 < C) (hX : X = A / 2 ^ (i + 1) % C * 2 ^ 1 + A / 2 ^ i % 2) (hge : C ≤ X)
    (hb : Below wo.heap.size wo w6) (hrow : RowX (wo.heap.size ≤ ·) w6 r6 n6 (X - C)) (hn : Nrm n6 (X - C)) (hA : A < 4294967296 ^ K) (hi : i / 32 < K) (y : Int) (hy : y = ((dg (A / 2 ^ (i + 1) / C * 2 ^ (i + 1)) (i / 32) + 2 ^ (i % 32) : Nat) : Int)) :
    OverSt w A C K i r6 (w6.setCell ⟨w.heap.size, i / 32, none⟩ (.int .u32 y)) := by
  obtain ⟨_, s1, s2⟩ := over_step (A := A) (C := C) (i := i) hC
  rw [← hX] at s1
  obtain ⟨e1, e2⟩ := s1 hge
  have hle : A / 2 ^ i / C * 2 ^ i ≤ A := Nat.le_trans (Nat.mul_le_mul_right _ (Nat.div_le_self _ _)) (Nat.div_mul_le_self _ _)
  have hW := (h.quo.below hb h.size).bit s2 hi (by rw [← e2]; omega) y hy
  rw [← e2] at hW
  have hg : w.heap.size < w6.heap.size := Nat.lt_of_lt_of_le h.size hb.size
  refine ⟨hW, ⟨n6, ?_, by rw [e1]; exact hn⟩, (h.below.trans (hb.mono h.below.size)).setCell (Nat.le_refl _) _, by simpa using hg⟩
  rw [e1]
  have h0 : RowX (w.heap.size < ·) w6 r6 n6 (X - C) := hrow.mono fun g _ hg => by have := h.size; omega
  exact h0.keep fun g o hg _ => cell_other _ _ _ _ _ _ (by omega)

theorem OverSt.cell {w wo w6 : World} {A C K i : Nat} {v0 : Value} (h : OverSt w A C K (i + 1) v0 wo) (hb : Below wo.heap.size wo w6) (hi : i / 32 < K) :
    w6.cell? ⟨w.heap.size, i / 32, none⟩ = some (.int .u32 (dg (A / 2 ^ (i + 1) / C * 2 ^ (i + 1)) (i / 32) : Nat)) ∧ w6.frozen? ⟨w.heap.size, i / 32, none⟩ = false := by
  have h1 := h.quo.below hb h.size
  have h2 := h1.cell (i / 32) hi
  have h3 := h1.free (i / 32) hi
  rw [Nat.zero_add] at h2 h3
  exact ⟨h2, h3⟩

set_option maxRecDepth 100000 in
set_option maxHeartbeats 8000000 in
theorem rover_any {S S' : Nat → Prop} (v u : Value) (k A m C : Nat) (w : World) (h : RowX S w v k A) (h' : RowX S' w u m C) (hn : Nrm k A) (hn' : Nrm m C) (hC : 0 < C) (hkb : k ≤ 8192) (hmb : m ≤ 8192) :
    Calls Tryd.prog 82 #[v, u] w fun e w' => ∃ r s, e = .returned (.tuple #[r, s]) ∧ (∃ n, Own w' w.heap.size r n (A / C) ∧ Nrm n (A / C)) ∧ (∃ n, RowX (w.heap.size ≤ ·) w' s n (A % C) ∧ Nrm n (A % C)) ∧ Below w.heap.size w w' := by
  obtain ⟨i5, hi5⟩ := info32
  have Hi := hide hi5
  clear hi5
  have HR := hide (And.intro (Row.old h.row) (Row.old h'.row))
  have HL : Hid (A < 4294967296 ^ k ∧ 0 < C ∧ C < 4294967296 ^ m) := ⟨h.1, hC, h'.1⟩
  have HN := hide (And.intro hn hn')
  have hba := bitLen_row hn
  have hbc := bitLen_row hn'
  obtain ⟨_, _, ad, cap, rfl, _, _⟩ := h
  obtain ⟨_, _, ad', cap', rfl, _, _⟩ := h'
  obtain ⟨K, hK, hK1⟩ : ∃ K : Nat, k + 1 = K ∧ (k : Int) + 1 = (K : Int) := ⟨_, rfl, by omega⟩
  have HS0 : Hid (Wk (w.alloc (.cells (madeCells #[Value.int .u32 0] K) 24)) w.heap.size 0 K 0 ∧ Below w.heap.size w (w.alloc (.cells (madeCells #[Value.int .u32 0] K) 24)) ∧ w.heap.size < (w.alloc (.cells (madeCells #[Value.int .u32 0] K) 24)).heap.size) :=
    ⟨wk_of_block (pw_pos _) (make_block w K), (Below.refl _ _).alloc (Nat.le_refl _) _, by simp⟩
  have HBl : Hid (∀ b, bitLen A + 1 ≤ bitLen C + b → A / 2 ^ b < C) := fun b hb => over_start HL.out.2.1 hb
  have HBa : Hid (∀ wx, Below w.heap.size w wx → Calls Tryd.prog 58 #[.slice ad k cap] wx fun e w' => e = .returned (.int .i64 (bitLen A : Nat)) ∧ w' = wx) := fun wx hb => rbits_any _ k A wx (HR.out.1.belowB hb) HN.out.1 (by omega)
  have HBc : Hid (∀ wx, Below w.heap.size w wx → Calls Tryd.prog 58 #[.slice ad' m cap'] wx fun e w' => e = .returned (.int .i64 (bitLen C : Nat)) ∧ w' = wx) := fun wx hb => rbits_any _ m C wx (HR.out.2.belowB hb) HN.out.2 (by omega)
  clear hn hn' hC
  generalize bitLen A = ba at *
  generalize bitLen C = bc at *
  have hmain : ∃ b : Nat, b ≤ 32 * k + 1 ∧ Hid (A / 2 ^ b < C) ∧ ((¬ (ba : Int) - (bc : Int) + 1 < 0 ∧ (ba : Int) - (bc : Int) + 1 = (b : Int)) ∨ ((ba : Int) - (bc : Int) + 1 < 0 ∧ b = 0)) := by
    by_cases hlt : ba + 1 < bc
    · exact ⟨0, by omega, HBl.out 0 (by omega), .inr ⟨by omega, rfl⟩⟩
    · exact ⟨ba + 1 - bc, by omega, HBl.out _ (by omega), .inl ⟨by omega, by omega⟩⟩
  obtain ⟨b, hbk, Hb, hcase⟩ := hmain
  clear HBl
  rcases hcase with ⟨hneg, hbe⟩ | ⟨hneg, rfl⟩
  · go_enter Tryd.func82, Tryd.ntmps82
    go_wp2_with (at_make; refine wpList_make_row _ rfl _ _ _ rfl 24 i5 (.int .u32 0) Tryd.underlying23 Hi.out.1 Hi.out.2.1 Hi.out.2.2.1 rfl .i64 .i64 K rfl rfl (by rw [Hi.out.2.2.2]; omega) (by omega) ?_)
    generalize w.alloc (.cells (madeCells #[Value.int .u32 0] K) 24) = wa at *
    refine (HBa.out wa HS0.out.2.1).mono ?_
    rintro e w1 ⟨rfl, rfl⟩
    go_wp2_with fail
    refine (HBc.out w1 HS0.out.2.1).mono ?_
    rintro e w2 ⟨rfl, rfl⟩
    go_wp2_with fail
    refine (rdown_any _ k A b w2 (HR.out.1.belowB HS0.out.2.1) (by omega) (by omega)).mono ?_
    rintro e w3 ⟨r0, rfl, n0, ho, hn0, _, hb3⟩
    have HS : Hid (OverSt w A C K b r0 w3) := by
      have hq : A / 2 ^ b / C * 2 ^ b = 0 := by rw [Nat.div_eq_of_lt Hb.out, Nat.zero_mul]
      have hr : A / 2 ^ b % C = A / 2 ^ b := Nat.mod_eq_of_lt Hb.out
      refine ⟨by rw [hq]; exact HS0.out.1.below hb3 HS0.out.2.2, ⟨n0, ?_, by rw [hr]; exact hn0⟩, HS0.out.2.1.trans (hb3.mono HS0.out.2.1.size), Nat.lt_of_lt_of_le HS0.out.2.2 hb3.size⟩
      rw [hr]
      exact ho.rowX.mono fun g _ hg => by have := HS0.out.2.2; omega
    clear ho hn0 hb3 HS0 HBa HBc
    go_wp2_with fail
    go_loopw [8, 9] (fun t8 t9 wr => ∃ j : Nat, j ≤ b ∧ t9 = .int .i64 ((j : Int) - 1) ∧ Hid (OverSt w A C K j t8 wr)) (fun _ t9 _ => (intOf t9 + 1).toNat)
    case atStart => exact ⟨b, Nat.le_refl _, by go_num, HS⟩
    case round =>
      obtain ⟨j, hj, rfl, HS⟩ := hrel
      by_cases hj0 : j = 0
      · subst hj0
        have HE : Hid (Row wr (.slice (some ⟨w.heap.size, 0, none⟩) K K) K (A / C) ∧ (∃ n, RowX (w.heap.size ≤ ·) wr u8 n (A % C) ∧ Nrm n (A % C)) ∧ Below w.heap.size w wr) := by
          obtain ⟨h1, ⟨n, h2, h3⟩, h4, _⟩ := HS.out
          rw [Nat.pow_zero, Nat.div_one, Nat.mul_one] at h1
          rw [Nat.pow_zero, Nat.div_one] at h2 h3
          exact ⟨h1.row (S := fun _ => True) (by omega) (Nat.le_refl _) trivial _ (fun _ => rfl), ⟨n, h2.mono fun g _ hg => Nat.le_of_lt hg, h3⟩, h4⟩
        clear HS
        go_wp2_with fail
        refine (rtrim_any _ K (A / C) wr HE.out.1 (by omega)).mono ?_
        rintro e w4 ⟨r, rfl, n, ho, hn, _, hb⟩
        have HF : Hid ((∃ n, Own w4 w.heap.size r n (A / C) ∧ Nrm n (A / C)) ∧ (∃ n, RowX (w.heap.size ≤ ·) w4 u8 n (A % C) ∧ Nrm n (A % C)) ∧ Below w.heap.size w w4) := by
          obtain ⟨n2, h2, h3⟩ := HE.out.2.1
          exact ⟨⟨n, ho.mono HE.out.2.2.size, hn⟩, ⟨n2, h2.below hb, h3⟩, HE.out.2.2.trans (hb.mono HE.out.2.2.size)⟩
        clear ho hn hb
        go_wp2_with fail
        go_ret2
        exact ⟨_, _, rfl, HF.out⟩
      · obtain ⟨i, rfl⟩ : ∃ i, j = i + 1 := ⟨j - 1, by omega⟩
        rw [show ((i + 1 : Nat) : Int) - 1 = (i : Int) from by omega]
        obtain ⟨wo, rfl⟩ : ∃ wo, wo = wr := ⟨_, rfl⟩
        obtain ⟨q, hq, hq1, hq2⟩ : ∃ q : Nat, i / 32 = q ∧ (i : Int) / 32 = (q : Int) ∧ (i : Int).tdiv 32 = (q : Int) := ⟨i / 32, rfl, by omega, rfl⟩
        obtain ⟨r, hr, hr1, hr2⟩ : ∃ r : Nat, i % 32 = r ∧ (i : Int) % 32 = (r : Int) ∧ (i : Int).tmod 32 = (r : Int) := ⟨i % 32, rfl, by omega, rfl⟩
        have hrl : r < 32 := by omega
        have hqK : q < K := by omega
        have Hst := hide (over_step (A := A) (C := C) (i := i) HL.out.2.1)
        obtain ⟨n1, hrow, hnr⟩ := HS.out.rem
        have hnm : n1 ≤ m := hnr.le (Nat.lt_trans (Nat.mod_lt _ HL.out.2.1) HL.out.2.2)
        have HRm := hide (And.intro hrow hnr)
        clear hrow hnr
        obtain ⟨R0, hR0⟩ : ∃ R0, A / 2 ^ (i + 1) % C = R0 := ⟨_, rfl⟩
        have HR0 := hide hR0
        rw [hR0] at HRm
        have hA : A < 4294967296 ^ K := Nat.lt_of_lt_of_le HL.out.1 (Nat.pow_le_pow_right (by omega) (by omega))
        have HK := hide hA
        have HQ := hide (And.intro hq hr)
        have Hd := hide (set_bit (N := A / 2 ^ (i + 1) / C * 2 ^ (i + 1)) (i := i) (Nat.mul_mod_left _ _))
        rw [hq, hr] at Hd
        clear hR0 hA hq hr Hst
        go_wp2_with fail
        refine (rup_any _ n1 R0 1 wo HRm.out.1.row (by omega) (by omega)).mono ?_
        rintro e w4 ⟨r4, rfl, n4, ho4, hn4, hk4, hb4⟩
        have H4 : Hid (Own w4 wo.heap.size r4 n4 (R0 * 2 ^ 1) ∧ Nrm n4 (R0 * 2 ^ 1) ∧ Below wo.heap.size wo w4) := ⟨ho4, hn4, hb4⟩
        clear ho4 hn4 hb4
        go_wp2_with fail
        refine (ron_any _ k A i w4 (HR.out.1.belowB (HS.out.below.trans (H4.out.2.2.mono HS.out.below.size))).row (by omega)).mono ?_
        rintro e w4b ⟨rfl, rfl⟩
        by_cases hbit : A / 2 ^ i % 2 = 1
        · rw [decide_eq_true hbit]
          have HX : Hid (R0 * 2 ^ 1 + 1 = A / 2 ^ (i + 1) % C * 2 ^ 1 + A / 2 ^ i % 2) := by show _ = _; rw [HR0.out, hbit]
          clear hbit
          have HA1 : Hid (Row (w4b.alloc (.cells #[.int .u32 1] 24)) (.slice (some ⟨w4b.heap.size, 0, none⟩) 1 1) 1 1 ∧ Below w4b.heap.size w4b (w4b.alloc (.cells #[.int .u32 1] 24))) := by
            refine ⟨⟨by decide, by omega, _, 1, rfl, Nat.le_refl _, fun _ => ⟨w4b.heap.size, 0, rfl, trivial, fun j hj => ?_⟩⟩, (Below.refl _ _).alloc (Nat.le_refl _) _⟩
            obtain rfl : j = 0 := by omega
            rw [Nat.add_zero, cell_of_row _ _ _ _ _ _ (heap_alloc_new _ _)]; rfl
          have HPl := hide (rplus_any _ _ n4 (R0 * 2 ^ 1) 1 1 _ (H4.out.1.row.below HA1.out.2) HA1.out.1 (by omega) (by omega))
          go_wp2_with fail
          refine HPl.out.mono ?_
          rintro e w5 ⟨r5, rfl, n5, ho5, hn5, hk5, hb5⟩
          have H5 : Hid (RowX (wo.heap.size ≤ ·) w5 r5 n5 (R0 * 2 ^ 1 + 1) ∧ Nrm n5 (R0 * 2 ^ 1 + 1) ∧ Below wo.heap.size wo w5) :=
            ⟨(ho5.mono (by have := H4.out.2.2.size; have := HA1.out.2.size; omega)).rowX, hn5, H4.out.2.2.trans ((HA1.out.2.trans (hb5.mono HA1.out.2.size)).mono H4.out.2.2.size)⟩
          clear ho5 hn5 hb5 HA1 HPl H4
          generalize R0 * 2 ^ 1 + 1 = X at *
          have hn5b : n5 ≤ 9000 := by omega
          have HO := hide (rorder_any r5 _ n5 X m C w5 H5.out.1 (HR.out.2.belowB (HS.out.below.trans (H5.out.2.2.mono HS.out.below.size))).row H5.out.2.1 HN.out.2)
          by_cases hge : C ≤ X
          · have hcmp : (0 : Int) ≤ cmpI X C := by
              rcases Int.lt_or_le (cmpI X C) 0 with h1 | h1
              · have := cmpI_neg.1 h1; omega
              · exact h1
            generalize cmpI X C = cc at *
            go_wp2_with fail
            refine HO.out.mono ?_
            rintro e w6 ⟨rfl, nd, rfl⟩
            have H6 : Hid (Row (w5.drewN nd) r5 n5 X ∧ Row (w5.drewN nd) (.slice ad' m cap') m C ∧ Below wo.heap.size wo (w5.drewN nd)) := ⟨(H5.out.1.drewN nd).row, (((HR.out.2.belowB (HS.out.below.trans (H5.out.2.2.mono HS.out.below.size))).drewN nd)).row, below_drewN H5.out.2.2 nd⟩
            generalize w5.drewN nd = w6 at *
            go_wp2_with fail
            refine (rless_any _ _ n5 X m C w6 H6.out.1 H6.out.2.1 (by omega) hge).mono ?_
            rintro e w7 ⟨r7, rfl, n7, ho7, hn7, _, hb7⟩
            have H7 : Hid (RowX (wo.heap.size ≤ ·) w7 r7 n7 (X - C) ∧ Nrm n7 (X - C) ∧ Below wo.heap.size wo w7) := ⟨(ho7.mono H6.out.2.2.size).rowX, hn7, H6.out.2.2.trans (hb7.mono H6.out.2.2.size)⟩
            clear ho7 hn7 hb7 H6 H5 HO
            have HCe := hide (HS.out.cell H7.out.2.2 (by rw [HQ.out.1]; exact hqK))
            have HTk := hide (fun y => HS.out.take HL.out.2.1 HX.out hge H7.out.2.2 H7.out.1 H7.out.2.1 HK.out (by rw [HQ.out.1]; exact hqK) y)
            rw [HQ.out.1] at HCe HTk
            rw [HQ.out.2] at HTk
            have hcq := HCe.out.1
            have hfq := HCe.out.2
            have hdl := Hd.out.2.1
            generalize dg (A / 2 ^ (i + 1) / C * 2 ^ (i + 1)) q = d at *
            have h2l : 2 ^ r < 4294967296 := by omega
            obtain ⟨P, hP, hP1⟩ : ∃ P : Nat, 2 ^ r = P ∧ (2 : Int) ^ r = (P : Int) := ⟨2 ^ r, rfl, by simp⟩
            rw [hP] at h2l hdl HTk
            have hP2 : (P : Int) % 4294967296 = (P : Int) := by omega
            have hdP : (d : Int) + (P : Int) < 4294967296 := by omega
            have hqK' : (q : Int) < (K : Int) := by omega
            clear hP HCe
            go_wp2_with fail
            go_roundw
            case rel => exact ⟨i, by omega, by go_num, HTk.out _ (by omega)⟩
            case measure => simp [intOf]
          · have hcmp : ¬ (0 : Int) ≤ cmpI X C := by have := cmpI_neg.2 (show X < C by omega); omega
            generalize cmpI X C = cc at *
            go_wp2_with fail
            refine HO.out.mono ?_
            rintro e w6 ⟨rfl, nd, rfl⟩
            have H6 : Hid (OverSt w A C K i r5 (w5.drewN nd)) := HS.out.skip HL.out.2.1 HX.out (by omega) (below_drewN H5.out.2.2 nd) (H5.out.1.drewN nd) H5.out.2.1
            generalize w5.drewN nd = w6 at *
            go_wp2_with fail
            go_roundw
            case rel => exact ⟨i, by omega, by go_num, H6⟩
            case measure => simp [intOf]
        · rw [decide_eq_false hbit]
          have HX : Hid (R0 * 2 ^ 1 = A / 2 ^ (i + 1) % C * 2 ^ 1 + A / 2 ^ i % 2) := by show _ = _; rw [HR0.out]; omega
          clear hbit
          obtain ⟨r5, rfl⟩ : ∃ r5, r5 = r4 := ⟨_, rfl⟩
          obtain ⟨n5, rfl⟩ : ∃ n5, n5 = n4 := ⟨_, rfl⟩
          obtain ⟨w5, rfl⟩ : ∃ w5, w5 = w4b := ⟨_, rfl⟩
          have H5 : Hid (RowX (wo.heap.size ≤ ·) w5 r5 n5 (R0 * 2 ^ 1) ∧ Nrm n5 (R0 * 2 ^ 1) ∧ Below wo.heap.size wo w5) := ⟨H4.out.1.rowX, H4.out.2.1, H4.out.2.2⟩
          clear H4
          generalize R0 * 2 ^ 1 = X at *
          have hn5b : n5 ≤ 9000 := by omega
          have HO := hide (rorder_any r5 _ n5 X m C w5 H5.out.1 (HR.out.2.belowB (HS.out.below.trans (H5.out.2.2.mono HS.out.below.size))).row H5.out.2.1 HN.out.2)
          by_cases hge : C ≤ X
          · have hcmp : (0 : Int) ≤ cmpI X C := by
              rcases Int.lt_or_le (cmpI X C) 0 with h1 | h1
              · have := cmpI_neg.1 h1; omega
              · exact h1
            generalize cmpI X C = cc at *
            go_wp2_with fail
            refine HO.out.mono ?_
            rintro e w6 ⟨rfl, nd, rfl⟩
            have H6 : Hid (Row (w5.drewN nd) r5 n5 X ∧ Row (w5.drewN nd) (.slice ad' m cap') m C ∧ Below wo.heap.size wo (w5.drewN nd)) := ⟨(H5.out.1.drewN nd).row, (((HR.out.2.belowB (HS.out.below.trans (H5.out.2.2.mono HS.out.below.size))).drewN nd)).row, below_drewN H5.out.2.2 nd⟩
            generalize w5.drewN nd = w6 at *
            go_wp2_with fail
            refine (rless_any _ _ n5 X m C w6 H6.out.1 H6.out.2.1 (by omega) hge).mono ?_
            rintro e w7 ⟨r7, rfl, n7, ho7, hn7, _, hb7⟩
            have H7 : Hid (RowX (wo.heap.size ≤ ·) w7 r7 n7 (X - C) ∧ Nrm n7 (X - C) ∧ Below wo.heap.size wo w7) := ⟨(ho7.mono H6.out.2.2.size).rowX, hn7, H6.out.2.2.trans (hb7.mono H6.out.2.2.size)⟩
            clear ho7 hn7 hb7 H6 H5 HO
            have HCe := hide (HS.out.cell H7.out.2.2 (by rw [HQ.out.1]; exact hqK))
            have HTk := hide (fun y => HS.out.take HL.out.2.1 HX.out hge H7.out.2.2 H7.out.1 H7.out.2.1 HK.out (by rw [HQ.out.1]; exact hqK) y)
            rw [HQ.out.1] at HCe HTk
            rw [HQ.out.2] at HTk
            have hcq := HCe.out.1
            have hfq := HCe.out.2
            have hdl := Hd.out.2.1
            generalize dg (A / 2 ^ (i + 1) / C * 2 ^ (i + 1)) q = d at *
            have h2l : 2 ^ r < 4294967296 := by omega
            obtain ⟨P, hP, hP1⟩ : ∃ P : Nat, 2 ^ r = P ∧ (2 : Int) ^ r = (P : Int) := ⟨2 ^ r, rfl, by simp⟩
            rw [hP] at h2l hdl HTk
            have hP2 : (P : Int) % 4294967296 = (P : Int) := by omega
            have hdP : (d : Int) + (P : Int) < 4294967296 := by omega
            have hqK' : (q : Int) < (K : Int) := by omega
            clear hP HCe
            go_wp2_with fail
            go_roundw
            case rel => exact ⟨i, by omega, by go_num, HTk.out _ (by omega)⟩
            case measure => simp [intOf]
          · have hcmp : ¬ (0 : Int) ≤ cmpI X C := by have := cmpI_neg.2 (show X < C by omega); omega
            generalize cmpI X C = cc at *
            go_wp2_with fail
            refine HO.out.mono ?_
            rintro e w6 ⟨rfl, nd, rfl⟩
            have H6 : Hid (OverSt w A C K i r5 (w5.drewN nd)) := HS.out.skip HL.out.2.1 HX.out (by omega) (below_drewN H5.out.2.2 nd) (H5.out.1.drewN nd) H5.out.2.1
            generalize w5.drewN nd = w6 at *
            go_wp2_with fail
            go_roundw
            case rel => exact ⟨i, by omega, by go_num, H6⟩
            case measure => simp [intOf]
  · go_enter Tryd.func82, Tryd.ntmps82
    go_wp2_with (at_make; refine wpList_make_row _ rfl _ _ _ rfl 24 i5 (.int .u32 0) Tryd.underlying23 Hi.out.1 Hi.out.2.1 Hi.out.2.2.1 rfl .i64 .i64 K rfl rfl (by rw [Hi.out.2.2.2]; omega) (by omega) ?_)
    generalize w.alloc (.cells (madeCells #[Value.int .u32 0] K) 24) = wa at *
    refine (HBa.out wa HS0.out.2.1).mono ?_
    rintro e w1 ⟨rfl, rfl⟩
    go_wp2_with fail
    refine (HBc.out w1 HS0.out.2.1).mono ?_
    rintro e w2 ⟨rfl, rfl⟩
    go_wp2_with fail
    refine (rdown_any _ k A 0 w2 (HR.out.1.belowB HS0.out.2.1) (by omega) (by omega)).mono ?_
    rintro e w3 ⟨r0, rfl, n0, ho, hn0, _, hb3⟩
    have HS : Hid (OverSt w A C K 0 r0 w3) := by
      have hq : A / 2 ^ 0 / C * 2 ^ 0 = 0 := by rw [Nat.div_eq_of_lt Hb.out, Nat.zero_mul]
      have hr : A / 2 ^ 0 % C = A / 2 ^ 0 := Nat.mod_eq_of_lt Hb.out
      refine ⟨by rw [hq]; exact HS0.out.1.below hb3 HS0.out.2.2, ⟨n0, ?_, by rw [hr]; exact hn0⟩, HS0.out.2.1.trans (hb3.mono HS0.out.2.1.size), Nat.lt_of_lt_of_le HS0.out.2.2 hb3.size⟩
      rw [hr]
      exact ho.rowX.mono fun g _ hg => by have := HS0.out.2.2; omega
    clear ho hn0 hb3 HS0 HBa HBc
    go_wp2_with fail
    go_loopw [8, 9] (fun t8 t9 wr => ∃ j : Nat, j ≤ 0 ∧ t9 = .int .i64 ((j : Int) - 1) ∧ Hid (OverSt w A C K j t8 wr)) (fun _ t9 _ => (intOf t9 + 1).toNat)
    case atStart => exact ⟨0, Nat.le_refl _, by go_num, HS⟩
    case round =>
      obtain ⟨j, hj, rfl, HS⟩ := hrel
      by_cases hj0 : j = 0
      · subst hj0
        have HE : Hid (Row wr (.slice (some ⟨w.heap.size, 0, none⟩) K K) K (A / C) ∧ (∃ n, RowX (w.heap.size ≤ ·) wr u8 n (A % C) ∧ Nrm n (A % C)) ∧ Below w.heap.size w wr) := by
          obtain ⟨h1, ⟨n, h2, h3⟩, h4, _⟩ := HS.out
          rw [Nat.pow_zero, Nat.div_one, Nat.mul_one] at h1
          rw [Nat.pow_zero, Nat.div_one] at h2 h3
          exact ⟨h1.row (S := fun _ => True) (by omega) (Nat.le_refl _) trivial _ (fun _ => rfl), ⟨n, h2.mono fun g _ hg => Nat.le_of_lt hg, h3⟩, h4⟩
        clear HS
        go_wp2_with fail
        refine (rtrim_any _ K (A / C) wr HE.out.1 (by omega)).mono ?_
        rintro e w4 ⟨r, rfl, n, ho, hn, _, hb⟩
        have HF : Hid ((∃ n, Own w4 w.heap.size r n (A / C) ∧ Nrm n (A / C)) ∧ (∃ n, RowX (w.heap.size ≤ ·) w4 u8 n (A % C) ∧ Nrm n (A % C)) ∧ Below w.heap.size w w4) := by
          obtain ⟨n2, h2, h3⟩ := HE.out.2.1
          exact ⟨⟨n, ho.mono HE.out.2.2.size, hn⟩, ⟨n2, h2.below hb, h3⟩, HE.out.2.2.trans (hb.mono HE.out.2.2.size)⟩
        clear ho hn hb
        go_wp2_with fail
        go_ret2
        exact ⟨_, _, rfl, HF.out⟩
      · exact absurd (by omega : j = 0) hj0

end Go.Proofs.YtmfimhpbdbbpoaaDoor

namespace Go.Proofs.YtmfimhpbdbbpoaaDoor
open Go.RowKit
open M
set_option linter.unusedVariables false
set_option linter.unusedSimpArgs false

set_option maxRecDepth 100000 in
theorem rDivMod_ok {S S' : Nat → Prop} (v u : Value) (k A m C : Nat) (w : World) (h : RowX S w v k A) (h' : RowX S' w u m C) (hn : Nrm k A) (hk : k ≤ 8192) (hn' : Nrm m C) (hm : m ≤ 8192) (hC : 0 < C) :
    Calls Tryd.prog 46 #[v, u] w fun e w' => ∃ r s, e = .returned (.tuple #[r, s, .int .i64 0]) ∧ ((∃ n, RowX (w.heap.size ≤ ·) w' r n (A / C) ∧ Nrm n (A / C)) ∧ ∃ n, RowX (w.heap.size ≤ ·) w' s n (A % C) ∧ Nrm n (A % C)) ∧ Below w.heap.size w w' := by
  have HC := hide (rboth_any v u k A m C w h h')
  rw [if_pos (chk_nrm hn hk), chk_nrm hn' hm] at HC
  have HO := hide (rover_any v u k A m C w h h' hn hn' hC hk hm)
  have hm0 : ¬ m = 0 := fun e => by have := hn'.zero_iff.1 e; omega
  have hm1 : ¬ (m : Int) = 0 := by omega
  have hmb : ((m : Int) == 0) = false := by simpa using hm0
  obtain ⟨_, _, ad, cap, rfl, _, _⟩ := h'
  clear h hn hn'
  go_enter Tryd.func46, Tryd.ntmps46
  go_wp2_with (first
    | (go_at_call 7; refine HC.out.mono ?_; rintro e w1 ⟨rfl, hw⟩; have hw1 := hw.symm; subst hw1; clear HC)
    | (go_at_call 82; refine HO.out.mono ?_; rintro e w2 ⟨r, s, rfl, ⟨n1, h1, h2⟩, ⟨n2, h3, h4⟩, hb⟩; have H2 : Hid (((∃ n, RowX (w.heap.size ≤ ·) w2 r n (A / C) ∧ Nrm n (A / C)) ∧ ∃ n, RowX (w.heap.size ≤ ·) w2 s n (A % C) ∧ Nrm n (A % C)) ∧ Below w.heap.size w w2) := ⟨⟨⟨n1, h1.rowX, h2⟩, n2, h3, h4⟩, hb⟩; clear h1 h2 h3 h4 hb HO))
  go_ret3
  exact ⟨r, s, rfl, H2.out.1, H2.out.2⟩

set_option maxRecDepth 100000 in
theorem rDivMod_zero {S S' : Nat → Prop} (v u : Value) (k A m : Nat) (w : World) (h : RowX S w v k A) (h' : RowX S' w u m 0) (hn : Nrm k A) (hk : k ≤ 8192) (hn' : Nrm m 0) :
    Calls Tryd.prog 46 #[v, u] w fun e w' => e = .returned (.tuple #[.slice none 0 0, .slice none 0 0, .int .i64 23]) ∧ w' = w := by
  obtain rfl : m = 0 := hn'.zero_iff.2 rfl
  have HC := hide (rboth_any v u k A 0 0 w h h')
  rw [if_pos (chk_nrm hn hk), chk_nrm hn' (by omega)] at HC
  obtain ⟨_, _, ad, cap, rfl, _, _⟩ := h'
  clear h hn hn'
  go_enter Tryd.func46, Tryd.ntmps46
  go_wp2_with (go_at_call 7; refine HC.out.mono ?_; rintro e w1 ⟨rfl, hw⟩; have hw1 := hw.symm; subst hw1; clear HC)
  go_ret3
  exact ⟨rfl, rfl⟩

end Go.Proofs.YtmfimhpbdbbpoaaDoor

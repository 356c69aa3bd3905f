/- divide, DivMod of any numbers. -/
import Derived.Test.YtmfimhpbdbbpoaaDoorZ
import Derived.Test.YtmfimhpbdbbpoaaDoorQ
/- divideLong, divide, DivMod. -/
namespace Go.Proofs.YtmfimhpbdbbpoaaDoor
open Go.RowKit
open M
set_option linter.unusedVariables false
set_option linter.unusedSimpArgs false

theorem Dim.only {w w' : World} {g o k i N X b lo hi : Nat} (h : Dim w g o k i N X) (ho : Only b lo hi w w') (hg : g ≠ b) (hs : g < w.heap.size) : Dim w' g o k i N X :=
  ⟨fun j hj => by rw [World.cell?_of_block (w := w) (a := ⟨g, o + j, none⟩) (ho.block g hs hg)]; exact h.lo j hj,
   fun j h1 h2 => by rw [World.cell?_of_block (w := w) (a := ⟨g, o + j, none⟩) (ho.block g hs hg)]; exact h.hi j h1 h2,
   fun j hj => by rw [World.frozen?_of_block (w := w) (a := ⟨g, o + j, none⟩) (ho.block g hs hg)]; exact h.free j hj⟩

theorem Wk.set_other {w : World} {g o k N b i : Nat} {v : Value} (h : Wk w g o k N) (hg : g ≠ b) : Wk (w.setCell ⟨b, i, none⟩ v) g o k N :=
  ⟨h.lt, fun j hj => by rw [cell_other _ _ _ _ _ _ hg]; exact h.cell j hj, fun j hj => by rw [frozen_setCell]; exact h.free j hj⟩

/-- A part of a row is another number's. -/
theorem Wk.patch {w w' : World} {g K R j M X : Nat} (h : Wk w g 0 K R) (ho : Only g j (j + M) w w') (h' : Wk w' g j M X) (hR : R < 4294967296 ^ (j + M)) (hK : j + M ≤ K) : Wk w' g 0 K (R % 4294967296 ^ j + 4294967296 ^ j * X) := by
  have hlt : R % 4294967296 ^ j + 4294967296 ^ j * X < 4294967296 ^ (j + M) := by
    rw [Nat.pow_add]
    have h1 := mod_lt R j
    have h2 : 4294967296 ^ j * (X + 1) ≤ 4294967296 ^ j * 4294967296 ^ M := Nat.mul_le_mul_left _ h'.lt
    rw [Nat.mul_add, Nat.mul_one] at h2
    omega
  refine ⟨Nat.lt_of_lt_of_le hlt (Nat.pow_le_pow_right (by omega) hK), fun t ht => ?_, fun t ht => by rw [ho.frozen]; exact h.free t ht⟩
  rw [Nat.zero_add]
  rcases Nat.lt_or_ge t j with h1 | h1
  · rw [ho.cell t (.inl h1), dg_low h1, dg_mod R h1]
    have := h.cell t ht; rwa [Nat.zero_add] at this
  · obtain ⟨s, rfl⟩ : ∃ s, t = j + s := ⟨t - j, by omega⟩
    rcases Nat.lt_or_ge s M with h2 | h2
    · rw [dg_shift, carry_div, Nat.div_eq_of_lt (mod_lt R j), Nat.zero_add]; exact h'.cell s h2
    · rw [ho.cell _ (by omega), dg_high hlt (by omega)]
      have := h.cell (j + s) ht
      rwa [Nat.zero_add, dg_high hR (by omega)] at this

theorem long_lt {R0 D m j : Nat} (hD : 0 < D) (hDl : D < 4294967296 ^ (m + 2)) : R0 % (D * 4294967296 ^ (j + 1)) < 4294967296 ^ (j + (m + 3)) := by
  have h1 := Nat.mod_lt R0 (show 0 < D * 4294967296 ^ (j + 1) from Nat.mul_pos hD (pw_pos _))
  refine Nat.lt_trans h1 ?_
  rw [show j + (m + 3) = (m + 2) + (j + 1) from by omega, Nat.pow_add 4294967296 (m + 2) (j + 1)]
  exact Nat.mul_lt_mul_of_pos_right hDl (pw_pos (j + 1))

/-- While a long division goes on: J limbs of the quotient are still wanted. -/
structure LongSt (w : World) (g1 g2 g3 k m L R0 D J : Nat) (wr : World) : Prop where
  rest : Wk wr g1 0 (k + 1) (R0 % (D * 4294967296 ^ J))
  by_ : Wk wr g2 0 (m + 2) D
  q : Dim wr g3 0 L J 0 (R0 / D)
  below : Below w.heap.size w wr
  sz : g1 < wr.heap.size ∧ g2 < wr.heap.size ∧ g3 < wr.heap.size

theorem LongSt.step {w wr w2 : World} {g1 g2 g3 k m L R0 D j : Nat} (h : LongSt w g1 g2 g3 k m L R0 D (j + 1) wr) (h12 : g1 ≠ g2) (h13 : g1 ≠ g3) (h23 : g2 ≠ g3) (hb1 : w.heap.size ≤ g1) (hb3 : w.heap.size ≤ g3) (hD : 0 < D) (hDl : D < 4294967296 ^ (m + 2)) (hj : j < L) (hL : L + m + 2 = k + 1)
    (ho : Only g1 j (j + (m + 3)) wr w2) (hW : Wk w2 g1 j (m + 3) (R0 % (D * 4294967296 ^ (j + 1)) / 4294967296 ^ j % D)) :
    LongSt w g1 g2 g3 k m L R0 D j (w2.setCell ⟨g3, j, none⟩ (.int .u32 (R0 % (D * 4294967296 ^ (j + 1)) / 4294967296 ^ j / D : Nat))) := by
  have hm := long_mod R0 D j hD
  have hRl := long_lt (R0 := R0) (j := j) hD hDl
  have hr := h.rest
  generalize R0 % (D * 4294967296 ^ (j + 1)) = R at *
  refine ⟨?_, ?_, ?_, ?_, ?_⟩
  · have := hr.patch ho hW hRl (by omega)
    rw [hm.2.2] at this
    exact this.set_other h13
  · exact (h.by_.only ho (Ne.symm h12) h.sz.2.1).set_other h23
  · have := (h.q.only ho (Ne.symm h13) h.sz.2.2).step hj (R / 4294967296 ^ j / D : Nat) (by rw [hm.2.1])
    rwa [Nat.zero_add] at this
  · exact (h.below.trans (ho.below hb1 h.below.size)).setCell hb3 _
  · have := ho.size
    have h1 := h.sz
    simp [World.setCell]
    omega


theorem takeOut_of (g o K M cap P D : Nat) (u : Value) (w : World) (hM : 2 ≤ M) (hKM : K = M + 1) (hW : Wk w g o K P) (hk : K ≤ 70368744177664) (hcap : K ≤ cap) (hC : RowX (· ≠ g) w u M D) (hD0 : 0 < D) (hP : P < D * 4294967296) (ht : 0 < dg D (M - 1)) :
    Calls Tryd.prog 99 #[.slice (some ⟨g, o, none⟩) K cap, u] w fun e w' => e = .returned (.int .u32 (P / D : Nat)) ∧ Wk w' g o K (P % D) ∧ Only g o (o + K) w w' := by
  obtain ⟨m, rfl⟩ : ∃ m, M = m + 2 := ⟨M - 2, by omega⟩
  obtain rfl : K = m + 3 := by omega
  exact takeOut_any g o m cap P D u w hW hk hcap hC hD0 hP ht

set_option maxRecDepth 100000 in
set_option maxHeartbeats 4000000 in
theorem divideLong_any {S S' : Nat → Prop} (v u : Value) (k A m C : Nat) (w : World) (h : RowX S w v k A) (M2 : Nat) (hM2 : M2 = m + 2) (h' : RowX S' w u M2 C) (hn2 : Nrm M2 C) (hkm2 : M2 ≤ k) (hkb : k ≤ 100000) :
    Calls Tryd.prog 93 #[v, u] w fun e w' => ∃ q r, e = .returned (.tuple #[q, r]) ∧ Parts w' q r A C ∧ Below w.heap.size w w' := by
  obtain ⟨i5, hi5⟩ := info32
  have Hi := hide hi5
  clear hi5
  have hn' : Nrm (m + 2) C := hM2 ▸ hn2
  have hkm : m + 2 ≤ k := hM2 ▸ hkm2
  have hCl : C < 4294967296 ^ (m + 2) := hn'.1
  have htop := hn'.top
  have htl := dg_lt C (m + 1)
  have hC0 : 0 < C := by
    rcases Nat.eq_zero_or_pos C with h0 | h0
    · have := hn'.zero_iff.2 h0; omega
    · exact h0
  obtain ⟨b, hb⟩ : ∃ b, b = bitLen (dg C (m + 1)) := ⟨_, rfl⟩
  have hb32 : b ≤ 32 := by rw [hb]; exact bitLen_le (by omega)
  have hb1 : dg C (m + 1) < 2 ^ b := by rw [hb]; exact (bitLen_spec _).1
  have hb0 : 0 < b := by
    rcases Nat.eq_zero_or_pos b with h0 | h0
    · rw [h0] at hb1; simp at hb1; omega
    · exact h0
  have HLZ : Hid (∀ w, Calls Tryd.prog 98 #[.int .u32 (dg C (m + 1) : Nat)] w fun e w' => e = .returned (.int .i64 (32 - b : Nat)) ∧ w' = w) := fun w => by rw [hb]; exact lz32_any _ w htl
  obtain ⟨up, hup⟩ : ∃ up, up = 32 - b := ⟨_, rfl⟩
  have hup32 : up < 32 := by omega
  rw [← hup] at HLZ
  have hDl : C * 2 ^ up < 4294967296 ^ (m + 2) := by rw [hup]; exact norm_by hCl hb1 hb32
  have hD0 : 0 < C * 2 ^ up := Nat.mul_pos hC0 (Nat.two_pow_pos _)
  have hDt : 0 < dg (C * 2 ^ up) (m + 1) := by
    have hge : 4294967296 ^ (m + 1) ≤ C * 2 ^ up := by
      have h1 : 4294967296 ^ (m + 1) ≤ C := by
        rcases hn'.2 with h0 | h0
        · omega
        · exact h0
      exact Nat.le_trans h1 (Nat.le_mul_of_pos_right _ (Nat.two_pow_pos _))
    have h2 := div_succ (C * 2 ^ up) (m + 1)
    rw [Nat.div_eq_of_lt (show C * 2 ^ up < 4294967296 ^ (m + 1 + 1) from hDl), Nat.zero_mul, Nat.zero_add] at h2
    rw [← h2]
    exact Nat.div_pos hge (pw_pos _)
  have hR0l : A * 2 ^ up < 4294967296 ^ (k + 1) := up_lt h.1 hup32
  obtain ⟨L, hL, hL'⟩ : ∃ L : Nat, L + m + 2 = k + 1 ∧ (k : Int) - (M2 : Int) + 1 = (L : Int) := ⟨k - (m + 2) + 1, by omega, by omega⟩
  have hR0s : A * 2 ^ up < C * 2 ^ up * 4294967296 ^ L := by
    have h1 : 4294967296 ^ (m + 1) ≤ C := by
      rcases hn'.2 with h0 | h0
      · omega
      · exact h0
    have h2 : 4294967296 ^ (m + 1) * 4294967296 ^ L ≤ C * 4294967296 ^ L := Nat.mul_le_mul_right _ h1
    rw [← Nat.pow_add, show m + 1 + L = k from by omega] at h2
    have h3 : A < C * 4294967296 ^ L := Nat.lt_of_lt_of_le h.1 h2
    have h4 := Nat.mul_lt_mul_of_pos_right h3 (Nat.two_pow_pos up)
    rw [Nat.mul_assoc, Nat.mul_comm (4294967296 ^ L), ← Nat.mul_assoc] at h4
    exact h4
  have HQ : Hid (A * 2 ^ up / (C * 2 ^ up) = A / C ∧ A * 2 ^ up % (C * 2 ^ up) / 2 ^ up = A % C) := by
    refine ⟨Nat.mul_div_mul_right _ _ (Nat.two_pow_pos _), ?_⟩
    rw [Nat.mul_mod_mul_right, Nat.mul_div_cancel _ (Nat.two_pow_pos _)]
  obtain ⟨k1, hk1, hk1'⟩ : ∃ k1 : Nat, k1 = k + 1 ∧ (k : Int) + 1 = (k1 : Int) := ⟨k + 1, rfl, by omega⟩
  have HA := hide (Row.old h.row)
  have HC := hide (Row.old h'.row)
  obtain ⟨_, hkA, ad, cap, rfl, hcA, _⟩ := h
  obtain ⟨_, hkC, ad', cap', rfl, hcC, hcell'⟩ := Row.old h'.row
  obtain ⟨gc, oc, rfl, hgc, hjc⟩ := hcell' (by omega)
  have hct := hjc (m + 1) (by omega)
  generalize dg C (m + 1) = top at *
  obtain ⟨t1, ht1, ht1'⟩ : ∃ t1 : Nat, t1 = m + 1 ∧ (M2 : Int) - 1 = (t1 : Int) := ⟨m + 1, rfl, by omega⟩
  rw [← ht1] at hct
  have hM2b : M2 ≤ 100000 := by omega
  have ht1k : (t1 : Int) < (M2 : Int) := by omega
  have HM2 := hide (And.intro hM2 ht1)
  have HF : Hid (C * 2 ^ up < 4294967296 ^ (m + 2) ∧ A * 2 ^ up < 4294967296 ^ (k + 1) ∧ A * 2 ^ up < C * 2 ^ up * 4294967296 ^ L) := ⟨hDl, hR0l, hR0s⟩
  have Hk1 := hide hk1
  clear hjc hcell' hn' hn2 hb hb1 hb0 hb32 hup htop hDl hR0l hR0s hk1 h' hM2 ht1 hCl hkm hkm2
  -- the first row
  have HW0 : Hid (Wk (w.alloc (.cells (madeCells #[Value.int .u32 0] k1) 24)) w.heap.size 0 k1 0 ∧ Below w.heap.size w (w.alloc (.cells (madeCells #[Value.int .u32 0] k1) 24)) ∧ w.heap.size < (w.alloc (.cells (madeCells #[Value.int .u32 0] k1) 24)).heap.size) :=
    ⟨wk_of_block (pw_pos _) (make_block w k1), (Below.refl _ _).alloc (Nat.le_refl _) _, by simp⟩
  go_enter Tryd.func93, Tryd.ntmps93
  go_wp2_with fail
  refine (HLZ.out w).mono ?_
  rintro e w1 ⟨rfl, rfl⟩
  go_wp2_with (at_make; refine wpList_make_row _ rfl _ _ _ rfl 24 i5 (.int .u32 0) Tryd.underlying23 Hi.out.1 Hi.out.2.1 Hi.out.2.2.1 rfl .i64 .i64 k1 rfl rfl (by rw [Hi.out.2.2.2]; have := Hk1.out; omega) (by have := Hk1.out; omega) ?_)
  have hg1 : w1.heap.size = w1.heap.size := rfl
  obtain ⟨wa, hwa⟩ : ∃ wa, wa = w1.alloc (.cells (madeCells #[Value.int .u32 0] k1) 24) := ⟨_, rfl⟩
  rw [← hwa] at HW0 ⊢
  clear hwa hg1
  refine (shiftInto_any _ w1.heap.size 0 k1 k1 0 _ k A up wa HW0.out.1 (by have := Hk1.out; omega) (Nat.le_refl _) (fun _ => rfl) ((HA.out.belowB HW0.out.2.1).mono (fun g _ hg => Nat.ne_of_lt hg)) hup32).mono ?_
  rintro e w2 ⟨rfl, hW2, hO2⟩
  have H2 : Hid (Wk w2 w1.heap.size 0 (k + 1) (A * 2 ^ up) ∧ Below w1.heap.size w1 w2 ∧ w1.heap.size < w2.heap.size) := by
    rw [Hk1.out, mod_self HF.out.2.1] at hW2
    exact ⟨hW2, HW0.out.2.1.trans (hO2.below (Nat.le_refl _) HW0.out.2.1.size), Nat.lt_of_lt_of_le HW0.out.2.2 hO2.size⟩
  clear hW2 hO2 HW0
  have HW3 : Hid (Wk (w2.alloc (.cells (madeCells #[Value.int .u32 0] M2) 24)) w2.heap.size 0 M2 0 ∧ Below w2.heap.size w2 (w2.alloc (.cells (madeCells #[Value.int .u32 0] M2) 24)) ∧ w2.heap.size < (w2.alloc (.cells (madeCells #[Value.int .u32 0] M2) 24)).heap.size) :=
    ⟨wk_of_block (pw_pos _) (make_block w2 M2), (Below.refl _ _).alloc (Nat.le_refl _) _, by simp⟩
  go_wp2_with (at_make; refine wpList_make_row _ rfl _ _ _ rfl 24 i5 (.int .u32 0) Tryd.underlying23 Hi.out.1 Hi.out.2.1 Hi.out.2.2.1 rfl .i64 .i64 M2 rfl rfl (by rw [Hi.out.2.2.2]; omega) (by omega) ?_)
  obtain ⟨wb, hwb⟩ : ∃ wb, wb = w2.alloc (.cells (madeCells #[Value.int .u32 0] M2) 24) := ⟨_, rfl⟩
  rw [← hwb] at HW3 ⊢
  clear hwb
  have HCb : Hid (RowX (· ≠ w2.heap.size) wb (.slice (some ⟨gc, oc, none⟩) M2 cap') M2 C) := by
    have h1 := (HC.out.belowB H2.out.2.1).mono (S' := (· < w2.heap.size)) (fun g hg _ => hg)
    exact (h1.belowB HW3.out.2.1).mono (fun g _ hg => Nat.ne_of_lt hg)
  refine (shiftInto_any _ w2.heap.size 0 M2 M2 0 _ M2 C up wb HW3.out.1 (by omega) (Nat.le_refl _) (fun _ => rfl) HCb.out hup32).mono ?_
  rintro e w3 ⟨rfl, hW3, hO3⟩
  have H3 : Hid (Wk w3 w1.heap.size 0 (k + 1) (A * 2 ^ up) ∧ Wk w3 w2.heap.size 0 (m + 2) (C * 2 ^ up) ∧ Below w1.heap.size w1 w3 ∧ w2.heap.size < w3.heap.size ∧ w1.heap.size < w2.heap.size) := by
    rw [HM2.out.1, mod_self HF.out.1] at hW3
    have hB := H2.out.2.1.size
    refine ⟨?_, hW3, H2.out.2.1.trans ((HW3.out.2.1.mono hB).trans (hO3.below hB (Nat.le_trans hB HW3.out.2.1.size))), Nat.lt_of_lt_of_le HW3.out.2.2 hO3.size, H2.out.2.2⟩
    exact (H2.out.1.below HW3.out.2.1 H2.out.2.2).only hO3 (Nat.ne_of_lt H2.out.2.2) (Nat.lt_of_lt_of_le H2.out.2.2 HW3.out.2.1.size)
  clear hW3 hO3 HW3 H2 HCb
  have HW4 : Hid (Wk (w3.alloc (.cells (madeCells #[Value.int .u32 0] L) 24)) w3.heap.size 0 L 0 ∧ Below w3.heap.size w3 (w3.alloc (.cells (madeCells #[Value.int .u32 0] L) 24)) ∧ w3.heap.size < (w3.alloc (.cells (madeCells #[Value.int .u32 0] L) 24)).heap.size) :=
    ⟨wk_of_block (pw_pos _) (make_block w3 L), (Below.refl _ _).alloc (Nat.le_refl _) _, by simp⟩
  have hLb : L ≤ 100001 := by omega
  go_wp2_with (at_make; refine wpList_make_row _ rfl _ _ _ rfl 24 i5 (.int .u32 0) Tryd.underlying23 Hi.out.1 Hi.out.2.1 Hi.out.2.2.1 rfl .i64 .i64 L rfl rfl (by rw [Hi.out.2.2.2]; omega) (by omega) ?_)
  obtain ⟨wc, hwc⟩ : ∃ wc, wc = w3.alloc (.cells (madeCells #[Value.int .u32 0] L) 24) := ⟨_, rfl⟩
  rw [← hwc] at HW4 ⊢
  clear hwc
  have HS : Hid (LongSt w1 w1.heap.size w2.heap.size w3.heap.size k m L (A * 2 ^ up) (C * 2 ^ up) L wc ∧ w1.heap.size < w2.heap.size ∧ w2.heap.size < w3.heap.size) := by
    have hs := HW4.out.2.1.size
    have h12 := H3.out.2.2.2.2
    have h23 := H3.out.2.2.2.1
    refine ⟨⟨?_, H3.out.2.1.below HW4.out.2.1 h23, HW4.out.1.dim _, H3.out.2.2.1.trans (HW4.out.2.1.mono H3.out.2.2.1.size), by omega, by omega, HW4.out.2.2⟩, h12, h23⟩
    rw [Nat.mod_eq_of_lt HF.out.2.2]
    exact H3.out.1.below HW4.out.2.1 (by omega)
  clear HW4 H3
  generalize w2.heap.size = g2 at *
  generalize w3.heap.size = g3 at *
  obtain ⟨R0, hR0⟩ : ∃ R0, R0 = A * 2 ^ up := ⟨_, rfl⟩
  obtain ⟨D, hD⟩ : ∃ D, D = C * 2 ^ up := ⟨_, rfl⟩
  rw [← hR0, ← hD] at HS
  rw [← hD] at hD0 hDt HF HQ
  rw [← hR0] at HF HQ
  clear hR0 hD
  go_loopw [43] (fun t43 wr => ∃ i : Nat, i ≤ L ∧ t43 = .int .i64 i ∧ Hid (LongSt w1 w1.heap.size g2 g3 k m L R0 D (L - i) wr)) (fun t43 _ => L - (intOf t43).toNat)
  case atStart => exact ⟨0, by omega, rfl, HS.out.1⟩
  case round =>
    obtain ⟨i, hi, rfl, HI⟩ := hrel
    by_cases hlt : i < L
    · have hlt' : (i : Int) < (L : Int) := by omega
      obtain ⟨j, hj, hj'⟩ : ∃ j : Nat, L - i = j + 1 ∧ (L : Int) - 1 - (i : Int) = (j : Int) := ⟨L - 1 - i, by omega, by omega⟩
      have HJ : Hid (LongSt w1 w1.heap.size g2 g3 k m L R0 D (j + 1) wr) := by have := HI.out; rw [hj] at this; exact this
      have hjL : j < L := by omega
      have hjL' : (j : Int) < (L : Int) := by omega
      obtain ⟨e1, he1, he1'⟩ : ∃ e1 : Nat, e1 = j + M2 ∧ (j : Int) + (M2 : Int) = (e1 : Int) := ⟨j + M2, rfl, by omega⟩
      obtain ⟨en, hen, hen'⟩ : ∃ en : Nat, en = j + M2 + 1 ∧ (e1 : Int) + 1 = (en : Int) := ⟨j + M2 + 1, rfl, by omega⟩
      have hMm := HM2.out.1
      have hk1e := Hk1.out
      have q1 : (0 : Int) ≤ (j : Int) := by omega
      have q2 : (en : Int) ≤ (k1 : Int) := by omega
      have q3 : (j : Int) ≤ (en : Int) := by omega
      have q4 : en ≤ k1 := by omega
      have q5 : j ≤ en := by omega
      have hne : ¬ en = j := by omega
      have hM22 : 2 ≤ M2 := by omega
      have hK3b : M2 + 1 ≤ 70368744177664 := by omega
      obtain ⟨K3, hK3, hsub⟩ : ∃ K3 : Nat, K3 = M2 + 1 ∧ en - j = K3 := ⟨M2 + 1, rfl, by omega⟩
      have HK3 := hide (And.intro hK3 hMm)
      have hK3n : K3 ≤ 70368744177664 := by omega
      have hm := long_mod R0 D j hD0
      have hRl := long_lt (R0 := R0) (j := j) hD0 HF.out.1
      have HT : Hid (Calls Tryd.prog 99 #[.slice (some ⟨w1.heap.size, j, none⟩) K3 K3, .slice (some ⟨g2, 0, none⟩) M2 M2] wr fun e w' => e = .returned (.int .u32 (R0 % (D * 4294967296 ^ (j + 1)) / 4294967296 ^ j / D : Nat)) ∧ Wk w' w1.heap.size j K3 (R0 % (D * 4294967296 ^ (j + 1)) / 4294967296 ^ j % D) ∧ Only w1.heap.size j (j + K3) wr w') := by
        refine takeOut_of w1.heap.size j K3 M2 K3 _ D _ wr hM22 hK3 ?_ hK3n (Nat.le_refl _) ?_ hD0 hm.1 ?_
        · have h1 := HJ.out.rest.sub j K3 (by omega)
          rw [Nat.zero_add, mod_self (div_lt_pow (by rw [hK3, hMm]; exact hRl))] at h1
          exact h1
        · have h1 := HJ.out.by_
          rw [← hMm] at h1
          exact h1.row (by omega) (Nat.le_refl _) (by have := HS.out.2; omega) _ (fun _ => rfl)
        · rw [hMm]; exact hDt
      have hfq : wr.frozen? ⟨g3, j, none⟩ = false := by have := HJ.out.q.free j hjL; rwa [Nat.zero_add] at this
      have hcq := HJ.out.q.lo j (by omega)
      rw [Nat.zero_add] at hcq
      have HRI := hide (And.intro hcq hfq)
      have Hstep := hide (fun (w2 : World) => HJ.out.step (w2 := w2) (by have := HS.out.2; omega) (by have := HS.out.2; omega) (by have := HS.out.2; omega) (Nat.le_refl _) (by have := HS.out.2; omega) hD0 HF.out.1 hjL hL)
      have Hj := hide hj
      clear hm hRl hcq hfq hMm hk1e he1 hen hK3 hj HI
      generalize R0 % (D * 4294967296 ^ (j + 1)) / 4294967296 ^ j / D = fq at *
      go_wp2_with fail
      refine HT.out.mono ?_
      rintro e w5 ⟨rfl, hW5, hO5⟩
      have hs3 := HS.out.2
      have hcq5 : w5.cell? ⟨g3, j, none⟩ = some (.int .u32 (dg 0 j : Nat)) := by rw [World.cell?_of_block (w := wr) (a := ⟨g3, j, none⟩) (hO5.block g3 HJ.out.sz.2.2 (by omega))]; exact HRI.out.1
      have hfq5 : w5.frozen? ⟨g3, j, none⟩ = false := by rw [World.frozen?_of_block (w := wr) (a := ⟨g3, j, none⟩) (hO5.block g3 HJ.out.sz.2.2 (by omega))]; exact HRI.out.2
      have H6 : Hid (LongSt w1 w1.heap.size g2 g3 k m L R0 D j (w5.setCell ⟨g3, j, none⟩ (.int .u32 (fq : Nat)))) := by
        have h3 : K3 = m + 3 := by have := HK3.out; omega
        rw [h3] at hW5 hO5
        exact Hstep.out w5 hO5 hW5
      clear hW5 hO5 hs3 Hstep HT
      go_wp2_with fail
      go_roundw
      case rel => exact ⟨i + 1, by omega, by go_num, by rw [show L - (i + 1) = j from by have := Hj.out; omega]; exact H6⟩
      case measure => simp [intOf]; omega
    · obtain rfl : i = L := by omega
      obtain ⟨n1, hn1⟩ := nrm_exists (A / C)
      have HE : Hid (RowX (w1.heap.size ≤ ·) wr (.slice (some ⟨g3, 0, none⟩) i i) i (A / C) ∧ RowX (w1.heap.size ≤ ·) wr (.slice (some ⟨w1.heap.size, 0, none⟩) k1 k1) k1 (R0 % D) ∧ Below w1.heap.size w1 wr) := by
        have h0 := HI.out
        rw [Nat.sub_self] at h0
        have h1 := h0.rest
        rw [Nat.pow_zero, Nat.mul_one, ← Hk1.out] at h1
        have hq := h0.q.wk (X := R0 / D) (by
          rw [Nat.div_lt_iff_lt_mul hD0, Nat.mul_comm]; exact HF.out.2.2)
        rw [HQ.out.1] at hq
        exact ⟨hq.row (by omega) (Nat.le_refl _) (by have := HS.out.2; omega) _ (fun _ => rfl), h1.row (by have := Hk1.out; omega) (Nat.le_refl _) (Nat.le_refl _) _ (fun _ => rfl), h0.below⟩
      have HN1 := hide hn1
      clear HI hn1
      go_wp2_with fail
      refine (trim_val _ i i (A / C) n1 wr HE.out.1 HN1.out).mono ?_
      rintro e w5 ⟨rfl, rfl⟩
      go_wp2_with fail
      refine (shiftDown_any _ k1 (R0 % D) up w5 HE.out.2.1 (by have := Hk1.out; omega)).mono ?_
      rintro e w6 ⟨r6, rfl, m6, hr6, hn6, _, hb6⟩
      rw [HQ.out.2] at hr6 hn6
      have H6 := hide (And.intro hr6 (And.intro hn6 hb6))
      clear hr6 hn6 hb6
      go_wp2_with fail
      refine (trim_any r6 m6 (A % C) w6 H6.out.1).mono ?_
      rintro e w7 ⟨r7, rfl, m7, hr7, hn7, _, rfl⟩
      have H7 : Hid (Parts w7 (.slice (some ⟨g3, 0, none⟩) n1 n1) r7 A C ∧ Below w1.heap.size w1 w7) := by
        refine ⟨⟨⟨n1, ((trim_row HE.out.1 HN1.out).1.below H6.out.2.2).row, HN1.out⟩, m7, hr7.row, hn7⟩, HE.out.2.2.trans (H6.out.2.2.mono HE.out.2.2.size)⟩
      clear hr7 hn7
      go_wp2_with fail
      go_ret2
      exact ⟨_, _, rfl, H7.out⟩

end Go.Proofs.YtmfimhpbdbbpoaaDoor

namespace Go.Proofs.YtmfimhpbdbbpoaaDoor
open Go.RowKit
open M
set_option linter.unusedVariables false
set_option linter.unusedSimpArgs false

set_option maxRecDepth 100000 in
set_option maxHeartbeats 1000000 in
theorem divide_any {S S' : Nat → Prop} (v u : Value) (k A m C : Nat) (w : World) (h : RowX S w v k A) (h' : RowX S' w u m C) (hn : Nrm k A) (hn' : Nrm m C) (hC : 0 < C) (hkb : k ≤ 100000) :
    Calls Tryd.prog 81 #[v, u] w fun e w' => ∃ q r, e = .returned (.tuple #[q, r]) ∧ Parts w' q r A C ∧ Below w.heap.size w w' := by
  by_cases hlt : A < C
  · exact divide_less v u k A m C w h h' hn hn' hlt
  by_cases hm1 : m = 1
  · subst hm1
    exact divide_one v u k A C w h h' hn hn' (by omega)
  have hm2 : 2 ≤ m := by
    have : m ≠ 0 := fun e => by have := hn'.zero_iff.1 e; omega
    omega
  have hkm : m ≤ k := by
    rcases Nat.lt_or_ge k m with h1 | h1
    · have := hn.lt_of hn' h1; omega
    · exact h1
  have H := hide (And.intro h.row h'.row)
  have HN := hide (And.intro hn hn')
  have hcmp : ¬ cmpI A C < 0 := by rw [cmpI_neg]; omega
  have hm1' : ((m : Int) == 1) = false := by rw [beq_eq_false_iff_ne]; omega
  obtain ⟨_, _, adu, capu, rfl, _, _⟩ := h'
  clear h hn hn'
  go_enter Tryd.func81, Tryd.ntmps81
  go_wp2_with fail
  refine (compare_below v _ k A m C _ H.out.1 H.out.2 HN.out.1 HN.out.2).mono ?_
  rintro e w2 ⟨rfl, hb2⟩
  have HB2 := hide hb2
  clear hb2
  generalize cmpI A C = cc at *
  go_wp2_with fail
  refine (divideLong_any v _ k A (m - 2) C w2 (H.out.1.below HB2.out) m (by omega) (H.out.2.below HB2.out) HN.out.2 hkm hkb).mono ?_
  rintro e w3 ⟨q, r, rfl, hp, hb3⟩
  have H3 := hide (And.intro hp (HB2.out.trans (hb3.mono HB2.out.size)))
  clear hp hb3
  go_wp2_with fail
  go_ret2
  exact ⟨q, r, rfl, H3.out⟩

theorem DivMod_num {v u : Value} {A C : Nat} {w : World} (h : Num w v A) (h' : Num w u C) (hC : 0 < C) :
    Calls Tryd.prog 45 #[v, u] w fun e w' => ∃ q r, e = .returned (.tuple #[q, r, .int .i64 0]) ∧ Num w' q (A / C) ∧ Num w' r (A % C) ∧ Below w.heap.size w w' := by
  have hf := h.fits
  have hf' := h'.fits
  obtain ⟨k, h1, h2, h3⟩ := h
  obtain ⟨m, g1, g2, g3⟩ := h'
  refine (DivMod_of h1 h2 h3 g1 g2 g3 hC (divide_any v u k A m C w h1 g1 h2 g2 hC (by omega))).mono ?_
  rintro e w' ⟨q, r, he, ⟨mid, n1, n2, _, hq, hqn, _, hr, hrn⟩, hb⟩
  exact ⟨q, r, he, hq.num hqn (hf.le (Nat.div_le_self _ _)), hr.num hrn (hf'.le (Nat.le_of_lt (Nat.mod_lt _ hC))), hb⟩

set_option maxRecDepth 100000 in
theorem DivMod_zero {v u : Value} {A : Nat} {w : World} (h : Num w v A) (h' : Num w u 0) :
    Calls Tryd.prog 45 #[v, u] w fun e w' => e = .returned (.tuple #[.slice none 0 0, .slice none 0 0, .int .i64 23]) ∧ w' = w := by
  obtain ⟨k, h1, h2, h3⟩ := h
  obtain ⟨m, g1, g2, g3⟩ := h'
  have HC := hide (checkBoth_ok v u k A m 0 w h1 g1 h2 g2 h3 g3)
  obtain rfl : m = 0 := g2.zero_iff.2 rfl
  obtain ⟨_, _, ad', cap', rfl, _, _⟩ := g1
  clear h1 h2 g2
  go_enter Tryd.func45, Tryd.ntmps45
  go_wp2_with fail
  refine HC.out.mono ?_
  rintro e w1 ⟨rfl, rfl⟩
  go_wp2_with fail
  go_ret3
  exact ⟨rfl, rfl⟩

end Go.Proofs.YtmfimhpbdbbpoaaDoor

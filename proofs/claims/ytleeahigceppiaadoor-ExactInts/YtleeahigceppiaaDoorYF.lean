/- Moments of finite values: Add. -/
import Derived.Test.YtleeahigceppiaaDoorYD
import Derived.Test.YtleeahigceppiaaDoorQT
import Derived.Deep.RegionHeld3
/- valueOf of a finite number. -/
namespace Go.Proofs.YtleeahigceppiaaDoor
open Go.RowKit
open M
open Flt
set_option linter.unusedVariables false
set_option linter.unusedSimpArgs false

theorem odd_split (x q m e : Nat) (hx : x % 2 = 1) (hm : 0 < m) (hm2 : m < 2 ^ 53) (h : x * 2 ^ q = m * 2 ^ e) : x < 2 ^ 53 ∧ q < e + 53 := by
  rcases Nat.lt_or_ge q e with hq | hq
  · obtain ⟨d, rfl⟩ : ∃ d, e = q + (d + 1) := ⟨e - q - 1, by omega⟩
    rw [Nat.pow_add, Nat.mul_comm (2 ^ q), ← Nat.mul_assoc] at h
    have h2 := Nat.eq_of_mul_eq_mul_right (Nat.two_pow_pos q) h
    rw [Nat.pow_succ, ← Nat.mul_assoc] at h2
    omega
  · obtain ⟨d, rfl⟩ : ∃ d, q = e + d := ⟨q - e, by omega⟩
    rw [Nat.pow_add, Nat.mul_comm (2 ^ e), ← Nat.mul_assoc] at h
    have h2 := Nat.eq_of_mul_eq_mul_right (Nat.two_pow_pos e) h
    have h3 : x * 1 ≤ x * 2 ^ d := Nat.mul_le_mul_left _ (Nat.two_pow_pos d)
    have h4 : 1 * 2 ^ d ≤ x * 2 ^ d := Nat.mul_le_mul_right _ (by omega)
    refine ⟨by omega, ?_⟩
    have h5 : 2 ^ d < 2 ^ 53 := by omega
    have := (Nat.pow_lt_pow_iff_right (by omega : 1 < 2)).1 h5
    omega

theorem V_odd (r x q : Nat) (h0 : 0 < r) (hr : r < 9218868437227405312) (hx : x % 2 = 1) (h : x * 2 ^ q = V Ieee.double r) : x < 9007199254740992 ∧ q ≤ 2098 := by
  have hb : Ieee.double.binade = 4503599627370496 := by decide
  unfold V at h
  rw [hb] at h
  by_cases c : r < 4503599627370496
  · rw [if_pos c] at h
    obtain ⟨h1, h2⟩ := odd_split x q r 0 hx h0 (by omega) (by rw [h, Nat.pow_zero, Nat.mul_one])
    exact ⟨by omega, by omega⟩
  · rw [if_neg c] at h
    obtain ⟨h1, h2⟩ := odd_split x q _ _ hx (by omega) (by omega) h
    exact ⟨by omega, by omega⟩

/-- What a finite value is in units of the least one. -/
def ofV (b : Nat) : Int := W6.sgn (decide (9223372036854775808 ≤ b)) (V Ieee.double (b % 9223372036854775808))

def ValEnd (b : Nat) (w : World) (e : Ending) (w' : World) : Prop :=
  ∃ x q : Nat, e = .returned (.tuple #[prt (decide (9223372036854775808 ≤ b)) x q, .bool true]) ∧ x < 9007199254740992 ∧ q ≤ 2098 ∧ x * 2 ^ q = V Ieee.double (b % 9223372036854775808) ∧ Below w.heap.size w w'

set_option maxRecDepth 100000 in
set_option maxHeartbeats 2000000 in
theorem valueOf_fin (b : Nat) (w : World) (hb : b < 18446744073709551616) (hf : b % 9223372036854775808 < 9218868437227405312) (hT : Tab64 w) :
    Calls Tryd.prog 9 #[.int .u64 b] w fun e w' => ValEnd b w e w' := by
  have hbW : ∀ o, Below w.heap.size w (w.alloc o) := fun o => (Below.refl _ w).alloc (Nat.le_refl _) _
  have HSP : Hid (∀ W : World, Below w.heap.size w W → w.heap.size ≤ W.heap.size → Calls Tryd.prog 16 #[.int .u64 b] W fun e w' => ∃ x q : Nat, e = .returned (.tuple #[.bool (decide (9223372036854775808 ≤ b)), .int .u64 x, .int .i64 ((q : Int) - 1074), .bool true]) ∧ x < 9007199254740992 ∧ q ≤ 2098 ∧ x * 2 ^ q = V Ieee.double (b % 9223372036854775808) ∧ Below W.heap.size W w') := by
    intro W hW _
    by_cases h0 : b % 9223372036854775808 = 0
    · refine (Split_zero b W hb h0).mono ?_
      rintro e w' ⟨rfl, rfl⟩
      obtain ⟨q, hq⟩ : ∃ q : Nat, q = 1074 := ⟨_, rfl⟩
      exact ⟨0, q, by rw [hq]; rfl, by omega, by omega, by rw [h0, V_zero, Nat.zero_mul], Below.refl _ _⟩
    · refine (Split_num b W hb (by omega) hf (hT.below hW)).mono ?_
      rintro e w' ⟨x, q, rfl, h1, h2, h3⟩
      obtain ⟨h4, h5⟩ := V_odd _ x q (by omega) hf h1 h2
      exact ⟨x, q, rfl, h4, h5, h2, h3⟩
  unfold ValEnd
  generalize V Ieee.double (b % 9223372036854775808) = U at *
  generalize decide (9223372036854775808 ≤ b) = s at *
  clear hf hb hT
  go_enter Tryd.func9, Tryd.ntmps9
  go_wp2_with fail
  refine (HSP.out _ (hbW _) (by simp)).mono ?_
  rintro e w2 ⟨x, q, rfl, hx, hq, hU, B2⟩
  have B0 := (hbW (.cells #[.bool false, .int .u64 0, .int .i64 0] 38)).trans (B2.mono (by simp))
  have k0 : w2.cell? ⟨w.heap.size, 0, none⟩ = some (.bool false) := by rw [B2.cell (p := ⟨w.heap.size, 0, none⟩) (by simp)]; exact cell_of_row _ _ 0 _ _ _ (heap_alloc_new w _)
  have k1 : w2.cell? ⟨w.heap.size, 1, none⟩ = some (.int .u64 0) := by rw [B2.cell (p := ⟨w.heap.size, 1, none⟩) (by simp)]; exact cell_of_row _ _ 1 _ _ _ (heap_alloc_new w _)
  have k2 : w2.cell? ⟨w.heap.size, 2, none⟩ = some (.int .i64 0) := by rw [B2.cell (p := ⟨w.heap.size, 2, none⟩) (by simp)]; exact cell_of_row _ _ 2 _ _ _ (heap_alloc_new w _)
  have z0 : w2.frozen? ⟨w.heap.size, 0, none⟩ = false := by rw [B2.frozen (p := ⟨w.heap.size, 0, none⟩) (by simp)]; exact frozen_of_row _ _ _ _ _ (heap_alloc_new w _)
  have z1 : w2.frozen? ⟨w.heap.size, 1, none⟩ = false := by rw [B2.frozen (p := ⟨w.heap.size, 1, none⟩) (by simp)]; exact frozen_of_row _ _ _ _ _ (heap_alloc_new w _)
  have z2 : w2.frozen? ⟨w.heap.size, 2, none⟩ = false := by rw [B2.frozen (p := ⟨w.heap.size, 2, none⟩) (by simp)]; exact frozen_of_row _ _ _ _ _ (heap_alloc_new w _)
  have HB := fhide (And.intro B0 hU)
  clear B2 B0 hU HSP hbW
  go_wp2_with fail
  obtain ⟨r0, r1, r2, r3⟩ := three_put (a := .bool s) (b := .int .u64 (x : Nat)) (c := .int .i64 (q : Nat)) k0 k1 k2
  refine bodyPost_ret (v := .tuple #[prt s x q, .bool true]) (by simp [results, Tryd.results9, go_sem, prt, r0, r1, r2]) rfl ?_
  exact ⟨x, q, rfl, hx, hq, HB.out.2, r3 _ _ (Nat.le_refl _) HB.out.1⟩

end Go.Proofs.YtleeahigceppiaaDoor

namespace Go.Proofs.YtleeahigceppiaaDoor
open Go.RowKit
open M
open Flt
set_option linter.unusedVariables false
set_option linter.unusedSimpArgs false

/-- Moments of finite values alone, in block g: how many, whether all are -0, the sum, and that of the squares. -/
structure Mo (w : World) (g c : Nat) (dark : Bool) (S S2 : Int) : Prop where
  k0 : w.cell? ⟨g, 0, none⟩ = some (.int .u64 (c : Nat))
  k1 : w.cell? ⟨g, 1, none⟩ = some (.int .u64 0)
  k2 : w.cell? ⟨g, 2, none⟩ = some (.int .u64 0)
  k3 : w.cell? ⟨g, 3, none⟩ = some (.int .u64 0)
  k4 : w.cell? ⟨g, 4, none⟩ = some (.bool dark)
  fr : ∀ j, w.frozen? ⟨g, j, none⟩ = false
  su : Ws w g 5 34 (W6.tc 34 S)
  sq : Ws w g 39 67 (W6.tc 67 S2)

theorem Mo.lt {w : World} {g c : Nat} {dark : Bool} {S S2 : Int} (h : Mo w g c dark S S2) : g < w.heap.size := block_lt_of_cell h.k0

theorem Mo.below {w w' : World} {g c B : Nat} {dark : Bool} {S S2 : Int} (h : Mo w g c dark S S2) (hb : Below B w w') (hg : g < B) : Mo w' g c dark S S2 :=
  ⟨by rw [hb.cell (p := ⟨g, 0, none⟩) hg]; exact h.k0, by rw [hb.cell (p := ⟨g, 1, none⟩) hg]; exact h.k1, by rw [hb.cell (p := ⟨g, 2, none⟩) hg]; exact h.k2, by rw [hb.cell (p := ⟨g, 3, none⟩) hg]; exact h.k3, by rw [hb.cell (p := ⟨g, 4, none⟩) hg]; exact h.k4,
   fun j => by rw [hb.frozen (p := ⟨g, j, none⟩) hg]; exact h.fr j, h.su.below hb hg, h.sq.below hb hg⟩

theorem Mo.count {w : World} {g c c' : Nat} {dark d' : Bool} {S S2 : Int} (h : Mo w g c dark S S2) : Mo ((w.setCell ⟨g, 4, none⟩ (.bool d')).setCell ⟨g, 0, none⟩ (.int .u64 (c' : Nat))) g c' d' S S2 := by
  have h4 := h.k4
  have o : Only g 0 5 w ((w.setCell ⟨g, 4, none⟩ (.bool d')).setCell ⟨g, 0, none⟩ (.int .u64 (c' : Nat))) := ((Only.refl g 0 5 w).setCell 4 (by omega) (by omega) _).setCell 0 (by omega) (by omega) _
  refine ⟨?_, ?_, ?_, ?_, ?_, fun j => by rw [o.frozen]; exact h.fr j, h.su.apart o (.inr (by omega)), h.sq.apart o (.inr (by omega))⟩
  · exact cell_setCell_eq _ _ _ _ (.int .u64 (c : Nat)) (by rw [cell_setCell_ne _ _ _ _ _ (by omega)]; exact h.k0)
  · rw [cell_setCell_ne _ _ _ _ _ (by omega), cell_setCell_ne _ _ _ _ _ (by omega)]; exact h.k1
  · rw [cell_setCell_ne _ _ _ _ _ (by omega), cell_setCell_ne _ _ _ _ _ (by omega)]; exact h.k2
  · rw [cell_setCell_ne _ _ _ _ _ (by omega), cell_setCell_ne _ _ _ _ _ (by omega)]; exact h.k3
  · rw [cell_setCell_ne _ _ _ _ _ (by omega)]; exact cell_setCell_eq _ _ _ _ _ h.k4

theorem Mo.sum {w w' : World} {g c : Nat} {dark : Bool} {S S2 T : Int} (h : Mo w g c dark S S2) (o : Only g 5 39 w w') (s : Ws w' g 5 34 (W6.tc 34 T)) : Mo w' g c dark T S2 :=
  ⟨by rw [o.cell 0 (by omega)]; exact h.k0, by rw [o.cell 1 (by omega)]; exact h.k1, by rw [o.cell 2 (by omega)]; exact h.k2, by rw [o.cell 3 (by omega)]; exact h.k3, by rw [o.cell 4 (by omega)]; exact h.k4,
   fun j => by rw [o.frozen]; exact h.fr j, s, h.sq.apart o (.inr (by omega))⟩

theorem Mo.squares {w w' : World} {g c : Nat} {dark : Bool} {S S2 T : Int} (h : Mo w g c dark S S2) (o : Only g 39 106 w w') (s : Ws w' g 39 67 (W6.tc 67 T)) : Mo w' g c dark S T :=
  ⟨by rw [o.cell 0 (by omega)]; exact h.k0, by rw [o.cell 1 (by omega)]; exact h.k1, by rw [o.cell 2 (by omega)]; exact h.k2, by rw [o.cell 3 (by omega)]; exact h.k3, by rw [o.cell 4 (by omega)]; exact h.k4,
   fun j => by rw [o.frozen]; exact h.fr j, h.su.apart o (.inl (by omega)), s⟩

theorem Tab64.only {w w' : World} {g lo hi : Nat} (h : Tab64 w) (o : Only g lo hi w w') (hg : g ≠ 1) : Tab64 w' := fun j hj => by
  rw [World.cell?_of_block (w := w) (a := ⟨1, j, none⟩) (o.block 1 (block_lt_of_cell (h j hj)) (by omega))]; exact h j hj

/-- Whether all are -0, behind one more. -/
def dk (b c : Nat) (dark : Bool) : Bool := decide (b = 9223372036854775808) && (dark || decide (c = 0))

set_option maxRecDepth 100000 in
set_option maxHeartbeats 2000000 in
theorem Add_fin {w : World} {g c : Nat} {dark : Bool} {S S2 : Int} (b : Nat) (h : Mo w g c dark S S2) (hc : c < 9007199254740992) (hb : b < 18446744073709551616) (hf : b % 9223372036854775808 < 9218868437227405312) (hT : Tab64 w) (hg1 : g ≠ 1) :
    Calls Tryd.prog 5 #[.pointer (some ⟨g, 0, none⟩), .int .u64 b] w fun e w' => e = .returned (.int .i64 0) ∧ Mo w' g (c + 1) (dk b c dark) (S + ofV b) (S2 + ofV b * ofV b) ∧ Only g 0 106 w w' := by
  have HV : Hid (∀ W : World, Only g 0 106 w W → Calls Tryd.prog 9 #[.int .u64 b] W fun e w' => ValEnd b W e w') := fun W o => valueOf_fin b W hb hf (hT.only o hg1)
  have hlt := h.lt
  have f0 := h.fr 0
  have f4 := h.fr 4
  have c0 := h.k0
  have c4 := h.k4
  have HMo := fhide h
  have hc' : ¬ (9007199254740992 : Int) ≤ (c : Int) := by omega
  have Hend : Hid (∀ (D : Bool) (W1 W2 W3 : World), ∀ x q : Nat, x * 2 ^ q = V Ieee.double (b % 9223372036854775808) → Mo W1 g (c + 1) D S S2 → Only g 5 39 W1 W2 → Ws W2 g 5 34 (W6.tc 34 (S + W6.sgn (decide (9223372036854775808 ≤ b) != false) (x * 1 * 2 ^ (q + 0)))) → Only g 39 106 W2 W3 → Ws W3 g 39 67 (W6.tc 67 (S2 + W6.sgn (decide (9223372036854775808 ≤ b) != decide (9223372036854775808 ≤ b)) (x * x * 2 ^ (q + q)))) → Mo W3 g (c + 1) D (S + ofV b) (S2 + ofV b * ofV b)) := by
    intro D W1 W2 W3 x q hxq m o1 s1 o2 s2
    have e1 : W6.sgn (decide (9223372036854775808 ≤ b) != false) (x * 1 * 2 ^ (q + 0)) = ofV b := by
      unfold ofV; rw [Nat.mul_one, Nat.add_zero, hxq]; cases decide (9223372036854775808 ≤ b) <;> rfl
    have e2 : W6.sgn (decide (9223372036854775808 ≤ b) != decide (9223372036854775808 ≤ b)) (x * x * 2 ^ (q + q)) = ofV b * ofV b := by
      rw [Nat.pow_add, Nat.mul_mul_mul_comm, hxq]; unfold ofV
      cases decide (9223372036854775808 ≤ b) <;> simp [W6.sgn, Int.neg_mul_neg]
    rw [e1] at s1
    rw [e2] at s2
    exact (m.sum o1 s1).squares o2 s2
  obtain ⟨β, hbe⟩ : ∃ β, ((b : Int) == 9223372036854775808) = β := ⟨_, rfl⟩
  obtain ⟨γ, hce⟩ : ∃ γ, ((c : Int) == 0) = γ := ⟨_, rfl⟩
  have hd : dk b c dark = (β && (dark || γ)) := by
    unfold dk
    rw [← hbe, ← hce]
    have e1 : decide (b = 9223372036854775808) = ((b : Int) == 9223372036854775808) := by
      by_cases h1 : b = 9223372036854775808
      · simp [h1]
      · have : ¬ (b : Int) = 9223372036854775808 := by omega
        simp [h1, this]
    have e2 : decide (c = 0) = ((c : Int) == 0) := by
      by_cases h1 : c = 0
      · simp [h1]
      · have : ¬ (c : Int) = 0 := by omega
        simp [h1, this]
    rw [e1, e2]
  rw [hd] at *
  clear hd
  generalize hd' : (β && (dark || γ)) = d' at *
  obtain ⟨W1, hW1⟩ : ∃ W1, W1 = (w.setCell ⟨g, 4, none⟩ (.bool d')).setCell ⟨g, 0, none⟩ (.int .u64 ((c : Int) + 1)) := ⟨_, rfl⟩
  have HM1 : Hid (Only g 0 106 w W1 ∧ Mo W1 g (c + 1) d' S S2) := by
    rw [hW1, show (c : Int) + 1 = ((c + 1 : Nat) : Int) from by omega]
    exact ⟨((Only.refl g 0 106 w).setCell 4 (by omega) (by omega) _).setCell 0 (by omega) (by omega) _, h.count⟩
  obtain ⟨s, hs⟩ : ∃ s, s = decide (9223372036854775808 ≤ b) := ⟨_, rfl⟩
  have hlt1 : g < W1.heap.size := HM1.out.2.lt
  unfold ValEnd at HV
  rw [← hs] at Hend HV
  generalize ofV b = T at *
  generalize V Ieee.double (b % 9223372036854775808) = U at *
  clear hf hT h hc hs
  go_enter Tryd.func5, Tryd.ntmps5
  rcases β with _ | _
  rotate_left
  rcases dark with _ | _
  rotate_left
  all_goals
    simp only [Bool.true_and, Bool.false_and, Bool.true_or, Bool.false_or] at hd'
    rw [← hd'] at hW1
    have HW1 := fhide hW1
    clear hW1 hd' hlt1
    go_wp2_with (simp only [hbe, hce])
    rw [← HW1.out]
    clear HW1 c0 c4 f0 f4 hbe hce hlt HMo
    have hlt1 : g < W1.heap.size := HM1.out.2.lt
    refine (HV.out _ HM1.out.1).mono ?_
    rintro e w2 ⟨x, q, rfl, hx, hq, hxq, B2⟩
    simp only [prt]
    go_wp2_with fail
    obtain ⟨W3, hW3⟩ : ∃ W3, W3 = w2.alloc (.cells #[.bool s, .int .u64 (x : Nat), .int .i64 (q : Nat)] 38) := ⟨_, rfl⟩
    obtain ⟨h, hh⟩ : ∃ h, h = w2.heap.size := ⟨_, rfl⟩
    rw [← hW3, ← hh]
    have B3 : Below W1.heap.size W1 W3 := by rw [hW3]; exact B2.alloc B2.size _
    have hgh : h ≠ g := by have := B2.size; omega
    have k0 : W3.drew.cell? ⟨h, 0, none⟩ = some (.bool s) := by rw [hW3, hh]; exact cell_of_row _ _ 0 _ _ _ (heap_alloc_new w2 _)
    have k1 : W3.drew.cell? ⟨h, 1, none⟩ = some (.int .u64 (x : Nat)) := by rw [hW3, hh]; exact cell_of_row _ _ 1 _ _ _ (heap_alloc_new w2 _)
    have k2 : W3.drew.cell? ⟨h, 2, none⟩ = some (.int .i64 (q : Nat)) := by rw [hW3, hh]; exact cell_of_row _ _ 2 _ _ _ (heap_alloc_new w2 _)
    have HI : Hid (Below W1.heap.size W1 W3.drew) := B3.drew
    have HG1 : Hid (∀ V : World, Below W1.heap.size W1 V → Calls Tryd.prog 10 #[.slice (some ⟨g, 5, none⟩) 34 34, prt s x q, prt false 1 0] V fun e w' => e = .returned (.tuple #[]) ∧ Ws w' g 5 34 (W6.tc 34 (S + W6.sgn (s != false) (x * 1 * 2 ^ (q + 0)))) ∧ Only g 5 39 V w') :=
      fun V hV => gather_any g 5 34 34 S s false x 1 q 0 V (HM1.out.2.below hV hlt1).su (by omega) (by omega) (by omega) (HM1.out.2.below hV hlt1).lt (by omega) (by omega) (by omega)
    have HG2 : Hid (∀ V : World, Ws V g 39 67 (W6.tc 67 S2) → g < V.heap.size → Calls Tryd.prog 10 #[.slice (some ⟨g, 39, none⟩) 67 67, prt s x q, prt s x q] V fun e w' => e = .returned (.tuple #[]) ∧ Ws w' g 39 67 (W6.tc 67 (S2 + W6.sgn (s != s) (x * x * 2 ^ (q + q)))) ∧ Only g 39 106 V w') :=
      fun V hV hl => gather_any g 39 67 67 S2 s s x x q q V hV (by omega) (by omega) (by omega) hl (by omega) (by omega) (by omega)
    have HX := fhide (And.intro hxq hlt1)
    clear hW3 hh B3 B2 hxq hx hq HV
    go_region_held3 (fun w' => w'.cell? ⟨h, 0, none⟩ = some (.bool s) ∧ w'.cell? ⟨h, 1, none⟩ = some (.int .u64 (x : Nat)) ∧ w'.cell? ⟨h, 2, none⟩ = some (.int .i64 (q : Nat))) (exact ⟨k0, k1, k2⟩)
      (first | (go_at_call 11; go_must (refine (once_any _).mono ?_); rintro _ w5 ⟨rfl, B5⟩; have HI := fhide (HI.out.trans (B5.mono HI.out.size)); have k0 : w5.cell? ⟨h, 0, none⟩ = some (.bool s) := (by rw [B5.cell (p := ⟨h, 0, none⟩) (block_lt_of_cell k0)]; exact k0); have k1 : w5.cell? ⟨h, 1, none⟩ = some (.int .u64 (x : Nat)) := (by rw [B5.cell (p := ⟨h, 1, none⟩) (block_lt_of_cell k1)]; exact k1); have k2 : w5.cell? ⟨h, 2, none⟩ = some (.int .i64 (q : Nat)) := (by rw [B5.cell (p := ⟨h, 2, none⟩) (block_lt_of_cell k2)]; exact k2); clear B5) | (go_at_call 10; go_must (refine (HG1.out _ HI.out).mono ?_); rintro _ w6 ⟨rfl, hS6, hO6⟩; have HJ := fhide (And.intro HI.out (And.intro hS6 hO6)); have k0 : w6.cell? ⟨h, 0, none⟩ = some (.bool s) := (by rw [World.cell?_of_block (hO6.block h (block_lt_of_cell k0) hgh)]; exact k0); have k1 : w6.cell? ⟨h, 1, none⟩ = some (.int .u64 (x : Nat)) := (by rw [World.cell?_of_block (hO6.block h (block_lt_of_cell k1) hgh)]; exact k1); have k2 : w6.cell? ⟨h, 2, none⟩ = some (.int .i64 (q : Nat)) := (by rw [World.cell?_of_block (hO6.block h (block_lt_of_cell k2) hgh)]; exact k2); clear hS6 hO6 HI))
    have HK : Hid (Ws w6.drew g 39 67 (W6.tc 67 S2) ∧ g < w6.drew.heap.size) := by
      have m5 := HM1.out.2.below HJ.out.1 HX.out.2
      exact ⟨(m5.sq.apart HJ.out.2.2 (.inr (by omega))).drew, Nat.lt_of_lt_of_le m5.lt HJ.out.2.2.size⟩
    go_wp2_with fail
    have k0 : w6.drew.cell? ⟨h, 0, none⟩ = some (.bool s) := k0
    have k1 : w6.drew.cell? ⟨h, 1, none⟩ = some (.int .u64 (x : Nat)) := k1
    have k2 : w6.drew.cell? ⟨h, 2, none⟩ = some (.int .i64 (q : Nat)) := k2
    go_region_held3 (fun w' => w'.cell? ⟨h, 0, none⟩ = some (.bool s) ∧ w'.cell? ⟨h, 1, none⟩ = some (.int .u64 (x : Nat)) ∧ w'.cell? ⟨h, 2, none⟩ = some (.int .i64 (q : Nat))) (exact ⟨k0, k1, k2⟩)
      (first | (go_at_call 10; go_must (refine (HG2.out _ HK.out.1 HK.out.2).mono ?_); rintro _ w8 ⟨rfl, hS8, hO8⟩; have HL := fhide (And.intro hS8 hO8); have k0 : w8.cell? ⟨h, 0, none⟩ = some (.bool s) := (by rw [World.cell?_of_block (hO8.block h (block_lt_of_cell k0) hgh)]; exact k0); have k1 : w8.cell? ⟨h, 1, none⟩ = some (.int .u64 (x : Nat)) := (by rw [World.cell?_of_block (hO8.block h (block_lt_of_cell k1) hgh)]; exact k1); have k2 : w8.cell? ⟨h, 2, none⟩ = some (.int .i64 (q : Nat)) := (by rw [World.cell?_of_block (hO8.block h (block_lt_of_cell k2) hgh)]; exact k2); clear hS8 hO8 HK))
    go_wp2_with fail
    go_ret
    have o6 := HJ.out.2.2.drew
    exact ⟨rfl, Hend.out _ _ _ _ x q HX.out.1 (HM1.out.2.below HJ.out.1 HX.out.2) o6 HJ.out.2.1.drew HL.out.2 HL.out.1, HM1.out.1.trans ((Only.of_below HJ.out.1 HX.out.2).trans ((o6.wider (by omega) (by omega)).trans (HL.out.2.wider (by omega) (by omega))))⟩

end Go.Proofs.YtleeahigceppiaaDoor

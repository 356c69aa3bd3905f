/- Package exact: the nearest float of a number's leading bits. -/
import Derived.Test.YtolaaemkcmiabaaDoorYE
import Derived.Deep.RegionHeld3
import Derived.Test.YtolaaemkcmiabaaDoorXA
import Derived.Test.YtolaaemkcmiabaaDoorRB
/- Moments of finite values: Add. -/
namespace Go.Proofs.YtolaaemkcmiabaaDoor
open Go.RowKit
open M
open Flt
set_option linter.unusedVariables false
set_option linter.unusedSimpArgs false

/-- Moments of finite values alone, in block g: how many, whether all are -0, the sum, and that of the squares. -/
structure Mo (w : World) (g c : Nat) (dark : Bool) (S S2 : Int) : Prop where
  k0 : w.cell? ⟨g, 0, none⟩ = some (.int .u64 (c : Nat))
  k1 : w.cell? ⟨g, 1, none⟩ = some (.int .u64 0)
  k2 : w.cell? ⟨g, 2, none⟩ = some (.int .u64 0)
  k3 : w.cell? ⟨g, 3, none⟩ = some (.int .u64 0)
  k4 : w.cell? ⟨g, 4, none⟩ = some (.bool dark)
  fr : ∀ j, w.frozen? ⟨g, j, none⟩ = false
  su : Ws w g 5 34 (W6.tc 34 S)
  sq : Ws w g 39 67 (W6.tc 67 S2)

theorem Mo.lt {w : World} {g c : Nat} {dark : Bool} {S S2 : Int} (h : Mo w g c dark S S2) : g < w.heap.size := block_lt_of_cell h.k0

theorem Mo.below {w w' : World} {g c B : Nat} {dark : Bool} {S S2 : Int} (h : Mo w g c dark S S2) (hb : Below B w w') (hg : g < B) : Mo w' g c dark S S2 :=
  ⟨by rw [hb.cell (p := ⟨g, 0, none⟩) hg]; exact h.k0, by rw [hb.cell (p := ⟨g, 1, none⟩) hg]; exact h.k1, by rw [hb.cell (p := ⟨g, 2, none⟩) hg]; exact h.k2, by rw [hb.cell (p := ⟨g, 3, none⟩) hg]; exact h.k3, by rw [hb.cell (p := ⟨g, 4, none⟩) hg]; exact h.k4,
   fun j => by rw [hb.frozen (p := ⟨g, j, none⟩) hg]; exact h.fr j, h.su.below hb hg, h.sq.below hb hg⟩

theorem Mo.count {w : World} {g c c' : Nat} {dark d' : Bool} {S S2 : Int} (h : Mo w g c dark S S2) : Mo ((w.setCell ⟨g, 4, none⟩ (.bool d')).setCell ⟨g, 0, none⟩ (.int .u64 (c' : Nat))) g c' d' S S2 := by
  have h4 := h.k4
  have o : Only g 0 5 w ((w.setCell ⟨g, 4, none⟩ (.bool d')).setCell ⟨g, 0, none⟩ (.int .u64 (c' : Nat))) := ((Only.refl g 0 5 w).setCell 4 (by omega) (by omega) _).setCell 0 (by omega) (by omega) _
  refine ⟨?_, ?_, ?_, ?_, ?_, fun j => by rw [o.frozen]; exact h.fr j, h.su.apart o (.inr (by omega)), h.sq.apart o (.inr (by omega))⟩
  · exact cell_setCell_eq _ _ _ _ (.int .u64 (c : Nat)) (by rw [cell_setCell_ne _ _ _ _ _ (by omega)]; exact h.k0)
  · rw [cell_setCell_ne _ _ _ _ _ (by omega), cell_setCell_ne _ _ _ _ _ (by omega)]; exact h.k1
  · rw [cell_setCell_ne _ _ _ _ _ (by omega), cell_setCell_ne _ _ _ _ _ (by omega)]; exact h.k2
  · rw [cell_setCell_ne _ _ _ _ _ (by omega), cell_setCell_ne _ _ _ _ _ (by omega)]; exact h.k3
  · rw [cell_setCell_ne _ _ _ _ _ (by omega)]; exact cell_setCell_eq _ _ _ _ _ h.k4

theorem Mo.sum {w w' : World} {g c : Nat} {dark : Bool} {S S2 T : Int} (h : Mo w g c dark S S2) (o : Only g 5 39 w w') (s : Ws w' g 5 34 (W6.tc 34 T)) : Mo w' g c dark T S2 :=
  ⟨by rw [o.cell 0 (by omega)]; exact h.k0, by rw [o.cell 1 (by omega)]; exact h.k1, by rw [o.cell 2 (by omega)]; exact h.k2, by rw [o.cell 3 (by omega)]; exact h.k3, by rw [o.cell 4 (by omega)]; exact h.k4,
   fun j => by rw [o.frozen]; exact h.fr j, s, h.sq.apart o (.inr (by omega))⟩

theorem Mo.squares {w w' : World} {g c : Nat} {dark : Bool} {S S2 T : Int} (h : Mo w g c dark S S2) (o : Only g 39 106 w w') (s : Ws w' g 39 67 (W6.tc 67 T)) : Mo w' g c dark S T :=
  ⟨by rw [o.cell 0 (by omega)]; exact h.k0, by rw [o.cell 1 (by omega)]; exact h.k1, by rw [o.cell 2 (by omega)]; exact h.k2, by rw [o.cell 3 (by omega)]; exact h.k3, by rw [o.cell 4 (by omega)]; exact h.k4,
   fun j => by rw [o.frozen]; exact h.fr j, h.su.apart o (.inl (by omega)), s⟩

theorem Tab64.only {w w' : World} {g lo hi : Nat} (h : Tab64 w) (o : Only g lo hi w w') (hg : g ≠ 1) : Tab64 w' := fun j hj => by
  rw [World.cell?_of_block (w := w) (a := ⟨1, j, none⟩) (o.block 1 (block_lt_of_cell (h j hj)) (by omega))]; exact h j hj

/-- Whether all are -0, behind one more. -/
def dk (b c : Nat) (dark : Bool) : Bool := decide (b = 9223372036854775808) && (dark || decide (c = 0))

set_option maxRecDepth 100000 in
set_option maxHeartbeats 2000000 in
theorem Add_fin {w : World} {g c : Nat} {dark : Bool} {S S2 : Int} (b : Nat) (h : Mo w g c dark S S2) (hc : c < 9007199254740992) (hb : b < 18446744073709551616) (hf : b % 9223372036854775808 < 9218868437227405312) (hT : Tab64 w) (hg1 : g ≠ 1) :
    Calls Tryd.prog 7 #[.pointer (some ⟨g, 0, none⟩), .int .u64 b] w fun e w' => e = .returned (.int .i64 0) ∧ Mo w' g (c + 1) (dk b c dark) (S + ofV b) (S2 + ofV b * ofV b) ∧ Only g 0 106 w w' := by
  have HV : Hid (∀ W : World, Only g 0 106 w W → Calls Tryd.prog 13 #[.int .u64 b] W fun e w' => ValEnd b W e w') := fun W o => valueOf_fin b W hb hf (hT.only o hg1)
  have hlt := h.lt
  have f0 := h.fr 0
  have f4 := h.fr 4
  have c0 := h.k0
  have c4 := h.k4
  have HMo := fhide h
  have hc' : ¬ (9007199254740992 : Int) ≤ (c : Int) := by omega
  have Hend : Hid (∀ (D : Bool) (W1 W2 W3 : World), ∀ x q : Nat, x * 2 ^ q = V Ieee.double (b % 9223372036854775808) → Mo W1 g (c + 1) D S S2 → Only g 5 39 W1 W2 → Ws W2 g 5 34 (W6.tc 34 (S + W6.sgn (decide (9223372036854775808 ≤ b) != false) (x * 1 * 2 ^ (q + 0)))) → Only g 39 106 W2 W3 → Ws W3 g 39 67 (W6.tc 67 (S2 + W6.sgn (decide (9223372036854775808 ≤ b) != decide (9223372036854775808 ≤ b)) (x * x * 2 ^ (q + q)))) → Mo W3 g (c + 1) D (S + ofV b) (S2 + ofV b * ofV b)) := by
    intro D W1 W2 W3 x q hxq m o1 s1 o2 s2
    have e1 : W6.sgn (decide (9223372036854775808 ≤ b) != false) (x * 1 * 2 ^ (q + 0)) = ofV b := by
      unfold ofV; rw [Nat.mul_one, Nat.add_zero, hxq]; cases decide (9223372036854775808 ≤ b) <;> rfl
    have e2 : W6.sgn (decide (9223372036854775808 ≤ b) != decide (9223372036854775808 ≤ b)) (x * x * 2 ^ (q + q)) = ofV b * ofV b := by
      rw [Nat.pow_add, Nat.mul_mul_mul_comm, hxq]; unfold ofV
      cases decide (9223372036854775808 ≤ b) <;> simp [W6.sgn, Int.neg_mul_neg]
    rw [e1] at s1
    rw [e2] at s2
    exact (m.sum o1 s1).squares o2 s2
  obtain ⟨β, hbe⟩ : ∃ β, ((b : Int) == 9223372036854775808) = β := ⟨_, rfl⟩
  obtain ⟨γ, hce⟩ : ∃ γ, ((c : Int) == 0) = γ := ⟨_, rfl⟩
  have hd : dk b c dark = (β && (dark || γ)) := by
    unfold dk
    rw [← hbe, ← hce]
    have e1 : decide (b = 9223372036854775808) = ((b : Int) == 9223372036854775808) := by
      by_cases h1 : b = 9223372036854775808
      · simp [h1]
      · have : ¬ (b : Int) = 9223372036854775808 := by omega
        simp [h1, this]
    have e2 : decide (c = 0) = ((c : Int) == 0) := by
      by_cases h1 : c = 0
      · simp [h1]
      · have : ¬ (c : Int) = 0 := by omega
        simp [h1, this]
    rw [e1, e2]
  rw [hd] at *
  clear hd
  generalize hd' : (β && (dark || γ)) = d' at *
  obtain ⟨W1, hW1⟩ : ∃ W1, W1 = (w.setCell ⟨g, 4, none⟩ (.bool d')).setCell ⟨g, 0, none⟩ (.int .u64 ((c : Int) + 1)) := ⟨_, rfl⟩
  have HM1 : Hid (Only g 0 106 w W1 ∧ Mo W1 g (c + 1) d' S S2) := by
    rw [hW1, show (c : Int) + 1 = ((c + 1 : Nat) : Int) from by omega]
    exact ⟨((Only.refl g 0 106 w).setCell 4 (by omega) (by omega) _).setCell 0 (by omega) (by omega) _, h.count⟩
  obtain ⟨s, hs⟩ : ∃ s, s = decide (9223372036854775808 ≤ b) := ⟨_, rfl⟩
  have hlt1 : g < W1.heap.size := HM1.out.2.lt
  unfold ValEnd at HV
  rw [← hs] at Hend HV
  generalize ofV b = T at *
  generalize V Ieee.double (b % 9223372036854775808) = U at *
  clear hf hT h hc hs
  go_enter Tryd.func7, Tryd.ntmps7
  rcases β with _ | _
  rotate_left
  rcases dark with _ | _
  rotate_left
  all_goals
    simp only [Bool.true_and, Bool.false_and, Bool.true_or, Bool.false_or] at hd'
    rw [← hd'] at hW1
    have HW1 := fhide hW1
    clear hW1 hd' hlt1
    go_wp2_with (simp only [hbe, hce])
    rw [← HW1.out]
    clear HW1 c0 c4 f0 f4 hbe hce hlt HMo
    have hlt1 : g < W1.heap.size := HM1.out.2.lt
    refine (HV.out _ HM1.out.1).mono ?_
    rintro e w2 ⟨x, q, rfl, hx, hq, hxq, B2⟩
    simp only [prt]
    go_wp2_with fail
    obtain ⟨W3, hW3⟩ : ∃ W3, W3 = w2.alloc (.cells #[.bool s, .int .u64 (x : Nat), .int .i64 (q : Nat)] 39) := ⟨_, rfl⟩
    obtain ⟨h, hh⟩ : ∃ h, h = w2.heap.size := ⟨_, rfl⟩
    rw [← hW3, ← hh]
    have B3 : Below W1.heap.size W1 W3 := by rw [hW3]; exact B2.alloc B2.size _
    have hgh : h ≠ g := by have := B2.size; omega
    have k0 : W3.drew.cell? ⟨h, 0, none⟩ = some (.bool s) := by rw [hW3, hh]; exact cell_of_row _ _ 0 _ _ _ (heap_alloc_new w2 _)
    have k1 : W3.drew.cell? ⟨h, 1, none⟩ = some (.int .u64 (x : Nat)) := by rw [hW3, hh]; exact cell_of_row _ _ 1 _ _ _ (heap_alloc_new w2 _)
    have k2 : W3.drew.cell? ⟨h, 2, none⟩ = some (.int .i64 (q : Nat)) := by rw [hW3, hh]; exact cell_of_row _ _ 2 _ _ _ (heap_alloc_new w2 _)
    have HI : Hid (Below W1.heap.size W1 W3.drew) := B3.drew
    have HG1 : Hid (∀ V : World, Below W1.heap.size W1 V → Calls Tryd.prog 14 #[.slice (some ⟨g, 5, none⟩) 34 34, prt s x q, prt false 1 0] V fun e w' => e = .returned (.tuple #[]) ∧ Ws w' g 5 34 (W6.tc 34 (S + W6.sgn (s != false) (x * 1 * 2 ^ (q + 0)))) ∧ Only g 5 39 V w') :=
      fun V hV => gather_any g 5 34 34 S s false x 1 q 0 V (HM1.out.2.below hV hlt1).su (by omega) (by omega) (by omega) (HM1.out.2.below hV hlt1).lt (by omega) (by omega) (by omega)
    have HG2 : Hid (∀ V : World, Ws V g 39 67 (W6.tc 67 S2) → g < V.heap.size → Calls Tryd.prog 14 #[.slice (some ⟨g, 39, none⟩) 67 67, prt s x q, prt s x q] V fun e w' => e = .returned (.tuple #[]) ∧ Ws w' g 39 67 (W6.tc 67 (S2 + W6.sgn (s != s) (x * x * 2 ^ (q + q)))) ∧ Only g 39 106 V w') :=
      fun V hV hl => gather_any g 39 67 67 S2 s s x x q q V hV (by omega) (by omega) (by omega) hl (by omega) (by omega) (by omega)
    have HX := fhide (And.intro hxq hlt1)
    clear hW3 hh B3 B2 hxq hx hq HV
    go_region_held3 (fun w' => w'.cell? ⟨h, 0, none⟩ = some (.bool s) ∧ w'.cell? ⟨h, 1, none⟩ = some (.int .u64 (x : Nat)) ∧ w'.cell? ⟨h, 2, none⟩ = some (.int .i64 (q : Nat))) (exact ⟨k0, k1, k2⟩)
      (first | (go_at_call 15; go_must (refine (once_any _).mono ?_); rintro _ w5 ⟨rfl, B5⟩; have HI := fhide (HI.out.trans (B5.mono HI.out.size)); have k0 : w5.cell? ⟨h, 0, none⟩ = some (.bool s) := (by rw [B5.cell (p := ⟨h, 0, none⟩) (block_lt_of_cell k0)]; exact k0); have k1 : w5.cell? ⟨h, 1, none⟩ = some (.int .u64 (x : Nat)) := (by rw [B5.cell (p := ⟨h, 1, none⟩) (block_lt_of_cell k1)]; exact k1); have k2 : w5.cell? ⟨h, 2, none⟩ = some (.int .i64 (q : Nat)) := (by rw [B5.cell (p := ⟨h, 2, none⟩) (block_lt_of_cell k2)]; exact k2); clear B5) | (go_at_call 14; go_must (refine (HG1.out _ HI.out).mono ?_); rintro _ w6 ⟨rfl, hS6, hO6⟩; have HJ := fhide (And.intro HI.out (And.intro hS6 hO6)); have k0 : w6.cell? ⟨h, 0, none⟩ = some (.bool s) := (by rw [World.cell?_of_block (hO6.block h (block_lt_of_cell k0) hgh)]; exact k0); have k1 : w6.cell? ⟨h, 1, none⟩ = some (.int .u64 (x : Nat)) := (by rw [World.cell?_of_block (hO6.block h (block_lt_of_cell k1) hgh)]; exact k1); have k2 : w6.cell? ⟨h, 2, none⟩ = some (.int .i64 (q : Nat)) := (by rw [World.cell?_of_block (hO6.block h (block_lt_of_cell k2) hgh)]; exact k2); clear hS6 hO6 HI))
    have HK : Hid (Ws w6.drew g 39 67 (W6.tc 67 S2) ∧ g < w6.drew.heap.size) := by
      have m5 := HM1.out.2.below HJ.out.1 HX.out.2
      exact ⟨(m5.sq.apart HJ.out.2.2 (.inr (by omega))).drew, Nat.lt_of_lt_of_le m5.lt HJ.out.2.2.size⟩
    go_wp2_with fail
    have k0 : w6.drew.cell? ⟨h, 0, none⟩ = some (.bool s) := k0
    have k1 : w6.drew.cell? ⟨h, 1, none⟩ = some (.int .u64 (x : Nat)) := k1
    have k2 : w6.drew.cell? ⟨h, 2, none⟩ = some (.int .i64 (q : Nat)) := k2
    go_region_held3 (fun w' => w'.cell? ⟨h, 0, none⟩ = some (.bool s) ∧ w'.cell? ⟨h, 1, none⟩ = some (.int .u64 (x : Nat)) ∧ w'.cell? ⟨h, 2, none⟩ = some (.int .i64 (q : Nat))) (exact ⟨k0, k1, k2⟩)
      (first | (go_at_call 14; go_must (refine (HG2.out _ HK.out.1 HK.out.2).mono ?_); rintro _ w8 ⟨rfl, hS8, hO8⟩; have HL := fhide (And.intro hS8 hO8); have k0 : w8.cell? ⟨h, 0, none⟩ = some (.bool s) := (by rw [World.cell?_of_block (hO8.block h (block_lt_of_cell k0) hgh)]; exact k0); have k1 : w8.cell? ⟨h, 1, none⟩ = some (.int .u64 (x : Nat)) := (by rw [World.cell?_of_block (hO8.block h (block_lt_of_cell k1) hgh)]; exact k1); have k2 : w8.cell? ⟨h, 2, none⟩ = some (.int .i64 (q : Nat)) := (by rw [World.cell?_of_block (hO8.block h (block_lt_of_cell k2) hgh)]; exact k2); clear hS8 hO8 HK))
    go_wp2_with fail
    go_ret
    have o6 := HJ.out.2.2.drew
    exact ⟨rfl, Hend.out _ _ _ _ x q HX.out.1 (HM1.out.2.below HJ.out.1 HX.out.2) o6 HJ.out.2.1.drew HL.out.2 HL.out.1, HM1.out.1.trans ((Only.of_below HJ.out.1 HX.out.2).trans ((o6.wider (by omega) (by omega)).trans (HL.out.2.wider (by omega) (by omega))))⟩

end Go.Proofs.YtolaaemkcmiabaaDoor

/- Package exact: a number by its leading bits: without its lowest ones. -/
namespace Go.Proofs.YtolaaemkcmiabaaDoor
open Go.RowKit
open M
open Flt (cutN)
set_option linter.unusedVariables false
set_option linter.unusedSimpArgs false

theorem cutN_low (n sh : Nat) (more : Bool) : cutN n sh more = n / 2 ^ (sh + 1) + if 2 ^ sh < n % 2 ^ (sh + 1) ∨ (n % 2 ^ (sh + 1) = 2 ^ sh ∧ (more = true ∨ n / 2 ^ (sh + 1) % 2 = 1)) then 1 else 0 := by
  unfold cutN
  have e1 : n / 2 ^ (sh + 1) = n / 2 ^ sh / 2 := by rw [Nat.pow_succ, Nat.div_div_eq_div_mul]
  have e3 : n % 2 ^ (sh + 1) = n % 2 ^ sh + 2 ^ sh * (n / 2 ^ sh % 2) := by rw [Nat.pow_succ]; exact Nat.mod_mul
  have hx : n % 2 ^ sh < 2 ^ sh := Nat.mod_lt _ (Nat.two_pow_pos sh)
  rw [e1, e3]
  refine congrArg _ ?_
  generalize n / 2 ^ sh = c at *
  generalize n % 2 ^ sh = x at *
  generalize 2 ^ sh = H at *
  have hc : c % 2 = 0 ∨ c % 2 = 1 := by omega
  have key : (c % 2 = 1 ∧ ((more || decide (x ≠ 0)) = true ∨ c / 2 % 2 = 1)) ↔ (H < x + H * (c % 2) ∨ (x + H * (c % 2) = H ∧ (more = true ∨ c / 2 % 2 = 1))) := by
    rcases hc with hc | hc
    · rw [hc, Nat.mul_zero, Nat.add_zero]
      constructor
      · rintro ⟨h, _⟩; omega
      · rintro (h | ⟨h, _⟩) <;> omega
    · rw [hc, Nat.mul_one]
      simp only [Bool.or_eq_true, decide_eq_true_eq, true_and]
      constructor
      · rintro ((h | h) | h)
        · by_cases h0 : x = 0
          · right; exact ⟨by omega, .inl h⟩
          · left; omega
        · left; omega
        · by_cases h0 : x = 0
          · right; exact ⟨by omega, .inr h⟩
          · left; omega
      · rintro (h | ⟨h, h2⟩)
        · left; right; omega
        · rcases h2 with h2 | h2
          · left; left; exact h2
          · right; exact h2
  by_cases h : c % 2 = 1 ∧ ((more || decide (x ≠ 0)) = true ∨ c / 2 % 2 = 1)
  · rw [if_pos h, if_pos (key.1 h)]
  · rw [if_neg h, if_neg (fun e => h (key.2 e))]

theorem cutN_far (n sh : Nat) (more : Bool) (h : n < 2 ^ sh) : cutN n sh more = 0 := by
  unfold cutN
  rw [Nat.div_eq_of_lt h]; simp

set_option maxRecDepth 100000 in
set_option maxHeartbeats 2000000 in
theorem without_any (n sh : Nat) (more : Bool) (e : Int) (w : World) (hn : n < 18446744073709551616) (hsh : sh < 9223372036854775807) :
    Calls Tryd.prog 58 #[.agg #[.int .u64 n, .bool more, .int .i64 e], .int .i64 ((sh : Int) + 1)] w fun r w' => r = .returned (.int .u64 (cutN n sh more : Nat)) ∧ Below w.heap.size w w' := by
  obtain ⟨low, hlow, hl1, hl2⟩ : ∃ low : Nat, sh + 1 = low ∧ (1 : Int) ≤ (low : Int) ∧ (low : Int) < 9223372036854775808 := ⟨_, rfl, by omega⟩
  rw [show (sh : Int) + 1 = (low : Int) by omega]
  by_cases c : (64 : Int) < (low : Int)
  · have hz : cutN n sh more = 0 := cutN_far n sh more (Nat.lt_of_lt_of_le hn (by
      have := Nat.pow_le_pow_right (n := 2) (by omega) (show 64 ≤ sh by omega)
      simpa using this))
    rw [hz]
    clear hlow hz hn hsh
    go_enter Tryd.func58, Tryd.ntmps58
    go_wp2_with fail
    go_ret
    exact ⟨rfl, (Below.refl _ w).alloc (Nat.le_refl _) _⟩
  · rw [cutN_low, hlow]
    have hws : IntKind.i64.wrap ((low : Int) - 1) = (sh : Int) := by rw [IntKind.wrap_i64]; omega
    have hs0 : (0 : Int) ≤ (sh : Int) := by omega
    have hs1 : (sh : Int) < 64 := by omega
    have hp63 : 2 ^ sh ≤ 9223372036854775808 := by
      have := Nat.pow_le_pow_right (n := 2) (by omega) (show sh ≤ 63 by omega)
      simpa using this
    have hpl : 2 ^ low = 2 ^ sh * 2 := by rw [← hlow, Nat.pow_succ]
    have hpp : 0 < 2 ^ sh := Nat.two_pow_pos sh
    have hH : IntKind.u64.wrap ((2 : Int) ^ sh) = ((2 ^ sh : Nat) : Int) := by
      rw [IntKind.wrap_u64, show (2 : Int) ^ sh = ((2 ^ sh : Nat) : Int) by rw [Int.natCast_pow]; rfl]
      omega
    have hK : (n : Int) / 2 ^ low = ((n / 2 ^ low : Nat) : Int) := by rw [Int.natCast_ediv, Int.natCast_pow]; rfl
    have hK2 : n / 2 ^ low ≤ n / 2 := by
      refine Nat.div_le_div_left ?_ (by omega)
      omega
    have hG : bits BinOp.and IntKind.u64 (n : Int) (IntKind.u64.wrap (IntKind.u64.wrap (((2 ^ sh : Nat) : Int) * 2) - 1)) = ((n % 2 ^ low : Nat) : Int) := by
      have e1 : IntKind.u64.wrap (IntKind.u64.wrap (((2 ^ sh : Nat) : Int) * 2) - 1) = ((2 ^ low - 1 : Nat) : Int) := by
        rw [IntKind.wrap_u64, IntKind.wrap_u64, hpl]
        generalize 2 ^ sh = z at *
        omega
      rw [e1, u64_and_nat n _ hn (by rw [hpl]; omega), Nat.and_two_pow_sub_one_eq_mod]
    have hgl : n % 2 ^ low < 2 ^ low := Nat.mod_lt _ (by rw [hpl]; omega)
    generalize n / 2 ^ low = K at *
    generalize n % 2 ^ low = G at *
    obtain ⟨H, hHn, hHp⟩ : ∃ H : Nat, 2 ^ sh = H ∧ 0 < H := ⟨_, rfl, hpp⟩
    rw [hHn] at hH hG ⊢
    have hKo : bits BinOp.and IntKind.u64 (K : Int) 1 = ((K % 2 : Nat) : Int) := by
      have := u64_and_nat K 1 (by omega) (by omega)
      rw [show K &&& 1 = K % 2 from Nat.and_one_is_mod K] at this
      exact this
    have hKp : IntKind.u64.wrap ((K : Int) + 1) = ((K + 1 : Nat) : Int) := by rw [IntKind.wrap_u64]; omega
    obtain ⟨W, hW⟩ : ∃ W, W = w.alloc (.cells #[.int .u64 n, .bool more, .int .i64 e] 55) := ⟨_, rfl⟩
    have c0 : W.cell? ⟨w.heap.size, 0, none⟩ = some (.int .u64 n) := by rw [hW, cell_of_row _ _ _ _ _ _ (heap_alloc_new _ _)]; rfl
    have c1 : W.cell? ⟨w.heap.size, 1, none⟩ = some (.bool more) := by rw [hW, cell_of_row _ _ _ _ _ _ (heap_alloc_new _ _)]; rfl
    have hbel : Below w.heap.size w W.drew := by rw [hW]; exact ((Below.refl _ w).alloc (Nat.le_refl _) _).drew
    have HB := hide hbel
    clear hbel hp63 hpl hpp hHn hgl hK2 hn hsh hlow
    have hcase : (H < G ∧ (if H < G ∨ (G = H ∧ (more = true ∨ K % 2 = 1)) then 1 else 0) = 1) ∨ (¬ H < G ∧ G ≠ H ∧ (if H < G ∨ (G = H ∧ (more = true ∨ K % 2 = 1)) then 1 else 0) = 0) ∨
        (¬ H < G ∧ G = H ∧ more = true ∧ (if H < G ∨ (G = H ∧ (more = true ∨ K % 2 = 1)) then 1 else 0) = 1) ∨ (¬ H < G ∧ G = H ∧ more = false ∧ K % 2 = 1 ∧ (if H < G ∨ (G = H ∧ (more = true ∨ K % 2 = 1)) then 1 else 0) = 1) ∨
        (¬ H < G ∧ G = H ∧ more = false ∧ K % 2 = 0 ∧ (if H < G ∨ (G = H ∧ (more = true ∨ K % 2 = 1)) then 1 else 0) = 0) := by
      by_cases a1 : H < G
      · left; exact ⟨a1, if_pos (.inl a1)⟩
      · right
        by_cases a2 : G = H
        · right
          cases more
          · right
            rcases Nat.mod_two_eq_zero_or_one K with a3 | a3
            · right; exact ⟨a1, a2, rfl, a3, if_neg (by rintro (h | ⟨_, h | h⟩); exact a1 h; cases h; omega)⟩
            · left; exact ⟨a1, a2, rfl, a3, if_pos (.inr ⟨a2, .inr a3⟩)⟩
          · left; exact ⟨a1, a2, rfl, if_pos (.inr ⟨a2, .inl rfl⟩)⟩
        · left; exact ⟨a1, a2, if_neg (by rintro (h | ⟨h, _⟩); exact a1 h; exact a2 h)⟩
    rcases hcase with ⟨a1, a4⟩ | ⟨a1, a2, a4⟩ | ⟨a1, a2, rfl, a4⟩ | ⟨a1, a2, rfl, a3, a4⟩ | ⟨a1, a2, rfl, a3, a4⟩
    all_goals
      rw [a4]
      try (have a2' : ((G : Int) == (H : Int)) = false := by simp; omega)
      try (have a2' : ((G : Int) == (H : Int)) = true := by simp; omega)
      try rw [a3] at hKo
      first | (generalize ho : K + 1 = out at *) | (generalize ho : K + 0 = out at *)
      have HO := hide ho
      clear a4 ho
      try clear a2
      try clear a3
      go_enter Tryd.func58, Tryd.ntmps58
      go_wp2_with fail
      rw [← hW]
      have HWW := hide hW
      clear hW
      have c0 : W.drew.cell? ⟨w.heap.size, 0, none⟩ = some (.int .u64 n) := c0
      have c1 : W.drew.cell? ⟨w.heap.size, 1, none⟩ = some _ := c1
      go_region_held3 (fun w' => w'.cell? ⟨w.heap.size, 0, none⟩ = some (.int .u64 n)) (exact c0) (fail)
      clear hl1 hl2 hws
      try simp only [hH, hK]
      go_wp2_with (simp only [hG, hKo, hKp])
      go_ret
      exact ⟨ret_int (by first | rfl | (rw [← HO.out]; rfl) | (rw [← HO.out]; simp; done) | (simp; done)), HB.out⟩
end Go.Proofs.YtolaaemkcmiabaaDoor

namespace Go.Proofs.YtolaaemkcmiabaaDoor
open Go.RowKit
open M
open Flt (cutN)
set_option linter.unusedVariables false
set_option linter.unusedSimpArgs false

/-- The step's power of 2. -/
def stp (b L head : Nat) (e : Int) : Int := max (e + (bitLen head : Int) - (b : Int)) (-(L : Int))
/-- The pattern, without a sign. -/
def unsF (b L inf head : Nat) (more : Bool) (e : Int) : Nat := if head = 0 then 0 else min ((stp b L head e + L).toNat * 2 ^ (b - 1) + cutN head ((stp b L head e - e).toNat - 1) more) inf

theorem cell_row (w : World) (cs : Array Value) (t : TypeId) (j : Nat) (v : Value) (h : cs[j]? = some v) : (w.alloc (.cells cs t)).cell? ⟨w.heap.size, j, none⟩ = some v := by
  rw [cell_of_row _ _ _ _ _ _ (heap_alloc_new _ _)]; exact h

theorem min_field (kk cu fl pw inf : Nat) (h : min kk 2048 = fl) (hinf : inf ≤ 2048 * pw) : min (kk * pw + cu) inf = min (cu + fl * pw) inf := by
  rcases Nat.le_total kk 2048 with c | c
  · rw [Nat.min_eq_left c] at h
    rw [h, Nat.add_comm]
  · rw [Nat.min_eq_right c] at h
    have h1 : 2048 * pw ≤ kk * pw := Nat.mul_le_mul_right _ c
    rw [← h, Nat.min_eq_right (Nat.le_trans hinf (Nat.le_trans h1 (Nat.le_add_right _ _))), Nat.min_eq_right (Nat.le_trans hinf (Nat.le_add_left _ _))]

theorem min_u64 (a b : Nat) : (if (b : Int) < (a : Int) then (b : Int) else (a : Int)) = ((min a b : Nat) : Int) := by
  split <;> omega

theorem bitLen_62 {n : Nat} (h : 4611686018427387904 ≤ n) (h2 : n < 18446744073709551616) : 63 ≤ bitLen n ∧ bitLen n ≤ 64 := by
  have h1 := (bitLen_spec n).1
  constructor
  · rcases Nat.lt_or_ge (bitLen n) 63 with h3 | h3
    · have := Nat.pow_le_pow_right (n := 2) (by omega) (show bitLen n ≤ 62 by omega)
      have h4 : 2 ^ 62 = 4611686018427387904 := by decide
      omega
    · exact h3
  · exact bitLen_le (k := 64) h2

theorem cut_few (n sh : Nat) (more : Bool) (h : 9 ≤ sh) (hn : n < 18446744073709551616) : cutN n sh more ≤ 36028797018963968 := by
  rw [cutN_low]
  have h1 : n / 2 ^ (sh + 1) ≤ n / 1024 := by
    refine Nat.div_le_div_left ?_ (by omega)
    have := Nat.pow_le_pow_right (n := 2) (by omega) (show 10 ≤ sh + 1 by omega)
    simpa using this
  have h2 : n / 1024 ≤ 18014398509481983 := by omega
  split <;> omega

set_option maxRecDepth 100000 in
theorem layout64 (w : World) : Calls Tryd.prog 21 #[] w fun e w' => e = .returned (.agg #[.int .i64 53, .int .i64 (-1074), .int .u64 9218868437227405312, .int .u64 9223372036854775808]) ∧ Below w.heap.size w w' := by
  go_enter Tryd.func21, Tryd.ntmps21
  go_wp2_with fail
  refine bodyPost_ret (v := .agg #[.int .i64 53, .int .i64 (-1074), .int .u64 9218868437227405312, .int .u64 9223372036854775808]) (by simp [results, Tryd.results21, go_sem]) rfl ⟨rfl, ?_⟩
  exact (Below.refl _ w).alloc (Nat.le_refl _) _

theorem uns64_zero (more : Bool) (e0 : Int) (w : World) : Calls Tryd.prog 36 #[.agg #[.int .i64 53, .int .i64 (-1074), .int .u64 9218868437227405312, .int .u64 9223372036854775808], .agg #[.int .u64 0, .bool more, .int .i64 e0]] w fun e w' => e = .returned (.int .u64 0) ∧ Below w.heap.size w w' := by
  go_enter Tryd.func36, Tryd.ntmps36
  go_wp2_with fail
  go_ret
  exact ⟨rfl, ((Below.refl _ w).alloc (Nat.le_refl _) _).alloc (by simp) _⟩

set_option maxRecDepth 100000 in
set_option maxHeartbeats 4000000 in
theorem uns64_num (n : Nat) (more : Bool) (e0 : Int) (w : World) (h1 : 4611686018427387904 ≤ n) (h2 : n < 18446744073709551616) (he1 : -4000000 ≤ e0) (he2 : e0 ≤ 4000000) : Calls Tryd.prog 36 #[.agg #[.int .i64 53, .int .i64 (-1074), .int .u64 9218868437227405312, .int .u64 9223372036854775808], .agg #[.int .u64 n, .bool more, .int .i64 e0]] w fun e w' => e = .returned (.int .u64 (unsF 53 1074 9218868437227405312 n more e0 : Nat)) ∧ Below w.heap.size w w' := by
  obtain ⟨bl1, bl2⟩ := bitLen_62 h1 h2
  have HLn := hide (fun w : World => len64_top n w h1 h2)
  unfold unsF
  rw [if_neg (by omega)]
  obtain ⟨st, hst⟩ : ∃ st : Int, stp 53 1074 n e0 = st := ⟨_, rfl⟩
  rw [hst]
  unfold stp at hst
  obtain ⟨bl, hbl⟩ : ∃ bl : Nat, bitLen n = bl := ⟨_, rfl⟩
  rw [hbl] at HLn hst bl1 bl2
  obtain ⟨s1, hs1, hs1b⟩ : ∃ s1 : Int, e0 + (bl : Int) = s1 ∧ (-5000000 ≤ s1 ∧ s1 ≤ 5000000) := ⟨_, rfl, by omega⟩
  obtain ⟨s2, hs2, hs2b⟩ : ∃ s2 : Int, s1 - 53 = s2 ∧ (-6000000 ≤ s2 ∧ s2 ≤ 6000000) := ⟨_, rfl, by omega⟩
  have hw1 : IntKind.i64.wrap (e0 + (bl : Int)) = s1 := by rw [IntKind.wrap_i64]; omega
  have hw2 : IntKind.i64.wrap (s1 - 53) = s2 := by rw [IntKind.wrap_i64]; omega
  have hstc : (s2 < -1074 ∧ st = -1074) ∨ (¬ s2 < -1074 ∧ st = s2) := by omega
  obtain ⟨kk, hkk, hkb⟩ : ∃ kk : Nat, st - -1074 = (kk : Int) ∧ kk ≤ 7000000 := ⟨(st + 1074).toNat, by omega, by omega⟩
  obtain ⟨sh, hsh, hshb⟩ : ∃ sh : Nat, st - e0 = (sh : Int) + 1 ∧ (9 ≤ sh ∧ sh ≤ 12000000) := ⟨(st - e0).toNat - 1, by omega, by omega⟩
  have hwk : IntKind.i64.wrap (st - -1074) = (kk : Int) := by rw [IntKind.wrap_i64]; omega
  have hwsh : IntKind.i64.wrap (st - e0) = (sh : Int) + 1 := by rw [IntKind.wrap_i64]; omega
  rw [show (st + (1074 : Nat)).toNat = kk by omega, show (st - e0).toNat - 1 = sh by omega]
  have HW := hide (fun w : World => without_any n sh more e0 w h2 (by omega))
  have hcf := cut_few n sh more hshb.1 h2
  generalize cutN n sh more = cu at *
  obtain ⟨fl, hfl, hflb⟩ : ∃ fl : Nat, min kk 2048 = fl ∧ fl ≤ 2048 := ⟨_, rfl, by omega⟩
  have hfc : ((2048 : Int) < (kk : Int) ∧ fl = 2048) ∨ (¬ (2048 : Int) < (kk : Int) ∧ fl = kk) := by omega
  have hsl : IntKind.u64.wrap ((fl : Int) * 4503599627370496) = ((fl * 4503599627370496 : Nat) : Int) := by rw [IntKind.wrap_u64]; omega
  have had : IntKind.u64.wrap ((cu : Int) + ((fl * 4503599627370496 : Nat) : Int)) = ((cu + fl * 4503599627370496 : Nat) : Int) := by rw [IntKind.wrap_u64]; omega
  have hres : min (kk * 2 ^ (53 - 1) + cu) 9218868437227405312 = min (cu + fl * 4503599627370496) 9218868437227405312 := by
    rw [show 2 ^ (53 - 1) = 4503599627370496 by decide]
    exact min_field kk cu fl 4503599627370496 9218868437227405312 hfl (by decide)
  rw [hres]
  obtain ⟨q1, hq1⟩ : ∃ q1 : Nat, fl * 4503599627370496 = q1 := ⟨_, rfl⟩
  rw [hq1] at hsl had ⊢
  obtain ⟨q2, hq2⟩ : ∃ q2 : Nat, cu + q1 = q2 := ⟨_, rfl⟩
  rw [hq2] at had ⊢
  obtain ⟨out, hout⟩ : ∃ out : Nat, min q2 9218868437227405312 = out := ⟨_, rfl⟩
  rw [hout]
  have hoc : (decide ((9 : Int) < 0) = true) ∨ ((9218868437227405312 : Nat) < q2 ∧ out = 9218868437227405312) ∨ (¬ (9218868437227405312 : Nat) < q2 ∧ out = q2) := by right; omega
  obtain ⟨W, hW⟩ : ∃ W, W = (w.alloc (.cells #[.int .i64 53, .int .i64 (-1074), .int .u64 9218868437227405312, .int .u64 9223372036854775808] 51)).alloc (.cells #[.int .u64 n, .bool more, .int .i64 e0] 55) := ⟨_, rfl⟩
  have hz1 : (w.alloc (.cells #[.int .i64 53, .int .i64 (-1074), .int .u64 9218868437227405312, .int .u64 9223372036854775808] 51)).heap.size = w.heap.size + 1 := by simp
  have hb1 : Below w.heap.size w (w.alloc (.cells #[.int .i64 53, .int .i64 (-1074), .int .u64 9218868437227405312, .int .u64 9223372036854775808] 51)) := (Below.refl _ w).alloc (Nat.le_refl _) _
  have hb2 : Below (w.heap.size + 1) (w.alloc (.cells #[.int .i64 53, .int .i64 (-1074), .int .u64 9218868437227405312, .int .u64 9223372036854775808] 51)) W := by rw [hW]; exact (Below.refl _ _).alloc (by rw [hz1]; exact Nat.le_refl _) _
  have o0 : W.cell? ⟨w.heap.size, 0, none⟩ = some (.int .i64 53) := by rw [hb2.cell (p := ⟨w.heap.size, 0, none⟩) (Nat.lt_succ_self _)]; exact cell_row w _ _ 0 _ rfl
  have o1 : W.cell? ⟨w.heap.size, 1, none⟩ = some (.int .i64 (-1074)) := by rw [hb2.cell (p := ⟨w.heap.size, 1, none⟩) (Nat.lt_succ_self _)]; exact cell_row w _ _ 1 _ rfl
  have o2 : W.cell? ⟨w.heap.size, 2, none⟩ = some (.int .u64 9218868437227405312) := by rw [hb2.cell (p := ⟨w.heap.size, 2, none⟩) (Nat.lt_succ_self _)]; exact cell_row w _ _ 2 _ rfl
  have p0 : W.cell? ⟨w.heap.size + 1, 0, none⟩ = some (.int .u64 n) := by rw [hW, ← hz1]; exact cell_row _ _ _ 0 _ rfl
  have p1 : W.cell? ⟨w.heap.size + 1, 1, none⟩ = some (.bool more) := by rw [hW, ← hz1]; exact cell_row _ _ _ 1 _ rfl
  have p2 : W.cell? ⟨w.heap.size + 1, 2, none⟩ = some (.int .i64 e0) := by rw [hW, ← hz1]; exact cell_row _ _ _ 2 _ rfl
  have HB := hide (hb1.trans (hb2.mono (by omega)))
  have HKK := hide (And.intro hkk hfl)
  have hw52 : IntKind.i64.wrap 52 = 52 := by decide
  have hn0 : ((n : Int) == 0) = false := by simp; omega
  clear hst hbl hs1 hs2 hkk hsh hfl hres hq2 hout hz1 hb1 hb2 hcf h1 h2
  go_enter Tryd.func36, Tryd.ntmps36
  go_wp2_with fail
  rw [← hW]
  have HWW := hide hW
  clear hW
  have HB := hide HB.out.drew
  have o0 : W.drew.cell? ⟨w.heap.size, 0, none⟩ = some (.int .i64 53) := o0
  have o1 : W.drew.cell? ⟨w.heap.size, 1, none⟩ = some (.int .i64 (-1074)) := o1
  have o2 : W.drew.cell? ⟨w.heap.size, 2, none⟩ = some (.int .u64 9218868437227405312) := o2
  have p0 : W.drew.cell? ⟨w.heap.size + 1, 0, none⟩ = some (.int .u64 n) := p0
  have p1 : W.drew.cell? ⟨w.heap.size + 1, 1, none⟩ = some (.bool more) := p1
  have p2 : W.drew.cell? ⟨w.heap.size + 1, 2, none⟩ = some (.int .i64 e0) := p2
  clear HWW
  have hmin : ∀ (w : World) (ts : Array TypeId) (t : TypeId), (Builtin.min_ ts t #[.int .u64 (q2 : Int), .int .u64 9218868437227405312]).run Tryd.prog w = .ok (.int .u64 (out : Int)) w := by
    intro w ts t
    rw [run_min_int2]
    rcases hoc with h | ⟨h, h'⟩ | ⟨h, h'⟩
    · simp at h
    · rw [if_pos (by omega), h']; rfl
    · rw [if_neg (by omega), h']
  clear hoc
  have HO := hide HB.out
  rcases hstc with ⟨k1, hst⟩ | ⟨k1, hst⟩
  · subst hst
    obtain rfl : kk = 0 := by have := HKK.out.1; omega
    obtain rfl : fl = 0 := by have := HKK.out.2; omega
    obtain rfl : q1 = 0 := by rw [Nat.zero_mul] at hq1; exact hq1.symm
    have had0 : IntKind.u64.wrap (cu : Int) = (q2 : Int) := by simpa using had
    have had1 : IntKind.u64.wrap ((cu : Int) + 0) = (q2 : Int) := by simpa using had
    have hw0 : IntKind.u64.wrap 0 = 0 := by decide
    clear hfc hsl had hwk hq1
    go_region_held3 (fun w' => w'.cell? ⟨w.heap.size, 0, none⟩ = some (.int .i64 53) ∧ w'.cell? ⟨w.heap.size, 1, none⟩ = some (.int .i64 (-1074)) ∧ w'.cell? ⟨w.heap.size, 2, none⟩ = some (.int .u64 9218868437227405312) ∧ w'.cell? ⟨w.heap.size + 1, 0, none⟩ = some (.int .u64 n) ∧ w'.cell? ⟨w.heap.size + 1, 1, none⟩ = some (.bool more) ∧ w'.cell? ⟨w.heap.size + 1, 2, none⟩ = some (.int .i64 e0)) (exact ⟨o0, o1, o2, p0, p1, p2⟩)
      (first | (go_at_call 55; go_must (refine (HLn.out _).mono ?_); rintro _ w5 ⟨rfl, hw5⟩; have hw5 := hw5.symm; subst hw5))
    go_wp2_with fail
    have HO := hide HB.out.drew
    have o0 : W.drew.drew.cell? ⟨w.heap.size, 0, none⟩ = some (.int .i64 53) := o0
    have o1 : W.drew.drew.cell? ⟨w.heap.size, 1, none⟩ = some (.int .i64 (-1074)) := o1
    have o2 : W.drew.drew.cell? ⟨w.heap.size, 2, none⟩ = some (.int .u64 9218868437227405312) := o2
    have p0 : W.drew.drew.cell? ⟨w.heap.size + 1, 0, none⟩ = some (.int .u64 n) := p0
    have p1 : W.drew.drew.cell? ⟨w.heap.size + 1, 1, none⟩ = some (.bool more) := p1
    have p2 : W.drew.drew.cell? ⟨w.heap.size + 1, 2, none⟩ = some (.int .i64 e0) := p2
    go_region_held3 (fun w' => w'.cell? ⟨w.heap.size, 0, none⟩ = some (.int .i64 53) ∧ w'.cell? ⟨w.heap.size, 1, none⟩ = some (.int .i64 (-1074)) ∧ w'.cell? ⟨w.heap.size, 2, none⟩ = some (.int .u64 9218868437227405312) ∧ w'.cell? ⟨w.heap.size + 1, 0, none⟩ = some (.int .u64 n) ∧ w'.cell? ⟨w.heap.size + 1, 1, none⟩ = some (.bool more) ∧ w'.cell? ⟨w.heap.size + 1, 2, none⟩ = some (.int .i64 e0)) (exact ⟨o0, o1, o2, p0, p1, p2⟩)
      (first | (simp only [hmin]; done) | (go_at_call 58; go_must (refine (HW.out _).mono ?_); rintro _ w5 ⟨rfl, B5⟩; have HO := hide (HO.out.trans (B5.mono HO.out.size)); have o0 : w5.cell? ⟨w.heap.size, 0, none⟩ = some (.int .i64 53) := (by rw [B5.cell (p := ⟨w.heap.size, 0, none⟩) (block_lt_of_cell o0)]; exact o0); have o1 : w5.cell? ⟨w.heap.size, 1, none⟩ = some (.int .i64 (-1074)) := (by rw [B5.cell (p := ⟨w.heap.size, 1, none⟩) (block_lt_of_cell o1)]; exact o1); have o2 : w5.cell? ⟨w.heap.size, 2, none⟩ = some (.int .u64 9218868437227405312) := (by rw [B5.cell (p := ⟨w.heap.size, 2, none⟩) (block_lt_of_cell o2)]; exact o2); have p0 : w5.cell? ⟨w.heap.size + 1, 0, none⟩ = some (.int .u64 n) := (by rw [B5.cell (p := ⟨w.heap.size + 1, 0, none⟩) (block_lt_of_cell p0)]; exact p0); have p1 : w5.cell? ⟨w.heap.size + 1, 1, none⟩ = some (.bool more) := (by rw [B5.cell (p := ⟨w.heap.size + 1, 1, none⟩) (block_lt_of_cell p1)]; exact p1); have p2 : w5.cell? ⟨w.heap.size + 1, 2, none⟩ = some (.int .i64 e0) := (by rw [B5.cell (p := ⟨w.heap.size + 1, 2, none⟩) (block_lt_of_cell p2)]; exact p2); clear B5))
    go_wp2_with fail
    go_ret
    exact ⟨rfl, HO.out⟩
  · subst hst
    rcases hfc with ⟨k2, hfl⟩ | ⟨k2, hfl⟩
    · subst hfl
      have hsla : IntKind.u64.wrap (2048 * 4503599627370496) = (q1 : Int) := hsl
      have hslb : IntKind.u64.wrap 9223372036854775808 = (q1 : Int) := hsl
      have hk3 : st + 1074 = (kk : Int) := by have := HKK.out.1; omega
      have k3 : 2048 < st + 1074 := by omega
      clear hsl hq1 k2 hk3
      go_region_held3 (fun w' => w'.cell? ⟨w.heap.size, 0, none⟩ = some (.int .i64 53) ∧ w'.cell? ⟨w.heap.size, 1, none⟩ = some (.int .i64 (-1074)) ∧ w'.cell? ⟨w.heap.size, 2, none⟩ = some (.int .u64 9218868437227405312) ∧ w'.cell? ⟨w.heap.size + 1, 0, none⟩ = some (.int .u64 n) ∧ w'.cell? ⟨w.heap.size + 1, 1, none⟩ = some (.bool more) ∧ w'.cell? ⟨w.heap.size + 1, 2, none⟩ = some (.int .i64 e0)) (exact ⟨o0, o1, o2, p0, p1, p2⟩)
        (first | (go_at_call 55; go_must (refine (HLn.out _).mono ?_); rintro _ w5 ⟨rfl, hw5⟩; have hw5 := hw5.symm; subst hw5))
      go_wp2_with fail
      have HO := hide HB.out.drew
      have o0 : W.drew.drew.cell? ⟨w.heap.size, 0, none⟩ = some (.int .i64 53) := o0
      have o1 : W.drew.drew.cell? ⟨w.heap.size, 1, none⟩ = some (.int .i64 (-1074)) := o1
      have o2 : W.drew.drew.cell? ⟨w.heap.size, 2, none⟩ = some (.int .u64 9218868437227405312) := o2
      have p0 : W.drew.drew.cell? ⟨w.heap.size + 1, 0, none⟩ = some (.int .u64 n) := p0
      have p1 : W.drew.drew.cell? ⟨w.heap.size + 1, 1, none⟩ = some (.bool more) := p1
      have p2 : W.drew.drew.cell? ⟨w.heap.size + 1, 2, none⟩ = some (.int .i64 e0) := p2
      go_region_held3 (fun w' => w'.cell? ⟨w.heap.size, 0, none⟩ = some (.int .i64 53) ∧ w'.cell? ⟨w.heap.size, 1, none⟩ = some (.int .i64 (-1074)) ∧ w'.cell? ⟨w.heap.size, 2, none⟩ = some (.int .u64 9218868437227405312) ∧ w'.cell? ⟨w.heap.size + 1, 0, none⟩ = some (.int .u64 n) ∧ w'.cell? ⟨w.heap.size + 1, 1, none⟩ = some (.bool more) ∧ w'.cell? ⟨w.heap.size + 1, 2, none⟩ = some (.int .i64 e0)) (exact ⟨o0, o1, o2, p0, p1, p2⟩)
        (first | (simp only [hmin]; done) | (go_at_call 58; go_must (refine (HW.out _).mono ?_); rintro _ w5 ⟨rfl, B5⟩; have HO := hide (HO.out.trans (B5.mono HO.out.size)); have o0 : w5.cell? ⟨w.heap.size, 0, none⟩ = some (.int .i64 53) := (by rw [B5.cell (p := ⟨w.heap.size, 0, none⟩) (block_lt_of_cell o0)]; exact o0); have o1 : w5.cell? ⟨w.heap.size, 1, none⟩ = some (.int .i64 (-1074)) := (by rw [B5.cell (p := ⟨w.heap.size, 1, none⟩) (block_lt_of_cell o1)]; exact o1); have o2 : w5.cell? ⟨w.heap.size, 2, none⟩ = some (.int .u64 9218868437227405312) := (by rw [B5.cell (p := ⟨w.heap.size, 2, none⟩) (block_lt_of_cell o2)]; exact o2); have p0 : w5.cell? ⟨w.heap.size + 1, 0, none⟩ = some (.int .u64 n) := (by rw [B5.cell (p := ⟨w.heap.size + 1, 0, none⟩) (block_lt_of_cell p0)]; exact p0); have p1 : w5.cell? ⟨w.heap.size + 1, 1, none⟩ = some (.bool more) := (by rw [B5.cell (p := ⟨w.heap.size + 1, 1, none⟩) (block_lt_of_cell p1)]; exact p1); have p2 : w5.cell? ⟨w.heap.size + 1, 2, none⟩ = some (.int .i64 e0) := (by rw [B5.cell (p := ⟨w.heap.size + 1, 2, none⟩) (block_lt_of_cell p2)]; exact p2); clear B5))
      go_wp2_with fail
      go_ret
      exact ⟨rfl, HO.out⟩
    · subst hfl
      have hk3 : st + 1074 = (fl : Int) := by have := HKK.out.1; omega
      have k3 : ¬ (2048 : Int) < (fl : Int) := by omega
      clear hq1 k2
      go_region_held3 (fun w' => w'.cell? ⟨w.heap.size, 0, none⟩ = some (.int .i64 53) ∧ w'.cell? ⟨w.heap.size, 1, none⟩ = some (.int .i64 (-1074)) ∧ w'.cell? ⟨w.heap.size, 2, none⟩ = some (.int .u64 9218868437227405312) ∧ w'.cell? ⟨w.heap.size + 1, 0, none⟩ = some (.int .u64 n) ∧ w'.cell? ⟨w.heap.size + 1, 1, none⟩ = some (.bool more) ∧ w'.cell? ⟨w.heap.size + 1, 2, none⟩ = some (.int .i64 e0)) (exact ⟨o0, o1, o2, p0, p1, p2⟩)
        (first | (go_at_call 55; go_must (refine (HLn.out _).mono ?_); rintro _ w5 ⟨rfl, hw5⟩; have hw5 := hw5.symm; subst hw5))
      go_wp2_with (simp only [hk3])
      have HO := hide HB.out.drew
      have o0 : W.drew.drew.cell? ⟨w.heap.size, 0, none⟩ = some (.int .i64 53) := o0
      have o1 : W.drew.drew.cell? ⟨w.heap.size, 1, none⟩ = some (.int .i64 (-1074)) := o1
      have o2 : W.drew.drew.cell? ⟨w.heap.size, 2, none⟩ = some (.int .u64 9218868437227405312) := o2
      have p0 : W.drew.drew.cell? ⟨w.heap.size + 1, 0, none⟩ = some (.int .u64 n) := p0
      have p1 : W.drew.drew.cell? ⟨w.heap.size + 1, 1, none⟩ = some (.bool more) := p1
      have p2 : W.drew.drew.cell? ⟨w.heap.size + 1, 2, none⟩ = some (.int .i64 e0) := p2
      go_region_held3 (fun w' => w'.cell? ⟨w.heap.size, 0, none⟩ = some (.int .i64 53) ∧ w'.cell? ⟨w.heap.size, 1, none⟩ = some (.int .i64 (-1074)) ∧ w'.cell? ⟨w.heap.size, 2, none⟩ = some (.int .u64 9218868437227405312) ∧ w'.cell? ⟨w.heap.size + 1, 0, none⟩ = some (.int .u64 n) ∧ w'.cell? ⟨w.heap.size + 1, 1, none⟩ = some (.bool more) ∧ w'.cell? ⟨w.heap.size + 1, 2, none⟩ = some (.int .i64 e0)) (exact ⟨o0, o1, o2, p0, p1, p2⟩)
        (first | (simp only [hmin]; done) | (go_at_call 58; go_must (refine (HW.out _).mono ?_); rintro _ w5 ⟨rfl, B5⟩; have HO := hide (HO.out.trans (B5.mono HO.out.size)); have o0 : w5.cell? ⟨w.heap.size, 0, none⟩ = some (.int .i64 53) := (by rw [B5.cell (p := ⟨w.heap.size, 0, none⟩) (block_lt_of_cell o0)]; exact o0); have o1 : w5.cell? ⟨w.heap.size, 1, none⟩ = some (.int .i64 (-1074)) := (by rw [B5.cell (p := ⟨w.heap.size, 1, none⟩) (block_lt_of_cell o1)]; exact o1); have o2 : w5.cell? ⟨w.heap.size, 2, none⟩ = some (.int .u64 9218868437227405312) := (by rw [B5.cell (p := ⟨w.heap.size, 2, none⟩) (block_lt_of_cell o2)]; exact o2); have p0 : w5.cell? ⟨w.heap.size + 1, 0, none⟩ = some (.int .u64 n) := (by rw [B5.cell (p := ⟨w.heap.size + 1, 0, none⟩) (block_lt_of_cell p0)]; exact p0); have p1 : w5.cell? ⟨w.heap.size + 1, 1, none⟩ = some (.bool more) := (by rw [B5.cell (p := ⟨w.heap.size + 1, 1, none⟩) (block_lt_of_cell p1)]; exact p1); have p2 : w5.cell? ⟨w.heap.size + 1, 2, none⟩ = some (.int .i64 e0) := (by rw [B5.cell (p := ⟨w.heap.size + 1, 2, none⟩) (block_lt_of_cell p2)]; exact p2); clear B5))
      go_wp2_with fail
      go_ret
      exact ⟨rfl, HO.out⟩


end Go.Proofs.YtolaaemkcmiabaaDoor

/- FloatErrors: whole numbers with their signs. -/
import Derived.Test.YtmkploknoohliaaNG
import Derived.Test.YtmkploknoohliaaNL
import Derived.Test.YtmkploknoohliaaRL
import Derived.Test.YtmkploknoohliaaFQ
namespace Go.Proofs.Ytmkploknoohliaa
open Go.RowKit
open M
open Flt (V)
set_option linter.unusedVariables false
set_option linter.unusedSimpArgs false

set_option maxRecDepth 100000 in
set_option maxHeartbeats 1000000 in
theorem eqNat_any {S S' : Nat → Prop} (v u : Value) (k A m C : Nat) (w : World) (h : RowX S w v k A) (h' : RowX S' w u m C) :
    Calls Try.prog 14 #[v, u] w fun e w' => e = .returned (.bool (decide (k = m ∧ A = C))) ∧ ∃ n, w' = w.drewN n := by
  have HA := hide h.1
  have HC := hide h'.1
  obtain ⟨hN, hk, ad, cap, rfl, hc, hcell⟩ := h
  obtain ⟨hN', hk', ad', cap', rfl, hc', hcell'⟩ := h'
  by_cases hkm : k = m
  · subst hkm
    have H1 := hide hcell
    have H2 := hide hcell'
    clear hN hN' hcell hcell'
    go_enter Try.func14, Try.ntmps14
    go_wp2_with fail
    go_loopw [5] (fun t5 wr => ∃ i : Nat, i ≤ k ∧ t5 = .int .i64 i ∧ Hid ((∀ j, j < i → dg A j = dg C j) ∧ ∃ n, wr = w.drewN n)) (fun t5 _ => k - (intOf t5).toNat)
    case atStart => exact ⟨0, by omega, rfl, fun j hj => by omega, 0, rfl⟩
    case round =>
      obtain ⟨i, hi, rfl, HI⟩ := hrel
      by_cases hlt : i < k
      · have hlt' : (i : Int) < (k : Int) := by omega
        obtain ⟨g, o, rfl, _, hc1⟩ := H1.out (by omega)
        obtain ⟨g', o', rfl, _, hc2⟩ := H2.out (by omega)
        have hx : wr.cell? ⟨g, o + i, none⟩ = some (.int .u32 (dg A i : Nat)) := by obtain ⟨n, rfl⟩ := HI.out.2; exact hc1 i hlt
        have hy : wr.cell? ⟨g', o' + i, none⟩ = some (.int .u32 (dg C i : Nat)) := by obtain ⟨n, rfl⟩ := HI.out.2; exact hc2 i hlt
        have HX : Hid (dg A i = dg C i → ∀ j, j < i + 1 → dg A j = dg C j) := fun e j hj => by
          by_cases ej : j = i
          · subst ej; exact e
          · exact HI.out.1 j (by omega)
        have HY : Hid (dg A i ≠ dg C i → ¬ (k = k ∧ A = C)) := fun h e => h (by rw [e.2])
        clear hc1 hc2
        generalize dg A i = x at *
        generalize dg C i = y at *
        by_cases hxy : x = y
        · subst hxy
          have HQ := hide (HX.out rfl)
          clear HX HY
          go_wp2_with fail
          go_quiet (fail)
          go_wp2_with fail
          refine ⟨⟨i + 1, by omega, by go_num, HQ.out, ?_⟩, by simp [intOf]; omega⟩
          obtain ⟨n, rfl⟩ := HI.out.2
          exact ⟨n + nq, World.drewN_drewN _ _ _⟩
        · have hne : ((x : Int) == (y : Int)) = false := by rw [beq_eq_false_iff_ne]; omega
          have hne2 : ((x : Int) != (y : Int)) = true := by rw [bne_iff_ne]; omega
          have HQ := hide (HY.out hxy)
          clear HX HY
          go_wp2_with fail
          go_quiet (fail)
          go_wp2_with fail
          go_ret
          refine ⟨by rw [decide_eq_false HQ.out]; rfl, ?_⟩
          obtain ⟨n, rfl⟩ := HI.out.2
          exact ⟨n + nq, World.drewN_drewN _ _ _⟩
      · have HQ : Hid (A = C) := ext HA.out HC.out (fun j hj => HI.out.1 j (by omega))
        go_wp2_with fail
        go_ret
        have e := HQ.out
        exact ⟨by simp [e], HI.out.2⟩
  · have hne : ((k : Int) == (m : Int)) = false := by rw [beq_eq_false_iff_ne]; omega
    have hne2 : ((k : Int) != (m : Int)) = true := by rw [bne_iff_ne]; omega
    have HQ : Hid (¬ (k = m ∧ A = C)) := fun e => hkm e.1
    clear hcell hcell' hN hN'
    go_enter Try.func14, Try.ntmps14
    go_wp2_with fail
    go_ret
    exact ⟨by rw [decide_eq_false HQ.out]; rfl, 0, rfl⟩

set_option maxRecDepth 100000 in
set_option maxHeartbeats 1000000 in

open Flt
theorem lEq {B1 B2 : Nat} {v u : Value} {A : Nat} {w : World} (h : LimB B1 w v A) (h' : LimB B2 w u A) :
    Calls Try.prog 14 #[v, u] w fun e w' => e = .returned (.bool true) ∧ Below w.heap.size w w' := by
  obtain ⟨k, r1, n1, b1⟩ := h
  obtain ⟨m, r2, n2, b2⟩ := h'
  refine (eqNat_any v u k A m A w r1 r2).mono ?_
  rintro e w' ⟨rfl, n, rfl⟩
  refine ⟨?_, below_drewN (Below.refl _ _) n⟩
  rw [decide_eq_true ⟨Nrm.uniq n1 n2, rfl⟩]

theorem lLess {B1 B2 : Nat} {v u : Value} {A C : Nat} {w : World} (h : LimB B1 w v A) (h' : LimB B2 w u C) (hCA : C ≤ A) (h1 : B1 ≤ 10000) (h2 : B2 ≤ 10000) :
    Calls Try.prog 21 #[v, u] w fun e w' => ∃ r, e = .returned r ∧ LimB (max B1 B2 + 1) w' r (A - C) ∧ Below w.heap.size w w' := by
  obtain ⟨k, r1, n1, b1⟩ := h
  obtain ⟨m, r2, n2, b2⟩ := h'
  have hmk : m ≤ k := n2.le (Nat.lt_of_le_of_lt hCA n1.1)
  refine (nLess v u k A m C w r1 r2 hmk hCA (by omega)).mono ?_
  rintro e w' ⟨r, rfl, n, hr, hn, hk, hb⟩
  exact ⟨r, rfl, ⟨n, hr.row, hn, by omega⟩, hb⟩

theorem LimB.slice {B : Nat} {w : World} {v : Value} {N : Nat} (h : LimB B w v N) : ∃ ad k cap, v = .slice ad k cap := by
  obtain ⟨k, ⟨_, _, ad, cap, hv, _⟩, _⟩ := h
  exact ⟨ad, k, cap, hv⟩

/-- A row of limbs does not lie in a block that holds none. -/
theorem LimB.other {B h : Nat} {w w' : World} {v : Value} {N : Nat} (hl : LimB B w v N) (c : ∀ o x, w.cell? ⟨h, o, none⟩ ≠ some (.int .u32 x)) (k : ∀ g o, g ≠ h → w'.cell? ⟨g, o, none⟩ = w.cell? ⟨g, o, none⟩) : LimB B w' v N := by
  obtain ⟨n, ⟨h1, h2, ad, cap, hv, hcap, hcell⟩, n1, n2⟩ := hl
  refine ⟨n, ⟨h1, h2, ad, cap, hv, hcap, fun hk => ?_⟩, n1, n2⟩
  obtain ⟨g, o, ha, hs, hj⟩ := hcell hk
  have hg : g ≠ h := by rintro rfl; exact c _ _ (hj 0 hk)
  exact ⟨g, o, ha, hs, fun j hj' => by rw [k g _ hg]; exact hj j hj'⟩

theorem whole_new (w : World) (a b : Value) (t : TypeId) : (w.alloc (.cells #[a, b] t)).cell? ⟨w.heap.size, 0, none⟩ = some a ∧ (w.alloc (.cells #[a, b] t)).cell? ⟨w.heap.size, 1, none⟩ = some b ∧ ∀ o, 2 ≤ o → (w.alloc (.cells #[a, b] t)).cell? ⟨w.heap.size, o, none⟩ = none := by
  refine ⟨by rw [cell_of_row _ _ _ _ _ _ (heap_alloc_new _ _)]; rfl, by rw [cell_of_row _ _ _ _ _ _ (heap_alloc_new _ _)]; rfl, fun o ho => ?_⟩
  obtain ⟨k, rfl⟩ : ∃ k, o = k + 2 := ⟨o - 2, by omega⟩
  rw [cell_of_row _ _ _ _ _ _ (heap_alloc_new _ _)]; rfl

/-- A result that is laid in a cell. -/
theorem whole_put {w1 : World} {h : Nat} {s : Bool} {v : Value} (c0 : w1.cell? ⟨h, 0, none⟩ = some (.bool false)) (c1 : w1.cell? ⟨h, 1, none⟩ = some (.slice none 0 0)) (c2 : ∀ o x, w1.cell? ⟨h, o, none⟩ ≠ some (.int .u32 x)) :
    ((w1.setCell ⟨h, 0, none⟩ (.bool s)).setCell ⟨h, 1, none⟩ v).cell? ⟨h, 0, none⟩ = some (.bool s) ∧ ((w1.setCell ⟨h, 0, none⟩ (.bool s)).setCell ⟨h, 1, none⟩ v).cell? ⟨h, 1, none⟩ = some v ∧
    (∀ D (w : World), D ≤ h → Below D w w1 → Below D w ((w1.setCell ⟨h, 0, none⟩ (.bool s)).setCell ⟨h, 1, none⟩ v)) ∧
    ∀ B u N, LimB B w1 u N → LimB B ((w1.setCell ⟨h, 0, none⟩ (.bool s)).setCell ⟨h, 1, none⟩ v) u N := by
  have e1 : (w1.setCell ⟨h, 0, none⟩ (.bool s)).cell? ⟨h, 1, none⟩ = some (Value.slice none 0 0) := by rw [cell_setCell_ne _ _ _ _ _ (by omega)]; exact c1
  refine ⟨?_, cell_setCell_eq _ _ _ _ _ e1, ?_, ?_⟩
  · rw [cell_setCell_ne _ _ _ _ _ (by omega)]; exact cell_setCell_eq _ _ _ _ _ c0
  · intro D w hD hb
    exact (hb.setCell hD _).setCell hD _
  · intro B u N hl
    refine hl.other (h := h) c2 ?_
    intro g o hg
    rw [cell_other _ _ _ _ _ _ hg, cell_other _ _ _ _ _ _ hg]

/-- A block of a sign and a row holds no limb. -/
theorem whole_none (w : World) (a : Bool) (x : Option Addr) (y z : Nat) (t : TypeId) : ∀ o q, (w.alloc (.cells #[.bool a, .slice x y z] t)).cell? ⟨w.heap.size, o, none⟩ ≠ some (.int .u32 q) := by
  intro o q hx
  obtain ⟨n0, n1, n2⟩ := whole_new w (.bool a) (.slice x y z) t
  rcases Nat.lt_or_ge o 2 with h | h
  · have : o = 0 ∨ o = 1 := by omega
    rcases this with rfl | rfl
    · rw [n0] at hx; cases hx
    · rw [n1] at hx; cases hx
  · rw [n2 o h] at hx; cases hx

/-- Two that came in, and the result's place. -/
theorem whole_three (w : World) (s t : Bool) (x1 x2 : Option Addr) (y1 z1 y2 z2 : Nat) (T : TypeId) : ∃ W : World, W = ((w.alloc (.cells #[.bool s, .slice x1 y1 z1] T)).alloc (.cells #[.bool t, .slice x2 y2 z2] T)).alloc (.cells #[.bool false, .slice none 0 0] T) ∧
    W.cell? ⟨w.heap.size, 0, none⟩ = some (.bool s) ∧ W.cell? ⟨w.heap.size, 1, none⟩ = some (.slice x1 y1 z1) ∧ W.cell? ⟨w.heap.size + 1, 0, none⟩ = some (.bool t) ∧ W.cell? ⟨w.heap.size + 1, 1, none⟩ = some (.slice x2 y2 z2) ∧
    W.cell? ⟨w.heap.size + 1 + 1, 0, none⟩ = some (.bool false) ∧ W.cell? ⟨w.heap.size + 1 + 1, 1, none⟩ = some (.slice none 0 0) ∧ (∀ o q, W.cell? ⟨w.heap.size + 1 + 1, o, none⟩ ≠ some (.int .u32 q)) ∧ (∀ o, W.frozen? ⟨w.heap.size + 1 + 1, o, none⟩ = false) ∧ W.heap.size = w.heap.size + 1 + 1 + 1 ∧ Below w.heap.size w W := by
  obtain ⟨W1, h1⟩ : ∃ W1, W1 = w.alloc (.cells #[.bool s, .slice x1 y1 z1] T) := ⟨_, rfl⟩
  obtain ⟨W2, h2⟩ : ∃ W2, W2 = W1.alloc (.cells #[.bool t, .slice x2 y2 z2] T) := ⟨_, rfl⟩
  have hz1 : W1.heap.size = w.heap.size + 1 := by rw [h1]; simp
  have hz2 : W2.heap.size = w.heap.size + 1 + 1 := by rw [h2, ← hz1]; simp
  obtain ⟨W3, h3⟩ : ∃ W3, W3 = W2.alloc (.cells #[.bool false, .slice none 0 0] T) := ⟨_, rfl⟩
  have b1 : Below W1.heap.size W1 W2 := by rw [h2]; exact (Below.refl _ _).alloc (Nat.le_refl _) _
  have b2 : Below W2.heap.size W2 W3 := by rw [h3]; exact (Below.refl _ _).alloc (Nat.le_refl _) _
  have b0 : Below w.heap.size w W1 := by rw [h1]; exact (Below.refl _ _).alloc (Nat.le_refl _) _
  obtain ⟨n0, n1, _⟩ := whole_new w (.bool s) (.slice x1 y1 z1) T
  obtain ⟨m0, m1, _⟩ := whole_new W1 (.bool t) (.slice x2 y2 z2) T
  obtain ⟨k0, k1, _⟩ := whole_new W2 (.bool false) (.slice none 0 0) T
  have kn := whole_none W2 false none 0 0 T
  rw [← h1] at n0 n1
  rw [← h2] at m0 m1
  rw [← h3] at k0 k1 kn
  rw [hz1] at m0 m1
  rw [hz2] at k0 k1 kn
  have u1 : ∀ o, W3.cell? ⟨w.heap.size + 1, o, none⟩ = W2.cell? ⟨w.heap.size + 1, o, none⟩ := fun o => b2.cell (p := ⟨w.heap.size + 1, o, none⟩) (by rw [hz2]; exact Nat.lt_succ_self _)
  have u0 : ∀ o, W3.cell? ⟨w.heap.size, o, none⟩ = W1.cell? ⟨w.heap.size, o, none⟩ := fun o => by
    rw [b2.cell (p := ⟨w.heap.size, o, none⟩) (by rw [hz2]; show w.heap.size < _; omega), b1.cell (p := ⟨w.heap.size, o, none⟩) (by rw [hz1]; show w.heap.size < _; omega)]
  refine ⟨W3, by rw [h3, h2, h1], by rw [u0]; exact n0, by rw [u0]; exact n1, by rw [u1]; exact m0, by rw [u1]; exact m1, k0, k1, kn, fun o => by have := World.frozen?_alloc_new W2 #[.bool false, .slice none 0 0] T o; rw [← h3, hz2] at this; exact this, by rw [h3, ← hz2]; simp, ?_⟩
  exact (b0.trans (b1.mono (by omega))).trans (b2.mono (by omega))

/-- A signed whole number. -/
def sW (s : Bool) (A : Nat) : Int := if s then -(A : Int) else (A : Int)

set_option maxRecDepth 100000 in
set_option maxHeartbeats 1000000 in
theorem of_any (b : Nat) (w : World) (hb : b < 18446744073709551616) : Calls Try.prog 9 #[.int .u64 b] w fun e w' => ∃ r, e = .returned (.agg #[.bool (decide (9223372036854775808 ≤ b)), r]) ∧ LimB 100 w' r (V Ieee.double (b % 9223372036854775808)) ∧ Below w.heap.size w w' := by
  have HU := fhide (fun w : World => units_any b w hb)
  generalize V Ieee.double (b % 9223372036854775808) = N at *
  obtain ⟨y, hy, hs⟩ : ∃ y : Nat, bits BinOp.and IntKind.u64 (b : Int) 9223372036854775808 = (y : Int) ∧ (((y : Nat) : Int) != 0) = decide (9223372036854775808 ≤ b) := by
    by_cases h : b < 9223372036854775808
    · exact ⟨0, by rw [b64_and_lo b h]; rfl, by rw [decide_eq_false (by omega)]; rfl⟩
    · exact ⟨9223372036854775808, by rw [b64_and_hi b (by omega) hb]; rfl, by rw [decide_eq_true (by omega)]; rfl⟩
  generalize decide (9223372036854775808 ≤ b) = s at *
  clear hb
  go_enter Try.func9, Try.ntmps9
  go_wp2_with (simp only [hy, hs])
  refine (HU.out _).mono ?_
  rintro e w1 ⟨r, rfl, hl, hb1⟩
  have hl : LimB 100 w1 r N := hl
  obtain ⟨ad, len, cap, rfl⟩ := hl.slice
  obtain ⟨hc, hf⟩ := (⟨fun b o h => hb1.cell (p := ⟨b, o, none⟩) h, fun b o h => hb1.frozen (p := ⟨b, o, none⟩) h⟩ : (∀ b o, b < (w.alloc (Obj.cells #[Value.bool false, Value.slice none 0 0] 32)).heap.size → w1.cell? ⟨b, o, none⟩ = (w.alloc (Obj.cells #[Value.bool false, Value.slice none 0 0] 32)).cell? ⟨b, o, none⟩) ∧ (∀ b o, b < (w.alloc (Obj.cells #[Value.bool false, Value.slice none 0 0] 32)).heap.size → w1.frozen? ⟨b, o, none⟩ = (w.alloc (Obj.cells #[Value.bool false, Value.slice none 0 0] 32)).frozen? ⟨b, o, none⟩))
  have HB := fhide hb1
  have HL := fhide hl
  clear hb1 hl
  go_wp2_with fail
  have hsz : w.heap.size < (w.alloc (Obj.cells #[Value.bool false, Value.slice none 0 0] 32)).heap.size := by simp
  obtain ⟨n0, n1, _⟩ := whole_new w (.bool false) (.slice none 0 0) 32
  obtain ⟨r0, r1, r2, r3⟩ := whole_put (w1 := w1) (h := w.heap.size) (s := s) (v := .slice ad len cap) (by rw [hc _ _ hsz]; exact n0) (by rw [hc _ _ hsz]; exact n1) (fun o x => by rw [hc _ _ hsz]; exact whole_none w false none 0 0 _ o x)
  refine bodyPost_ret (v := .agg #[.bool s, .slice ad len cap]) (by simp [results, Try.results9, go_sem, r0, r1]) rfl ?_
  exact ⟨_, rfl, r3 _ _ _ HL.out, r2 _ _ (Nat.le_refl _) (((Below.refl _ w).alloc (Nat.le_refl _) _).trans (HB.out.mono (by simp)))⟩

set_option maxRecDepth 100000 in
set_option maxHeartbeats 4000000 in
theorem plus_same {B1 B2 : Nat} (s : Bool) (v u : Value) (A C : Nat) (w : World) (h : LimB B1 w v A) (h' : LimB B2 w u C) (h1 : B1 ≤ 5000) (h2 : B2 ≤ 5000) :
    Calls Try.prog 8 #[.agg #[.bool s, v], .agg #[.bool s, u]] w fun e w' => ∃ r, e = .returned (.agg #[.bool s, r]) ∧ LimB (max B1 B2 + 1) w' r (A + C) ∧ Below w.heap.size w w' := by
  obtain ⟨a1, k1, p1, rfl⟩ := h.slice
  obtain ⟨a2, k2, p2, rfl⟩ := h'.slice
  have HS : Hid (∀ w1 : World, LimB B1 w1 (.slice a1 k1 p1) A → LimB B2 w1 (.slice a2 k2 p2) C → Calls Try.prog 19 #[.slice a1 k1 p1, .slice a2 k2 p2] w1 fun e w' => ∃ r, e = .returned r ∧ LimB (max B1 B2 + 1) w' r (A + C) ∧ Below w1.heap.size w1 w') := fun w1 q1 q2 => lSum q1 q2 (by omega) (by omega)
  have HL := fhide (And.intro h h')
  have hss : (s == s) = true := by cases s <;> rfl
  clear h h'
  obtain ⟨W, hW, c00, c01, c10, c11, c20, c21, cn, fz, hsz, hbel⟩ := whole_three w s s a1 a2 k1 p1 k2 p2 32
  go_enter Try.func8, Try.ntmps8
  go_wp2_with (simp only [hss])
  rw [← hW]
  have HN := fhide (And.intro cn (And.intro hsz hbel))
  have q0 := HL.out.1.below hbel
  have q1 := HL.out.2.below hbel
  have HQ : Hid (LimB B1 W.drew (.slice a1 k1 p1) A ∧ LimB B2 W.drew (.slice a2 k2 p2) C) := ⟨q0, q1⟩
  have HI : Hid (Below W.heap.size W W.drew) := (Below.refl _ _).drew
  have c00 : W.drew.cell? ⟨w.heap.size, 0, none⟩ = some (.bool s) := c00
  have c01 : W.drew.cell? ⟨w.heap.size, 1, none⟩ = some (.slice a1 k1 p1) := c01
  have c10 : W.drew.cell? ⟨w.heap.size + 1, 0, none⟩ = some (.bool s) := c10
  have c11 : W.drew.cell? ⟨w.heap.size + 1, 1, none⟩ = some (.slice a2 k2 p2) := c11
  have c20 : W.drew.cell? ⟨w.heap.size + 1 + 1, 0, none⟩ = some (.bool false) := c20
  have c21 : W.drew.cell? ⟨w.heap.size + 1 + 1, 1, none⟩ = some (.slice none 0 0) := c21
  have f20 : W.drew.frozen? ⟨w.heap.size + 1 + 1, 0, none⟩ = false := fz 0
  have f21 : W.drew.frozen? ⟨w.heap.size + 1 + 1, 1, none⟩ = false := fz 1
  clear hW cn hsz hbel q0 q1 fz
  go_region_held3 (fun w' => w'.cell? ⟨w.heap.size, 0, none⟩ = some (.bool s) ∧ w'.cell? ⟨w.heap.size, 1, none⟩ = some (.slice a1 k1 p1) ∧ w'.cell? ⟨w.heap.size + 1, 0, none⟩ = some (.bool s) ∧ w'.cell? ⟨w.heap.size + 1, 1, none⟩ = some (.slice a2 k2 p2)) (first | exact ⟨c00, c01, c10, c11⟩ | (refine ⟨?_, ?_, ?_, ?_⟩ <;> (rw [cell_other _ _ _ _ _ _ (by omega), cell_other _ _ _ _ _ _ (by omega)]; assumption)))
    (first | (go_at_call 19; go_must (refine (HS.out _ HQ.out.1 HQ.out.2).mono ?_); rintro _ w5 ⟨r, rfl, hr, B5⟩; obtain ⟨a3, k3, p3, rfl⟩ := hr.slice; have HR := fhide hr; have hz5 := block_lt_of_cell c20; have HI := fhide (HI.out.trans (B5.mono HI.out.size)); have c00 : w5.cell? ⟨w.heap.size, 0, none⟩ = some (.bool s) := (by rw [B5.cell (p := ⟨w.heap.size, 0, none⟩) (block_lt_of_cell c00)]; exact c00); have c01 : w5.cell? ⟨w.heap.size, 1, none⟩ = some (.slice a1 k1 p1) := (by rw [B5.cell (p := ⟨w.heap.size, 1, none⟩) (block_lt_of_cell c01)]; exact c01); have c10 : w5.cell? ⟨w.heap.size + 1, 0, none⟩ = some (.bool s) := (by rw [B5.cell (p := ⟨w.heap.size + 1, 0, none⟩) (block_lt_of_cell c10)]; exact c10); have c11 : w5.cell? ⟨w.heap.size + 1, 1, none⟩ = some (.slice a2 k2 p2) := (by rw [B5.cell (p := ⟨w.heap.size + 1, 1, none⟩) (block_lt_of_cell c11)]; exact c11); have c20 : w5.cell? ⟨w.heap.size + 1 + 1, 0, none⟩ = some (.bool false) := (by rw [B5.cell (p := ⟨w.heap.size + 1 + 1, 0, none⟩) (block_lt_of_cell c20)]; exact c20); have c21 : w5.cell? ⟨w.heap.size + 1 + 1, 1, none⟩ = some (.slice none 0 0) := (by rw [B5.cell (p := ⟨w.heap.size + 1 + 1, 1, none⟩) (block_lt_of_cell c21)]; exact c21); have f21 : w5.frozen? ⟨w.heap.size + 1 + 1, 1, none⟩ = false := (by rw [B5.frozen (p := ⟨w.heap.size + 1 + 1, 1, none⟩) hz5]; exact f21); have f20 : w5.frozen? ⟨w.heap.size + 1 + 1, 0, none⟩ = false := (by rw [B5.frozen (p := ⟨w.heap.size + 1 + 1, 0, none⟩) hz5]; exact f20); clear B5 hr hz5))
  go_wp2_with fail
  obtain ⟨cn, hsz, hbel⟩ := HN.out
  have hlt : w.heap.size + 1 + 1 < W.heap.size := by rw [hsz]; exact Nat.lt_succ_self _
  obtain ⟨r0, r1, r2, r3⟩ := whole_put (w1 := w5) (h := w.heap.size + 1 + 1) (s := s) (v := .slice a3 k3 p3) c20 c21 (fun o x => by rw [HI.out.cell (p := ⟨w.heap.size + 1 + 1, o, none⟩) hlt]; exact cn o x)
  refine bodyPost_ret (v := .agg #[.bool s, .slice a3 k3 p3]) (by simp [results, Try.results8, go_sem, r0, r1]) rfl ?_
  exact ⟨_, rfl, r3 _ _ _ HR.out, r2 _ _ (by omega) (hbel.trans (HI.out.mono hbel.size))⟩

set_option maxRecDepth 100000 in
set_option maxHeartbeats 4000000 in
theorem plus_more {B1 B2 : Nat} (s t : Bool) (v u : Value) (A C : Nat) (w : World) (h : LimB B1 w v A) (h' : LimB B2 w u C) (h1 : B1 ≤ 5000) (h2 : B2 ≤ 5000) (hst : s ≠ t) (hCA : C ≤ A) :
    Calls Try.prog 8 #[.agg #[.bool s, v], .agg #[.bool t, u]] w fun e w' => ∃ r, e = .returned (.agg #[.bool s, r]) ∧ LimB (max B1 B2 + 1) w' r (A - C) ∧ Below w.heap.size w w' := by
  obtain ⟨a1, k1, p1, rfl⟩ := h.slice
  obtain ⟨a2, k2, p2, rfl⟩ := h'.slice
  have HS : Hid (∀ w1 : World, LimB B1 w1 (.slice a1 k1 p1) A → LimB B2 w1 (.slice a2 k2 p2) C → Calls Try.prog 21 #[.slice a1 k1 p1, .slice a2 k2 p2] w1 fun e w' => ∃ r, e = .returned r ∧ LimB (max B1 B2 + 1) w' r (A - C) ∧ Below w1.heap.size w1 w') := fun w1 q1 q2 => lLess q1 q2 hCA (by omega) (by omega)
  have HL := fhide (And.intro h h')
  have hss : (s == t) = false := by cases s <;> cases t <;> first | rfl | exact absurd rfl hst
  have HC : Hid (∀ w1 : World, LimB B1 w1 (.slice a1 k1 p1) A → LimB B2 w1 (.slice a2 k2 p2) C → Calls Try.prog 20 #[.slice a1 k1 p1, .slice a2 k2 p2] w1 fun e w' => e = .returned (.int .i64 (M.cmpI A C)) ∧ Below w1.heap.size w1 w') := fun w1 q1 q2 => lCmp q1 q2
  have hcc : (0 : Int) ≤ M.cmpI A C := by unfold M.cmpI; split <;> omega
  clear h h'
  obtain ⟨W, hW, c00, c01, c10, c11, c20, c21, cn, fz, hsz, hbel⟩ := whole_three w s t a1 a2 k1 p1 k2 p2 32
  go_enter Try.func8, Try.ntmps8
  go_wp2_with (simp only [hss])
  rw [← hW]
  refine (HC.out _ (HL.out.1.below hbel) (HL.out.2.below hbel)).mono ?_
  rintro e W2 ⟨rfl, hb2⟩
  have c00 : W2.cell? ⟨w.heap.size, 0, none⟩ = some (.bool s) := by rw [hb2.cell (p := ⟨w.heap.size, 0, none⟩) (block_lt_of_cell c00)]; exact c00
  have c01 : W2.cell? ⟨w.heap.size, 1, none⟩ = some (.slice a1 k1 p1) := by rw [hb2.cell (p := ⟨w.heap.size, 1, none⟩) (block_lt_of_cell c01)]; exact c01
  have c10 : W2.cell? ⟨w.heap.size + 1, 0, none⟩ = some (.bool t) := by rw [hb2.cell (p := ⟨w.heap.size + 1, 0, none⟩) (block_lt_of_cell c10)]; exact c10
  have c11 : W2.cell? ⟨w.heap.size + 1, 1, none⟩ = some (.slice a2 k2 p2) := by rw [hb2.cell (p := ⟨w.heap.size + 1, 1, none⟩) (block_lt_of_cell c11)]; exact c11
  have c20 : W2.cell? ⟨w.heap.size + 1 + 1, 0, none⟩ = some (.bool false) := by rw [hb2.cell (p := ⟨w.heap.size + 1 + 1, 0, none⟩) (block_lt_of_cell c20)]; exact c20
  have c21 : W2.cell? ⟨w.heap.size + 1 + 1, 1, none⟩ = some (.slice none 0 0) := by rw [hb2.cell (p := ⟨w.heap.size + 1 + 1, 1, none⟩) (block_lt_of_cell c21)]; exact c21
  have hlt0 : w.heap.size + 1 + 1 < W.heap.size := by rw [hsz]; exact Nat.lt_succ_self _
  have fz2 : ∀ o, W2.frozen? ⟨w.heap.size + 1 + 1, o, none⟩ = false := fun o => by rw [hb2.frozen (p := ⟨w.heap.size + 1 + 1, o, none⟩) hlt0]; exact fz o
  have cn2 : ∀ o q, W2.cell? ⟨w.heap.size + 1 + 1, o, none⟩ ≠ some (.int .u32 q) := fun o q => by rw [hb2.cell (p := ⟨w.heap.size + 1 + 1, o, none⟩) hlt0]; exact cn o q
  have hbel2 := hbel.trans (hb2.mono hbel.size)
  have hsz2 : w.heap.size + 1 + 1 < W2.heap.size := Nat.lt_of_lt_of_le hlt0 hb2.size
  clear hW cn fz hsz hbel hb2 hlt0
  go_wp2_with (simp only [hcc])
  have HN := fhide (And.intro cn2 (And.intro hsz2 hbel2))
  have q0 := HL.out.1.below hbel2
  have q1 := HL.out.2.below hbel2
  have HQ : Hid (LimB B1 W2.drew (.slice a1 k1 p1) A ∧ LimB B2 W2.drew (.slice a2 k2 p2) C) := ⟨q0, q1⟩
  have HI : Hid (Below W2.heap.size W2 W2.drew) := (Below.refl _ _).drew
  have c00 : W2.drew.cell? ⟨w.heap.size, 0, none⟩ = some (.bool s) := c00
  have c01 : W2.drew.cell? ⟨w.heap.size, 1, none⟩ = some (.slice a1 k1 p1) := c01
  have c10 : W2.drew.cell? ⟨w.heap.size + 1, 0, none⟩ = some (.bool t) := c10
  have c11 : W2.drew.cell? ⟨w.heap.size + 1, 1, none⟩ = some (.slice a2 k2 p2) := c11
  have c20 : W2.drew.cell? ⟨w.heap.size + 1 + 1, 0, none⟩ = some (.bool false) := c20
  have c21 : W2.drew.cell? ⟨w.heap.size + 1 + 1, 1, none⟩ = some (.slice none 0 0) := c21
  have f20 : W2.drew.frozen? ⟨w.heap.size + 1 + 1, 0, none⟩ = false := fz2 0
  have f21 : W2.drew.frozen? ⟨w.heap.size + 1 + 1, 1, none⟩ = false := fz2 1
  clear cn2 fz2 hsz2 hbel2 q0 q1
  go_region_held3 (fun w' => w'.cell? ⟨w.heap.size, 0, none⟩ = some (.bool s) ∧ w'.cell? ⟨w.heap.size, 1, none⟩ = some (.slice a1 k1 p1) ∧ w'.cell? ⟨w.heap.size + 1, 0, none⟩ = some (.bool t) ∧ w'.cell? ⟨w.heap.size + 1, 1, none⟩ = some (.slice a2 k2 p2)) (first | exact ⟨c00, c01, c10, c11⟩ | (refine ⟨?_, ?_, ?_, ?_⟩ <;> (rw [cell_other _ _ _ _ _ _ (by omega), cell_other _ _ _ _ _ _ (by omega)]; assumption)))
    (first | (go_at_call 21; go_must (refine (HS.out _ HQ.out.1 HQ.out.2).mono ?_); rintro _ w5 ⟨r, rfl, hr, B5⟩; obtain ⟨a3, k3, p3, rfl⟩ := hr.slice; have HR := fhide hr; have hz5 := block_lt_of_cell c20; have HI := fhide (HI.out.trans (B5.mono HI.out.size)); have c00 : w5.cell? ⟨w.heap.size, 0, none⟩ = some (.bool s) := (by rw [B5.cell (p := ⟨w.heap.size, 0, none⟩) (block_lt_of_cell c00)]; exact c00); have c01 : w5.cell? ⟨w.heap.size, 1, none⟩ = some (.slice a1 k1 p1) := (by rw [B5.cell (p := ⟨w.heap.size, 1, none⟩) (block_lt_of_cell c01)]; exact c01); have c10 : w5.cell? ⟨w.heap.size + 1, 0, none⟩ = some (.bool t) := (by rw [B5.cell (p := ⟨w.heap.size + 1, 0, none⟩) (block_lt_of_cell c10)]; exact c10); have c11 : w5.cell? ⟨w.heap.size + 1, 1, none⟩ = some (.slice a2 k2 p2) := (by rw [B5.cell (p := ⟨w.heap.size + 1, 1, none⟩) (block_lt_of_cell c11)]; exact c11); have c20 : w5.cell? ⟨w.heap.size + 1 + 1, 0, none⟩ = some (.bool false) := (by rw [B5.cell (p := ⟨w.heap.size + 1 + 1, 0, none⟩) (block_lt_of_cell c20)]; exact c20); have c21 : w5.cell? ⟨w.heap.size + 1 + 1, 1, none⟩ = some (.slice none 0 0) := (by rw [B5.cell (p := ⟨w.heap.size + 1 + 1, 1, none⟩) (block_lt_of_cell c21)]; exact c21); have f21 : w5.frozen? ⟨w.heap.size + 1 + 1, 1, none⟩ = false := (by rw [B5.frozen (p := ⟨w.heap.size + 1 + 1, 1, none⟩) hz5]; exact f21); have f20 : w5.frozen? ⟨w.heap.size + 1 + 1, 0, none⟩ = false := (by rw [B5.frozen (p := ⟨w.heap.size + 1 + 1, 0, none⟩) hz5]; exact f20); clear B5 hr hz5))
  go_wp2_with fail
  obtain ⟨cn, hlt, hbel⟩ := HN.out
  obtain ⟨r0, r1, r2, r3⟩ := whole_put (w1 := w5) (h := w.heap.size + 1 + 1) (s := s) (v := .slice a3 k3 p3) c20 c21 (fun o x => by rw [HI.out.cell (p := ⟨w.heap.size + 1 + 1, o, none⟩) hlt]; exact cn o x)
  refine bodyPost_ret (v := .agg #[.bool s, .slice a3 k3 p3]) (by simp [results, Try.results8, go_sem, r0, r1]) rfl ?_
  exact ⟨_, rfl, r3 _ _ _ HR.out, r2 _ _ (by omega) (hbel.trans (HI.out.mono hbel.size))⟩

set_option maxRecDepth 100000 in
set_option maxHeartbeats 4000000 in
theorem plus_less {B1 B2 : Nat} (s t : Bool) (v u : Value) (A C : Nat) (w : World) (h : LimB B1 w v A) (h' : LimB B2 w u C) (h1 : B1 ≤ 5000) (h2 : B2 ≤ 5000) (hst : s ≠ t) (hCA : A < C) :
    Calls Try.prog 8 #[.agg #[.bool s, v], .agg #[.bool t, u]] w fun e w' => ∃ r, e = .returned (.agg #[.bool t, r]) ∧ LimB (max B1 B2 + 1) w' r (C - A) ∧ Below w.heap.size w w' := by
  obtain ⟨a1, k1, p1, rfl⟩ := h.slice
  obtain ⟨a2, k2, p2, rfl⟩ := h'.slice
  have HS : Hid (∀ w1 : World, LimB B1 w1 (.slice a1 k1 p1) A → LimB B2 w1 (.slice a2 k2 p2) C → Calls Try.prog 21 #[.slice a2 k2 p2, .slice a1 k1 p1] w1 fun e w' => ∃ r, e = .returned r ∧ LimB (max B1 B2 + 1) w' r (C - A) ∧ Below w1.heap.size w1 w') := fun w1 q1 q2 => (lLess q2 q1 (Nat.le_of_lt hCA) (by omega) (by omega)).mono (by rintro e w' ⟨r, h1, ⟨k, h2, h3, h4⟩, h5⟩; exact ⟨r, h1, ⟨k, h2, h3, by omega⟩, h5⟩)
  have HL := fhide (And.intro h h')
  have hss : (s == t) = false := by cases s <;> cases t <;> first | rfl | exact absurd rfl hst
  have HC : Hid (∀ w1 : World, LimB B1 w1 (.slice a1 k1 p1) A → LimB B2 w1 (.slice a2 k2 p2) C → Calls Try.prog 20 #[.slice a1 k1 p1, .slice a2 k2 p2] w1 fun e w' => e = .returned (.int .i64 (M.cmpI A C)) ∧ Below w1.heap.size w1 w') := fun w1 q1 q2 => lCmp q1 q2
  have hcc : ¬ (0 : Int) ≤ M.cmpI A C := by unfold M.cmpI; rw [if_pos hCA]; omega
  clear h h'
  obtain ⟨W, hW, c00, c01, c10, c11, c20, c21, cn, fz, hsz, hbel⟩ := whole_three w s t a1 a2 k1 p1 k2 p2 32
  go_enter Try.func8, Try.ntmps8
  go_wp2_with (simp only [hss])
  rw [← hW]
  refine (HC.out _ (HL.out.1.below hbel) (HL.out.2.below hbel)).mono ?_
  rintro e W2 ⟨rfl, hb2⟩
  have c00 : W2.cell? ⟨w.heap.size, 0, none⟩ = some (.bool s) := by rw [hb2.cell (p := ⟨w.heap.size, 0, none⟩) (block_lt_of_cell c00)]; exact c00
  have c01 : W2.cell? ⟨w.heap.size, 1, none⟩ = some (.slice a1 k1 p1) := by rw [hb2.cell (p := ⟨w.heap.size, 1, none⟩) (block_lt_of_cell c01)]; exact c01
  have c10 : W2.cell? ⟨w.heap.size + 1, 0, none⟩ = some (.bool t) := by rw [hb2.cell (p := ⟨w.heap.size + 1, 0, none⟩) (block_lt_of_cell c10)]; exact c10
  have c11 : W2.cell? ⟨w.heap.size + 1, 1, none⟩ = some (.slice a2 k2 p2) := by rw [hb2.cell (p := ⟨w.heap.size + 1, 1, none⟩) (block_lt_of_cell c11)]; exact c11
  have c20 : W2.cell? ⟨w.heap.size + 1 + 1, 0, none⟩ = some (.bool false) := by rw [hb2.cell (p := ⟨w.heap.size + 1 + 1, 0, none⟩) (block_lt_of_cell c20)]; exact c20
  have c21 : W2.cell? ⟨w.heap.size + 1 + 1, 1, none⟩ = some (.slice none 0 0) := by rw [hb2.cell (p := ⟨w.heap.size + 1 + 1, 1, none⟩) (block_lt_of_cell c21)]; exact c21
  have hlt0 : w.heap.size + 1 + 1 < W.heap.size := by rw [hsz]; exact Nat.lt_succ_self _
  have fz2 : ∀ o, W2.frozen? ⟨w.heap.size + 1 + 1, o, none⟩ = false := fun o => by rw [hb2.frozen (p := ⟨w.heap.size + 1 + 1, o, none⟩) hlt0]; exact fz o
  have cn2 : ∀ o q, W2.cell? ⟨w.heap.size + 1 + 1, o, none⟩ ≠ some (.int .u32 q) := fun o q => by rw [hb2.cell (p := ⟨w.heap.size + 1 + 1, o, none⟩) hlt0]; exact cn o q
  have hbel2 := hbel.trans (hb2.mono hbel.size)
  have hsz2 : w.heap.size + 1 + 1 < W2.heap.size := Nat.lt_of_lt_of_le hlt0 hb2.size
  clear hW cn fz hsz hbel hb2 hlt0
  go_wp2_with (simp only [hcc])
  have HN := fhide (And.intro cn2 (And.intro hsz2 hbel2))
  have q0 := HL.out.1.below hbel2
  have q1 := HL.out.2.below hbel2
  have HQ : Hid (LimB B1 W2.drew (.slice a1 k1 p1) A ∧ LimB B2 W2.drew (.slice a2 k2 p2) C) := ⟨q0, q1⟩
  have HI : Hid (Below W2.heap.size W2 W2.drew) := (Below.refl _ _).drew
  have c00 : W2.drew.cell? ⟨w.heap.size, 0, none⟩ = some (.bool s) := c00
  have c01 : W2.drew.cell? ⟨w.heap.size, 1, none⟩ = some (.slice a1 k1 p1) := c01
  have c10 : W2.drew.cell? ⟨w.heap.size + 1, 0, none⟩ = some (.bool t) := c10
  have c11 : W2.drew.cell? ⟨w.heap.size + 1, 1, none⟩ = some (.slice a2 k2 p2) := c11
  have c20 : W2.drew.cell? ⟨w.heap.size + 1 + 1, 0, none⟩ = some (.bool false) := c20
  have c21 : W2.drew.cell? ⟨w.heap.size + 1 + 1, 1, none⟩ = some (.slice none 0 0) := c21
  have f20 : W2.drew.frozen? ⟨w.heap.size + 1 + 1, 0, none⟩ = false := fz2 0
  have f21 : W2.drew.frozen? ⟨w.heap.size + 1 + 1, 1, none⟩ = false := fz2 1
  clear cn2 fz2 hsz2 hbel2 q0 q1
  go_region_held3 (fun w' => w'.cell? ⟨w.heap.size, 0, none⟩ = some (.bool s) ∧ w'.cell? ⟨w.heap.size, 1, none⟩ = some (.slice a1 k1 p1) ∧ w'.cell? ⟨w.heap.size + 1, 0, none⟩ = some (.bool t) ∧ w'.cell? ⟨w.heap.size + 1, 1, none⟩ = some (.slice a2 k2 p2)) (first | exact ⟨c00, c01, c10, c11⟩ | (refine ⟨?_, ?_, ?_, ?_⟩ <;> (rw [cell_other _ _ _ _ _ _ (by omega), cell_other _ _ _ _ _ _ (by omega)]; assumption)))
    (first | (go_at_call 21; go_must (refine (HS.out _ HQ.out.1 HQ.out.2).mono ?_); rintro _ w5 ⟨r, rfl, hr, B5⟩; obtain ⟨a3, k3, p3, rfl⟩ := hr.slice; have HR := fhide hr; have hz5 := block_lt_of_cell c20; have HI := fhide (HI.out.trans (B5.mono HI.out.size)); have c00 : w5.cell? ⟨w.heap.size, 0, none⟩ = some (.bool s) := (by rw [B5.cell (p := ⟨w.heap.size, 0, none⟩) (block_lt_of_cell c00)]; exact c00); have c01 : w5.cell? ⟨w.heap.size, 1, none⟩ = some (.slice a1 k1 p1) := (by rw [B5.cell (p := ⟨w.heap.size, 1, none⟩) (block_lt_of_cell c01)]; exact c01); have c10 : w5.cell? ⟨w.heap.size + 1, 0, none⟩ = some (.bool t) := (by rw [B5.cell (p := ⟨w.heap.size + 1, 0, none⟩) (block_lt_of_cell c10)]; exact c10); have c11 : w5.cell? ⟨w.heap.size + 1, 1, none⟩ = some (.slice a2 k2 p2) := (by rw [B5.cell (p := ⟨w.heap.size + 1, 1, none⟩) (block_lt_of_cell c11)]; exact c11); have c20 : w5.cell? ⟨w.heap.size + 1 + 1, 0, none⟩ = some (.bool false) := (by rw [B5.cell (p := ⟨w.heap.size + 1 + 1, 0, none⟩) (block_lt_of_cell c20)]; exact c20); have c21 : w5.cell? ⟨w.heap.size + 1 + 1, 1, none⟩ = some (.slice none 0 0) := (by rw [B5.cell (p := ⟨w.heap.size + 1 + 1, 1, none⟩) (block_lt_of_cell c21)]; exact c21); have f21 : w5.frozen? ⟨w.heap.size + 1 + 1, 1, none⟩ = false := (by rw [B5.frozen (p := ⟨w.heap.size + 1 + 1, 1, none⟩) hz5]; exact f21); have f20 : w5.frozen? ⟨w.heap.size + 1 + 1, 0, none⟩ = false := (by rw [B5.frozen (p := ⟨w.heap.size + 1 + 1, 0, none⟩) hz5]; exact f20); clear B5 hr hz5))
  go_wp2_with fail
  obtain ⟨cn, hlt, hbel⟩ := HN.out
  obtain ⟨r0, r1, r2, r3⟩ := whole_put (w1 := w5) (h := w.heap.size + 1 + 1) (s := t) (v := .slice a3 k3 p3) c20 c21 (fun o x => by rw [HI.out.cell (p := ⟨w.heap.size + 1 + 1, o, none⟩) hlt]; exact cn o x)
  refine bodyPost_ret (v := .agg #[.bool t, .slice a3 k3 p3]) (by simp [results, Try.results8, go_sem, r0, r1]) rfl ?_
  exact ⟨_, rfl, r3 _ _ _ HR.out, r2 _ _ (by omega) (hbel.trans (HI.out.mono hbel.size))⟩

end Go.Proofs.Ytmkploknoohliaa

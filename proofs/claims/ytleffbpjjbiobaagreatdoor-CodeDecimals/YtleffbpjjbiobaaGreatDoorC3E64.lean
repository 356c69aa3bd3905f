/- The contract of code's bestScale (64 bits). -/
import Derived.Test.YtleffbpjjbiobaaGreatDoorP1Q64
import Derived.Test.YtleffbpjjbiobaaGreatDoorC3A64
/- The law's own functions: num, same (of fathomlaw8). -/
namespace Go.Proofs.YtleffbpjjbiobaaGreatDoor
open Go.RowKit
open M
set_option linter.unusedVariables false

theorem num8_any (n : Int) (w : World) : Calls Tryz.prog 15 #[.int .i64 n] w fun e w' => e = .returned (.int .i64 n) ∧ w' = w := by
  go_enter Tryz.func15, Tryz.ntmps15
  go_wp2
  go_ret
  exact ⟨rfl, rfl⟩

/-- A Bool that says whether P. -/
def Says8 (P : Prop) (w : World) (e : Ending) (w' : World) : Prop := ∃ v : Bool, e = .returned (.bool v) ∧ (v = true ↔ P) ∧ ∃ m, w' = w.drewN m

set_option maxHeartbeats 1000000 in
theorem same8_any (p q : Option Addr) (n n' cap cap' : Nat) (f g : Nat → Nat) (w : World) (h : URow64 w p n f) (h' : URow64 w q n' g) (hn : n ≤ 281474976710656) (hn' : n' ≤ 281474976710656) :
    Calls Tryz.prog 22 #[.slice p n cap, .slice q n' cap'] w (Says8 (n = n' ∧ ∀ i, i < n → f i = g i) w) := by
  have H := hide h
  have H' := hide h'
  clear h h'
  by_cases hne : n = n'
  · subst hne
    go_enter Tryz.func22, Tryz.ntmps22
    go_wp2_with fail
    go_loopw [5] (fun i wr => ∃ k : Nat, Hid (∀ j, j < k → f j = g j) ∧ i = .int .i64 (k : Int) ∧ Hid (∃ m, wr = w.drewN m)) (fun i _ => n - (intOf i).toNat)
    case atStart => exact ⟨0, fun j hj => by omega, rfl, 0, rfl⟩
    case round =>
      obtain ⟨k, hr, rfl, hm⟩ := hrel
      by_cases hlt : k < n
      · obtain ⟨b, o, rfl, hc⟩ := H.out (by omega)
        obtain ⟨b', o', rfl, hc'⟩ := H'.out (by omega)
        obtain ⟨x, hx⟩ : ∃ x, f k = x := ⟨_, rfl⟩
        obtain ⟨y, hy⟩ : ∃ y, g k = y := ⟨_, rfl⟩
        have c1 : wr.cell? ⟨b, o + k, none⟩ = some (.int .u64 (x : Int)) := by obtain ⟨m, rfl⟩ := hm.out; rw [← hx]; exact hc k hlt
        have c2 : wr.cell? ⟨b', o' + k, none⟩ = some (.int .u64 (y : Int)) := by obtain ⟨m, rfl⟩ := hm.out; rw [← hy]; exact hc' k hlt
        have HXY := hide (And.intro hx hy)
        clear hc hc' hx hy
        by_cases hle : x = y
        · have hb : ((x : Int) != (y : Int)) = false := by simp [hle]
          go_wp2_with fail
          go_region
          go_wp2_with fail
          go_roundw
          case rel => exact ⟨k + 1, fun j hj => by
            by_cases e : j = k
            · subst e; rw [HXY.out.1, HXY.out.2]; exact hle
            · exact hr.out j (by omega), by simp, by obtain ⟨m, rfl⟩ := hm.out; exact ⟨m + 1, rfl⟩⟩
          case measure => simp [intOf]; omega
        · have hb : ((x : Int) != (y : Int)) = true := by simp; omega
          go_wp2_with fail
          go_region
          go_wp2_with fail
          go_ret
          obtain ⟨m, rfl⟩ := hm.out
          exact ⟨false, rfl, ⟨fun h => (by cases h), fun h => absurd (h.2 k hlt) (by rw [HXY.out.1, HXY.out.2]; exact hle)⟩, m + 1, rfl⟩
      · go_wp2_with fail
        go_ret
        exact ⟨true, rfl, ⟨fun _ => ⟨by trivial, fun j hj => hr.out j (by omega)⟩, fun _ => rfl⟩, hm.out⟩
  · have hb : ((n : Int) != (n' : Int)) = true := by simp; omega
    go_enter Tryz.func22, Tryz.ntmps22
    go_wp2_with fail
    go_ret
    exact ⟨false, rfl, ⟨fun h => (by cases h), fun h => absurd h.1 hne⟩, 0, rfl⟩

end Go.Proofs.YtleffbpjjbiobaaGreatDoor

/- The contracts of code's wholeOf, nothings, bestScale (64 bits). -/
namespace Go.Proofs.YtleffbpjjbiobaaGreatDoor
open Go.RowKit
open M
set_option linter.unusedVariables false
set_option linter.unusedSimpArgs false

/-- The cells of a scale that lies somewhere. -/
structure Sc64 (w : World) (g p : Nat) : Prop where
  row : w.heap[g]? = some (.cells #[.int .i64 (p : Int), .int .u64 (F64.pow p : Int)] 103 (0, 0))

theorem Sc64.c0 {w : World} {g p : Nat} (h : Sc64 w g p) : w.cell? ⟨g, 0, none⟩ = some (.int .i64 (p : Int)) := cell_of_row _ _ 0 _ _ _ h.row
theorem Sc64.c1 {w : World} {g p : Nat} (h : Sc64 w g p) : w.cell? ⟨g, 1, none⟩ = some (.int .u64 (F64.pow p : Int)) := cell_of_row _ _ 1 _ _ _ h.row
theorem Sc64.lt {w : World} {g p : Nat} (h : Sc64 w g p) : g < w.heap.size := size_lt_of_row h.row
theorem Sc64.below {w w' : World} {g p B : Nat} (h : Sc64 w g p) (hB : Below B w w') (hg : g < B) : Sc64 w' g p := ⟨by rw [hB.block g hg]; exact h.row⟩

set_option maxRecDepth 100000 in
theorem wholeOf64_any (p v : Nat) (w : World) (hv : v < 18446744073709551616) : Calls Tryz.prog 130 #[scV64 p, .int .u64 v] w fun e w' => e = .returned (nwV (F64.wh p v)) ∧ Below w.heap.size w w' := by
  have HMU := hide (fun (w : World) => Mul64_any v (F64.pow p) w)
  have HNW := hide (fun (w : World) => nearestWhole64_any (F64.mul v (F64.pow p)) w (F64_mul_lt _ _))
  have HVO := hide (fun (k : Int) (w : World) => valueOf64_any p k w)
  have em : told64 (Ieee.double.mul v (F64.pow p)) = F64.mul v (F64.pow p) := rfl
  rw [em] at HMU
  have hwh : F64.wh p v = match near64 (F64.mul v (F64.pow p)) with | none => none | some k => if k < -999999999999999 ∨ 999999999999999 < k ∨ F64.val p k ≠ v then none else some k := rfl
  have hrg := fun k (h : near64 (F64.mul v (F64.pow p)) = some k) => near64_range h
  obtain ⟨g, hg⟩ : ∃ g, w.heap.size = g := ⟨_, rfl⟩
  obtain ⟨W1, hW1⟩ : ∃ W1, W1 = w.alloc (.cells #[.int .i64 (p : Int), .int .u64 (F64.pow p : Int)] 103) := ⟨_, rfl⟩
  have HW1 : Hid (Below g w W1 ∧ W1.heap[g]? = some (.cells #[.int .i64 (p : Int), .int .u64 (F64.pow p : Int)] 103 (0, 0))) := by
    rw [hW1, ← hg]; exact ⟨(Below.refl _ w).alloc (Nat.le_refl _) _, heap_alloc_new w _⟩
  have HG := hide hg
  clear em
  obtain ⟨o, ho⟩ : ∃ o, near64 (F64.mul v (F64.pow p)) = o := ⟨_, rfl⟩
  rw [ho] at hwh hrg HNW
  obtain ⟨out, hout⟩ : ∃ out, F64.wh p v = out := ⟨_, rfl⟩
  rw [hout] at hwh ⊢
  have HWH := hide hwh
  clear hwh ho hout
  have n1 : IntKind.i64.wrap (-999999999999999) = -999999999999999 := by rw [IntKind.wrap_i64]; omega
  have c1 : W1.cell? ⟨g, 1, none⟩ = some (.int .u64 (F64.pow p : Int)) := (Sc64.mk HW1.out.2).c1
  unfold scV64 at *
  generalize F64.pow p = P at *
  generalize F64.mul v P = m at *
  have HC : Hid (∀ w', Below (g + 1) W1 w' → w'.cell? ⟨g, 0, none⟩ = some (.int .i64 (p : Int)) ∧ w'.cell? ⟨g, 1, none⟩ = some (.int .u64 (P : Int))) := fun w' hB => by
    have h := HW1.out.2
    exact ⟨cell_of_row _ _ 0 _ _ _ ((hB.block g (by omega)).trans h), cell_of_row _ _ 1 _ _ _ ((hB.block g (by omega)).trans h)⟩
  go_enter Tryz.func130, Tryz.ntmps130
  go_upto_region 1 with fail
  (try rw [hg])
  (try rw [← hW1])
  clear hW1 hg
  go_wp2_with fail
  refine (HMU.out _).mono ?_
  rintro e w2 ⟨rfl, B2⟩
  have HB2 := hide B2
  clear B2
  go_wp2_with fail
  refine (HNW.out _).mono ?_
  rintro e w3 ⟨rfl, B3⟩
  have HB3 : Hid (Below (g + 1) W1 w3 ∧ Below g w w3 ∧ g + 1 ≤ w3.heap.size) := by
    have h0 : g < W1.heap.size := size_lt_of_row HW1.out.2
    have h1 := HB2.out.size
    have h2 := B3.size
    have h3 : Below (g + 1) W1 w3 := (HB2.out.mono (by omega)).trans (B3.mono (by omega))
    exact ⟨h3, HW1.out.1.trans (h3.mono (by omega)), by omega⟩
  clear B3 HB2
  cases o with
  | none =>
    simp only [nwV]
    go_wp2_with fail
    refine (mostWhole64_any _).mono ?_
    rintro e w4 ⟨rfl, h4⟩
    have h4 := h4.symm
    subst h4
    have HE : Hid (out = none) := HWH.out
    go_wp2_with fail
    go_ret2
    exact ⟨by rw [HE.out]; rfl, by rw [HG.out]; exact HB3.out.2.1⟩
  | some k =>
    simp only [nwV]
    obtain ⟨k1, k2⟩ := hrg k rfl
    clear hrg
    go_wp2_with fail
    refine (mostWhole64_any _).mono ?_
    rintro e w4 ⟨rfl, h4⟩
    have h4 := h4.symm
    subst h4
    by_cases h5 : k < -999999999999999
    · have HE : Hid (out = none) := HWH.out.trans (if_pos (.inl h5))
      go_wp2_with fail
      go_ret2
      exact ⟨by rw [HE.out]; rfl, by rw [HG.out]; exact HB3.out.2.1⟩
    · by_cases h6 : 999999999999999 < k
      · have HE : Hid (out = none) := HWH.out.trans (if_pos (.inr (.inl h6)))
        go_wp2_with fail
        go_ret2
        exact ⟨by rw [HE.out]; rfl, by rw [HG.out]; exact HB3.out.2.1⟩
      · obtain ⟨x, hx⟩ : ∃ x, F64.val p k = x := ⟨_, rfl⟩
        have HX := hide hx
        obtain ⟨d0, d1⟩ := HC.out w3 HB3.out.1
        have HV := hide (HVO.out k w3)
        rw [hx] at HV
        by_cases h7 : x = v
        · have HE : Hid (out = some k) := HWH.out.trans (if_neg (fun h => h.elim h5 (fun h => h.elim h6 (fun h => h (hx.trans h7)))))
          have q7 : ((x : Int) != (v : Int)) = false := by rw [h7]; simp
          clear hx h7
          go_wp2_with fail
          refine HV.out.mono ?_
          rintro e w5 ⟨rfl, B5⟩
          have HB5 : Hid (Below g w w5) := HB3.out.2.1.trans (B5.mono (by have := HB3.out.2.2; omega))
          clear B5
          go_wp2_with fail
          go_ret2
          exact ⟨by rw [HE.out]; rfl, by rw [HG.out]; exact HB5.out⟩
        · have HE : Hid (out = none) := HWH.out.trans (if_pos (.inr (.inr (by rw [hx]; exact h7))))
          have q7 : ((x : Int) != (v : Int)) = true := by rw [bne_iff_ne]; omega
          clear hx h7
          go_wp2_with fail
          refine HV.out.mono ?_
          rintro e w5 ⟨rfl, B5⟩
          have HB5 : Hid (Below g w w5) := HB3.out.2.1.trans (B5.mono (by have := HB3.out.2.2; omega))
          clear B5
          go_wp2_with fail
          go_ret2
          exact ⟨by rw [HE.out]; rfl, by rw [HG.out]; exact HB5.out⟩

set_option maxRecDepth 100000 in
theorem nothings64_any (p : Nat) (q : Option Addr) (n cap : Nat) (f : Nat → Nat) (w : World) (h : URow64 w q n f) (hn : n ≤ 4096) (hcap : n ≤ cap) (hf : ∀ i, i < n → f i < 18446744073709551616) :
    Calls Tryz.prog 128 #[scV64 p, .slice q n cap] w fun e w' => e = .returned (.int .i64 (F64.cnt p f 0 n : Nat)) ∧ Below w.heap.size w w' := by
  have H := hide h
  have HF := hide hf
  have HWO := hide (fun (v : Nat) (w : World) (hv : v < 18446744073709551616) => wholeOf64_any p v w hv)
  obtain ⟨g, hg⟩ : ∃ g, w.heap.size = g := ⟨_, rfl⟩
  obtain ⟨W1, hW1⟩ : ∃ W1, W1 = w.alloc (.cells #[.int .i64 (p : Int), .int .u64 (F64.pow p : Int)] 103) := ⟨_, rfl⟩
  have HW1 : Hid (Below g w W1 ∧ W1.heap[g]? = some (.cells #[.int .i64 (p : Int), .int .u64 (F64.pow p : Int)] 103 (0, 0))) := by
    rw [hW1, ← hg]; exact ⟨(Below.refl _ w).alloc (Nat.le_refl _) _, heap_alloc_new w _⟩
  have HG := hide hg
  clear h hf
  unfold scV64 at *
  go_enter Tryz.func128, Tryz.ntmps128
  go_upto_region 1 with fail
  (try rw [hg])
  (try rw [← hW1])
  clear hW1 hg
  go_wp2_with fail
  go_loopw [5, 12] (fun t5 t12 wr => ∃ (k c : Nat), t12 = .int .i64 (k : Int) ∧ t5 = .int .i64 (c : Int) ∧ Hid (k ≤ n ∧ c = F64.cnt p f 0 k ∧ Below (g + 1) W1 wr)) (fun _ t12 _ => n - (intOf t12).toNat)
  case atStart => exact ⟨0, 0, rfl, rfl, Nat.zero_le _, rfl, Below.refl _ _⟩
  case round =>
    obtain ⟨k, c, rfl, rfl, hI⟩ := hrel
    by_cases hlt : k < n
    · obtain ⟨b, o, rfl, hc⟩ := H.out (by omega)
      obtain ⟨x, hx⟩ : ∃ x, f k = x := ⟨_, rfl⟩
      have hxM : x < 18446744073709551616 := by rw [← hx]; exact HF.out k hlt
      have hS : Sc64 wr g p := Sc64.below ⟨HW1.out.2⟩ hI.out.2.2 (by omega)
      have hbg : b < g := by rw [← HG.out]; exact block_lt_of_cell (hc k hlt)
      have c1 : wr.cell? ⟨b, o + k, none⟩ = some (.int .u64 (x : Int)) := by
        rw [hI.out.2.2.cell (p := ⟨b, o + k, none⟩) (show b < g + 1 by omega), HW1.out.1.cell (p := ⟨b, o + k, none⟩) hbg, ← hx]; exact hc k hlt
      have d0 := hS.c0
      have d1 := hS.c1
      have hcl : c ≤ k := by rw [hI.out.2.1]; exact F64.cnt_le p f 0 k
      have HWX := hide (HWO.out x wr hxM)
      have HS2 : Hid (g + 1 ≤ wr.heap.size) := hS.lt
      have HCE : Hid (F64.cnt p f 0 (k + 1) = c + (if (F64.wh p x).isSome then 0 else 1)) := by
        show _ = _
        rw [F64.cnt_end, Nat.zero_add, hx, hI.out.2.1]
      generalize F64.pow p = P at *
      generalize F64.wh p x = oo at *
      clear hx hc hS
      go_wp2_with fail
      refine HWX.out.mono ?_
      rintro e w2 ⟨rfl, B2⟩
      have HB2 : Hid (Below (g + 1) W1 w2) := hI.out.2.2.trans (B2.mono HS2.out)
      clear B2
      cases oo with
      | none =>
        simp only [nwV]
        go_wp2_with fail
        go_roundw
        case rel => exact ⟨k + 1, c + 1, by simp, by simp, hlt, by rw [HCE.out]; rfl, HB2.out⟩
        case measure => simp [intOf]; omega
      | some z =>
        simp only [nwV]
        go_wp2_with fail
        go_roundw
        case rel => exact ⟨k + 1, c, by simp, by simp, hlt, by rw [HCE.out]; rfl, HB2.out⟩
        case measure => simp [intOf]; omega
    · have hk : k = n := by have := hI.out.1; omega
      subst hk
      go_wp2_with fail
      go_ret
      exact ⟨by rw [hI.out.2.1]; rfl, by rw [HG.out]; exact HW1.out.1.trans (hI.out.2.2.mono (by omega))⟩

end Go.Proofs.YtleffbpjjbiobaaGreatDoor

namespace Go.Proofs.YtleffbpjjbiobaaGreatDoor
open Go.RowKit
open M
set_option linter.unusedVariables false
set_option linter.unusedSimpArgs false

/-- A scale is stored where one lay. -/
theorem scale_set64 {w : World} {g p : Nat} {x y : Value} (h : w.heap[g]? = some (.cells #[x, y] 103 (0, 0))) : Sc64 ((w.setCell ⟨g, 0, none⟩ (.int .i64 (p : Int))).setCell ⟨g, 1, none⟩ (.int .u64 (F64.pow p : Int))) g p := by
  have h1 := heap_setCell_same w g 0 _ _ (.int .i64 (p : Int)) h
  have h2 := heap_setCell_same _ g 1 _ _ (.int .u64 (F64.pow p : Int)) h1
  exact ⟨h2⟩

/-- One scale is stored anew: all else below stays. -/
theorem below_two64 {B g : Nat} {w0 w : World} (h : Below B w0 w) (hg : B ≤ g) (x y : Value) : Below B w0 ((w.setCell ⟨g, 0, none⟩ x).setCell ⟨g, 1, none⟩ y) :=
  (h.setCell (p := ⟨g, 0, none⟩) hg _).setCell (p := ⟨g, 1, none⟩) hg _

set_option maxRecDepth 100000 in
set_option maxHeartbeats 1000000 in
theorem bestScale64_any (q : Option Addr) (n cap : Nat) (f : Nat → Nat) (w : World) (h : URow64 w q n f) (hn : n ≤ 4096) (hcap : n ≤ cap) (hf : ∀ i, i < n → f i < 18446744073709551616) :
    Calls Tryz.prog 93 #[.slice q n cap] w fun e w' => e = .returned (scV64 (F64.bs f n 22).1) ∧ Below w.heap.size w w' := by
  have HNO := hide (fun (p : Nat) (w1 : World) (hB : Below w.heap.size w w1) => nothings64_any p q n cap f w1 (h.below hB) hn hcap hf)
  have HSA := hide (fun (p : Nat) (w : World) (hp : p ≤ 1000) => scaleAt64_any p w hp)
  clear h hf
  obtain ⟨g, hg⟩ : ∃ g, w.heap.size = g := ⟨_, rfl⟩
  have HA : Hid (Below g w (w.alloc (.cells #[.int .i64 0, .int .u64 0] 103)) ∧ (w.alloc (.cells #[.int .i64 0, .int .u64 0] 103)).heap[g]? = some (.cells #[.int .i64 0, .int .u64 0] 103 (0, 0))) := by
    rw [← hg]; exact ⟨(Below.refl _ w).alloc (Nat.le_refl _) _, heap_alloc_new w _⟩
  have HG := hide hg
  rw [hg] at HNO
  unfold scV64 at *
  go_enter Tryz.func93, Tryz.ntmps93
  go_upto_region 1 with fail
  (try rw [hg])
  clear hg
  generalize w.alloc (.cells #[.int .i64 0, .int .u64 0] 103) = W1 at *
  go_wp2_with fail
  refine (HSA.out 0 W1 (by omega)).mono ?_
  rintro e w2 ⟨rfl, B2⟩
  obtain ⟨g3, hg3⟩ : ∃ g3, w2.heap.size = g3 := ⟨_, rfl⟩
  have hW : g < g3 := by have := size_lt_of_row HA.out.2; have := B2.size; omega
  obtain ⟨W3, hW3⟩ : ∃ W3, W3 = w2.alloc (.cells #[.int .i64 0, .int .u64 (F64.pow 0 : Int)] 103) := ⟨_, rfl⟩
  have H3 : Hid (Sc64 W3 g3 0 ∧ Below g w W3 ∧ W3.heap[g]? = some (.cells #[.int .i64 0, .int .u64 0] 103 (0, 0))) := by
    have hA : Below g3 w2 W3 := by rw [hW3, ← hg3]; exact (Below.refl _ w2).alloc (Nat.le_refl _) _
    have hl := size_lt_of_row HA.out.2
    refine ⟨⟨by rw [hW3, ← hg3]; exact heap_alloc_new w2 _⟩, (HA.out.1.trans (B2.mono (by omega))).trans (hA.mono (by omega)), ?_⟩
    rw [hA.block g hW, B2.block g hl]; exact HA.out.2
  clear B2
  go_upto_region 2 with fail
  (try rw [← hW3])
  clear hW3 hg3
  have c0 : W3.cell? ⟨g3, 0, none⟩ = some (.int .i64 0) := H3.out.1.c0
  have c1 := H3.out.1.c1
  go_wp2_with fail
  refine (HNO.out 0 W3 H3.out.2.1).mono ?_
  rintro e w4 ⟨rfl, B4⟩
  have H4 : Hid (Sc64 w4 g3 0 ∧ Below g w w4 ∧ w4.heap[g]? = some (.cells #[.int .i64 0, .int .u64 0] 103 (0, 0))) := by
    have h1 := H3.out.1.lt
    exact ⟨H3.out.1.below B4 h1, H3.out.2.1.trans (B4.mono (by omega)), by rw [B4.block g (by omega)]; exact H3.out.2.2⟩
  clear B4 c0 c1
  go_wp2_with fail
  go_loopw [4, 5] (fun t4 t5 wr => ∃ (r d : Nat), t5 = .int .i64 ((r : Int) + 1) ∧ t4 = .int .i64 (d : Int) ∧ Hid (r ≤ 22 ∧ d = (F64.bs f n r).2 ∧ Sc64 wr g3 (F64.bs f n r).1 ∧ Below g w wr ∧ wr.heap[g]? = some (.cells #[.int .i64 0, .int .u64 0] 103 (0, 0)))) (fun _ t5 _ => 22 + 1 - (intOf t5).toNat)
  case atStart => exact ⟨0, _, rfl, rfl, Nat.zero_le _, rfl, H4.out.1, H4.out.2.1, H4.out.2.2⟩
  case round =>
    obtain ⟨r, d, rfl, rfl, hI⟩ := hrel
    by_cases hstop : r = 22 ∨ d = 0
    · have HE : Hid (Sc64 wr g3 (F64.bs f n 22).1) := by
        have h3 := hI.out.2.2.1
        rcases hstop with h | h
        · rw [h] at h3; exact h3
        · rw [F64.bs_stop f n r 22 hI.out.1 (by rw [← hI.out.2.1]; exact h)]; exact h3
      have hb := hI.out.2.2.2.2
      have c0 := HE.out.c0
      have c1 := HE.out.c1
      have d0 : wr.cell? ⟨g, 0, none⟩ = some (.int .i64 0) := cell_of_row _ _ 0 _ _ _ hb
      have d1 : wr.cell? ⟨g, 1, none⟩ = some (.int .u64 0) := cell_of_row _ _ 1 _ _ _ hb
      have f0 : wr.frozen? ⟨g, 0, none⟩ = false := frozen_of_row _ _ _ _ _ hb
      have f1 : wr.frozen? ⟨g, 1, none⟩ = false := frozen_of_row _ _ _ _ _ hb
      have HR : Hid (r ≤ 22 ∧ (r = 22 ∨ d = 0)) := ⟨hI.out.1, hstop⟩
      have HB := hide hI.out.2.2.2
      clear hb hI hstop
      obtain ⟨bp, hbp⟩ : ∃ bp, (F64.bs f n 22).1 = bp := ⟨_, rfl⟩
      rw [hbp] at c0 c1 HE
      have HBP := hide hbp
      clear hbp
      obtain ⟨P, hP⟩ : ∃ P, F64.pow bp = P := ⟨_, rfl⟩
      rw [hP] at c1
      have HP := hide hP
      clear hP
      obtain ⟨fs, hu⟩ := is_struct (show Tryz.prog.underlying 103 = Tryz.prog.underlying 103 from rfl) (by kernel_rfl)
      have HU := hide hu
      have HROW : Hid (((wr.setCell ⟨g, 0, none⟩ (.int .i64 (bp : Int))).setCell ⟨g, 1, none⟩ (.int .u64 (P : Int))).heap[g]? = some (.cells #[.int .i64 (bp : Int), .int .u64 (P : Int)] 103 (0, 0))) := by
        have h1 := heap_setCell_same wr g 0 _ _ (.int .i64 (bp : Int)) HB.out.2
        exact heap_setCell_same _ g 1 _ _ (.int .u64 (P : Int)) h1
      clear hu
      by_cases h22 : r = 22
      · subst h22
        go_wp2_with fail
        refine (mostPoint64_any _).mono ?_
        rintro e w5 ⟨rfl, h5⟩
        have h5 := h5.symm
        subst h5
        go_wp2_with fail
        refine bodyPost_ret (results_cell_row rfl _ _ g _ _ (0, 0) (.struct fs) rfl HROW.out HU.out rfl (by kernel_rfl)) rfl ?_
        refine ⟨by rw [HBP.out, HP.out], ?_⟩
        rw [HG.out]
        exact below_two64 HB.out.1 (Nat.le_refl _) _ _
      · have hr22 : r + 1 ≤ 22 := by have := HR.out.1; omega
        have hd0 : d = 0 := by rcases HR.out.2 with h | h; exact absurd h h22; exact h
        subst hd0
        have hle : (r : Int) + 1 ≤ 22 := by omega
        go_wp2_with fail
        refine (mostPoint64_any _).mono ?_
        rintro e w5 ⟨rfl, h5⟩
        have h5 := h5.symm
        subst h5
        go_wp2_with fail
        refine bodyPost_ret (results_cell_row rfl _ _ g _ _ (0, 0) (.struct fs) rfl HROW.out HU.out rfl (by kernel_rfl)) rfl ?_
        refine ⟨by rw [HBP.out, HP.out], ?_⟩
        rw [HG.out]
        exact below_two64 HB.out.1 (Nat.le_refl _) _ _
    · have hr22 : r + 1 ≤ 22 := by have := hI.out.1; omega
      have hd0 : 0 < d := by omega
      have hle : (r : Int) + 1 ≤ 22 := by omega
      have hdp : (d : Int) > 0 := by omega
      have HB := hide hI.out.2.2.2
      have HS := hide hI.out.2.2.1
      have HD := hide hI.out.2.1
      have HST := hide hstop
      clear hI hstop
      have HSC := hide (HSA.out (r + 1) wr (by omega))
      rw [show (((r + 1 : Nat)) : Int) = (r : Int) + 1 from by simp] at HSC
      go_wp2_with fail
      refine (mostPoint64_any _).mono ?_
      rintro e w5 ⟨rfl, h5⟩
      have h5 := h5.symm
      subst h5
      go_wp2_with fail
      refine HSC.out.mono ?_
      rintro e w6 ⟨rfl, B6⟩
      obtain ⟨P, hP⟩ : ∃ P, F64.pow (r + 1) = P := ⟨_, rfl⟩
      rw [hP]
      have HP := hide hP
      clear hP
      obtain ⟨g6, hg6⟩ : ∃ g6, w6.heap.size = g6 := ⟨_, rfl⟩
      obtain ⟨W7, hW7⟩ : ∃ W7, W7 = w6.alloc (.cells #[.int .i64 ((r : Int) + 1), .int .u64 (P : Int)] 103) := ⟨_, rfl⟩
      have H7 : Hid (W7.heap[g6]? = some (.cells #[.int .i64 ((r : Int) + 1), .int .u64 (P : Int)] 103 (0, 0)) ∧ Sc64 W7 g3 (F64.bs f n r).1 ∧ Below g w W7 ∧ W7.heap[g]? = some (.cells #[.int .i64 0, .int .u64 0] 103 (0, 0)) ∧ g3 < g6) := by
        have hA : Below g6 w6 W7 := by rw [hW7, ← hg6]; exact (Below.refl _ w6).alloc (Nat.le_refl _) _
        have hl := HS.out.lt
        have hs6 := B6.size
        have hBB : Below wr.heap.size wr W7 := B6.trans (hA.mono (by omega))
        exact ⟨by rw [hW7, ← hg6]; exact heap_alloc_new w6 _, HS.out.below hBB hl, HB.out.1.trans (hBB.mono (by omega)), by rw [hBB.block g (by omega)]; exact HB.out.2, by omega⟩
      clear B6
      go_upto_region 7 with fail
      (try rw [← hW7])
      clear hW7 hg6
      have c0 : W7.cell? ⟨g6, 0, none⟩ = some (.int .i64 ((r : Int) + 1)) := cell_of_row _ _ 0 _ _ _ H7.out.1
      have c1 : W7.cell? ⟨g6, 1, none⟩ = some (.int .u64 (P : Int)) := cell_of_row _ _ 1 _ _ _ H7.out.1
      have HN := hide (HNO.out (r + 1) W7 H7.out.2.2.1)
      rw [HP.out, show (((r + 1 : Nat)) : Int) = (r : Int) + 1 from by simp] at HN
      go_wp2_with fail
      refine HN.out.mono ?_
      rintro e w8 ⟨rfl, B8⟩
      obtain ⟨c, hc⟩ : ∃ c, F64.cnt (r + 1) f 0 n = c := ⟨_, rfl⟩
      rw [hc]
      have H8 : Hid (w8.heap[g6]? = some (.cells #[.int .i64 ((r : Int) + 1), .int .u64 (P : Int)] 103 (0, 0)) ∧ Sc64 w8 g3 (F64.bs f n r).1 ∧ Below g w w8 ∧ w8.heap[g]? = some (.cells #[.int .i64 0, .int .u64 0] 103 (0, 0))) := by
        have h6 := size_lt_of_row H7.out.1
        exact ⟨by rw [B8.block g6 h6]; exact H7.out.1, H7.out.2.1.below B8 H7.out.2.1.lt, H7.out.2.2.1.trans (B8.mono (by have := H7.out.2.1.lt; omega)), by rw [B8.block g (by have := H7.out.2.1.lt; omega)]; exact H7.out.2.2.2.1⟩
      clear B8 c0 c1
      by_cases hcd : c < d
      · have HE : Hid (F64.bs f n (r + 1) = (r + 1, c)) := by
          show _ = _
          rw [Dm.bs, if_neg (by rw [← HD.out]; omega), hc, if_pos (by rw [← HD.out]; exact hcd)]
        have e0 : w8.cell? ⟨g6, 0, none⟩ = some (.int .i64 ((r : Int) + 1)) := cell_of_row _ _ 0 _ _ _ H8.out.1
        have e1 : w8.cell? ⟨g6, 1, none⟩ = some (.int .u64 (P : Int)) := cell_of_row _ _ 1 _ _ _ H8.out.1
        have c0 := H8.out.2.1.c0
        have c1 := H8.out.2.1.c1
        have f0 : w8.frozen? ⟨g3, 0, none⟩ = false := frozen_of_row _ _ _ _ _ H8.out.2.1.row
        have f1 : w8.frozen? ⟨g3, 1, none⟩ = false := frozen_of_row _ _ _ _ _ H8.out.2.1.row
        have HX : Hid (Sc64 ((w8.setCell ⟨g3, 0, none⟩ (.int .i64 ((r : Int) + 1))).setCell ⟨g3, 1, none⟩ (.int .u64 (P : Int))) g3 (r + 1) ∧ Below g w ((w8.setCell ⟨g3, 0, none⟩ (.int .i64 ((r : Int) + 1))).setCell ⟨g3, 1, none⟩ (.int .u64 (P : Int))) ∧ ((w8.setCell ⟨g3, 0, none⟩ (.int .i64 ((r : Int) + 1))).setCell ⟨g3, 1, none⟩ (.int .u64 (P : Int))).heap[g]? = some (.cells #[.int .i64 0, .int .u64 0] 103 (0, 0))) := by
          refine ⟨?_, below_two64 H8.out.2.2.1 (by omega) _ _, ?_⟩
          · have := scale_set64 (p := r + 1) H8.out.2.1.row
            rw [HP.out] at this
            exact this
          · rw [Below.heap_setCell _ _ _ _ (show g ≠ g3 by omega), Below.heap_setCell _ _ _ _ (show g ≠ g3 by omega)]; exact H8.out.2.2.2
        clear hc
        go_wp2_with fail
        go_roundw
        case rel => exact ⟨r + 1, c, by simp, by simp, hr22, by rw [HE.out], by rw [HE.out]; exact HX.out.1, HX.out.2.1, HX.out.2.2⟩
        case measure => simp [intOf]; omega
      · have HE : Hid (F64.bs f n (r + 1) = F64.bs f n r) := by
          show _ = _
          rw [Dm.bs, if_neg (by rw [← HD.out]; omega), hc, if_neg (by rw [← HD.out]; exact hcd)]
        clear hc
        go_wp2_with fail
        go_roundw
        case rel => exact ⟨r + 1, d, by simp, by simp, hr22, by rw [HE.out]; exact HD.out, by rw [HE.out]; exact H8.out.2.1, H8.out.2.2.1, H8.out.2.2.2⟩
        case measure => simp [intOf]; omega

end Go.Proofs.YtleffbpjjbiobaaGreatDoor

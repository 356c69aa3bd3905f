/- The contract of Plain's packing (32 bits). -/
import Derived.Test.YtleffbpjjbiobaaGreatDoorC9S
import Derived.Test.YtleffbpjjbiobaaGreatDoorP1B32
import Derived.Test.YtleffbpjjbiobaaGreatDoorC1S32
/- The contracts of code's wholeOf, nothings, bestScale (32 bits). -/
namespace Go.Proofs.YtleffbpjjbiobaaGreatDoor
open Go.RowKit
open M
set_option linter.unusedVariables false
set_option linter.unusedSimpArgs false

/-- The cells of a scale that lies somewhere. -/
structure Sc32 (w : World) (g p : Nat) : Prop where
  row : w.heap[g]? = some (.cells #[.int .i64 (p : Int), .int .u32 (F32.pow p : Int)] 116 (0, 0))

theorem Sc32.c0 {w : World} {g p : Nat} (h : Sc32 w g p) : w.cell? ⟨g, 0, none⟩ = some (.int .i64 (p : Int)) := cell_of_row _ _ 0 _ _ _ h.row
theorem Sc32.c1 {w : World} {g p : Nat} (h : Sc32 w g p) : w.cell? ⟨g, 1, none⟩ = some (.int .u32 (F32.pow p : Int)) := cell_of_row _ _ 1 _ _ _ h.row
theorem Sc32.lt {w : World} {g p : Nat} (h : Sc32 w g p) : g < w.heap.size := size_lt_of_row h.row
theorem Sc32.below {w w' : World} {g p B : Nat} (h : Sc32 w g p) (hB : Below B w w') (hg : g < B) : Sc32 w' g p := ⟨by rw [hB.block g hg]; exact h.row⟩

set_option maxRecDepth 100000 in
theorem wholeOf32_any (p v : Nat) (w : World) (hv : v < 4294967296) : Calls Tryz.prog 137 #[scV32 p, .int .u32 v] w fun e w' => e = .returned (nwV (F32.wh p v)) ∧ Below w.heap.size w w' := by
  have HMU := hide (fun (w : World) => Mul32_anyC v (F32.pow p) w hv (F32_pow_lt p))
  have HNW := hide (fun (w : World) => nearestWhole32_any (F32.mul v (F32.pow p)) w (F32_mul_lt _ _))
  have HVO := hide (fun (k : Int) (w : World) => valueOf32_any p k w)
  have em : mul32F v (F32.pow p) = F32.mul v (F32.pow p) := rfl
  rw [em] at HMU
  have hwh : F32.wh p v = match near32 (F32.mul v (F32.pow p)) with | none => none | some k => if k < -999999 ∨ 999999 < k ∨ F32.val p k ≠ v then none else some k := rfl
  have hrg := fun k (h : near32 (F32.mul v (F32.pow p)) = some k) => near32_range h
  obtain ⟨g, hg⟩ : ∃ g, w.heap.size = g := ⟨_, rfl⟩
  obtain ⟨W1, hW1⟩ : ∃ W1, W1 = w.alloc (.cells #[.int .i64 (p : Int), .int .u32 (F32.pow p : Int)] 116) := ⟨_, rfl⟩
  have HW1 : Hid (Below g w W1 ∧ W1.heap[g]? = some (.cells #[.int .i64 (p : Int), .int .u32 (F32.pow p : Int)] 116 (0, 0))) := by
    rw [hW1, ← hg]; exact ⟨(Below.refl _ w).alloc (Nat.le_refl _) _, heap_alloc_new w _⟩
  have HG := hide hg
  clear em
  obtain ⟨o, ho⟩ : ∃ o, near32 (F32.mul v (F32.pow p)) = o := ⟨_, rfl⟩
  rw [ho] at hwh hrg HNW
  obtain ⟨out, hout⟩ : ∃ out, F32.wh p v = out := ⟨_, rfl⟩
  rw [hout] at hwh ⊢
  have HWH := hide hwh
  clear hwh ho hout
  have n1 : IntKind.i64.wrap (-999999) = -999999 := by rw [IntKind.wrap_i64]; omega
  have c1 : W1.cell? ⟨g, 1, none⟩ = some (.int .u32 (F32.pow p : Int)) := (Sc32.mk HW1.out.2).c1
  unfold scV32 at *
  generalize F32.pow p = P at *
  generalize F32.mul v P = m at *
  have HC : Hid (∀ w', Below (g + 1) W1 w' → w'.cell? ⟨g, 0, none⟩ = some (.int .i64 (p : Int)) ∧ w'.cell? ⟨g, 1, none⟩ = some (.int .u32 (P : Int))) := fun w' hB => by
    have h := HW1.out.2
    exact ⟨cell_of_row _ _ 0 _ _ _ ((hB.block g (by omega)).trans h), cell_of_row _ _ 1 _ _ _ ((hB.block g (by omega)).trans h)⟩
  go_enter Tryz.func137, Tryz.ntmps137
  go_upto_region 1 with fail
  (try rw [hg])
  (try rw [← hW1])
  clear hW1 hg
  go_wp2_with fail
  refine (HMU.out _).mono ?_
  rintro e w2 ⟨rfl, B2⟩
  have HB2 := hide B2
  clear B2
  go_wp2_with fail
  refine (HNW.out _).mono ?_
  rintro e w3 ⟨rfl, B3⟩
  have HB3 : Hid (Below (g + 1) W1 w3 ∧ Below g w w3 ∧ g + 1 ≤ w3.heap.size) := by
    have h0 : g < W1.heap.size := size_lt_of_row HW1.out.2
    have h1 := HB2.out.size
    have h2 := B3.size
    have h3 : Below (g + 1) W1 w3 := (HB2.out.mono (by omega)).trans (B3.mono (by omega))
    exact ⟨h3, HW1.out.1.trans (h3.mono (by omega)), by omega⟩
  clear B3 HB2
  cases o with
  | none =>
    simp only [nwV]
    go_wp2_with fail
    refine (mostWhole32_any _).mono ?_
    rintro e w4 ⟨rfl, h4⟩
    have h4 := h4.symm
    subst h4
    have HE : Hid (out = none) := HWH.out
    go_wp2_with fail
    go_ret2
    exact ⟨by rw [HE.out]; rfl, by rw [HG.out]; exact HB3.out.2.1⟩
  | some k =>
    simp only [nwV]
    obtain ⟨k1, k2⟩ := hrg k rfl
    clear hrg
    go_wp2_with fail
    refine (mostWhole32_any _).mono ?_
    rintro e w4 ⟨rfl, h4⟩
    have h4 := h4.symm
    subst h4
    by_cases h5 : k < -999999
    · have HE : Hid (out = none) := HWH.out.trans (if_pos (.inl h5))
      go_wp2_with fail
      go_ret2
      exact ⟨by rw [HE.out]; rfl, by rw [HG.out]; exact HB3.out.2.1⟩
    · by_cases h6 : 999999 < k
      · have HE : Hid (out = none) := HWH.out.trans (if_pos (.inr (.inl h6)))
        go_wp2_with fail
        go_ret2
        exact ⟨by rw [HE.out]; rfl, by rw [HG.out]; exact HB3.out.2.1⟩
      · obtain ⟨x, hx⟩ : ∃ x, F32.val p k = x := ⟨_, rfl⟩
        have HX := hide hx
        obtain ⟨d0, d1⟩ := HC.out w3 HB3.out.1
        have HV := hide (HVO.out k w3)
        rw [hx] at HV
        by_cases h7 : x = v
        · have HE : Hid (out = some k) := HWH.out.trans (if_neg (fun h => h.elim h5 (fun h => h.elim h6 (fun h => h (hx.trans h7)))))
          have q7 : ((x : Int) != (v : Int)) = false := by rw [h7]; simp
          clear hx h7
          go_wp2_with fail
          refine HV.out.mono ?_
          rintro e w5 ⟨rfl, B5⟩
          have HB5 : Hid (Below g w w5) := HB3.out.2.1.trans (B5.mono (by have := HB3.out.2.2; omega))
          clear B5
          go_wp2_with fail
          go_ret2
          exact ⟨by rw [HE.out]; rfl, by rw [HG.out]; exact HB5.out⟩
        · have HE : Hid (out = none) := HWH.out.trans (if_pos (.inr (.inr (by rw [hx]; exact h7))))
          have q7 : ((x : Int) != (v : Int)) = true := by rw [bne_iff_ne]; omega
          clear hx h7
          go_wp2_with fail
          refine HV.out.mono ?_
          rintro e w5 ⟨rfl, B5⟩
          have HB5 : Hid (Below g w w5) := HB3.out.2.1.trans (B5.mono (by have := HB3.out.2.2; omega))
          clear B5
          go_wp2_with fail
          go_ret2
          exact ⟨by rw [HE.out]; rfl, by rw [HG.out]; exact HB5.out⟩

set_option maxRecDepth 100000 in
theorem nothings32_any (p : Nat) (q : Option Addr) (n cap : Nat) (f : Nat → Nat) (w : World) (h : URow32 w q n f) (hn : n ≤ 4096) (hcap : n ≤ cap) (hf : ∀ i, i < n → f i < 4294967296) :
    Calls Tryz.prog 135 #[scV32 p, .slice q n cap] w fun e w' => e = .returned (.int .i64 (F32.cnt p f 0 n : Nat)) ∧ Below w.heap.size w w' := by
  have H := hide h
  have HF := hide hf
  have HWO := hide (fun (v : Nat) (w : World) (hv : v < 4294967296) => wholeOf32_any p v w hv)
  obtain ⟨g, hg⟩ : ∃ g, w.heap.size = g := ⟨_, rfl⟩
  obtain ⟨W1, hW1⟩ : ∃ W1, W1 = w.alloc (.cells #[.int .i64 (p : Int), .int .u32 (F32.pow p : Int)] 116) := ⟨_, rfl⟩
  have HW1 : Hid (Below g w W1 ∧ W1.heap[g]? = some (.cells #[.int .i64 (p : Int), .int .u32 (F32.pow p : Int)] 116 (0, 0))) := by
    rw [hW1, ← hg]; exact ⟨(Below.refl _ w).alloc (Nat.le_refl _) _, heap_alloc_new w _⟩
  have HG := hide hg
  clear h hf
  unfold scV32 at *
  go_enter Tryz.func135, Tryz.ntmps135
  go_upto_region 1 with fail
  (try rw [hg])
  (try rw [← hW1])
  clear hW1 hg
  go_wp2_with fail
  go_loopw [5, 12] (fun t5 t12 wr => ∃ (k c : Nat), t12 = .int .i64 (k : Int) ∧ t5 = .int .i64 (c : Int) ∧ Hid (k ≤ n ∧ c = F32.cnt p f 0 k ∧ Below (g + 1) W1 wr)) (fun _ t12 _ => n - (intOf t12).toNat)
  case atStart => exact ⟨0, 0, rfl, rfl, Nat.zero_le _, rfl, Below.refl _ _⟩
  case round =>
    obtain ⟨k, c, rfl, rfl, hI⟩ := hrel
    by_cases hlt : k < n
    · obtain ⟨b, o, rfl, hc⟩ := H.out (by omega)
      obtain ⟨x, hx⟩ : ∃ x, f k = x := ⟨_, rfl⟩
      have hxM : x < 4294967296 := by rw [← hx]; exact HF.out k hlt
      have hS : Sc32 wr g p := Sc32.below ⟨HW1.out.2⟩ hI.out.2.2 (by omega)
      have hbg : b < g := by rw [← HG.out]; exact block_lt_of_cell (hc k hlt)
      have c1 : wr.cell? ⟨b, o + k, none⟩ = some (.int .u32 (x : Int)) := by
        rw [hI.out.2.2.cell (p := ⟨b, o + k, none⟩) (show b < g + 1 by omega), HW1.out.1.cell (p := ⟨b, o + k, none⟩) hbg, ← hx]; exact hc k hlt
      have d0 := hS.c0
      have d1 := hS.c1
      have hcl : c ≤ k := by rw [hI.out.2.1]; exact F32.cnt_le p f 0 k
      have HWX := hide (HWO.out x wr hxM)
      have HS2 : Hid (g + 1 ≤ wr.heap.size) := hS.lt
      have HCE : Hid (F32.cnt p f 0 (k + 1) = c + (if (F32.wh p x).isSome then 0 else 1)) := by
        show _ = _
        rw [F32.cnt_end, Nat.zero_add, hx, hI.out.2.1]
      generalize F32.pow p = P at *
      generalize F32.wh p x = oo at *
      clear hx hc hS
      go_wp2_with fail
      refine HWX.out.mono ?_
      rintro e w2 ⟨rfl, B2⟩
      have HB2 : Hid (Below (g + 1) W1 w2) := hI.out.2.2.trans (B2.mono HS2.out)
      clear B2
      cases oo with
      | none =>
        simp only [nwV]
        go_wp2_with fail
        go_roundw
        case rel => exact ⟨k + 1, c + 1, by simp, by simp, hlt, by rw [HCE.out]; rfl, HB2.out⟩
        case measure => simp [intOf]; omega
      | some z =>
        simp only [nwV]
        go_wp2_with fail
        go_roundw
        case rel => exact ⟨k + 1, c, by simp, by simp, hlt, by rw [HCE.out]; rfl, HB2.out⟩
        case measure => simp [intOf]; omega
    · have hk : k = n := by have := hI.out.1; omega
      subst hk
      go_wp2_with fail
      go_ret
      exact ⟨by rw [hI.out.2.1]; rfl, by rw [HG.out]; exact HW1.out.1.trans (hI.out.2.2.mono (by omega))⟩

end Go.Proofs.YtleffbpjjbiobaaGreatDoor

/- The contract of code's bestScale (32 bits). -/
namespace Go.Proofs.YtleffbpjjbiobaaGreatDoor
open Go.RowKit
open M
set_option linter.unusedVariables false
set_option linter.unusedSimpArgs false

/-- A scale is stored where one lay. -/
theorem scale_set32 {w : World} {g p : Nat} {x y : Value} (h : w.heap[g]? = some (.cells #[x, y] 116 (0, 0))) : Sc32 ((w.setCell ⟨g, 0, none⟩ (.int .i64 (p : Int))).setCell ⟨g, 1, none⟩ (.int .u32 (F32.pow p : Int))) g p := by
  have h1 := heap_setCell_same w g 0 _ _ (.int .i64 (p : Int)) h
  have h2 := heap_setCell_same _ g 1 _ _ (.int .u32 (F32.pow p : Int)) h1
  exact ⟨h2⟩

/-- One scale is stored anew: all else below stays. -/
theorem below_two32 {B g : Nat} {w0 w : World} (h : Below B w0 w) (hg : B ≤ g) (x y : Value) : Below B w0 ((w.setCell ⟨g, 0, none⟩ x).setCell ⟨g, 1, none⟩ y) :=
  (h.setCell (p := ⟨g, 0, none⟩) hg _).setCell (p := ⟨g, 1, none⟩) hg _

set_option maxRecDepth 100000 in
set_option maxHeartbeats 1000000 in
theorem bestScale32_any (q : Option Addr) (n cap : Nat) (f : Nat → Nat) (w : World) (h : URow32 w q n f) (hn : n ≤ 4096) (hcap : n ≤ cap) (hf : ∀ i, i < n → f i < 4294967296) :
    Calls Tryz.prog 101 #[.slice q n cap] w fun e w' => e = .returned (scV32 (F32.bs f n 10).1) ∧ Below w.heap.size w w' := by
  have HNO := hide (fun (p : Nat) (w1 : World) (hB : Below w.heap.size w w1) => nothings32_any p q n cap f w1 (h.below hB) hn hcap hf)
  have HSA := hide (fun (p : Nat) (w : World) (hp : p ≤ 1000) => scaleAt32_any p w hp)
  clear h hf
  obtain ⟨g, hg⟩ : ∃ g, w.heap.size = g := ⟨_, rfl⟩
  have HA : Hid (Below g w (w.alloc (.cells #[.int .i64 0, .int .u32 0] 116)) ∧ (w.alloc (.cells #[.int .i64 0, .int .u32 0] 116)).heap[g]? = some (.cells #[.int .i64 0, .int .u32 0] 116 (0, 0))) := by
    rw [← hg]; exact ⟨(Below.refl _ w).alloc (Nat.le_refl _) _, heap_alloc_new w _⟩
  have HG := hide hg
  rw [hg] at HNO
  unfold scV32 at *
  go_enter Tryz.func101, Tryz.ntmps101
  go_upto_region 1 with fail
  (try rw [hg])
  clear hg
  generalize w.alloc (.cells #[.int .i64 0, .int .u32 0] 116) = W1 at *
  go_wp2_with fail
  refine (HSA.out 0 W1 (by omega)).mono ?_
  rintro e w2 ⟨rfl, B2⟩
  obtain ⟨g3, hg3⟩ : ∃ g3, w2.heap.size = g3 := ⟨_, rfl⟩
  have hW : g < g3 := by have := size_lt_of_row HA.out.2; have := B2.size; omega
  obtain ⟨W3, hW3⟩ : ∃ W3, W3 = w2.alloc (.cells #[.int .i64 0, .int .u32 (F32.pow 0 : Int)] 116) := ⟨_, rfl⟩
  have H3 : Hid (Sc32 W3 g3 0 ∧ Below g w W3 ∧ W3.heap[g]? = some (.cells #[.int .i64 0, .int .u32 0] 116 (0, 0))) := by
    have hA : Below g3 w2 W3 := by rw [hW3, ← hg3]; exact (Below.refl _ w2).alloc (Nat.le_refl _) _
    have hl := size_lt_of_row HA.out.2
    refine ⟨⟨by rw [hW3, ← hg3]; exact heap_alloc_new w2 _⟩, (HA.out.1.trans (B2.mono (by omega))).trans (hA.mono (by omega)), ?_⟩
    rw [hA.block g hW, B2.block g hl]; exact HA.out.2
  clear B2
  go_upto_region 2 with fail
  (try rw [← hW3])
  clear hW3 hg3
  have c0 : W3.cell? ⟨g3, 0, none⟩ = some (.int .i64 0) := H3.out.1.c0
  have c1 := H3.out.1.c1
  go_wp2_with fail
  refine (HNO.out 0 W3 H3.out.2.1).mono ?_
  rintro e w4 ⟨rfl, B4⟩
  have H4 : Hid (Sc32 w4 g3 0 ∧ Below g w w4 ∧ w4.heap[g]? = some (.cells #[.int .i64 0, .int .u32 0] 116 (0, 0))) := by
    have h1 := H3.out.1.lt
    exact ⟨H3.out.1.below B4 h1, H3.out.2.1.trans (B4.mono (by omega)), by rw [B4.block g (by omega)]; exact H3.out.2.2⟩
  clear B4 c0 c1
  go_wp2_with fail
  go_loopw [4, 5] (fun t4 t5 wr => ∃ (r d : Nat), t5 = .int .i64 ((r : Int) + 1) ∧ t4 = .int .i64 (d : Int) ∧ Hid (r ≤ 10 ∧ d = (F32.bs f n r).2 ∧ Sc32 wr g3 (F32.bs f n r).1 ∧ Below g w wr ∧ wr.heap[g]? = some (.cells #[.int .i64 0, .int .u32 0] 116 (0, 0)))) (fun _ t5 _ => 10 + 1 - (intOf t5).toNat)
  case atStart => exact ⟨0, _, rfl, rfl, Nat.zero_le _, rfl, H4.out.1, H4.out.2.1, H4.out.2.2⟩
  case round =>
    obtain ⟨r, d, rfl, rfl, hI⟩ := hrel
    by_cases hstop : r = 10 ∨ d = 0
    · have HE : Hid (Sc32 wr g3 (F32.bs f n 10).1) := by
        have h3 := hI.out.2.2.1
        rcases hstop with h | h
        · rw [h] at h3; exact h3
        · rw [F32.bs_stop f n r 10 hI.out.1 (by rw [← hI.out.2.1]; exact h)]; exact h3
      have hb := hI.out.2.2.2.2
      have c0 := HE.out.c0
      have c1 := HE.out.c1
      have d0 : wr.cell? ⟨g, 0, none⟩ = some (.int .i64 0) := cell_of_row _ _ 0 _ _ _ hb
      have d1 : wr.cell? ⟨g, 1, none⟩ = some (.int .u32 0) := cell_of_row _ _ 1 _ _ _ hb
      have f0 : wr.frozen? ⟨g, 0, none⟩ = false := frozen_of_row _ _ _ _ _ hb
      have f1 : wr.frozen? ⟨g, 1, none⟩ = false := frozen_of_row _ _ _ _ _ hb
      have HR : Hid (r ≤ 10 ∧ (r = 10 ∨ d = 0)) := ⟨hI.out.1, hstop⟩
      have HB := hide hI.out.2.2.2
      clear hb hI hstop
      obtain ⟨bp, hbp⟩ : ∃ bp, (F32.bs f n 10).1 = bp := ⟨_, rfl⟩
      rw [hbp] at c0 c1 HE
      have HBP := hide hbp
      clear hbp
      obtain ⟨P, hP⟩ : ∃ P, F32.pow bp = P := ⟨_, rfl⟩
      rw [hP] at c1
      have HP := hide hP
      clear hP
      obtain ⟨fs, hu⟩ := is_struct (show Tryz.prog.underlying 116 = Tryz.prog.underlying 116 from rfl) (by kernel_rfl)
      have HU := hide hu
      have HROW : Hid (((wr.setCell ⟨g, 0, none⟩ (.int .i64 (bp : Int))).setCell ⟨g, 1, none⟩ (.int .u32 (P : Int))).heap[g]? = some (.cells #[.int .i64 (bp : Int), .int .u32 (P : Int)] 116 (0, 0))) := by
        have h1 := heap_setCell_same wr g 0 _ _ (.int .i64 (bp : Int)) HB.out.2
        exact heap_setCell_same _ g 1 _ _ (.int .u32 (P : Int)) h1
      clear hu
      by_cases h22 : r = 10
      · subst h22
        go_wp2_with fail
        refine (mostPoint32_any _).mono ?_
        rintro e w5 ⟨rfl, h5⟩
        have h5 := h5.symm
        subst h5
        go_wp2_with fail
        refine bodyPost_ret (results_cell_row rfl _ _ g _ _ (0, 0) (.struct fs) rfl HROW.out HU.out rfl (by kernel_rfl)) rfl ?_
        refine ⟨by rw [HBP.out, HP.out], ?_⟩
        rw [HG.out]
        exact below_two32 HB.out.1 (Nat.le_refl _) _ _
      · have hr22 : r + 1 ≤ 10 := by have := HR.out.1; omega
        have hd0 : d = 0 := by rcases HR.out.2 with h | h; exact absurd h h22; exact h
        subst hd0
        have hle : (r : Int) + 1 ≤ 10 := by omega
        go_wp2_with fail
        refine (mostPoint32_any _).mono ?_
        rintro e w5 ⟨rfl, h5⟩
        have h5 := h5.symm
        subst h5
        go_wp2_with fail
        refine bodyPost_ret (results_cell_row rfl _ _ g _ _ (0, 0) (.struct fs) rfl HROW.out HU.out rfl (by kernel_rfl)) rfl ?_
        refine ⟨by rw [HBP.out, HP.out], ?_⟩
        rw [HG.out]
        exact below_two32 HB.out.1 (Nat.le_refl _) _ _
    · have hr22 : r + 1 ≤ 10 := by have := hI.out.1; omega
      have hd0 : 0 < d := by omega
      have hle : (r : Int) + 1 ≤ 10 := by omega
      have hdp : (d : Int) > 0 := by omega
      have HB := hide hI.out.2.2.2
      have HS := hide hI.out.2.2.1
      have HD := hide hI.out.2.1
      have HST := hide hstop
      clear hI hstop
      have HSC := hide (HSA.out (r + 1) wr (by omega))
      rw [show (((r + 1 : Nat)) : Int) = (r : Int) + 1 from by simp] at HSC
      go_wp2_with fail
      refine (mostPoint32_any _).mono ?_
      rintro e w5 ⟨rfl, h5⟩
      have h5 := h5.symm
      subst h5
      go_wp2_with fail
      refine HSC.out.mono ?_
      rintro e w6 ⟨rfl, B6⟩
      obtain ⟨P, hP⟩ : ∃ P, F32.pow (r + 1) = P := ⟨_, rfl⟩
      rw [hP]
      have HP := hide hP
      clear hP
      obtain ⟨g6, hg6⟩ : ∃ g6, w6.heap.size = g6 := ⟨_, rfl⟩
      obtain ⟨W7, hW7⟩ : ∃ W7, W7 = w6.alloc (.cells #[.int .i64 ((r : Int) + 1), .int .u32 (P : Int)] 116) := ⟨_, rfl⟩
      have H7 : Hid (W7.heap[g6]? = some (.cells #[.int .i64 ((r : Int) + 1), .int .u32 (P : Int)] 116 (0, 0)) ∧ Sc32 W7 g3 (F32.bs f n r).1 ∧ Below g w W7 ∧ W7.heap[g]? = some (.cells #[.int .i64 0, .int .u32 0] 116 (0, 0)) ∧ g3 < g6) := by
        have hA : Below g6 w6 W7 := by rw [hW7, ← hg6]; exact (Below.refl _ w6).alloc (Nat.le_refl _) _
        have hl := HS.out.lt
        have hs6 := B6.size
        have hBB : Below wr.heap.size wr W7 := B6.trans (hA.mono (by omega))
        exact ⟨by rw [hW7, ← hg6]; exact heap_alloc_new w6 _, HS.out.below hBB hl, HB.out.1.trans (hBB.mono (by omega)), by rw [hBB.block g (by omega)]; exact HB.out.2, by omega⟩
      clear B6
      go_upto_region 7 with fail
      (try rw [← hW7])
      clear hW7 hg6
      have c0 : W7.cell? ⟨g6, 0, none⟩ = some (.int .i64 ((r : Int) + 1)) := cell_of_row _ _ 0 _ _ _ H7.out.1
      have c1 : W7.cell? ⟨g6, 1, none⟩ = some (.int .u32 (P : Int)) := cell_of_row _ _ 1 _ _ _ H7.out.1
      have HN := hide (HNO.out (r + 1) W7 H7.out.2.2.1)
      rw [HP.out, show (((r + 1 : Nat)) : Int) = (r : Int) + 1 from by simp] at HN
      go_wp2_with fail
      refine HN.out.mono ?_
      rintro e w8 ⟨rfl, B8⟩
      obtain ⟨c, hc⟩ : ∃ c, F32.cnt (r + 1) f 0 n = c := ⟨_, rfl⟩
      rw [hc]
      have H8 : Hid (w8.heap[g6]? = some (.cells #[.int .i64 ((r : Int) + 1), .int .u32 (P : Int)] 116 (0, 0)) ∧ Sc32 w8 g3 (F32.bs f n r).1 ∧ Below g w w8 ∧ w8.heap[g]? = some (.cells #[.int .i64 0, .int .u32 0] 116 (0, 0))) := by
        have h6 := size_lt_of_row H7.out.1
        exact ⟨by rw [B8.block g6 h6]; exact H7.out.1, H7.out.2.1.below B8 H7.out.2.1.lt, H7.out.2.2.1.trans (B8.mono (by have := H7.out.2.1.lt; omega)), by rw [B8.block g (by have := H7.out.2.1.lt; omega)]; exact H7.out.2.2.2.1⟩
      clear B8 c0 c1
      by_cases hcd : c < d
      · have HE : Hid (F32.bs f n (r + 1) = (r + 1, c)) := by
          show _ = _
          rw [Dm.bs, if_neg (by rw [← HD.out]; omega), hc, if_pos (by rw [← HD.out]; exact hcd)]
        have e0 : w8.cell? ⟨g6, 0, none⟩ = some (.int .i64 ((r : Int) + 1)) := cell_of_row _ _ 0 _ _ _ H8.out.1
        have e1 : w8.cell? ⟨g6, 1, none⟩ = some (.int .u32 (P : Int)) := cell_of_row _ _ 1 _ _ _ H8.out.1
        have c0 := H8.out.2.1.c0
        have c1 := H8.out.2.1.c1
        have f0 : w8.frozen? ⟨g3, 0, none⟩ = false := frozen_of_row _ _ _ _ _ H8.out.2.1.row
        have f1 : w8.frozen? ⟨g3, 1, none⟩ = false := frozen_of_row _ _ _ _ _ H8.out.2.1.row
        have HX : Hid (Sc32 ((w8.setCell ⟨g3, 0, none⟩ (.int .i64 ((r : Int) + 1))).setCell ⟨g3, 1, none⟩ (.int .u32 (P : Int))) g3 (r + 1) ∧ Below g w ((w8.setCell ⟨g3, 0, none⟩ (.int .i64 ((r : Int) + 1))).setCell ⟨g3, 1, none⟩ (.int .u32 (P : Int))) ∧ ((w8.setCell ⟨g3, 0, none⟩ (.int .i64 ((r : Int) + 1))).setCell ⟨g3, 1, none⟩ (.int .u32 (P : Int))).heap[g]? = some (.cells #[.int .i64 0, .int .u32 0] 116 (0, 0))) := by
          refine ⟨?_, below_two32 H8.out.2.2.1 (by omega) _ _, ?_⟩
          · have := scale_set32 (p := r + 1) H8.out.2.1.row
            rw [HP.out] at this
            exact this
          · rw [Below.heap_setCell _ _ _ _ (show g ≠ g3 by omega), Below.heap_setCell _ _ _ _ (show g ≠ g3 by omega)]; exact H8.out.2.2.2
        clear hc
        go_wp2_with fail
        go_roundw
        case rel => exact ⟨r + 1, c, by simp, by simp, hr22, by rw [HE.out], by rw [HE.out]; exact HX.out.1, HX.out.2.1, HX.out.2.2⟩
        case measure => simp [intOf]; omega
      · have HE : Hid (F32.bs f n (r + 1) = F32.bs f n r) := by
          show _ = _
          rw [Dm.bs, if_neg (by rw [← HD.out]; omega), hc, if_neg (by rw [← HD.out]; exact hcd)]
        clear hc
        go_wp2_with fail
        go_roundw
        case rel => exact ⟨r + 1, d, by simp, by simp, hr22, by rw [HE.out]; exact HD.out, by rw [HE.out]; exact H8.out.2.1, H8.out.2.2.1, H8.out.2.2.2⟩
        case measure => simp [intOf]; omega

end Go.Proofs.YtleffbpjjbiobaaGreatDoor

namespace Go.Proofs.YtleffbpjjbiobaaGreatDoor
open Go.RowKit
open M
set_option linter.unusedVariables false
set_option linter.unusedSimpArgs false

/-- A packer's answer: the bytes of these bits, in a row of their own. -/
def RowEnd32 (l : List Bool) (w : World) (e : Ending) (w' : World) : Prop :=
  ∃ (g L : Nat), L = (packed l).length ∧ w.heap.size ≤ g ∧ e = .returned (.tuple #[.slice (some ⟨g, 0, none⟩) L L, .int .i64 0]) ∧
    w'.heap[g]? = some (.cells (bytesV (packed l)).toArray 5 (0, 0)) ∧ Below w.heap.size w w'

set_option maxRecDepth 100000 in
set_option maxHeartbeats 1000000 in
theorem packPlain32_any (p : Option Addr) (n cap : Nat) (f : Nat → Nat) (w : World) (h : URow32 w p n f) (hn : n ≤ 4096) (hcap : n ≤ cap) (hf : ∀ i, i < n → f i < 4294967296) :
    Calls Tryz.prog 57 #[.slice p n cap] w (RowEnd32 (plB 32 f n) w) := by
  have H := hide h
  have HF := hide hf
  obtain ⟨g, hg⟩ : ∃ g, g = w.heap.size := ⟨_, rfl⟩
  obtain ⟨W1, hW1⟩ : ∃ W1, W1 = w.alloc (.cells zW 125) := ⟨_, rfl⟩
  have HM : Hid (Wr W1 (g + 1) g 0 [] 0 ∧ g + 1 ≤ W1.heap.size ∧ Below w.heap.size w W1 ∧ URow32 W1 p n f) := by
    have B1 : Below w.heap.size w W1 := by rw [hW1]; exact (Below.refl _ w).alloc (Nat.le_refl _) _
    refine ⟨?_, by rw [hW1, hg]; simp, B1, h.below B1⟩
    rw [hg, hW1]; exact wr_of (heap_alloc_new w _)
  have HP : Hid (∀ a, p = some a → 0 < n → a.block < g) := fun a ha h0 => by
    obtain ⟨b, o, hp, hc⟩ := H.out h0
    rw [hp] at ha
    simp only [Option.some.injEq] at ha
    rw [← ha, hg]
    exact block_lt_of_cell (hc 0 h0)
  have HG := hide hg
  clear h hf
  go_enter Tryz.func57, Tryz.ntmps57
  go_upto_region 1 with fail
  refine wp_region_list ?_
  refine wpList_build rfl 125 #[] rfl (by kernel_rfl) ?_
  simp only [Array.map_empty]
  rw [zW_built]
  refine Go.Great.wpList_boxTo rfl 125 (.tmp 7) rfl (some 8) rfl g hg.symm zW rfl ?_
  rw [← hW1]
  clear hW1 hg
  go_wp2_with fail
  go_loopw [11] (fun t11 wr => ∃ k : Nat, t11 = .int .i64 (k : Int) ∧ Hid (k ≤ n ∧ Wr wr (g + 1) g 0 (plB 32 f k) 0 ∧ Only g 0 123 W1 wr)) (fun t11 _ => n - (intOf t11).toNat)
  case atStart => exact ⟨0, rfl, Nat.zero_le _, HM.out.1, Only.refl _ _ _ _⟩
  case round =>
    obtain ⟨k, rfl, hI⟩ := hrel
    by_cases hlt : k < n
    · obtain ⟨rb0, ro, rfl, hc⟩ := HM.out.2.2.2 (by omega)
      have hrb : rb0 < g := HP.out _ rfl (by omega)
      obtain ⟨v, hv⟩ : ∃ v, f k = v := ⟨_, rfl⟩
      have hs1 := HM.out.2.1
      have c1 : wr.cell? ⟨rb0, ro + k, none⟩ = some (.int .u32 (v : Int)) := by
        rw [World.cell?_of_block (w := W1) (hI.out.2.2.block rb0 (by omega) (by omega)), ← hv]
        exact hc k hlt
      have hvM : v < 4294967296 := by rw [← hv]; exact HF.out k hlt
      have HV := hide hv
      clear hv hc hs1
      go_wp2_with fail
      refine (layValue32_any g 0 (g + 1) v wr _ hI.out.2.1 (by omega) (Nat.le_trans HM.out.2.1 hI.out.2.2.size) (by rw [plB_length]; omega) hvM).mono ?_
      rintro e w3 ⟨rfl, W3, O3⟩
      go_wp2_with fail
      go_roundw
      case rel =>
        refine ⟨k + 1, by simp, hlt, ?_, hI.out.2.2.trans O3⟩
        rw [plB, HV.out]; exact W3
      case measure => simp [intOf]; omega
    · have hk : k = n := by have := hI.out.1; omega
      go_wp2_with fail
      refine (wdone_packed g 0 (g + 1) wr _ hI.out.2.1 (Nat.le_trans HM.out.2.1 hI.out.2.2.size) (by rw [plB_length]; omega) _ rfl).mono ?_
      rintro e w3 ⟨rfl, G3, B3⟩
      go_wp2_with fail
      go_ret2
      have e3 := HM.out.2.2.1
      have e4 := HG.out
      have e5 := hI.out.2.2.below (B := w.heap.size) (by omega) (by have := e3.size; omega)
      refine ⟨wr.heap.size, ((plB 32 f n).length + 7) / 8, (packed_length _).symm, ?_, rfl, (by first | exact G3 | (rw [hk] at G3; exact G3)), ?_⟩
      · have := e5.size; have := e3.size; omega
      · exact (e3.trans e5).trans (B3.mono (by have := e5.size; have := e3.size; omega))

end Go.Proofs.YtleffbpjjbiobaaGreatDoor

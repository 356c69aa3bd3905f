/- The contract of take: the walk. -/
import Derived.Test.YtpdaklklhoenhaaGreatDoorFF
import Derived.Test.YtpdaklklhoenhaaGreatDoorE2A
import Derived.BigQuiet
import Derived.Deep.RegionHeld3
import Derived.Test.YtpdaklklhoenhaaGreatDoorP1A
/- Down, Class. -/
namespace Go.Proofs.YtpdaklklhoenhaaGreatDoor
open Go.RowKit
set_option linter.unusedVariables false
set_option linter.unusedSimpArgs false

theorem b64_flip (b : Nat) (hb : b < 18446744073709551616) : bits BinOp.xor IntKind.u64 (b : Int) 9223372036854775808 = ((flip64 b : Nat) : Int) := by
  unfold flip64
  by_cases h : b < 9223372036854775808
  · rw [if_pos h]; exact b64_xor_lo b h
  · rw [if_neg h]; exact b64_xor_hi b (by omega) hb


set_option maxRecDepth 100000 in
set_option maxHeartbeats 1000000 in
theorem class64_core (b fl y c : Nat) (w : World) (hb : b < 18446744073709551616) (h1 : bits BinOp.and IntKind.u64 (b : Int) 9218868437227405312 = (fl : Int)) (h2 : bits BinOp.andNot IntKind.u64 (b : Int) 18442240474082181120 = (y : Int)) (hy : y < 4503599627370496)
    (hc : (fl = 9218868437227405312 ∧ y = 0 ∧ c = 3) ∨ (fl = 9218868437227405312 ∧ 2251799813685248 ≤ y ∧ c = 4) ∨ (fl = 9218868437227405312 ∧ y ≠ 0 ∧ y < 2251799813685248 ∧ c = 5) ∨ (fl ≠ 9218868437227405312 ∧ fl ≠ 0 ∧ c = 2) ∨ (fl = 0 ∧ y ≠ 0 ∧ c = 1) ∨ (fl = 0 ∧ y = 0 ∧ c = 0)) :
    Calls Tryz.prog 96 #[.int .u64 b] w fun e w' => e = .returned (.int .i64 c) ∧ Below w.heap.size w w' := by
  have hsf := b64_sf
  rcases hc with ⟨rfl, rfl, rfl⟩ | ⟨rfl, q1, rfl⟩ | ⟨rfl, q1, q2, rfl⟩ | ⟨q1, q2, rfl⟩ | ⟨rfl, q1, rfl⟩ | ⟨rfl, rfl, rfl⟩
  · have h1 : bits BinOp.and IntKind.u64 (b : Int) 9218868437227405312 = 9218868437227405312 := h1
    have h2 : bits BinOp.andNot IntKind.u64 (b : Int) 18442240474082181120 = 0 := h2
    go_enter Tryz.func96, Tryz.ntmps96
    go_wp2_with fail
    refine (layoutOf64_any w).mono ?_
    rintro e w1 ⟨rfl, hb1⟩
    unfold lay64
    have H1 := fhide hb1
    clear hb1
    go_wp2_with fail
    go_quiet (simp only [hsf, h1, h2])
    go_wp2_with (simp only [hsf, h1, h2])
    go_ret
    exact ⟨rfl, below_drewN (H1.out.alloc H1.out.size _) _⟩
  · have h1 : bits BinOp.and IntKind.u64 (b : Int) 9218868437227405312 = 9218868437227405312 := h1
    have hq := b64_q_hi y q1 hy
    have h0 : ((y : Int) == 0) = false := by simp; omega
    go_enter Tryz.func96, Tryz.ntmps96
    go_wp2_with fail
    refine (layoutOf64_any w).mono ?_
    rintro e w1 ⟨rfl, hb1⟩
    unfold lay64
    have H1 := fhide hb1
    clear hb1
    go_wp2_with fail
    go_quiet (simp only [hsf, h1, h2])
    go_wp2_with (simp only [hsf, h1, h2, hq])
    go_ret
    exact ⟨rfl, below_drewN (H1.out.alloc H1.out.size _) _⟩
  · have h1 : bits BinOp.and IntKind.u64 (b : Int) 9218868437227405312 = 9218868437227405312 := h1
    have hq := b64_q_lo y q2
    have h0 : ((y : Int) == 0) = false := by simp; omega
    go_enter Tryz.func96, Tryz.ntmps96
    go_wp2_with fail
    refine (layoutOf64_any w).mono ?_
    rintro e w1 ⟨rfl, hb1⟩
    unfold lay64
    have H1 := fhide hb1
    clear hb1
    go_wp2_with fail
    go_quiet (simp only [hsf, h1, h2])
    go_wp2_with (simp only [hsf, h1, h2, hq])
    go_ret
    exact ⟨rfl, below_drewN (H1.out.alloc H1.out.size _) _⟩
  · have h0 : ((fl : Int) == 9218868437227405312) = false := by simp; omega
    have h3 : ((fl : Int) == 0) = false := by simp; omega
    have h4 : ((fl : Int) != 0) = true := by simp; omega
    go_enter Tryz.func96, Tryz.ntmps96
    go_wp2_with fail
    refine (layoutOf64_any w).mono ?_
    rintro e w1 ⟨rfl, hb1⟩
    unfold lay64
    have H1 := fhide hb1
    clear hb1
    go_wp2_with fail
    go_quiet (simp only [hsf, h1, h2])
    go_wp2_with (simp only [hsf, h1, h2])
    go_ret
    exact ⟨rfl, below_drewN (H1.out.alloc H1.out.size _) _⟩
  · have h1 : bits BinOp.and IntKind.u64 (b : Int) 9218868437227405312 = 0 := h1
    have h0 : ((y : Int) == 0) = false := by simp; omega
    have h4 : ((y : Int) != 0) = true := by simp; omega
    go_enter Tryz.func96, Tryz.ntmps96
    go_wp2_with fail
    refine (layoutOf64_any w).mono ?_
    rintro e w1 ⟨rfl, hb1⟩
    unfold lay64
    have H1 := fhide hb1
    clear hb1
    go_wp2_with fail
    go_quiet (simp only [hsf, h1, h2])
    go_wp2_with (simp only [hsf, h1, h2])
    go_ret
    exact ⟨rfl, below_drewN (H1.out.alloc H1.out.size _) _⟩
  · have h1 : bits BinOp.and IntKind.u64 (b : Int) 9218868437227405312 = 0 := h1
    have h2 : bits BinOp.andNot IntKind.u64 (b : Int) 18442240474082181120 = 0 := h2
    go_enter Tryz.func96, Tryz.ntmps96
    go_wp2_with fail
    refine (layoutOf64_any w).mono ?_
    rintro e w1 ⟨rfl, hb1⟩
    unfold lay64
    have H1 := fhide hb1
    clear hb1
    go_wp2_with fail
    go_quiet (simp only [hsf, h1, h2])
    go_wp2_with (simp only [hsf, h1, h2])
    go_ret
    exact ⟨rfl, below_drewN (H1.out.alloc H1.out.size _) _⟩

theorem Class64_any (b : Nat) (w : World) (hb : b < 18446744073709551616) : Calls Tryz.prog 96 #[.int .u64 b] w fun e w' => e = .returned (.int .i64 (class64 b : Nat)) ∧ Below w.heap.size w w' := by
  refine class64_core b _ _ _ w hb (b64_field b hb) (b64_frac b hb) (Nat.mod_lt _ (by omega)) ?_
  have e : b % 9223372036854775808 = b / 4503599627370496 % (2047 + 1) * 4503599627370496 + b % 4503599627370496 := by omega
  have l1 : b / 4503599627370496 % (2047 + 1) ≤ 2047 := by omega
  have l2 : b % 4503599627370496 < 4503599627370496 := Nat.mod_lt _ (by omega)
  unfold class64
  rw [e]
  generalize b / 4503599627370496 % (2047 + 1) = x at *
  generalize b % 4503599627370496 = y at *
  clear e
  by_cases h1 : x = 2047
  · subst h1
    rw [if_neg (by omega), if_neg (by omega), if_neg (by omega)]
    by_cases h2 : y = 0
    · subst h2; left; simp
    · rw [if_neg (by omega)]
      by_cases h3 : y < 2251799813685248
      · right; right; left; rw [if_pos (by omega)]; exact ⟨rfl, h2, h3, rfl⟩
      · right; left; rw [if_neg (by omega)]; exact ⟨rfl, by omega, rfl⟩
  · by_cases h2 : x = 0
    · subst h2
      by_cases h3 : y = 0
      · subst h3; right; right; right; right; right; simp
      · rw [if_neg (by omega), if_pos (by omega)]
        right; right; right; right; left; exact ⟨by omega, h3, rfl⟩
    · rw [if_neg (by omega), if_neg (by omega), if_pos (by omega)]
      right; right; right; left; exact ⟨by omega, by omega, rfl⟩

theorem b32_flip (b : Nat) (hb : b < 4294967296) : bits BinOp.xor IntKind.u32 (b : Int) 2147483648 = ((flip32 b : Nat) : Int) := by
  unfold flip32
  by_cases h : b < 2147483648
  · rw [if_pos h]; exact b32_xor_lo b h
  · rw [if_neg h]; exact b32_xor_hi b (by omega) hb



end Go.Proofs.YtpdaklklhoenhaaGreatDoor

/- block: isNaN, rise, allNarrow, refusal. -/
namespace Go.Proofs.YtpdaklklhoenhaaGreatDoor
open Go.RowKit
open M
set_option linter.unusedVariables false
set_option linter.unusedSimpArgs false

/-- A Bool that says whether P; new memory may have been made. -/
def SaysBk (P : Prop) (w : World) (e : Ending) (w' : World) : Prop := ∃ v : Bool, e = .returned (.bool v) ∧ (v = true ↔ P) ∧ Below w.heap.size w w'

/-- Is it a NaN? -/
def nanP (b : Nat) : Bool := decide (9218868437227405312 < b % 9223372036854775808)

theorem nan_class (b : Nat) : nanP b = (class64 b == 4 || class64 b == 5) := by
  unfold nanP class64
  split
  · rename_i h; rw [h]; decide
  · split
    · rw [decide_eq_false (by omega)]; decide
    · split
      · rw [decide_eq_false (by omega)]; decide
      · split
        · rename_i h; rw [h]; decide
        · split
          · rw [decide_eq_true (by omega)]; decide
          · rw [decide_eq_true (by omega)]; decide

theorem isNaN_any (b : Nat) (w : World) (hb : b < 18446744073709551616) : Calls Tryz.prog 76 #[.int .u64 (b : Int)] w fun e w' => e = .returned (.bool (nanP b)) ∧ Below w.heap.size w w' := by
  rw [nan_class]
  have HC := hide (Class64_any b w hb)
  obtain ⟨c, hc⟩ : ∃ c, class64 b = c := ⟨_, rfl⟩
  rw [hc] at HC ⊢
  clear hc
  go_enter Tryz.func76, Tryz.ntmps76
  go_wp2_with fail
  refine HC.out.mono ?_
  rintro e w1 ⟨rfl, B1⟩
  have HB := hide B1
  clear B1 HC
  by_cases h4 : c = 4
  · subst h4
    go_wp2_with fail
    go_ret
    exact ⟨rfl, HB.out⟩
  · have e4 : ((c : Int) == 4) = false := by rw [beq_eq_false_iff_ne]; omega
    have f4 : (c == 4) = false := by rw [beq_eq_false_iff_ne]; omega
    by_cases h5 : c = 5
    · subst h5
      go_wp2_with fail
      go_ret
      exact ⟨rfl, HB.out⟩
    · have e5 : ((c : Int) == 5) = false := by rw [beq_eq_false_iff_ne]; omega
      have f5 : (c == 5) = false := by rw [beq_eq_false_iff_ne]; omega
      go_wp2_with fail
      go_ret
      exact ⟨by simp [f4, f5], HB.out⟩

theorem isKind_any (k : Int) (w : World) : Calls Tryz.prog 64 #[.int .i64 k] w fun e w' => e = .returned (.bool (decide (k = 1 ∨ k = 2))) ∧ w' = w := by
  by_cases h1 : k = 1
  · subst h1
    go_enter Tryz.func64, Tryz.ntmps64
    go_wp2_with fail
    go_ret
    exact ⟨rfl, rfl⟩
  · have e1 : (k == 1) = false := by rw [beq_eq_false_iff_ne]; omega
    by_cases h2 : k = 2
    · subst h2
      go_enter Tryz.func64, Tryz.ntmps64
      go_wp2_with fail
      go_ret
      exact ⟨rfl, rfl⟩
    · have e2 : (k == 2) = false := by rw [beq_eq_false_iff_ne]; omega
      have f : decide (k = 1 ∨ k = 2) = false := decide_eq_false (by omega)
      rw [f]
      go_enter Tryz.func64, Tryz.ntmps64
      go_wp2_with fail
      go_ret
      exact ⟨by simp [e2], rfl⟩

theorem isCount_any (n : Nat) (w : World) (hn : n ≤ 9223372036854775807) : Calls Tryz.prog 65 #[.int .i64 (n : Int)] w fun e w' => e = .returned (.bool (decide (1 ≤ n ∧ n ≤ 4096))) ∧ w' = w := by
  by_cases h1 : 1 ≤ n
  · by_cases h2 : n ≤ 4096
    · rw [decide_eq_true (And.intro h1 h2)]
      go_enter Tryz.func65, Tryz.ntmps65
      go_wp2_with fail
      go_ret
      exact ⟨by simp <;> omega, rfl⟩
    · rw [decide_eq_false (by omega)]
      go_enter Tryz.func65, Tryz.ntmps65
      go_wp2_with fail
      go_ret
      exact ⟨by simp <;> omega, rfl⟩
  · obtain rfl : n = 0 := by omega
    go_enter Tryz.func65, Tryz.ntmps65
    go_wp2_with fail
    go_ret
    exact ⟨rfl, rfl⟩

theorem rises_step {t : Nat → Int} {n k : Nat} (h : ∀ i, i + 1 < k → t i < t (i + 1)) (hk : t (k - 1) < t k) (h1 : 1 ≤ k) : ∀ i, i + 1 < k + 1 → t i < t (i + 1) := fun i hi => by
  by_cases e : i + 1 = k
  · subst e; simpa using hk
  · exact h i (by omega)

set_option maxRecDepth 100000 in
theorem brise_any (p : Option Addr) (n cap : Nat) (t : Nat → Int) (v : Nat → Nat) (w : World) (h : PRow w p n t v) (hn : n ≤ 4096) :
    Calls Tryz.prog 66 #[.slice p n cap] w (SaysBk (Rises t n) w) := by
  have H := hide h
  clear h
  go_enter Tryz.func66, Tryz.ntmps66
  go_wp2_with fail
  go_loopw [3] (fun t3 wr => ∃ k : Nat, t3 = .int .i64 ((k : Int) + 1) ∧ Hid ((k + 1 ≤ n ∨ k = 0) ∧ (∀ i, i + 1 < k + 1 → t i < t (i + 1)) ∧ Below w.heap.size w wr)) (fun t3 _ => n - (intOf t3).toNat)
  case atStart => exact ⟨0, rfl, .inr rfl, fun i hi => by omega, Below.refl _ _⟩
  case round =>
    obtain ⟨k, rfl, hI⟩ := hrel
    by_cases hlt : k + 1 < n
    · obtain ⟨b, o, rfl, hc⟩ := H.out (by omega)
      have hl2 : (k : Int) + 1 < (n : Int) := by omega
      have hk4 : k ≤ 4096 := by omega
      obtain ⟨x, hx⟩ : ∃ x, t (k + 1) = x := ⟨_, rfl⟩
      obtain ⟨y, hy⟩ : ∃ y, t k = y := ⟨_, rfl⟩
      have c1 : wr.cell? ⟨b, o + (k + 1) * 2, none⟩ = some (.int .i64 x) := by rw [hI.out.2.2.cell (p := ⟨b, o + (k + 1) * 2, none⟩) (block_lt_of_cell (hc (k + 1) hlt).1), ← hx]; exact (hc (k + 1) hlt).1
      have c2 : wr.cell? ⟨b, o + k * 2, none⟩ = some (.int .i64 y) := by rw [hI.out.2.2.cell (p := ⟨b, o + k * 2, none⟩) (block_lt_of_cell (hc k (by omega)).1), ← hy]; exact (hc k (by omega)).1
      have HXY := hide (And.intro hx hy)
      clear hx hy hc
      by_cases hxy : x ≤ y
      · go_wp2_with fail
        go_region
        go_wp2_with fail
        go_ret
        refine ⟨false, rfl, ⟨fun h => (by cases h), fun hr => ?_⟩, hI.out.2.2.drew⟩
        have := hr k hlt
        rw [HXY.out.1, HXY.out.2] at this; omega
      · go_wp2_with fail
        go_region
        go_wp2_with fail
        go_roundw
        case rel => exact ⟨k + 1, by simp, ⟨.inl (by omega), fun i hi => by
          by_cases e : i = k
          · subst e; rw [HXY.out.1, HXY.out.2]; omega
          · exact hI.out.2.1 i (by omega), hI.out.2.2.drew⟩⟩
        case measure => simp [intOf]; omega
    · have hl2 : ¬ (k : Int) + 1 < (n : Int) := by omega
      go_wp2_with fail
      go_ret
      exact ⟨true, rfl, ⟨fun _ i hi => hI.out.2.1 i (by omega), fun _ => rfl⟩, hI.out.2.2⟩

end Go.Proofs.YtpdaklklhoenhaaGreatDoor

namespace Go.Proofs.YtpdaklklhoenhaaGreatDoor
open Go.RowKit
open M
set_option linter.unusedVariables false

set_option maxHeartbeats 1000000 in
theorem take_any (b : Nat) (s : ByteArray) (n : Nat) (w : World) (h : Rd w b 0 s 0 0) (hn : n ≤ 4096) :
    Calls Tryz.prog 84 #[.pointer (some ⟨b, 0, none⟩), .int .i64 n] w (TakeEnd w b s n) := by
  have hbs : b < w.heap.size := block_lt_of_cell h.text
  have H := hide h
  clear h
  have hmk := make_times n hn
  have hA : Hid (Only b 0 3 w (w.alloc (.cells (Array.replicate n (Value.int .i64 0)) 2))) := (Only.refl b 0 3 w).alloc hbs _
  by_cases h0 : n = 0
  · have hne : ((n : Int) == 0) = true := by rw [beq_iff_eq]; omega
    have H0 := hide h0
    clear h0
    go_enter Tryz.func84, Tryz.ntmps84
    go_wp2_with fail
    go_ret2
    refine .inr ⟨0, 0, fun _ => 0, rfl, ?_, ?_, hA.out, by simp, fun i hi => by have := H0.out; omega, fun _ => by rw [H0.out]; simp [tbn], fun h hB => ⟨rfl, fun i hi => by have := H0.out; omega⟩⟩
    · rw [H0.out]; exact TW.new w 0 _
    · exact H.out.below (w' := w.alloc _) ((Below.refl _ w).alloc (Nat.le_refl _) _) hbs
  have hne : ((n : Int) == 0) = false := by rw [beq_eq_false_iff_ne]; omega
  have HN : Hid (TW (w.alloc (.cells (Array.replicate n (Value.int .i64 0)) 2)) w.heap.size n 0 (fun _ => 0)) := TW.new w n _
  have HR : Hid (Rd (w.alloc (.cells (Array.replicate n (Value.int .i64 0)) 2)) b 0 s 0 0) := H.out.below ((Below.refl _ w).alloc (Nat.le_refl _) _) hbs
  have hs1 : Hid (w.heap.size < (w.alloc (.cells (Array.replicate n (Value.int .i64 0)) 2)).heap.size) := by show _ < _; simp
  have hgb : w.heap.size ≠ b := by omega
  go_enter Tryz.func84, Tryz.ntmps84
  go_upto_region 4 with fail
  generalize w.alloc (.cells (Array.replicate n (Value.int .i64 0)) 2) = W0 at *
  clear hmk
  go_wp2_with fail
  refine (tk_bitsT b 0 s 0 64 0 W0 HR.out (by omega)).mono ?_
  rintro e w1 ⟨x, a, e1, rfl, hx, T⟩
  have HX : Hid (x < 18446744073709551616) := hx
  clear hx
  have R1 : TW w1 w.heap.size n 0 (fun _ => 0) := HN.out.only T.only hgb hs1.out
  have c1 : w1.cell? ⟨w.heap.size, 0, none⟩ = some (.int .i64 0) := R1.cell 0 (by omega)
  have c2 := R1.fz 0
  have HT1 := hide (Tn.first (w := w) (f := fun _ => 0) (by omega) (Nat.le_refl _) hgb hs1.out HN.out hA.out T HX.out)
  clear R1 T
  go_wp2_with fail
  generalize w1.setCell ⟨w.heap.size, 0, none⟩ (.int .i64 (wrap64 (x : Int))) = W1 at *
  clear c1 c2
  go_loopw [4, 6, 7] (fun t4 t6 t7 wr => ∃ (k a : Nat) (e1 : Int) (f : Nat → Int), t4 = .slice (some ⟨w.heap.size, 0, none⟩) n n ∧ t6 = .int .u64 (ahd f k : Int) ∧ t7 = .int .i64 ((k : Int) + 1) ∧ Hid (k < n) ∧ Hid (Tn w wr b s w.heap.size n (k + 1) a e1 f)) (fun _ _ t7 _ => n - (intOf t7).toNat)
  case atStart => exact ⟨0, a, e1, _, rfl, rfl, rfl, by show 0 < n; omega, HT1.out⟩
  case round =>
    clear HT1 HX
    obtain ⟨k, a, e1, f, rfl, rfl, rfl, hk, hT⟩ := hrel
    by_cases hlt : k + 1 < n
    · obtain ⟨A, hA⟩ : ∃ A, A = ahd f k := ⟨_, rfl⟩
      have hA2 : A < 18446744073709551616 := by rw [hA]; exact ahd_lt _ _
      rw [← hA]
      have HA := hide hA
      have HA2 := hide hA2
      clear hA hA2
      go_wp2_with fail
      refine (takeZigzag_any b 0 s a e1 wr hT.out.rd).mono ?_
      rintro e w2 ⟨u, ok, a2, e2, rfl, hu, R2, O2, hs, hf⟩
      have HU := hide hu
      have HS := hide hs
      have HF := hide hf
      clear hu hs hf
      cases ok with
      | false =>
        go_wp2_with fail
        go_ret2
        refine .inl ⟨rfl, hT.out.only.trans O2, hT.out.none hlt fun h1 v r hv hr => ?_⟩
        have := (HF.out h1 v r hv hr).2.1
        cases this
      | true =>
        go_wp2_with fail
        refine (unzigzag_any u w2 HU.out).mono ?_
        rintro e w3 ⟨rfl, rfl⟩
        obtain ⟨z, hz⟩ : ∃ z, z = zag u := ⟨_, rfl⟩
        have hzr := zag_range u HU.out
        rw [← hz] at hzr ⊢
        obtain ⟨Z, hZ⟩ : ∃ Z : Nat, Z = (z % 18446744073709551616).toNat := ⟨_, rfl⟩
        obtain ⟨D, hD⟩ : ∃ D : Nat, D = (((A : Int) + z) % 18446744073709551616).toNat := ⟨_, rfl⟩
        have hDi : (D : Int) = ((A : Int) + z) % 18446744073709551616 := by rw [hD]; exact Int.toNat_of_nonneg (Int.emod_nonneg _ (by decide))
        have HDi := hide hDi
        clear hDi
        obtain ⟨fk, hfk⟩ : ∃ fk, fk = f k := ⟨_, rfl⟩
        have hfr := hT.out.rng k (by omega)
        rw [← hfk] at hfr
        obtain ⟨X, hX⟩ : ∃ X : Nat, X = (fk % 18446744073709551616).toNat := ⟨_, rfl⟩
        obtain ⟨Y, hY⟩ : ∃ Y : Nat, Y = ((fk + (D : Int)) % 18446744073709551616).toNat := ⟨_, rfl⟩
        obtain ⟨t, ht⟩ : ∃ t : Int, t = (fk + (D : Int) + 9223372036854775808) % 18446744073709551616 - 9223372036854775808 := ⟨_, rfl⟩
        have q1 : IntKind.u64.wrap z = (Z : Int) := by rw [hZ]; simp only [IntKind.wrap, IntKind.bits, IntKind.signed]; simp; omega
        have q2 : IntKind.u64.wrap ((A : Int) + (Z : Int)) = (D : Int) := by rw [hZ, hD]; simp only [IntKind.wrap, IntKind.bits, IntKind.signed]; simp; omega
        have q3 : IntKind.u64.wrap fk = (X : Int) := by rw [hX]; simp only [IntKind.wrap, IntKind.bits, IntKind.signed]; simp; omega
        have q4 : IntKind.u64.wrap ((X : Int) + (D : Int)) = (Y : Int) := by rw [hX, hY]; simp only [IntKind.wrap, IntKind.bits, IntKind.signed]; simp; omega
        have q5 : wrap64 (Y : Int) = t := by rw [hY, ht]; unfold wrap64; omega
        have RW := hT.out.row.only O2 hgb hT.out.size
        have c1 : w3.cell? ⟨w.heap.size, k, none⟩ = some (.int .i64 fk) := by rw [RW.cell k (by omega), if_pos (by omega), hfk]
        have c2 : w3.cell? ⟨w.heap.size, k + 1, none⟩ = some (.int .i64 0) := by rw [RW.cell (k + 1) hlt, if_neg (by omega)]
        have c3 := RW.fz (k + 1)
        have HNX := hide (Tn.next hlt (Nat.le_refl _) hgb hT.out u D t HU.out R2 O2 (fun h => HS.out h (by trivial)) (fun h v r hv hr => ⟨(HF.out h v r hv hr).1, (HF.out h v r hv hr).2.2⟩) (by rw [← HA.out, ← hz]; exact HDi.out) (by rw [← hfk]; exact ht))
        have HZ := hide hZ
        have HD := hide hD
        have HX := hide hX
        have HY := hide hY
        have HT := hide ht
        have Hz := hide hz
        have Hfk := hide hfk
        clear hZ hD hX hY ht hz hfk hzr hfr RW
        go_wp2_with fail
        go_roundw
        case rel =>
          refine ⟨k + 1, a2, e2, _, rfl, ?_, by simp, hlt, HNX.out.1⟩
          rw [HNX.out.2]
        case measure => simp [intOf]; omega
    · go_wp2_with fail
      go_ret2
      obtain rfl : n = k + 1 := by have := hk.out; omega
      exact .inr ⟨a, e1, f, rfl, hT.out⟩

end Go.Proofs.YtpdaklklhoenhaaGreatDoor

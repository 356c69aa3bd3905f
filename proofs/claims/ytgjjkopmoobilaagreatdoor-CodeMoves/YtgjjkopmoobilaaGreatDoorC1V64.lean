/- The contract of code.Pack (64 bits) of no values, and of too many. -/
import Derived.Test.YtgjjkopmoobilaaGreatDoorC3G64
import Derived.Test.YtgjjkopmoobilaaGreatDoorC1T64
import Derived.Test.YtgjjkopmoobilaaGreatDoorC2I
import Derived.Test.YtgjjkopmoobilaaGreatDoorP1T
import Derived.Deep.Cut
import Derived.Deep.RegionHeld3
import Derived.Great.Walk
/- The contract of Stride's unpacking (64 bits). -/
namespace Go.Proofs.YtgjjkopmoobilaaGreatDoor
open Go.RowKit
open M
set_option linter.unusedVariables false
set_option linter.unusedSimpArgs false

theorem wrapY64 (m : Nat) (hm : 0 < m) (y k : Int) (hk : (m : Int) = k) : ∃ Y : Nat, y % k = (Y : Int) ∧ Y < m := by
  subst hk
  have h1 := Int.emod_nonneg y (b := (m : Int)) (by omega)
  have h2 := Int.emod_lt_of_pos y (b := (m : Int)) (by omega)
  generalize y % (m : Int) = z at *
  exact ⟨z.toNat, (Int.toNat_of_nonneg h1).symm, by omega⟩

theorem add_wrap64 (m E y Y x : Int) (h2 : y % m = Y) (h1 : (E + Y) % m = x) : x = (E + y) % m := by rw [← h1, ← h2, Int.add_emod_emod]

theorem stride_back64 (H M : Nat) (hM : M = 2 * H) (hH : 0 < H) (f h : Nat → Nat) (k : Nat) (hf : ∀ i, i < k → f i = h i) (hr : ∀ i, i < k → f i < M) (hk : h k < M) (m : Int) (hm : (M : Int) = m) : ((exS M f k : Int) + sgW H M (rsS M h k)) % m = (h k : Int) := by
  subst hm
  have e1 := exS_congr M f h k hf
  have e2 := sgW_mod H M (rsS M h k) hM (rsS_lt M h (by omega) k)
  have e3 := rsS_back M h (by omega) k fun j hj => by
    by_cases e : j = k
    · rw [e]; exact hk
    · rw [← hf j (by omega)]; exact hr j (by omega)
  rw [← Int.add_emod_emod, e2, e1, ← e3]
  simp

theorem sg_in64 (x : Nat) (hx : x < 18446744073709551616) : -9223372036854775808 ≤ sgW 9223372036854775808 18446744073709551616 x ∧ sgW 9223372036854775808 18446744073709551616 x ≤ 9223372036854775807 := by
  unfold sgW; split <;> omega

theorem lays_stride64 : Lays64 (stB 9223372036854775808 18446744073709551616) (fun h k => varB (zig (sgW 9223372036854775808 18446744073709551616 (rsS 18446744073709551616 h k)))) := ⟨fun h => rfl, fun h k => rfl⟩

theorem Ln64.drewN {bf : (Nat → Nat) → Nat → List Bool} {w wr : World} {b : Nat} {s : ByteArray} {g n k a : Nat} {e1 : Int} {f : Nat → Nat} (T : Ln64 bf w wr b s g n k a e1 f) (hb : b < wr.heap.size) (m : Nat) : Ln64 bf w (wr.drewN m) b s g n k a e1 f :=
  ⟨T.row.ofBlock rfl, T.rd.below (w' := wr.drewN m) ⟨rfl, rfl, rfl, Nat.le_refl _, fun _ _ => rfl⟩ hb, ⟨T.only.os, T.only.tape, T.only.output, T.only.size, T.only.block, T.only.cell, T.only.frozen⟩, T.size, T.rng, T.full⟩

set_option maxRecDepth 100000 in
set_option maxHeartbeats 1000000 in
theorem unpackStride64_any (v : Value) (bs : List Nat) (n : Nat) (w : World) (h : IsBy w v bs) (hb : ∀ n ∈ bs, n < 256) (hl : bs.length ≤ 1000000000000) (hn : n ≤ 4096) :
    Calls Tryz.prog 43 #[v, .int .i64 n] w (ValsEnd64 (stB 9223372036854775808 18446744073709551616) bs n w) := by
  have H := hide h
  have HB := hide hb
  have HL := hide hl
  have hmk := make_vals64 n hn
  clear h hb hl
  go_enter Tryz.func43, Tryz.ntmps43
  go_wp2_with fail
  refine (from_by w v bs H.out).mono ?_
  rintro e w1 ⟨rfl, hw1⟩
  have HR : Hid (Rd w1 w.heap.size 0 (strOf bs) 0 0 ∧ w1.heap.size = w.heap.size + 1 ∧ Below w.heap.size w w1) := by
    rw [hw1]; exact ⟨rd_new w bs HL.out, by simp, (Below.refl _ _).alloc (Nat.le_refl _) _⟩
  clear hw1
  obtain ⟨b, hbw⟩ : ∃ b, w.heap.size = b := ⟨_, rfl⟩
  have HBW := hide hbw
  obtain ⟨g, hg⟩ : ∃ g, w1.heap.size = g := ⟨_, rfl⟩
  have HA : Hid (Ln64 (stB 9223372036854775808 18446744073709551616) w1 (w1.alloc (.cells (Array.replicate n (Value.int .u64 0)) 39)) b (strOf bs) g n 0 0 0 (fun _ => 0)) := by
    have hA : Below w1.heap.size w1 (w1.alloc (.cells (Array.replicate n (Value.int .u64 0)) 39)) := (Below.refl _ w1).alloc (Nat.le_refl _) _
    have hbs : b < w1.heap.size := by have := HR.out.2.1; omega
    refine ⟨by rw [← hg]; exact UW64.new w1 n _, by rw [← hbw]; exact HR.out.1.below hA (by omega), ⟨hA.os, hA.tape, hA.output, hA.size, fun k hk _ => hA.block k hk, fun j _ => World.cell?_of_block (hA.block b hbs), fun j => World.frozen?_of_block (w := w1) (a := ⟨b, j, none⟩) (hA.block b hbs)⟩, by rw [← hg]; simp, fun i hi => by omega, fun h hB => ⟨rfl, by simp [stB], fun i hi => by omega⟩⟩
  have hgb : g ≠ b := by have := HR.out.2.1; omega
  have HG : Hid (w1.heap.size ≤ g) := Nat.le_of_eq hg
  rw [hbw]
  clear hbw
  go_upto_region 3 with fail
  (try rw [hg])
  clear hg hmk
  generalize w1.alloc (.cells (Array.replicate n (Value.int .u64 0)) 39) = W0 at *
  go_wp2_with fail
  go_loopw [15] (fun t15 wr => ∃ (k a : Nat) (e1 : Int) (f : Nat → Nat), t15 = .int .i64 (k : Int) ∧ Hid (k ≤ n ∧ Ln64 (stB 9223372036854775808 18446744073709551616) w1 wr b (strOf bs) g n k a e1 f)) (fun t15 _ => n - (intOf t15).toNat)
  case atStart => exact ⟨0, 0, 0, _, rfl, Nat.zero_le _, HA.out⟩
  case round =>
    obtain ⟨k, a, e1, f, rfl, hI⟩ := hrel
    by_cases hlt : k < n
    · have HROW : Hid (URow64 wr (some ⟨g, 0, none⟩) k f ∧ ∀ i, i < k → f i < 18446744073709551616) := ⟨fun _ => ⟨g, 0, rfl, fun i hi => by rw [Nat.zero_add, hI.out.2.row.cell i (by omega), if_pos hi]⟩, hI.out.2.rng⟩
      have HBG : Hid (b < wr.heap.size) := by have := hI.out.2.size; have := HR.out.2.1; have := HG.out; have := HBW.out; exact (by omega : b < wr.heap.size)
      go_wp2_with fail
      refine (expected64_any (some ⟨g, 0, none⟩) k n f wr HROW.out.1 (by omega) (by omega) HROW.out.2).mono ?_
      rintro e wd ⟨rfl, m, hwd⟩
      have HL1 : Hid (Ln64 (stB 9223372036854775808 18446744073709551616) w1 wd b (strOf bs) g n k a e1 f) := by rw [hwd]; exact hI.out.2.drewN HBG.out m
      have heM : exS 18446744073709551616 f k < 18446744073709551616 := exS_lt _ _ (by decide) k HROW.out.2
      obtain ⟨E, hE⟩ : ∃ E, exS 18446744073709551616 f k = E := ⟨_, rfl⟩
      rw [hE] at heM ⊢
      have HE := hide hE
      clear hE hwd
      go_wp2_with fail
      refine (hk_zig b 0 (strOf bs) a e1 wd HL1.out.rd).mono ?_
      rintro e w2 ⟨y, a', e2, rfl, hy, T⟩
      obtain ⟨Y, hY', _⟩ := wrapY64 18446744073709551616 (by decide) y 18446744073709551616 rfl
      obtain ⟨x, hX', hx⟩ := wrapY64 18446744073709551616 (by decide) ((E : Int) + (Y : Int)) 18446744073709551616 rfl
      have hY : IntKind.u64.wrap y = (Y : Int) := by rw [IntKind.wrap_u64]; exact hY'
      have hX : IntKind.u64.wrap ((E : Int) + (Y : Int)) = (x : Int) := by rw [IntKind.wrap_u64]; exact hX'
      have HX : Hid ((x : Int) = ((E : Int) + y) % 18446744073709551616) := add_wrap64 18446744073709551616 E y Y x hY' hX'
      clear hX' hY'
      have NX := Ln64.next lays_stride64 hlt HG.out hgb HL1.out x hx T.rd T.only (fun he h r hh hk hr => by
        have h0 := sg_in64 (rsS 18446744073709551616 h k) (rsS_lt _ _ (by decide) k)
        obtain ⟨h1, h2, h3⟩ := T.hit he _ _ h0 hr
        refine ⟨?_, h2, h3⟩
        have h4 := stride_back64 9223372036854775808 18446744073709551616 (by decide) (by decide) f h k hh HROW.out.2 hk 18446744073709551616 rfl
        have h5 := HX.out
        rw [h1, ← HE.out, h4] at h5
        exact Int.ofNat.inj h5)
      have RW := HL1.out.row.ofBlock (T.only.block g HL1.out.size hgb)
      have c2 : w2.cell? ⟨g, k, none⟩ = some (.int .u64 0) := by rw [RW.cell k hlt, if_neg (by omega)]; rfl
      have c3 := RW.fz k
      have HNX := hide NX
      clear NX RW T
      go_wp2_with fail
      go_roundw
      case rel => exact ⟨k + 1, a', e2, _, by simp, hlt, HNX.out⟩
      case measure => simp [intOf]; omega
    · have hk : k = n := by have := hI.out.1; omega
      have hI' : Hid (Ln64 (stB 9223372036854775808 18446744073709551616) w1 wr b (strOf bs) g n n a e1 f) := by have := hI.out.2; rw [hk] at this; exact this
      go_wp2_with fail
      go_ret2
      refine ⟨g, f, ?_, rfl, hI'.out.row, hI'.out.rng, ?_, fun h hB i hi => ?_⟩
      · have := HR.out.2.1; have := HG.out; omega
      · have := hI'.out.only.below (B := w.heap.size) (by have := HBW.out; omega) (by have := HR.out.2.1; omega)
        exact HR.out.2.2.trans this
      · exact (hI'.out.full h (by rw [rb_strOf bs HB.out]; exact hB)).2.2 i hi

end Go.Proofs.YtgjjkopmoobilaaGreatDoor

/- The contracts of code's packers and unpackers (64 bits): which function each kind is laid or taken by. -/
namespace Go.Proofs.YtgjjkopmoobilaaGreatDoor
open Go.RowKit
set_option linter.unusedVariables false
set_option linter.unusedSimpArgs false

/-- The entries of packers. -/
def packersE64 : Array MapEntry := #[{ key := .int .i64 1, val := .func (.func 51) #[] #[], born := 0 }, { key := .int .i64 2, val := .func (.func 52) #[] #[], born := 1 }, { key := .int .i64 3, val := .func (.func 53) #[] #[], born := 2 }, { key := .int .i64 4, val := .func (.func 54) #[] #[], born := 3 }, { key := .int .i64 5, val := .func (.func 55) #[] #[], born := 4 }, { key := .int .i64 6, val := .func (.func 56) #[] #[], born := 5 }]

set_option maxRecDepth 100000 in
theorem packers64_any (w : World) : Calls Tryz.prog 36 #[] w fun e w' => e = .returned (.map (some w.heap.size)) ∧ w'.heap[w.heap.size]? = some (.map packersE64 6) ∧ Below w.heap.size w w' := by
  have b0 := heap_alloc_new w (.map #[] 0)
  have HB : Hid (Below w.heap.size w (w.alloc (.map #[] 0))) := (Below.refl _ w).alloc (Nat.le_refl _) _
  obtain ⟨r, hr⟩ : ∃ r, w.heap.size = r := ⟨_, rfl⟩
  have HR := hide hr
  go_enter Tryz.func36, Tryz.ntmps36
  go_upto_region 1 with fail
  refine wp_region_list ?_
  refine wpList_mkMap _ rfl _ rfl ?_
  rw [hr] at b0 HB ⊢
  clear hr
  generalize w.alloc (.map #[] 0) = w0 at *
  refine wpList_put _ rfl _ _ _ 84 rfl 3 82 Tryz.underlying84 Tryz.underlying3 r 0 _ 1 (.func (.func 51) #[] #[]) rfl rfl rfl b0 (by kernel_rfl) ?_
  intro w1 b1 B1
  have B1 := hide (B1 r (Nat.le_refl _))
  refine wpList_put _ rfl _ _ _ 84 rfl 3 82 Tryz.underlying84 Tryz.underlying3 r 1 _ 2 (.func (.func 52) #[] #[]) rfl rfl rfl b1 (by kernel_rfl) ?_
  intro w2 b2 B2
  have B2 := hide (B2 r (Nat.le_refl _))
  refine wpList_put _ rfl _ _ _ 84 rfl 3 82 Tryz.underlying84 Tryz.underlying3 r 2 _ 3 (.func (.func 53) #[] #[]) rfl rfl rfl b2 (by kernel_rfl) ?_
  intro w3 b3 B3
  have B3 := hide (B3 r (Nat.le_refl _))
  refine wpList_put _ rfl _ _ _ 84 rfl 3 82 Tryz.underlying84 Tryz.underlying3 r 3 _ 4 (.func (.func 54) #[] #[]) rfl rfl rfl b3 (by kernel_rfl) ?_
  intro w4 b4 B4
  have B4 := hide (B4 r (Nat.le_refl _))
  refine wpList_put _ rfl _ _ _ 84 rfl 3 82 Tryz.underlying84 Tryz.underlying3 r 4 _ 5 (.func (.func 55) #[] #[]) rfl rfl rfl b4 (by kernel_rfl) ?_
  intro w5 b5 B5
  have B5 := hide (B5 r (Nat.le_refl _))
  refine wpList_put _ rfl _ _ _ 84 rfl 3 82 Tryz.underlying84 Tryz.underlying3 r 5 _ 6 (.func (.func 56) #[] #[]) rfl rfl rfl b5 (by kernel_rfl) ?_
  intro w6 b6 B6
  have B6 := hide (B6 r (Nat.le_refl _))
  go_wp2_with fail
  go_ret
  exact ⟨by rw [HR.out]; rfl, by rw [HR.out]; exact b6, by rw [HR.out]; exact ((((((HB.out.trans B1.out).trans B2.out).trans B3.out).trans B4.out).trans B5.out).trans B6.out)⟩

/-- The entries of unpackers. -/
def unpackersE64 : Array MapEntry := #[{ key := .int .i64 1, val := .func (.func 39) #[] #[], born := 0 }, { key := .int .i64 2, val := .func (.func 40) #[] #[], born := 1 }, { key := .int .i64 3, val := .func (.func 41) #[] #[], born := 2 }, { key := .int .i64 4, val := .func (.func 42) #[] #[], born := 3 }, { key := .int .i64 5, val := .func (.func 43) #[] #[], born := 4 }, { key := .int .i64 6, val := .func (.func 44) #[] #[], born := 5 }]

set_option maxRecDepth 100000 in
theorem unpackers64_any (w : World) : Calls Tryz.prog 33 #[] w fun e w' => e = .returned (.map (some w.heap.size)) ∧ w'.heap[w.heap.size]? = some (.map unpackersE64 6) ∧ Below w.heap.size w w' := by
  have b0 := heap_alloc_new w (.map #[] 0)
  have HB : Hid (Below w.heap.size w (w.alloc (.map #[] 0))) := (Below.refl _ w).alloc (Nat.le_refl _) _
  obtain ⟨r, hr⟩ : ∃ r, w.heap.size = r := ⟨_, rfl⟩
  have HR := hide hr
  go_enter Tryz.func33, Tryz.ntmps33
  go_upto_region 1 with fail
  refine wp_region_list ?_
  refine wpList_mkMap _ rfl _ rfl ?_
  rw [hr] at b0 HB ⊢
  clear hr
  generalize w.alloc (.map #[] 0) = w0 at *
  refine wpList_put _ rfl _ _ _ 75 rfl 3 73 Tryz.underlying75 Tryz.underlying3 r 0 _ 1 (.func (.func 39) #[] #[]) rfl rfl rfl b0 (by kernel_rfl) ?_
  intro w1 b1 B1
  have B1 := hide (B1 r (Nat.le_refl _))
  refine wpList_put _ rfl _ _ _ 75 rfl 3 73 Tryz.underlying75 Tryz.underlying3 r 1 _ 2 (.func (.func 40) #[] #[]) rfl rfl rfl b1 (by kernel_rfl) ?_
  intro w2 b2 B2
  have B2 := hide (B2 r (Nat.le_refl _))
  refine wpList_put _ rfl _ _ _ 75 rfl 3 73 Tryz.underlying75 Tryz.underlying3 r 2 _ 3 (.func (.func 41) #[] #[]) rfl rfl rfl b2 (by kernel_rfl) ?_
  intro w3 b3 B3
  have B3 := hide (B3 r (Nat.le_refl _))
  refine wpList_put _ rfl _ _ _ 75 rfl 3 73 Tryz.underlying75 Tryz.underlying3 r 3 _ 4 (.func (.func 42) #[] #[]) rfl rfl rfl b3 (by kernel_rfl) ?_
  intro w4 b4 B4
  have B4 := hide (B4 r (Nat.le_refl _))
  refine wpList_put _ rfl _ _ _ 75 rfl 3 73 Tryz.underlying75 Tryz.underlying3 r 4 _ 5 (.func (.func 43) #[] #[]) rfl rfl rfl b4 (by kernel_rfl) ?_
  intro w5 b5 B5
  have B5 := hide (B5 r (Nat.le_refl _))
  refine wpList_put _ rfl _ _ _ 75 rfl 3 73 Tryz.underlying75 Tryz.underlying3 r 5 _ 6 (.func (.func 44) #[] #[]) rfl rfl rfl b5 (by kernel_rfl) ?_
  intro w6 b6 B6
  have B6 := hide (B6 r (Nat.le_refl _))
  go_wp2_with fail
  go_ret
  exact ⟨by rw [HR.out]; rfl, by rw [HR.out]; exact b6, by rw [HR.out]; exact ((((((HB.out.trans B1.out).trans B2.out).trans B3.out).trans B4.out).trans B5.out).trans B6.out)⟩

end Go.Proofs.YtgjjkopmoobilaaGreatDoor

/- The contract of code.Pack (64 bits), of each kind by its packer's. -/
namespace Go.Proofs.YtgjjkopmoobilaaGreatDoor
open Go.RowKit
set_option linter.unusedVariables false
set_option linter.unusedSimpArgs false

set_option maxRecDepth 100000 in
theorem cPack64_none (k : Int) (v : Value) (w : World) (h : k < 1 ∨ 6 < k) :
    Calls Tryz.prog 16 #[.int .i64 k, v] w fun e w' => e = .returned (.tuple #[.slice none 0 0, .int .i64 80]) ∧ Below w.heap.size w w' := by
  have hz : ∀ w1 : World, (zeroValue 82).run Tryz.prog w1 = .ok .nilFunc w1 := fun w1 => by kernel_rfl
  have hf : Instr.findNow (.int .i64) (.int .i64 k) packersE64.toList 0 = some none := by
    have e1 : (k == 1) = false := by rw [beq_eq_false_iff_ne]; omega
    have e2 : (k == 2) = false := by rw [beq_eq_false_iff_ne]; omega
    have e3 : (k == 3) = false := by rw [beq_eq_false_iff_ne]; omega
    have e4 : (k == 4) = false := by rw [beq_eq_false_iff_ne]; omega
    have e5 : (k == 5) = false := by rw [beq_eq_false_iff_ne]; omega
    have e6 : (k == 6) = false := by rw [beq_eq_false_iff_ne]; omega
    simp [packersE64, Instr.findNow, Instr.sameNow, e1, e2, e3, e4, e5, e6]
  go_enter Tryz.func16, Tryz.ntmps16
  go_wp2_with fail
  refine (packers64_any w).mono ?_
  rintro e w1 ⟨rfl, b1, B1⟩
  have hl := run_none (P := Tryz.prog) (w := w1) _ _ _ _ _ _ k _ Tryz.underlying84 Tryz.underlying3 b1 hf (hz _)
  have HB := hide B1
  clear B1 b1 hf hz
  go_wp2_with fail
  go_ret2
  exact ⟨rfl, HB.out⟩

set_option maxRecDepth 100000 in
theorem cPack64_1 (p : Option Addr) (n cap : Nat) (w : World) (h0 : 0 < n) (hn : n ≤ 4096) (Q : Value → Value → World → Prop)
    (hcall : ∀ w1, Below w.heap.size w w1 → Calls Tryz.prog 51 #[.slice p n cap] w1 fun e w' => ∃ b s, e = .returned (.tuple #[b, s]) ∧ Q b s w') :
    Calls Tryz.prog 16 #[.int .i64 1, .slice p n cap] w fun e w' => ∃ b s, e = .returned (.tuple #[b, s]) ∧ Q b s w' := by
  have hf : Instr.findNow (.int .i64) (.int .i64 1) packersE64.toList 0 = some (some (0, .func (.func 51) #[] #[])) := by kernel_rfl
  have hne : ((n : Int) == 0) = false := by rw [beq_eq_false_iff_ne]; omega
  go_enter Tryz.func16, Tryz.ntmps16
  go_wp2_with fail
  refine (packers64_any w).mono ?_
  rintro e w1 ⟨rfl, b1, B1⟩
  have hl := run_get (P := Tryz.prog) (w := w1) _ _ _ _ _ _ 1 _ _ Tryz.underlying84 Tryz.underlying3 b1 hf
  have HB := hide B1
  clear B1 b1 hf
  go_wp2_with fail
  refine (hcall w1 HB.out).mono ?_
  rintro e w2 ⟨b, s, rfl, h⟩
  have HQ := hide h
  clear h
  go_wp2_with fail
  go_ret2
  exact ⟨b, s, rfl, HQ.out⟩

set_option maxRecDepth 100000 in
theorem cPack64_2 (p : Option Addr) (n cap : Nat) (w : World) (h0 : 0 < n) (hn : n ≤ 4096) (Q : Value → Value → World → Prop)
    (hcall : ∀ w1, Below w.heap.size w w1 → Calls Tryz.prog 52 #[.slice p n cap] w1 fun e w' => ∃ b s, e = .returned (.tuple #[b, s]) ∧ Q b s w') :
    Calls Tryz.prog 16 #[.int .i64 2, .slice p n cap] w fun e w' => ∃ b s, e = .returned (.tuple #[b, s]) ∧ Q b s w' := by
  have hf : Instr.findNow (.int .i64) (.int .i64 2) packersE64.toList 0 = some (some (1, .func (.func 52) #[] #[])) := by kernel_rfl
  have hne : ((n : Int) == 0) = false := by rw [beq_eq_false_iff_ne]; omega
  go_enter Tryz.func16, Tryz.ntmps16
  go_wp2_with fail
  refine (packers64_any w).mono ?_
  rintro e w1 ⟨rfl, b1, B1⟩
  have hl := run_get (P := Tryz.prog) (w := w1) _ _ _ _ _ _ 2 _ _ Tryz.underlying84 Tryz.underlying3 b1 hf
  have HB := hide B1
  clear B1 b1 hf
  go_wp2_with fail
  refine (hcall w1 HB.out).mono ?_
  rintro e w2 ⟨b, s, rfl, h⟩
  have HQ := hide h
  clear h
  go_wp2_with fail
  go_ret2
  exact ⟨b, s, rfl, HQ.out⟩

set_option maxRecDepth 100000 in
theorem cPack64_3 (p : Option Addr) (n cap : Nat) (w : World) (h0 : 0 < n) (hn : n ≤ 4096) (Q : Value → Value → World → Prop)
    (hcall : ∀ w1, Below w.heap.size w w1 → Calls Tryz.prog 53 #[.slice p n cap] w1 fun e w' => ∃ b s, e = .returned (.tuple #[b, s]) ∧ Q b s w') :
    Calls Tryz.prog 16 #[.int .i64 3, .slice p n cap] w fun e w' => ∃ b s, e = .returned (.tuple #[b, s]) ∧ Q b s w' := by
  have hf : Instr.findNow (.int .i64) (.int .i64 3) packersE64.toList 0 = some (some (2, .func (.func 53) #[] #[])) := by kernel_rfl
  have hne : ((n : Int) == 0) = false := by rw [beq_eq_false_iff_ne]; omega
  go_enter Tryz.func16, Tryz.ntmps16
  go_wp2_with fail
  refine (packers64_any w).mono ?_
  rintro e w1 ⟨rfl, b1, B1⟩
  have hl := run_get (P := Tryz.prog) (w := w1) _ _ _ _ _ _ 3 _ _ Tryz.underlying84 Tryz.underlying3 b1 hf
  have HB := hide B1
  clear B1 b1 hf
  go_wp2_with fail
  refine (hcall w1 HB.out).mono ?_
  rintro e w2 ⟨b, s, rfl, h⟩
  have HQ := hide h
  clear h
  go_wp2_with fail
  go_ret2
  exact ⟨b, s, rfl, HQ.out⟩

set_option maxRecDepth 100000 in
theorem cPack64_4 (p : Option Addr) (n cap : Nat) (w : World) (h0 : 0 < n) (hn : n ≤ 4096) (Q : Value → Value → World → Prop)
    (hcall : ∀ w1, Below w.heap.size w w1 → Calls Tryz.prog 54 #[.slice p n cap] w1 fun e w' => ∃ b s, e = .returned (.tuple #[b, s]) ∧ Q b s w') :
    Calls Tryz.prog 16 #[.int .i64 4, .slice p n cap] w fun e w' => ∃ b s, e = .returned (.tuple #[b, s]) ∧ Q b s w' := by
  have hf : Instr.findNow (.int .i64) (.int .i64 4) packersE64.toList 0 = some (some (3, .func (.func 54) #[] #[])) := by kernel_rfl
  have hne : ((n : Int) == 0) = false := by rw [beq_eq_false_iff_ne]; omega
  go_enter Tryz.func16, Tryz.ntmps16
  go_wp2_with fail
  refine (packers64_any w).mono ?_
  rintro e w1 ⟨rfl, b1, B1⟩
  have hl := run_get (P := Tryz.prog) (w := w1) _ _ _ _ _ _ 4 _ _ Tryz.underlying84 Tryz.underlying3 b1 hf
  have HB := hide B1
  clear B1 b1 hf
  go_wp2_with fail
  refine (hcall w1 HB.out).mono ?_
  rintro e w2 ⟨b, s, rfl, h⟩
  have HQ := hide h
  clear h
  go_wp2_with fail
  go_ret2
  exact ⟨b, s, rfl, HQ.out⟩

set_option maxRecDepth 100000 in
theorem cPack64_5 (p : Option Addr) (n cap : Nat) (w : World) (h0 : 0 < n) (hn : n ≤ 4096) (Q : Value → Value → World → Prop)
    (hcall : ∀ w1, Below w.heap.size w w1 → Calls Tryz.prog 55 #[.slice p n cap] w1 fun e w' => ∃ b s, e = .returned (.tuple #[b, s]) ∧ Q b s w') :
    Calls Tryz.prog 16 #[.int .i64 5, .slice p n cap] w fun e w' => ∃ b s, e = .returned (.tuple #[b, s]) ∧ Q b s w' := by
  have hf : Instr.findNow (.int .i64) (.int .i64 5) packersE64.toList 0 = some (some (4, .func (.func 55) #[] #[])) := by kernel_rfl
  have hne : ((n : Int) == 0) = false := by rw [beq_eq_false_iff_ne]; omega
  go_enter Tryz.func16, Tryz.ntmps16
  go_wp2_with fail
  refine (packers64_any w).mono ?_
  rintro e w1 ⟨rfl, b1, B1⟩
  have hl := run_get (P := Tryz.prog) (w := w1) _ _ _ _ _ _ 5 _ _ Tryz.underlying84 Tryz.underlying3 b1 hf
  have HB := hide B1
  clear B1 b1 hf
  go_wp2_with fail
  refine (hcall w1 HB.out).mono ?_
  rintro e w2 ⟨b, s, rfl, h⟩
  have HQ := hide h
  clear h
  go_wp2_with fail
  go_ret2
  exact ⟨b, s, rfl, HQ.out⟩

set_option maxRecDepth 100000 in
theorem cPack64_6 (p : Option Addr) (n cap : Nat) (w : World) (h0 : 0 < n) (hn : n ≤ 4096) (Q : Value → Value → World → Prop)
    (hcall : ∀ w1, Below w.heap.size w w1 → Calls Tryz.prog 56 #[.slice p n cap] w1 fun e w' => ∃ b s, e = .returned (.tuple #[b, s]) ∧ Q b s w') :
    Calls Tryz.prog 16 #[.int .i64 6, .slice p n cap] w fun e w' => ∃ b s, e = .returned (.tuple #[b, s]) ∧ Q b s w' := by
  have hf : Instr.findNow (.int .i64) (.int .i64 6) packersE64.toList 0 = some (some (5, .func (.func 56) #[] #[])) := by kernel_rfl
  have hne : ((n : Int) == 0) = false := by rw [beq_eq_false_iff_ne]; omega
  go_enter Tryz.func16, Tryz.ntmps16
  go_wp2_with fail
  refine (packers64_any w).mono ?_
  rintro e w1 ⟨rfl, b1, B1⟩
  have hl := run_get (P := Tryz.prog) (w := w1) _ _ _ _ _ _ 6 _ _ Tryz.underlying84 Tryz.underlying3 b1 hf
  have HB := hide B1
  clear B1 b1 hf
  go_wp2_with fail
  refine (hcall w1 HB.out).mono ?_
  rintro e w2 ⟨b, s, rfl, h⟩
  have HQ := hide h
  clear h
  go_wp2_with fail
  go_ret2
  exact ⟨b, s, rfl, HQ.out⟩

end Go.Proofs.YtgjjkopmoobilaaGreatDoor

namespace Go.Proofs.YtgjjkopmoobilaaGreatDoor
open Go.RowKit
set_option linter.unusedVariables false
set_option linter.unusedSimpArgs false

theorem packersE64_known (k : Nat) (h1 : 1 ≤ k) (h6 : k ≤ 6) : ∃ i v, Instr.findNow (.int .i64) (.int .i64 (k : Int)) packersE64.toList 0 = some (some (i, v)) := by
  obtain rfl | rfl | rfl | rfl | rfl | rfl : k = 1 ∨ k = 2 ∨ k = 3 ∨ k = 4 ∨ k = 5 ∨ k = 6 := by omega
  all_goals exact ⟨_, _, rfl⟩

set_option maxRecDepth 100000 in
theorem cPack64_many (k : Nat) (p : Option Addr) (n cap : Nat) (w : World) (h1 : 1 ≤ k) (h6 : k ≤ 6) (hn : 4096 < n) :
    Calls Tryz.prog 16 #[.int .i64 k, .slice p n cap] w fun e w' => e = .returned (.tuple #[.slice none 0 0, .int .i64 81]) ∧ Below w.heap.size w w' := by
  obtain ⟨i, v, hf⟩ := packersE64_known k h1 h6
  go_enter Tryz.func16, Tryz.ntmps16
  go_wp2_with fail
  refine (packers64_any w).mono ?_
  rintro e w1 ⟨rfl, b1, B1⟩
  have hl := run_get (P := Tryz.prog) (w := w1) _ _ _ _ _ _ k _ _ Tryz.underlying84 Tryz.underlying3 b1 hf
  have HB := hide B1
  clear B1 b1 hf
  go_wp2_with fail
  go_ret2
  exact ⟨rfl, HB.out⟩

set_option maxRecDepth 100000 in
theorem cPack64_empty (k : Nat) (p : Option Addr) (cap : Nat) (w : World) (h1 : 1 ≤ k) (h6 : k ≤ 6) :
    Calls Tryz.prog 16 #[.int .i64 k, .slice p 0 cap] w fun e w' => e = .returned (.tuple #[.slice none 0 0, .int .i64 0]) ∧ Below w.heap.size w w' := by
  obtain ⟨i, v, hf⟩ := packersE64_known k h1 h6
  go_enter Tryz.func16, Tryz.ntmps16
  go_wp2_with fail
  refine (packers64_any w).mono ?_
  rintro e w1 ⟨rfl, b1, B1⟩
  have hl := run_get (P := Tryz.prog) (w := w1) _ _ _ _ _ _ k _ _ Tryz.underlying84 Tryz.underlying3 b1 hf
  have HB := hide B1
  clear B1 b1 hf
  go_wp2_with fail
  go_ret2
  exact ⟨rfl, HB.out⟩

end Go.Proofs.YtgjjkopmoobilaaGreatDoor

/- The contracts of code's packers and unpackers (32 bits): which function each kind is laid or taken by. -/
import Derived.Test.YtlemodcppokjhaaGreatDoorRD
import Derived.Test.YtlemodcppokjhaaGreatDoorC1B32
import Derived.Test.YtlemodcppokjhaaGreatDoorB1I
import Derived.Test.YtlemodcppokjhaaGreatDoorP1Q32
import Derived.Test.YtlemodcppokjhaaGreatDoorC2A
import Derived.Test.YtlemodcppokjhaaGreatDoorC2I
import Derived.Test.YtlemodcppokjhaaGreatDoorP1A
import Derived.Deep.Cut
import Derived.Deep.RegionHeld3
import Derived.Great.Walk
/- The contract of Stride's packing (32 bits). -/
namespace Go.Proofs.YtlemodcppokjhaaGreatDoor
open Go.RowKit
open M
set_option linter.unusedVariables false
set_option linter.unusedSimpArgs false

theorem stB_len32 (H M : Nat) (f : Nat → Nat) (n : Nat) : (stB H M f n).length ≤ 80 * n := by
  induction n with
  | zero => simp [stB]
  | succ n ih =>
    rw [stB, List.length_append]
    have := (groups_len 9 (zig (sgW H M (rsS M f n)))).2.2
    have e : (varB (zig (sgW H M (rsS M f n)))).length = (groups 9 (zig (sgW H M (rsS M f n)))).length := rfl
    omega

set_option maxRecDepth 100000 in
set_option maxHeartbeats 1000000 in
theorem packStride32_any (p : Option Addr) (n cap : Nat) (f : Nat → Nat) (w : World) (h : URow32 w p n f) (hn : n ≤ 4096) (hcap : n ≤ cap) (hf : ∀ i, i < n → f i < 4294967296) :
    Calls Tryz.prog 61 #[.slice p n cap] w (RowEnd32 (stB 2147483648 4294967296 f n) w) := by
  have H := hide h
  have HF := hide hf
  obtain ⟨g, hg⟩ : ∃ g, g = w.heap.size := ⟨_, rfl⟩
  obtain ⟨W1, hW1⟩ : ∃ W1, W1 = w.alloc (.cells zW 125) := ⟨_, rfl⟩
  have HM : Hid (Wr W1 (g + 1) g 0 [] 0 ∧ g + 1 ≤ W1.heap.size ∧ Below w.heap.size w W1 ∧ URow32 W1 p n f) := by
    have B1 : Below w.heap.size w W1 := by rw [hW1]; exact (Below.refl _ w).alloc (Nat.le_refl _) _
    refine ⟨?_, by rw [hW1, hg]; simp, B1, h.below B1⟩
    rw [hg, hW1]; exact wr_of (heap_alloc_new w _)
  have HP : Hid (∀ a, p = some a → 0 < n → a.block < g) := fun a ha h0 => by
    obtain ⟨b, o, hp, hc⟩ := H.out h0
    rw [hp] at ha
    simp only [Option.some.injEq] at ha
    rw [← ha, hg]
    exact block_lt_of_cell (hc 0 h0)
  have HG := hide hg
  clear h hf
  go_enter Tryz.func61, Tryz.ntmps61
  go_upto_region 1 with fail
  refine wp_region_list ?_
  refine wpList_build rfl 125 #[] rfl (by kernel_rfl) ?_
  simp only [Array.map_empty]
  rw [zW_built]
  refine Go.Great.wpList_boxTo rfl 125 (.tmp 7) rfl (some 8) rfl g hg.symm zW rfl ?_
  rw [← hW1]
  clear hW1 hg
  go_wp2_with fail
  go_loopw [11] (fun t11 wr => ∃ k : Nat, t11 = .int .i64 (k : Int) ∧ Hid (k ≤ n ∧ Wr wr (g + 1) g 0 (stB 2147483648 4294967296 f k) 0 ∧ Only g 0 123 W1 wr)) (fun t11 _ => n - (intOf t11).toNat)
  case atStart => exact ⟨0, rfl, Nat.zero_le _, HM.out.1, Only.refl _ _ _ _⟩
  case round =>
    obtain ⟨k, rfl, hI⟩ := hrel
    by_cases hlt : k < n
    · obtain ⟨rb0, ro, rfl, hc⟩ := HM.out.2.2.2 (by omega)
      have hrb : rb0 < g := HP.out _ rfl (by omega)
      obtain ⟨v, hv⟩ : ∃ v, f k = v := ⟨_, rfl⟩
      have hs1 := HM.out.2.1
      have c1 : wr.cell? ⟨rb0, ro + k, none⟩ = some (.int .u32 (v : Int)) := by
        rw [World.cell?_of_block (w := W1) (hI.out.2.2.block rb0 (by omega) (by omega)), ← hv]
        exact hc k hlt
      have hvM : v < 4294967296 := by rw [← hv]; exact HF.out k hlt
      have HV := hide hv
      clear hv hc hs1
      go_wp2_with fail
      refine (expected32_any (some ⟨rb0, ro, none⟩) k cap f wr (fun _ => ⟨rb0, ro, rfl, fun i hi => ?_⟩) (by omega) (by omega) (fun i hi => HF.out i (by omega))).mono ?_
      · rw [World.cell?_of_block (w := W1) (hI.out.2.2.block rb0 (by have := HM.out.2.1; omega) (by omega))]
        obtain ⟨rb1, ro1, hp1, hc1⟩ := HM.out.2.2.2 (by omega)
        simp only [Option.some.injEq, Addr.mk.injEq] at hp1
        obtain ⟨rfl, rfl, _⟩ := hp1
        exact hc1 i (by omega)
      rintro e wd ⟨rfl, m, hwd⟩
      have heM : exS 4294967296 f k < 4294967296 := exS_lt _ _ (by omega) k fun j hj => HF.out j (by omega)
      obtain ⟨E, hE⟩ : ∃ E, exS 4294967296 f k = E := ⟨_, rfl⟩
      have hr : IntKind.u32.wrap ((v : Int) - (E : Int)) = (((v + 4294967296 - E) % 4294967296 : Nat) : Int) := by rw [IntKind.wrap_u32]; omega
      rw [hE] at heM ⊢
      obtain ⟨X, hX⟩ : ∃ X, (v + 4294967296 - E) % 4294967296 = X := ⟨_, rfl⟩
      have hXM : X < 4294967296 := by rw [← hX]; exact Nat.mod_lt _ (by omega)
      rw [hX] at hr
      have HE := hide (And.intro hE hX)
      have HD : Hid (Wr wd (g + 1) g 0 (stB 2147483648 4294967296 f k) 0 ∧ Only g 0 123 W1 wd ∧ g + 1 ≤ wd.heap.size) := by
        rw [hwd]
        exact ⟨hI.out.2.1.below (w' := wr.drewN m) ⟨rfl, rfl, rfl, Nat.le_refl _, fun _ _ => rfl⟩, ⟨hI.out.2.2.os, hI.out.2.2.tape, hI.out.2.2.output, hI.out.2.2.size, hI.out.2.2.block, hI.out.2.2.cell, hI.out.2.2.frozen⟩, Nat.le_trans HM.out.2.1 hI.out.2.2.size⟩
      clear hE hX hwd
      go_wp2_with fail
      refine (signed32_any X wd hXM).mono ?_
      rintro e ws ⟨rfl, rfl⟩
      have hsr := sgW_range 2147483648 4294967296 X (by omega) hXM
      go_wp2_with fail
      refine (wzig_any g 0 (g + 1) _ _ _ HD.out.1 (by omega) HD.out.2.2 (by have := stB_len32 2147483648 4294967296 f k; omega) (by omega) (by omega)).mono ?_
      rintro e w3 ⟨rfl, W3, O3⟩
      go_wp2_with fail
      go_roundw
      case rel =>
        refine ⟨k + 1, by simp, hlt, ?_, HD.out.2.1.trans O3⟩
        rw [stB, rsS, HV.out, HE.out.1, HE.out.2]; exact W3
      case measure => simp [intOf]; omega
    · have hk : k = n := by have := hI.out.1; omega
      go_wp2_with fail
      refine (wdone_packed g 0 (g + 1) wr _ hI.out.2.1 (Nat.le_trans HM.out.2.1 hI.out.2.2.size) (by have := stB_len32 2147483648 4294967296 f k; omega) _ rfl).mono ?_
      rintro e w3 ⟨rfl, G3, B3⟩
      go_wp2_with fail
      go_ret2
      have e3 := HM.out.2.2.1
      have e4 := HG.out
      have e5 := hI.out.2.2.below (B := w.heap.size) (by omega) (by have := e3.size; omega)
      refine ⟨wr.heap.size, ((stB 2147483648 4294967296 f n).length + 7) / 8, (packed_length _).symm, ?_, rfl, (by first | exact G3 | (rw [hk] at G3; exact G3)), ?_⟩
      · have := e5.size; have := e3.size; omega
      · exact (e3.trans e5).trans (B3.mono (by have := e5.size; have := e3.size; omega))

end Go.Proofs.YtlemodcppokjhaaGreatDoor

/- The contract of Stride's unpacking (32 bits). -/
namespace Go.Proofs.YtlemodcppokjhaaGreatDoor
open Go.RowKit
open M
set_option linter.unusedVariables false
set_option linter.unusedSimpArgs false

theorem wrapY32 (m : Nat) (hm : 0 < m) (y k : Int) (hk : (m : Int) = k) : ∃ Y : Nat, y % k = (Y : Int) ∧ Y < m := by
  subst hk
  have h1 := Int.emod_nonneg y (b := (m : Int)) (by omega)
  have h2 := Int.emod_lt_of_pos y (b := (m : Int)) (by omega)
  generalize y % (m : Int) = z at *
  exact ⟨z.toNat, (Int.toNat_of_nonneg h1).symm, by omega⟩

theorem add_wrap32 (m E y Y x : Int) (h2 : y % m = Y) (h1 : (E + Y) % m = x) : x = (E + y) % m := by rw [← h1, ← h2, Int.add_emod_emod]

theorem stride_back32 (H M : Nat) (hM : M = 2 * H) (hH : 0 < H) (f h : Nat → Nat) (k : Nat) (hf : ∀ i, i < k → f i = h i) (hr : ∀ i, i < k → f i < M) (hk : h k < M) (m : Int) (hm : (M : Int) = m) : ((exS M f k : Int) + sgW H M (rsS M h k)) % m = (h k : Int) := by
  subst hm
  have e1 := exS_congr M f h k hf
  have e2 := sgW_mod H M (rsS M h k) hM (rsS_lt M h (by omega) k)
  have e3 := rsS_back M h (by omega) k fun j hj => by
    by_cases e : j = k
    · rw [e]; exact hk
    · rw [← hf j (by omega)]; exact hr j (by omega)
  rw [← Int.add_emod_emod, e2, e1, ← e3]
  simp

theorem sg_in32 (x : Nat) (hx : x < 4294967296) : -9223372036854775808 ≤ sgW 2147483648 4294967296 x ∧ sgW 2147483648 4294967296 x ≤ 9223372036854775807 := by
  unfold sgW; split <;> omega

theorem lays_stride32 : Lays32 (stB 2147483648 4294967296) (fun h k => varB (zig (sgW 2147483648 4294967296 (rsS 4294967296 h k)))) := ⟨fun h => rfl, fun h k => rfl⟩

theorem Ln32.drewN {bf : (Nat → Nat) → Nat → List Bool} {w wr : World} {b : Nat} {s : ByteArray} {g n k a : Nat} {e1 : Int} {f : Nat → Nat} (T : Ln32 bf w wr b s g n k a e1 f) (hb : b < wr.heap.size) (m : Nat) : Ln32 bf w (wr.drewN m) b s g n k a e1 f :=
  ⟨T.row.ofBlock rfl, T.rd.below (w' := wr.drewN m) ⟨rfl, rfl, rfl, Nat.le_refl _, fun _ _ => rfl⟩ hb, ⟨T.only.os, T.only.tape, T.only.output, T.only.size, T.only.block, T.only.cell, T.only.frozen⟩, T.size, T.rng, T.full⟩

set_option maxRecDepth 100000 in
set_option maxHeartbeats 1000000 in
theorem unpackStride32_any (v : Value) (bs : List Nat) (n : Nat) (w : World) (h : IsBy w v bs) (hb : ∀ n ∈ bs, n < 256) (hl : bs.length ≤ 1000000000000) (hn : n ≤ 4096) :
    Calls Tryz.prog 49 #[v, .int .i64 n] w (ValsEnd32 (stB 2147483648 4294967296) bs n w) := by
  have H := hide h
  have HB := hide hb
  have HL := hide hl
  have hmk := make_vals32 n hn
  clear h hb hl
  go_enter Tryz.func49, Tryz.ntmps49
  go_wp2_with fail
  refine (from_by w v bs H.out).mono ?_
  rintro e w1 ⟨rfl, hw1⟩
  have HR : Hid (Rd w1 w.heap.size 0 (strOf bs) 0 0 ∧ w1.heap.size = w.heap.size + 1 ∧ Below w.heap.size w w1) := by
    rw [hw1]; exact ⟨rd_new w bs HL.out, by simp, (Below.refl _ _).alloc (Nat.le_refl _) _⟩
  clear hw1
  obtain ⟨b, hbw⟩ : ∃ b, w.heap.size = b := ⟨_, rfl⟩
  have HBW := hide hbw
  obtain ⟨g, hg⟩ : ∃ g, w1.heap.size = g := ⟨_, rfl⟩
  have HA : Hid (Ln32 (stB 2147483648 4294967296) w1 (w1.alloc (.cells (Array.replicate n (Value.int .u32 0)) 42)) b (strOf bs) g n 0 0 0 (fun _ => 0)) := by
    have hA : Below w1.heap.size w1 (w1.alloc (.cells (Array.replicate n (Value.int .u32 0)) 42)) := (Below.refl _ w1).alloc (Nat.le_refl _) _
    have hbs : b < w1.heap.size := by have := HR.out.2.1; omega
    refine ⟨by rw [← hg]; exact UW32.new w1 n _, by rw [← hbw]; exact HR.out.1.below hA (by omega), ⟨hA.os, hA.tape, hA.output, hA.size, fun k hk _ => hA.block k hk, fun j _ => World.cell?_of_block (hA.block b hbs), fun j => World.frozen?_of_block (w := w1) (a := ⟨b, j, none⟩) (hA.block b hbs)⟩, by rw [← hg]; simp, fun i hi => by omega, fun h hB => ⟨rfl, by simp [stB], fun i hi => by omega⟩⟩
  have hgb : g ≠ b := by have := HR.out.2.1; omega
  have HG : Hid (w1.heap.size ≤ g) := Nat.le_of_eq hg
  rw [hbw]
  clear hbw
  go_upto_region 3 with fail
  (try rw [hg])
  clear hg hmk
  generalize w1.alloc (.cells (Array.replicate n (Value.int .u32 0)) 42) = W0 at *
  go_wp2_with fail
  go_loopw [15] (fun t15 wr => ∃ (k a : Nat) (e1 : Int) (f : Nat → Nat), t15 = .int .i64 (k : Int) ∧ Hid (k ≤ n ∧ Ln32 (stB 2147483648 4294967296) w1 wr b (strOf bs) g n k a e1 f)) (fun t15 _ => n - (intOf t15).toNat)
  case atStart => exact ⟨0, 0, 0, _, rfl, Nat.zero_le _, HA.out⟩
  case round =>
    obtain ⟨k, a, e1, f, rfl, hI⟩ := hrel
    by_cases hlt : k < n
    · have HROW : Hid (URow32 wr (some ⟨g, 0, none⟩) k f ∧ ∀ i, i < k → f i < 4294967296) := ⟨fun _ => ⟨g, 0, rfl, fun i hi => by rw [Nat.zero_add, hI.out.2.row.cell i (by omega), if_pos hi]⟩, hI.out.2.rng⟩
      have HBG : Hid (b < wr.heap.size) := by have := hI.out.2.size; have := HR.out.2.1; have := HG.out; have := HBW.out; exact (by omega : b < wr.heap.size)
      go_wp2_with fail
      refine (expected32_any (some ⟨g, 0, none⟩) k n f wr HROW.out.1 (by omega) (by omega) HROW.out.2).mono ?_
      rintro e wd ⟨rfl, m, hwd⟩
      have HL1 : Hid (Ln32 (stB 2147483648 4294967296) w1 wd b (strOf bs) g n k a e1 f) := by rw [hwd]; exact hI.out.2.drewN HBG.out m
      have heM : exS 4294967296 f k < 4294967296 := exS_lt _ _ (by decide) k HROW.out.2
      obtain ⟨E, hE⟩ : ∃ E, exS 4294967296 f k = E := ⟨_, rfl⟩
      rw [hE] at heM ⊢
      have HE := hide hE
      clear hE hwd
      go_wp2_with fail
      refine (hk_zig b 0 (strOf bs) a e1 wd HL1.out.rd).mono ?_
      rintro e w2 ⟨y, a', e2, rfl, hy, T⟩
      obtain ⟨Y, hY', _⟩ := wrapY32 4294967296 (by decide) y 4294967296 rfl
      obtain ⟨x, hX', hx⟩ := wrapY32 4294967296 (by decide) ((E : Int) + (Y : Int)) 4294967296 rfl
      have hY : IntKind.u32.wrap y = (Y : Int) := by rw [IntKind.wrap_u32]; exact hY'
      have hX : IntKind.u32.wrap ((E : Int) + (Y : Int)) = (x : Int) := by rw [IntKind.wrap_u32]; exact hX'
      have HX : Hid ((x : Int) = ((E : Int) + y) % 4294967296) := add_wrap32 4294967296 E y Y x hY' hX'
      clear hX' hY'
      have NX := Ln32.next lays_stride32 hlt HG.out hgb HL1.out x hx T.rd T.only (fun he h r hh hk hr => by
        have h0 := sg_in32 (rsS 4294967296 h k) (rsS_lt _ _ (by decide) k)
        obtain ⟨h1, h2, h3⟩ := T.hit he _ _ h0 hr
        refine ⟨?_, h2, h3⟩
        have h4 := stride_back32 2147483648 4294967296 (by decide) (by decide) f h k hh HROW.out.2 hk 4294967296 rfl
        have h5 := HX.out
        rw [h1, ← HE.out, h4] at h5
        exact Int.ofNat.inj h5)
      have RW := HL1.out.row.ofBlock (T.only.block g HL1.out.size hgb)
      have c2 : w2.cell? ⟨g, k, none⟩ = some (.int .u32 0) := by rw [RW.cell k hlt, if_neg (by omega)]; rfl
      have c3 := RW.fz k
      have HNX := hide NX
      clear NX RW T
      go_wp2_with fail
      go_roundw
      case rel => exact ⟨k + 1, a', e2, _, by simp, hlt, HNX.out⟩
      case measure => simp [intOf]; omega
    · have hk : k = n := by have := hI.out.1; omega
      have hI' : Hid (Ln32 (stB 2147483648 4294967296) w1 wr b (strOf bs) g n n a e1 f) := by have := hI.out.2; rw [hk] at this; exact this
      go_wp2_with fail
      go_ret2
      refine ⟨g, f, ?_, rfl, hI'.out.row, hI'.out.rng, ?_, fun h hB i hi => ?_⟩
      · have := HR.out.2.1; have := HG.out; omega
      · have := hI'.out.only.below (B := w.heap.size) (by have := HBW.out; omega) (by have := HR.out.2.1; omega)
        exact HR.out.2.2.trans this
      · exact (hI'.out.full h (by rw [rb_strOf bs HB.out]; exact hB)).2.2 i hi

end Go.Proofs.YtlemodcppokjhaaGreatDoor

namespace Go.Proofs.YtlemodcppokjhaaGreatDoor
open Go.RowKit
set_option linter.unusedVariables false
set_option linter.unusedSimpArgs false

/-- The entries of packers. -/
def packersE32 : Array MapEntry := #[{ key := .int .i64 1, val := .func (.func 57) #[] #[], born := 0 }, { key := .int .i64 2, val := .func (.func 58) #[] #[], born := 1 }, { key := .int .i64 3, val := .func (.func 59) #[] #[], born := 2 }, { key := .int .i64 4, val := .func (.func 60) #[] #[], born := 3 }, { key := .int .i64 5, val := .func (.func 61) #[] #[], born := 4 }, { key := .int .i64 6, val := .func (.func 62) #[] #[], born := 5 }]

set_option maxRecDepth 100000 in
theorem packers32_any (w : World) : Calls Tryz.prog 37 #[] w fun e w' => e = .returned (.map (some w.heap.size)) ∧ w'.heap[w.heap.size]? = some (.map packersE32 6) ∧ Below w.heap.size w w' := by
  have b0 := heap_alloc_new w (.map #[] 0)
  have HB : Hid (Below w.heap.size w (w.alloc (.map #[] 0))) := (Below.refl _ w).alloc (Nat.le_refl _) _
  obtain ⟨r, hr⟩ : ∃ r, w.heap.size = r := ⟨_, rfl⟩
  have HR := hide hr
  go_enter Tryz.func37, Tryz.ntmps37
  go_upto_region 1 with fail
  refine wp_region_list ?_
  refine wpList_mkMap _ rfl _ rfl ?_
  rw [hr] at b0 HB ⊢
  clear hr
  generalize w.alloc (.map #[] 0) = w0 at *
  refine wpList_put _ rfl _ _ _ 88 rfl 3 86 Tryz.underlying88 Tryz.underlying3 r 0 _ 1 (.func (.func 57) #[] #[]) rfl rfl rfl b0 (by kernel_rfl) ?_
  intro w1 b1 B1
  have B1 := hide (B1 r (Nat.le_refl _))
  refine wpList_put _ rfl _ _ _ 88 rfl 3 86 Tryz.underlying88 Tryz.underlying3 r 1 _ 2 (.func (.func 58) #[] #[]) rfl rfl rfl b1 (by kernel_rfl) ?_
  intro w2 b2 B2
  have B2 := hide (B2 r (Nat.le_refl _))
  refine wpList_put _ rfl _ _ _ 88 rfl 3 86 Tryz.underlying88 Tryz.underlying3 r 2 _ 3 (.func (.func 59) #[] #[]) rfl rfl rfl b2 (by kernel_rfl) ?_
  intro w3 b3 B3
  have B3 := hide (B3 r (Nat.le_refl _))
  refine wpList_put _ rfl _ _ _ 88 rfl 3 86 Tryz.underlying88 Tryz.underlying3 r 3 _ 4 (.func (.func 60) #[] #[]) rfl rfl rfl b3 (by kernel_rfl) ?_
  intro w4 b4 B4
  have B4 := hide (B4 r (Nat.le_refl _))
  refine wpList_put _ rfl _ _ _ 88 rfl 3 86 Tryz.underlying88 Tryz.underlying3 r 4 _ 5 (.func (.func 61) #[] #[]) rfl rfl rfl b4 (by kernel_rfl) ?_
  intro w5 b5 B5
  have B5 := hide (B5 r (Nat.le_refl _))
  refine wpList_put _ rfl _ _ _ 88 rfl 3 86 Tryz.underlying88 Tryz.underlying3 r 5 _ 6 (.func (.func 62) #[] #[]) rfl rfl rfl b5 (by kernel_rfl) ?_
  intro w6 b6 B6
  have B6 := hide (B6 r (Nat.le_refl _))
  go_wp2_with fail
  go_ret
  exact ⟨by rw [HR.out]; rfl, by rw [HR.out]; exact b6, by rw [HR.out]; exact ((((((HB.out.trans B1.out).trans B2.out).trans B3.out).trans B4.out).trans B5.out).trans B6.out)⟩

/-- The entries of unpackers. -/
def unpackersE32 : Array MapEntry := #[{ key := .int .i64 1, val := .func (.func 45) #[] #[], born := 0 }, { key := .int .i64 2, val := .func (.func 46) #[] #[], born := 1 }, { key := .int .i64 3, val := .func (.func 47) #[] #[], born := 2 }, { key := .int .i64 4, val := .func (.func 48) #[] #[], born := 3 }, { key := .int .i64 5, val := .func (.func 49) #[] #[], born := 4 }, { key := .int .i64 6, val := .func (.func 50) #[] #[], born := 5 }]

set_option maxRecDepth 100000 in
theorem unpackers32_any (w : World) : Calls Tryz.prog 35 #[] w fun e w' => e = .returned (.map (some w.heap.size)) ∧ w'.heap[w.heap.size]? = some (.map unpackersE32 6) ∧ Below w.heap.size w w' := by
  have b0 := heap_alloc_new w (.map #[] 0)
  have HB : Hid (Below w.heap.size w (w.alloc (.map #[] 0))) := (Below.refl _ w).alloc (Nat.le_refl _) _
  obtain ⟨r, hr⟩ : ∃ r, w.heap.size = r := ⟨_, rfl⟩
  have HR := hide hr
  go_enter Tryz.func35, Tryz.ntmps35
  go_upto_region 1 with fail
  refine wp_region_list ?_
  refine wpList_mkMap _ rfl _ rfl ?_
  rw [hr] at b0 HB ⊢
  clear hr
  generalize w.alloc (.map #[] 0) = w0 at *
  refine wpList_put _ rfl _ _ _ 80 rfl 3 78 Tryz.underlying80 Tryz.underlying3 r 0 _ 1 (.func (.func 45) #[] #[]) rfl rfl rfl b0 (by kernel_rfl) ?_
  intro w1 b1 B1
  have B1 := hide (B1 r (Nat.le_refl _))
  refine wpList_put _ rfl _ _ _ 80 rfl 3 78 Tryz.underlying80 Tryz.underlying3 r 1 _ 2 (.func (.func 46) #[] #[]) rfl rfl rfl b1 (by kernel_rfl) ?_
  intro w2 b2 B2
  have B2 := hide (B2 r (Nat.le_refl _))
  refine wpList_put _ rfl _ _ _ 80 rfl 3 78 Tryz.underlying80 Tryz.underlying3 r 2 _ 3 (.func (.func 47) #[] #[]) rfl rfl rfl b2 (by kernel_rfl) ?_
  intro w3 b3 B3
  have B3 := hide (B3 r (Nat.le_refl _))
  refine wpList_put _ rfl _ _ _ 80 rfl 3 78 Tryz.underlying80 Tryz.underlying3 r 3 _ 4 (.func (.func 48) #[] #[]) rfl rfl rfl b3 (by kernel_rfl) ?_
  intro w4 b4 B4
  have B4 := hide (B4 r (Nat.le_refl _))
  refine wpList_put _ rfl _ _ _ 80 rfl 3 78 Tryz.underlying80 Tryz.underlying3 r 4 _ 5 (.func (.func 49) #[] #[]) rfl rfl rfl b4 (by kernel_rfl) ?_
  intro w5 b5 B5
  have B5 := hide (B5 r (Nat.le_refl _))
  refine wpList_put _ rfl _ _ _ 80 rfl 3 78 Tryz.underlying80 Tryz.underlying3 r 5 _ 6 (.func (.func 50) #[] #[]) rfl rfl rfl b5 (by kernel_rfl) ?_
  intro w6 b6 B6
  have B6 := hide (B6 r (Nat.le_refl _))
  go_wp2_with fail
  go_ret
  exact ⟨by rw [HR.out]; rfl, by rw [HR.out]; exact b6, by rw [HR.out]; exact ((((((HB.out.trans B1.out).trans B2.out).trans B3.out).trans B4.out).trans B5.out).trans B6.out)⟩

end Go.Proofs.YtlemodcppokjhaaGreatDoor

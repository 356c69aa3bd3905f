/- The document's times: rising, Pack. -/
import Derived.Test.YtangjkhflgkkdaaGreatT1O
import Derived.Test.YtangjkhflgkkdaaGreatB1We
/- The document's times: rising, lay, Pack. -/
namespace Go.Proofs.YtangjkhflgkkdaaGreat
open Go.RowKit
open M
set_option linter.unusedVariables false

set_option maxRecDepth 100000 in
set_option maxHeartbeats 1000000 in
theorem rlay_any (b off : Nat) (r : Option Nat) (l : List Bool) (u : Nat) (w : World) (h : Rw w b off r l 0) (hlen : l.length + 100 < 100000000) (hu : u < 18446744073709551616) :
    Calls Tryz.prog 34 #[.pointer (some ⟨b, off, none⟩), .int .u64 u] w fun e w' => e = .returned (.tuple #[]) ∧ RwPost w b off r (l ++ zb u) w' := by
  have HW := hide h
  have HL := hide hlen
  have HU := hide hu
  clear h hlen
  have two : Hid (∀ (a k c m : Nat) (w1 : World), RwPost w b off r (l ++ bitsOf a k) w1 → k ≤ 8 → m ≤ 64 → c < 18446744073709551616 → c < 2 ^ m → zb u = bitsOf a k ++ bitsOf c m → Calls Tryz.prog 33 #[.pointer (some ⟨b, off, none⟩), .int .u64 (c : Nat), .int .i64 (m : Nat)] w1 fun e w' => e = .returned (.tuple #[]) ∧ RwPost w b off r (l ++ zb u) w') := by
    intro a k c m w1 ⟨r1, R1, S1, O1⟩ hk hm hc hf hz
    refine (refbits_any b off r1 _ c m w1 R1 (by have := HL.out; simp; omega) hm hc hf).mono ?_
    rintro e w2 ⟨rfl, P2⟩
    refine ⟨rfl, ?_⟩
    rw [hz, ← List.append_assoc]
    exact RwPost.then S1 O1 P2
  by_cases c1 : u = 0
  · have HZ := hide zb_0
    subst c1
    go_enter Tryz.func34, Tryz.ntmps34
    go_wp2_with fail
    refine (refbits_any b off r l 0 1 w HW.out (by have := HL.out; omega) (by omega) (by omega) (by omega)).mono ?_
    rintro e w1 ⟨rfl, P1⟩
    go_wp2_with fail
    go_end0
    exact ⟨rfl, by rw [HZ.out]; exact P1⟩
  have c1' : ((u : Int) == 0) = false := by rw [beq_eq_false_iff_ne]; omega
  by_cases c2 : u ≤ 128
  · have HZ := hide (zb_1 u (by omega) c2)
    have k1 : decide ((u : Int) ≤ 128) = true := by rw [decide_eq_true_iff]; omega
    have e1 : ((u : Int) - 1) = ((u - 1 : Nat) : Int) := by omega
    go_enter Tryz.func34, Tryz.ntmps34
    go_wp2_with fail
    refine (refbits_any b off r l 2 2 w HW.out (by have := HL.out; omega) (by omega) (by omega) (by omega)).mono ?_
    rintro e w1 ⟨rfl, P1⟩
    go_wp2_with fail
    refine (two.out 2 2 (u - 1) 7 w1 P1 (by omega) (by omega) (by omega) (by omega) (by rw [HZ.out]; rfl)).mono ?_
    rintro e w2 ⟨rfl, P2⟩
    go_wp2_with fail
    go_end0
    exact ⟨rfl, P2⟩
  by_cases c3 : u ≤ 4224
  · have HZ := hide (zb_2 u (by omega) c3)
    have k1 : decide ((u : Int) ≤ 128) = false := by rw [decide_eq_false_iff_not]; omega
    have k2 : decide ((u : Int) ≤ 4224) = true := by rw [decide_eq_true_iff]; omega
    have e1 : ((u : Int) - 129) = ((u - 129 : Nat) : Int) := by omega
    go_enter Tryz.func34, Tryz.ntmps34
    go_wp2_with fail
    refine (refbits_any b off r l 6 3 w HW.out (by have := HL.out; omega) (by omega) (by omega) (by omega)).mono ?_
    rintro e w1 ⟨rfl, P1⟩
    go_wp2_with fail
    refine (two.out 6 3 (u - 129) 12 w1 P1 (by omega) (by omega) (by omega) (by omega) (by rw [HZ.out]; rfl)).mono ?_
    rintro e w2 ⟨rfl, P2⟩
    go_wp2_with fail
    go_end0
    exact ⟨rfl, P2⟩
  by_cases c4 : u ≤ 1052800
  · have HZ := hide (zb_3 u (by omega) c4)
    have k1 : decide ((u : Int) ≤ 128) = false := by rw [decide_eq_false_iff_not]; omega
    have k2 : decide ((u : Int) ≤ 4224) = false := by rw [decide_eq_false_iff_not]; omega
    have k3 : decide ((u : Int) ≤ 1052800) = true := by rw [decide_eq_true_iff]; omega
    have e1 : ((u : Int) - 4225) = ((u - 4225 : Nat) : Int) := by omega
    have C4 := hide (And.intro c3 c4)
    clear c4 c3 c2
    go_enter Tryz.func34, Tryz.ntmps34
    go_wp2_with fail
    refine (refbits_any b off r l 14 4 w HW.out (by have := HL.out; omega) (by omega) (by omega) (by omega)).mono ?_
    rintro e w1 ⟨rfl, P1⟩
    go_wp2_with fail
    refine (two.out 14 4 (u - 4225) 20 w1 P1 (by omega) (by omega) (by have := C4.out; omega) (by have := C4.out; omega) (by rw [HZ.out]; rfl)).mono ?_
    rintro e w2 ⟨rfl, P2⟩
    go_wp2_with fail
    go_end0
    exact ⟨rfl, P2⟩
  · have HZ := hide (zb_4 u (by omega))
    have k1 : decide ((u : Int) ≤ 128) = false := by rw [decide_eq_false_iff_not]; omega
    have k2 : decide ((u : Int) ≤ 4224) = false := by rw [decide_eq_false_iff_not]; omega
    have k3 : decide ((u : Int) ≤ 1052800) = false := by rw [decide_eq_false_iff_not]; omega
    clear c4 c3 c2
    go_enter Tryz.func34, Tryz.ntmps34
    go_wp2_with fail
    refine (refbits_any b off r l 15 4 w HW.out (by have := HL.out; omega) (by omega) (by omega) (by omega)).mono ?_
    rintro e w1 ⟨rfl, P1⟩
    go_wp2_with fail
    refine (two.out 15 4 u 64 w1 P1 (by omega) (by omega) HU.out (by have := HU.out; omega) (by rw [HZ.out]; rfl)).mono ?_
    rintro e w2 ⟨rfl, P2⟩
    go_wp2_with fail
    go_end0
    exact ⟨rfl, P2⟩

end Go.Proofs.YtangjkhflgkkdaaGreat

namespace Go.Proofs.YtangjkhflgkkdaaGreat
open Go.RowKit
open M
set_option linter.unusedVariables false

set_option maxHeartbeats 1000000 in
theorem rrising_any (p : Option Addr) (n cap : Nat) (f : Nat → Int) (w : World) (h : TRow w p n f) (hn : n ≤ 281474976710656) :
    Calls Tryz.prog 32 #[.slice p n cap] w (Says (Rises f n) w) := by
  have H := hide h
  clear h
  go_enter Tryz.func32, Tryz.ntmps32
  go_wp2_with fail
  go_loopw [3] (fun i wr => ∃ k : Nat, Hid (∀ j, j < k → f j < f (j + 1)) ∧ i = .int .i64 ((k : Int) + 1) ∧ Hid (∃ m, wr = w.drewN m)) (fun i _ => n - (intOf i).toNat)
  case atStart => exact ⟨0, fun j hj => by omega, rfl, 0, rfl⟩
  case round =>
    obtain ⟨k, hr, rfl, hm⟩ := hrel
    by_cases hlt : k + 1 < n
    · obtain ⟨b, o, rfl, hc⟩ := H.out (by omega)
      have c1 : wr.cell? ⟨b, o + (k + 1), none⟩ = some (.int .i64 (f (k + 1))) := by obtain ⟨m, rfl⟩ := hm.out; exact hc (k + 1) hlt
      have c2 : wr.cell? ⟨b, o + k, none⟩ = some (.int .i64 (f k)) := by obtain ⟨m, rfl⟩ := hm.out; exact hc k (by omega)
      clear hc
      by_cases hle : f (k + 1) ≤ f k
      · go_wp2_with fail
        go_region
        go_wp2_with fail
        go_ret
        obtain ⟨m, rfl⟩ := hm.out
        exact ⟨false, rfl, ⟨fun h => (by cases h), fun h => by have := h k hlt; omega⟩, m + 1, rfl⟩
      · go_wp2_with fail
        go_region
        go_wp2_with fail
        go_roundw
        case rel => exact ⟨k + 1, fun j hj => by
          by_cases e : j = k
          · subst e; omega
          · exact hr.out j (by omega), by simp, by obtain ⟨m, rfl⟩ := hm.out; exact ⟨m + 1, rfl⟩⟩
        case measure => simp [intOf]; omega
    · go_wp2_with fail
      go_ret
      exact ⟨true, rfl, ⟨fun _ j hj => hr.out j (by omega), fun _ => rfl⟩, hm.out⟩


theorem rzig_any (x : Int) (w : World) (hx : I64 x) : Calls Tryz.prog 35 #[.int .i64 x] w fun e w' => e = .returned (.int .u64 (zig x : Int)) ∧ w' = w := rzigzag_any x w hx.1 hx.2

theorem rw_new (w : World) (t : TypeId) : Rw (w.alloc (.cells #[.slice none 0 0, .int .i64 0] t)) w.heap.size 0 none [] 0 := by
  have hn := heap_alloc_new w (.cells #[.slice none 0 0, .int .i64 0] t)
  refine ⟨⟨.slice none 0 0, ?_, World.ownsRow_nil _ _ _ _, rfl, fun _ => rfl⟩, ?_, fun j hj => ?_, fun g hg => by simp at hg⟩
  · rw [cell_of_row _ _ _ _ _ _ hn]; rfl
  · rw [cell_of_row _ _ _ _ _ _ hn]; rfl
  · exact frozen_of_row _ _ _ _ _ hn

theorem OnlyR.below {b lo hi : Nat} {w w' : World} (h : OnlyR b lo hi none w w') {B : Nat} (hB : B ≤ b) (hs : B ≤ w.heap.size) : Below B w w' :=
  ⟨h.os, h.tape, h.output, h.size, fun k hk => h.block k (by omega) (by omega) (by simp)⟩

theorem RwPost.trans {u v w : World} {b off : Nat} {r : Option Nat} {l l' : List Bool} (h : RwPost u b off r l v) (k : ∀ r', Rw v b off r' l 0 → RwPost v b off r' l' w) : RwPost u b off r l' w := by
  obtain ⟨r', R1, S1, O1⟩ := h
  exact RwPost.then S1 O1 (k r' R1)

theorem RwPost.drew {u v : World} {b off : Nat} {r : Option Nat} {l : List Bool} (h : RwPost u b off r l v) : RwPost u b off r l v.drew := by
  obtain ⟨r', R1, S1, O1⟩ := h
  exact ⟨r', ⟨R1.row, R1.err, R1.fz, R1.apart⟩, S1, ⟨O1.os, O1.tape, O1.output, O1.size, O1.block, O1.cell, O1.frozen⟩⟩

/-- What the document's Pack tells of times that rise. -/
def RPackEnd (f : Nat → Int) (n : Nat) (w : World) (e : Ending) (w' : World) : Prop :=
  ∃ (v' : Value) (B : Nat), e = .returned (.tuple #[v', .int .i64 0]) ∧ w.heap.size ≤ B ∧ w'.ownsRow B 5 1 v' (((tbn f n).length + 7) / 8) (bytesV (packed (tbn f n))) ∧ Below w.heap.size w w'

set_option maxRecDepth 100000 in
set_option maxHeartbeats 2000000 in
theorem rpack_ok (p : Option Addr) (n cap : Nat) (f : Nat → Int) (w : World) (h : TRow w p n f) (hn : n ≤ 4096) (hf : ∀ i, i < n → I64 (f i)) (hr : Rises f n) :
    Calls Tryz.prog 17 #[.slice p n cap] w (RPackEnd f n w) := by
  have H := hide h
  have HF := hide hf
  have HR := hide hr
  clear h hf hr
  go_enter Tryz.func17, Tryz.ntmps17
  go_wp2_with fail
  refine (rrising_any p n cap f w H.out (by omega)).mono ?_
  rintro e w1 ⟨v, rfl, hv, m, hwm⟩
  obtain rfl : v = true := hv.2 HR.out
  have Hw1 : Hid (Below w.heap.size w w1 ∧ w1.heap.size = w.heap.size ∧ TRow w1 p n f) := by
    rw [hwm]; exact ⟨below_drewN (Below.refl _ _) m, rfl, H.out⟩
  clear hwm H hv
  obtain ⟨g, hg⟩ : ∃ g, g = w1.heap.size := ⟨_, rfl⟩
  obtain ⟨W1, hW1⟩ : ∃ W1, W1 = w1.alloc (.cells #[.slice none 0 0, .int .i64 0] 89) := ⟨_, rfl⟩
  have HM : Hid (Rw W1 g 0 none [] 0 ∧ g + 1 ≤ W1.heap.size ∧ Below w1.heap.size w1 W1) := by
    have B1 : Below w1.heap.size w1 W1 := by rw [hW1]; exact (Below.refl _ w1).alloc (Nat.le_refl _) _
    refine ⟨?_, by rw [hW1, hg]; simp, B1⟩
    rw [hg, hW1]; exact rw_new w1 _
  have HG := hide hg
  go_wp2_with fail
  rw [← hW1, ← hg]
  clear hW1 hg
  go_loopw [5, 6] (fun t5 t6 wr => ∃ i : Nat, t5 = .int .u64 (ahd f (i - 1) : Int) ∧ t6 = .int .i64 (i : Int) ∧ Hid (i ≤ n ∧ RwPost W1 g 0 none (tbn f i) wr)) (fun _ t6 _ => n - (intOf t6).toNat)
  case atStart => exact ⟨0, rfl, rfl, by omega, RwPost.refl HM.out.1⟩
  case round =>
    obtain ⟨i, rfl, rfl, hI⟩ := hrel
    have hin : i ≤ n := hI.out.1
    have hBr : Hid (Below w1.heap.size w1 wr) := by
      obtain ⟨r', _, _, O⟩ := hI.out.2
      exact HM.out.2.2.trans (O.below (by rw [HG.out]; omega) HM.out.2.2.size)
    by_cases hlt : i < n
    · obtain ⟨rb0, ro, rfl, hc⟩ := Hw1.out.2.2 (by omega)
      have hcell : ∀ j, j < n → wr.cell? ⟨rb0, ro + j, none⟩ = some (.int .i64 (f j)) := fun j hj => by rw [hBr.out.cell (p := ⟨rb0, ro + j, none⟩) (block_lt_of_cell (hc j hj))]; exact hc j hj
      by_cases h0 : i = 0
      · subst h0
        have c0 : wr.cell? ⟨rb0, ro, none⟩ = some (.int .i64 (f 0)) := hcell 0 hlt
        have e0 : IntKind.u64.wrap (f 0) = ((u64 (f 0) : Nat) : Int) := by
          unfold u64; simp only [IntKind.wrap, IntKind.bits, IntKind.signed]; simp; omega
        have HB : Hid (Calls Tryz.prog 33 #[.pointer (some ⟨g, 0, none⟩), .int .u64 ((u64 (f 0) : Nat) : Int), .int .i64 ((64 : Nat) : Int)] wr fun e w' => e = .returned (.tuple #[]) ∧ RwPost W1 g 0 none (tbn f 1) w') := by
          obtain ⟨r', R1, S1, O1⟩ := hI.out.2
          refine (refbits_any g 0 r' _ (u64 (f 0)) 64 wr R1 (by simp [tbn]) (by omega) (u64_lt _) (u64_lt _)).mono ?_
          rintro e w2 ⟨rfl, P2⟩
          exact ⟨rfl, RwPost.then S1 O1 P2⟩
        clear hc hcell
        go_wp2_with fail
        refine HB.out.mono ?_
        rintro e w2 ⟨rfl, P2⟩
        go_wp2_with fail
        go_roundw
        case rel => exact ⟨1, rfl, by simp, by omega, P2⟩
        case measure => simp [intOf]; omega
      · obtain ⟨k, rfl⟩ : ∃ k, i = k + 1 := ⟨i - 1, by omega⟩
        have c1 : wr.cell? ⟨rb0, ro + (k + 1), none⟩ = some (.int .i64 (f (k + 1))) := hcell (k + 1) hlt
        have c2 : wr.cell? ⟨rb0, ro + k, none⟩ = some (.int .i64 (f k)) := hcell k (by omega)
        have hk0 : ((k : Int) + 1 == 0) = false := by rw [beq_eq_false_iff_ne]; omega
        clear hc hcell h0
        rw [Nat.add_sub_cancel]
        go_wp2_with fail
        go_region
        have ed : IntKind.u64.wrap (IntKind.u64.wrap (f (k + 1)) - IntKind.u64.wrap (f k)) = ((dif (f (k + 1)) (f k) : Nat) : Int) := by
          unfold dif; simp only [IntKind.wrap, IntKind.bits, IntKind.signed]; simp; omega
        rw [ed]
        clear ed
        obtain ⟨D, hD⟩ : ∃ D, D = dif (f (k + 1)) (f k) := ⟨_, rfl⟩
        obtain ⟨A, hA⟩ : ∃ A, A = ahd f k := ⟨_, rfl⟩
        have hD2 : D < 18446744073709551616 := by rw [hD]; exact dif_lt _ _
        have hA2 : A < 18446744073709551616 := by rw [hA]; exact ahd_lt _ _
        rw [← hD, ← hA]
        obtain ⟨y, hy⟩ : ∃ y : Nat, y = (((D : Int) - (A : Int)) % 18446744073709551616).toNat := ⟨_, rfl⟩
        have e1 : IntKind.u64.wrap ((D : Int) - (A : Int)) = (y : Int) := by
          rw [hy]; simp only [IntKind.wrap, IntKind.bits, IntKind.signed]; simp; omega
        have e2 : wrap64 (y : Int) = bend D A := by rw [hy]; unfold wrap64 bend; omega
        have HD := hide hD
        have HA := hide hA
        clear hD hA hD2 hA2 hy
        go_wp2_with fail
        refine (rzig_any (bend D A) _ (bend_range _ _)).mono ?_
        rintro e w2 ⟨rfl, hw2⟩
        have hw22 := hw2.symm
        subst hw22
        have HB : Hid (Calls Tryz.prog 34 #[.pointer (some ⟨g, 0, none⟩), .int .u64 ((zig (bend D A) : Nat) : Int)] wr.drew fun e w' => e = .returned (.tuple #[]) ∧ RwPost W1 g 0 none (tbn f (k + 1) ++ zb (zig (bend D A))) w') := by
          obtain ⟨r', R1, S1, O1⟩ := hI.out.2.drew
          refine (rlay_any g 0 r' _ (zig (bend D A)) wr.drew R1 (by have := tbn_length f k; omega) (zig_lt' _ (bend_range _ _))).mono ?_
          rintro e w2 ⟨rfl, P2⟩
          exact ⟨rfl, RwPost.then S1 O1 P2⟩
        go_wp2_with fail
        refine HB.out.mono ?_
        rintro e w3 ⟨rfl, P3⟩
        go_wp2_with fail
        go_roundw
        case rel =>
          refine ⟨k + 2, ?_, by simp; omega, hlt, ?_⟩
          · rw [HD.out]; rfl
          · rw [tbn_step]; unfold zg; rw [← HD.out, ← HA.out]; exact P3
        case measure => simp [intOf]; omega
    · obtain rfl : i = n := by omega
      have hl := tbn_length' f i
      have HB : Hid (Calls Tryz.prog 36 #[.pointer (some ⟨g, 0, none⟩)] wr fun e w' => ∃ v', e = .returned (.tuple #[v', .int .i64 0]) ∧ w'.ownsRow wr.heap.size 5 1 v' (((tbn f i).length + 7) / 8) (bytesV (packed (tbn f i))) ∧ Below wr.heap.size wr w') := by
        obtain ⟨r', R1, S1, O1⟩ := hI.out.2
        refine refdone_ok g 0 r' _ wr R1 (fun g' hg' => ?_) (by omega)
        rcases S1 with rfl | ⟨g2, h2, h3⟩
        · cases hg'
        · rw [h2] at hg'; cases hg'; have := HM.out.2.1; omega
      clear hl
      go_wp2_with fail
      refine HB.out.mono ?_
      rintro e w3 ⟨v', rfl, o3, B3⟩
      have H3 := hide (And.intro o3 B3)
      clear o3 B3
      go_wp2_with fail
      go_ret2
      have b1 := Hw1.out.1
      have b2 := hBr.out
      rw [Hw1.out.2.1] at b2
      have b3 := b1.trans b2
      exact ⟨v', wr.heap.size, rfl, b3.size, H3.out.1, b3.trans (H3.out.2.mono b3.size)⟩

end Go.Proofs.YtangjkhflgkkdaaGreat

/- The document's own Reader: the contracts of Bits and Bit. -/
import Derived.Test.YtnjcedlbdjidiaaGreatDoorP3M
import Derived.Test.YtnjcedlbdjidiaaGreatDoorKT
import Derived.Test.YtnjcedlbdjidiaaGreatDoorB1We
import Derived.Test.YtnjcedlbdjidiaaGreatDoorP1B32
import Derived.Test.YtnjcedlbdjidiaaGreatDoorB1Rh
/- The document's columns: Lay, Pack. -/
namespace Go.Proofs.YtnjcedlbdjidiaaGreatDoor
open Go.RowKit
open M
set_option linter.unusedVariables false
set_option linter.unusedSimpArgs false

/-- A width, and how many bits a window's numbers have. -/
def WK (W K : Nat) : Prop := W = 64 ∧ K = 6 ∨ W = 32 ∧ K = 5

theorem WK.le {W K : Nat} (h : WK W K) : W ≤ 64 ∧ 32 ≤ W ∧ K ≤ 6 ∧ 5 ≤ K ∧ W = 2 ^ K ∧ 2 ^ W ≤ 18446744073709551616 := by
  rcases h with ⟨rfl, rfl⟩ | ⟨rfl, rfl⟩ <;> decide

theorem rfield_any (W K : Nat) (w : World) (h : WK W K) : Calls Tryz.prog 51 #[.int .i64 W] w fun e w' => e = .returned (.int .i64 K) ∧ w' = w := by
  rcases h with ⟨rfl, rfl⟩ | ⟨rfl, rfl⟩
  · go_enter Tryz.func51, Tryz.ntmps51
    go_wp2_with fail
    go_ret
    exact ⟨rfl, rfl⟩
  · go_enter Tryz.func51, Tryz.ntmps51
    go_wp2_with fail
    go_ret
    exact ⟨rfl, rfl⟩

theorem OnlyR.below7 {b lo hi : Nat} {w w' : World} (h : OnlyR b lo hi none w w') {B : Nat} (hB : B ≤ b) (hs : B ≤ w.heap.size) : Below B w w' :=
  ⟨h.os, h.tape, h.output, h.size, fun k hk => h.block k (by omega) (by omega) (by simp)⟩

theorem RwPost.drew7 {u v : World} {b off : Nat} {r : Option Nat} {l : List Bool} (h : RwPost u b off r l v) : RwPost u b off r l v.drew := by
  obtain ⟨r', R1, S1, O1⟩ := h
  exact ⟨r', ⟨R1.row, R1.err, R1.fz, R1.apart⟩, S1, ⟨O1.os, O1.tape, O1.output, O1.size, O1.block, O1.cell, O1.frozen⟩⟩

set_option maxRecDepth 100000 in
set_option maxHeartbeats 4000000 in
theorem rlay7_any (W K g : Nat) (p : Option Addr) (n cap : Nat) (f : Nat → Nat) (w : World) (hWK : WK W K) (h : URow64 w p n f) (hpg : ∀ b o, p = some ⟨b, o, none⟩ → 0 < n → b < g) (hR : Rw w g 0 none [] 0) (hn : n ≤ 4096) (hf : ∀ i, i < n → f i < 2 ^ W) :
    Calls Tryz.prog 41 #[.pointer (some ⟨g, 0, none⟩), .slice p n cap, .int .i64 W] w fun e w' => e = .returned (.tuple #[]) ∧ RwPost w g 0 none (cbn W K f n) w' := by
  have hle := hWK.le
  have hW64 := hle.1
  have hK6 := hle.2.2.1
  have HW : Hid (W = 2 ^ K ∧ 2 ^ W ≤ 18446744073709551616 ∧ WK W K ∧ 32 ≤ W) := ⟨hle.2.2.2.2.1, hle.2.2.2.2.2, hWK, hle.2.1⟩
  have HCl : Hid (∀ i, i ≤ n → (cbn W K f i).length ≤ 400000) := fun i hi => by
    have h1 := cbn_length' W K f i (by omega) (fun j hj => hf j (by omega))
    have h2 : (2 + 2 * K + W) * i ≤ 78 * 4096 := Nat.mul_le_mul (by omega) (by omega)
    omega
  have HBits : Hid (∀ (l0 : List Bool) (c m : Nat) (w1 : World), RwPost w g 0 none l0 w1 → l0.length + m < 100000000 → m ≤ 64 → c < 18446744073709551616 → c < 2 ^ m → Calls Tryz.prog 89 #[.pointer (some ⟨g, 0, none⟩), .int .u64 (c : Nat), .int .i64 (m : Nat)] w1 fun e w' => e = .returned (.tuple #[]) ∧ RwPost w g 0 none (l0 ++ bitsOf c m) w') := by
    intro l0 c m w1 ⟨r1, R1, S1, O1⟩ hl hm hc hf
    refine (refbits_any g 0 r1 _ c m w1 R1 hl hm hc hf).mono ?_
    rintro e w2 ⟨rfl, P2⟩
    exact ⟨rfl, RwPost.then S1 O1 P2⟩
  have H := hide h
  have HF := hide hf
  have HPG := hide hpg
  have HR := hide hR
  have hgs : g < w.heap.size := block_lt_of_cell hR.err
  clear h hf hpg hR hle
  go_enter Tryz.func41, Tryz.ntmps41
  go_wp2_with fail
  refine (rfield_any W K w hWK).mono ?_
  rintro e w0 ⟨rfl, hw0⟩
  have hw0 := hw0.symm
  subst hw0
  go_wp2_with fail
  go_loopw [7, 8, 9] (fun t7 t8 t9 wr => ∃ i : Nat, t7 = .int .i64 ((win W K f (i - 1)).2 : Nat) ∧ t8 = .int .i64 ((win W K f (i - 1)).1 : Nat) ∧ t9 = .int .i64 (i : Int) ∧ Hid (i ≤ n ∧ RwPost w g 0 none (cbn W K f i) wr)) (fun _ _ t9 _ => n - (intOf t9).toNat)
  case atStart => exact ⟨0, rfl, rfl, rfl, by omega, RwPost.refl HR.out⟩
  case round =>
    obtain ⟨i, rfl, rfl, rfl, hI⟩ := hrel
    have hin : i ≤ n := hI.out.1
    by_cases hlt : i < n
    · obtain ⟨rb0, ro, rfl, hc⟩ := H.out (by omega)
      have hbg := HPG.out rb0 ro rfl (by omega)
      have hcell : ∀ j, j < n → wr.cell? ⟨rb0, ro + j, none⟩ = some (.int .u64 (f j : Nat)) := fun j hj => by
        obtain ⟨r', _, _, O⟩ := hI.out.2
        rw [(O.below7 (B := g) (Nat.le_refl _) (by omega)).cell (p := ⟨rb0, ro + j, none⟩) hbg]; exact hc j hj
      by_cases h0 : i = 0
      · subst h0
        have c0 : wr.cell? ⟨rb0, ro, none⟩ = some (.int .u64 (f 0 : Nat)) := hcell 0 hlt
        have HB := hideB (HBits.out _ (f 0) W wr hI.out.2 (by have := HCl.out 0 (by omega); omega) hW64 (by have := HF.out 0 hlt; have := HW.out; omega) (HF.out 0 hlt))
        obtain ⟨x0, hx0⟩ : ∃ x0, x0 = f 0 := ⟨_, rfl⟩
        rw [← hx0] at c0 HB
        have HX0 := hideB hx0
        clear hc hcell hx0
        go_wp2_with fail
        refine HB.out.mono ?_
        rintro e w2 ⟨rfl, P2⟩
        have HP2 : Hid (RwPost w g 0 none (cbn W K f 1) w2) := by rw [HX0.out] at P2; exact P2
        clear P2 HB
        go_wp2_with fail
        go_roundw
        case rel => exact ⟨1, rfl, rfl, by simp, by omega, HP2.out⟩
        case measure => simp [intOf]; omega
      · obtain ⟨k, rfl⟩ : ∃ k, i = k + 1 := ⟨i - 1, by omega⟩
        have c1 : wr.cell? ⟨rb0, ro + (k + 1), none⟩ = some (.int .u64 (f (k + 1) : Nat)) := hcell (k + 1) hlt
        have c2 : wr.cell? ⟨rb0, ro + k, none⟩ = some (.int .u64 (f k : Nat)) := hcell k (by omega)
        have hk0 : ((k : Int) + 1 == 0) = false := by rw [beq_eq_false_iff_ne]; omega
        have hfa := HF.out (k + 1) hlt
        have hfb := HF.out k (by omega)
        obtain ⟨x, hx⟩ : ∃ x, x = f (k + 1) ^^^ f k := ⟨_, rfl⟩
        have hxW : x < 2 ^ W := by rw [hx]; exact xor_lt W _ _ hfa hfb
        have q1 : bits BinOp.xor IntKind.u64 (f (k + 1) : Int) (f k : Int) = (x : Int) := by
          rw [hx]; exact u64_xor_nat _ _ (by have := HW.out; omega) (by have := HW.out; omega)
        clear hc hcell h0
        rw [Nat.add_sub_cancel]
        obtain ⟨N, hN⟩ : ∃ N, N = (win W K f k).2 := ⟨_, rfl⟩
        obtain ⟨L, hL⟩ : ∃ L, L = (win W K f k).1 := ⟨_, rfl⟩
        have hwin : L + N ≤ W := by rw [hN, hL]; exact win_win W K f hW64 k (fun j hj => HF.out j (by omega))
        have hb : cbn W K f (k + 2) = cbn W K f (k + 1) ++ xb W K L N x := by rw [cbn_step, hx, hL, hN]; rfl
        have hn2 : win W K f (k + 1) = nxt W K (L, N) x := by rw [hx, hL, hN]; rfl
        rw [← hN, ← hL]
        have Hb := hideB hb
        have Hn2 := hideB hn2
        have HxW := hideB hxW
        have HCL : Hid ((cbn W K f (k + 1)).length ≤ 400000) := HCl.out (k + 1) (by omega)
        clear hx hN hL hb hn2 hfa hfb
        generalize f (k + 1) = fa at *
        generalize f k = fb at *
        go_wp2_with fail
        go_region
        clear q1 c1 c2
        have P0 := hI.out.2.drew7
        obtain ⟨wd, hwd⟩ : ∃ wd, wd = wr.drew := ⟨_, rfl⟩
        rw [← hwd] at P0 ⊢
        clear hwd
        by_cases hx0 : x = 0
        · subst hx0
          go_wp2_with fail
          refine (HBits.out _ 0 1 wd P0 (by have := HCL.out; omega) (by omega) (by omega) (by omega)).mono ?_
          rintro e w2 ⟨rfl, P1⟩
          have HP2 : Hid (RwPost w g 0 none (cbn W K f (k + 2)) w2 ∧ win W K f (k + 1) = (L, N)) := ⟨by rw [Hb.out]; exact P1, by rw [Hn2.out]; unfold nxt; rw [if_pos (.inl rfl)]⟩
          clear P1
          go_wp2_with fail
          go_roundw
          case rel => exact ⟨k + 2, by rw [show k + 2 - 1 = k + 1 by omega, HP2.out.2], by rw [show k + 2 - 1 = k + 1 by omega, HP2.out.2], by simp; omega, by omega, HP2.out.1⟩
          case measure => simp [intOf]; omega
        · have hx0' : ((x : Int) == 0) = false := by rw [beq_eq_false_iff_ne]; omega
          have hx6 : x < 18446744073709551616 := by have := HxW.out; have := HW.out; omega
          have hx64 := lt64 HxW.out hW64
          have hbl := bitLen_le x W HxW.out
          have hbp := bitLen_pos x hx0
          have htz := tz_lt x hx0 hx64
          have hwl : wl x = bitLen x - tz x := rfl
          obtain ⟨ld, hld⟩ : ∃ ld, ld = W - bitLen x := ⟨_, rfl⟩
          obtain ⟨ln1, hln⟩ : ∃ ln1, ln1 + 1 = wl x := ⟨wl x - 1, by omega⟩
          have hlb : ld + (ln1 + 1) ≤ W ∧ 1 ≤ ln1 + 1 ∧ W - ld - (ln1 + 1) = tz x := by omega
          have HWin := hideB (rwindow_any x W · hx0 HxW.out hW64)
          rw [← hld, ← hln] at HWin
          have HLd : Hid (ld = W - bitLen x ∧ ln1 + 1 = wl x ∧ x ≠ 0) := ⟨hld, hln, hx0⟩
          go_wp2_with fail
          refine (HBits.out _ 1 1 wd P0 (by have := HCL.out; omega) (by omega) (by omega) (by omega)).mono ?_
          rintro e w1 ⟨rfl, P1⟩
          go_wp2_with fail
          refine (HWin.out w1).mono ?_
          rintro e w2 ⟨rfl, hw2⟩
          have hw2 := hw2.symm
          subst hw2
          by_cases hs : sut W K L N x
          · have hs1 := hs
            obtain ⟨s1, s2, s3, s4⟩ := hs1
            rw [← hld] at s2
            rw [← hln] at s4
            have t1 : (0 : Int) < (N : Int) := by omega
            have t2 : (L : Int) ≤ (ld : Int) := by omega
            have t3 : (ld : Int) + ((ln1 : Int) + 1) ≤ (L : Int) + (N : Int) := by omega
            have t4 : (N : Int) ≤ (ln1 : Int) + 1 + 2 * (K : Int) := by omega
            obtain ⟨sh, hsh⟩ : ∃ sh, sh = W - L - N := ⟨_, rfl⟩
            have ht2 : (W : Int) - (L : Int) - (N : Int) = (sh : Int) := by omega
            have hs3 : sh < 64 := by omega
            obtain ⟨q, hqe⟩ : ∃ q, q = x / 2 ^ sh := ⟨_, rfl⟩
            have hq : (x : Int) / 2 ^ sh = (q : Int) := by rw [hqe]; simp
            have HV : Hid (q < 2 ^ N ∧ q < 18446744073709551616) := by
              have h9 := old_fits W K L N x HxW.out hwin hs
              refine ⟨by rw [hqe, hsh]; exact h9, ?_⟩
              rw [hqe]
              exact Nat.lt_of_le_of_lt (Nat.div_le_self _ _) hx6
            have HFin : Hid (∀ w6, RwPost w g 0 none ((cbn W K f (k + 1) ++ bitsOf 1 1 ++ bitsOf 0 1) ++ bitsOf q N) w6 → RwPost w g 0 none (cbn W K f (k + 2)) w6 ∧ win W K f (k + 1) = (L, N)) := fun w6 P => by
              refine ⟨?_, by rw [Hn2.out]; unfold nxt; rw [if_pos (.inr hs)]⟩
              rw [Hb.out, xb_old W K L N x hx0 hs, ← hsh, ← hqe]
              simpa [bits_0, bits_1] using P
            have hN64 : N ≤ 64 := by omega
            clear hs s1 s2 s3 s4 hld hln hlb hbl hbp htz hwl hx64 hsh hqe
            go_wp2_with fail
            refine (HBits.out _ 0 1 w1 P1 (by have := HCL.out; simp; omega) (by omega) (by omega) (by omega)).mono ?_
            rintro e w3 ⟨rfl, P3⟩
            go_wp2_with (simp only [ht2, hq])
            refine (HBits.out _ q N w3 P3 (by have := HCL.out; simp; omega) hN64 HV.out.2 HV.out.1).mono ?_
            rintro e w6 ⟨rfl, P6⟩
            have HP6 := hideB (HFin.out w6 P6)
            clear P6 P3 HFin
            go_wp2_with fail
            go_roundw
            case rel => exact ⟨k + 2, by rw [show k + 2 - 1 = k + 1 by omega, HP6.out.2], by rw [show k + 2 - 1 = k + 1 by omega, HP6.out.2], by simp; omega, by omega, HP6.out.1⟩
            case measure => simp [intOf]; omega
          · obtain ⟨sh, hsh⟩ : ∃ sh, sh = W - ld - (ln1 + 1) := ⟨_, rfl⟩
            have ht2 : (W : Int) - (ld : Int) - ((ln1 : Int) + 1) = (sh : Int) := by omega
            have hs3 : sh < 64 := by omega
            obtain ⟨q, hqe⟩ : ∃ q, q = x / 2 ^ sh := ⟨_, rfl⟩
            have hq : (x : Int) / 2 ^ sh = (q : Int) := by rw [hqe]; simp
            have r1 : IntKind.u64.wrap (ld : Int) = (ld : Int) := by rw [IntKind.wrap_u64]; omega
            have r2 : IntKind.u64.wrap (ln1 : Int) = (ln1 : Int) := by rw [IntKind.wrap_u64]; omega
            have HV : Hid (ld < 2 ^ K ∧ ln1 < 2 ^ K ∧ q < 2 ^ (ln1 + 1) ∧ q < 18446744073709551616 ∧ W ≤ 64) := by
              have h9 := HW.out.1
              have h8 := new_fits x hx0 hx64
              refine ⟨by omega, by omega, ?_, ?_, hW64⟩
              · rw [hqe, hsh, hlb.2.2, hln]; exact h8
              · rw [hqe]; exact Nat.lt_of_le_of_lt (Nat.div_le_self _ _) hx6
            have HFin : Hid (∀ w6, RwPost w g 0 none ((((cbn W K f (k + 1) ++ bitsOf 1 1 ++ bitsOf 1 1) ++ bitsOf ld K) ++ bitsOf ln1 K) ++ bitsOf q (ln1 + 1)) w6 → RwPost w g 0 none (cbn W K f (k + 2)) w6 ∧ win W K f (k + 1) = (ld, ln1 + 1)) := fun w6 P => by
              refine ⟨?_, by rw [Hn2.out]; unfold nxt; rw [if_neg (by simp [hx0, hs]), hld, hln]⟩
              rw [Hb.out, xb_new W K L N x hx0 hs, ← hld, ← hln, Nat.add_sub_cancel, ← hlb.2.2, ← hsh, ← hqe]
              simpa [bits_1] using P
            have hld64 : ld ≤ 64 := by omega
            have hln64 : ln1 + 1 ≤ 64 := by omega
            have hns : ¬ (0 < N ∧ L ≤ ld ∧ ld + (ln1 + 1) ≤ L + N ∧ N ≤ ln1 + 1 + 2 * K) := fun hh => hs (by unfold sut; rw [← hld, ← hln]; exact ⟨hh.1, hh.2.1, by omega, hh.2.2.2⟩)
            clear hs hld hln hlb hbl hbp htz hwl hx64 hsh hqe
            by_cases t1 : (0 : Int) < (N : Int)
            · by_cases t2 : (L : Int) ≤ (ld : Int)
              · by_cases t3 : (ld : Int) + ((ln1 : Int) + 1) ≤ (L : Int) + (N : Int)
                · have t4 : ¬ (N : Int) ≤ (ln1 : Int) + 1 + 2 * (K : Int) := by omega
                  clear hns
                  go_wp2_with fail
                  refine (HBits.out _ 1 1 w1 P1 (by have := HCL.out; simp; omega) (by omega) (by omega) (by omega)).mono ?_
                  rintro e w3 ⟨rfl, P3⟩
                  go_wp2_with fail
                  refine (HBits.out _ ld K w3 P3 (by have := HCL.out; simp; omega) (by omega) (by omega) HV.out.1).mono ?_
                  rintro e w4 ⟨rfl, P4⟩
                  go_wp2_with fail
                  refine (HBits.out _ ln1 K w4 P4 (by have := HCL.out; simp; omega) (by omega) (by omega) HV.out.2.1).mono ?_
                  rintro e w5 ⟨rfl, P5⟩
                  go_wp2_with (simp only [ht2, hq])
                  refine (HBits.out _ q (ln1 + 1) w5 P5 (by have := HCL.out; simp; omega) (by omega) HV.out.2.2.2.1 HV.out.2.2.1).mono ?_
                  rintro e w6 ⟨rfl, P6⟩
                  have HP6 := hideB (HFin.out w6 P6)
                  clear P6 P5 P4 P3 HFin
                  go_wp2_with fail
                  go_roundw
                  case rel => exact ⟨k + 2, by rw [show k + 2 - 1 = k + 1 by omega, HP6.out.2]; rfl, by rw [show k + 2 - 1 = k + 1 by omega, HP6.out.2], by simp; omega, by omega, HP6.out.1⟩
                  case measure => simp [intOf]; omega

                · clear hns
                  go_wp2_with fail
                  refine (HBits.out _ 1 1 w1 P1 (by have := HCL.out; simp; omega) (by omega) (by omega) (by omega)).mono ?_
                  rintro e w3 ⟨rfl, P3⟩
                  go_wp2_with fail
                  refine (HBits.out _ ld K w3 P3 (by have := HCL.out; simp; omega) (by omega) (by omega) HV.out.1).mono ?_
                  rintro e w4 ⟨rfl, P4⟩
                  go_wp2_with fail
                  refine (HBits.out _ ln1 K w4 P4 (by have := HCL.out; simp; omega) (by omega) (by omega) HV.out.2.1).mono ?_
                  rintro e w5 ⟨rfl, P5⟩
                  go_wp2_with (simp only [ht2, hq])
                  refine (HBits.out _ q (ln1 + 1) w5 P5 (by have := HCL.out; simp; omega) (by omega) HV.out.2.2.2.1 HV.out.2.2.1).mono ?_
                  rintro e w6 ⟨rfl, P6⟩
                  have HP6 := hideB (HFin.out w6 P6)
                  clear P6 P5 P4 P3 HFin
                  go_wp2_with fail
                  go_roundw
                  case rel => exact ⟨k + 2, by rw [show k + 2 - 1 = k + 1 by omega, HP6.out.2]; rfl, by rw [show k + 2 - 1 = k + 1 by omega, HP6.out.2], by simp; omega, by omega, HP6.out.1⟩
                  case measure => simp [intOf]; omega

              · clear hns
                go_wp2_with fail
                refine (HBits.out _ 1 1 w1 P1 (by have := HCL.out; simp; omega) (by omega) (by omega) (by omega)).mono ?_
                rintro e w3 ⟨rfl, P3⟩
                go_wp2_with fail
                refine (HBits.out _ ld K w3 P3 (by have := HCL.out; simp; omega) (by omega) (by omega) HV.out.1).mono ?_
                rintro e w4 ⟨rfl, P4⟩
                go_wp2_with fail
                refine (HBits.out _ ln1 K w4 P4 (by have := HCL.out; simp; omega) (by omega) (by omega) HV.out.2.1).mono ?_
                rintro e w5 ⟨rfl, P5⟩
                go_wp2_with (simp only [ht2, hq])
                refine (HBits.out _ q (ln1 + 1) w5 P5 (by have := HCL.out; simp; omega) (by omega) HV.out.2.2.2.1 HV.out.2.2.1).mono ?_
                rintro e w6 ⟨rfl, P6⟩
                have HP6 := hideB (HFin.out w6 P6)
                clear P6 P5 P4 P3 HFin
                go_wp2_with fail
                go_roundw
                case rel => exact ⟨k + 2, by rw [show k + 2 - 1 = k + 1 by omega, HP6.out.2]; rfl, by rw [show k + 2 - 1 = k + 1 by omega, HP6.out.2], by simp; omega, by omega, HP6.out.1⟩
                case measure => simp [intOf]; omega

            · clear hns
              go_wp2_with fail
              refine (HBits.out _ 1 1 w1 P1 (by have := HCL.out; simp; omega) (by omega) (by omega) (by omega)).mono ?_
              rintro e w3 ⟨rfl, P3⟩
              go_wp2_with fail
              refine (HBits.out _ ld K w3 P3 (by have := HCL.out; simp; omega) (by omega) (by omega) HV.out.1).mono ?_
              rintro e w4 ⟨rfl, P4⟩
              go_wp2_with fail
              refine (HBits.out _ ln1 K w4 P4 (by have := HCL.out; simp; omega) (by omega) (by omega) HV.out.2.1).mono ?_
              rintro e w5 ⟨rfl, P5⟩
              go_wp2_with (simp only [ht2, hq])
              refine (HBits.out _ q (ln1 + 1) w5 P5 (by have := HCL.out; simp; omega) (by omega) HV.out.2.2.2.1 HV.out.2.2.1).mono ?_
              rintro e w6 ⟨rfl, P6⟩
              have HP6 := hideB (HFin.out w6 P6)
              clear P6 P5 P4 P3 HFin
              go_wp2_with fail
              go_roundw
              case rel => exact ⟨k + 2, by rw [show k + 2 - 1 = k + 1 by omega, HP6.out.2]; rfl, by rw [show k + 2 - 1 = k + 1 by omega, HP6.out.2], by simp; omega, by omega, HP6.out.1⟩
              case measure => simp [intOf]; omega

    · obtain rfl : i = n := by omega
      have HP := hideB hI.out.2
      go_wp2_with fail
      go_end0
      exact ⟨rfl, HP.out⟩

end Go.Proofs.YtnjcedlbdjidiaaGreatDoor

/- The document's columns: Pack. -/
namespace Go.Proofs.YtnjcedlbdjidiaaGreatDoor
open Go.RowKit
open M
set_option linter.unusedVariables false
set_option linter.unusedSimpArgs false

theorem rw_new7 (w : World) (t : TypeId) : Rw (w.alloc (.cells #[.slice none 0 0, .int .i64 0] t)) w.heap.size 0 none [] 0 := by
  have hn := heap_alloc_new w (.cells #[.slice none 0 0, .int .i64 0] t)
  refine ⟨⟨.slice none 0 0, ?_, World.ownsRow_nil _ _ _ _, rfl, fun _ => rfl⟩, ?_, fun j hj => ?_, fun g hg => by simp at hg⟩
  · rw [cell_of_row _ _ _ _ _ _ hn]; rfl
  · rw [cell_of_row _ _ _ _ _ _ hn]; rfl
  · exact frozen_of_row _ _ _ _ _ hn

set_option maxRecDepth 100000 in
set_option maxHeartbeats 1000000 in
theorem rpack7_ok (W K : Nat) (p : Option Addr) (n cap : Nat) (f : Nat → Nat) (w : World) (hWK : WK W K) (h : URow64 w p n f) (hn : n ≤ 4096) (hf : ∀ i, i < n → f i < 2 ^ W) :
    Calls Tryz.prog 19 #[.slice p n cap, .int .i64 W] w fun e w' => ∃ v', e = .returned (.tuple #[v', .int .i64 0]) ∧ w'.ownsRow w.heap.size 5 1 v' (packed (cbn W K f n)).length (bytesV (packed (cbn W K f n))) ∧ Below w.heap.size w w' := by
  obtain ⟨g, hg⟩ : ∃ g, g = w.heap.size := ⟨_, rfl⟩
  obtain ⟨W1, hW1⟩ : ∃ W1, W1 = w.alloc (.cells #[.slice none 0 0, .int .i64 0] 101) := ⟨_, rfl⟩
  have B1 : Below w.heap.size w W1 := by rw [hW1]; exact (Below.refl _ w).alloc (Nat.le_refl _) _
  have HM : Hid (Rw W1 g 0 none [] 0 ∧ g + 1 ≤ W1.heap.size ∧ Below w.heap.size w W1) := by
    refine ⟨?_, by rw [hW1, hg]; simp, B1⟩
    rw [hg, hW1]; exact rw_new7 w _
  have HLay := hideB (rlay7_any W K g p n cap f W1 hWK (h.below B1) (fun b o hp h0 => by
    obtain ⟨b', o', hp', hc⟩ := h h0
    rw [hp'] at hp
    simp only [Option.some.injEq, Addr.mk.injEq] at hp
    rw [← hp.1, hg]
    exact block_lt_of_cell (hc 0 h0)) HM.out.1 hn hf)
  have HCl : Hid ((cbn W K f n).length ≤ 400000) := by
    have hle := hWK.le
    have h1 := cbn_length' W K f n (by omega) (fun j hj => hf j (by omega))
    have h2 : (2 + 2 * K + W) * n ≤ 78 * 4096 := Nat.mul_le_mul (by omega) (by omega)
    show _ ≤ _
    omega
  have HG := hide hg
  clear h hf B1
  go_enter Tryz.func19, Tryz.ntmps19
  go_wp2_with fail
  rw [← hW1, ← hg]
  clear hW1 hg
  refine HLay.out.mono ?_
  rintro e w2 ⟨rfl, r', R1, S1, O1⟩
  have HB : Hid (Calls Tryz.prog 42 #[.pointer (some ⟨g, 0, none⟩)] w2 fun e w' => ∃ v', e = .returned (.tuple #[v', .int .i64 0]) ∧ w'.ownsRow w2.heap.size 5 1 v' (((cbn W K f n).length + 7) / 8) (bytesV (packed (cbn W K f n))) ∧ Below w2.heap.size w2 w') := by
    refine refdone_ok g 0 r' _ w2 R1 (fun g' hg' => ?_) (by have := HCl.out; omega)
    rcases S1 with rfl | ⟨g2, h2, h3⟩
    · cases hg'
    · rw [h2] at hg'; cases hg'; have := HM.out.2.1; omega
  have H2 : Hid (Below w.heap.size w w2) := HM.out.2.2.trans (O1.below7 (by rw [HG.out]; omega) HM.out.2.2.size)
  clear R1 S1 O1 HLay
  go_wp2_with fail
  refine HB.out.mono ?_
  rintro e w3 ⟨v', rfl, o3, B3⟩
  have H3 := hide (And.intro o3 B3)
  clear o3 B3
  go_wp2_with fail
  go_ret2
  refine ⟨v', rfl, ?_, H2.out.trans (H3.out.2.mono H2.out.size)⟩
  have h1 := H3.out.1
  rw [packed_length]
  refine ⟨h1.1, ?_⟩
  rcases h1.2 with h2 | ⟨g, cap, cur, h0, h4, h5⟩
  · exact .inl h2
  · exact .inr ⟨g, cap, cur, h0, by have := H2.out.size; omega, h5⟩

theorem rpack7_many (W : Nat) (p : Option Addr) (n cap : Nat) (w : World) (hn : 4096 < n) :
    Calls Tryz.prog 19 #[.slice p n cap, .int .i64 W] w fun e w' => e = .returned (.tuple #[.slice none 0 0, .int .i64 70]) ∧ w' = w := by
  have hn' : (4096 : Int) < (n : Int) := by omega
  go_enter Tryz.func19, Tryz.ntmps19
  go_wp2_with fail
  go_ret2
  exact ⟨rfl, rfl⟩

end Go.Proofs.YtnjcedlbdjidiaaGreatDoor

namespace Go.Proofs.YtnjcedlbdjidiaaGreatDoor
open Go.RowKit
open M
set_option linter.unusedVariables false

set_option maxHeartbeats 1000000 in
theorem vbits_ok (b hi : Nat) (l : List Bool) (n : Nat) (w : World) (hR : Rr w b hi l 0) (hn : n ≤ 64) (hle : n ≤ l.length) :
    Calls Tryz.prog 52 #[.pointer (some ⟨b, 0, none⟩), .int .i64 n] w fun e w' => e = .returned (.int .u64 (num (l.take n) : Int)) ∧ Rr w' b hi (l.drop n) 0 ∧ Only b 0 2 w w' := by
  obtain ⟨_, h1, p, cap, rfl, hcap, hcells⟩ := hR.row
  have h2 := hR.err
  have hf0 := hR.fz 0 (by omega)
  have HI : Hid (IsBits w (.slice p l.length cap) b hi l) := ⟨p, cap, rfl, hcap, hcells⟩
  have hlen := hR.len
  clear hcells
  have hnl : ¬ (l.length : Int) < (n : Int) := by omega
  have hnc : n ≤ cap := by omega
  go_enter Tryz.func52, Tryz.ntmps52
  go_wp2_with fail
  refine (number_any _ b hi (l.take n) w (HI.out.front n hle) (by simp; omega)).mono ?_
  rintro e w1 ⟨rfl, rfl⟩
  go_wp2_with fail
  · go_ret
    exact ⟨rfl, hR.setRow (HI.out.none n hle (by assumption)) (by simp), (Only.refl _ _ _ w1).setCell _ (by omega) (by omega) _⟩
  · go_ret
    exact ⟨rfl, hR.setRow (HI.out.rest n hle (by assumption)) (by simp), (Only.refl _ _ _ w1).setCell _ (by omega) (by omega) _⟩

set_option maxHeartbeats 1000000 in
theorem vbits_short (b hi : Nat) (l : List Bool) (n : Nat) (w : World) (hR : Rr w b hi l 0) (hn : n ≤ 64) (hle : l.length < n) :
    Calls Tryz.prog 52 #[.pointer (some ⟨b, 0, none⟩), .int .i64 n] w fun e w' => e = .returned (.int .u64 0) ∧ Rr w' b hi l 12 ∧ Only b 0 2 w w' := by
  obtain ⟨_, h1, p, cap, rfl, hcap, hcells⟩ := hR.row
  have h2 := hR.err
  have hf0 := hR.fz 1 (by omega)
  have hlen := hR.len
  clear hcells
  have hnl : (l.length : Int) < (n : Int) := by omega
  go_enter Tryz.func52, Tryz.ntmps52
  go_wp2_with fail
  refine (vrefuse_zero b 12 w h2 hf0).mono ?_
  rintro e w1 ⟨rfl, hw1⟩
  have R1 : Rr w1 b hi l 12 := by rw [hw1]; exact hR.setErr 12
  have O1 : Only b 0 2 w w1 := by rw [hw1]; exact (Only.refl _ _ _ w).setCell _ (by omega) (by omega) _
  have h3 := R1.err
  clear hw1
  go_wp2_with fail
  go_ret
  exact ⟨rfl, R1, O1⟩

set_option maxHeartbeats 1000000 in
theorem vbits_wide (b hi : Nat) (l : List Bool) (n : Int) (w : World) (hR : Rr w b hi l 0) (hn : n < 0 ∨ 64 < n) :
    Calls Tryz.prog 52 #[.pointer (some ⟨b, 0, none⟩), .int .i64 n] w fun e w' => e = .returned (.int .u64 0) ∧ Rr w' b hi l 10 ∧ Only b 0 2 w w' := by
  have h2 := hR.err
  have hf0 := hR.fz 1 (by omega)
  rcases hn with hn | hn
  · go_enter Tryz.func52, Tryz.ntmps52
    go_wp2_with fail
    refine (vrefuse_zero b 10 w h2 hf0).mono ?_
    rintro e w1 ⟨rfl, hw1⟩
    have R1 : Rr w1 b hi l 10 := by rw [hw1]; exact hR.setErr 10
    have O1 : Only b 0 2 w w1 := by rw [hw1]; exact (Only.refl _ _ _ w).setCell _ (by omega) (by omega) _
    have h3 := R1.err
    clear hw1
    go_wp2_with fail
    go_ret
    exact ⟨rfl, R1, O1⟩
  · have hn0 : ¬ n < 0 := by omega
    go_enter Tryz.func52, Tryz.ntmps52
    go_wp2_with fail
    refine (vrefuse_zero b 10 w h2 hf0).mono ?_
    rintro e w1 ⟨rfl, hw1⟩
    have R1 : Rr w1 b hi l 10 := by rw [hw1]; exact hR.setErr 10
    have O1 : Only b 0 2 w w1 := by rw [hw1]; exact (Only.refl _ _ _ w).setCell _ (by omega) (by omega) _
    have h3 := R1.err
    clear hw1
    go_wp2_with fail
    go_ret
    exact ⟨rfl, R1, O1⟩

set_option maxHeartbeats 1000000 in
theorem vbits_bad (b hi : Nat) (l : List Bool) (n e0 : Int) (w : World) (hR : Rr w b hi l e0) (he : (e0 == 0) = false) :
    Calls Tryz.prog 52 #[.pointer (some ⟨b, 0, none⟩), .int .i64 n] w fun e w' => e = .returned (.int .u64 0) ∧ Rr w' b hi l e0 ∧ Only b 0 2 w w' := by
  have h2 := hR.err
  have hne : (e0 != 0) = true := by simp [bne, he]
  by_cases hn : n < 0
  · go_enter Tryz.func52, Tryz.ntmps52
    go_wp2_with fail
    refine (vrefuse_not b 10 e0 w h2 he).mono ?_
    rintro e w1 ⟨rfl, rfl⟩
    go_wp2_with fail
    go_ret
    exact ⟨rfl, hR, Only.refl _ _ _ _⟩
  · by_cases hn2 : 64 < n
    · go_enter Tryz.func52, Tryz.ntmps52
      go_wp2_with fail
      refine (vrefuse_not b 10 e0 w h2 he).mono ?_
      rintro e w1 ⟨rfl, rfl⟩
      go_wp2_with fail
      go_ret
      exact ⟨rfl, hR, Only.refl _ _ _ _⟩
    · go_enter Tryz.func52, Tryz.ntmps52
      go_wp2_with fail
      go_ret
      exact ⟨rfl, hR, Only.refl _ _ _ _⟩


/-- The program's Bits of a width that is none: refused. -/
theorem rbits_wide (b off : Nat) (s : ByteArray) (a : Nat) (n : Int) (w : World) (h : Rd w b off s a 0) (hn : n < 0 ∨ 64 < n) :
    Calls Tryz.prog 94 #[.pointer (some ⟨b, off, none⟩), .int .i64 n] w fun e w' => e = .returned (.int .u64 0) ∧ Rd w' b off s a 10 ∧ Only b off (off + 3) w w' := by
  have h1 := h.at_
  have h2 := h.err
  have h3 := h.fz 2 (by omega)
  rcases hn with hn | hn
  · go_enter Tryz.func94, Tryz.ntmps94
    go_wp2_with fail
    refine (rrefuse_zero b off 10 w h2 h3).mono ?_
    rintro e w1 ⟨rfl, hw1⟩
    have R1 : Rd w1 b off s a 10 := by rw [hw1]; exact h.setErr 10
    have O1 : Only b off (off + 3) w w1 := by rw [hw1]; exact (Only.refl _ _ _ w).setCell _ (by omega) (by omega) _
    have h4 := R1.err
    clear hw1
    go_wp2_with fail
    go_ret
    exact ⟨rfl, R1, O1⟩
  · have hn0 : ¬ n < 0 := by omega
    go_enter Tryz.func94, Tryz.ntmps94
    go_wp2_with fail
    refine (rrefuse_zero b off 10 w h2 h3).mono ?_
    rintro e w1 ⟨rfl, hw1⟩
    have R1 : Rd w1 b off s a 10 := by rw [hw1]; exact h.setErr 10
    have O1 : Only b off (off + 3) w w1 := by rw [hw1]; exact (Only.refl _ _ _ w).setCell _ (by omega) (by omega) _
    have h4 := R1.err
    clear hw1
    go_wp2_with fail
    go_ret
    exact ⟨rfl, R1, O1⟩

theorem rbits_bad_wide (b off : Nat) (s : ByteArray) (a : Nat) (n e0 : Int) (w : World) (h : Rd w b off s a e0) (he : (e0 == 0) = false) (hn : n < 0 ∨ 64 < n) :
    Calls Tryz.prog 94 #[.pointer (some ⟨b, off, none⟩), .int .i64 n] w fun e w' => e = .returned (.int .u64 0) ∧ Rd w' b off s a e0 ∧ Only b off (off + 3) w w' := by
  have h1 := h.at_
  have h2 := h.err
  have hne : (e0 != 0) = true := by simp [bne, he]
  rcases hn with hn | hn
  · go_enter Tryz.func94, Tryz.ntmps94
    go_wp2_with fail
    refine (rrefuse_not b off 10 e0 w h2 he).mono ?_
    rintro e w1 ⟨rfl, rfl⟩
    go_wp2_with fail
    go_ret
    exact ⟨rfl, h, Only.refl _ _ _ _⟩
  · have hn0 : ¬ n < 0 := by omega
    go_enter Tryz.func94, Tryz.ntmps94
    go_wp2_with fail
    refine (rrefuse_not b off 10 e0 w h2 he).mono ?_
    rintro e w1 ⟨rfl, rfl⟩
    go_wp2_with fail
    go_ret
    exact ⟨rfl, h, Only.refl _ _ _ _⟩

end Go.Proofs.YtnjcedlbdjidiaaGreatDoor

/- The law's own works() is true. -/
import Derived.Test.YtpiiagjfimdflaaZ
import Derived.Test.YtpiiagjfimdflaaD
namespace Go.Proofs.Ytpiiagjfimdflaa
open Go.RowKit
open M
set_option linter.unusedVariables false

theorem zero27 : Try.zeroCells27 = (Value.pointer none :: (List.replicate 120 (Value.int .u8 0) ++ [.int .i64 0, .int .i64 0])).toArray := by kernel_rfl

/-- A Writer whose block has just been made. -/
theorem wr_of {w : World} {b lo : Nat} (hn : w.heap[b]? = some (.cells Try.zeroCells27 27 (0, 0))) : Wr w lo b 0 [] 0 := by
  have h0 : Try.zeroCells27[0]? = some (.pointer none) := by kernel_rfl
  have h1 : Try.zeroCells27[121]? = some (.int .i64 0) := by kernel_rfl
  have h2 : Try.zeroCells27[122]? = some (.int .i64 0) := by kernel_rfl
  refine ⟨none, ⟨?_, fun j hj => ?_, ?_, ?_, fun j hj => ?_⟩, rfl⟩
  · rw [cell_of_row _ _ _ _ _ _ hn]; exact h0
  · rw [cell_of_row _ _ _ _ _ _ hn, show 0 + 1 + j = j + 1 from by omega, zero27]
    simp only [List.getElem?_toArray, List.getElem?_cons_succ]
    rw [List.getElem?_append_left (by simpa using hj), List.getElem?_replicate, if_pos hj]
    simp [byteAt]
  · rw [cell_of_row _ _ _ _ _ _ hn]; exact h1
  · rw [cell_of_row _ _ _ _ _ _ hn]; exact h2
  · exact frozen_of_row _ _ _ _ _ hn

theorem Only.below {b o1 o2 : Nat} {w w' : World} (h : Only b o1 o2 w w') {B : Nat} (hB : B ≤ b) (hs : B ≤ w.heap.size) : Below B w w' :=
  ⟨h.os, h.tape, h.output, h.size, fun k hk => h.block k (by omega) (by omega)⟩

theorem isBytes_row {w : World} {g : Nat} {bs : List Nat} {cap : Nat} (h : w.heap[g]? = some (.cells (bytesV bs).toArray 5 (0, 0))) : IsBytes w (.slice (some ⟨g, 0, none⟩) bs.length cap) bs := by
  refine .inr ⟨g, 0, cap, rfl, fun i hi => ?_⟩
  rw [cell_of_row _ _ _ _ _ _ h]
  simp [bytesV, hi]

theorem wdone_packed (b off lo : Nat) (w : World) (l : List Bool) (hW : Wr w lo b off l 0) (hlo : lo ≤ w.heap.size) (hlen : l.length < 1000000000000) (bs : List Nat) (hbs : packed l = bs) :
    Calls Try.prog 28 #[.pointer (some ⟨b, off, none⟩)] w fun e w' => e = .returned (.tuple #[.slice (some ⟨w.heap.size, 0, none⟩) bs.length bs.length, .int .i64 0]) ∧
      w'.heap[w.heap.size]? = some (.cells (bytesV bs).toArray 5 (0, 0)) ∧ Below w.heap.size w w' := by
  subst hbs
  rw [packed_length]
  exact wdone_any b off lo w l hW hlo hlen

theorem num_any (n : Int) (w : World) : Calls Try.prog 23 #[.int .i64 n] w fun e w' => e = .returned (.int .i64 n) ∧ w' = w := by
  go_enter Try.func23, Try.ntmps23
  go_wp2
  go_ret
  exact ⟨rfl, rfl⟩

theorem rb_strOf (bs : List Nat) (h : ∀ n ∈ bs, n < 256) : rb (strOf bs) = rbits bs := by rw [rb, bytesN_strOf bs h]

/-- What works lays. -/
def worksL : List Bool := bitsOf 5 3 ++ varB 300 ++ varB (zig (-1))

theorem packed_lt (l : List Bool) : ∀ n ∈ packed l, n < 256 := by
  intro n hn
  simp [packed] at hn
  obtain ⟨i, _, rfl⟩ := hn
  exact byteAt_lt _ _

set_option maxRecDepth 100000 in
set_option maxHeartbeats 2000000 in
theorem works_any (w : World) : Calls Try.prog 14 #[] w fun e w' => e = .returned (.bool true) ∧ Below w.heap.size w w' := by
  have n1 : (w.alloc (.cells Try.zeroCells27 27)).heap[w.heap.size]? = some (.cells Try.zeroCells27 27 (0, 0)) := heap_alloc_new _ _
  have W0 : Wr (w.alloc (.cells Try.zeroCells27 27)) (w.heap.size + 1) w.heap.size 0 [] 0 := wr_of n1
  have s0 : w.heap.size + 1 ≤ (w.alloc (.cells Try.zeroCells27 27)).heap.size := by simp
  have B0 : Below w.heap.size w (w.alloc (.cells Try.zeroCells27 27)) := (Below.refl _ _).alloc (Nat.le_refl _) _
  clear n1
  go_enter Try.func14, Try.ntmps14
  go_wp2_with fail
  generalize w.alloc (.cells Try.zeroCells27 27) = w0 at *
  refine (wbits_any w.heap.size 0 (w.heap.size + 1) 3 5 w0 [] W0 (by omega) s0 (by simp) (by omega) (by omega) (by omega)).mono ?_
  rintro e w1 ⟨rfl, W1, O1⟩
  have s1 := Nat.le_trans s0 O1.size
  have B1 := B0.trans (O1.below (Nat.le_refl _) (by omega))
  clear W0 s0 B0 O1
  go_wp2_with fail
  refine (wvar_any w.heap.size 0 (w.heap.size + 1) 300 w1 _ W1 (by omega) s1 (by simp) (by omega)).mono ?_
  rintro e w2 ⟨rfl, W2, O2⟩
  have s2 := Nat.le_trans s1 O2.size
  have B2 := B1.trans (O2.below (Nat.le_refl _) (by omega))
  clear W1 s1 B1 O2
  go_wp2_with fail
  refine (wzig_any w.heap.size 0 (w.heap.size + 1) (-1) w2 _ W2 (by omega) s2 (by simp [varB]; decide) (by omega) (by omega)).mono ?_
  rintro e w3 ⟨rfl, W3, O3⟩
  have s3 := Nat.le_trans s2 O3.size
  have B3 := B2.trans (O3.below (Nat.le_refl _) (by omega))
  clear W2 s2 B2 O3
  have eL : [] ++ bitsOf 5 3 ++ varB 300 ++ varB (zig (-1)) = worksL := rfl
  rw [eL] at W3
  clear eL
  have l27 : worksL.length = 27 := by decide
  go_wp2_with fail
  refine (wdone_packed w.heap.size 0 (w.heap.size + 1) w3 _ W3 s3 (by rw [l27]; omega) [181, 128, 64, 32] (by decide)).mono ?_
  rintro e w4 ⟨rfl, G4, B34⟩
  have hlenW : w4.cell? ⟨w.heap.size, 0 + 121, none⟩ = some (.int .i64 27) := by
    obtain ⟨p, hR, _⟩ := W3
    rw [B34.cell (p := ⟨w.heap.size, 0 + 121, none⟩) s3, hR.len, l27]; rfl
  have hb0 : w4.cell? ⟨w3.heap.size, 0, none⟩ = some (.int .u8 181) := by rw [cell_of_row _ _ _ _ _ _ G4]; rfl
  have hIB : IsBytes w4 (.slice (some ⟨w3.heap.size, 0, none⟩) 4 4) [181, 128, 64, 32] := isBytes_row G4
  have B4 := B3.trans (B34.mono (by omega : w.heap.size ≤ w3.heap.size))
  have z3 : w3.heap.size < w4.heap.size := by
    rcases Nat.lt_or_ge w3.heap.size w4.heap.size with h | h
    · exact h
    · rw [Array.getElem?_eq_none h] at G4; cases G4
  clear W3 B3 G4 B34 l27
  go_wp2_with fail
  refine (from_any w4 _ _ hIB).mono ?_
  rintro e w5 ⟨rfl, hw5⟩
  have R5 : Rd w5 w4.heap.size 0 (strOf [181, 128, 64, 32]) 0 0 := by rw [hw5]; exact rd_new w4 _ (by simp)
  have B45 : Below w4.heap.size w4 w5 := by rw [hw5]; exact (Below.refl _ _).alloc (Nat.le_refl _) _
  have hrb : rb (strOf [181, 128, 64, 32]) = rbits [181, 128, 64, 32] := rb_strOf _ (by decide)
  have hsz : (strOf [181, 128, 64, 32]).size = 4 := by simp
  clear hw5 hIB
  generalize strOf [181, 128, 64, 32] = s at *
  have HR : Hid (rb s = rbits [181, 128, 64, 32]) := hrb
  have HS : Hid (s.size = 4) := hsz
  clear hrb hsz
  have hs4 : w4.heap.size < w5.heap.size := block_lt_of_cell R5.text
  go_wp2_with fail
  refine (rbits_ok w4.heap.size 0 s 0 3 w5 R5 (by omega) (by rw [HS.out]; omega)).mono ?_
  rintro e w6 ⟨rfl, R6, O6⟩
  have v6 : num (((rb s).drop 0).take 3) = 5 := by rw [HR.out]; decide
  rw [v6]
  clear v6
  have s6 := O6.size
  have B46 : Below w4.heap.size w4 w6 := B45.trans (O6.below (Nat.le_refl _) (by omega))
  clear R5 B45 O6
  go_wp2_with fail
  have e7 : readG 10 ((rb s).drop (0 + 3)) 0 0 (0 + 3) = (300, 19, 0) := by rw [HR.out]; decide
  refine (rvar_ok w4.heap.size 0 s (0 + 3) 300 19 w6 R6 e7 (by rw [HS.out]; omega)).mono ?_
  rintro e w7 ⟨rfl, R7, O7⟩
  have s7 := O7.size
  have B47 : Below w4.heap.size w4 w7 := B46.trans (O7.below (Nat.le_refl _) (by omega))
  clear R6 B46 O7 e7
  go_wp2_with fail
  have e8 : readG 10 ((rb s).drop 19) 0 0 19 = (1, 27, 0) := by rw [HR.out]; decide
  refine (rzig_of w4.heap.size 0 w7 1 (by omega) _ (rvar_ok w4.heap.size 0 s 19 1 27 w7 R7 e8 (by rw [HS.out]; omega))).mono ?_
  rintro e w8 ⟨rfl, R8, O8⟩
  have s8 := O8.size
  have B48 : Below w4.heap.size w4 w8 := B47.trans (O8.below (Nat.le_refl _) (by omega))
  have z1 : zag 1 = -1 := by decide
  rw [z1]
  clear R7 B47 O8 e8 z1
  have hlenW8 : w8.cell? ⟨w.heap.size, 0 + 121, none⟩ = some (.int .i64 27) := by rw [B48.cell (p := ⟨w.heap.size, 0 + 121, none⟩) (by show w.heap.size < w4.heap.size; omega)]; exact hlenW
  have hb08 : w8.cell? ⟨w3.heap.size, 0, none⟩ = some (.int .u8 181) := by rw [B48.cell (p := ⟨w3.heap.size, 0, none⟩) z3]; exact hb0
  have B8 : Below w.heap.size w w8 := B4.trans (B48.mono (by omega))
  clear hlenW hb0 B4 B48
  go_wp2_with fail
  refine (num_any _ _).mono ?_
  rintro e w9 ⟨rfl, rfl⟩
  go_wp2_with fail
  refine (wlen_any w.heap.size 0 27 _ hlenW8).mono ?_
  rintro e w9 ⟨rfl, rfl⟩
  go_wp2_with fail
  refine (rleft_any w4.heap.size 0 s 27 0 _ R8).mono ?_
  rintro e w9 ⟨rfl, m, rfl⟩
  have e9 : 8 * s.size - 27 = 5 := by rw [HS.out]
  rw [e9]
  clear e9
  have R9 := R8.drewN m
  have B9 : Below w.heap.size w (w9.drewN m) := ⟨B8.os, B8.tape, B8.output, B8.size, B8.block⟩
  generalize w9.drewN m = w10 at *
  go_wp2_with fail
  refine (rend_any w4.heap.size 0 s 27 0 _ R9).mono ?_
  rintro e w11 ⟨rfl, m2, rfl⟩
  have e10 : endE s 27 0 = 0 := by simp [endE, HS.out, HR.out]; decide
  rw [e10]
  clear e10
  have B11 : Below w.heap.size w (w10.drewN m2) := ⟨B9.os, B9.tape, B9.output, B9.size, B9.block⟩
  generalize w10.drewN m2 = w11 at *
  go_wp2_with fail
  refine (num_any _ _).mono ?_
  rintro e w12 ⟨rfl, rfl⟩
  go_wp2_with fail
  go_ret
  exact ⟨rfl, B11⟩

end Go.Proofs.Ytpiiagjfimdflaa

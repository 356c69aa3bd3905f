/- The contracts of a window's lay, a column's lay (64 bits). -/
import Derived.Test.YtenhippcjnemcaaDoorP1D64
namespace Go.Proofs.YtenhippcjnemcaaDoor
open Go.RowKit
open M
set_option linter.unusedVariables false
set_option linter.unusedSimpArgs false

set_option maxRecDepth 100000 in
set_option maxHeartbeats 4000000 in
theorem layWin64_any (L N n b lo : Nat) (w : World) (l : List Bool) (hW : Wr w lo b 0 l 0) (hb : b < lo) (hlo : lo ≤ w.heap.size) (hlen : l.length < 1000000000) (hL : L < 64) (hn : n < 64) (hN : n + 1 = N) :
    Calls Tryd.prog 52 #[.agg #[.int .i64 (L : Int), .int .i64 (N : Int)], .pointer (some ⟨b, 0, none⟩)] w fun e w' => e = .returned (.tuple #[]) ∧ Wr w' lo b 0 (l ++ bitsOf L 6 ++ bitsOf n 6) 0 ∧ Only b 0 123 w w' := by
  have q1 : (N : Int) - 1 = (n : Int) := by omega
  have r1 : IntKind.u64.wrap (L : Int) = (L : Int) := by rw [IntKind.wrap_u64]; omega
  have r2 : IntKind.u64.wrap (n : Int) = (n : Int) := by rw [IntKind.wrap_u64]; omega
  have r3 : IntKind.i64.wrap (n : Int) = (n : Int) := by rw [IntKind.wrap_i64]; omega
  have HLn := hide (And.intro hL hn)
  have HLEN := hide hlen
  have B0 : Below w.heap.size w (w.alloc (.cells #[.int .i64 (L : Int), .int .i64 (N : Int)] 73)) := (Below.refl _ w).alloc (Nat.le_refl _) _
  have HM : Hid (Wr (w.alloc (.cells #[.int .i64 (L : Int), .int .i64 (N : Int)] 73)) lo b 0 l 0 ∧ Only b 0 123 w (w.alloc (.cells #[.int .i64 (L : Int), .int .i64 (N : Int)] 73)) ∧
      (w.alloc (.cells #[.int .i64 (L : Int), .int .i64 (N : Int)] 73)).heap[w.heap.size]? = some (.cells #[.int .i64 (L : Int), .int .i64 (N : Int)] 73 (0, 0))) :=
    ⟨hW.below B0, (Only.refl b 0 123 w).alloc (by omega) _, heap_alloc_new w _⟩
  clear B0 hW hlen hN hL hn
  go_enter Tryd.func52, Tryd.ntmps52
  go_wp2_with fail
  generalize w.alloc (.cells #[.int .i64 (L : Int), .int .i64 (N : Int)] 73) = w0 at *
  have c0 : w0.cell? ⟨w.heap.size, 0, none⟩ = some (.int .i64 (L : Int)) := by rw [cell_of_row _ _ _ _ _ _ HM.out.2.2]; rfl
  have c1 : w0.cell? ⟨w.heap.size, 1, none⟩ = some (.int .i64 (N : Int)) := by rw [cell_of_row _ _ _ _ _ _ HM.out.2.2]; rfl
  have HS : Hid (w.heap.size < w0.heap.size ∧ lo ≤ w.heap.size ∧ b < lo) := ⟨size_lt_of_row HM.out.2.2, hlo, hb⟩
  obtain ⟨G, hG⟩ : ∃ G, w.heap.size = G := ⟨_, rfl⟩
  rw [hG] at c0 c1 HS hlo ⊢
  have HG := hide hG
  clear hG
  have HMd : Hid (Wr w0.drew lo b 0 l 0) := HM.out.1.below (w' := w0.drew) ⟨rfl, rfl, rfl, Nat.le_refl _, fun _ _ => rfl⟩
  go_region_held3 (fun w' => w'.cell? ⟨G, 0, none⟩ = some (.int .i64 (L : Int)) ∧ w'.cell? ⟨G, 1, none⟩ = some (.int .i64 (N : Int))) (first | exact ⟨d0, d1⟩ | exact ⟨c0, c1⟩)
    (first | (go_at_call 54; go_must (refine (fieldWidth64_any _).mono ?_); rintro _ wy ⟨rfl, rfl⟩) | (go_at_call 33; go_must (refine (wbits_any b 0 lo 6 L _ l HMd.out HS.out.2.2 (show lo ≤ w0.drew.heap.size from Nat.le_trans HS.out.2.1 (Nat.le_of_lt HS.out.1)) (by have := HLEN.out; omega) (by omega) (by have := HLn.out; omega) (by have := HLn.out; omega)).mono ?_); rintro _ w1 ⟨rfl, W1, O1⟩; (have d0 : w1.cell? ⟨G, 0, none⟩ = some (.int .i64 (L : Int)) := by rw [World.cell?_of_block (O1.block G HS.out.1 (by have := HS.out; omega))]; exact c0); (have d1 : w1.cell? ⟨G, 1, none⟩ = some (.int .i64 (N : Int)) := by rw [World.cell?_of_block (O1.block G HS.out.1 (by have := HS.out; omega))]; exact c1)))
  have HO1 : Hid (Only b 0 123 w w1 ∧ w0.heap.size ≤ w1.heap.size) := ⟨HM.out.2.1.drew.trans O1, O1.size⟩
  have HW1 : Hid (Wr w1.drew lo b 0 (l ++ bitsOf L 6) 0) := W1.below (w' := w1.drew) ⟨rfl, rfl, rfl, Nat.le_refl _, fun _ _ => rfl⟩
  clear W1 O1 HMd
  go_wp2_with fail
  go_region_held3 (fun w' => w'.cell? ⟨G, 0, none⟩ = some (.int .i64 (L : Int)) ∧ w'.cell? ⟨G, 1, none⟩ = some (.int .i64 (N : Int))) (first | exact ⟨d0, d1⟩ | exact ⟨d0, d1⟩)
    (first | (go_at_call 54; go_must (refine (fieldWidth64_any _).mono ?_); rintro _ wy ⟨rfl, rfl⟩) | (go_at_call 33; go_must (refine (wbits_any b 0 lo 6 n _ _ HW1.out HS.out.2.2 (show lo ≤ w1.drew.heap.size from Nat.le_trans HS.out.2.1 (Nat.le_trans (Nat.le_of_lt HS.out.1) HO1.out.2)) (by have := HLEN.out; simp; omega) (by omega) (by have := HLn.out; omega) (by have := HLn.out; omega)).mono ?_); rintro _ w2 ⟨rfl, W2, O2⟩; (have d0 : w2.cell? ⟨G, 0, none⟩ = some (.int .i64 (L : Int)) := by rw [World.cell?_of_block (O2.block G (Nat.lt_of_lt_of_le HS.out.1 HO1.out.2) (by have := HS.out; omega))]; exact d0); (have d1 : w2.cell? ⟨G, 1, none⟩ = some (.int .i64 (N : Int)) := by rw [World.cell?_of_block (O2.block G (Nat.lt_of_lt_of_le HS.out.1 HO1.out.2) (by have := HS.out; omega))]; exact d1)))
  go_wp2_with fail
  go_end0
  exact ⟨rfl, W2, HO1.out.1.drew.trans O2⟩

/-- Only blocks b and c may have changed. -/
structure Two64 (b c : Nat) (w w' : World) : Prop where
  os : w'.os = w.os
  tape : w'.tape = w.tape
  output : w'.output = w.output
  size : w.heap.size ≤ w'.heap.size
  block : ∀ k, k < w.heap.size → k ≠ b → k ≠ c → w'.heap[k]? = w.heap[k]?

theorem Two64.trans {b c : Nat} {u v w : World} (h : Two64 b c u v) (k : Two64 b c v w) : Two64 b c u w :=
  ⟨k.os.trans h.os, k.tape.trans h.tape, k.output.trans h.output, Nat.le_trans h.size k.size, fun i hi h1 h2 => (k.block i (Nat.lt_of_lt_of_le hi h.size) h1 h2).trans (h.block i hi h1 h2)⟩
theorem Two64.ofB {b c lo hi : Nat} {w w' : World} (h : Only b lo hi w w') : Two64 b c w w' := ⟨h.os, h.tape, h.output, h.size, fun k hk h1 _ => h.block k hk h1⟩
theorem Two64.ofC {b c lo hi : Nat} {w w' : World} (h : Only c lo hi w w') : Two64 b c w w' := ⟨h.os, h.tape, h.output, h.size, fun k hk _ h2 => h.block k hk h2⟩
theorem Two64.ofBelow {b c : Nat} {w w' : World} (h : Below w.heap.size w w') : Two64 b c w w' := ⟨h.os, h.tape, h.output, h.size, fun k hk _ _ => h.block k hk⟩
theorem Two64.below {b c B : Nat} {w w' : World} (h : Two64 b c w w') (hB : B ≤ b) (hC : B ≤ c) (hs : B ≤ w.heap.size) : Below B w w' :=
  ⟨h.os, h.tape, h.output, h.size, fun k hk => h.block k (by omega) (by omega) (by omega)⟩
theorem Two64.tab {b c : Nat} {w w' : World} (h : Two64 b c w w') (hT : Tab64 w) (hb : 0 ≠ b) (hc : 0 ≠ c) : Tab64 w' := fun j hj => by
  rw [World.cell?_of_block (w := w) (h.block _ (block_lt_of_cell (hT j hj)) hb hc)]; exact hT j hj

end Go.Proofs.YtenhippcjnemcaaDoor

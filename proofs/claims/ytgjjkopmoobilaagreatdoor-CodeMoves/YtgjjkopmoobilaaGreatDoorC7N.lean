/- A new cell. -/
import Derived.Test.YtgjjkopmoobilaaGreatDoorC5W
import Derived.Deep.AppendLies
import Derived.Test.YtgjjkopmoobilaaGreatDoorC5O
import Derived.Test.YtgjjkopmoobilaaGreatDoorC7M
import Derived.BigQuiet
import Derived.Test.YtgjjkopmoobilaaGreatDoorP1Q64
/- Sizes (64 bits). -/
namespace Go.Proofs.YtgjjkopmoobilaaGreatDoor
open Go.RowKit
open M
set_option linter.unusedVariables false
set_option linter.unusedSimpArgs false

/-- How many bytes a kind needs, -1 where it has none. -/
def szI64 (f : Nat → Nat) (n k : Nat) : Int := if n = 0 then 0 else match codeO64 k f n with
  | some l => ((packed l).length : Int)
  | none => -1

theorem szI64_is {f : Nat → Nat} {n k : Nat} {bs : List Nat} (h : PackIs64 k n f bs) : szI64 f n k = (bs.length : Int) := by
  unfold szI64
  split
  · rename_i h0; rw [h.2.1 h0]; rfl
  · rename_i h0
    obtain ⟨l, h1, h2⟩ := h.2.2 (by omega)
    rw [h1, ← h2]

theorem szI64_no {f : Nat → Nat} {n k : Nat} (hf : ∀ i, i < n → f i < 18446744073709551616) (h : ∀ bs, PackIs64 k n f bs → False) : szI64 f n k = -1 := by
  unfold szI64
  split
  · rename_i h0; exact (h [] ⟨hf, fun _ => rfl, fun h => by omega⟩).elim
  · rename_i h0
    cases ho : codeO64 k f n with
    | none => rfl
    | some l => exact (h _ ⟨hf, fun h => absurd h h0, fun _ => ⟨l, ho, rfl⟩⟩).elim

def szV64 (f : Nat → Nat) (n q : Nat) : List Value := (List.range q).map fun j => .int .i64 (szI64 f n (j + 1))
theorem szV64_succ (f : Nat → Nat) (n q : Nat) : szV64 f n (q + 1) = szV64 f n q ++ [.int .i64 (szI64 f n (q + 1))] := by simp [szV64, List.range_succ]

theorem infoIC64 : ∃ i5, Tryz.prog.info? 3 = some i5 ∧ i5.zero = some (.int .i64 0) ∧ i5.size = 1 ∧ i5.bytes = 8 := by
  have hz : (Tryz.prog.info? 3).bind (·.zero) = some (.int .i64 0) := by kernel_rfl
  have hs : (Tryz.prog.info? 3).map (·.size) = some 1 := by kernel_rfl
  have hb : (Tryz.prog.info? 3).map (·.bytes) = some 8 := by kernel_rfl
  cases hi : Tryz.prog.info? 3 with
  | none => simp [hi] at hs
  | some i5 =>
    simp only [hi, Option.bind_some, Option.map_some, Option.some.injEq] at hz hs hb
    exact ⟨i5, rfl, hz, hs, hb⟩

theorem sizes64_many (p : Option Addr) (n cap : Nat) (w : World) (hn : 4096 < n) : Calls Tryz.prog 26 #[.slice p n cap] w fun e w' => e = .returned (.tuple #[.slice none 0 0, .int .i64 81]) ∧ w' = w := by
  go_enter Tryz.func26, Tryz.ntmps26
  go_wp2_with fail
  go_ret2
  exact ⟨rfl, rfl⟩

set_option maxRecDepth 100000 in
set_option maxHeartbeats 1000000 in
theorem sizes64_any (p : Option Addr) (n cap : Nat) (f : Nat → Nat) (w : World) (h : URow64 w p n f) (hn : n ≤ 4096) (hcap : n ≤ cap) (hf : ∀ i, i < n → f i < 18446744073709551616) (hT : Tab64 w) :
    Calls Tryz.prog 26 #[.slice p n cap] w fun e w' => ∃ v, e = .returned (.tuple #[v, .int .i64 0]) ∧ w'.ownsRow w.heap.size 3 1 v 6 (szV64 f n 6) ∧ Below w.heap.size w w' := by
  have HAG := hide (fun k w1 (hk1 : 1 ≤ k) (hk6 : k ≤ 6) (hB : Below w.heap.size w w1) => cAgain64 k p n cap f w1 hk1 hk6 (h.below hB) hn hcap hf (hT.below hB))
  have HFF := hide hf
  obtain ⟨i5, Hi⟩ := infoIC64
  have HI5 := hide Hi
  have H0 : Hid ((w.alloc (.cells #[] 3)).ownsRow w.heap.size 3 1 (.slice (some ⟨w.heap.size, 0, none⟩) 0 0) 0 (szV64 f n 0) ∧ Below w.heap.size w (w.alloc (.cells #[] 3))) := by
    refine ⟨?_, (Below.refl _ w).alloc (Nat.le_refl _) _⟩
    have := World.ownsRow_made (base := w.heap.size) (e := 3) (size := 1) w #[] 0 (Nat.le_refl _) (by have : maxLen = 9223372036854775807 := rfl; omega) (by simp)
    exact this
  clear h hf hT Hi
  go_enter Tryz.func26, Tryz.ntmps26
  go_upto_region 4 with fail
  generalize w.alloc (.cells #[] 3) = w0 at *
  go_wp2_with fail
  go_loopw [4, 5] (fun t4 t5 wr => ∃ (q : Nat) (pu : Option Addr) (cu : Nat), t5 = .int .i64 ((q : Int) + 1) ∧ t4 = .slice pu q cu ∧ Hid (q ≤ 6 ∧ wr.ownsRow w.heap.size 3 1 (.slice pu q cu) q (szV64 f n q) ∧ Below w.heap.size w wr)) (fun _ t5 _ => 7 - (intOf t5).toNat)
  case atStart => exact ⟨0, _, 0, rfl, rfl, by omega, H0.out.1, H0.out.2⟩
  case round =>
    obtain ⟨q, pu, cu, rfl, rfl, hI⟩ := hrel
    by_cases hlt : q + 1 ≤ 6
    · have hle : (q : Int) + 1 ≤ 6 := by omega
      have HQ := hide (HAG.out (q + 1) wr (by omega) hlt hI.out.2.2)
      rw [show (((q + 1 : Nat)) : Int) = (q : Int) + 1 from by simp] at HQ
      go_wp2_with fail
      refine HQ.out.mono ?_
      intro e w2 hE
      rcases hE with ⟨pv, cv, bv, rfl, h2, h3, h4, h5, h6⟩ | ⟨rfl, h4, h3⟩
      · have HBB : Hid (Below w.heap.size w w2) := hI.out.2.2.trans (h4.mono hI.out.2.2.size)
        have HOWN : Hid (w2.ownsRow w.heap.size 3 1 (.slice pu q cu) q (szV64 f n q)) := ownsRow_keepC64 hI.out.2.1 (fun g _ hg => h4.block g hg)
        have HSZ : Hid (szI64 f n (q + 1) = (bv.length : Int)) := szI64_is h5
        have hs2 : w.heap.size ≤ (w2.alloc (.cells #[.int .i64 (bv.length : Int)] 3)).heap.size := by have := HBB.out.size; simp; omega
        clear h2 h3 h4 h5 h6 hI
        go_wp2_with (at_builtin; refine wpList_append_lies _ rfl _ _ _ rfl w.heap.size 3 i5 (.int .i64 0) 1 8 Tryz.underlying25 HI5.out.1 HI5.out.2.1 HI5.out.2.2.1 HI5.out.2.2.2 rfl (by decide) (.slice pu q cu) q (szV64 f n q) rfl (HOWN.out.alloc _) ⟨w2.heap.size, 0, none⟩ 1 1 [.int .i64 (bv.length : Int)] rfl rfl (fun j u hj => cell_new164 w2 _ 3 j u hj) (fun u hu => by simp at hu; subst hu; rfl) (by omega) (by have : maxLen = 9223372036854775807 := rfl; omega) (by omega) hs2 _ rfl ?_; intro g6 cap6 w6 hown6 hgrow6 hat6 hlt6)
        have HS6 : Hid (w6.ownsRow w.heap.size 3 1 (.slice (some ⟨g6, 0, none⟩) (q + 1) cap6) (q + 1) (szV64 f n (q + 1)) ∧ Below w.heap.size w w6) := by
          have hB6 : Below w.heap.size (w2.alloc (.cells #[.int .i64 (bv.length : Int)] 3)) w6 := grown_below64 hgrow6 (fun g hg => (HOWN.out.lt g hg).1) hs2
          refine ⟨?_, (HBB.out.alloc (by have := HBB.out.size; omega) _).trans hB6⟩
          rw [szV64_succ, HSZ.out]; exact hown6
        clear hown6 hgrow6 hat6 hlt6
        go_wp2_with fail
        go_roundw
        case rel => exact ⟨q + 1, some ⟨g6, 0, none⟩, cap6, by simp, rfl, hlt, HS6.out.1, HS6.out.2⟩
        case measure => simp [intOf]; omega
      · have HBB : Hid (Below w.heap.size w w2) := hI.out.2.2.trans (h4.mono hI.out.2.2.size)
        have HOWN : Hid (w2.ownsRow w.heap.size 3 1 (.slice pu q cu) q (szV64 f n q)) := ownsRow_keepC64 hI.out.2.1 (fun g _ hg => h4.block g hg)
        have HSZ : Hid (szI64 f n (q + 1) = -1) := szI64_no HFF.out h3
        have hs2 : w.heap.size ≤ (w2.alloc (.cells #[.int .i64 (-1)] 3)).heap.size := by have := HBB.out.size; simp; omega
        clear h3 h4 hI
        go_wp2_with (at_builtin; refine wpList_append_lies _ rfl _ _ _ rfl w.heap.size 3 i5 (.int .i64 0) 1 8 Tryz.underlying25 HI5.out.1 HI5.out.2.1 HI5.out.2.2.1 HI5.out.2.2.2 rfl (by decide) (.slice pu q cu) q (szV64 f n q) rfl (HOWN.out.alloc _) ⟨w2.heap.size, 0, none⟩ 1 1 [.int .i64 (-1)] rfl rfl (fun j u hj => cell_new164 w2 _ 3 j u hj) (fun u hu => by simp at hu; subst hu; rfl) (by omega) (by have : maxLen = 9223372036854775807 := rfl; omega) (by omega) hs2 _ rfl ?_; intro g6 cap6 w6 hown6 hgrow6 hat6 hlt6)
        have HS6 : Hid (w6.ownsRow w.heap.size 3 1 (.slice (some ⟨g6, 0, none⟩) (q + 1) cap6) (q + 1) (szV64 f n (q + 1)) ∧ Below w.heap.size w w6) := by
          have hB6 : Below w.heap.size (w2.alloc (.cells #[.int .i64 (-1)] 3)) w6 := grown_below64 hgrow6 (fun g hg => (HOWN.out.lt g hg).1) hs2
          refine ⟨?_, (HBB.out.alloc (by have := HBB.out.size; omega) _).trans hB6⟩
          rw [szV64_succ, HSZ.out]; exact hown6
        clear hown6 hgrow6 hat6 hlt6
        go_wp2_with fail
        go_roundw
        case rel => exact ⟨q + 1, some ⟨g6, 0, none⟩, cap6, by simp, rfl, hlt, HS6.out.1, HS6.out.2⟩
        case measure => simp [intOf]; omega
    · have hq : q = 6 := by have := hI.out.1; omega
      subst hq
      go_wp2_with fail
      go_ret2
      exact ⟨_, rfl, hI.out.2.1, hI.out.2.2⟩

end Go.Proofs.YtgjjkopmoobilaaGreatDoor

/- Sizes (32 bits). -/
namespace Go.Proofs.YtgjjkopmoobilaaGreatDoor
open Go.RowKit
open M
set_option linter.unusedVariables false
set_option linter.unusedSimpArgs false

/-- How many bytes a kind needs, -1 where it has none. -/
def szI32 (f : Nat → Nat) (n k : Nat) : Int := if n = 0 then 0 else match codeO32 k f n with
  | some l => ((packed l).length : Int)
  | none => -1

theorem szI32_is {f : Nat → Nat} {n k : Nat} {bs : List Nat} (h : PackIs32 k n f bs) : szI32 f n k = (bs.length : Int) := by
  unfold szI32
  split
  · rename_i h0; rw [h.2.1 h0]; rfl
  · rename_i h0
    obtain ⟨l, h1, h2⟩ := h.2.2 (by omega)
    rw [h1, ← h2]

theorem szI32_no {f : Nat → Nat} {n k : Nat} (hf : ∀ i, i < n → f i < 4294967296) (h : ∀ bs, PackIs32 k n f bs → False) : szI32 f n k = -1 := by
  unfold szI32
  split
  · rename_i h0; exact (h [] ⟨hf, fun _ => rfl, fun h => by omega⟩).elim
  · rename_i h0
    cases ho : codeO32 k f n with
    | none => rfl
    | some l => exact (h _ ⟨hf, fun h => absurd h h0, fun _ => ⟨l, ho, rfl⟩⟩).elim

def szV32 (f : Nat → Nat) (n q : Nat) : List Value := (List.range q).map fun j => .int .i64 (szI32 f n (j + 1))
theorem szV32_succ (f : Nat → Nat) (n q : Nat) : szV32 f n (q + 1) = szV32 f n q ++ [.int .i64 (szI32 f n (q + 1))] := by simp [szV32, List.range_succ]

theorem infoIC32 : ∃ i5, Tryz.prog.info? 3 = some i5 ∧ i5.zero = some (.int .i64 0) ∧ i5.size = 1 ∧ i5.bytes = 8 := by
  have hz : (Tryz.prog.info? 3).bind (·.zero) = some (.int .i64 0) := by kernel_rfl
  have hs : (Tryz.prog.info? 3).map (·.size) = some 1 := by kernel_rfl
  have hb : (Tryz.prog.info? 3).map (·.bytes) = some 8 := by kernel_rfl
  cases hi : Tryz.prog.info? 3 with
  | none => simp [hi] at hs
  | some i5 =>
    simp only [hi, Option.bind_some, Option.map_some, Option.some.injEq] at hz hs hb
    exact ⟨i5, rfl, hz, hs, hb⟩

theorem sizes32_many (p : Option Addr) (n cap : Nat) (w : World) (hn : 4096 < n) : Calls Tryz.prog 30 #[.slice p n cap] w fun e w' => e = .returned (.tuple #[.slice none 0 0, .int .i64 81]) ∧ w' = w := by
  go_enter Tryz.func30, Tryz.ntmps30
  go_wp2_with fail
  go_ret2
  exact ⟨rfl, rfl⟩

set_option maxRecDepth 100000 in
set_option maxHeartbeats 1000000 in
theorem sizes32_any (p : Option Addr) (n cap : Nat) (f : Nat → Nat) (w : World) (h : URow32 w p n f) (hn : n ≤ 4096) (hcap : n ≤ cap) (hf : ∀ i, i < n → f i < 4294967296) (hT : Tab64 w) :
    Calls Tryz.prog 30 #[.slice p n cap] w fun e w' => ∃ v, e = .returned (.tuple #[v, .int .i64 0]) ∧ w'.ownsRow w.heap.size 3 1 v 6 (szV32 f n 6) ∧ Below w.heap.size w w' := by
  have HAG := hide (fun k w1 (hk1 : 1 ≤ k) (hk6 : k ≤ 6) (hB : Below w.heap.size w w1) => cAgain32 k p n cap f w1 hk1 hk6 (h.below hB) hn hcap hf (hT.below hB))
  have HFF := hide hf
  obtain ⟨i5, Hi⟩ := infoIC32
  have HI5 := hide Hi
  have H0 : Hid ((w.alloc (.cells #[] 3)).ownsRow w.heap.size 3 1 (.slice (some ⟨w.heap.size, 0, none⟩) 0 0) 0 (szV32 f n 0) ∧ Below w.heap.size w (w.alloc (.cells #[] 3))) := by
    refine ⟨?_, (Below.refl _ w).alloc (Nat.le_refl _) _⟩
    have := World.ownsRow_made (base := w.heap.size) (e := 3) (size := 1) w #[] 0 (Nat.le_refl _) (by have : maxLen = 9223372036854775807 := rfl; omega) (by simp)
    exact this
  clear h hf hT Hi
  go_enter Tryz.func30, Tryz.ntmps30
  go_upto_region 4 with fail
  generalize w.alloc (.cells #[] 3) = w0 at *
  go_wp2_with fail
  go_loopw [4, 5] (fun t4 t5 wr => ∃ (q : Nat) (pu : Option Addr) (cu : Nat), t5 = .int .i64 ((q : Int) + 1) ∧ t4 = .slice pu q cu ∧ Hid (q ≤ 6 ∧ wr.ownsRow w.heap.size 3 1 (.slice pu q cu) q (szV32 f n q) ∧ Below w.heap.size w wr)) (fun _ t5 _ => 7 - (intOf t5).toNat)
  case atStart => exact ⟨0, _, 0, rfl, rfl, by omega, H0.out.1, H0.out.2⟩
  case round =>
    obtain ⟨q, pu, cu, rfl, rfl, hI⟩ := hrel
    by_cases hlt : q + 1 ≤ 6
    · have hle : (q : Int) + 1 ≤ 6 := by omega
      have HQ := hide (HAG.out (q + 1) wr (by omega) hlt hI.out.2.2)
      rw [show (((q + 1 : Nat)) : Int) = (q : Int) + 1 from by simp] at HQ
      go_wp2_with fail
      refine HQ.out.mono ?_
      intro e w2 hE
      rcases hE with ⟨pv, cv, bv, rfl, h2, h3, h4, h5, h6⟩ | ⟨rfl, h4, h3⟩
      · have HBB : Hid (Below w.heap.size w w2) := hI.out.2.2.trans (h4.mono hI.out.2.2.size)
        have HOWN : Hid (w2.ownsRow w.heap.size 3 1 (.slice pu q cu) q (szV32 f n q)) := ownsRow_keepC32 hI.out.2.1 (fun g _ hg => h4.block g hg)
        have HSZ : Hid (szI32 f n (q + 1) = (bv.length : Int)) := szI32_is h5
        have hs2 : w.heap.size ≤ (w2.alloc (.cells #[.int .i64 (bv.length : Int)] 3)).heap.size := by have := HBB.out.size; simp; omega
        clear h2 h3 h4 h5 h6 hI
        go_wp2_with (at_builtin; refine wpList_append_lies _ rfl _ _ _ rfl w.heap.size 3 i5 (.int .i64 0) 1 8 Tryz.underlying25 HI5.out.1 HI5.out.2.1 HI5.out.2.2.1 HI5.out.2.2.2 rfl (by decide) (.slice pu q cu) q (szV32 f n q) rfl (HOWN.out.alloc _) ⟨w2.heap.size, 0, none⟩ 1 1 [.int .i64 (bv.length : Int)] rfl rfl (fun j u hj => cell_new132 w2 _ 3 j u hj) (fun u hu => by simp at hu; subst hu; rfl) (by omega) (by have : maxLen = 9223372036854775807 := rfl; omega) (by omega) hs2 _ rfl ?_; intro g6 cap6 w6 hown6 hgrow6 hat6 hlt6)
        have HS6 : Hid (w6.ownsRow w.heap.size 3 1 (.slice (some ⟨g6, 0, none⟩) (q + 1) cap6) (q + 1) (szV32 f n (q + 1)) ∧ Below w.heap.size w w6) := by
          have hB6 : Below w.heap.size (w2.alloc (.cells #[.int .i64 (bv.length : Int)] 3)) w6 := grown_below32 hgrow6 (fun g hg => (HOWN.out.lt g hg).1) hs2
          refine ⟨?_, (HBB.out.alloc (by have := HBB.out.size; omega) _).trans hB6⟩
          rw [szV32_succ, HSZ.out]; exact hown6
        clear hown6 hgrow6 hat6 hlt6
        go_wp2_with fail
        go_roundw
        case rel => exact ⟨q + 1, some ⟨g6, 0, none⟩, cap6, by simp, rfl, hlt, HS6.out.1, HS6.out.2⟩
        case measure => simp [intOf]; omega
      · have HBB : Hid (Below w.heap.size w w2) := hI.out.2.2.trans (h4.mono hI.out.2.2.size)
        have HOWN : Hid (w2.ownsRow w.heap.size 3 1 (.slice pu q cu) q (szV32 f n q)) := ownsRow_keepC32 hI.out.2.1 (fun g _ hg => h4.block g hg)
        have HSZ : Hid (szI32 f n (q + 1) = -1) := szI32_no HFF.out h3
        have hs2 : w.heap.size ≤ (w2.alloc (.cells #[.int .i64 (-1)] 3)).heap.size := by have := HBB.out.size; simp; omega
        clear h3 h4 hI
        go_wp2_with (at_builtin; refine wpList_append_lies _ rfl _ _ _ rfl w.heap.size 3 i5 (.int .i64 0) 1 8 Tryz.underlying25 HI5.out.1 HI5.out.2.1 HI5.out.2.2.1 HI5.out.2.2.2 rfl (by decide) (.slice pu q cu) q (szV32 f n q) rfl (HOWN.out.alloc _) ⟨w2.heap.size, 0, none⟩ 1 1 [.int .i64 (-1)] rfl rfl (fun j u hj => cell_new132 w2 _ 3 j u hj) (fun u hu => by simp at hu; subst hu; rfl) (by omega) (by have : maxLen = 9223372036854775807 := rfl; omega) (by omega) hs2 _ rfl ?_; intro g6 cap6 w6 hown6 hgrow6 hat6 hlt6)
        have HS6 : Hid (w6.ownsRow w.heap.size 3 1 (.slice (some ⟨g6, 0, none⟩) (q + 1) cap6) (q + 1) (szV32 f n (q + 1)) ∧ Below w.heap.size w w6) := by
          have hB6 : Below w.heap.size (w2.alloc (.cells #[.int .i64 (-1)] 3)) w6 := grown_below32 hgrow6 (fun g hg => (HOWN.out.lt g hg).1) hs2
          refine ⟨?_, (HBB.out.alloc (by have := HBB.out.size; omega) _).trans hB6⟩
          rw [szV32_succ, HSZ.out]; exact hown6
        clear hown6 hgrow6 hat6 hlt6
        go_wp2_with fail
        go_roundw
        case rel => exact ⟨q + 1, some ⟨g6, 0, none⟩, cap6, by simp, rfl, hlt, HS6.out.1, HS6.out.2⟩
        case measure => simp [intOf]; omega
    · have hq : q = 6 := by have := hI.out.1; omega
      subst hq
      go_wp2_with fail
      go_ret2
      exact ⟨_, rfl, hI.out.2.1, hI.out.2.2⟩

end Go.Proofs.YtgjjkopmoobilaaGreatDoor

/- CodeMoves: three rows of one's own; the law's own tail and sizes. -/
namespace Go.Proofs.YtgjjkopmoobilaaGreatDoor
open Go.RowKit
open M
set_option linter.unusedVariables false
set_option linter.unusedSimpArgs false

theorem ap_symm {a b : Option Nat} (h : a = none ∨ a ≠ b) : b = none ∨ b ≠ a := by
  rcases h with h | h
  · subst h; cases b <;> simp
  · exact .inr fun e => h e.symm

/-- Three rows of one's own, apart from one another. -/
structure T3 (B : Nat) (ty : TypeId) (w0 wr : World) (n1 n2 n3 : Nat) (x1 x2 x3 : List Value) (v1 v2 v3 : Value) : Prop where
  o1 : wr.ownsRow B ty 1 v1 n1 x1
  o2 : wr.ownsRow B ty 1 v2 n2 x2
  o3 : wr.ownsRow B ty 1 v3 n3 x3
  a12 : v1.ownBlock = none ∨ v1.ownBlock ≠ v2.ownBlock
  a23 : v2.ownBlock = none ∨ v2.ownBlock ≠ v3.ownBlock
  a31 : v3.ownBlock = none ∨ v3.ownBlock ≠ v1.ownBlock
  bel : Below B w0 wr
  hB : B ≤ w0.heap.size

theorem T3.nil (ty : TypeId) (w : World) : T3 w.heap.size ty w w 0 0 0 [] [] [] (.slice none 0 0) (.slice none 0 0) (.slice none 0 0) :=
  ⟨World.ownsRow_nil _ _ _ _, World.ownsRow_nil _ _ _ _, World.ownsRow_nil _ _ _ _, .inl rfl, .inl rfl, .inl rfl, Below.refl _ _, Nat.le_refl _⟩

theorem T3.rot {B : Nat} {ty : TypeId} {w0 wr : World} {n1 n2 n3 : Nat} {x1 x2 x3 : List Value} {v1 v2 v3 : Value} (h : T3 B ty w0 wr n1 n2 n3 x1 x2 x3 v1 v2 v3) : T3 B ty w0 wr n2 n3 n1 x2 x3 x1 v2 v3 v1 :=
  ⟨h.o2, h.o3, h.o1, h.a23, h.a31, h.a12, h.bel, h.hB⟩

theorem T3.keep {B : Nat} {ty : TypeId} {w0 wr wa : World} {n1 n2 n3 : Nat} {x1 x2 x3 : List Value} {v1 v2 v3 : Value} (h : T3 B ty w0 wr n1 n2 n3 x1 x2 x3 v1 v2 v3) (ha : Below wr.heap.size wr wa) : T3 B ty w0 wa n1 n2 n3 x1 x2 x3 v1 v2 v3 :=
  ⟨ownsRow_keepC64 h.o1 fun g _ hg => ha.block g hg, ownsRow_keepC64 h.o2 fun g _ hg => ha.block g hg, ownsRow_keepC64 h.o3 fun g _ hg => ha.block g hg, h.a12, h.a23, h.a31, h.bel.trans (ha.mono (Nat.le_trans h.hB h.bel.size)), h.hB⟩

theorem T3.step {B : Nat} {ty : TypeId} {w0 wr w4 : World} {n1 n2 n3 m g cap : Nat} {x1 x2 x3 y : List Value} {v1 v2 v3 : Value} (h : T3 B ty w0 wr n1 n2 n3 x1 x2 x3 v1 v2 v3)
    (ho : w4.ownsRow B ty 1 (.slice (some ⟨g, 0, none⟩) m cap) m y) (hg : wr.grownBy w4 v1.ownBlock) (hat : v1.ownBlock = some g ∨ g = wr.heap.size) : T3 B ty w0 w4 m n2 n3 y x2 x3 (.slice (some ⟨g, 0, none⟩) m cap) v2 v3 := by
  have ap : ∀ {v : Value} {n : Nat} {x : List Value}, wr.ownsRow B ty 1 v n x → (v.ownBlock = none ∨ v.ownBlock ≠ v1.ownBlock) → (v.ownBlock = none ∨ v.ownBlock ≠ some g) := fun hv ha => by
    rcases hat with e | e
    · rw [e] at ha; exact ha
    · refine .inr fun e2 => ?_
      have := (hv.lt g e2).2
      omega
  refine ⟨ho, h.o2.kept hg (ap_symm h.a12), h.o3.kept hg h.a31, ap_symm (ap h.o2 (ap_symm h.a12)), h.a23, ap h.o3 h.a31, h.bel.trans ?_, h.hB⟩
  exact grown_below64 hg (fun k hk => (h.o1.lt k hk).1) (Nat.le_trans h.hB h.bel.size)

/-- A row of six sizes. -/
theorem sizes_cap {B : Nat} {w : World} {v : Value} {xs : List Value} (h : w.ownsRow B 3 1 v 6 xs) :
    ∃ g cap, v = .slice (some ⟨g, 0, none⟩) 6 cap ∧ 6 ≤ cap ∧ ∀ j u, j < 6 → xs[j]? = some u → w.cell? ⟨g, j, none⟩ = some u := by
  rcases h.2 with ⟨h1, h2⟩ | ⟨g, cap2, cur, h1, hb, hg, hc2, hm2, hs, ht⟩
  · omega
  · refine ⟨g, cap2, h1, hc2, fun j u hj e => ?_⟩
    rw [cell_of_row w g j cur _ (0, 0) hg, ← e, ← ht, List.getElem?_take, if_pos (by omega)]
    simp

set_option maxRecDepth 100000 in
theorem sizesEq8_any (g g' n c c' : Nat) (a : Nat → Int) (w : World) (hn : n ≤ 1000000) (h : ∀ j, j < n → w.cell? ⟨g, j, none⟩ = some (.int .i64 (a j))) (h' : ∀ j, j < n → w.cell? ⟨g', j, none⟩ = some (.int .i64 (a j))) :
    Calls Tryz.prog 29 #[.slice (some ⟨g, 0, none⟩) n c, .slice (some ⟨g', 0, none⟩) n c'] w fun e w' => e = .returned (.bool true) ∧ ∃ m, w' = w.drewN m := by
  have H := hide h
  have H' := hide h'
  clear h h'
  go_enter Tryz.func29, Tryz.ntmps29
  go_wp2_with fail
  go_loopw [5] (fun i wr => ∃ k : Nat, i = .int .i64 (k : Int) ∧ Hid (k ≤ n) ∧ Hid (∃ m, wr = w.drewN m)) (fun i _ => n - (intOf i).toNat)
  case atStart => exact ⟨0, rfl, Nat.zero_le _, 0, rfl⟩
  case round =>
    obtain ⟨k, rfl, hk, hm⟩ := hrel
    by_cases hlt : k < n
    · obtain ⟨x, hx⟩ : ∃ x, a k = x := ⟨_, rfl⟩
      have c1 : wr.cell? ⟨g, k, none⟩ = some (.int .i64 x) := by obtain ⟨m, rfl⟩ := hm.out; rw [← hx]; exact H.out k hlt
      have c2 : wr.cell? ⟨g', k, none⟩ = some (.int .i64 x) := by obtain ⟨m, rfl⟩ := hm.out; rw [← hx]; exact H'.out k hlt
      clear hx
      go_wp2_with fail
      go_region
      go_wp2_with fail
      go_roundw
      case rel => exact ⟨k + 1, by simp, hlt, by obtain ⟨m, rfl⟩ := hm.out; exact ⟨m + 1, rfl⟩⟩
      case measure => simp [intOf]; omega
    · go_wp2_with fail
      go_ret
      exact ⟨rfl, hm.out⟩

/-- Where bytes end that are 128 and more. -/
def hd128 : List Nat → Nat
  | [] => 0
  | a :: t => if 128 ≤ a then hd128 t + 1 else 0
theorem hd128_le (l : List Nat) : hd128 l ≤ l.length := by
  induction l with
  | nil => exact Nat.le_refl _
  | cons a t ih => rw [hd128]; split <;> simp <;> omega
theorem hd128_lt (l : List Nat) (k : Nat) (h : k < hd128 l) : 128 ≤ l.getD k 0 := by
  induction l generalizing k with
  | nil => simp [hd128] at h
  | cons a t ih =>
    rw [hd128] at h
    split at h
    · cases k with
      | zero => simpa
      | succ k => simp only [List.getD_cons_succ]; exact ih k (by omega)
    · omega
theorem hd128_at (l : List Nat) (h : hd128 l < l.length) : l.getD (hd128 l) 0 < 128 := by
  induction l with
  | nil => simp [hd128] at h
  | cons a t ih =>
    by_cases e : 128 ≤ a
    · simp only [hd128, if_pos e, List.length_cons] at h
      simp only [hd128, if_pos e, List.getD_cons_succ]
      exact ih (by omega)
    · simp only [hd128, if_neg e, List.getD_cons_zero]; omega
theorem tailL_drop (l : List Nat) : tailL l = l.drop (if hd128 l < l.length then hd128 l + 1 else hd128 l) := by
  induction l with
  | nil => rfl
  | cons a t ih =>
    by_cases e : 128 ≤ a
    · have h1 := hd128_le t
      simp only [tailL, hd128, if_pos e, ih]
      by_cases e2 : hd128 t < t.length
      · rw [if_pos e2, if_pos (by simp; omega)]; rfl
      · rw [if_neg e2, if_neg (by simp; omega)]; rfl
    · simp only [tailL, hd128, if_neg e]
      rw [if_pos (by simp)]; rfl

/-- Bytes in a block of their own, or none. -/
def OwnBs (w : World) (v : Value) (bs : List Nat) : Prop := (v = .slice none 0 0 ∧ bs = []) ∨ ∃ g, v = .slice (some ⟨g, 0, none⟩) bs.length bs.length ∧ w.heap[g]? = some (.cells (bytesV bs).toArray 5 (0, 0))

theorem OwnBs.below {w w' : World} {v : Value} {bs : List Nat} (h : OwnBs w v bs) (hB : Below w.heap.size w w') : OwnBs w' v bs := by
  rcases h with h | ⟨g, h1, h2⟩
  · exact .inl h
  · exact .inr ⟨g, h1, by rw [hB.block g (size_lt_of_row h2)]; exact h2⟩

/-- What is left of a row of L bytes in a block of its own behind k of them. -/
def sl8 (g k L : Nat) : Value := if L = k then .slice (some ⟨g, 0, none⟩) 0 0 else .slice (some ⟨g, k, none⟩) (L - k) (L - k)

theorem isBy_cut {w : World} {g : Nat} {bs : List Nat} (h : w.heap[g]? = some (.cells (bytesV bs).toArray 5 (0, 0))) (k : Nat) (hk : k ≤ bs.length) : IsBy w (sl8 g k bs.length) (bs.drop k) := by
  unfold sl8
  by_cases e : bs.length = k
  · rw [if_pos e]
    exact .inr ⟨_, _, rfl, by rw [← e]; simp⟩
  · rw [if_neg e]
    refine .inl (.inr ⟨g, k, bs.length - k, by simp, fun i hi => ?_⟩)
    rw [cell_of_row _ _ _ _ _ _ h]
    have hi' : k + i < bs.length := by simp at hi; omega
    simp [bytesV, List.getD, hi']

set_option maxRecDepth 100000 in
set_option maxHeartbeats 1000000 in
theorem tail8_any (v : Value) (bs : List Nat) (w : World) (h : OwnBs w v bs) (hl : bs.length ≤ 1000000000000) :
    Calls Tryz.prog 28 #[v] w fun e w' => e = .returned (.string (strOf (tailL bs))) ∧ w' = w := by
  rcases h with ⟨rfl, rfl⟩ | ⟨g, rfl, hg⟩
  · have hc := convert_by w (.slice none 0 0) [] (.inl (.inl ⟨rfl, rfl⟩))
    go_enter Tryz.func28, Tryz.ntmps28
    go_wp2_with fail
    go_loopw [3] (fun t3 wr => t3 = .int .i64 0 ∧ Hid (wr = w)) (fun _ _ => 0)
    case atStart => exact ⟨rfl, rfl⟩
    case round =>
      obtain ⟨rfl, hw⟩ := hrel
      obtain rfl := hw.out
      go_wp2_with fail
      go_ret
      exact ⟨rfl, rfl⟩
  · obtain ⟨K, hK⟩ : ∃ K, hd128 bs = K := ⟨_, rfl⟩
    have hKL := hd128_le bs
    have HLT := hide (hd128_lt bs)
    have HAT := hide (hd128_at bs)
    have HD := hide (tailL_drop bs)
    have HC := hide (fun j (hj : j < bs.length) => show w.cell? ⟨g, j, none⟩ = some (.int .u8 ((bs.getD j 0 : Nat) : Int)) by rw [cell_of_row _ _ _ _ _ _ hg]; simp [bytesV, List.getD, hj])
    have HV := hide (fun k (hk : k ≤ bs.length) => convert_by w (sl8 g k bs.length) (bs.drop k) (isBy_cut hg k hk))
    have HL := hide hl
    obtain ⟨T, hT⟩ : ∃ T, tailL bs = T := ⟨_, rfl⟩
    rw [hT] at HD ⊢
    rw [hK] at HLT HAT HD hKL
    obtain ⟨L, hL⟩ : ∃ L, bs.length = L := ⟨_, rfl⟩
    rw [hL] at HAT HD HC HV HL hKL ⊢
    clear hg hK hL hl hT
    go_enter Tryz.func28, Tryz.ntmps28
    go_wp2_with fail
    go_loopw [3] (fun t3 wr => ∃ k : Nat, t3 = .int .i64 (k : Int) ∧ Hid (k ≤ K) ∧ Hid (wr = w)) (fun t3 _ => K - (intOf t3).toNat)
    case atStart => exact ⟨0, rfl, Nat.zero_le _, rfl⟩
    case round =>
      obtain ⟨k, rfl, hk, hw⟩ := hrel
      have hL12 := HL.out
      obtain rfl := hw.out
      clear hw
      by_cases hlt : k < L
      · have c1 := HC.out k hlt
        by_cases hkK : k < K
        · have hb := HLT.out k hkK
          generalize bs.getD k 0 = b at c1 hb
          go_wp2_with fail
          go_roundw
          case rel => exact ⟨k + 1, by simp, hkK, trivial⟩
          case measure => simp [intOf]; omega
        · obtain rfl : k = K := by have := hk.out; omega
          have hb := HAT.out hlt
          have hv := HV.out (k + 1) (by omega)
          have hd := HD.out
          rw [if_pos hlt] at hd
          rw [← hd] at hv
          generalize bs.getD k 0 = b at c1 hb
          unfold sl8 at hv
          clear HC HV HLT HAT HD hd
          by_cases e : L = k + 1
          · subst e
            rw [if_pos rfl] at hv
            go_wp2_with fail
            go_ret
            exact ⟨rfl, rfl⟩
          · rw [if_neg e] at hv
            go_wp2_with fail
            go_ret
            exact ⟨rfl, rfl⟩
      · obtain rfl : k = K := by have := hk.out; omega
        obtain rfl : k = L := by omega
        have hv := HV.out k (by omega)
        have hd := HD.out
        rw [if_neg hlt] at hd
        rw [← hd] at hv
        unfold sl8 at hv
        rw [if_pos rfl] at hv
        clear HC HV HLT HAT HD hd
        go_wp2_with fail
        go_ret
        exact ⟨rfl, rfl⟩

theorem stride64_is (p : Option Addr) (n cap : Nat) (f : Nat → Nat) (w : World) (h : URow64 w p n f) (hn : n ≤ 4096) (hcap : n ≤ cap) (hf : ∀ i, i < n → f i < 18446744073709551616) (hT : Tab64 w) :
    Calls Tryz.prog 16 #[.int .i64 5, .slice p n cap] w fun e w' => ∃ v, e = .returned (.tuple #[v, .int .i64 0]) ∧ OwnBs w' v (packed (stB 9223372036854775808 18446744073709551616 f n)) ∧ Below w.heap.size w w' := by
  by_cases h0 : n = 0
  · subst h0
    refine (cPack64_empty 5 p cap w (by omega) (by omega)).mono ?_
    rintro e w' ⟨rfl, hB⟩
    exact ⟨_, rfl, .inl ⟨rfl, by rw [stB]; rfl⟩, hB⟩
  · refine (cPack64_some 5 p n cap f w (by omega) (by omega) h (by omega) hn hcap hf hT).mono ?_
    rintro e w' ⟨g, L, h1, h2, rfl, h4, h5⟩
    subst h1
    exact ⟨_, rfl, .inr ⟨g, rfl, h4⟩, h5⟩

theorem stride32_is (p : Option Addr) (n cap : Nat) (f : Nat → Nat) (w : World) (h : URow32 w p n f) (hn : n ≤ 4096) (hcap : n ≤ cap) (hf : ∀ i, i < n → f i < 4294967296) (hT : Tab64 w) :
    Calls Tryz.prog 17 #[.int .i64 5, .slice p n cap] w fun e w' => ∃ v, e = .returned (.tuple #[v, .int .i64 0]) ∧ OwnBs w' v (packed (stB 2147483648 4294967296 f n)) ∧ Below w.heap.size w w' := by
  by_cases h0 : n = 0
  · subst h0
    refine (cPack32_empty 5 p cap w (by omega) (by omega)).mono ?_
    rintro e w' ⟨rfl, hB⟩
    exact ⟨_, rfl, .inl ⟨rfl, by rw [stB]; rfl⟩, hB⟩
  · refine (cPack32_some 5 p n cap f w (by omega) (by omega) h (by omega) hn hcap hf hT).mono ?_
    rintro e w' ⟨g, L, h1, h2, rfl, h4, h5⟩
    subst h1
    exact ⟨_, rfl, .inr ⟨g, rfl, h4⟩, h5⟩

/-- Sizes of a column that is turned round, or changed by the same bits. -/
def szO : Option (List Bool) → Int
  | some l => ((packed l).length : Int)
  | none => -1
theorem szO_len {a b : Option (List Bool)} (h : a.map List.length = b.map List.length) : szO a = szO b := by
  cases a <;> cases b <;> simp_all [szO]
theorem szI64_O (f : Nat → Nat) (n k : Nat) : szI64 f n k = if n = 0 then 0 else szO (codeO64 k f n) := by
  unfold szI64
  split
  · rfl
  · cases codeO64 k f n <;> rfl
theorem szI32_O (f : Nat → Nat) (n k : Nat) : szI32 f n k = if n = 0 then 0 else szO (codeO32 k f n) := by
  unfold szI32
  split
  · rfl
  · cases codeO32 k f n <;> rfl

theorem szI64_turn (f g : Nat → Nat) (n k : Nat) (hk : k = 1 ∨ k = 3 ∨ k = 4) (h : ∀ i, i < n → g i = f (n - 1 - i)) : szI64 g n k = szI64 f n k := by
  rw [szI64_O, szI64_O]
  split
  · rfl
  · refine szO_len ?_
    rcases hk with rfl | rfl | rfl
    · show some (plB _ _ _).length = some (plB _ _ _).length; rw [plB_length, plB_length]
    · show some (rnB _ _ _ _ _).length = some (rnB _ _ _ _ _).length; rw [rnB_turn 64 f g n h]
    · exact dcO_len 64 f g n (uq_turn f g n h)

theorem szI64_xor (c : Nat) (f g : Nat → Nat) (n k : Nat) (hk : k = 1 ∨ k = 2 ∨ k = 3 ∨ k = 4) (h : ∀ i, i < n → g i = f i ^^^ c) : szI64 g n k = szI64 f n k := by
  rw [szI64_O, szI64_O]
  split
  · rfl
  · rename_i h0
    rcases hk with rfl | rfl | rfl | rfl
    · refine szO_len ?_; show some (plB _ _ _).length = some (plB _ _ _).length; rw [plB_length, plB_length]
    · obtain ⟨m, rfl⟩ : ∃ m, n = m + 1 := ⟨n - 1, by omega⟩
      have := (turn_bytes 64 6 c 8 f g m rfl h).1
      show ((packed (cbn 64 6 g (m + 1))).length : Int) = ((packed (cbn 64 6 f (m + 1))).length : Int)
      rw [this]
    · refine szO_len ?_; show some (rnB _ _ _ _ _).length = some (rnB _ _ _ _ _).length; rw [rnB_xor 64 c f g n 0 n (fun j hj => h j (by omega))]
    · refine szO_len ?_; exact dcO_len 64 f g n (by rw [uq_xor c f g n h]; simp)

theorem szI32_turn (f g : Nat → Nat) (n k : Nat) (hk : k = 1 ∨ k = 3 ∨ k = 4) (h : ∀ i, i < n → g i = f (n - 1 - i)) : szI32 g n k = szI32 f n k := by
  rw [szI32_O, szI32_O]
  split
  · rfl
  · refine szO_len ?_
    rcases hk with rfl | rfl | rfl
    · show some (plB _ _ _).length = some (plB _ _ _).length; rw [plB_length, plB_length]
    · show some (rnB _ _ _ _ _).length = some (rnB _ _ _ _ _).length; rw [rnB_turn 32 f g n h]
    · exact dcO_len 32 f g n (uq_turn f g n h)

theorem szI32_xor (c : Nat) (f g : Nat → Nat) (n k : Nat) (hk : k = 1 ∨ k = 2 ∨ k = 3 ∨ k = 4) (h : ∀ i, i < n → g i = f i ^^^ c) : szI32 g n k = szI32 f n k := by
  rw [szI32_O, szI32_O]
  split
  · rfl
  · rename_i h0
    rcases hk with rfl | rfl | rfl | rfl
    · refine szO_len ?_; show some (plB _ _ _).length = some (plB _ _ _).length; rw [plB_length, plB_length]
    · obtain ⟨m, rfl⟩ : ∃ m, n = m + 1 := ⟨n - 1, by omega⟩
      have := (turn_bytes 32 5 c 4 f g m rfl h).1
      show ((packed (cbn 32 5 g (m + 1))).length : Int) = ((packed (cbn 32 5 f (m + 1))).length : Int)
      rw [this]
    · refine szO_len ?_; show some (rnB _ _ _ _ _).length = some (rnB _ _ _ _ _).length; rw [rnB_xor 32 c f g n 0 n (fun j hj => h j (by omega))]
    · refine szO_len ?_; exact dcO_len 32 f g n (by rw [uq_xor c f g n h]; simp)

end Go.Proofs.YtgjjkopmoobilaaGreatDoor

namespace Go.Proofs.YtgjjkopmoobilaaGreatDoor
open Go.RowKit
set_option linter.unusedVariables false

theorem cell_new8 (w : World) (v : Value) (t : TypeId) (j : Nat) (u : Value) (h : [v][j]? = some u) : (w.alloc (.cells #[v] t)).cell? ((⟨w.heap.size, 0, none⟩ : Addr).add j) = some u := by
  have hn := heap_alloc_new w (.cells #[v] t)
  rw [Addr.add_mid, Nat.zero_add, cell_of_row _ _ _ _ _ _ hn]
  cases j with
  | zero => simpa using h
  | succ j => simp at h

end Go.Proofs.YtgjjkopmoobilaaGreatDoor

/- PackTurned: the walk. -/
import Derived.Test.YtenhippcjnemcaaDoorP2O
import Derived.Test.YtenhippcjnemcaaDoorP2F
namespace Go.Proofs.YtenhippcjnemcaaDoor
open Go.RowKit
open M
set_option linter.unusedVariables false
set_option linter.unusedSimpArgs false

/-- What is left of a row of L bytes in a block of its own behind k of them. -/
def sl8 (g k L : Nat) : Value := if L = k then .slice (some ⟨g, 0, none⟩) 0 0 else .slice (some ⟨g, k, none⟩) (L - k) (L - k)

theorem isBy_cut {w : World} {g : Nat} {bs : List Nat} (h : w.heap[g]? = some (.cells (bytesV bs).toArray 5 (0, 0))) (k : Nat) (hk : k ≤ bs.length) : IsBy w (sl8 g k bs.length) (bs.drop k) := by
  unfold sl8
  by_cases e : bs.length = k
  · rw [if_pos e]
    exact .inr ⟨_, _, rfl, by rw [← e]; simp⟩
  · rw [if_neg e]
    refine .inl (.inr ⟨g, k, bs.length - k, by simp, fun i hi => ?_⟩)
    rw [cell_of_row _ _ _ _ _ _ h]
    have hi' : k + i < bs.length := by simp at hi; omega
    simp [bytesV, List.getD, hi']

theorem turn_all (W K c k : Nat) (f g : Nat → Nat) (n : Nat) (hW : W = 8 * k) (h : ∀ i, i < n → g i = f i ^^^ c) :
    (packed (cbn W K g n)).length = (packed (cbn W K f n)).length ∧ (packed (cbn W K g n)).drop k = (packed (cbn W K f n)).drop k ∧ (0 < n → k ≤ (packed (cbn W K f n)).length) := by
  cases n with
  | zero => exact ⟨rfl, rfl, fun h => by omega⟩
  | succ n => obtain ⟨h1, h2, h3⟩ := turn_bytes W K c k f g n hW h; exact ⟨h1, h2, fun _ => h3⟩

theorem USt64.next2 {B : Nat} {w0 wa w4 : World} {f : Nat → Nat} {i g cap : Nat} {v : Value} {t : Nat} (h3 : B ≤ w0.heap.size) (hv : ∀ g, v.ownBlock = some g → B ≤ g) (ha : Below B w0 wa) (hb : B ≤ wa.heap.size) (ht : t = f i)
    (ho : w4.ownsRow B 39 1 (.slice (some ⟨g, 0, none⟩) (i + 1) cap) (i + 1) (valsV64 i f ++ [.int .u64 (t : Int)])) (hg : wa.grownBy w4 v.ownBlock) : USt64 B w0 f (i + 1) (.slice (some ⟨g, 0, none⟩) (i + 1) cap) w4 := by
  subst ht
  exact ⟨by rw [valsV64_succ]; exact ho, ha.trans (grown_below64 hg hv hb), h3⟩

theorem USt32.next2 {B : Nat} {w0 wa w4 : World} {f : Nat → Nat} {i g cap : Nat} {v : Value} {t : Nat} (h3 : B ≤ w0.heap.size) (hv : ∀ g, v.ownBlock = some g → B ≤ g) (ha : Below B w0 wa) (hb : B ≤ wa.heap.size) (ht : t = f i)
    (ho : w4.ownsRow B 42 1 (.slice (some ⟨g, 0, none⟩) (i + 1) cap) (i + 1) (valsV32 i f ++ [.int .u32 (t : Int)])) (hg : wa.grownBy w4 v.ownBlock) : USt32 B w0 f (i + 1) (.slice (some ⟨g, 0, none⟩) (i + 1) cap) w4 := by
  subst ht
  exact ⟨by rw [valsV32_succ]; exact ho, ha.trans (grown_below32 hg hv hb), h3⟩

set_option maxRecDepth 100000 in
set_option maxHeartbeats 8000000 in
theorem turned_any (u0 u1 : Value) (by_ : Nat) (w : World) (hby : by_ < 18446744073709551616) (hU : IsU64 w u0) (hV : IsU32 w u1) (hT : Tab64 w) :
    Calls Tryd.prog 5 #[.agg #[u0, u1, .int .u64 (by_ : Int)]] w fun e w' => e = .returned (.bool true) ∧ Below w.heap.size w w' := by
  obtain ⟨pW, n, cW, f, rfl, hnM, hcW, RW, hf⟩ := hU
  obtain ⟨pR, m, cR, g, rfl, hmM, hcR, RR, hg⟩ := hV
  have HX : Hid ((w.alloc (.cells #[.slice pW n cW, .slice pR m cR, .int .u64 (by_ : Int)] 48)).heap[w.heap.size]? = some (.cells #[.slice pW n cW, .slice pR m cR, .int .u64 (by_ : Int)] 48 (0, 0))) := heap_alloc_new _ _
  have HB0 : Hid (Below w.heap.size w (w.alloc (.cells #[.slice pW n cW, .slice pR m cR, .int .u64 (by_ : Int)] 48))) := (Below.refl _ _).alloc (Nat.le_refl _) _
  have HF64 := hide hf
  have HF32 := hide hg
  have HRW := hide RW
  have HRR := hide RR
  have HT := hide hT
  clear hf hg RW RR hT
  by_cases hn : 4096 < n
  · go_enter Tryd.func5, Tryd.ntmps5
    go_wp2_with fail
    generalize w.alloc (.cells #[.slice pW n cW, .slice pR m cR, .int .u64 (by_ : Int)] 48) = w0 at *
    refine (works_any w0 (HT.out.below HB0.out)).mono ?_
    rintro e w' ⟨rfl, hB⟩
    have HB := hide hB
    clear hB
    go_wp2_with fail
    go_ret
    exact ⟨rfl, HB0.out.trans (HB.out.mono HB0.out.size)⟩
  by_cases hm : 4096 < m
  · go_enter Tryd.func5, Tryd.ntmps5
    go_wp2_with fail
    generalize w.alloc (.cells #[.slice pW n cW, .slice pR m cR, .int .u64 (by_ : Int)] 48) = w0 at *
    refine (works_any w0 (HT.out.below HB0.out)).mono ?_
    rintro e w' ⟨rfl, hB⟩
    have HB := hide hB
    clear hB
    go_wp2_with fail
    go_ret
    exact ⟨rfl, HB0.out.trans (HB.out.mono HB0.out.size)⟩
  obtain ⟨bz, hbz⟩ : ∃ bz : Nat, bz = by_ % 4294967296 := ⟨_, rfl⟩
  have z1 : IntKind.u32.wrap (by_ : Int) = (bz : Int) := by rw [hbz, IntKind.wrap_u32]; omega
  have HBZ : Hid (bz < 4294967296) := by rw [hbz]; exact Nat.mod_lt _ (by omega)
  clear hbz
  go_enter Tryd.func5, Tryd.ntmps5
  go_wp2_with fail
  generalize w.alloc (.cells #[.slice pW n cW, .slice pR m cR, .int .u64 (by_ : Int)] 48) = w0 at *
  refine (works_any w0 (HT.out.below HB0.out)).mono ?_
  rintro e w1 ⟨rfl, B1⟩
  have h0s : w.heap.size < w0.heap.size := size_lt_of_row HX.out
  have hX0 : Hid (w.heap.size < w1.heap.size) := Nat.lt_of_lt_of_le h0s B1.size
  have HX0w1 : Hid (w1.cell? ⟨w.heap.size, 0, none⟩ = some (.slice pW n cW)) := by show _ = _; rw [B1.cell (p := ⟨w.heap.size, 0, none⟩) h0s, cell_of_row _ _ _ _ _ _ HX.out]; rfl
  have HX1w1 : Hid (w1.cell? ⟨w.heap.size, 1, none⟩ = some (.slice pR m cR)) := by show _ = _; rw [B1.cell (p := ⟨w.heap.size, 1, none⟩) h0s, cell_of_row _ _ _ _ _ _ HX.out]; rfl
  have HX2w1 : Hid (w1.cell? ⟨w.heap.size, 2, none⟩ = some (.int .u64 (by_ : Int))) := by show _ = _; rw [B1.cell (p := ⟨w.heap.size, 2, none⟩) h0s, cell_of_row _ _ _ _ _ _ HX.out]; rfl
  have HBw1 : Hid (Below w.heap.size w w1) := HB0.out.trans (B1.mono HB0.out.size)
  have HR64w1 : Hid (URow64 w1 pW n f) := HRW.out.below HBw1.out
  have HR32w1 : Hid (URow32 w1 pR m g) := HRR.out.below HBw1.out
  clear B1 h0s HX HB0
  have HBY := hide hby
  go_wp2_with fail
  go_loopw [3, 4] (fun tw ti wr => ∃ (tv : Value) (i : Nat), tv = tw ∧ ti = .int .i64 (i : Int) ∧ Hid (i ≤ n) ∧ Hid (USt64 w1.heap.size w1 (fun j => f j ^^^ by_) i tv wr)) (fun _ ti _ => n - (intOf ti).toNat)
  case atStart => exact ⟨_, 0, rfl, rfl, Nat.zero_le _, USt64.nil _ _⟩
  case round =>
    obtain ⟨tv, i, rfl, rfl, hI, HS⟩ := hrel
    have HBr : Hid (Below w1.heap.size w1 wr) := HS.out.2.1
    have cX0 : wr.cell? ⟨w.heap.size, 0, none⟩ = some (.slice pW n cW) := by rw [HBr.out.cell (p := ⟨w.heap.size, 0, none⟩) hX0.out]; exact HX0w1.out
    have cX2 : wr.cell? ⟨w.heap.size, 2, none⟩ = some (.int .u64 (by_ : Int)) := by rw [HBr.out.cell (p := ⟨w.heap.size, 2, none⟩) hX0.out]; exact HX2w1.out
    by_cases hlt : i < n
    · obtain ⟨rb0, ro, hpe, hc⟩ := HR64w1.out (by omega)
      obtain ⟨x, hx⟩ : ∃ x, f i = x := ⟨_, rfl⟩
      have c1 : wr.cell? ⟨rb0, ro + i, none⟩ = some (.int .u64 (x : Int)) := by rw [HBr.out.cell (p := ⟨rb0, ro + i, none⟩) (block_lt_of_cell (hc i hlt)), ← hx]; exact hc i hlt
      have hxl : x < 18446744073709551616 := by rw [← hx]; exact HF64.out i hlt
      obtain ⟨y, hy⟩ : ∃ y, x ^^^ by_ = y := ⟨_, rfl⟩
      have q1 : bits BinOp.xor IntKind.u64 (x : Int) (by_ : Int) = (y : Int) := by rw [← hy]; exact u64_xor_nat x by_ hxl HBY.out
      have HY : Hid (y = f i ^^^ by_) := by rw [hx]; exact hy.symm
      rw [hpe] at cX0 ⊢
      clear hc hx hxl hy
      go_upto_region 7 with fail
      refine wp_region_held_drew (S := fun w' => w'.cell? ⟨w.heap.size, 0, none⟩ = some (.slice (some ⟨rb0, ro, none⟩) n cW) ∧ w'.cell? ⟨w.heap.size, 2, none⟩ = some (.int .u64 (by_ : Int)) ∧ w'.cell? ⟨rb0, ro + i, none⟩ = some (.int .u64 (x : Int))) (by kernel_rfl) ⟨cX0, cX2, c1⟩ (fun hHeld => ?_)
      refine wpAnyH_take (i := 0) (v := ?_) rfl (by kernel_rfl) (by kernel_rfl) (by kernel_rfl) (fun _ _ _ h => h) (Or.inl ⟨by rfl, ?_⟩) hHeld ?_
      rotate_left
      · (intro wq hSw; (try dsimp only at hSw); (try obtain ⟨s0, s1, s2⟩ := hSw); (go_simp <;> with_reducible rfl))
      try simp only [Act.put, List.getElem_toArray, List.getElem_cons_zero, List.getElem_cons_succ, List.setIfInBounds_toArray, List.set_cons_zero, List.set_cons_succ]
      refine wpAnyH_take (i := 1) (v := ?_) rfl (by kernel_rfl) (by kernel_rfl) (by kernel_rfl) (fun _ _ _ h => h) (Or.inl ⟨by rfl, ?_⟩) hHeld ?_
      rotate_left
      · (intro wq hSw; (try dsimp only at hSw); (try obtain ⟨s0, s1, s2⟩ := hSw); (go_simp <;> with_reducible rfl))
      try simp only [Act.put, List.getElem_toArray, List.getElem_cons_zero, List.getElem_cons_succ, List.setIfInBounds_toArray, List.set_cons_zero, List.set_cons_succ]
      refine wpAnyH_take (i := 2) (v := ?_) rfl (by kernel_rfl) (by kernel_rfl) (by kernel_rfl) (fun _ _ _ h => h) (Or.inl ⟨by rfl, ?_⟩) hHeld ?_
      rotate_left
      · (intro wq hSw; (try dsimp only at hSw); (try obtain ⟨s0, s1, s2⟩ := hSw); (go_simp <;> with_reducible rfl))
      try simp only [Act.put, List.getElem_toArray, List.getElem_cons_zero, List.getElem_cons_succ, List.setIfInBounds_toArray, List.set_cons_zero, List.set_cons_succ]
      refine wpAnyH_take (i := 3) (v := ?_) rfl (by kernel_rfl) (by kernel_rfl) (by kernel_rfl) (fun _ _ _ h => h) (Or.inl ⟨by rfl, ?_⟩) hHeld ?_
      rotate_left
      · (intro wq hSw; (try dsimp only at hSw); (try obtain ⟨s0, s1, s2⟩ := hSw); (go_simp <;> with_reducible rfl))
      try simp only [Act.put, List.getElem_toArray, List.getElem_cons_zero, List.getElem_cons_succ, List.setIfInBounds_toArray, List.set_cons_zero, List.set_cons_succ]
      refine wpAnyH_take (i := 4) (v := ?_) rfl (by kernel_rfl) (by kernel_rfl) (by kernel_rfl) (fun _ _ _ h => h) (Or.inl ⟨by rfl, ?_⟩) hHeld ?_
      rotate_left
      · (intro wq hSw; (try dsimp only at hSw); (try obtain ⟨s0, s1, s2⟩ := hSw); (go_simp <;> with_reducible rfl))
      try simp only [Act.put, List.getElem_toArray, List.getElem_cons_zero, List.getElem_cons_succ, List.setIfInBounds_toArray, List.set_cons_zero, List.set_cons_succ]
      refine wpAnyH_take (i := 5) (v := ?_) rfl (by kernel_rfl) (by kernel_rfl) (by kernel_rfl) (fun _ _ _ h => h) (Or.inl ⟨by rfl, ?_⟩) hHeld ?_
      rotate_left
      · (intro wq hSw; (try dsimp only at hSw); (try obtain ⟨s0, s1, s2⟩ := hSw); (go_simp <;> with_reducible rfl))
      try simp only [Act.put, List.getElem_toArray, List.getElem_cons_zero, List.getElem_cons_succ, List.setIfInBounds_toArray, List.set_cons_zero, List.set_cons_succ]
      refine wpAnyH_take (i := 6) (v := ?_) rfl (by kernel_rfl) (by kernel_rfl) (by kernel_rfl) (fun _ _ _ h => h) (Or.inl ⟨by rfl, ?_⟩) hHeld ?_
      rotate_left
      · (intro wq hSw; (try dsimp only at hSw); (try obtain ⟨s0, s1, s2⟩ := hSw); (go_simp <;> with_reducible rfl))
      try simp only [Act.put, List.getElem_toArray, List.getElem_cons_zero, List.getElem_cons_succ, List.setIfInBounds_toArray, List.set_cons_zero, List.set_cons_succ]
      refine wpAnyH_take (i := 7) (v := ?_) rfl (by kernel_rfl) (by kernel_rfl) (by kernel_rfl) (fun _ _ _ h => h) (Or.inl ⟨by rfl, ?_⟩) hHeld ?_
      rotate_left
      · (intro wq hSw; (try dsimp only at hSw); (try obtain ⟨s0, s1, s2⟩ := hSw); (go_simp <;> with_reducible rfl))
      try simp only [Act.put, List.getElem_toArray, List.getElem_cons_zero, List.getElem_cons_succ, List.setIfInBounds_toArray, List.set_cons_zero, List.set_cons_succ]
      refine wpAnyH_take (i := 8) (v := ?_) rfl (by kernel_rfl) (by kernel_rfl) (by kernel_rfl) (fun _ _ _ h => h) (Or.inl ⟨by rfl, ?_⟩) hHeld ?_
      rotate_left
      · (intro wq hSw; (try dsimp only at hSw); (try obtain ⟨s0, s1, s2⟩ := hSw); (go_simp <;> with_reducible rfl))
      try simp only [Act.put, List.getElem_toArray, List.getElem_cons_zero, List.getElem_cons_succ, List.setIfInBounds_toArray, List.set_cons_zero, List.set_cons_succ]
      refine wpAnyH_ready (rs := [9]) (by kernel_rfl) (by simp) ?_
      refine AllReadyH.cons rfl (fun K hK => ?_) AllReadyH.nil
      go_simp
      have B1 : Below wr.heap.size wr (wr.alloc (.cells #[.int .u64 (y : Int)] 39)).drew := ((Below.refl _ wr).alloc (Nat.le_refl _) _).drew
      have HA : Hid ((wr.alloc (.cells #[.int .u64 (y : Int)] 39)).drew.ownsRow w1.heap.size 39 1 tv i (valsV64 i (fun j => f j ^^^ by_)) ∧ Below w1.heap.size w1 (wr.alloc (.cells #[.int .u64 (y : Int)] 39)).drew ∧ (w1.heap.size ≤ (wr.alloc (.cells #[.int .u64 (y : Int)] 39)).drew.heap.size) ∧ (∀ j u, [Value.int .u64 (y : Int)][j]? = some u → (wr.alloc (.cells #[.int .u64 (y : Int)] 39)).drew.cell? ((⟨wr.heap.size, 0, none⟩ : Addr).add j) = some u)) :=
        ⟨HS.out.1.alloc _, HBr.out.trans (B1.mono HBr.out.size), Nat.le_trans HBr.out.size B1.size, fun j u hj => cell_new1 wr _ 39 j u hj⟩
      have a0 : (wr.alloc (.cells #[.int .u64 (y : Int)] 39)).drew.cell? ⟨w.heap.size, 0, none⟩ = some (.slice (some ⟨rb0, ro, none⟩) n cW) := by rw [B1.cell (p := ⟨w.heap.size, 0, none⟩) (block_lt_of_cell cX0)]; exact cX0
      have a2 : (wr.alloc (.cells #[.int .u64 (y : Int)] 39)).drew.cell? ⟨w.heap.size, 2, none⟩ = some (.int .u64 (by_ : Int)) := by rw [B1.cell (p := ⟨w.heap.size, 2, none⟩) (block_lt_of_cell cX2)]; exact cX2
      have a1 : (wr.alloc (.cells #[.int .u64 (y : Int)] 39)).drew.cell? ⟨rb0, ro + i, none⟩ = some (.int .u64 (x : Int)) := by rw [B1.cell (p := ⟨rb0, ro + i, none⟩) (block_lt_of_cell c1)]; exact c1
      have HB1s : Hid (wr.heap.size < (wr.alloc (.cells #[.int .u64 (y : Int)] 39)).drew.heap.size) := by show _ < (wr.alloc _).heap.size; simp
      generalize (wr.alloc (.cells #[.int .u64 (y : Int)] 39)).drew = wa at *
      refine hK.out _ _ ⟨a0, a2, a1⟩ (fun hHeld => ?_)
      clear hK K B1
      try simp only [Act.put, List.getElem_toArray, List.getElem_cons_zero, List.getElem_cons_succ, List.setIfInBounds_toArray, List.set_cons_zero, List.set_cons_succ]
      refine wpAnyH_ready (rs := [10]) (by kernel_rfl) (by simp) ?_
      refine AllReadyH.cons rfl (fun K hK => ?_) AllReadyH.nil
      obtain ⟨i5, h51, h52, h53, h54⟩ := info64
      refine step_append_lies _ rfl _ _ _ rfl w1.heap.size 39 i5 (.int .u64 0) 1 8 Tryd.underlying28 h51 h52 h53 h54 rfl (by decide) tv i (valsV64 i (fun j => f j ^^^ by_)) (by simp [Act.eval]) HA.out.1 ⟨wr.heap.size, 0, none⟩ 1 1 [.int .u64 (y : Int)] (by simp [Act.eval]) rfl HA.out.2.2.2 (by intro u hu; simp at hu; subst hu; rfl) (by decide) (by unfold maxLen; omega) (by omega) HA.out.2.2.1 _ rfl ?_
      intro g4 cap4 w4 ho4 hg4 hat4 hlt4
      have H4 := USt64.next2 (f := fun j => f j ^^^ by_) (i := i) HS.out.2.2 (fun q hq => (HS.out.1.lt q hq).1) HA.out.2.1 HA.out.2.2.1 HY.out ho4 hg4
      have b0 : w4.cell? ⟨w.heap.size, 0, none⟩ = some (.slice (some ⟨rb0, ro, none⟩) n cW) := by rw [H4.2.1.cell (p := ⟨w.heap.size, 0, none⟩) hX0.out, ← hpe]; exact HX0w1.out
      have b2 : w4.cell? ⟨w.heap.size, 2, none⟩ = some (.int .u64 (by_ : Int)) := by rw [H4.2.1.cell (p := ⟨w.heap.size, 2, none⟩) hX0.out]; exact HX2w1.out
      have b1 : w4.cell? ⟨rb0, ro + i, none⟩ = some (.int .u64 (x : Int)) := by
        obtain ⟨rb1, ro1, hpe1, hc1⟩ := HR64w1.out (by omega)
        rw [hpe] at hpe1
        simp only [Option.some.injEq, Addr.mk.injEq, and_true] at hpe1
        obtain ⟨rfl, rfl⟩ := hpe1
        rw [H4.2.1.cell (p := ⟨rb0, ro + i, none⟩) (block_lt_of_cell (hc1 i hlt)), ← HBr.out.cell (p := ⟨rb0, ro + i, none⟩) (block_lt_of_cell (hc1 i hlt))]; exact c1
      have HH4 := hide H4
      clear ho4 hg4 hat4 hlt4 H4
      refine hK.out _ _ ⟨b0, b2, b1⟩ (fun hHeld => ?_)
      clear hK K
      try simp only [Act.put, List.getElem_toArray, List.getElem_cons_zero, List.getElem_cons_succ, List.setIfInBounds_toArray, List.set_cons_zero, List.set_cons_succ]
      refine wpAnyH_take (i := 11) (v := ?_) rfl (by kernel_rfl) (by kernel_rfl) (by kernel_rfl) (fun _ _ _ h => h) (Or.inl ⟨by rfl, ?_⟩) hHeld ?_
      rotate_left
      · (intro wq hSw; (try dsimp only at hSw); (try obtain ⟨s0, s1, s2⟩ := hSw); (go_simp <;> with_reducible rfl))
      try simp only [Act.put, List.getElem_toArray, List.getElem_cons_zero, List.getElem_cons_succ, List.setIfInBounds_toArray, List.set_cons_zero, List.set_cons_succ]
      refine wpAnyH_done (by kernel_rfl) ?_ _
      go_wp2_with fail
      go_roundw
      case rel => exact ⟨_, i + 1, rfl, by simp, hlt, HH4.out⟩
      case measure => simp [intOf]; omega
    · obtain rfl : n = i := by have := hI.out; omega
      obtain ⟨ad64, cp64, rfl, hcp64, hrow64⟩ := HS.out.row
      have HRow64 := hide hrow64
      clear hrow64 HS
      obtain ⟨wb, hwb⟩ : ∃ wb, wr = wb := ⟨_, rfl⟩
      rw [hwb] at cX0 cX2 HBr HRow64 ⊢
      clear hwb
      have hXs : Hid (w.heap.size < wb.heap.size) := Nat.lt_of_lt_of_le hX0.out HBr.out.size
      have HX2wb : Hid (wb.cell? ⟨w.heap.size, 2, none⟩ = some (.int .u64 (by_ : Int))) := cX2
      have HX1wb : Hid (wb.cell? ⟨w.heap.size, 1, none⟩ = some (.slice pR m cR)) := by show _ = _; rw [HBr.out.cell (p := ⟨w.heap.size, 1, none⟩) hX0.out]; exact HX1w1.out
      have HX0wb : Hid (wb.cell? ⟨w.heap.size, 0, none⟩ = some (.slice pW n cW)) := cX0
      have HR32wb : Hid (URow32 wb pR m g) := HR32w1.out.below HBr.out
      have HR64wb : Hid (URow64 wb pW n f) := HR64w1.out.below HBr.out
      have HBwb : Hid (Below w.heap.size w wb) := HBw1.out.trans (HBr.out.mono HBw1.out.size)
      clear cX2 HBr hI hlt
      go_wp2_with fail
      clear cX0
      go_loopw [5, 6] (fun tw ti wr => ∃ (tv : Value) (i : Nat), tv = tw ∧ ti = .int .i64 (i : Int) ∧ Hid (i ≤ m) ∧ Hid (USt32 wb.heap.size wb (fun j => g j ^^^ bz) i tv wr)) (fun _ ti _ => m - (intOf ti).toNat)
      case atStart => exact ⟨_, 0, rfl, rfl, Nat.zero_le _, USt32.nil _ _⟩
      case round =>
        obtain ⟨tv, i, rfl, rfl, hI, HS⟩ := hrel
        have HBr : Hid (Below wb.heap.size wb wr) := HS.out.2.1
        have cX0 : wr.cell? ⟨w.heap.size, 1, none⟩ = some (.slice pR m cR) := by rw [HBr.out.cell (p := ⟨w.heap.size, 1, none⟩) hXs.out]; exact HX1wb.out
        have cX2 : wr.cell? ⟨w.heap.size, 2, none⟩ = some (.int .u64 (by_ : Int)) := by rw [HBr.out.cell (p := ⟨w.heap.size, 2, none⟩) hXs.out]; exact HX2wb.out
        by_cases hlt : i < m
        · obtain ⟨rb0, ro, hpe, hc⟩ := HR32wb.out (by omega)
          obtain ⟨x, hx⟩ : ∃ x, g i = x := ⟨_, rfl⟩
          have c1 : wr.cell? ⟨rb0, ro + i, none⟩ = some (.int .u32 (x : Int)) := by rw [HBr.out.cell (p := ⟨rb0, ro + i, none⟩) (block_lt_of_cell (hc i hlt)), ← hx]; exact hc i hlt
          have hxl : x < 4294967296 := by rw [← hx]; exact HF32.out i hlt
          obtain ⟨y, hy⟩ : ∃ y, x ^^^ bz = y := ⟨_, rfl⟩
          have q1 : bits BinOp.xor IntKind.u32 (x : Int) (bz : Int) = (y : Int) := by rw [← hy]; exact u32_xor_nat x bz hxl HBZ.out
          have HY : Hid (y = g i ^^^ bz) := by rw [hx]; exact hy.symm
          rw [hpe] at cX0 ⊢
          clear hc hx hxl hy
          go_upto_region 12 with fail
          refine wp_region_held_drew (S := fun w' => w'.cell? ⟨w.heap.size, 1, none⟩ = some (.slice (some ⟨rb0, ro, none⟩) m cR) ∧ w'.cell? ⟨w.heap.size, 2, none⟩ = some (.int .u64 (by_ : Int)) ∧ w'.cell? ⟨rb0, ro + i, none⟩ = some (.int .u32 (x : Int))) (by kernel_rfl) ⟨cX0, cX2, c1⟩ (fun hHeld => ?_)
          refine wpAnyH_take (i := 0) (v := ?_) rfl (by kernel_rfl) (by kernel_rfl) (by kernel_rfl) (fun _ _ _ h => h) (Or.inl ⟨by rfl, ?_⟩) hHeld ?_
          rotate_left
          · (intro wq hSw; (try dsimp only at hSw); (try obtain ⟨s0, s1, s2⟩ := hSw); (go_simp <;> with_reducible rfl))
          try simp only [Act.put, List.getElem_toArray, List.getElem_cons_zero, List.getElem_cons_succ, List.setIfInBounds_toArray, List.set_cons_zero, List.set_cons_succ]
          refine wpAnyH_take (i := 1) (v := ?_) rfl (by kernel_rfl) (by kernel_rfl) (by kernel_rfl) (fun _ _ _ h => h) (Or.inl ⟨by rfl, ?_⟩) hHeld ?_
          rotate_left
          · (intro wq hSw; (try dsimp only at hSw); (try obtain ⟨s0, s1, s2⟩ := hSw); (go_simp <;> with_reducible rfl))
          try simp only [Act.put, List.getElem_toArray, List.getElem_cons_zero, List.getElem_cons_succ, List.setIfInBounds_toArray, List.set_cons_zero, List.set_cons_succ]
          refine wpAnyH_take (i := 2) (v := ?_) rfl (by kernel_rfl) (by kernel_rfl) (by kernel_rfl) (fun _ _ _ h => h) (Or.inl ⟨by rfl, ?_⟩) hHeld ?_
          rotate_left
          · (intro wq hSw; (try dsimp only at hSw); (try obtain ⟨s0, s1, s2⟩ := hSw); (go_simp <;> with_reducible rfl))
          try simp only [Act.put, List.getElem_toArray, List.getElem_cons_zero, List.getElem_cons_succ, List.setIfInBounds_toArray, List.set_cons_zero, List.set_cons_succ]
          refine wpAnyH_take (i := 3) (v := ?_) rfl (by kernel_rfl) (by kernel_rfl) (by kernel_rfl) (fun _ _ _ h => h) (Or.inl ⟨by rfl, ?_⟩) hHeld ?_
          rotate_left
          · (intro wq hSw; (try dsimp only at hSw); (try obtain ⟨s0, s1, s2⟩ := hSw); (go_simp <;> with_reducible rfl))
          try simp only [Act.put, List.getElem_toArray, List.getElem_cons_zero, List.getElem_cons_succ, List.setIfInBounds_toArray, List.set_cons_zero, List.set_cons_succ]
          refine wpAnyH_take (i := 4) (v := ?_) rfl (by kernel_rfl) (by kernel_rfl) (by kernel_rfl) (fun _ _ _ h => h) (Or.inl ⟨by rfl, ?_⟩) hHeld ?_
          rotate_left
          · (intro wq hSw; (try dsimp only at hSw); (try obtain ⟨s0, s1, s2⟩ := hSw); (go_simp <;> with_reducible rfl))
          try simp only [Act.put, List.getElem_toArray, List.getElem_cons_zero, List.getElem_cons_succ, List.setIfInBounds_toArray, List.set_cons_zero, List.set_cons_succ]
          refine wpAnyH_take (i := 5) (v := ?_) rfl (by kernel_rfl) (by kernel_rfl) (by kernel_rfl) (fun _ _ _ h => h) (Or.inl ⟨by rfl, ?_⟩) hHeld ?_
          rotate_left
          · (intro wq hSw; (try dsimp only at hSw); (try obtain ⟨s0, s1, s2⟩ := hSw); (go_simp <;> with_reducible rfl))
          try simp only [Act.put, List.getElem_toArray, List.getElem_cons_zero, List.getElem_cons_succ, List.setIfInBounds_toArray, List.set_cons_zero, List.set_cons_succ]
          refine wpAnyH_take (i := 6) (v := ?_) rfl (by kernel_rfl) (by kernel_rfl) (by kernel_rfl) (fun _ _ _ h => h) (Or.inl ⟨by rfl, ?_⟩) hHeld ?_
          rotate_left
          · (intro wq hSw; (try dsimp only at hSw); (try obtain ⟨s0, s1, s2⟩ := hSw); (go_simp <;> with_reducible rfl))
          try simp only [Act.put, List.getElem_toArray, List.getElem_cons_zero, List.getElem_cons_succ, List.setIfInBounds_toArray, List.set_cons_zero, List.set_cons_succ]
          refine wpAnyH_take (i := 7) (v := ?_) rfl (by kernel_rfl) (by kernel_rfl) (by kernel_rfl) (fun _ _ _ h => h) (Or.inl ⟨by rfl, ?_⟩) hHeld ?_
          rotate_left
          · (intro wq hSw; (try dsimp only at hSw); (try obtain ⟨s0, s1, s2⟩ := hSw); (go_simp <;> with_reducible rfl))
          try simp only [Act.put, List.getElem_toArray, List.getElem_cons_zero, List.getElem_cons_succ, List.setIfInBounds_toArray, List.set_cons_zero, List.set_cons_succ]
          refine wpAnyH_take (i := 8) (v := ?_) rfl (by kernel_rfl) (by kernel_rfl) (by kernel_rfl) (fun _ _ _ h => h) (Or.inl ⟨by rfl, ?_⟩) hHeld ?_
          rotate_left
          · (intro wq hSw; (try dsimp only at hSw); (try obtain ⟨s0, s1, s2⟩ := hSw); (go_simp <;> with_reducible rfl))
          try simp only [Act.put, List.getElem_toArray, List.getElem_cons_zero, List.getElem_cons_succ, List.setIfInBounds_toArray, List.set_cons_zero, List.set_cons_succ]
          refine wpAnyH_take (i := 9) (v := ?_) rfl (by kernel_rfl) (by kernel_rfl) (by kernel_rfl) (fun _ _ _ h => h) (Or.inl ⟨by rfl, ?_⟩) hHeld ?_
          rotate_left
          · (intro wq hSw; (try dsimp only at hSw); (try obtain ⟨s0, s1, s2⟩ := hSw); (go_simp <;> with_reducible rfl))
          try simp only [Act.put, List.getElem_toArray, List.getElem_cons_zero, List.getElem_cons_succ, List.setIfInBounds_toArray, List.set_cons_zero, List.set_cons_succ]
          refine wpAnyH_ready (rs := [10]) (by kernel_rfl) (by simp) ?_
          refine AllReadyH.cons rfl (fun K hK => ?_) AllReadyH.nil
          go_simp
          have B1 : Below wr.heap.size wr (wr.alloc (.cells #[.int .u32 (y : Int)] 42)).drew := ((Below.refl _ wr).alloc (Nat.le_refl _) _).drew
          have HA : Hid ((wr.alloc (.cells #[.int .u32 (y : Int)] 42)).drew.ownsRow wb.heap.size 42 1 tv i (valsV32 i (fun j => g j ^^^ bz)) ∧ Below wb.heap.size wb (wr.alloc (.cells #[.int .u32 (y : Int)] 42)).drew ∧ (wb.heap.size ≤ (wr.alloc (.cells #[.int .u32 (y : Int)] 42)).drew.heap.size) ∧ (∀ j u, [Value.int .u32 (y : Int)][j]? = some u → (wr.alloc (.cells #[.int .u32 (y : Int)] 42)).drew.cell? ((⟨wr.heap.size, 0, none⟩ : Addr).add j) = some u)) :=
            ⟨HS.out.1.alloc _, HBr.out.trans (B1.mono HBr.out.size), Nat.le_trans HBr.out.size B1.size, fun j u hj => cell_new1 wr _ 42 j u hj⟩
          have a0 : (wr.alloc (.cells #[.int .u32 (y : Int)] 42)).drew.cell? ⟨w.heap.size, 1, none⟩ = some (.slice (some ⟨rb0, ro, none⟩) m cR) := by rw [B1.cell (p := ⟨w.heap.size, 1, none⟩) (block_lt_of_cell cX0)]; exact cX0
          have a2 : (wr.alloc (.cells #[.int .u32 (y : Int)] 42)).drew.cell? ⟨w.heap.size, 2, none⟩ = some (.int .u64 (by_ : Int)) := by rw [B1.cell (p := ⟨w.heap.size, 2, none⟩) (block_lt_of_cell cX2)]; exact cX2
          have a1 : (wr.alloc (.cells #[.int .u32 (y : Int)] 42)).drew.cell? ⟨rb0, ro + i, none⟩ = some (.int .u32 (x : Int)) := by rw [B1.cell (p := ⟨rb0, ro + i, none⟩) (block_lt_of_cell c1)]; exact c1
          have HB1s : Hid (wr.heap.size < (wr.alloc (.cells #[.int .u32 (y : Int)] 42)).drew.heap.size) := by show _ < (wr.alloc _).heap.size; simp
          generalize (wr.alloc (.cells #[.int .u32 (y : Int)] 42)).drew = wa at *
          refine hK.out _ _ ⟨a0, a2, a1⟩ (fun hHeld => ?_)
          clear hK K B1
          try simp only [Act.put, List.getElem_toArray, List.getElem_cons_zero, List.getElem_cons_succ, List.setIfInBounds_toArray, List.set_cons_zero, List.set_cons_succ]
          refine wpAnyH_ready (rs := [11]) (by kernel_rfl) (by simp) ?_
          refine AllReadyH.cons rfl (fun K hK => ?_) AllReadyH.nil
          obtain ⟨i5, h51, h52, h53, h54⟩ := info32
          refine step_append_lies _ rfl _ _ _ rfl wb.heap.size 42 i5 (.int .u32 0) 1 4 Tryd.underlying30 h51 h52 h53 h54 rfl (by decide) tv i (valsV32 i (fun j => g j ^^^ bz)) (by simp [Act.eval]) HA.out.1 ⟨wr.heap.size, 0, none⟩ 1 1 [.int .u32 (y : Int)] (by simp [Act.eval]) rfl HA.out.2.2.2 (by intro u hu; simp at hu; subst hu; rfl) (by decide) (by unfold maxLen; omega) (by omega) HA.out.2.2.1 _ rfl ?_
          intro g4 cap4 w4 ho4 hg4 hat4 hlt4
          have H4 := USt32.next2 (f := fun j => g j ^^^ bz) (i := i) HS.out.2.2 (fun q hq => (HS.out.1.lt q hq).1) HA.out.2.1 HA.out.2.2.1 HY.out ho4 hg4
          have b0 : w4.cell? ⟨w.heap.size, 1, none⟩ = some (.slice (some ⟨rb0, ro, none⟩) m cR) := by rw [H4.2.1.cell (p := ⟨w.heap.size, 1, none⟩) hXs.out, ← hpe]; exact HX1wb.out
          have b2 : w4.cell? ⟨w.heap.size, 2, none⟩ = some (.int .u64 (by_ : Int)) := by rw [H4.2.1.cell (p := ⟨w.heap.size, 2, none⟩) hXs.out]; exact HX2wb.out
          have b1 : w4.cell? ⟨rb0, ro + i, none⟩ = some (.int .u32 (x : Int)) := by
            obtain ⟨rb1, ro1, hpe1, hc1⟩ := HR32wb.out (by omega)
            rw [hpe] at hpe1
            simp only [Option.some.injEq, Addr.mk.injEq, and_true] at hpe1
            obtain ⟨rfl, rfl⟩ := hpe1
            rw [H4.2.1.cell (p := ⟨rb0, ro + i, none⟩) (block_lt_of_cell (hc1 i hlt)), ← HBr.out.cell (p := ⟨rb0, ro + i, none⟩) (block_lt_of_cell (hc1 i hlt))]; exact c1
          have HH4 := hide H4
          clear ho4 hg4 hat4 hlt4 H4
          refine hK.out _ _ ⟨b0, b2, b1⟩ (fun hHeld => ?_)
          clear hK K
          try simp only [Act.put, List.getElem_toArray, List.getElem_cons_zero, List.getElem_cons_succ, List.setIfInBounds_toArray, List.set_cons_zero, List.set_cons_succ]
          refine wpAnyH_take (i := 12) (v := ?_) rfl (by kernel_rfl) (by kernel_rfl) (by kernel_rfl) (fun _ _ _ h => h) (Or.inl ⟨by rfl, ?_⟩) hHeld ?_
          rotate_left
          · (intro wq hSw; (try dsimp only at hSw); (try obtain ⟨s0, s1, s2⟩ := hSw); (go_simp <;> with_reducible rfl))
          try simp only [Act.put, List.getElem_toArray, List.getElem_cons_zero, List.getElem_cons_succ, List.setIfInBounds_toArray, List.set_cons_zero, List.set_cons_succ]
          refine wpAnyH_done (by kernel_rfl) ?_ _
          go_wp2_with fail
          go_roundw
          case rel => exact ⟨_, i + 1, rfl, by simp, hlt, HH4.out⟩
          case measure => simp [intOf]; omega
        · obtain rfl : m = i := by have := hI.out; omega
          obtain ⟨ad32, cp32, rfl, hcp32, hrow32⟩ := HS.out.row
          have HRow32 := hide hrow32
          clear hrow32 HS
          have HBwr : Hid (Below w.heap.size w wr) := HBwb.out.trans (HBr.out.mono HBwb.out.size)
          have HTr : Hid (Tab64 wr) := HT.out.below HBwr.out
          have HP1 : Hid (URow64 wr pW n f) := HR64wb.out.below HBr.out
          have HP2 : Hid (URow64 wr ad64 n (fun j => f j ^^^ by_)) := HRow64.out.below HBr.out
          have HP3 : Hid (URow32 wr pR m g) := HR32wb.out.below HBr.out
          have cX : wr.cell? ⟨w.heap.size, 0, none⟩ = some (.slice pW n cW) := by rw [HBr.out.cell (p := ⟨w.heap.size, 0, none⟩) hXs.out]; exact HX0wb.out
          clear HBr hI hlt cX2
          go_wp2_with fail
          refine (pack64_ok pW n cW f wr HP1.out (by omega) hcW HF64.out HTr.out).mono ?_
          rintro e w3 ⟨g3, L3, hL3, hg3, rfl, G3, B3⟩
          have HB3 : Hid (Below wr.heap.size wr w3) := B3
          have cX0 : w3.cell? ⟨w.heap.size, 1, none⟩ = some (.slice pR m cR) := by rw [B3.cell (p := ⟨w.heap.size, 1, none⟩) (block_lt_of_cell cX0)]; exact cX0
          clear B3 cX
          have HL3 := hide hL3
          have HG3 := hide G3
          clear hL3 G3
          go_wp2_with fail
          refine (pack64_ok ad64 n cp64 (fun j => f j ^^^ by_) w3 (HP2.out.below HB3.out) (by omega) hcp64 (fun q hq => xor_lt 64 _ _ (HF64.out q hq) hby) (HTr.out.below HB3.out)).mono ?_
          rintro e w4 ⟨g4, L4, hL4, hg4, rfl, G4, B4⟩
          have HB4 : Hid (Below wr.heap.size wr w4) := HB3.out.trans (B4.mono HB3.out.size)
          have HG3 : Hid (w4.heap[g3]? = some (.cells (bytesV (packed (cbn 64 6 f n))).toArray 5 (0, 0))) := by show _ = _; rw [B4.block g3 (size_lt_of_row HG3.out)]; exact HG3.out
          have cX0 : w4.cell? ⟨w.heap.size, 1, none⟩ = some (.slice pR m cR) := by rw [B4.cell (p := ⟨w.heap.size, 1, none⟩) (block_lt_of_cell cX0)]; exact cX0
          clear B4
          have HL4 := hide hL4
          have HG4 := hide G4
          clear hL4 G4
          go_wp2_with fail
          refine (pack32_ok pR m cR g w4 (HP3.out.below HB4.out) (by omega) hcR HF32.out (HTr.out.below HB4.out)).mono ?_
          rintro e w5 ⟨g5, L5, hL5, hg5, rfl, G5, B5⟩
          have HB5 : Hid (Below wr.heap.size wr w5) := HB4.out.trans (B5.mono HB4.out.size)
          have HG3 : Hid (w5.heap[g3]? = some (.cells (bytesV (packed (cbn 64 6 f n))).toArray 5 (0, 0))) := by show _ = _; rw [B5.block g3 (size_lt_of_row HG3.out)]; exact HG3.out
          have HG4 : Hid (w5.heap[g4]? = some (.cells (bytesV (packed (cbn 64 6 (fun j => f j ^^^ by_) n))).toArray 5 (0, 0))) := by show _ = _; rw [B5.block g4 (size_lt_of_row HG4.out)]; exact HG4.out
          clear B5 cX0
          have HL5 := hide hL5
          have HG5 := hide G5
          clear hL5 G5
          go_wp2_with fail
          refine (pack32_ok ad32 m cp32 (fun j => g j ^^^ bz) w5 (HRow32.out.below HB5.out) (by omega) hcp32 (fun q hq => xor_lt 32 _ _ (HF32.out q hq) HBZ.out) (HTr.out.below HB5.out)).mono ?_
          rintro e w6 ⟨g6, L6, hL6, hg6, rfl, G6, B6⟩
          have HB6 : Hid (Below wr.heap.size wr w6) := HB5.out.trans (B6.mono HB5.out.size)
          have HG3 : Hid (w6.heap[g3]? = some (.cells (bytesV (packed (cbn 64 6 f n))).toArray 5 (0, 0))) := by show _ = _; rw [B6.block g3 (size_lt_of_row HG3.out)]; exact HG3.out
          have HG4 : Hid (w6.heap[g4]? = some (.cells (bytesV (packed (cbn 64 6 (fun j => f j ^^^ by_) n))).toArray 5 (0, 0))) := by show _ = _; rw [B6.block g4 (size_lt_of_row HG4.out)]; exact HG4.out
          have HG5 : Hid (w6.heap[g5]? = some (.cells (bytesV (packed (cbn 32 5 g m))).toArray 5 (0, 0))) := by show _ = _; rw [B6.block g5 (size_lt_of_row HG5.out)]; exact HG5.out
          clear B6
          have HL6 := hide hL6
          have HG6 := hide G6
          clear hL6 G6
          have HTA := hide (turn_all 64 6 by_ 8 f (fun j => f j ^^^ by_) n rfl (fun _ _ => rfl))
          have HTB := hide (turn_all 32 5 bz 4 g (fun j => g j ^^^ bz) m rfl (fun _ _ => rfl))
          obtain rfl : L4 = L3 := by rw [HL4.out, HL3.out]; exact HTA.out.1
          obtain rfl : L6 = L5 := by rw [HL6.out, HL5.out]; exact HTB.out.1
          have HBf : Hid (Below w.heap.size w w6) := HBwr.out.trans (HB6.out.mono HBwr.out.size)
          go_wp2_with fail
          refine (num_any _ _).mono ?_
          rintro e wn ⟨rfl, hwn⟩
          have hwn := hwn.symm
          subst hwn
          go_wp2_with fail
          refine (num_any _ _).mono ?_
          rintro e wn ⟨rfl, hwn⟩
          have hwn := hwn.symm
          subst hwn
          go_wp2_with fail
          refine (num_any _ _).mono ?_
          rintro e wn ⟨rfl, hwn⟩
          have hwn := hwn.symm
          subst hwn
          go_wp2_with fail
          refine (num_any _ _).mono ?_
          rintro e wn ⟨rfl, hwn⟩
          have hwn := hwn.symm
          subst hwn
          go_wp2_with fail
          obtain ⟨sA, hsA⟩ : ∃ sA, sA = strOf ((packed (cbn 64 6 f n)).drop 8) := ⟨_, rfl⟩
          obtain ⟨sB, hsB⟩ : ∃ sB, sB = strOf ((packed (cbn 32 5 g m)).drop 4) := ⟨_, rfl⟩
          have vA1 : 8 ≤ L4 → ∀ N, (convert 34 9 (sl8 g3 8 L4)).run Tryd.prog (w6.drewN N) = .ok (.string sA) (w6.drewN N) := fun h N => by rw [hsA, HL3.out]; exact convert_by _ _ _ (isBy_cut HG3.out 8 (by rw [← HL3.out]; exact h))
          have vA2 : 8 ≤ L4 → ∀ N, (convert 34 9 (sl8 g4 8 L4)).run Tryd.prog (w6.drewN N) = .ok (.string sA) (w6.drewN N) := fun h N => by rw [hsA, ← HTA.out.2.1, HL4.out]; exact convert_by _ _ _ (isBy_cut HG4.out 8 (by rw [← HL4.out]; exact h))
          have vB1 : 4 ≤ L6 → ∀ N, (convert 34 9 (sl8 g5 4 L6)).run Tryd.prog (w6.drewN N) = .ok (.string sB) (w6.drewN N) := fun h N => by rw [hsB, HL5.out]; exact convert_by _ _ _ (isBy_cut HG5.out 4 (by rw [← HL5.out]; exact h))
          have vB2 : 4 ≤ L6 → ∀ N, (convert 34 9 (sl8 g6 4 L6)).run Tryd.prog (w6.drewN N) = .ok (.string sB) (w6.drewN N) := fun h N => by rw [hsB, ← HTB.out.2.1, HL6.out]; exact convert_by _ _ _ (isBy_cut HG6.out 4 (by rw [← HL6.out]; exact h))
          have HVA := hide (And.intro vA1 vA2)
          have HVB := hide (And.intro vB1 vB2)
          have HSS := hide (And.intro hsA hsB)
          clear vA1 vA2 vB1 vB2 hsA hsB
          rcases (show L4 < 8 ∨ L4 = 8 ∨ 8 < L4 by omega) with hA | hA | hA <;> rcases (show L6 < 4 ∨ L6 = 4 ∨ 4 < L6 by omega) with hB | hB | hB
          · have kL4 : decide ((L4 : Int) < 8) = true := by simp; omega
            have lL4 : decide (L4 < 8) = true := by simp; omega
            have kL6 : decide ((L6 : Int) < 4) = true := by simp; omega
            have lL6 : decide (L6 < 4) = true := by simp; omega
            go_wp2_with fail
            go_quiet (fail)
            go_wp2_with fail
            go_ret
            exact ⟨rfl, below_drewN HBf.out _⟩
          · have kL4 : decide ((L4 : Int) < 8) = true := by simp; omega
            have lL4 : decide (L4 < 8) = true := by simp; omega
            obtain ⟨cL6a, cL6b⟩ := And.intro (HVB.out.1 (by omega)) (HVB.out.2 (by omega))
            rw [show sl8 g5 4 L6 = .slice (some ⟨g5, 0, none⟩) 0 0 from by rw [hB]; rfl] at cL6a
            rw [show sl8 g6 4 L6 = .slice (some ⟨g6, 0, none⟩) 0 0 from by rw [hB]; rfl] at cL6b
            subst hB
            go_wp2_with fail
            go_quiet (fail)
            go_wp2_with fail
            go_ret
            exact ⟨rfl, below_drewN HBf.out _⟩
          · have kL4 : decide ((L4 : Int) < 8) = true := by simp; omega
            have lL4 : decide (L4 < 8) = true := by simp; omega
            obtain ⟨cL6a, cL6b⟩ := And.intro (HVB.out.1 (by omega)) (HVB.out.2 (by omega))
            rw [show sl8 g5 4 L6 = .slice (some ⟨g5, 4, none⟩) (L6 - 4) (L6 - 4) from if_neg (by omega)] at cL6a
            rw [show sl8 g6 4 L6 = .slice (some ⟨g6, 4, none⟩) (L6 - 4) (L6 - 4) from if_neg (by omega)] at cL6b
            have nL6 : 4 ≤ L6 := by omega
            have mL6 : ¬ L6 = 4 := by omega
            have kL6 : decide ((L6 : Int) < 4) = false := by simp; omega
            have lL6 : decide (L6 < 4) = false := by simp; omega
            go_wp2_with fail
            go_quiet (fail)
            go_wp2_with fail
            go_ret
            exact ⟨rfl, below_drewN HBf.out _⟩
          · obtain ⟨cL4a, cL4b⟩ := And.intro (HVA.out.1 (by omega)) (HVA.out.2 (by omega))
            rw [show sl8 g3 8 L4 = .slice (some ⟨g3, 0, none⟩) 0 0 from by rw [hA]; rfl] at cL4a
            rw [show sl8 g4 8 L4 = .slice (some ⟨g4, 0, none⟩) 0 0 from by rw [hA]; rfl] at cL4b
            have kL6 : decide ((L6 : Int) < 4) = true := by simp; omega
            have lL6 : decide (L6 < 4) = true := by simp; omega
            subst hA
            go_wp2_with fail
            go_quiet (fail)
            go_wp2_with fail
            go_ret
            exact ⟨rfl, below_drewN HBf.out _⟩
          · obtain ⟨cL4a, cL4b⟩ := And.intro (HVA.out.1 (by omega)) (HVA.out.2 (by omega))
            rw [show sl8 g3 8 L4 = .slice (some ⟨g3, 0, none⟩) 0 0 from by rw [hA]; rfl] at cL4a
            rw [show sl8 g4 8 L4 = .slice (some ⟨g4, 0, none⟩) 0 0 from by rw [hA]; rfl] at cL4b
            obtain ⟨cL6a, cL6b⟩ := And.intro (HVB.out.1 (by omega)) (HVB.out.2 (by omega))
            rw [show sl8 g5 4 L6 = .slice (some ⟨g5, 0, none⟩) 0 0 from by rw [hB]; rfl] at cL6a
            rw [show sl8 g6 4 L6 = .slice (some ⟨g6, 0, none⟩) 0 0 from by rw [hB]; rfl] at cL6b
            subst hA
            subst hB
            go_wp2_with fail
            go_quiet (fail)
            go_wp2_with fail
            go_ret
            exact ⟨rfl, below_drewN HBf.out _⟩
          · obtain ⟨cL4a, cL4b⟩ := And.intro (HVA.out.1 (by omega)) (HVA.out.2 (by omega))
            rw [show sl8 g3 8 L4 = .slice (some ⟨g3, 0, none⟩) 0 0 from by rw [hA]; rfl] at cL4a
            rw [show sl8 g4 8 L4 = .slice (some ⟨g4, 0, none⟩) 0 0 from by rw [hA]; rfl] at cL4b
            obtain ⟨cL6a, cL6b⟩ := And.intro (HVB.out.1 (by omega)) (HVB.out.2 (by omega))
            rw [show sl8 g5 4 L6 = .slice (some ⟨g5, 4, none⟩) (L6 - 4) (L6 - 4) from if_neg (by omega)] at cL6a
            rw [show sl8 g6 4 L6 = .slice (some ⟨g6, 4, none⟩) (L6 - 4) (L6 - 4) from if_neg (by omega)] at cL6b
            have nL6 : 4 ≤ L6 := by omega
            have mL6 : ¬ L6 = 4 := by omega
            have kL6 : decide ((L6 : Int) < 4) = false := by simp; omega
            have lL6 : decide (L6 < 4) = false := by simp; omega
            subst hA
            go_wp2_with fail
            go_quiet (fail)
            go_wp2_with fail
            go_ret
            exact ⟨rfl, below_drewN HBf.out _⟩
          · obtain ⟨cL4a, cL4b⟩ := And.intro (HVA.out.1 (by omega)) (HVA.out.2 (by omega))
            rw [show sl8 g3 8 L4 = .slice (some ⟨g3, 8, none⟩) (L4 - 8) (L4 - 8) from if_neg (by omega)] at cL4a
            rw [show sl8 g4 8 L4 = .slice (some ⟨g4, 8, none⟩) (L4 - 8) (L4 - 8) from if_neg (by omega)] at cL4b
            have nL4 : 8 ≤ L4 := by omega
            have mL4 : ¬ L4 = 8 := by omega
            have kL4 : decide ((L4 : Int) < 8) = false := by simp; omega
            have lL4 : decide (L4 < 8) = false := by simp; omega
            have kL6 : decide ((L6 : Int) < 4) = true := by simp; omega
            have lL6 : decide (L6 < 4) = true := by simp; omega
            go_wp2_with fail
            go_quiet (fail)
            go_wp2_with fail
            go_ret
            exact ⟨rfl, below_drewN HBf.out _⟩
          · obtain ⟨cL4a, cL4b⟩ := And.intro (HVA.out.1 (by omega)) (HVA.out.2 (by omega))
            rw [show sl8 g3 8 L4 = .slice (some ⟨g3, 8, none⟩) (L4 - 8) (L4 - 8) from if_neg (by omega)] at cL4a
            rw [show sl8 g4 8 L4 = .slice (some ⟨g4, 8, none⟩) (L4 - 8) (L4 - 8) from if_neg (by omega)] at cL4b
            have nL4 : 8 ≤ L4 := by omega
            have mL4 : ¬ L4 = 8 := by omega
            have kL4 : decide ((L4 : Int) < 8) = false := by simp; omega
            have lL4 : decide (L4 < 8) = false := by simp; omega
            obtain ⟨cL6a, cL6b⟩ := And.intro (HVB.out.1 (by omega)) (HVB.out.2 (by omega))
            rw [show sl8 g5 4 L6 = .slice (some ⟨g5, 0, none⟩) 0 0 from by rw [hB]; rfl] at cL6a
            rw [show sl8 g6 4 L6 = .slice (some ⟨g6, 0, none⟩) 0 0 from by rw [hB]; rfl] at cL6b
            subst hB
            go_wp2_with fail
            go_quiet (fail)
            go_wp2_with fail
            go_ret
            exact ⟨rfl, below_drewN HBf.out _⟩
          · obtain ⟨cL4a, cL4b⟩ := And.intro (HVA.out.1 (by omega)) (HVA.out.2 (by omega))
            rw [show sl8 g3 8 L4 = .slice (some ⟨g3, 8, none⟩) (L4 - 8) (L4 - 8) from if_neg (by omega)] at cL4a
            rw [show sl8 g4 8 L4 = .slice (some ⟨g4, 8, none⟩) (L4 - 8) (L4 - 8) from if_neg (by omega)] at cL4b
            have nL4 : 8 ≤ L4 := by omega
            have mL4 : ¬ L4 = 8 := by omega
            have kL4 : decide ((L4 : Int) < 8) = false := by simp; omega
            have lL4 : decide (L4 < 8) = false := by simp; omega
            obtain ⟨cL6a, cL6b⟩ := And.intro (HVB.out.1 (by omega)) (HVB.out.2 (by omega))
            rw [show sl8 g5 4 L6 = .slice (some ⟨g5, 4, none⟩) (L6 - 4) (L6 - 4) from if_neg (by omega)] at cL6a
            rw [show sl8 g6 4 L6 = .slice (some ⟨g6, 4, none⟩) (L6 - 4) (L6 - 4) from if_neg (by omega)] at cL6b
            have nL6 : 4 ≤ L6 := by omega
            have mL6 : ¬ L6 = 4 := by omega
            have kL6 : decide ((L6 : Int) < 4) = false := by simp; omega
            have lL6 : decide (L6 < 4) = false := by simp; omega
            go_wp2_with fail
            go_quiet (fail)
            go_wp2_with fail
            go_ret
            exact ⟨rfl, below_drewN HBf.out _⟩

end Go.Proofs.YtenhippcjnemcaaDoor

/- CodeMoves: the walk. -/
import Derived.Test.YtgjjkopmoobilaaGreatDoorC7N
import Derived.Test.YtgjjkopmoobilaaGreatDoorC5O
import Derived.Deep.CutBlock
import Derived.Deep.DeepCutAuto
import Derived.Deep.CutRange
namespace Go.Proofs.YtgjjkopmoobilaaGreatDoor
open Go.RowKit
open M
set_option linter.unusedVariables false
set_option linter.unusedSimpArgs false

theorem T3.step64 {B : Nat} {w0 wr w4 : World} {i n2 n3 g cap t : Nat} {f : Nat → Nat} {x2 x3 : List Value} {v1 v2 v3 : Value} (h : T3 B 39 w0 wr i n2 n3 (valsV64 i f) x2 x3 v1 v2 v3) (ht : t = f i)
    (ho : w4.ownsRow B 39 1 (.slice (some ⟨g, 0, none⟩) (i + 1) cap) (i + 1) (valsV64 i f ++ [.int .u64 (t : Int)])) (hg : wr.grownBy w4 v1.ownBlock) (hat : v1.ownBlock = some g ∨ g = wr.heap.size) :
    T3 B 39 w0 w4 (i + 1) n2 n3 (valsV64 (i + 1) f) x2 x3 (.slice (some ⟨g, 0, none⟩) (i + 1) cap) v2 v3 := by
  subst ht; rw [valsV64_succ]; exact h.step ho hg hat

theorem T3.step32 {B : Nat} {w0 wr w4 : World} {i n2 n3 g cap t : Nat} {f : Nat → Nat} {x2 x3 : List Value} {v1 v2 v3 : Value} (h : T3 B 42 w0 wr i n2 n3 (valsV32 i f) x2 x3 v1 v2 v3) (ht : t = f i)
    (ho : w4.ownsRow B 42 1 (.slice (some ⟨g, 0, none⟩) (i + 1) cap) (i + 1) (valsV32 i f ++ [.int .u32 (t : Int)])) (hg : wr.grownBy w4 v1.ownBlock) (hat : v1.ownBlock = some g ∨ g = wr.heap.size) :
    T3 B 42 w0 w4 (i + 1) n2 n3 (valsV32 (i + 1) f) x2 x3 (.slice (some ⟨g, 0, none⟩) (i + 1) cap) v2 v3 := by
  subst ht; rw [valsV32_succ]; exact h.step ho hg hat

/-- What stands when all columns are made. -/
structure MvSt (w : World) (pW pR a1 a2 a3 b1 b2 b3 : Option Addr) (n cW m cR by_ bz : Nat) (f g : Nat → Nat) (wy : World) : Prop where
  box : wy.cell? ⟨w.heap.size, 0, none⟩ = some (.slice pW n cW) ∧ wy.cell? ⟨w.heap.size, 1, none⟩ = some (.slice pR m cR)
  r0 : URow64 wy pW n f
  r1 : URow64 wy a1 n (fun j => (f j + by_) % 18446744073709551616)
  r2 : URow64 wy a2 n (fun j => f (n - 1 - j))
  r3 : URow64 wy a3 n (fun j => f j ^^^ by_)
  q0 : URow32 wy pR m g
  q1 : URow32 wy b1 m (fun j => (g j + bz) % 4294967296)
  q2 : URow32 wy b2 m (fun j => g (m - 1 - j))
  q3 : URow32 wy b3 m (fun j => g j ^^^ bz)
  tab : Tab64 wy

theorem MvSt.below {w : World} {pW pR a1 a2 a3 b1 b2 b3 : Option Addr} {n cW m cR by_ bz : Nat} {f g : Nat → Nat} {wy wz : World} (h : MvSt w pW pR a1 a2 a3 b1 b2 b3 n cW m cR by_ bz f g wy) (hB : Below wy.heap.size wy wz) : MvSt w pW pR a1 a2 a3 b1 b2 b3 n cW m cR by_ bz f g wz :=
  ⟨⟨by rw [hB.cell (p := ⟨w.heap.size, 0, none⟩) (block_lt_of_cell h.box.1)]; exact h.box.1, by rw [hB.cell (p := ⟨w.heap.size, 1, none⟩) (block_lt_of_cell h.box.2)]; exact h.box.2⟩, h.r0.below hB, h.r1.below hB, h.r2.below hB, h.r3.below hB, h.q0.below hB, h.q1.below hB, h.q2.below hB, h.q3.below hB, h.tab.below hB⟩

set_option maxRecDepth 100000 in
set_option maxHeartbeats 8000000 in
theorem moves8_any (u0 u1 : Value) (by_ : Nat) (w : World) (hby : by_ < 18446744073709551616) (hU : IsU64 w u0) (hV : IsU32 w u1) (hT : Tab64 w) :
    Calls Tryz.prog 7 #[.agg #[u0, u1, .int .u64 (by_ : Int)]] w fun e w' => e = .returned (.bool true) ∧ Below w.heap.size w w' := by
  obtain ⟨pW, n, cW, f, rfl, hnM, hcW, RW, hf⟩ := hU
  obtain ⟨pR, m, cR, g, rfl, hmM, hcR, RR, hg⟩ := hV
  have HX : Hid ((w.alloc (.cells #[.slice pW n cW, .slice pR m cR, .int .u64 (by_ : Int)] 66)).heap[w.heap.size]? = some (.cells #[.slice pW n cW, .slice pR m cR, .int .u64 (by_ : Int)] 66 (0, 0))) := heap_alloc_new _ _
  have HB0 : Hid (Below w.heap.size w (w.alloc (.cells #[.slice pW n cW, .slice pR m cR, .int .u64 (by_ : Int)] 66))) := (Below.refl _ _).alloc (Nat.le_refl _) _
  have HF64 := hide hf
  have HF32 := hide hg
  have HRW := hide RW
  have HRR := hide RR
  have HT := hide hT
  clear hf hg RW RR hT
  by_cases hn : 500 < n
  · go_enter Tryz.func7, Tryz.ntmps7
    go_wp2_with fail
    generalize w.alloc (.cells #[.slice pW n cW, .slice pR m cR, .int .u64 (by_ : Int)] 66) = w0 at *
    refine (works8_any w0 (HT.out.below HB0.out)).mono ?_
    rintro e w' ⟨rfl, hB⟩
    have HB := hide hB
    clear hB
    go_wp2_with fail
    go_ret
    exact ⟨rfl, HB0.out.trans (HB.out.mono HB0.out.size)⟩
  by_cases hm : 500 < m
  · go_enter Tryz.func7, Tryz.ntmps7
    go_wp2_with fail
    generalize w.alloc (.cells #[.slice pW n cW, .slice pR m cR, .int .u64 (by_ : Int)] 66) = w0 at *
    refine (works8_any w0 (HT.out.below HB0.out)).mono ?_
    rintro e w' ⟨rfl, hB⟩
    have HB := hide hB
    clear hB
    go_wp2_with fail
    go_ret
    exact ⟨rfl, HB0.out.trans (HB.out.mono HB0.out.size)⟩
  obtain ⟨bz, hbz⟩ : ∃ bz : Nat, bz = by_ % 4294967296 := ⟨_, rfl⟩
  have z1 : IntKind.u32.wrap (by_ : Int) = (bz : Int) := by rw [hbz, IntKind.wrap_u32]; omega
  have HBZ : Hid (bz < 4294967296) := by rw [hbz]; exact Nat.mod_lt _ (by omega)
  clear hbz
  have hn5 : n ≤ 500 := by omega
  have hm5 : m ≤ 500 := by omega
  clear hnM hmM
  go_enter Tryz.func7, Tryz.ntmps7
  go_wp2_with fail
  generalize w.alloc (.cells #[.slice pW n cW, .slice pR m cR, .int .u64 (by_ : Int)] 66) = w0 at *
  refine (works8_any w0 (HT.out.below HB0.out)).mono ?_
  rintro e w1 ⟨rfl, B1⟩
  have h0s : w.heap.size < w0.heap.size := size_lt_of_row HX.out
  have hXw1 : Hid (w.heap.size < w1.heap.size) := Nat.lt_of_lt_of_le h0s B1.size
  have HX0w1 : Hid (w1.cell? ⟨w.heap.size, 0, none⟩ = some (.slice pW n cW)) := by show _ = _; rw [B1.cell (p := ⟨w.heap.size, 0, none⟩) h0s, cell_of_row _ _ _ _ _ _ HX.out]; rfl
  have HX1w1 : Hid (w1.cell? ⟨w.heap.size, 1, none⟩ = some (.slice pR m cR)) := by show _ = _; rw [B1.cell (p := ⟨w.heap.size, 1, none⟩) h0s, cell_of_row _ _ _ _ _ _ HX.out]; rfl
  have HX2w1 : Hid (w1.cell? ⟨w.heap.size, 2, none⟩ = some (.int .u64 (by_ : Int))) := by show _ = _; rw [B1.cell (p := ⟨w.heap.size, 2, none⟩) h0s, cell_of_row _ _ _ _ _ _ HX.out]; rfl
  have HBw1 : Hid (Below w.heap.size w w1) := HB0.out.trans (B1.mono HB0.out.size)
  have HR64w1 : Hid (URow64 w1 pW n f) := HRW.out.below HBw1.out
  have HR32w1 : Hid (URow32 w1 pR m g) := HRR.out.below HBw1.out
  have HTw1 : Hid (Tab64 w1) := HT.out.below HBw1.out
  clear B1 h0s HX HB0 HT HRW HRR
  have HBY := hide hby
  clear hn hm
  go_upto_block 0 with fail
  go_cut [3, 4, 5] from 9 (fun t1 t2 t3 wc => Hid (T3 w1.heap.size 39 w1 wc (n) (n) (n) (valsV64 (n) (fun j => (f j + by_) % 18446744073709551616)) (valsV64 (n) (fun j => f (n - 1 - j))) (valsV64 (n) (fun j => f j ^^^ by_)) t1 t2 t3))
  case first =>
    as_aux_lemma =>
      go_wp2_with fail
      obtain ⟨i5, hi5⟩ := info64
      have Hi := hide hi5
      clear hi5
      go_loopw [3, 4, 5, 9] (fun s1 s2 s3 ti wr => ∃ (t1 t2 t3 : Value) (i : Nat), t1 = s1 ∧ t2 = s2 ∧ t3 = s3 ∧ ti = .int .i64 (i : Int) ∧ Hid (i ≤ n) ∧ Hid (T3 w1.heap.size 39 w1 wr (i) (i) (i) (valsV64 (i) (fun j => (f j + by_) % 18446744073709551616)) (valsV64 (i) (fun j => f (n - 1 - j))) (valsV64 (i) (fun j => f j ^^^ by_)) t1 t2 t3)) (fun _ _ _ ti _ => n - (intOf ti).toNat)
      case atStart => exact ⟨_, _, _, 0, rfl, rfl, rfl, rfl, Nat.zero_le _, T3.nil _ _⟩
      case round =>
        obtain ⟨t1, t2, t3, i, rfl, rfl, rfl, rfl, hI, HTwr⟩ := hrel
        by_cases hlt : i < n
        · obtain ⟨rb0, ro, hpe, hc⟩ := HR64w1.out (by omega)
          obtain ⟨x, hx⟩ : ∃ x, f i = x := ⟨_, rfl⟩
          obtain ⟨z, hz⟩ : ∃ z, f (n - 1 - i) = z := ⟨_, rfl⟩
          obtain ⟨r, hr⟩ : ∃ r, n - 1 - i = r := ⟨_, rfl⟩
          have HC0 : Hid (w1.cell? ⟨w.heap.size, 0, none⟩ = some (.slice (some ⟨rb0, ro, none⟩) n cW)) := by show _ = _; rw [← hpe]; exact HX0w1.out
          have HC1 : Hid (w1.cell? ⟨rb0, ro + i, none⟩ = some (.int .u64 (x : Int))) := by show _ = _; rw [← hx]; exact hc i hlt
          have HC2 : Hid (w1.cell? ⟨rb0, ro + r, none⟩ = some (.int .u64 (z : Int))) := by show _ = _; rw [← hz, hr]; exact hc r (by omega)
          have hxl : x < 18446744073709551616 := by rw [← hx]; exact HF64.out i hlt
          obtain ⟨y1, hy1⟩ : ∃ y1, (x + by_) % 18446744073709551616 = y1 := ⟨_, rfl⟩
          obtain ⟨y3, hy3⟩ : ∃ y3, x ^^^ by_ = y3 := ⟨_, rfl⟩
          have q1 : IntKind.u64.wrap ((x : Int) + (by_ : Int)) = (y1 : Int) := by rw [← hy1, IntKind.wrap_u64]; simp
          have q3 : bits BinOp.xor IntKind.u64 (x : Int) (by_ : Int) = (y3 : Int) := by rw [← hy3]; exact u64_xor_nat x by_ hxl HBY.out
          have HY1 : Hid (y1 = (f i + by_) % 18446744073709551616) := by rw [hx]; exact hy1.symm
          have HY2 : Hid (z = f (n - 1 - i)) := hz.symm
          have HY3 : Hid (y3 = f i ^^^ by_) := by rw [hx]; exact hy3.symm
          have hsub : (n : Int) - 1 - (i : Int) = (r : Int) := by omega
          have hsub2 : ((n - 1 : Nat) : Int) - (i : Int) = (r : Int) := by omega
          have hrn : r < n := by omega
          have HPE := hide hpe
          clear hc hx hz hr hxl hy1 hy3 hpe
          have cXa : wr.cell? ⟨w.heap.size, 0, none⟩ = some (.slice (some ⟨rb0, ro, none⟩) n cW) := by rw [HTwr.out.bel.cell (p := ⟨w.heap.size, 0, none⟩) hXw1.out]; exact HC0.out
          have cYa : wr.cell? ⟨w.heap.size, 2, none⟩ = some (.int .u64 (by_ : Int)) := by rw [HTwr.out.bel.cell (p := ⟨w.heap.size, 2, none⟩) hXw1.out]; exact HX2w1.out
          have cVa : wr.cell? ⟨rb0, ro + i, none⟩ = some (.int .u64 (x : Int)) := by rw [HTwr.out.bel.cell (p := ⟨rb0, ro + i, none⟩) (block_lt_of_cell HC1.out)]; exact HC1.out
          go_upto_region 8 with fail
          refine wp_region_held_drew (S := fun w' => w'.cell? ⟨w.heap.size, 0, none⟩ = some (.slice (some ⟨rb0, ro, none⟩) n cW) ∧ w'.cell? ⟨w.heap.size, 2, none⟩ = some (.int .u64 (by_ : Int)) ∧ w'.cell? ⟨rb0, ro + i, none⟩ = some (.int .u64 (x : Int))) (by kernel_rfl) ⟨cXa, cYa, cVa⟩ (fun hHeld => ?_)
          refine wpAnyH_take (i := 0) (v := ?_) rfl (by kernel_rfl) (by kernel_rfl) (by kernel_rfl) (fun _ _ _ h => h) (Or.inl ⟨by rfl, ?_⟩) hHeld ?_
          rotate_left
          · (intro wq hSw; (try dsimp only at hSw); (try obtain ⟨s0, s1, s2⟩ := hSw); (go_simp <;> with_reducible rfl))
          try simp only [Act.put, List.getElem_toArray, List.getElem_cons_zero, List.getElem_cons_succ, List.setIfInBounds_toArray, List.set_cons_zero, List.set_cons_succ]
          refine wpAnyH_take (i := 1) (v := ?_) rfl (by kernel_rfl) (by kernel_rfl) (by kernel_rfl) (fun _ _ _ h => h) (Or.inl ⟨by rfl, ?_⟩) hHeld ?_
          rotate_left
          · (intro wq hSw; (try dsimp only at hSw); (try obtain ⟨s0, s1, s2⟩ := hSw); (go_simp <;> with_reducible rfl))
          try simp only [Act.put, List.getElem_toArray, List.getElem_cons_zero, List.getElem_cons_succ, List.setIfInBounds_toArray, List.set_cons_zero, List.set_cons_succ]
          refine wpAnyH_take (i := 2) (v := ?_) rfl (by kernel_rfl) (by kernel_rfl) (by kernel_rfl) (fun _ _ _ h => h) (Or.inl ⟨by rfl, ?_⟩) hHeld ?_
          rotate_left
          · (intro wq hSw; (try dsimp only at hSw); (try obtain ⟨s0, s1, s2⟩ := hSw); (go_simp <;> with_reducible rfl))
          try simp only [Act.put, List.getElem_toArray, List.getElem_cons_zero, List.getElem_cons_succ, List.setIfInBounds_toArray, List.set_cons_zero, List.set_cons_succ]
          refine wpAnyH_take (i := 3) (v := ?_) rfl (by kernel_rfl) (by kernel_rfl) (by kernel_rfl) (fun _ _ _ h => h) (Or.inl ⟨by rfl, ?_⟩) hHeld ?_
          rotate_left
          · (intro wq hSw; (try dsimp only at hSw); (try obtain ⟨s0, s1, s2⟩ := hSw); (go_simp <;> with_reducible rfl))
          try simp only [Act.put, List.getElem_toArray, List.getElem_cons_zero, List.getElem_cons_succ, List.setIfInBounds_toArray, List.set_cons_zero, List.set_cons_succ]
          refine wpAnyH_take (i := 4) (v := ?_) rfl (by kernel_rfl) (by kernel_rfl) (by kernel_rfl) (fun _ _ _ h => h) (Or.inl ⟨by rfl, ?_⟩) hHeld ?_
          rotate_left
          · (intro wq hSw; (try dsimp only at hSw); (try obtain ⟨s0, s1, s2⟩ := hSw); (go_simp <;> with_reducible rfl))
          try simp only [Act.put, List.getElem_toArray, List.getElem_cons_zero, List.getElem_cons_succ, List.setIfInBounds_toArray, List.set_cons_zero, List.set_cons_succ]
          refine wpAnyH_take (i := 5) (v := ?_) rfl (by kernel_rfl) (by kernel_rfl) (by kernel_rfl) (fun _ _ _ h => h) (Or.inl ⟨by rfl, ?_⟩) hHeld ?_
          rotate_left
          · (intro wq hSw; (try dsimp only at hSw); (try obtain ⟨s0, s1, s2⟩ := hSw); (go_simp <;> with_reducible rfl))
          try simp only [Act.put, List.getElem_toArray, List.getElem_cons_zero, List.getElem_cons_succ, List.setIfInBounds_toArray, List.set_cons_zero, List.set_cons_succ]
          refine wpAnyH_take (i := 6) (v := ?_) rfl (by kernel_rfl) (by kernel_rfl) (by kernel_rfl) (fun _ _ _ h => h) (Or.inl ⟨by rfl, ?_⟩) hHeld ?_
          rotate_left
          · (intro wq hSw; (try dsimp only at hSw); (try obtain ⟨s0, s1, s2⟩ := hSw); (go_simp <;> with_reducible rfl))
          try simp only [Act.put, List.getElem_toArray, List.getElem_cons_zero, List.getElem_cons_succ, List.setIfInBounds_toArray, List.set_cons_zero, List.set_cons_succ]
          refine wpAnyH_take (i := 7) (v := ?_) rfl (by kernel_rfl) (by kernel_rfl) (by kernel_rfl) (fun _ _ _ h => h) (Or.inl ⟨by rfl, ?_⟩) hHeld ?_
          rotate_left
          · (intro wq hSw; (try dsimp only at hSw); (try obtain ⟨s0, s1, s2⟩ := hSw); (go_simp <;> with_reducible rfl))
          try simp only [Act.put, List.getElem_toArray, List.getElem_cons_zero, List.getElem_cons_succ, List.setIfInBounds_toArray, List.set_cons_zero, List.set_cons_succ]
          refine wpAnyH_take (i := 8) (v := ?_) rfl (by kernel_rfl) (by kernel_rfl) (by kernel_rfl) (fun _ _ _ h => h) (Or.inl ⟨by rfl, ?_⟩) hHeld ?_
          rotate_left
          · (intro wq hSw; (try dsimp only at hSw); (try obtain ⟨s0, s1, s2⟩ := hSw); (go_simp <;> with_reducible rfl))
          try simp only [Act.put, List.getElem_toArray, List.getElem_cons_zero, List.getElem_cons_succ, List.setIfInBounds_toArray, List.set_cons_zero, List.set_cons_succ]
          refine wpAnyH_ready (rs := [9]) (by kernel_rfl) (by simp) ?_
          refine AllReadyH.cons rfl (fun K hK => ?_) AllReadyH.nil
          go_simp
          have BAa : Below wr.heap.size wr (wr.alloc (.cells #[.int .u64 (y1 : Int)] 39)).drew := ((Below.refl _ wr).alloc (Nat.le_refl _) _).drew
          have HAa := hide (HTwr.out.keep BAa)
          have HNa : Hid (∀ j u, [Value.int .u64 (y1 : Int)][j]? = some u → (wr.alloc (.cells #[.int .u64 (y1 : Int)] 39)).drew.cell? ((⟨wr.heap.size, 0, none⟩ : Addr).add j) = some u) := fun j u hj => cell_new8 wr _ 39 j u hj
          have a0 : (wr.alloc (.cells #[.int .u64 (y1 : Int)] 39)).drew.cell? ⟨w.heap.size, 0, none⟩ = some (.slice (some ⟨rb0, ro, none⟩) n cW) := by rw [BAa.cell (p := ⟨w.heap.size, 0, none⟩) (block_lt_of_cell cXa)]; exact cXa
          have a2 : (wr.alloc (.cells #[.int .u64 (y1 : Int)] 39)).drew.cell? ⟨w.heap.size, 2, none⟩ = some (.int .u64 (by_ : Int)) := by rw [BAa.cell (p := ⟨w.heap.size, 2, none⟩) (block_lt_of_cell cYa)]; exact cYa
          have a1 : (wr.alloc (.cells #[.int .u64 (y1 : Int)] 39)).drew.cell? ⟨rb0, ro + i, none⟩ = some (.int .u64 (x : Int)) := by rw [BAa.cell (p := ⟨rb0, ro + i, none⟩) (block_lt_of_cell cVa)]; exact cVa
          generalize (wr.alloc (.cells #[.int .u64 (y1 : Int)] 39)).drew = wa at *
          refine hK.out _ _ ⟨a0, a2, a1⟩ (fun hHeld => ?_)
          clear hK K BAa a0 a1 a2
          try simp only [Act.put, List.getElem_toArray, List.getElem_cons_zero, List.getElem_cons_succ, List.setIfInBounds_toArray, List.set_cons_zero, List.set_cons_succ]
          refine wpAnyH_ready (rs := [10]) (by kernel_rfl) (by simp) ?_
          refine AllReadyH.cons rfl (fun K hK => ?_) AllReadyH.nil
          refine step_append_lies _ rfl _ _ _ rfl w1.heap.size 39 i5 (.int .u64 0) 1 8 Tryz.underlying28 Hi.out.1 Hi.out.2.1 Hi.out.2.2.1 Hi.out.2.2.2 rfl (by decide) t1 i (valsV64 i (fun j => (f j + by_) % 18446744073709551616)) (by simp [Act.eval]) HAa.out.o1 ⟨wr.heap.size, 0, none⟩ 1 1 [.int .u64 (y1 : Int)] (by simp [Act.eval]) rfl HNa.out (by intro u hu; simp at hu; subst hu; rfl) (by decide) (by unfold maxLen; omega) (by omega) (Nat.le_trans HAa.out.hB HAa.out.bel.size) _ rfl ?_
          intro ga capa w4 hoa hga hata hlta
          have HTw4 := hide (HAa.out.step64 HY1.out hoa hga hata).rot
          clear hoa hga hata hlta HAa HNa
          have cXaz : w4.cell? ⟨w.heap.size, 0, none⟩ = some (.slice (some ⟨rb0, ro, none⟩) n cW) := by rw [HTw4.out.bel.cell (p := ⟨w.heap.size, 0, none⟩) hXw1.out]; exact HC0.out
          have cYaz : w4.cell? ⟨w.heap.size, 2, none⟩ = some (.int .u64 (by_ : Int)) := by rw [HTw4.out.bel.cell (p := ⟨w.heap.size, 2, none⟩) hXw1.out]; exact HX2w1.out
          have cVaz : w4.cell? ⟨rb0, ro + i, none⟩ = some (.int .u64 (x : Int)) := by rw [HTw4.out.bel.cell (p := ⟨rb0, ro + i, none⟩) (block_lt_of_cell HC1.out)]; exact HC1.out
          refine hK.out _ _ ⟨cXaz, cYaz, cVaz⟩ (fun hHeld => ?_)
          clear hK K
          try simp only [Act.put, List.getElem_toArray, List.getElem_cons_zero, List.getElem_cons_succ, List.setIfInBounds_toArray, List.set_cons_zero, List.set_cons_succ]
          refine wpAnyH_take (i := 11) (v := ?_) rfl (by kernel_rfl) (by kernel_rfl) (by kernel_rfl) (fun _ _ _ h => h) (Or.inl ⟨by rfl, ?_⟩) hHeld ?_
          rotate_left
          · (intro wq hSw; (try dsimp only at hSw); (try obtain ⟨s0, s1, s2⟩ := hSw); (go_simp <;> with_reducible rfl))
          try simp only [Act.put, List.getElem_toArray, List.getElem_cons_zero, List.getElem_cons_succ, List.setIfInBounds_toArray, List.set_cons_zero, List.set_cons_succ]
          refine wpAnyH_done (by kernel_rfl) ?_ _
          as_aux_lemma =>
            have cr : w4.cell? ⟨rb0, ro + r, none⟩ = some (.int .u64 (z : Int)) := by rw [HTw4.out.bel.cell (p := ⟨rb0, ro + r, none⟩) (block_lt_of_cell HC2.out)]; exact HC2.out
            have HA2 := hide (HTw4.out.keep ((Below.refl _ w4).alloc (Nat.le_refl _) (.cells #[.int .u64 (z : Int)] 39)))
            clear q1 cXa cYa cVa
            go_wp2_with (at_builtin; refine wpList_append_lies _ rfl _ _ _ rfl w1.heap.size 39 i5 (.int .u64 0) 1 8 Tryz.underlying28 Hi.out.1 Hi.out.2.1 Hi.out.2.2.1 Hi.out.2.2.2 rfl (by decide) _ i (valsV64 i (fun j => f (n - 1 - j))) rfl HA2.out.o1 ⟨w4.heap.size, 0, none⟩ 1 1 [.int .u64 (z : Int)] rfl rfl ?d2 ?d3 (by decide) ?d4 ?d5 ?d7 _ rfl ?d6)
            case d2 => intro j u hj; exact cell_new8 w4 _ 39 j u hj
            case d3 => intro u hu; simp at hu; subst hu; rfl
            case d4 => unfold maxLen; omega
            case d5 => omega
            case d7 => exact Nat.le_trans HA2.out.hB HA2.out.bel.size
            case d6 =>
              intro gb capb w6 hob hgb hatb hltb
              have HTw6 := hide (HA2.out.step64 HY2.out hob hgb (by simpa using hatb)).rot
              clear hob hgb hatb hltb HA2 cr cXaz cYaz cVaz
              as_aux_lemma =>
                have cXc : w6.cell? ⟨w.heap.size, 0, none⟩ = some (.slice (some ⟨rb0, ro, none⟩) n cW) := by rw [HTw6.out.bel.cell (p := ⟨w.heap.size, 0, none⟩) hXw1.out]; exact HC0.out
                have cYc : w6.cell? ⟨w.heap.size, 2, none⟩ = some (.int .u64 (by_ : Int)) := by rw [HTw6.out.bel.cell (p := ⟨w.heap.size, 2, none⟩) hXw1.out]; exact HX2w1.out
                have cVc : w6.cell? ⟨rb0, ro + i, none⟩ = some (.int .u64 (x : Int)) := by rw [HTw6.out.bel.cell (p := ⟨rb0, ro + i, none⟩) (block_lt_of_cell HC1.out)]; exact HC1.out
                go_upto_region 10 with fail
                refine wp_region_held_drew (S := fun w' => w'.cell? ⟨w.heap.size, 0, none⟩ = some (.slice (some ⟨rb0, ro, none⟩) n cW) ∧ w'.cell? ⟨w.heap.size, 2, none⟩ = some (.int .u64 (by_ : Int)) ∧ w'.cell? ⟨rb0, ro + i, none⟩ = some (.int .u64 (x : Int))) (by kernel_rfl) ⟨cXc, cYc, cVc⟩ (fun hHeld => ?_)
                refine wpAnyH_take (i := 0) (v := ?_) rfl (by kernel_rfl) (by kernel_rfl) (by kernel_rfl) (fun _ _ _ h => h) (Or.inl ⟨by rfl, ?_⟩) hHeld ?_
                rotate_left
                · (intro wq hSw; (try dsimp only at hSw); (try obtain ⟨s0, s1, s2⟩ := hSw); (go_simp <;> with_reducible rfl))
                try simp only [Act.put, List.getElem_toArray, List.getElem_cons_zero, List.getElem_cons_succ, List.setIfInBounds_toArray, List.set_cons_zero, List.set_cons_succ]
                refine wpAnyH_take (i := 1) (v := ?_) rfl (by kernel_rfl) (by kernel_rfl) (by kernel_rfl) (fun _ _ _ h => h) (Or.inl ⟨by rfl, ?_⟩) hHeld ?_
                rotate_left
                · (intro wq hSw; (try dsimp only at hSw); (try obtain ⟨s0, s1, s2⟩ := hSw); (go_simp <;> with_reducible rfl))
                try simp only [Act.put, List.getElem_toArray, List.getElem_cons_zero, List.getElem_cons_succ, List.setIfInBounds_toArray, List.set_cons_zero, List.set_cons_succ]
                refine wpAnyH_take (i := 2) (v := ?_) rfl (by kernel_rfl) (by kernel_rfl) (by kernel_rfl) (fun _ _ _ h => h) (Or.inl ⟨by rfl, ?_⟩) hHeld ?_
                rotate_left
                · (intro wq hSw; (try dsimp only at hSw); (try obtain ⟨s0, s1, s2⟩ := hSw); (go_simp <;> with_reducible rfl))
                try simp only [Act.put, List.getElem_toArray, List.getElem_cons_zero, List.getElem_cons_succ, List.setIfInBounds_toArray, List.set_cons_zero, List.set_cons_succ]
                refine wpAnyH_take (i := 3) (v := ?_) rfl (by kernel_rfl) (by kernel_rfl) (by kernel_rfl) (fun _ _ _ h => h) (Or.inl ⟨by rfl, ?_⟩) hHeld ?_
                rotate_left
                · (intro wq hSw; (try dsimp only at hSw); (try obtain ⟨s0, s1, s2⟩ := hSw); (go_simp <;> with_reducible rfl))
                try simp only [Act.put, List.getElem_toArray, List.getElem_cons_zero, List.getElem_cons_succ, List.setIfInBounds_toArray, List.set_cons_zero, List.set_cons_succ]
                refine wpAnyH_take (i := 4) (v := ?_) rfl (by kernel_rfl) (by kernel_rfl) (by kernel_rfl) (fun _ _ _ h => h) (Or.inl ⟨by rfl, ?_⟩) hHeld ?_
                rotate_left
                · (intro wq hSw; (try dsimp only at hSw); (try obtain ⟨s0, s1, s2⟩ := hSw); (go_simp <;> with_reducible rfl))
                try simp only [Act.put, List.getElem_toArray, List.getElem_cons_zero, List.getElem_cons_succ, List.setIfInBounds_toArray, List.set_cons_zero, List.set_cons_succ]
                refine wpAnyH_take (i := 5) (v := ?_) rfl (by kernel_rfl) (by kernel_rfl) (by kernel_rfl) (fun _ _ _ h => h) (Or.inl ⟨by rfl, ?_⟩) hHeld ?_
                rotate_left
                · (intro wq hSw; (try dsimp only at hSw); (try obtain ⟨s0, s1, s2⟩ := hSw); (go_simp <;> with_reducible rfl))
                try simp only [Act.put, List.getElem_toArray, List.getElem_cons_zero, List.getElem_cons_succ, List.setIfInBounds_toArray, List.set_cons_zero, List.set_cons_succ]
                refine wpAnyH_take (i := 6) (v := ?_) rfl (by kernel_rfl) (by kernel_rfl) (by kernel_rfl) (fun _ _ _ h => h) (Or.inl ⟨by rfl, ?_⟩) hHeld ?_
                rotate_left
                · (intro wq hSw; (try dsimp only at hSw); (try obtain ⟨s0, s1, s2⟩ := hSw); (go_simp <;> with_reducible rfl))
                try simp only [Act.put, List.getElem_toArray, List.getElem_cons_zero, List.getElem_cons_succ, List.setIfInBounds_toArray, List.set_cons_zero, List.set_cons_succ]
                refine wpAnyH_take (i := 7) (v := ?_) rfl (by kernel_rfl) (by kernel_rfl) (by kernel_rfl) (fun _ _ _ h => h) (Or.inl ⟨by rfl, ?_⟩) hHeld ?_
                rotate_left
                · (intro wq hSw; (try dsimp only at hSw); (try obtain ⟨s0, s1, s2⟩ := hSw); (go_simp <;> with_reducible rfl))
                try simp only [Act.put, List.getElem_toArray, List.getElem_cons_zero, List.getElem_cons_succ, List.setIfInBounds_toArray, List.set_cons_zero, List.set_cons_succ]
                refine wpAnyH_take (i := 8) (v := ?_) rfl (by kernel_rfl) (by kernel_rfl) (by kernel_rfl) (fun _ _ _ h => h) (Or.inl ⟨by rfl, ?_⟩) hHeld ?_
                rotate_left
                · (intro wq hSw; (try dsimp only at hSw); (try obtain ⟨s0, s1, s2⟩ := hSw); (go_simp <;> with_reducible rfl))
                try simp only [Act.put, List.getElem_toArray, List.getElem_cons_zero, List.getElem_cons_succ, List.setIfInBounds_toArray, List.set_cons_zero, List.set_cons_succ]
                refine wpAnyH_ready (rs := [9]) (by kernel_rfl) (by simp) ?_
                refine AllReadyH.cons rfl (fun K hK => ?_) AllReadyH.nil
                go_simp
                have BAc : Below w6.heap.size w6 (w6.alloc (.cells #[.int .u64 (y3 : Int)] 39)).drew := ((Below.refl _ w6).alloc (Nat.le_refl _) _).drew
                have HAc := hide (HTw6.out.keep BAc)
                have HNc : Hid (∀ j u, [Value.int .u64 (y3 : Int)][j]? = some u → (w6.alloc (.cells #[.int .u64 (y3 : Int)] 39)).drew.cell? ((⟨w6.heap.size, 0, none⟩ : Addr).add j) = some u) := fun j u hj => cell_new8 w6 _ 39 j u hj
                have a0 : (w6.alloc (.cells #[.int .u64 (y3 : Int)] 39)).drew.cell? ⟨w.heap.size, 0, none⟩ = some (.slice (some ⟨rb0, ro, none⟩) n cW) := by rw [BAc.cell (p := ⟨w.heap.size, 0, none⟩) (block_lt_of_cell cXc)]; exact cXc
                have a2 : (w6.alloc (.cells #[.int .u64 (y3 : Int)] 39)).drew.cell? ⟨w.heap.size, 2, none⟩ = some (.int .u64 (by_ : Int)) := by rw [BAc.cell (p := ⟨w.heap.size, 2, none⟩) (block_lt_of_cell cYc)]; exact cYc
                have a1 : (w6.alloc (.cells #[.int .u64 (y3 : Int)] 39)).drew.cell? ⟨rb0, ro + i, none⟩ = some (.int .u64 (x : Int)) := by rw [BAc.cell (p := ⟨rb0, ro + i, none⟩) (block_lt_of_cell cVc)]; exact cVc
                generalize (w6.alloc (.cells #[.int .u64 (y3 : Int)] 39)).drew = wa at *
                refine hK.out _ _ ⟨a0, a2, a1⟩ (fun hHeld => ?_)
                clear hK K BAc a0 a1 a2
                try simp only [Act.put, List.getElem_toArray, List.getElem_cons_zero, List.getElem_cons_succ, List.setIfInBounds_toArray, List.set_cons_zero, List.set_cons_succ]
                refine wpAnyH_ready (rs := [10]) (by kernel_rfl) (by simp) ?_
                refine AllReadyH.cons rfl (fun K hK => ?_) AllReadyH.nil
                refine step_append_lies _ rfl _ _ _ rfl w1.heap.size 39 i5 (.int .u64 0) 1 8 Tryz.underlying28 Hi.out.1 Hi.out.2.1 Hi.out.2.2.1 Hi.out.2.2.2 rfl (by decide) t3 i (valsV64 i (fun j => f j ^^^ by_)) (by simp [Act.eval]) HAc.out.o1 ⟨w6.heap.size, 0, none⟩ 1 1 [.int .u64 (y3 : Int)] (by simp [Act.eval]) rfl HNc.out (by intro u hu; simp at hu; subst hu; rfl) (by decide) (by unfold maxLen; omega) (by omega) (Nat.le_trans HAc.out.hB HAc.out.bel.size) _ rfl ?_
                intro gc capc w8 hoc hgc hatc hltc
                have HTw8 := hide (HAc.out.step64 HY3.out hoc hgc hatc).rot
                clear hoc hgc hatc hltc HAc HNc
                have cXcz : w8.cell? ⟨w.heap.size, 0, none⟩ = some (.slice (some ⟨rb0, ro, none⟩) n cW) := by rw [HTw8.out.bel.cell (p := ⟨w.heap.size, 0, none⟩) hXw1.out]; exact HC0.out
                have cYcz : w8.cell? ⟨w.heap.size, 2, none⟩ = some (.int .u64 (by_ : Int)) := by rw [HTw8.out.bel.cell (p := ⟨w.heap.size, 2, none⟩) hXw1.out]; exact HX2w1.out
                have cVcz : w8.cell? ⟨rb0, ro + i, none⟩ = some (.int .u64 (x : Int)) := by rw [HTw8.out.bel.cell (p := ⟨rb0, ro + i, none⟩) (block_lt_of_cell HC1.out)]; exact HC1.out
                refine hK.out _ _ ⟨cXcz, cYcz, cVcz⟩ (fun hHeld => ?_)
                clear hK K
                try simp only [Act.put, List.getElem_toArray, List.getElem_cons_zero, List.getElem_cons_succ, List.setIfInBounds_toArray, List.set_cons_zero, List.set_cons_succ]
                refine wpAnyH_take (i := 11) (v := ?_) rfl (by kernel_rfl) (by kernel_rfl) (by kernel_rfl) (fun _ _ _ h => h) (Or.inl ⟨by rfl, ?_⟩) hHeld ?_
                rotate_left
                · (intro wq hSw; (try dsimp only at hSw); (try obtain ⟨s0, s1, s2⟩ := hSw); (go_simp <;> with_reducible rfl))
                try simp only [Act.put, List.getElem_toArray, List.getElem_cons_zero, List.getElem_cons_succ, List.setIfInBounds_toArray, List.set_cons_zero, List.set_cons_succ]
                refine wpAnyH_done (by kernel_rfl) ?_ _
                go_wp2_with fail
                go_roundw
                case rel => exact ⟨_, _, _, i + 1, rfl, rfl, rfl, by simp, hlt, HTw8.out⟩
                case measure => simp [intOf]; omega
        · have hin : i = n := by have := hI.out; omega
          have cX : wr.cell? ⟨w.heap.size, 0, none⟩ = some (.slice pW n cW) := by rw [HTwr.out.bel.cell (p := ⟨w.heap.size, 0, none⟩) hXw1.out]; exact HX0w1.out
          go_wp2_with fail
          go_meet
          case rel => exact hin ▸ HTwr.out
  case rest =>
    obtain ⟨w2, hw2⟩ : ∃ w2, w2 = wc := ⟨_, rfl⟩
    rw [← hw2] at hcut ⊢
    clear hw2
    obtain ⟨a1, c1, rfl, hc1, R1⟩ := USt64.row ⟨hcut.out.o1, hcut.out.bel, hcut.out.hB⟩
    obtain ⟨a2, c2, rfl, hc2, R2⟩ := USt64.row ⟨hcut.out.o2, hcut.out.bel, hcut.out.hB⟩
    obtain ⟨a3, c3, rfl, hc3, R3⟩ := USt64.row ⟨hcut.out.o3, hcut.out.bel, hcut.out.hB⟩
    have B2 := hcut.out.bel
    have HR1w2 := hide R1
    have HR2w2 := hide R2
    have HR3w2 := hide R3
    have hXw2 : Hid (w.heap.size < w2.heap.size) := Nat.lt_of_lt_of_le hXw1.out B2.size
    have HX0w2 : Hid (w2.cell? ⟨w.heap.size, 0, none⟩ = some (.slice pW n cW)) := by show _ = _; rw [B2.cell (p := ⟨w.heap.size, 0, none⟩) hXw1.out]; exact HX0w1.out
    have HX1w2 : Hid (w2.cell? ⟨w.heap.size, 1, none⟩ = some (.slice pR m cR)) := by show _ = _; rw [B2.cell (p := ⟨w.heap.size, 1, none⟩) hXw1.out]; exact HX1w1.out
    have HX2w2 : Hid (w2.cell? ⟨w.heap.size, 2, none⟩ = some (.int .u64 (by_ : Int))) := by show _ = _; rw [B2.cell (p := ⟨w.heap.size, 2, none⟩) hXw1.out]; exact HX2w1.out
    have HBw2 : Hid (Below w.heap.size w w2) := HBw1.out.trans (B2.mono (Nat.le_of_lt hXw1.out))
    have HR64w2 : Hid (URow64 w2 pW n f) := HR64w1.out.below B2
    have HR32w2 : Hid (URow32 w2 pR m g) := HR32w1.out.below B2
    have HTw2 : Hid (Tab64 w2) := HTw1.out.below B2
    clear hcut R1 R2 R3 B2 HX0w1 HX1w1 HX2w1 HR64w1 HR32w1 HTw1 HBw1 hXw1
    go_upto_block 2 with fail
    go_cut [6, 7, 8] from 10 (fun t1 t2 t3 wc => Hid (T3 w2.heap.size 42 w2 wc (m) (m) (m) (valsV32 (m) (fun j => (g j + bz) % 4294967296)) (valsV32 (m) (fun j => g (m - 1 - j))) (valsV32 (m) (fun j => g j ^^^ bz)) t1 t2 t3))
    case first =>
      as_aux_lemma =>
        go_wp2_with fail
        obtain ⟨i5, hi5⟩ := info32
        have Hi := hide hi5
        clear hi5
        go_loopw [6, 7, 8, 10] (fun s1 s2 s3 ti wr => ∃ (t1 t2 t3 : Value) (i : Nat), t1 = s1 ∧ t2 = s2 ∧ t3 = s3 ∧ ti = .int .i64 (i : Int) ∧ Hid (i ≤ m) ∧ Hid (T3 w2.heap.size 42 w2 wr (i) (i) (i) (valsV32 (i) (fun j => (g j + bz) % 4294967296)) (valsV32 (i) (fun j => g (m - 1 - j))) (valsV32 (i) (fun j => g j ^^^ bz)) t1 t2 t3)) (fun _ _ _ ti _ => m - (intOf ti).toNat)
        case atStart => exact ⟨_, _, _, 0, rfl, rfl, rfl, rfl, Nat.zero_le _, T3.nil _ _⟩
        case round =>
          obtain ⟨t1, t2, t3, i, rfl, rfl, rfl, rfl, hI, HTwr⟩ := hrel
          by_cases hlt : i < m
          · obtain ⟨rb0, ro, hpe, hc⟩ := HR32w2.out (by omega)
            obtain ⟨x, hx⟩ : ∃ x, g i = x := ⟨_, rfl⟩
            obtain ⟨z, hz⟩ : ∃ z, g (m - 1 - i) = z := ⟨_, rfl⟩
            obtain ⟨r, hr⟩ : ∃ r, m - 1 - i = r := ⟨_, rfl⟩
            have HC0 : Hid (w2.cell? ⟨w.heap.size, 1, none⟩ = some (.slice (some ⟨rb0, ro, none⟩) m cR)) := by show _ = _; rw [← hpe]; exact HX1w2.out
            have HC1 : Hid (w2.cell? ⟨rb0, ro + i, none⟩ = some (.int .u32 (x : Int))) := by show _ = _; rw [← hx]; exact hc i hlt
            have HC2 : Hid (w2.cell? ⟨rb0, ro + r, none⟩ = some (.int .u32 (z : Int))) := by show _ = _; rw [← hz, hr]; exact hc r (by omega)
            have hxl : x < 4294967296 := by rw [← hx]; exact HF32.out i hlt
            obtain ⟨y1, hy1⟩ : ∃ y1, (x + bz) % 4294967296 = y1 := ⟨_, rfl⟩
            obtain ⟨y3, hy3⟩ : ∃ y3, x ^^^ bz = y3 := ⟨_, rfl⟩
            have q1 : IntKind.u32.wrap ((x : Int) + (bz : Int)) = (y1 : Int) := by rw [← hy1, IntKind.wrap_u32]; simp
            have q3 : bits BinOp.xor IntKind.u32 (x : Int) (bz : Int) = (y3 : Int) := by rw [← hy3]; exact u32_xor_nat x bz hxl HBZ.out
            have HY1 : Hid (y1 = (g i + bz) % 4294967296) := by rw [hx]; exact hy1.symm
            have HY2 : Hid (z = g (m - 1 - i)) := hz.symm
            have HY3 : Hid (y3 = g i ^^^ bz) := by rw [hx]; exact hy3.symm
            have hsub : (m : Int) - 1 - (i : Int) = (r : Int) := by omega
            have hsub2 : ((m - 1 : Nat) : Int) - (i : Int) = (r : Int) := by omega
            have hrn : r < m := by omega
            have HPE := hide hpe
            clear hc hx hz hr hxl hy1 hy3 hpe
            have cXa : wr.cell? ⟨w.heap.size, 1, none⟩ = some (.slice (some ⟨rb0, ro, none⟩) m cR) := by rw [HTwr.out.bel.cell (p := ⟨w.heap.size, 1, none⟩) hXw2.out]; exact HC0.out
            have cYa : wr.cell? ⟨w.heap.size, 2, none⟩ = some (.int .u64 (by_ : Int)) := by rw [HTwr.out.bel.cell (p := ⟨w.heap.size, 2, none⟩) hXw2.out]; exact HX2w2.out
            have cVa : wr.cell? ⟨rb0, ro + i, none⟩ = some (.int .u32 (x : Int)) := by rw [HTwr.out.bel.cell (p := ⟨rb0, ro + i, none⟩) (block_lt_of_cell HC1.out)]; exact HC1.out
            go_upto_region 14 with fail
            refine wp_region_held_drew (S := fun w' => w'.cell? ⟨w.heap.size, 1, none⟩ = some (.slice (some ⟨rb0, ro, none⟩) m cR) ∧ w'.cell? ⟨w.heap.size, 2, none⟩ = some (.int .u64 (by_ : Int)) ∧ w'.cell? ⟨rb0, ro + i, none⟩ = some (.int .u32 (x : Int))) (by kernel_rfl) ⟨cXa, cYa, cVa⟩ (fun hHeld => ?_)
            refine wpAnyH_take (i := 0) (v := ?_) rfl (by kernel_rfl) (by kernel_rfl) (by kernel_rfl) (fun _ _ _ h => h) (Or.inl ⟨by rfl, ?_⟩) hHeld ?_
            rotate_left
            · (intro wq hSw; (try dsimp only at hSw); (try obtain ⟨s0, s1, s2⟩ := hSw); (go_simp <;> with_reducible rfl))
            try simp only [Act.put, List.getElem_toArray, List.getElem_cons_zero, List.getElem_cons_succ, List.setIfInBounds_toArray, List.set_cons_zero, List.set_cons_succ]
            refine wpAnyH_take (i := 1) (v := ?_) rfl (by kernel_rfl) (by kernel_rfl) (by kernel_rfl) (fun _ _ _ h => h) (Or.inl ⟨by rfl, ?_⟩) hHeld ?_
            rotate_left
            · (intro wq hSw; (try dsimp only at hSw); (try obtain ⟨s0, s1, s2⟩ := hSw); (go_simp <;> with_reducible rfl))
            try simp only [Act.put, List.getElem_toArray, List.getElem_cons_zero, List.getElem_cons_succ, List.setIfInBounds_toArray, List.set_cons_zero, List.set_cons_succ]
            refine wpAnyH_take (i := 2) (v := ?_) rfl (by kernel_rfl) (by kernel_rfl) (by kernel_rfl) (fun _ _ _ h => h) (Or.inl ⟨by rfl, ?_⟩) hHeld ?_
            rotate_left
            · (intro wq hSw; (try dsimp only at hSw); (try obtain ⟨s0, s1, s2⟩ := hSw); (go_simp <;> with_reducible rfl))
            try simp only [Act.put, List.getElem_toArray, List.getElem_cons_zero, List.getElem_cons_succ, List.setIfInBounds_toArray, List.set_cons_zero, List.set_cons_succ]
            refine wpAnyH_take (i := 3) (v := ?_) rfl (by kernel_rfl) (by kernel_rfl) (by kernel_rfl) (fun _ _ _ h => h) (Or.inl ⟨by rfl, ?_⟩) hHeld ?_
            rotate_left
            · (intro wq hSw; (try dsimp only at hSw); (try obtain ⟨s0, s1, s2⟩ := hSw); (go_simp <;> with_reducible rfl))
            try simp only [Act.put, List.getElem_toArray, List.getElem_cons_zero, List.getElem_cons_succ, List.setIfInBounds_toArray, List.set_cons_zero, List.set_cons_succ]
            refine wpAnyH_take (i := 4) (v := ?_) rfl (by kernel_rfl) (by kernel_rfl) (by kernel_rfl) (fun _ _ _ h => h) (Or.inl ⟨by rfl, ?_⟩) hHeld ?_
            rotate_left
            · (intro wq hSw; (try dsimp only at hSw); (try obtain ⟨s0, s1, s2⟩ := hSw); (go_simp <;> with_reducible rfl))
            try simp only [Act.put, List.getElem_toArray, List.getElem_cons_zero, List.getElem_cons_succ, List.setIfInBounds_toArray, List.set_cons_zero, List.set_cons_succ]
            refine wpAnyH_take (i := 5) (v := ?_) rfl (by kernel_rfl) (by kernel_rfl) (by kernel_rfl) (fun _ _ _ h => h) (Or.inl ⟨by rfl, ?_⟩) hHeld ?_
            rotate_left
            · (intro wq hSw; (try dsimp only at hSw); (try obtain ⟨s0, s1, s2⟩ := hSw); (go_simp <;> with_reducible rfl))
            try simp only [Act.put, List.getElem_toArray, List.getElem_cons_zero, List.getElem_cons_succ, List.setIfInBounds_toArray, List.set_cons_zero, List.set_cons_succ]
            refine wpAnyH_take (i := 6) (v := ?_) rfl (by kernel_rfl) (by kernel_rfl) (by kernel_rfl) (fun _ _ _ h => h) (Or.inl ⟨by rfl, ?_⟩) hHeld ?_
            rotate_left
            · (intro wq hSw; (try dsimp only at hSw); (try obtain ⟨s0, s1, s2⟩ := hSw); (go_simp <;> with_reducible rfl))
            try simp only [Act.put, List.getElem_toArray, List.getElem_cons_zero, List.getElem_cons_succ, List.setIfInBounds_toArray, List.set_cons_zero, List.set_cons_succ]
            refine wpAnyH_take (i := 7) (v := ?_) rfl (by kernel_rfl) (by kernel_rfl) (by kernel_rfl) (fun _ _ _ h => h) (Or.inl ⟨by rfl, ?_⟩) hHeld ?_
            rotate_left
            · (intro wq hSw; (try dsimp only at hSw); (try obtain ⟨s0, s1, s2⟩ := hSw); (go_simp <;> with_reducible rfl))
            try simp only [Act.put, List.getElem_toArray, List.getElem_cons_zero, List.getElem_cons_succ, List.setIfInBounds_toArray, List.set_cons_zero, List.set_cons_succ]
            refine wpAnyH_take (i := 8) (v := ?_) rfl (by kernel_rfl) (by kernel_rfl) (by kernel_rfl) (fun _ _ _ h => h) (Or.inl ⟨by rfl, ?_⟩) hHeld ?_
            rotate_left
            · (intro wq hSw; (try dsimp only at hSw); (try obtain ⟨s0, s1, s2⟩ := hSw); (go_simp <;> with_reducible rfl))
            try simp only [Act.put, List.getElem_toArray, List.getElem_cons_zero, List.getElem_cons_succ, List.setIfInBounds_toArray, List.set_cons_zero, List.set_cons_succ]
            refine wpAnyH_take (i := 9) (v := ?_) rfl (by kernel_rfl) (by kernel_rfl) (by kernel_rfl) (fun _ _ _ h => h) (Or.inl ⟨by rfl, ?_⟩) hHeld ?_
            rotate_left
            · (intro wq hSw; (try dsimp only at hSw); (try obtain ⟨s0, s1, s2⟩ := hSw); (go_simp <;> with_reducible rfl))
            try simp only [Act.put, List.getElem_toArray, List.getElem_cons_zero, List.getElem_cons_succ, List.setIfInBounds_toArray, List.set_cons_zero, List.set_cons_succ]
            refine wpAnyH_ready (rs := [10]) (by kernel_rfl) (by simp) ?_
            refine AllReadyH.cons rfl (fun K hK => ?_) AllReadyH.nil
            go_simp
            have BAa : Below wr.heap.size wr (wr.alloc (.cells #[.int .u32 (y1 : Int)] 42)).drew := ((Below.refl _ wr).alloc (Nat.le_refl _) _).drew
            have HAa := hide (HTwr.out.keep BAa)
            have HNa : Hid (∀ j u, [Value.int .u32 (y1 : Int)][j]? = some u → (wr.alloc (.cells #[.int .u32 (y1 : Int)] 42)).drew.cell? ((⟨wr.heap.size, 0, none⟩ : Addr).add j) = some u) := fun j u hj => cell_new8 wr _ 42 j u hj
            have a0 : (wr.alloc (.cells #[.int .u32 (y1 : Int)] 42)).drew.cell? ⟨w.heap.size, 1, none⟩ = some (.slice (some ⟨rb0, ro, none⟩) m cR) := by rw [BAa.cell (p := ⟨w.heap.size, 1, none⟩) (block_lt_of_cell cXa)]; exact cXa
            have a2 : (wr.alloc (.cells #[.int .u32 (y1 : Int)] 42)).drew.cell? ⟨w.heap.size, 2, none⟩ = some (.int .u64 (by_ : Int)) := by rw [BAa.cell (p := ⟨w.heap.size, 2, none⟩) (block_lt_of_cell cYa)]; exact cYa
            have a1 : (wr.alloc (.cells #[.int .u32 (y1 : Int)] 42)).drew.cell? ⟨rb0, ro + i, none⟩ = some (.int .u32 (x : Int)) := by rw [BAa.cell (p := ⟨rb0, ro + i, none⟩) (block_lt_of_cell cVa)]; exact cVa
            generalize (wr.alloc (.cells #[.int .u32 (y1 : Int)] 42)).drew = wa at *
            refine hK.out _ _ ⟨a0, a2, a1⟩ (fun hHeld => ?_)
            clear hK K BAa a0 a1 a2
            try simp only [Act.put, List.getElem_toArray, List.getElem_cons_zero, List.getElem_cons_succ, List.setIfInBounds_toArray, List.set_cons_zero, List.set_cons_succ]
            refine wpAnyH_ready (rs := [11]) (by kernel_rfl) (by simp) ?_
            refine AllReadyH.cons rfl (fun K hK => ?_) AllReadyH.nil
            refine step_append_lies _ rfl _ _ _ rfl w2.heap.size 42 i5 (.int .u32 0) 1 4 Tryz.underlying30 Hi.out.1 Hi.out.2.1 Hi.out.2.2.1 Hi.out.2.2.2 rfl (by decide) t1 i (valsV32 i (fun j => (g j + bz) % 4294967296)) (by simp [Act.eval]) HAa.out.o1 ⟨wr.heap.size, 0, none⟩ 1 1 [.int .u32 (y1 : Int)] (by simp [Act.eval]) rfl HNa.out (by intro u hu; simp at hu; subst hu; rfl) (by decide) (by unfold maxLen; omega) (by omega) (Nat.le_trans HAa.out.hB HAa.out.bel.size) _ rfl ?_
            intro ga capa w4 hoa hga hata hlta
            have HTw4 := hide (HAa.out.step32 HY1.out hoa hga hata).rot
            clear hoa hga hata hlta HAa HNa
            have cXaz : w4.cell? ⟨w.heap.size, 1, none⟩ = some (.slice (some ⟨rb0, ro, none⟩) m cR) := by rw [HTw4.out.bel.cell (p := ⟨w.heap.size, 1, none⟩) hXw2.out]; exact HC0.out
            have cYaz : w4.cell? ⟨w.heap.size, 2, none⟩ = some (.int .u64 (by_ : Int)) := by rw [HTw4.out.bel.cell (p := ⟨w.heap.size, 2, none⟩) hXw2.out]; exact HX2w2.out
            have cVaz : w4.cell? ⟨rb0, ro + i, none⟩ = some (.int .u32 (x : Int)) := by rw [HTw4.out.bel.cell (p := ⟨rb0, ro + i, none⟩) (block_lt_of_cell HC1.out)]; exact HC1.out
            refine hK.out _ _ ⟨cXaz, cYaz, cVaz⟩ (fun hHeld => ?_)
            clear hK K
            try simp only [Act.put, List.getElem_toArray, List.getElem_cons_zero, List.getElem_cons_succ, List.setIfInBounds_toArray, List.set_cons_zero, List.set_cons_succ]
            refine wpAnyH_take (i := 12) (v := ?_) rfl (by kernel_rfl) (by kernel_rfl) (by kernel_rfl) (fun _ _ _ h => h) (Or.inl ⟨by rfl, ?_⟩) hHeld ?_
            rotate_left
            · (intro wq hSw; (try dsimp only at hSw); (try obtain ⟨s0, s1, s2⟩ := hSw); (go_simp <;> with_reducible rfl))
            try simp only [Act.put, List.getElem_toArray, List.getElem_cons_zero, List.getElem_cons_succ, List.setIfInBounds_toArray, List.set_cons_zero, List.set_cons_succ]
            refine wpAnyH_done (by kernel_rfl) ?_ _
            as_aux_lemma =>
              have cr : w4.cell? ⟨rb0, ro + r, none⟩ = some (.int .u32 (z : Int)) := by rw [HTw4.out.bel.cell (p := ⟨rb0, ro + r, none⟩) (block_lt_of_cell HC2.out)]; exact HC2.out
              have HA2 := hide (HTw4.out.keep ((Below.refl _ w4).alloc (Nat.le_refl _) (.cells #[.int .u32 (z : Int)] 42)))
              clear q1 cXa cYa cVa
              go_wp2_with (at_builtin; refine wpList_append_lies _ rfl _ _ _ rfl w2.heap.size 42 i5 (.int .u32 0) 1 4 Tryz.underlying30 Hi.out.1 Hi.out.2.1 Hi.out.2.2.1 Hi.out.2.2.2 rfl (by decide) _ i (valsV32 i (fun j => g (m - 1 - j))) rfl HA2.out.o1 ⟨w4.heap.size, 0, none⟩ 1 1 [.int .u32 (z : Int)] rfl rfl ?d2 ?d3 (by decide) ?d4 ?d5 ?d7 _ rfl ?d6)
              case d2 => intro j u hj; exact cell_new8 w4 _ 42 j u hj
              case d3 => intro u hu; simp at hu; subst hu; rfl
              case d4 => unfold maxLen; omega
              case d5 => omega
              case d7 => exact Nat.le_trans HA2.out.hB HA2.out.bel.size
              case d6 =>
                intro gb capb w6 hob hgb hatb hltb
                have HTw6 := hide (HA2.out.step32 HY2.out hob hgb (by simpa using hatb)).rot
                clear hob hgb hatb hltb HA2 cr cXaz cYaz cVaz
                as_aux_lemma =>
                  have cXc : w6.cell? ⟨w.heap.size, 1, none⟩ = some (.slice (some ⟨rb0, ro, none⟩) m cR) := by rw [HTw6.out.bel.cell (p := ⟨w.heap.size, 1, none⟩) hXw2.out]; exact HC0.out
                  have cYc : w6.cell? ⟨w.heap.size, 2, none⟩ = some (.int .u64 (by_ : Int)) := by rw [HTw6.out.bel.cell (p := ⟨w.heap.size, 2, none⟩) hXw2.out]; exact HX2w2.out
                  have cVc : w6.cell? ⟨rb0, ro + i, none⟩ = some (.int .u32 (x : Int)) := by rw [HTw6.out.bel.cell (p := ⟨rb0, ro + i, none⟩) (block_lt_of_cell HC1.out)]; exact HC1.out
                  go_upto_region 16 with fail
                  refine wp_region_held_drew (S := fun w' => w'.cell? ⟨w.heap.size, 1, none⟩ = some (.slice (some ⟨rb0, ro, none⟩) m cR) ∧ w'.cell? ⟨w.heap.size, 2, none⟩ = some (.int .u64 (by_ : Int)) ∧ w'.cell? ⟨rb0, ro + i, none⟩ = some (.int .u32 (x : Int))) (by kernel_rfl) ⟨cXc, cYc, cVc⟩ (fun hHeld => ?_)
                  refine wpAnyH_take (i := 0) (v := ?_) rfl (by kernel_rfl) (by kernel_rfl) (by kernel_rfl) (fun _ _ _ h => h) (Or.inl ⟨by rfl, ?_⟩) hHeld ?_
                  rotate_left
                  · (intro wq hSw; (try dsimp only at hSw); (try obtain ⟨s0, s1, s2⟩ := hSw); (go_simp <;> with_reducible rfl))
                  try simp only [Act.put, List.getElem_toArray, List.getElem_cons_zero, List.getElem_cons_succ, List.setIfInBounds_toArray, List.set_cons_zero, List.set_cons_succ]
                  refine wpAnyH_take (i := 1) (v := ?_) rfl (by kernel_rfl) (by kernel_rfl) (by kernel_rfl) (fun _ _ _ h => h) (Or.inl ⟨by rfl, ?_⟩) hHeld ?_
                  rotate_left
                  · (intro wq hSw; (try dsimp only at hSw); (try obtain ⟨s0, s1, s2⟩ := hSw); (go_simp <;> with_reducible rfl))
                  try simp only [Act.put, List.getElem_toArray, List.getElem_cons_zero, List.getElem_cons_succ, List.setIfInBounds_toArray, List.set_cons_zero, List.set_cons_succ]
                  refine wpAnyH_take (i := 2) (v := ?_) rfl (by kernel_rfl) (by kernel_rfl) (by kernel_rfl) (fun _ _ _ h => h) (Or.inl ⟨by rfl, ?_⟩) hHeld ?_
                  rotate_left
                  · (intro wq hSw; (try dsimp only at hSw); (try obtain ⟨s0, s1, s2⟩ := hSw); (go_simp <;> with_reducible rfl))
                  try simp only [Act.put, List.getElem_toArray, List.getElem_cons_zero, List.getElem_cons_succ, List.setIfInBounds_toArray, List.set_cons_zero, List.set_cons_succ]
                  refine wpAnyH_take (i := 3) (v := ?_) rfl (by kernel_rfl) (by kernel_rfl) (by kernel_rfl) (fun _ _ _ h => h) (Or.inl ⟨by rfl, ?_⟩) hHeld ?_
                  rotate_left
                  · (intro wq hSw; (try dsimp only at hSw); (try obtain ⟨s0, s1, s2⟩ := hSw); (go_simp <;> with_reducible rfl))
                  try simp only [Act.put, List.getElem_toArray, List.getElem_cons_zero, List.getElem_cons_succ, List.setIfInBounds_toArray, List.set_cons_zero, List.set_cons_succ]
                  refine wpAnyH_take (i := 4) (v := ?_) rfl (by kernel_rfl) (by kernel_rfl) (by kernel_rfl) (fun _ _ _ h => h) (Or.inl ⟨by rfl, ?_⟩) hHeld ?_
                  rotate_left
                  · (intro wq hSw; (try dsimp only at hSw); (try obtain ⟨s0, s1, s2⟩ := hSw); (go_simp <;> with_reducible rfl))
                  try simp only [Act.put, List.getElem_toArray, List.getElem_cons_zero, List.getElem_cons_succ, List.setIfInBounds_toArray, List.set_cons_zero, List.set_cons_succ]
                  refine wpAnyH_take (i := 5) (v := ?_) rfl (by kernel_rfl) (by kernel_rfl) (by kernel_rfl) (fun _ _ _ h => h) (Or.inl ⟨by rfl, ?_⟩) hHeld ?_
                  rotate_left
                  · (intro wq hSw; (try dsimp only at hSw); (try obtain ⟨s0, s1, s2⟩ := hSw); (go_simp <;> with_reducible rfl))
                  try simp only [Act.put, List.getElem_toArray, List.getElem_cons_zero, List.getElem_cons_succ, List.setIfInBounds_toArray, List.set_cons_zero, List.set_cons_succ]
                  refine wpAnyH_take (i := 6) (v := ?_) rfl (by kernel_rfl) (by kernel_rfl) (by kernel_rfl) (fun _ _ _ h => h) (Or.inl ⟨by rfl, ?_⟩) hHeld ?_
                  rotate_left
                  · (intro wq hSw; (try dsimp only at hSw); (try obtain ⟨s0, s1, s2⟩ := hSw); (go_simp <;> with_reducible rfl))
                  try simp only [Act.put, List.getElem_toArray, List.getElem_cons_zero, List.getElem_cons_succ, List.setIfInBounds_toArray, List.set_cons_zero, List.set_cons_succ]
                  refine wpAnyH_take (i := 7) (v := ?_) rfl (by kernel_rfl) (by kernel_rfl) (by kernel_rfl) (fun _ _ _ h => h) (Or.inl ⟨by rfl, ?_⟩) hHeld ?_
                  rotate_left
                  · (intro wq hSw; (try dsimp only at hSw); (try obtain ⟨s0, s1, s2⟩ := hSw); (go_simp <;> with_reducible rfl))
                  try simp only [Act.put, List.getElem_toArray, List.getElem_cons_zero, List.getElem_cons_succ, List.setIfInBounds_toArray, List.set_cons_zero, List.set_cons_succ]
                  refine wpAnyH_take (i := 8) (v := ?_) rfl (by kernel_rfl) (by kernel_rfl) (by kernel_rfl) (fun _ _ _ h => h) (Or.inl ⟨by rfl, ?_⟩) hHeld ?_
                  rotate_left
                  · (intro wq hSw; (try dsimp only at hSw); (try obtain ⟨s0, s1, s2⟩ := hSw); (go_simp <;> with_reducible rfl))
                  try simp only [Act.put, List.getElem_toArray, List.getElem_cons_zero, List.getElem_cons_succ, List.setIfInBounds_toArray, List.set_cons_zero, List.set_cons_succ]
                  refine wpAnyH_take (i := 9) (v := ?_) rfl (by kernel_rfl) (by kernel_rfl) (by kernel_rfl) (fun _ _ _ h => h) (Or.inl ⟨by rfl, ?_⟩) hHeld ?_
                  rotate_left
                  · (intro wq hSw; (try dsimp only at hSw); (try obtain ⟨s0, s1, s2⟩ := hSw); (go_simp <;> with_reducible rfl))
                  try simp only [Act.put, List.getElem_toArray, List.getElem_cons_zero, List.getElem_cons_succ, List.setIfInBounds_toArray, List.set_cons_zero, List.set_cons_succ]
                  refine wpAnyH_ready (rs := [10]) (by kernel_rfl) (by simp) ?_
                  refine AllReadyH.cons rfl (fun K hK => ?_) AllReadyH.nil
                  go_simp
                  have BAc : Below w6.heap.size w6 (w6.alloc (.cells #[.int .u32 (y3 : Int)] 42)).drew := ((Below.refl _ w6).alloc (Nat.le_refl _) _).drew
                  have HAc := hide (HTw6.out.keep BAc)
                  have HNc : Hid (∀ j u, [Value.int .u32 (y3 : Int)][j]? = some u → (w6.alloc (.cells #[.int .u32 (y3 : Int)] 42)).drew.cell? ((⟨w6.heap.size, 0, none⟩ : Addr).add j) = some u) := fun j u hj => cell_new8 w6 _ 42 j u hj
                  have a0 : (w6.alloc (.cells #[.int .u32 (y3 : Int)] 42)).drew.cell? ⟨w.heap.size, 1, none⟩ = some (.slice (some ⟨rb0, ro, none⟩) m cR) := by rw [BAc.cell (p := ⟨w.heap.size, 1, none⟩) (block_lt_of_cell cXc)]; exact cXc
                  have a2 : (w6.alloc (.cells #[.int .u32 (y3 : Int)] 42)).drew.cell? ⟨w.heap.size, 2, none⟩ = some (.int .u64 (by_ : Int)) := by rw [BAc.cell (p := ⟨w.heap.size, 2, none⟩) (block_lt_of_cell cYc)]; exact cYc
                  have a1 : (w6.alloc (.cells #[.int .u32 (y3 : Int)] 42)).drew.cell? ⟨rb0, ro + i, none⟩ = some (.int .u32 (x : Int)) := by rw [BAc.cell (p := ⟨rb0, ro + i, none⟩) (block_lt_of_cell cVc)]; exact cVc
                  generalize (w6.alloc (.cells #[.int .u32 (y3 : Int)] 42)).drew = wa at *
                  refine hK.out _ _ ⟨a0, a2, a1⟩ (fun hHeld => ?_)
                  clear hK K BAc a0 a1 a2
                  try simp only [Act.put, List.getElem_toArray, List.getElem_cons_zero, List.getElem_cons_succ, List.setIfInBounds_toArray, List.set_cons_zero, List.set_cons_succ]
                  refine wpAnyH_ready (rs := [11]) (by kernel_rfl) (by simp) ?_
                  refine AllReadyH.cons rfl (fun K hK => ?_) AllReadyH.nil
                  refine step_append_lies _ rfl _ _ _ rfl w2.heap.size 42 i5 (.int .u32 0) 1 4 Tryz.underlying30 Hi.out.1 Hi.out.2.1 Hi.out.2.2.1 Hi.out.2.2.2 rfl (by decide) t3 i (valsV32 i (fun j => g j ^^^ bz)) (by simp [Act.eval]) HAc.out.o1 ⟨w6.heap.size, 0, none⟩ 1 1 [.int .u32 (y3 : Int)] (by simp [Act.eval]) rfl HNc.out (by intro u hu; simp at hu; subst hu; rfl) (by decide) (by unfold maxLen; omega) (by omega) (Nat.le_trans HAc.out.hB HAc.out.bel.size) _ rfl ?_
                  intro gc capc w8 hoc hgc hatc hltc
                  have HTw8 := hide (HAc.out.step32 HY3.out hoc hgc hatc).rot
                  clear hoc hgc hatc hltc HAc HNc
                  have cXcz : w8.cell? ⟨w.heap.size, 1, none⟩ = some (.slice (some ⟨rb0, ro, none⟩) m cR) := by rw [HTw8.out.bel.cell (p := ⟨w.heap.size, 1, none⟩) hXw2.out]; exact HC0.out
                  have cYcz : w8.cell? ⟨w.heap.size, 2, none⟩ = some (.int .u64 (by_ : Int)) := by rw [HTw8.out.bel.cell (p := ⟨w.heap.size, 2, none⟩) hXw2.out]; exact HX2w2.out
                  have cVcz : w8.cell? ⟨rb0, ro + i, none⟩ = some (.int .u32 (x : Int)) := by rw [HTw8.out.bel.cell (p := ⟨rb0, ro + i, none⟩) (block_lt_of_cell HC1.out)]; exact HC1.out
                  refine hK.out _ _ ⟨cXcz, cYcz, cVcz⟩ (fun hHeld => ?_)
                  clear hK K
                  try simp only [Act.put, List.getElem_toArray, List.getElem_cons_zero, List.getElem_cons_succ, List.setIfInBounds_toArray, List.set_cons_zero, List.set_cons_succ]
                  refine wpAnyH_take (i := 12) (v := ?_) rfl (by kernel_rfl) (by kernel_rfl) (by kernel_rfl) (fun _ _ _ h => h) (Or.inl ⟨by rfl, ?_⟩) hHeld ?_
                  rotate_left
                  · (intro wq hSw; (try dsimp only at hSw); (try obtain ⟨s0, s1, s2⟩ := hSw); (go_simp <;> with_reducible rfl))
                  try simp only [Act.put, List.getElem_toArray, List.getElem_cons_zero, List.getElem_cons_succ, List.setIfInBounds_toArray, List.set_cons_zero, List.set_cons_succ]
                  refine wpAnyH_done (by kernel_rfl) ?_ _
                  go_wp2_with fail
                  go_roundw
                  case rel => exact ⟨_, _, _, i + 1, rfl, rfl, rfl, by simp, hlt, HTw8.out⟩
                  case measure => simp [intOf]; omega
          · have hin : i = m := by have := hI.out; omega
            have cX : wr.cell? ⟨w.heap.size, 1, none⟩ = some (.slice pR m cR) := by rw [HTwr.out.bel.cell (p := ⟨w.heap.size, 1, none⟩) hXw2.out]; exact HX1w2.out
            go_wp2_with fail
            go_meet
            case rel => exact hin ▸ HTwr.out
    case rest =>
      obtain ⟨w3, hw3⟩ : ∃ w3, w3 = wc := ⟨_, rfl⟩
      rw [← hw3] at hcut ⊢
      clear hw3
      obtain ⟨b1, d1, rfl, hd1, R1⟩ := USt32.row ⟨hcut.out.o1, hcut.out.bel, hcut.out.hB⟩
      obtain ⟨b2, d2, rfl, hd2, R2⟩ := USt32.row ⟨hcut.out.o2, hcut.out.bel, hcut.out.hB⟩
      obtain ⟨b3, d3, rfl, hd3, R3⟩ := USt32.row ⟨hcut.out.o3, hcut.out.bel, hcut.out.hB⟩
      have B3 := hcut.out.bel
      have HBw3' : Hid (Below w.heap.size w w3) := HBw2.out.trans (B3.mono (Nat.le_of_lt hXw2.out))
      have HFA : Hid (∀ wy, Below w3.heap.size w3 wy → MvSt w pW pR a1 a2 a3 b1 b2 b3 n cW m cR by_ bz f g wy) := fun wy hy =>
        MvSt.below (wy := w3) ⟨⟨by rw [B3.cell (p := ⟨w.heap.size, 0, none⟩) hXw2.out]; exact HX0w2.out, by rw [B3.cell (p := ⟨w.heap.size, 1, none⟩) hXw2.out]; exact HX1w2.out⟩, HR64w2.out.below B3, HR1w2.out.below B3, HR2w2.out.below B3, HR3w2.out.below B3, HR32w2.out.below B3, R1, R2, R3, HTw2.out.below B3⟩ hy
      clear hcut R1 R2 R3 B3 HX0w2 HX1w2 HX2w2 HR64w2 HR32w2 HTw2 HBw2 hXw2 HR1w2 HR2w2 HR3w2 z1
      have HBw3 : Hid (Below w3.heap.size w3 w3) := Below.refl _ _
      obtain ⟨cX0, cX1⟩ := (HFA.out w3 HBw3.out).box
      as_aux_lemma =>
        go_wp2_with fail
        refine (stride64_is pW n cW f w3 (HFA.out w3 HBw3.out).r0 (by omega) (by omega) HF64.out (HFA.out w3 HBw3.out).tab).mono ?_
        rintro e wa ⟨va, rfl, hOva, Bwa⟩
        have HBwa : Hid (Below w3.heap.size w3 wa) := HBw3.out.trans (Bwa.mono HBw3.out.size)
        have HOva := hide (fun wy (hy : Below wa.heap.size wa wy) => hOva.below hy)
        have bwa := hide Bwa
        obtain ⟨cX0, cX1⟩ := (HFA.out wa HBwa.out).box
        clear hOva Bwa
        go_wp2_with fail
        refine (stride64_is a1 n c1 (fun j => (f j + by_) % 18446744073709551616) wa (HFA.out wa HBwa.out).r1 (by omega) (by omega) (fun j hj => Nat.mod_lt _ (by omega)) (HFA.out wa HBwa.out).tab).mono ?_
        rintro e wb ⟨vb, rfl, hOvb, Bwb⟩
        have HBwb : Hid (Below w3.heap.size w3 wb) := HBwa.out.trans (Bwb.mono HBwa.out.size)
        have HOvb := hide (fun wy (hy : Below wb.heap.size wb wy) => hOvb.below hy)
        have bwb := hide Bwb
        obtain ⟨cX0, cX1⟩ := (HFA.out wb HBwb.out).box
        clear hOvb Bwb
        go_wp2_with fail
        refine (stride32_is pR m cR g wb (HFA.out wb HBwb.out).q0 (by omega) (by omega) HF32.out (HFA.out wb HBwb.out).tab).mono ?_
        rintro e wc ⟨vc, rfl, hOvc, Bwc⟩
        have HBwc : Hid (Below w3.heap.size w3 wc) := HBwb.out.trans (Bwc.mono HBwb.out.size)
        have HOvc := hide (fun wy (hy : Below wc.heap.size wc wy) => hOvc.below hy)
        have bwc := hide Bwc
        obtain ⟨cX0, cX1⟩ := (HFA.out wc HBwc.out).box
        clear hOvc Bwc
        go_wp2_with fail
        refine (stride32_is b1 m d1 (fun j => (g j + bz) % 4294967296) wc (HFA.out wc HBwc.out).q1 (by omega) (by omega) (fun j hj => Nat.mod_lt _ (by omega)) (HFA.out wc HBwc.out).tab).mono ?_
        rintro e wd ⟨vd, rfl, hOvd, Bwd⟩
        have HBwd : Hid (Below w3.heap.size w3 wd) := HBwc.out.trans (Bwd.mono HBwc.out.size)
        have HOvd := hide (fun wy (hy : Below wd.heap.size wd wy) => hOvd.below hy)
        have bwd := hide Bwd
        obtain ⟨cX0, cX1⟩ := (HFA.out wd HBwd.out).box
        clear hOvd Bwd
        have HMa : Hid (tailL (packed (stB 9223372036854775808 18446744073709551616 (fun j => (f j + by_) % 18446744073709551616) n)) = tailL (packed (stB 9223372036854775808 18446744073709551616 f n))) := tail_moved 9223372036854775808 18446744073709551616 by_ f _ n (by decide) (by decide) (by decide) HF64.out (fun _ _ => rfl)
        have HMc : Hid (tailL (packed (stB 2147483648 4294967296 (fun j => (g j + bz) % 4294967296) m)) = tailL (packed (stB 2147483648 4294967296 g m))) := tail_moved 2147483648 4294967296 bz g _ m (by decide) (by decide) (by decide) HF32.out (fun _ _ => rfl)
        have ba : Hid (Below wa.heap.size wa wd) := bwb.out.trans ((bwc.out.trans (bwd.out.mono bwc.out.size)).mono bwb.out.size)
        have bb : Hid (Below wb.heap.size wb wd) := bwc.out.trans (bwd.out.mono bwc.out.size)
        have HLa : Hid ((packed (stB 9223372036854775808 18446744073709551616 f n)).length ≤ 1000000000000) := by have := stB_len64 9223372036854775808 18446744073709551616 f n; show _ ≤ _; rw [packed_length]; omega
        have HLb : Hid ((packed (stB 9223372036854775808 18446744073709551616 (fun j => (f j + by_) % 18446744073709551616) n)).length ≤ 1000000000000) := by have := stB_len64 9223372036854775808 18446744073709551616 (fun j => (f j + by_) % 18446744073709551616) n; show _ ≤ _; rw [packed_length]; omega
        have HLc : Hid ((packed (stB 2147483648 4294967296 g m)).length ≤ 1000000000000) := by have := stB_len32 2147483648 4294967296 g m; show _ ≤ _; rw [packed_length]; omega
        have HLd : Hid ((packed (stB 2147483648 4294967296 (fun j => (g j + bz) % 4294967296) m)).length ≤ 1000000000000) := by have := stB_len32 2147483648 4294967296 (fun j => (g j + bz) % 4294967296) m; show _ ≤ _; rw [packed_length]; omega
        have HTa := hide (tail8_any va _ wd (HOva.out wd ba.out) HLa.out)
        have HTb := hide (tail8_any vb _ wd (HOvb.out wd bb.out) HLb.out)
        have HTc := hide (tail8_any vc _ wd (HOvc.out wd bwd.out) HLc.out)
        have HTd := hide (tail8_any vd _ wd (HOvd.out wd (Below.refl _ _)) HLd.out)
        rw [HMa.out] at HTb
        rw [HMc.out] at HTd
        generalize strOf (tailL (packed (stB 9223372036854775808 18446744073709551616 f n))) = SA at HTa HTb
        generalize strOf (tailL (packed (stB 2147483648 4294967296 g m))) = SC at HTc HTd
        clear HMa HMc HLa HLb HLc HLd ba bb bwa bwb bwc bwd HOva HOvb HOvc HOvd
        go_wp2_with fail
        refine (num8_any _ _).mono ?_
        rintro e wn ⟨rfl, hwn⟩
        have hwn := hwn.symm
        subst hwn
        go_wp2_with fail
        refine (num8_any _ _).mono ?_
        rintro e wn ⟨rfl, hwn⟩
        have hwn := hwn.symm
        subst hwn
        go_wp2_with fail
        refine (num8_any _ _).mono ?_
        rintro e wn ⟨rfl, hwn⟩
        have hwn := hwn.symm
        subst hwn
        go_wp2_with fail
        refine (num8_any _ _).mono ?_
        rintro e wn ⟨rfl, hwn⟩
        have hwn := hwn.symm
        subst hwn
        go_wp2_with fail
        refine HTa.out.mono ?_
        rintro e wn ⟨rfl, hwn⟩
        have hwn := hwn.symm
        subst hwn
        go_wp2_with fail
        refine HTb.out.mono ?_
        rintro e wn ⟨rfl, hwn⟩
        have hwn := hwn.symm
        subst hwn
        go_wp2_with fail
        refine HTc.out.mono ?_
        rintro e wn ⟨rfl, hwn⟩
        have hwn := hwn.symm
        subst hwn
        go_wp2_with fail
        refine HTd.out.mono ?_
        rintro e wn ⟨rfl, hwn⟩
        have hwn := hwn.symm
        subst hwn
        go_wp2_with fail
        refine (sizes64_any pW n cW f wd (HFA.out wd HBwd.out).r0 (by omega) (by omega) HF64.out (HFA.out wd HBwd.out).tab).mono ?_
        rintro e we ⟨v, rfl, hown, Bwe⟩
        obtain ⟨ge, cge, rfl, hcge, hs⟩ := sizes_cap hown
        have HBwe : Hid (Below w3.heap.size w3 we) := HBwd.out.trans (Bwe.mono HBwd.out.size)
        have HSge : Hid (∀ wy, Below we.heap.size we wy → ∀ j, j < 6 → wy.cell? ⟨ge, j, none⟩ = some (.int .i64 (szI64 f n (j + 1)))) := fun wy hy j hj => by
          have h0 := hs j (.int .i64 (szI64 f n (j + 1))) hj (by simp [szV64, hj])
          rw [hy.cell (p := ⟨ge, j, none⟩) (block_lt_of_cell h0)]; exact h0
        have bwe := hide Bwe
        obtain ⟨cX0, cX1⟩ := (HFA.out we HBwe.out).box
        clear hown hs Bwe
        go_wp2_with fail
        refine (sizes64_any a2 n c2 (fun j => f (n - 1 - j)) we (HFA.out we HBwe.out).r2 (by omega) (by omega) (fun q hq => HF64.out _ (by omega)) (HFA.out we HBwe.out).tab).mono ?_
        rintro e wf ⟨v, rfl, hown, Bwf⟩
        obtain ⟨gf, cgf, rfl, hcgf, hs⟩ := sizes_cap hown
        have HBwf : Hid (Below w3.heap.size w3 wf) := HBwe.out.trans (Bwf.mono HBwe.out.size)
        have HSgf : Hid (∀ wy, Below wf.heap.size wf wy → ∀ j, j < 6 → wy.cell? ⟨gf, j, none⟩ = some (.int .i64 (szI64 (fun j => f (n - 1 - j)) n (j + 1)))) := fun wy hy j hj => by
          have h0 := hs j (.int .i64 (szI64 (fun j => f (n - 1 - j)) n (j + 1))) hj (by simp [szV64, hj])
          rw [hy.cell (p := ⟨gf, j, none⟩) (block_lt_of_cell h0)]; exact h0
        have bwf := hide Bwf
        obtain ⟨cX0, cX1⟩ := (HFA.out wf HBwf.out).box
        clear hown hs Bwf
        go_wp2_with fail
        refine (sizes64_any a3 n c3 (fun j => f j ^^^ by_) wf (HFA.out wf HBwf.out).r3 (by omega) (by omega) (fun q hq => xor_lt 64 _ _ (HF64.out q hq) HBY.out) (HFA.out wf HBwf.out).tab).mono ?_
        rintro e wg ⟨v, rfl, hown, Bwg⟩
        obtain ⟨gg, cgg, rfl, hcgg, hs⟩ := sizes_cap hown
        have HBwg : Hid (Below w3.heap.size w3 wg) := HBwf.out.trans (Bwg.mono HBwf.out.size)
        have HSgg : Hid (∀ wy, Below wg.heap.size wg wy → ∀ j, j < 6 → wy.cell? ⟨gg, j, none⟩ = some (.int .i64 (szI64 (fun j => f j ^^^ by_) n (j + 1)))) := fun wy hy j hj => by
          have h0 := hs j (.int .i64 (szI64 (fun j => f j ^^^ by_) n (j + 1))) hj (by simp [szV64, hj])
          rw [hy.cell (p := ⟨gg, j, none⟩) (block_lt_of_cell h0)]; exact h0
        have bwg := hide Bwg
        obtain ⟨cX0, cX1⟩ := (HFA.out wg HBwg.out).box
        clear hown hs Bwg
        have Hx1 : Hid (∀ j, j < 6 → wg.cell? ⟨ge, j, none⟩ = some (.int .i64 (szI64 f n (j + 1)))) := HSge.out wg (bwf.out.trans (bwg.out.mono bwf.out.size))
        have Hx2 : Hid (∀ j, j < 6 → wg.cell? ⟨gf, j, none⟩ = some (.int .i64 (szI64 (fun j => f (n - 1 - j)) n (j + 1)))) := HSgf.out wg bwg.out
        have Hx3 : Hid (∀ j, j < 4 → wg.cell? ⟨gg, j, none⟩ = some (.int .i64 (szI64 f n (j + 1)))) := fun j hj => by
          have := HSgg.out wg (Below.refl _ _) j (by omega)
          rw [szI64_xor by_ f (fun j => f j ^^^ by_) n (j + 1) (by omega) (fun _ _ => rfl)] at this
          exact this
        have x10 := Hx1.out 0 (by omega)
        have x20 : wg.cell? ⟨gf, 0, none⟩ = some (.int .i64 (szI64 f n 1)) := by
          have := Hx2.out 0 (by omega)
          rw [szI64_turn f (fun j => f (n - 1 - j)) n (0 + 1) (by omega) (fun _ _ => rfl)] at this
          exact this
        have x12 := Hx1.out 2 (by omega)
        have x22 : wg.cell? ⟨gf, 2, none⟩ = some (.int .i64 (szI64 f n 3)) := by
          have := Hx2.out 2 (by omega)
          rw [szI64_turn f (fun j => f (n - 1 - j)) n (2 + 1) (by omega) (fun _ _ => rfl)] at this
          exact this
        have x13 := Hx1.out 3 (by omega)
        have x23 : wg.cell? ⟨gf, 3, none⟩ = some (.int .i64 (szI64 f n 4)) := by
          have := Hx2.out 3 (by omega)
          rw [szI64_turn f (fun j => f (n - 1 - j)) n (3 + 1) (by omega) (fun _ _ => rfl)] at this
          exact this
        go_wp2_with fail
        refine (num8_any _ _).mono ?_
        rintro e wn ⟨rfl, hwn⟩
        have hwn := hwn.symm
        subst hwn
        go_wp2_with fail
        refine (num8_any _ _).mono ?_
        rintro e wn ⟨rfl, hwn⟩
        have hwn := hwn.symm
        subst hwn
        go_wp2_with fail
        refine (num8_any _ _).mono ?_
        rintro e wn ⟨rfl, hwn⟩
        have hwn := hwn.symm
        subst hwn
        have HQ := hide (fun N => sizesEq8_any ge gg 4 cge cgg (fun j => szI64 f n (j + 1)) (wg.drewN N) (by omega) (fun j hj => Hx1.out j (by omega)) (fun j hj => Hx3.out j hj))
        clear Hx1 Hx2 Hx3 HSge HSgf HSgg bwe bwf bwg cX0 cX1
        simp only [Nat.zero_add, Nat.reduceAdd] at x10 x12 x13
        generalize szI64 f n 1 = s1 at x10 x20
        generalize szI64 f n 3 = s3 at x12 x22
        generalize szI64 f n 4 = s4 at x13 x23
        go_wp2_with fail
        go_quiet ((go_at_call 29; exact Calls.quiet_of (HQ.out _)))
        clear x10 x12 x13 x20 x22 x23 HQ
        have HBwh : Hid (∀ N, Below w3.heap.size w3 (wg.drewN N)) := fun N => below_drewN HBwg.out N
        obtain ⟨cX0, cX1⟩ := (HFA.out _ (HBwh.out nq)).box
        go_wp2_with fail
        refine (sizes32_any pR m cR g _ (HFA.out _ (HBwh.out _)).q0 (by omega) (by omega) HF32.out (HFA.out _ (HBwh.out _)).tab).mono ?_
        rintro e wi ⟨v, rfl, hown, Bwi⟩
        obtain ⟨gi, cgi, rfl, hcgi, hs⟩ := sizes_cap hown
        have HBwi : Hid (Below w3.heap.size w3 wi) := (HBwh.out _).trans (Bwi.mono (HBwh.out _).size)
        have HSgi : Hid (∀ wy, Below wi.heap.size wi wy → ∀ j, j < 6 → wy.cell? ⟨gi, j, none⟩ = some (.int .i64 (szI32 g m (j + 1)))) := fun wy hy j hj => by
          have h0 := hs j (.int .i64 (szI32 g m (j + 1))) hj (by simp [szV32, hj])
          rw [hy.cell (p := ⟨gi, j, none⟩) (block_lt_of_cell h0)]; exact h0
        have bwi := hide Bwi
        obtain ⟨cX0, cX1⟩ := (HFA.out wi HBwi.out).box
        clear hown hs Bwi
        go_wp2_with fail
        refine (sizes32_any b2 m d2 (fun j => g (m - 1 - j)) wi (HFA.out wi HBwi.out).q2 (by omega) (by omega) (fun q hq => HF32.out _ (by omega)) (HFA.out wi HBwi.out).tab).mono ?_
        rintro e wj ⟨v, rfl, hown, Bwj⟩
        obtain ⟨gj, cgj, rfl, hcgj, hs⟩ := sizes_cap hown
        have HBwj : Hid (Below w3.heap.size w3 wj) := HBwi.out.trans (Bwj.mono HBwi.out.size)
        have HSgj : Hid (∀ wy, Below wj.heap.size wj wy → ∀ j, j < 6 → wy.cell? ⟨gj, j, none⟩ = some (.int .i64 (szI32 (fun j => g (m - 1 - j)) m (j + 1)))) := fun wy hy j hj => by
          have h0 := hs j (.int .i64 (szI32 (fun j => g (m - 1 - j)) m (j + 1))) hj (by simp [szV32, hj])
          rw [hy.cell (p := ⟨gj, j, none⟩) (block_lt_of_cell h0)]; exact h0
        have bwj := hide Bwj
        obtain ⟨cX0, cX1⟩ := (HFA.out wj HBwj.out).box
        clear hown hs Bwj
        go_wp2_with fail
        refine (sizes32_any b3 m d3 (fun j => g j ^^^ bz) wj (HFA.out wj HBwj.out).q3 (by omega) (by omega) (fun q hq => xor_lt 32 _ _ (HF32.out q hq) HBZ.out) (HFA.out wj HBwj.out).tab).mono ?_
        rintro e wk ⟨v, rfl, hown, Bwk⟩
        obtain ⟨gk, cgk, rfl, hcgk, hs⟩ := sizes_cap hown
        have HBwk : Hid (Below w3.heap.size w3 wk) := HBwj.out.trans (Bwk.mono HBwj.out.size)
        have HSgk : Hid (∀ wy, Below wk.heap.size wk wy → ∀ j, j < 6 → wy.cell? ⟨gk, j, none⟩ = some (.int .i64 (szI32 (fun j => g j ^^^ bz) m (j + 1)))) := fun wy hy j hj => by
          have h0 := hs j (.int .i64 (szI32 (fun j => g j ^^^ bz) m (j + 1))) hj (by simp [szV32, hj])
          rw [hy.cell (p := ⟨gk, j, none⟩) (block_lt_of_cell h0)]; exact h0
        have bwk := hide Bwk
        obtain ⟨cX0, cX1⟩ := (HFA.out wk HBwk.out).box
        clear hown hs Bwk
        have Hx1 : Hid (∀ j, j < 6 → wk.cell? ⟨gi, j, none⟩ = some (.int .i64 (szI32 g m (j + 1)))) := HSgi.out wk (bwj.out.trans (bwk.out.mono bwj.out.size))
        have Hx2 : Hid (∀ j, j < 6 → wk.cell? ⟨gj, j, none⟩ = some (.int .i64 (szI32 (fun j => g (m - 1 - j)) m (j + 1)))) := HSgj.out wk bwk.out
        have Hx3 : Hid (∀ j, j < 4 → wk.cell? ⟨gk, j, none⟩ = some (.int .i64 (szI32 g m (j + 1)))) := fun j hj => by
          have := HSgk.out wk (Below.refl _ _) j (by omega)
          rw [szI32_xor bz g (fun j => g j ^^^ bz) m (j + 1) (by omega) (fun _ _ => rfl)] at this
          exact this
        have x10 := Hx1.out 0 (by omega)
        have x20 : wk.cell? ⟨gj, 0, none⟩ = some (.int .i64 (szI32 g m 1)) := by
          have := Hx2.out 0 (by omega)
          rw [szI32_turn g (fun j => g (m - 1 - j)) m (0 + 1) (by omega) (fun _ _ => rfl)] at this
          exact this
        have x12 := Hx1.out 2 (by omega)
        have x22 : wk.cell? ⟨gj, 2, none⟩ = some (.int .i64 (szI32 g m 3)) := by
          have := Hx2.out 2 (by omega)
          rw [szI32_turn g (fun j => g (m - 1 - j)) m (2 + 1) (by omega) (fun _ _ => rfl)] at this
          exact this
        have x13 := Hx1.out 3 (by omega)
        have x23 : wk.cell? ⟨gj, 3, none⟩ = some (.int .i64 (szI32 g m 4)) := by
          have := Hx2.out 3 (by omega)
          rw [szI32_turn g (fun j => g (m - 1 - j)) m (3 + 1) (by omega) (fun _ _ => rfl)] at this
          exact this
        go_wp2_with fail
        refine (num8_any _ _).mono ?_
        rintro e wn ⟨rfl, hwn⟩
        have hwn := hwn.symm
        subst hwn
        go_wp2_with fail
        refine (num8_any _ _).mono ?_
        rintro e wn ⟨rfl, hwn⟩
        have hwn := hwn.symm
        subst hwn
        go_wp2_with fail
        refine (num8_any _ _).mono ?_
        rintro e wn ⟨rfl, hwn⟩
        have hwn := hwn.symm
        subst hwn
        have HQ := hide (fun N => sizesEq8_any gi gk 4 cgi cgk (fun j => szI32 g m (j + 1)) (wk.drewN N) (by omega) (fun j hj => Hx1.out j (by omega)) (fun j hj => Hx3.out j hj))
        clear Hx1 Hx2 Hx3 HSgi HSgj HSgk bwi bwj bwk cX0 cX1
        simp only [Nat.zero_add, Nat.reduceAdd] at x10 x12 x13
        generalize szI32 g m 1 = s1 at x10 x20
        generalize szI32 g m 3 = s3 at x12 x22
        generalize szI32 g m 4 = s4 at x13 x23
        go_wp2_with fail
        go_quiet ((go_at_call 29; exact Calls.quiet_of (HQ.out _)))
        go_wp2_with fail
        go_ret
        exact ⟨rfl, HBw3'.out.trans ((below_drewN HBwk.out _).mono HBw3'.out.size)⟩
end Go.Proofs.YtgjjkopmoobilaaGreatDoor

/- back: a column there and back, its beginning, eight values more. -/
import Derived.Test.YtenhippcjnemcaaDoorP2O
import Derived.Test.YtenhippcjnemcaaDoorP2P
namespace Go.Proofs.YtenhippcjnemcaaDoor
open Go.RowKit
open M
set_option linter.unusedVariables false
set_option linter.unusedSimpArgs false

theorem isBytes_take {w : World} {g : Nat} {bs : List Nat} (h : w.heap[g]? = some (.cells (bytesV bs).toArray 5 (0, 0))) (k cap : Nat) (hk : k ≤ bs.length) : IsBytes w (.slice (some ⟨g, 0, none⟩) k cap) (bs.take k) := by
  refine .inr ⟨g, 0, cap, by rw [List.length_take, Nat.min_eq_left hk], fun i hi => ?_⟩
  rw [List.length_take] at hi
  have hi' : i < bs.length := by omega
  rw [cell_of_row _ _ _ _ _ _ h]
  have hik : i < k := by omega
  simp [bytesV, List.getD, hi', hik]

theorem own_empty {w : World} {g B : Nat} {t : TypeId} (hg : B ≤ g) (h : w.heap[g]? = some (.cells #[] t (0, 0))) : w.ownsRow B t 1 (.slice (some ⟨g, 0, none⟩) 0 0) 0 [] :=
  ⟨by simp, .inr ⟨g, 0, #[], rfl, hg, h, Nat.le_refl _, by unfold maxLen; omega, by simp, by simp⟩⟩

theorem more8_lt {M n : Nat} {f : Nat → Nat} (hf : ∀ i, i < n → f i < M) (hn : 0 < n) (i : Nat) : more8 f n i < M := by
  unfold more8
  by_cases h : i < n
  · rw [if_pos h]; exact hf i h
  · rw [if_neg h]; exact hf _ (by omega)

theorem below_mono' {B A : Nat} {w w' : World} (h : Below B w w') (hB : w.heap.size = B) (hA : A ≤ w.heap.size) : Below A w w' := h.mono (by omega)

theorem vals_one64 (n : Nat) (f : Nat → Nat) : ∀ u ∈ valsV64 n f, u.oneCell' = true := fun u hu => by
  simp only [valsV64, List.mem_map] at hu
  obtain ⟨j, _, rfl⟩ := hu
  rfl

theorem row8_64 {w : World} {B g cap n k1 x : Nat} {f : Nat → Nat} (hx : f k1 = x) (hk : n = k1 + 1) (ho : w.ownsRow B 39 1 (.slice (some ⟨g, 0, none⟩) (n + 8) cap) (n + 8) (valsV64 n f ++ [.int .u64 (x : Int), .int .u64 (x : Int), .int .u64 (x : Int), .int .u64 (x : Int), .int .u64 (x : Int), .int .u64 (x : Int), .int .u64 (x : Int), .int .u64 (x : Int)])) : URow64 w (some ⟨g, 0, none⟩) (n + 8) (more8 f n) ∧ n + 8 ≤ cap := by
  have e : valsV64 n f ++ [.int .u64 (x : Int), .int .u64 (x : Int), .int .u64 (x : Int), .int .u64 (x : Int), .int .u64 (x : Int), .int .u64 (x : Int), .int .u64 (x : Int), .int .u64 (x : Int)] = valsV64 (n + 8) (more8 f n) := by
    have h0 : valsV64 n f = valsV64 n (more8 f n) := by
      unfold valsV64
      apply List.map_congr_left
      intro j hj
      unfold more8
      rw [if_pos (List.mem_range.1 hj)]
    have h1 : ∀ j, n ≤ j → more8 f n j = x := fun j hj => by unfold more8; rw [if_neg (by omega), ← hx, show n - 1 = k1 from by omega]
    rw [h0]
    simp only [valsV64_succ, List.append_assoc, List.cons_append, List.nil_append]
    rw [h1 n (by omega), h1 (n + 1) (by omega), h1 (n + 2) (by omega), h1 (n + 3) (by omega), h1 (n + 4) (by omega), h1 (n + 5) (by omega), h1 (n + 6) (by omega), h1 (n + 7) (by omega)]
  rw [e] at ho
  obtain ⟨ad, cp, h1, h2, h3⟩ := USt64.row (B := B) (w0 := w) (f := more8 f n) (i := n + 8) (v := .slice (some ⟨g, 0, none⟩) (n + 8) cap) (wr := w) ⟨ho, Below.refl _ _, by rcases ho.2 with ⟨h, _⟩ | ⟨g', c', cur, h, hb, hg, _⟩; (· cases h); (· exact Nat.le_of_lt (Nat.lt_of_le_of_lt hb (size_lt_of_row hg)))⟩
  simp only [Value.slice.injEq] at h1
  obtain ⟨rfl, _, rfl⟩ := h1
  exact ⟨h3, h2⟩

theorem vals_one32 (n : Nat) (f : Nat → Nat) : ∀ u ∈ valsV32 n f, u.oneCell' = true := fun u hu => by
  simp only [valsV32, List.mem_map] at hu
  obtain ⟨j, _, rfl⟩ := hu
  rfl

theorem row8_32 {w : World} {B g cap n k1 x : Nat} {f : Nat → Nat} (hx : f k1 = x) (hk : n = k1 + 1) (ho : w.ownsRow B 42 1 (.slice (some ⟨g, 0, none⟩) (n + 8) cap) (n + 8) (valsV32 n f ++ [.int .u32 (x : Int), .int .u32 (x : Int), .int .u32 (x : Int), .int .u32 (x : Int), .int .u32 (x : Int), .int .u32 (x : Int), .int .u32 (x : Int), .int .u32 (x : Int)])) : URow32 w (some ⟨g, 0, none⟩) (n + 8) (more8 f n) ∧ n + 8 ≤ cap := by
  have e : valsV32 n f ++ [.int .u32 (x : Int), .int .u32 (x : Int), .int .u32 (x : Int), .int .u32 (x : Int), .int .u32 (x : Int), .int .u32 (x : Int), .int .u32 (x : Int), .int .u32 (x : Int)] = valsV32 (n + 8) (more8 f n) := by
    have h0 : valsV32 n f = valsV32 n (more8 f n) := by
      unfold valsV32
      apply List.map_congr_left
      intro j hj
      unfold more8
      rw [if_pos (List.mem_range.1 hj)]
    have h1 : ∀ j, n ≤ j → more8 f n j = x := fun j hj => by unfold more8; rw [if_neg (by omega), ← hx, show n - 1 = k1 from by omega]
    rw [h0]
    simp only [valsV32_succ, List.append_assoc, List.cons_append, List.nil_append]
    rw [h1 n (by omega), h1 (n + 1) (by omega), h1 (n + 2) (by omega), h1 (n + 3) (by omega), h1 (n + 4) (by omega), h1 (n + 5) (by omega), h1 (n + 6) (by omega), h1 (n + 7) (by omega)]
  rw [e] at ho
  obtain ⟨ad, cp, h1, h2, h3⟩ := USt32.row (B := B) (w0 := w) (f := more8 f n) (i := n + 8) (v := .slice (some ⟨g, 0, none⟩) (n + 8) cap) (wr := w) ⟨ho, Below.refl _ _, by rcases ho.2 with ⟨h, _⟩ | ⟨g', c', cur, h, hb, hg, _⟩; (· cases h); (· exact Nat.le_of_lt (Nat.lt_of_le_of_lt hb (size_lt_of_row hg)))⟩
  simp only [Value.slice.injEq] at h1
  obtain ⟨rfl, _, rfl⟩ := h1
  exact ⟨h3, h2⟩

set_option maxRecDepth 100000 in
set_option maxHeartbeats 8000000 in
theorem back64_any (p : Option Addr) (n cW : Nat) (f : Nat → Nat) (w : World) (h : URow64 w p n f) (hn : n ≤ 4096) (hcW : n ≤ cW) (hf : ∀ i, i < n → f i < 18446744073709551616) (hT : Tab64 w) :
    Calls Tryd.prog 7 #[.slice p n cW] w fun e w' => e = .returned (.bool true) ∧ Below w.heap.size w w' := by
  have H := hide h
  have HF := hide hf
  have HT := hide hT
  clear h hf hT
  go_enter Tryd.func7, Tryd.ntmps7
  go_wp2_with fail
  refine (pack64_ok p n cW f w H.out hn hcW HF.out HT.out).mono ?_
  rintro e w1 ⟨g1, L1, hL1, hg1, rfl, G1, B1⟩
  have HI : Hid (IsBytes w1 (.slice (some ⟨g1, 0, none⟩) L1 L1) (packed (cbn 64 6 f n))) := by
    have := isBytes_row (cap := L1) G1
    rw [← hL1] at this
    exact this
  have hl := cbn_length' 64 6 f n (by omega) HF.out
  have HLL : Hid ((packed (cbn 64 6 f n)).length ≤ 1000000000000) := by show _ ≤ _; rw [packed_length]; omega
  have HB1 : Hid (Below w.heap.size w w1) := B1
  have HG1 := hide G1
  have HL1 := hide hL1
  clear G1 B1 hL1 hl
  go_wp2_with fail
  refine (unpack64_any _ _ n w1 (.inl HI.out) (packed_lt _) HLL.out hn (HT.out.below HB1.out)).mono ?_
  rintro e w2 (⟨rfl, B2, hno⟩ | ⟨g2, f2, rfl, hg2, U2, B2, P2, hU⟩)
  · exact absurd ⟨f, HF.out, rfl⟩ hno
  have HB12 : Hid (Below w1.heap.size w1 w2) := B2
  have HB2 : Hid (Below w.heap.size w w2) := HB1.out.trans (B2.mono HB1.out.size)
  have HF2 : Hid ((∀ i, i < n → f2 i = f i) ∧ ∀ i, i < n → f2 i < 18446744073709551616) := ⟨hU f (begins_of64 ⟨HF.out, rfl⟩), P2.1⟩
  have HU2 : Hid (URow64 w2 (some ⟨g2, 0, none⟩) n f2) := U2.urow
  have HR2 : Hid (URow64 w2 p n f) := H.out.below HB2.out
  have HG2 : Hid (w2.heap[g1]? = some (.cells (bytesV (packed (cbn 64 6 f n))).toArray 5 (0, 0))) := by show _ = _; rw [B2.block g1 (size_lt_of_row HG1.out)]; exact HG1.out
  clear B2 P2 hU U2
  go_wp2_with fail
  refine (num_any _ _).mono ?_
  rintro e wn ⟨rfl, hwn⟩
  have hwn := hwn.symm
  subst hwn
  go_wp2_with fail
  refine (num_any _ _).mono ?_
  rintro e wn ⟨rfl, hwn⟩
  have hwn := hwn.symm
  subst hwn
  go_wp2_with fail
  refine (same_any _ _ n n _ _ f2 f w2 HU2.out HR2.out (by omega) (by omega)).mono ?_
  rintro e w3 ⟨v, rfl, hv, m3, hw3⟩
  obtain rfl : v = true := hv.2 ⟨rfl, HF2.out.1⟩
  have HB3 : Hid (Below w2.heap.size w2 w3) := by rw [hw3]; exact below_drewN (Below.refl _ _) m3
  clear hv hw3
  have HB03 : Hid (Below w.heap.size w w3) := HB2.out.trans (HB3.out.mono HB2.out.size)
  have HR3 : Hid (URow64 w3 p n f) := HR2.out.below HB3.out
  have HG3 : Hid (w3.heap[g1]? = some (.cells (bytesV (packed (cbn 64 6 f n))).toArray 5 (0, 0))) := by show _ = _; rw [HB3.out.block g1 (size_lt_of_row HG2.out)]; exact HG2.out
  clear HU2 HR2 HB3 HB12 HG2 HG1 HI
  by_cases hn0 : n = 0
  · subst hn0
    have hL0 : L1 = 0 := by rw [HL1.out, packed_length]; simp [cbn]
    subst hL0
    go_wp2_with fail
    go_ret
    exact ⟨rfl, HB03.out⟩
  obtain ⟨k1, hk1⟩ : ∃ k1, n = k1 + 1 := ⟨n - 1, by omega⟩
  have hne : ((n : Int) == 0) = false := by simp; omega
  have nk : (n : Int) - 1 = (k1 : Int) := by omega
  have HK1 := hide hk1
  obtain ⟨rb0, ro, hpe, hc⟩ := HR3.out (by omega)
  obtain ⟨x, hx⟩ : ∃ x, f k1 = x := ⟨_, rfl⟩
  have hx0 : w3.cell? ⟨rb0, ro + k1, none⟩ = some (.int .u64 (x : Int)) := by rw [← hx]; exact hc k1 (by omega)
  have HX := hide hx
  have HC := hide hc
  have hkn : k1 < n := by omega
  have hkc : k1 ≤ cW := by omega
  have hn0' : 0 < n := by omega
  clear hc hx hk1
  subst hpe
  go_wp2_with fail
  refine (pack64_ok _ k1 cW f w3 (HR3.out.take (by omega)) (by omega) (by omega) (fun i hi => HF.out i (by omega)) (HT.out.below HB03.out)).mono ?_
  rintro e w4 ⟨g4, L4, hL4, hg4, rfl, G4, B4⟩
  have HB4 : Hid (Below w3.heap.size w3 w4) := B4
  have HB04 : Hid (Below w.heap.size w w4) := HB03.out.trans (B4.mono HB03.out.size)
  have HG13 : Hid (w4.heap[g1]? = some (.cells (bytesV (packed (cbn 64 6 f n))).toArray 5 (0, 0))) := by show _ = _; rw [B4.block g1 (size_lt_of_row HG3.out)]; exact HG3.out
  have hx0 : w4.cell? ⟨rb0, ro + k1, none⟩ = some (.int .u64 (x : Int)) := by rw [B4.cell (p := ⟨rb0, ro + k1, none⟩) (block_lt_of_cell hx0)]; exact hx0
  have HBB := hide (begin_bytes 64 6 f k1)
  rw [← HK1.out] at HBB
  have hLe : L4 ≤ L1 := by rw [hL4, HL1.out]; exact HBB.out.1
  have hLb : L4 ≤ 100000 := by
    have := cbn_length' 64 6 f k1 (by omega) (fun i hi => HF.out i (by omega))
    rw [hL4, packed_length]; omega
  obtain ⟨s1, hs1⟩ : ∃ s1, s1 = strOf ((packed (cbn 64 6 f k1)).take (L4 - 1)) := ⟨_, rfl⟩
  have vA : ∀ N, (convert 34 9 (.slice (some ⟨g4, 0, none⟩) (L4 - 1) L4)).run Tryd.prog (w4.drewN N) = .ok (.string s1) (w4.drewN N) := fun N => by
    rw [hs1]; exact convert_bytes _ _ _ (isBytes_take G4 (L4 - 1) L4 (by rw [← hL4]; omega))
  have vB : ∀ N, (convert 34 9 (.slice (some ⟨g1, 0, none⟩) (L4 - 1) L1)).run Tryd.prog (w4.drewN N) = .ok (.string s1) (w4.drewN N) := fun N => by
    rw [hs1, hL4, ← HBB.out.2]; exact convert_bytes _ _ _ (isBytes_take HG13.out _ L1 (by rw [← hL4]; have := HL1.out; omega))
  have HS1 := hide hs1
  have HG4 := hide G4
  have HL4 := hide hL4
  have HRr : Hid (URow64 w4 (some ⟨rb0, ro, none⟩) n f) := HR3.out.below B4
  clear hs1 hL4 G4 B4 HBB HR3
  have gl1 : decide ((L1 : Int) < (L4 : Int)) = false := by simp; omega
  have gl2 : decide (L1 < L4) = false := by simp; omega
  have key : Hid True := trivial
  go_upto_region 8 with fail
  go_cut [81] from 52 (fun t81 wc => t81 = .bool false ∧ Hid (∃ m, wc = w4.drewN m))
  case first =>
    by_cases hL1 : 1 < L4
    · obtain ⟨q, rfl⟩ : ∃ q, L4 = q + 1 := ⟨L4 - 1, by omega⟩
      rw [Nat.add_sub_cancel] at vA vB
      have hq1 : ((q + 1 : Nat) : Int) - 1 = (q : Int) := by omega
      have hd1 : decide ((L1 : Int) < (q : Int) + 1) = false := by rw [decide_eq_false_iff_not]; omega
      have hd2 : decide ((1 : Int) < (q : Int) + 1) = true := by rw [decide_eq_true_iff]; omega
      clear gl1 gl2
      have wq : IntKind.i64.wrap (q : Int) = (q : Int) := by rw [IntKind.wrap_i64]; omega
      go_wp2_with fail
      go_quiet ((go_at_call 13; exact Calls.quiet_of_same (num_any _ _)))
      go_wp2_with fail
      go_meet
      case rel => exact ⟨rfl, _, rfl⟩
    · have b1 : decide ((1 : Int) < (L4 : Int)) = false := by simp; omega
      have b2 : decide (1 < L4) = false := by simp; omega
      go_wp2_with fail
      go_quiet ((go_at_call 13; exact Calls.quiet_of_same (num_any _ _)))
      go_wp2_with fail
      go_meet
      case rel => exact ⟨rfl, _, rfl⟩
  case rest =>
    obtain ⟨rfl, hwc⟩ := hcut
    have HBc : Hid (Below w.heap.size w wc) := by obtain ⟨m, rfl⟩ := hwc.out; exact below_drewN HB04.out m
    have hx0 : wc.cell? ⟨rb0, ro + k1, none⟩ = some (.int .u64 (x : Int)) := by obtain ⟨m, rfl⟩ := hwc.out; exact hx0
    have HRc : Hid (URow64 wc (some ⟨rb0, ro, none⟩) n f) := by obtain ⟨m, rfl⟩ := hwc.out; exact HRr.out.drewN m
    clear hwc HB04 HG13 HRr HB4 vA vB gl1 gl2 key
    by_cases h4 : 4000 < n
    · go_wp2_with fail
      go_ret
      exact ⟨rfl, HBc.out⟩
    have nn4 : n ≤ 4000 := by omega
    have wk1 : IntKind.i64.wrap (k1 : Int) = (k1 : Int) := by rw [IntKind.wrap_i64]; omega
    obtain ⟨B, hB⟩ : ∃ B, wc.heap.size = B := ⟨_, rfl⟩
    have hrb : rb0 < B := by rw [← hB]; exact block_lt_of_cell hx0
    have HBe := hide hB
    clear hB
    have HNW : Hid (∀ W, Below B wc W → ∀ j u, (valsV64 n f)[j]? = some u → W.cell? ((⟨rb0, ro, none⟩ : Addr).add j) = some u) := fun W hW j u hj => by
      obtain ⟨rb1, ro1, he, hc⟩ := HRc.out hn0'
      simp only [Option.some.injEq, Addr.mk.injEq, and_true] at he
      obtain ⟨rfl, rfl⟩ := he
      have hjn : j < n := by
        rcases Nat.lt_or_ge j n with h | h
        · exact h
        · rw [List.getElem?_eq_none (by simp [valsV64]; exact h)] at hj; simp at hj
      rw [Addr.add_mid, hW.cell (p := ⟨rb0, ro + j, none⟩) hrb, hc j hjn, ← hj]
      simp [valsV64, hjn]
    obtain ⟨i5, h51, h52, h53, h54⟩ := info64
    have HI5 := hide (And.intro h51 (And.intro h52 (And.intro h53 h54)))
    clear h51 h52 h53 h54
    go_upto_region 12 with fail
    refine wp_region_held_drew (S := fun w' => w'.cell? ⟨rb0, ro + k1, none⟩ = some (.int .u64 (x : Int))) (by kernel_rfl) hx0 (fun hHeld => ?_)
    refine wpAnyH_take (i := 1) (v := ?_) rfl (by kernel_rfl) (by kernel_rfl) (by kernel_rfl) (fun _ _ _ h => h) (Or.inl ⟨by rfl, ?_⟩) hHeld ?_
    rotate_left
    · (intro wq hSw; (try dsimp only at hSw); (go_simp <;> with_reducible rfl))
    try simp only [Act.put, List.getElem_toArray, List.getElem_cons_zero, List.getElem_cons_succ, List.setIfInBounds_toArray, List.set_cons_zero, List.set_cons_succ]
    refine wpAnyH_take (i := 3) (v := ?_) rfl (by kernel_rfl) (by kernel_rfl) (by kernel_rfl) (fun _ _ _ h => h) (Or.inl ⟨by rfl, ?_⟩) hHeld ?_
    rotate_left
    · (intro wq hSw; (try dsimp only at hSw); (go_simp <;> with_reducible rfl))
    try simp only [Act.put, List.getElem_toArray, List.getElem_cons_zero, List.getElem_cons_succ, List.setIfInBounds_toArray, List.set_cons_zero, List.set_cons_succ]
    refine wpAnyH_take (i := 4) (v := ?_) rfl (by kernel_rfl) (by kernel_rfl) (by kernel_rfl) (fun _ _ _ h => h) (Or.inl ⟨by rfl, ?_⟩) hHeld ?_
    rotate_left
    · (intro wq hSw; (try dsimp only at hSw); (go_simp <;> with_reducible rfl))
    try simp only [Act.put, List.getElem_toArray, List.getElem_cons_zero, List.getElem_cons_succ, List.setIfInBounds_toArray, List.set_cons_zero, List.set_cons_succ]
    refine wpAnyH_take (i := 5) (v := ?_) rfl (by kernel_rfl) (by kernel_rfl) (by kernel_rfl) (fun _ _ _ h => h) (Or.inl ⟨by rfl, ?_⟩) hHeld ?_
    rotate_left
    · (intro wq hSw; (try dsimp only at hSw); (go_simp <;> with_reducible rfl))
    try simp only [Act.put, List.getElem_toArray, List.getElem_cons_zero, List.getElem_cons_succ, List.setIfInBounds_toArray, List.set_cons_zero, List.set_cons_succ]
    refine wpAnyH_take (i := 6) (v := ?_) rfl (by kernel_rfl) (by kernel_rfl) (by kernel_rfl) (fun _ _ _ h => h) (Or.inl ⟨by rfl, ?_⟩) hHeld ?_
    rotate_left
    · (intro wq hSw; (try dsimp only at hSw); (go_simp <;> with_reducible rfl))
    try simp only [Act.put, List.getElem_toArray, List.getElem_cons_zero, List.getElem_cons_succ, List.setIfInBounds_toArray, List.set_cons_zero, List.set_cons_succ]
    refine wpAnyH_take (i := 7) (v := ?_) rfl (by kernel_rfl) (by kernel_rfl) (by kernel_rfl) (fun _ _ _ h => h) (Or.inl ⟨by rfl, ?_⟩) hHeld ?_
    rotate_left
    · (intro wq hSw; (try dsimp only at hSw); (go_simp <;> with_reducible rfl))
    try simp only [Act.put, List.getElem_toArray, List.getElem_cons_zero, List.getElem_cons_succ, List.setIfInBounds_toArray, List.set_cons_zero, List.set_cons_succ]
    refine wpAnyH_take (i := 8) (v := ?_) rfl (by kernel_rfl) (by kernel_rfl) (by kernel_rfl) (fun _ _ _ h => h) (Or.inl ⟨by rfl, ?_⟩) hHeld ?_
    rotate_left
    · (intro wq hSw; (try dsimp only at hSw); (go_simp <;> with_reducible rfl))
    try simp only [Act.put, List.getElem_toArray, List.getElem_cons_zero, List.getElem_cons_succ, List.setIfInBounds_toArray, List.set_cons_zero, List.set_cons_succ]
    refine wpAnyH_take (i := 9) (v := ?_) rfl (by kernel_rfl) (by kernel_rfl) (by kernel_rfl) (fun _ _ _ h => h) (Or.inl ⟨by rfl, ?_⟩) hHeld ?_
    rotate_left
    · (intro wq hSw; (try dsimp only at hSw); (go_simp <;> with_reducible rfl))
    try simp only [Act.put, List.getElem_toArray, List.getElem_cons_zero, List.getElem_cons_succ, List.setIfInBounds_toArray, List.set_cons_zero, List.set_cons_succ]
    refine wpAnyH_take (i := 10) (v := ?_) rfl (by kernel_rfl) (by kernel_rfl) (by kernel_rfl) (fun _ _ _ h => h) (Or.inl ⟨by rfl, ?_⟩) hHeld ?_
    rotate_left
    · (intro wq hSw; (try dsimp only at hSw); (go_simp <;> with_reducible rfl))
    try simp only [Act.put, List.getElem_toArray, List.getElem_cons_zero, List.getElem_cons_succ, List.setIfInBounds_toArray, List.set_cons_zero, List.set_cons_succ]
    refine wpAnyH_take (i := 11) (v := ?_) rfl (by kernel_rfl) (by kernel_rfl) (by kernel_rfl) (fun _ _ _ h => h) (Or.inl ⟨by rfl, ?_⟩) hHeld ?_
    rotate_left
    · (intro wq hSw; (try dsimp only at hSw); (go_simp <;> with_reducible rfl))
    try simp only [Act.put, List.getElem_toArray, List.getElem_cons_zero, List.getElem_cons_succ, List.setIfInBounds_toArray, List.set_cons_zero, List.set_cons_succ]
    refine wpAnyH_take (i := 12) (v := ?_) rfl (by kernel_rfl) (by kernel_rfl) (by kernel_rfl) (fun _ _ _ h => h) (Or.inl ⟨by rfl, ?_⟩) hHeld ?_
    rotate_left
    · (intro wq hSw; (try dsimp only at hSw); (go_simp <;> with_reducible rfl))
    try simp only [Act.put, List.getElem_toArray, List.getElem_cons_zero, List.getElem_cons_succ, List.setIfInBounds_toArray, List.set_cons_zero, List.set_cons_succ]
    refine wpAnyH_take (i := 13) (v := ?_) rfl (by kernel_rfl) (by kernel_rfl) (by kernel_rfl) (fun _ _ _ h => h) (Or.inl ⟨by rfl, ?_⟩) hHeld ?_
    rotate_left
    · (intro wq hSw; (try dsimp only at hSw); (go_simp <;> with_reducible rfl))
    try simp only [Act.put, List.getElem_toArray, List.getElem_cons_zero, List.getElem_cons_succ, List.setIfInBounds_toArray, List.set_cons_zero, List.set_cons_succ]
    refine wpAnyH_take (i := 14) (v := ?_) rfl (by kernel_rfl) (by kernel_rfl) (by kernel_rfl) (fun _ _ _ h => h) (Or.inl ⟨by rfl, ?_⟩) hHeld ?_
    rotate_left
    · (intro wq hSw; (try dsimp only at hSw); (go_simp <;> with_reducible rfl))
    try simp only [Act.put, List.getElem_toArray, List.getElem_cons_zero, List.getElem_cons_succ, List.setIfInBounds_toArray, List.set_cons_zero, List.set_cons_succ]
    refine wpAnyH_take (i := 15) (v := ?_) rfl (by kernel_rfl) (by kernel_rfl) (by kernel_rfl) (fun _ _ _ h => h) (Or.inl ⟨by rfl, ?_⟩) hHeld ?_
    rotate_left
    · (intro wq hSw; (try dsimp only at hSw); (go_simp <;> with_reducible rfl))
    try simp only [Act.put, List.getElem_toArray, List.getElem_cons_zero, List.getElem_cons_succ, List.setIfInBounds_toArray, List.set_cons_zero, List.set_cons_succ]
    refine wpAnyH_take (i := 16) (v := ?_) rfl (by kernel_rfl) (by kernel_rfl) (by kernel_rfl) (fun _ _ _ h => h) (Or.inl ⟨by rfl, ?_⟩) hHeld ?_
    rotate_left
    · (intro wq hSw; (try dsimp only at hSw); (go_simp <;> with_reducible rfl))
    try simp only [Act.put, List.getElem_toArray, List.getElem_cons_zero, List.getElem_cons_succ, List.setIfInBounds_toArray, List.set_cons_zero, List.set_cons_succ]
    refine wpAnyH_take (i := 17) (v := ?_) rfl (by kernel_rfl) (by kernel_rfl) (by kernel_rfl) (fun _ _ _ h => h) (Or.inl ⟨by rfl, ?_⟩) hHeld ?_
    rotate_left
    · (intro wq hSw; (try dsimp only at hSw); (go_simp <;> with_reducible rfl))
    try simp only [Act.put, List.getElem_toArray, List.getElem_cons_zero, List.getElem_cons_succ, List.setIfInBounds_toArray, List.set_cons_zero, List.set_cons_succ]
    refine wpAnyH_take (i := 18) (v := ?_) rfl (by kernel_rfl) (by kernel_rfl) (by kernel_rfl) (fun _ _ _ h => h) (Or.inl ⟨by rfl, ?_⟩) hHeld ?_
    rotate_left
    · (intro wq hSw; (try dsimp only at hSw); (go_simp <;> with_reducible rfl))
    try simp only [Act.put, List.getElem_toArray, List.getElem_cons_zero, List.getElem_cons_succ, List.setIfInBounds_toArray, List.set_cons_zero, List.set_cons_succ]
    refine wpAnyH_take (i := 19) (v := ?_) rfl (by kernel_rfl) (by kernel_rfl) (by kernel_rfl) (fun _ _ _ h => h) (Or.inl ⟨by rfl, ?_⟩) hHeld ?_
    rotate_left
    · (intro wq hSw; (try dsimp only at hSw); (go_simp <;> with_reducible rfl))
    try simp only [Act.put, List.getElem_toArray, List.getElem_cons_zero, List.getElem_cons_succ, List.setIfInBounds_toArray, List.set_cons_zero, List.set_cons_succ]
    refine wpAnyH_take (i := 20) (v := ?_) rfl (by kernel_rfl) (by kernel_rfl) (by kernel_rfl) (fun _ _ _ h => h) (Or.inl ⟨by rfl, ?_⟩) hHeld ?_
    rotate_left
    · (intro wq hSw; (try dsimp only at hSw); (go_simp <;> with_reducible rfl))
    try simp only [Act.put, List.getElem_toArray, List.getElem_cons_zero, List.getElem_cons_succ, List.setIfInBounds_toArray, List.set_cons_zero, List.set_cons_succ]
    refine wpAnyH_take (i := 21) (v := ?_) rfl (by kernel_rfl) (by kernel_rfl) (by kernel_rfl) (fun _ _ _ h => h) (Or.inl ⟨by rfl, ?_⟩) hHeld ?_
    rotate_left
    · (intro wq hSw; (try dsimp only at hSw); (go_simp <;> with_reducible rfl))
    try simp only [Act.put, List.getElem_toArray, List.getElem_cons_zero, List.getElem_cons_succ, List.setIfInBounds_toArray, List.set_cons_zero, List.set_cons_succ]
    refine wpAnyH_take (i := 22) (v := ?_) rfl (by kernel_rfl) (by kernel_rfl) (by kernel_rfl) (fun _ _ _ h => h) (Or.inl ⟨by rfl, ?_⟩) hHeld ?_
    rotate_left
    · (intro wq hSw; (try dsimp only at hSw); (go_simp <;> with_reducible rfl))
    try simp only [Act.put, List.getElem_toArray, List.getElem_cons_zero, List.getElem_cons_succ, List.setIfInBounds_toArray, List.set_cons_zero, List.set_cons_succ]
    refine wpAnyH_take (i := 23) (v := ?_) rfl (by kernel_rfl) (by kernel_rfl) (by kernel_rfl) (fun _ _ _ h => h) (Or.inl ⟨by rfl, ?_⟩) hHeld ?_
    rotate_left
    · (intro wq hSw; (try dsimp only at hSw); (go_simp <;> with_reducible rfl))
    try simp only [Act.put, List.getElem_toArray, List.getElem_cons_zero, List.getElem_cons_succ, List.setIfInBounds_toArray, List.set_cons_zero, List.set_cons_succ]
    refine wpAnyH_take (i := 24) (v := ?_) rfl (by kernel_rfl) (by kernel_rfl) (by kernel_rfl) (fun _ _ _ h => h) (Or.inl ⟨by rfl, ?_⟩) hHeld ?_
    rotate_left
    · (intro wq hSw; (try dsimp only at hSw); (go_simp <;> with_reducible rfl))
    try simp only [Act.put, List.getElem_toArray, List.getElem_cons_zero, List.getElem_cons_succ, List.setIfInBounds_toArray, List.set_cons_zero, List.set_cons_succ]
    refine wpAnyH_take (i := 25) (v := ?_) rfl (by kernel_rfl) (by kernel_rfl) (by kernel_rfl) (fun _ _ _ h => h) (Or.inl ⟨by rfl, ?_⟩) hHeld ?_
    rotate_left
    · (intro wq hSw; (try dsimp only at hSw); (go_simp <;> with_reducible rfl))
    try simp only [Act.put, List.getElem_toArray, List.getElem_cons_zero, List.getElem_cons_succ, List.setIfInBounds_toArray, List.set_cons_zero, List.set_cons_succ]
    refine wpAnyH_take (i := 26) (v := ?_) rfl (by kernel_rfl) (by kernel_rfl) (by kernel_rfl) (fun _ _ _ h => h) (Or.inl ⟨by rfl, ?_⟩) hHeld ?_
    rotate_left
    · (intro wq hSw; (try dsimp only at hSw); (go_simp <;> with_reducible rfl))
    try simp only [Act.put, List.getElem_toArray, List.getElem_cons_zero, List.getElem_cons_succ, List.setIfInBounds_toArray, List.set_cons_zero, List.set_cons_succ]
    refine wpAnyH_take (i := 27) (v := ?_) rfl (by kernel_rfl) (by kernel_rfl) (by kernel_rfl) (fun _ _ _ h => h) (Or.inl ⟨by rfl, ?_⟩) hHeld ?_
    rotate_left
    · (intro wq hSw; (try dsimp only at hSw); (go_simp <;> with_reducible rfl))
    try simp only [Act.put, List.getElem_toArray, List.getElem_cons_zero, List.getElem_cons_succ, List.setIfInBounds_toArray, List.set_cons_zero, List.set_cons_succ]
    refine wpAnyH_take (i := 28) (v := ?_) rfl (by kernel_rfl) (by kernel_rfl) (by kernel_rfl) (fun _ _ _ h => h) (Or.inl ⟨by rfl, ?_⟩) hHeld ?_
    rotate_left
    · (intro wq hSw; (try dsimp only at hSw); (go_simp <;> with_reducible rfl))
    try simp only [Act.put, List.getElem_toArray, List.getElem_cons_zero, List.getElem_cons_succ, List.setIfInBounds_toArray, List.set_cons_zero, List.set_cons_succ]
    refine wpAnyH_take (i := 29) (v := ?_) rfl (by kernel_rfl) (by kernel_rfl) (by kernel_rfl) (fun _ _ _ h => h) (Or.inl ⟨by rfl, ?_⟩) hHeld ?_
    rotate_left
    · (intro wq hSw; (try dsimp only at hSw); (go_simp <;> with_reducible rfl))
    try simp only [Act.put, List.getElem_toArray, List.getElem_cons_zero, List.getElem_cons_succ, List.setIfInBounds_toArray, List.set_cons_zero, List.set_cons_succ]
    refine wpAnyH_take (i := 30) (v := ?_) rfl (by kernel_rfl) (by kernel_rfl) (by kernel_rfl) (fun _ _ _ h => h) (Or.inl ⟨by rfl, ?_⟩) hHeld ?_
    rotate_left
    · (intro wq hSw; (try dsimp only at hSw); (go_simp <;> with_reducible rfl))
    try simp only [Act.put, List.getElem_toArray, List.getElem_cons_zero, List.getElem_cons_succ, List.setIfInBounds_toArray, List.set_cons_zero, List.set_cons_succ]
    refine wpAnyH_take (i := 31) (v := ?_) rfl (by kernel_rfl) (by kernel_rfl) (by kernel_rfl) (fun _ _ _ h => h) (Or.inl ⟨by rfl, ?_⟩) hHeld ?_
    rotate_left
    · (intro wq hSw; (try dsimp only at hSw); (go_simp <;> with_reducible rfl))
    try simp only [Act.put, List.getElem_toArray, List.getElem_cons_zero, List.getElem_cons_succ, List.setIfInBounds_toArray, List.set_cons_zero, List.set_cons_succ]
    refine wpAnyH_take (i := 32) (v := ?_) rfl (by kernel_rfl) (by kernel_rfl) (by kernel_rfl) (fun _ _ _ h => h) (Or.inl ⟨by rfl, ?_⟩) hHeld ?_
    rotate_left
    · (intro wq hSw; (try dsimp only at hSw); (go_simp <;> with_reducible rfl))
    try simp only [Act.put, List.getElem_toArray, List.getElem_cons_zero, List.getElem_cons_succ, List.setIfInBounds_toArray, List.set_cons_zero, List.set_cons_succ]
    refine wpAnyH_take (i := 33) (v := ?_) rfl (by kernel_rfl) (by kernel_rfl) (by kernel_rfl) (fun _ _ _ h => h) (Or.inl ⟨by rfl, ?_⟩) hHeld ?_
    rotate_left
    · (intro wq hSw; (try dsimp only at hSw); (go_simp <;> with_reducible rfl))
    try simp only [Act.put, List.getElem_toArray, List.getElem_cons_zero, List.getElem_cons_succ, List.setIfInBounds_toArray, List.set_cons_zero, List.set_cons_succ]
    refine wpAnyH_take (i := 34) (v := ?_) rfl (by kernel_rfl) (by kernel_rfl) (by kernel_rfl) (fun _ _ _ h => h) (Or.inl ⟨by rfl, ?_⟩) hHeld ?_
    rotate_left
    · (intro wq hSw; (try dsimp only at hSw); (go_simp <;> with_reducible rfl))
    try simp only [Act.put, List.getElem_toArray, List.getElem_cons_zero, List.getElem_cons_succ, List.setIfInBounds_toArray, List.set_cons_zero, List.set_cons_succ]
    refine wpAnyH_take (i := 35) (v := ?_) rfl (by kernel_rfl) (by kernel_rfl) (by kernel_rfl) (fun _ _ _ h => h) (Or.inl ⟨by rfl, ?_⟩) hHeld ?_
    rotate_left
    · (intro wq hSw; (try dsimp only at hSw); (go_simp <;> with_reducible rfl))
    try simp only [Act.put, List.getElem_toArray, List.getElem_cons_zero, List.getElem_cons_succ, List.setIfInBounds_toArray, List.set_cons_zero, List.set_cons_succ]
    refine wpAnyH_take (i := 36) (v := ?_) rfl (by kernel_rfl) (by kernel_rfl) (by kernel_rfl) (fun _ _ _ h => h) (Or.inl ⟨by rfl, ?_⟩) hHeld ?_
    rotate_left
    · (intro wq hSw; (try dsimp only at hSw); (go_simp <;> with_reducible rfl))
    try simp only [Act.put, List.getElem_toArray, List.getElem_cons_zero, List.getElem_cons_succ, List.setIfInBounds_toArray, List.set_cons_zero, List.set_cons_succ]
    refine wpAnyH_take (i := 37) (v := ?_) rfl (by kernel_rfl) (by kernel_rfl) (by kernel_rfl) (fun _ _ _ h => h) (Or.inl ⟨by rfl, ?_⟩) hHeld ?_
    rotate_left
    · (intro wq hSw; (try dsimp only at hSw); (go_simp <;> with_reducible rfl))
    try simp only [Act.put, List.getElem_toArray, List.getElem_cons_zero, List.getElem_cons_succ, List.setIfInBounds_toArray, List.set_cons_zero, List.set_cons_succ]
    refine wpAnyH_take (i := 38) (v := ?_) rfl (by kernel_rfl) (by kernel_rfl) (by kernel_rfl) (fun _ _ _ h => h) (Or.inl ⟨by rfl, ?_⟩) hHeld ?_
    rotate_left
    · (intro wq hSw; (try dsimp only at hSw); (go_simp <;> with_reducible rfl))
    try simp only [Act.put, List.getElem_toArray, List.getElem_cons_zero, List.getElem_cons_succ, List.setIfInBounds_toArray, List.set_cons_zero, List.set_cons_succ]
    refine wpAnyH_take (i := 39) (v := ?_) rfl (by kernel_rfl) (by kernel_rfl) (by kernel_rfl) (fun _ _ _ h => h) (Or.inl ⟨by rfl, ?_⟩) hHeld ?_
    rotate_left
    · (intro wq hSw; (try dsimp only at hSw); (go_simp <;> with_reducible rfl))
    try simp only [Act.put, List.getElem_toArray, List.getElem_cons_zero, List.getElem_cons_succ, List.setIfInBounds_toArray, List.set_cons_zero, List.set_cons_succ]
    refine wpAnyH_take (i := 40) (v := ?_) rfl (by kernel_rfl) (by kernel_rfl) (by kernel_rfl) (fun _ _ _ h => h) (Or.inl ⟨by rfl, ?_⟩) hHeld ?_
    rotate_left
    · (intro wq hSw; (try dsimp only at hSw); (go_simp <;> with_reducible rfl))
    try simp only [Act.put, List.getElem_toArray, List.getElem_cons_zero, List.getElem_cons_succ, List.setIfInBounds_toArray, List.set_cons_zero, List.set_cons_succ]
    refine wpAnyH_take (i := 41) (v := ?_) rfl (by kernel_rfl) (by kernel_rfl) (by kernel_rfl) (fun _ _ _ h => h) (Or.inl ⟨by rfl, ?_⟩) hHeld ?_
    rotate_left
    · (intro wq hSw; (try dsimp only at hSw); (go_simp <;> with_reducible rfl))
    try simp only [Act.put, List.getElem_toArray, List.getElem_cons_zero, List.getElem_cons_succ, List.setIfInBounds_toArray, List.set_cons_zero, List.set_cons_succ]
    refine wpAnyH_take (i := 42) (v := ?_) rfl (by kernel_rfl) (by kernel_rfl) (by kernel_rfl) (fun _ _ _ h => h) (Or.inl ⟨by rfl, ?_⟩) hHeld ?_
    rotate_left
    · (intro wq hSw; (try dsimp only at hSw); (go_simp <;> with_reducible rfl))
    try simp only [Act.put, List.getElem_toArray, List.getElem_cons_zero, List.getElem_cons_succ, List.setIfInBounds_toArray, List.set_cons_zero, List.set_cons_succ]
    refine wpAnyH_take (i := 43) (v := ?_) rfl (by kernel_rfl) (by kernel_rfl) (by kernel_rfl) (fun _ _ _ h => h) (Or.inl ⟨by rfl, ?_⟩) hHeld ?_
    rotate_left
    · (intro wq hSw; (try dsimp only at hSw); (go_simp <;> with_reducible rfl))
    try simp only [Act.put, List.getElem_toArray, List.getElem_cons_zero, List.getElem_cons_succ, List.setIfInBounds_toArray, List.set_cons_zero, List.set_cons_succ]
    refine wpAnyH_take (i := 44) (v := ?_) rfl (by kernel_rfl) (by kernel_rfl) (by kernel_rfl) (fun _ _ _ h => h) (Or.inl ⟨by rfl, ?_⟩) hHeld ?_
    rotate_left
    · (intro wq hSw; (try dsimp only at hSw); (go_simp <;> with_reducible rfl))
    try simp only [Act.put, List.getElem_toArray, List.getElem_cons_zero, List.getElem_cons_succ, List.setIfInBounds_toArray, List.set_cons_zero, List.set_cons_succ]
    refine wpAnyH_take (i := 45) (v := ?_) rfl (by kernel_rfl) (by kernel_rfl) (by kernel_rfl) (fun _ _ _ h => h) (Or.inl ⟨by rfl, ?_⟩) hHeld ?_
    rotate_left
    · (intro wq hSw; (try dsimp only at hSw); (go_simp <;> with_reducible rfl))
    try simp only [Act.put, List.getElem_toArray, List.getElem_cons_zero, List.getElem_cons_succ, List.setIfInBounds_toArray, List.set_cons_zero, List.set_cons_succ]
    refine wpAnyH_take (i := 46) (v := ?_) rfl (by kernel_rfl) (by kernel_rfl) (by kernel_rfl) (fun _ _ _ h => h) (Or.inl ⟨by rfl, ?_⟩) hHeld ?_
    rotate_left
    · (intro wq hSw; (try dsimp only at hSw); (go_simp <;> with_reducible rfl))
    try simp only [Act.put, List.getElem_toArray, List.getElem_cons_zero, List.getElem_cons_succ, List.setIfInBounds_toArray, List.set_cons_zero, List.set_cons_succ]
    refine wpAnyH_take (i := 47) (v := ?_) rfl (by kernel_rfl) (by kernel_rfl) (by kernel_rfl) (fun _ _ _ h => h) (Or.inl ⟨by rfl, ?_⟩) hHeld ?_
    rotate_left
    · (intro wq hSw; (try dsimp only at hSw); (go_simp <;> with_reducible rfl))
    try simp only [Act.put, List.getElem_toArray, List.getElem_cons_zero, List.getElem_cons_succ, List.setIfInBounds_toArray, List.set_cons_zero, List.set_cons_succ]
    refine wpAnyH_take (i := 48) (v := ?_) rfl (by kernel_rfl) (by kernel_rfl) (by kernel_rfl) (fun _ _ _ h => h) (Or.inl ⟨by rfl, ?_⟩) hHeld ?_
    rotate_left
    · (intro wq hSw; (try dsimp only at hSw); (go_simp <;> with_reducible rfl))
    try simp only [Act.put, List.getElem_toArray, List.getElem_cons_zero, List.getElem_cons_succ, List.setIfInBounds_toArray, List.set_cons_zero, List.set_cons_succ]
    refine wpAnyH_take (i := 49) (v := ?_) rfl (by kernel_rfl) (by kernel_rfl) (by kernel_rfl) (fun _ _ _ h => h) (Or.inl ⟨by rfl, ?_⟩) hHeld ?_
    rotate_left
    · (intro wq hSw; (try dsimp only at hSw); (go_simp <;> with_reducible rfl))
    try simp only [Act.put, List.getElem_toArray, List.getElem_cons_zero, List.getElem_cons_succ, List.setIfInBounds_toArray, List.set_cons_zero, List.set_cons_succ]
    refine wpAnyH_take (i := 50) (v := ?_) rfl (by kernel_rfl) (by kernel_rfl) (by kernel_rfl) (fun _ _ _ h => h) (Or.inl ⟨by rfl, ?_⟩) hHeld ?_
    rotate_left
    · (intro wq hSw; (try dsimp only at hSw); (go_simp <;> with_reducible rfl))
    try simp only [Act.put, List.getElem_toArray, List.getElem_cons_zero, List.getElem_cons_succ, List.setIfInBounds_toArray, List.set_cons_zero, List.set_cons_succ]
    refine wpAnyH_ready (rs := [0, 51]) (by kernel_rfl) (by simp) ?_
    refine AllReadyH.cons rfl (fun K hK => ?_) (AllReadyH.cons rfl (fun K hK => ?_) AllReadyH.nil)
    · go_simp
      have n_wa : ((wc.alloc (.cells #[] 39)).drew).heap[wc.heap.size]? = some (.cells #[] 39 (0, 0)) := heap_alloc_new wc _
      have b_wa : Below B wc ((wc.alloc (.cells #[] 39)).drew) := (HBe.out ▸ ((Below.refl _ wc).alloc (Nat.le_refl _) _).drew)
      have s_wa : wc.heap.size < ((wc.alloc (.cells #[] 39)).drew).heap.size := size_lt_of_row n_wa
      have x_wa : ((wc.alloc (.cells #[] 39)).drew).cell? ⟨rb0, ro + k1, none⟩ = some (.int .u64 (x : Int)) := by rw [b_wa.cell (p := ⟨rb0, ro + k1, none⟩) hrb]; exact hx0
      obtain ⟨G0, hG0⟩ : ∃ q, wc.heap.size = q := ⟨_, rfl⟩
      rw [hG0] at n_wa s_wa ⊢
      have hGB : B ≤ G0 := by have := HBe.out; omega
      clear hG0
      generalize (wc.alloc (.cells #[] 39)).drew = wa at *
      refine hK.out _ _ x_wa (fun hHeld => ?_)
      clear hK K
      try simp only [Act.put, List.getElem_toArray, List.getElem_cons_zero, List.getElem_cons_succ, List.setIfInBounds_toArray, List.set_cons_zero, List.set_cons_succ]
      refine wpAnyH_ready (rs := [2, 51]) (by kernel_rfl) (by simp) ?_
      refine AllReadyH.cons rfl (fun K hK => ?_) (AllReadyH.cons rfl (fun K hK => ?_) AllReadyH.nil)
      · refine step_append_lies _ rfl _ _ _ rfl B 39 i5 (.int .u64 0) 1 8 Tryd.underlying28 HI5.out.1 HI5.out.2.1 HI5.out.2.2.1 HI5.out.2.2.2 rfl (by decide) (.slice (some ⟨G0, 0, none⟩) 0 0) 0 [] (by simp [Act.eval]) (own_empty hGB n_wa) ⟨rb0, ro, none⟩ n cW (valsV64 n f) (by simp [Act.eval]) (by simp [valsV64]) (HNW.out wa b_wa) (vals_one64 n f) hn0' (by unfold maxLen; omega) (by omega) (Nat.le_trans (Nat.le_of_eq HBe.out.symm) b_wa.size) _ rfl ?_
        intro gA capA w7 oA grA atA ltA
        rw [Nat.zero_add, List.nil_append] at oA
        have b_w7 : Below B wc w7 := b_wa.trans (grown_below64 grA (fun q hq => by simp only [Value.ownBlock, Option.some.injEq] at hq; omega) (Nat.le_trans (Nat.le_of_eq HBe.out.symm) b_wa.size))
        have x_w7 : w7.cell? ⟨rb0, ro + k1, none⟩ = some (.int .u64 (x : Int)) := by rw [b_w7.cell (p := ⟨rb0, ro + k1, none⟩) hrb]; exact hx0
        refine hK.out _ _ x_w7 (fun hHeld => ?_)
        clear hK K
        try simp only [Act.put, List.getElem_toArray, List.getElem_cons_zero, List.getElem_cons_succ, List.setIfInBounds_toArray, List.set_cons_zero, List.set_cons_succ]
        try simp only [Nat.zero_add]
        refine wpAnyH_ready (rs := [51]) (by kernel_rfl) (by simp) ?_
        refine AllReadyH.cons rfl (fun K hK => ?_) AllReadyH.nil
        go_simp
        have n_w8 : (w7.alloc (.cells #[.int .u64 (x : Int), .int .u64 (x : Int), .int .u64 (x : Int), .int .u64 (x : Int), .int .u64 (x : Int), .int .u64 (x : Int), .int .u64 (x : Int), .int .u64 (x : Int)] 39)).heap[w7.heap.size]? = some (.cells #[.int .u64 (x : Int), .int .u64 (x : Int), .int .u64 (x : Int), .int .u64 (x : Int), .int .u64 (x : Int), .int .u64 (x : Int), .int .u64 (x : Int), .int .u64 (x : Int)] 39 (0, 0)) := heap_alloc_new w7 _
        have b_w8 : Below B wc (w7.alloc (.cells #[.int .u64 (x : Int), .int .u64 (x : Int), .int .u64 (x : Int), .int .u64 (x : Int), .int .u64 (x : Int), .int .u64 (x : Int), .int .u64 (x : Int), .int .u64 (x : Int)] 39)) := b_w7.alloc (Nat.le_trans (Nat.le_of_eq HBe.out.symm) b_w7.size) _
        have s_w8 : w7.heap.size < (w7.alloc (.cells #[.int .u64 (x : Int), .int .u64 (x : Int), .int .u64 (x : Int), .int .u64 (x : Int), .int .u64 (x : Int), .int .u64 (x : Int), .int .u64 (x : Int), .int .u64 (x : Int)] 39)).heap.size := size_lt_of_row n_w8
        have x_w8 : (w7.alloc (.cells #[.int .u64 (x : Int), .int .u64 (x : Int), .int .u64 (x : Int), .int .u64 (x : Int), .int .u64 (x : Int), .int .u64 (x : Int), .int .u64 (x : Int), .int .u64 (x : Int)] 39)).cell? ⟨rb0, ro + k1, none⟩ = some (.int .u64 (x : Int)) := by rw [b_w8.cell (p := ⟨rb0, ro + k1, none⟩) hrb]; exact hx0
        obtain ⟨g8, hg8⟩ : ∃ q, w7.heap.size = q := ⟨_, rfl⟩
        rw [hg8] at n_w8 s_w8 ⊢
        have oW : (w7.alloc (.cells #[.int .u64 (x : Int), .int .u64 (x : Int), .int .u64 (x : Int), .int .u64 (x : Int), .int .u64 (x : Int), .int .u64 (x : Int), .int .u64 (x : Int), .int .u64 (x : Int)] 39)).ownsRow B 39 1 (.slice (some ⟨gA, 0, none⟩) n capA) n (valsV64 n f) := oA.alloc _
        clear oA grA atA ltA hg8
        generalize w7.alloc (.cells #[.int .u64 (x : Int), .int .u64 (x : Int), .int .u64 (x : Int), .int .u64 (x : Int), .int .u64 (x : Int), .int .u64 (x : Int), .int .u64 (x : Int), .int .u64 (x : Int)] 39) = w8 at *
        have nW := n_w8
        refine hK.out _ _ x_w8 (fun hHeld => ?_)
        clear hK K
        try simp only [Act.put, List.getElem_toArray, List.getElem_cons_zero, List.getElem_cons_succ, List.setIfInBounds_toArray, List.set_cons_zero, List.set_cons_succ]
        refine wpAnyH_ready (rs := [52]) (by kernel_rfl) (by simp) ?_
        refine AllReadyH.cons rfl (fun K hK => ?_) AllReadyH.nil
        refine step_append_lies _ rfl _ _ _ rfl B 39 i5 (.int .u64 0) 1 8 Tryd.underlying28 HI5.out.1 HI5.out.2.1 HI5.out.2.2.1 HI5.out.2.2.2 rfl (by decide) (.slice (some ⟨gA, 0, none⟩) n capA) n (valsV64 n f) (by simp [Act.eval]) oW ⟨g8, 0, none⟩ 8 8 [.int .u64 (x : Int), .int .u64 (x : Int), .int .u64 (x : Int), .int .u64 (x : Int), .int .u64 (x : Int), .int .u64 (x : Int), .int .u64 (x : Int), .int .u64 (x : Int)] (by simp [Act.eval]) rfl (by intro j u hj; rw [Addr.add_mid, Nat.zero_add]; exact (cell_of_row _ _ _ _ _ _ nW).trans (by simpa using hj)) (by intro u hu; simp at hu; subst hu; rfl) (by decide) (by unfold maxLen; omega) (by omega) (Nat.le_trans (Nat.le_of_eq HBe.out.symm) b_w8.size) _ rfl ?_
        intro gC capC w9 oC grC atC ltC
        have b_w9 : Below B wc w9 := b_w8.trans (grown_below64 grC (fun q hq => (oW.lt q hq).1) (Nat.le_trans (Nat.le_of_eq HBe.out.symm) b_w8.size))
        have x_w9 : w9.cell? ⟨rb0, ro + k1, none⟩ = some (.int .u64 (x : Int)) := by rw [b_w9.cell (p := ⟨rb0, ro + k1, none⟩) hrb]; exact hx0
        have HRC := hide (row8_64 HX.out HK1.out oC)
        clear oC grC atC ltC oW
        refine hK.out _ _ x_w9 (fun hHeld => ?_)
        clear hK K
        try simp only [Act.put, List.getElem_toArray, List.getElem_cons_zero, List.getElem_cons_succ, List.setIfInBounds_toArray, List.set_cons_zero, List.set_cons_succ]
        refine wpAnyH_ready (rs := [53]) (by kernel_rfl) (by simp) ?_
        refine AllReadyH.cons rfl (fun K hK => ?_) AllReadyH.nil
        go_simp
        refine (pack64_ok _ (n + 8) capC (more8 f n) w9 HRC.out.1 (by omega) HRC.out.2 (fun i hi => more8_lt HF.out hn0' i) (HT.out.below (HBc.out.trans (below_mono' b_w9 HBe.out HBc.out.size)))).mono ?_
        rintro e wz ⟨gz, Lz, hLz, hgz, rfl, Gz, Bz⟩
        have hLz' : Lz = L1 + 1 := by rw [hLz, HL1.out, HK1.out]; exact more8_len 64 6 f k1
        have x_wz : wz.cell? ⟨rb0, ro + k1, none⟩ = some (.int .u64 (x : Int)) := by rw [Bz.cell (p := ⟨rb0, ro + k1, none⟩) (block_lt_of_cell x_w9)]; exact x_w9
        have HBz : Hid (Below w.heap.size w wz) := (HBc.out.trans (below_mono' b_w9 HBe.out HBc.out.size)).trans (Bz.mono (Nat.le_trans HBc.out.size b_w9.size))
        clear hLz Gz Bz
        subst hLz'
        go_wp2_with fail
        refine hK.out _ _ x_wz (fun hHeld => ?_)
        clear hK K
        try simp only [Act.put, List.getElem_toArray, List.getElem_cons_zero, List.getElem_cons_succ, List.setIfInBounds_toArray, List.set_cons_zero, List.set_cons_succ]
        refine wpAnyH_take (i := 54) (v := ?_) rfl (by kernel_rfl) (by kernel_rfl) (by kernel_rfl) (fun _ _ _ h => h) (Or.inl ⟨by rfl, ?_⟩) hHeld ?_
        rotate_left
        · (intro wq hSw; (try dsimp only at hSw); (go_simp <;> with_reducible rfl))
        try simp only [Act.put, List.getElem_toArray, List.getElem_cons_zero, List.getElem_cons_succ, List.setIfInBounds_toArray, List.set_cons_zero, List.set_cons_succ]
        refine wpAnyH_take (i := 55) (v := ?_) rfl (by kernel_rfl) (by kernel_rfl) (by kernel_rfl) (fun _ _ _ h => h) (Or.inl ⟨by rfl, ?_⟩) hHeld ?_
        rotate_left
        · (intro wq hSw; (try dsimp only at hSw); (go_simp <;> with_reducible rfl))
        try simp only [Act.put, List.getElem_toArray, List.getElem_cons_zero, List.getElem_cons_succ, List.setIfInBounds_toArray, List.set_cons_zero, List.set_cons_succ]
        refine wpAnyH_take (i := 56) (v := ?_) rfl (by kernel_rfl) (by kernel_rfl) (by kernel_rfl) (fun _ _ _ h => h) (Or.inl ⟨by rfl, ?_⟩) hHeld ?_
        rotate_left
        · (intro wq hSw; (try dsimp only at hSw); (go_simp <;> with_reducible rfl))
        try simp only [Act.put, List.getElem_toArray, List.getElem_cons_zero, List.getElem_cons_succ, List.setIfInBounds_toArray, List.set_cons_zero, List.set_cons_succ]
        refine wpAnyH_take (i := 57) (v := ?_) rfl (by kernel_rfl) (by kernel_rfl) (by kernel_rfl) (fun _ _ _ h => h) (Or.inl ⟨by rfl, ?_⟩) hHeld ?_
        rotate_left
        · (intro wq hSw; (try dsimp only at hSw); (go_simp <;> with_reducible rfl))
        try simp only [Act.put, List.getElem_toArray, List.getElem_cons_zero, List.getElem_cons_succ, List.setIfInBounds_toArray, List.set_cons_zero, List.set_cons_succ]
        refine wpAnyH_take (i := 58) (v := ?_) rfl (by kernel_rfl) (by kernel_rfl) (by kernel_rfl) (fun _ _ _ h => h) (Or.inl ⟨by rfl, ?_⟩) hHeld ?_
        rotate_left
        · (intro wq hSw; (try dsimp only at hSw); (go_simp <;> with_reducible rfl))
        try simp only [Act.put, List.getElem_toArray, List.getElem_cons_zero, List.getElem_cons_succ, List.setIfInBounds_toArray, List.set_cons_zero, List.set_cons_succ]
        refine wpAnyH_done (by kernel_rfl) ?_ _
        go_wp2_with fail
        refine (num_any _ _).mono ?_
        rintro e wn ⟨rfl, hwn⟩
        have hwn := hwn.symm
        subst hwn
        go_wp2_with fail
        go_ret
        exact ⟨by simp; unfold wrap64; have h1 := HLL.out; have h2 := HL1.out; omega, HBz.out⟩
      · go_simp
        have n_wb : (wa.alloc (.cells #[.int .u64 (x : Int), .int .u64 (x : Int), .int .u64 (x : Int), .int .u64 (x : Int), .int .u64 (x : Int), .int .u64 (x : Int), .int .u64 (x : Int), .int .u64 (x : Int)] 39)).heap[wa.heap.size]? = some (.cells #[.int .u64 (x : Int), .int .u64 (x : Int), .int .u64 (x : Int), .int .u64 (x : Int), .int .u64 (x : Int), .int .u64 (x : Int), .int .u64 (x : Int), .int .u64 (x : Int)] 39 (0, 0)) := heap_alloc_new wa _
        have b_wb : Below B wc (wa.alloc (.cells #[.int .u64 (x : Int), .int .u64 (x : Int), .int .u64 (x : Int), .int .u64 (x : Int), .int .u64 (x : Int), .int .u64 (x : Int), .int .u64 (x : Int), .int .u64 (x : Int)] 39)) := b_wa.alloc (Nat.le_trans (Nat.le_of_eq HBe.out.symm) b_wa.size) _
        have s_wb : wa.heap.size < (wa.alloc (.cells #[.int .u64 (x : Int), .int .u64 (x : Int), .int .u64 (x : Int), .int .u64 (x : Int), .int .u64 (x : Int), .int .u64 (x : Int), .int .u64 (x : Int), .int .u64 (x : Int)] 39)).heap.size := size_lt_of_row n_wb
        have x_wb : (wa.alloc (.cells #[.int .u64 (x : Int), .int .u64 (x : Int), .int .u64 (x : Int), .int .u64 (x : Int), .int .u64 (x : Int), .int .u64 (x : Int), .int .u64 (x : Int), .int .u64 (x : Int)] 39)).cell? ⟨rb0, ro + k1, none⟩ = some (.int .u64 (x : Int)) := by rw [b_wb.cell (p := ⟨rb0, ro + k1, none⟩) hrb]; exact hx0
        obtain ⟨g8, hg8⟩ : ∃ q, wa.heap.size = q := ⟨_, rfl⟩
        rw [hg8] at n_wb s_wb ⊢
        have n0b : (wa.alloc (.cells #[.int .u64 (x : Int), .int .u64 (x : Int), .int .u64 (x : Int), .int .u64 (x : Int), .int .u64 (x : Int), .int .u64 (x : Int), .int .u64 (x : Int), .int .u64 (x : Int)] 39)).heap[G0]? = some (.cells #[] 39 (0, 0)) := new_kept n_wa _
        have hg80 : g8 ≠ G0 := by omega
        clear hg8
        generalize wa.alloc (.cells #[.int .u64 (x : Int), .int .u64 (x : Int), .int .u64 (x : Int), .int .u64 (x : Int), .int .u64 (x : Int), .int .u64 (x : Int), .int .u64 (x : Int), .int .u64 (x : Int)] 39) = wb at *
        refine hK.out _ _ x_wb (fun hHeld => ?_)
        clear hK K
        try simp only [Act.put, List.getElem_toArray, List.getElem_cons_zero, List.getElem_cons_succ, List.setIfInBounds_toArray, List.set_cons_zero, List.set_cons_succ]
        refine wpAnyH_ready (rs := [2]) (by kernel_rfl) (by simp) ?_
        refine AllReadyH.cons rfl (fun K hK => ?_) AllReadyH.nil
        refine step_append_lies _ rfl _ _ _ rfl B 39 i5 (.int .u64 0) 1 8 Tryd.underlying28 HI5.out.1 HI5.out.2.1 HI5.out.2.2.1 HI5.out.2.2.2 rfl (by decide) (.slice (some ⟨G0, 0, none⟩) 0 0) 0 [] (by simp [Act.eval]) (own_empty hGB n0b) ⟨rb0, ro, none⟩ n cW (valsV64 n f) (by simp [Act.eval]) (by simp [valsV64]) (HNW.out wb b_wb) (vals_one64 n f) hn0' (by unfold maxLen; omega) (by omega) (Nat.le_trans (Nat.le_of_eq HBe.out.symm) b_wb.size) _ rfl ?_
        intro gA capA w7 oA grA atA ltA
        rw [Nat.zero_add, List.nil_append] at oA
        have b_w7 : Below B wc w7 := b_wb.trans (grown_below64 grA (fun q hq => by simp only [Value.ownBlock, Option.some.injEq] at hq; omega) (Nat.le_trans (Nat.le_of_eq HBe.out.symm) b_wb.size))
        have x_w7 : w7.cell? ⟨rb0, ro + k1, none⟩ = some (.int .u64 (x : Int)) := by rw [b_w7.cell (p := ⟨rb0, ro + k1, none⟩) hrb]; exact hx0
        have nW : w7.heap[g8]? = some (.cells #[.int .u64 (x : Int), .int .u64 (x : Int), .int .u64 (x : Int), .int .u64 (x : Int), .int .u64 (x : Int), .int .u64 (x : Int), .int .u64 (x : Int), .int .u64 (x : Int)] 39 (0, 0)) := by rw [grA.block g8 s_wb (by simp [Value.ownBlock]; exact hg80)]; exact n_wb
        have oW := oA
        clear oA grA atA ltA
        refine hK.out _ _ x_w7 (fun hHeld => ?_)
        clear hK K
        try simp only [Act.put, List.getElem_toArray, List.getElem_cons_zero, List.getElem_cons_succ, List.setIfInBounds_toArray, List.set_cons_zero, List.set_cons_succ]
        try simp only [Nat.zero_add]
        refine wpAnyH_ready (rs := [52]) (by kernel_rfl) (by simp) ?_
        refine AllReadyH.cons rfl (fun K hK => ?_) AllReadyH.nil
        refine step_append_lies _ rfl _ _ _ rfl B 39 i5 (.int .u64 0) 1 8 Tryd.underlying28 HI5.out.1 HI5.out.2.1 HI5.out.2.2.1 HI5.out.2.2.2 rfl (by decide) (.slice (some ⟨gA, 0, none⟩) n capA) n (valsV64 n f) (by simp [Act.eval]) oW ⟨g8, 0, none⟩ 8 8 [.int .u64 (x : Int), .int .u64 (x : Int), .int .u64 (x : Int), .int .u64 (x : Int), .int .u64 (x : Int), .int .u64 (x : Int), .int .u64 (x : Int), .int .u64 (x : Int)] (by simp [Act.eval]) rfl (by intro j u hj; rw [Addr.add_mid, Nat.zero_add]; exact (cell_of_row _ _ _ _ _ _ nW).trans (by simpa using hj)) (by intro u hu; simp at hu; subst hu; rfl) (by decide) (by unfold maxLen; omega) (by omega) (Nat.le_trans (Nat.le_of_eq HBe.out.symm) b_w7.size) _ rfl ?_
        intro gC capC w9 oC grC atC ltC
        have b_w9 : Below B wc w9 := b_w7.trans (grown_below64 grC (fun q hq => (oW.lt q hq).1) (Nat.le_trans (Nat.le_of_eq HBe.out.symm) b_w7.size))
        have x_w9 : w9.cell? ⟨rb0, ro + k1, none⟩ = some (.int .u64 (x : Int)) := by rw [b_w9.cell (p := ⟨rb0, ro + k1, none⟩) hrb]; exact hx0
        have HRC := hide (row8_64 HX.out HK1.out oC)
        clear oC grC atC ltC oW
        refine hK.out _ _ x_w9 (fun hHeld => ?_)
        clear hK K
        try simp only [Act.put, List.getElem_toArray, List.getElem_cons_zero, List.getElem_cons_succ, List.setIfInBounds_toArray, List.set_cons_zero, List.set_cons_succ]
        refine wpAnyH_ready (rs := [53]) (by kernel_rfl) (by simp) ?_
        refine AllReadyH.cons rfl (fun K hK => ?_) AllReadyH.nil
        go_simp
        refine (pack64_ok _ (n + 8) capC (more8 f n) w9 HRC.out.1 (by omega) HRC.out.2 (fun i hi => more8_lt HF.out hn0' i) (HT.out.below (HBc.out.trans (below_mono' b_w9 HBe.out HBc.out.size)))).mono ?_
        rintro e wz ⟨gz, Lz, hLz, hgz, rfl, Gz, Bz⟩
        have hLz' : Lz = L1 + 1 := by rw [hLz, HL1.out, HK1.out]; exact more8_len 64 6 f k1
        have x_wz : wz.cell? ⟨rb0, ro + k1, none⟩ = some (.int .u64 (x : Int)) := by rw [Bz.cell (p := ⟨rb0, ro + k1, none⟩) (block_lt_of_cell x_w9)]; exact x_w9
        have HBz : Hid (Below w.heap.size w wz) := (HBc.out.trans (below_mono' b_w9 HBe.out HBc.out.size)).trans (Bz.mono (Nat.le_trans HBc.out.size b_w9.size))
        clear hLz Gz Bz
        subst hLz'
        go_wp2_with fail
        refine hK.out _ _ x_wz (fun hHeld => ?_)
        clear hK K
        try simp only [Act.put, List.getElem_toArray, List.getElem_cons_zero, List.getElem_cons_succ, List.setIfInBounds_toArray, List.set_cons_zero, List.set_cons_succ]
        refine wpAnyH_take (i := 54) (v := ?_) rfl (by kernel_rfl) (by kernel_rfl) (by kernel_rfl) (fun _ _ _ h => h) (Or.inl ⟨by rfl, ?_⟩) hHeld ?_
        rotate_left
        · (intro wq hSw; (try dsimp only at hSw); (go_simp <;> with_reducible rfl))
        try simp only [Act.put, List.getElem_toArray, List.getElem_cons_zero, List.getElem_cons_succ, List.setIfInBounds_toArray, List.set_cons_zero, List.set_cons_succ]
        refine wpAnyH_take (i := 55) (v := ?_) rfl (by kernel_rfl) (by kernel_rfl) (by kernel_rfl) (fun _ _ _ h => h) (Or.inl ⟨by rfl, ?_⟩) hHeld ?_
        rotate_left
        · (intro wq hSw; (try dsimp only at hSw); (go_simp <;> with_reducible rfl))
        try simp only [Act.put, List.getElem_toArray, List.getElem_cons_zero, List.getElem_cons_succ, List.setIfInBounds_toArray, List.set_cons_zero, List.set_cons_succ]
        refine wpAnyH_take (i := 56) (v := ?_) rfl (by kernel_rfl) (by kernel_rfl) (by kernel_rfl) (fun _ _ _ h => h) (Or.inl ⟨by rfl, ?_⟩) hHeld ?_
        rotate_left
        · (intro wq hSw; (try dsimp only at hSw); (go_simp <;> with_reducible rfl))
        try simp only [Act.put, List.getElem_toArray, List.getElem_cons_zero, List.getElem_cons_succ, List.setIfInBounds_toArray, List.set_cons_zero, List.set_cons_succ]
        refine wpAnyH_take (i := 57) (v := ?_) rfl (by kernel_rfl) (by kernel_rfl) (by kernel_rfl) (fun _ _ _ h => h) (Or.inl ⟨by rfl, ?_⟩) hHeld ?_
        rotate_left
        · (intro wq hSw; (try dsimp only at hSw); (go_simp <;> with_reducible rfl))
        try simp only [Act.put, List.getElem_toArray, List.getElem_cons_zero, List.getElem_cons_succ, List.setIfInBounds_toArray, List.set_cons_zero, List.set_cons_succ]
        refine wpAnyH_take (i := 58) (v := ?_) rfl (by kernel_rfl) (by kernel_rfl) (by kernel_rfl) (fun _ _ _ h => h) (Or.inl ⟨by rfl, ?_⟩) hHeld ?_
        rotate_left
        · (intro wq hSw; (try dsimp only at hSw); (go_simp <;> with_reducible rfl))
        try simp only [Act.put, List.getElem_toArray, List.getElem_cons_zero, List.getElem_cons_succ, List.setIfInBounds_toArray, List.set_cons_zero, List.set_cons_succ]
        refine wpAnyH_done (by kernel_rfl) ?_ _
        go_wp2_with fail
        refine (num_any _ _).mono ?_
        rintro e wn ⟨rfl, hwn⟩
        have hwn := hwn.symm
        subst hwn
        go_wp2_with fail
        go_ret
        exact ⟨by simp; unfold wrap64; have h1 := HLL.out; have h2 := HL1.out; omega, HBz.out⟩
    · go_simp
      have n_wa : ((wc.alloc (.cells #[.int .u64 (x : Int), .int .u64 (x : Int), .int .u64 (x : Int), .int .u64 (x : Int), .int .u64 (x : Int), .int .u64 (x : Int), .int .u64 (x : Int), .int .u64 (x : Int)] 39)).drew).heap[wc.heap.size]? = some (.cells #[.int .u64 (x : Int), .int .u64 (x : Int), .int .u64 (x : Int), .int .u64 (x : Int), .int .u64 (x : Int), .int .u64 (x : Int), .int .u64 (x : Int), .int .u64 (x : Int)] 39 (0, 0)) := heap_alloc_new wc _
      have b_wa : Below B wc ((wc.alloc (.cells #[.int .u64 (x : Int), .int .u64 (x : Int), .int .u64 (x : Int), .int .u64 (x : Int), .int .u64 (x : Int), .int .u64 (x : Int), .int .u64 (x : Int), .int .u64 (x : Int)] 39)).drew) := (HBe.out ▸ ((Below.refl _ wc).alloc (Nat.le_refl _) _).drew)
      have s_wa : wc.heap.size < ((wc.alloc (.cells #[.int .u64 (x : Int), .int .u64 (x : Int), .int .u64 (x : Int), .int .u64 (x : Int), .int .u64 (x : Int), .int .u64 (x : Int), .int .u64 (x : Int), .int .u64 (x : Int)] 39)).drew).heap.size := size_lt_of_row n_wa
      have x_wa : ((wc.alloc (.cells #[.int .u64 (x : Int), .int .u64 (x : Int), .int .u64 (x : Int), .int .u64 (x : Int), .int .u64 (x : Int), .int .u64 (x : Int), .int .u64 (x : Int), .int .u64 (x : Int)] 39)).drew).cell? ⟨rb0, ro + k1, none⟩ = some (.int .u64 (x : Int)) := by rw [b_wa.cell (p := ⟨rb0, ro + k1, none⟩) hrb]; exact hx0
      obtain ⟨g8, hg8⟩ : ∃ q, wc.heap.size = q := ⟨_, rfl⟩
      rw [hg8] at n_wa s_wa ⊢
      have hg8s := hide hg8
      clear hg8
      generalize (wc.alloc (.cells #[.int .u64 (x : Int), .int .u64 (x : Int), .int .u64 (x : Int), .int .u64 (x : Int), .int .u64 (x : Int), .int .u64 (x : Int), .int .u64 (x : Int), .int .u64 (x : Int)] 39)).drew = wa at *
      refine hK.out _ _ x_wa (fun hHeld => ?_)
      clear hK K
      try simp only [Act.put, List.getElem_toArray, List.getElem_cons_zero, List.getElem_cons_succ, List.setIfInBounds_toArray, List.set_cons_zero, List.set_cons_succ]
      refine wpAnyH_ready (rs := [0]) (by kernel_rfl) (by simp) ?_
      refine AllReadyH.cons rfl (fun K hK => ?_) AllReadyH.nil
      go_simp
      have n_wb : (wa.alloc (.cells #[] 39)).heap[wa.heap.size]? = some (.cells #[] 39 (0, 0)) := heap_alloc_new wa _
      have b_wb : Below B wc (wa.alloc (.cells #[] 39)) := b_wa.alloc (Nat.le_trans (Nat.le_of_eq HBe.out.symm) b_wa.size) _
      have s_wb : wa.heap.size < (wa.alloc (.cells #[] 39)).heap.size := size_lt_of_row n_wb
      have x_wb : (wa.alloc (.cells #[] 39)).cell? ⟨rb0, ro + k1, none⟩ = some (.int .u64 (x : Int)) := by rw [b_wb.cell (p := ⟨rb0, ro + k1, none⟩) hrb]; exact hx0
      obtain ⟨G0, hG0⟩ : ∃ q, wa.heap.size = q := ⟨_, rfl⟩
      rw [hG0] at n_wb s_wb ⊢
      have n8b : (wa.alloc (.cells #[] 39)).heap[g8]? = some (.cells #[.int .u64 (x : Int), .int .u64 (x : Int), .int .u64 (x : Int), .int .u64 (x : Int), .int .u64 (x : Int), .int .u64 (x : Int), .int .u64 (x : Int), .int .u64 (x : Int)] 39 (0, 0)) := new_kept n_wa _
      have s8b : g8 < (wa.alloc (.cells #[] 39)).heap.size := size_lt_of_row n8b
      have hGB : B ≤ G0 := by have := b_wa.size; have := HBe.out; omega
      have hg80 : g8 ≠ G0 := by omega
      clear hG0
      generalize wa.alloc (.cells #[] 39) = wb at *
      refine hK.out _ _ x_wb (fun hHeld => ?_)
      clear hK K
      try simp only [Act.put, List.getElem_toArray, List.getElem_cons_zero, List.getElem_cons_succ, List.setIfInBounds_toArray, List.set_cons_zero, List.set_cons_succ]
      refine wpAnyH_ready (rs := [2]) (by kernel_rfl) (by simp) ?_
      refine AllReadyH.cons rfl (fun K hK => ?_) AllReadyH.nil
      refine step_append_lies _ rfl _ _ _ rfl B 39 i5 (.int .u64 0) 1 8 Tryd.underlying28 HI5.out.1 HI5.out.2.1 HI5.out.2.2.1 HI5.out.2.2.2 rfl (by decide) (.slice (some ⟨G0, 0, none⟩) 0 0) 0 [] (by simp [Act.eval]) (own_empty hGB n_wb) ⟨rb0, ro, none⟩ n cW (valsV64 n f) (by simp [Act.eval]) (by simp [valsV64]) (HNW.out wb b_wb) (vals_one64 n f) hn0' (by unfold maxLen; omega) (by omega) (Nat.le_trans (Nat.le_of_eq HBe.out.symm) b_wb.size) _ rfl ?_
      intro gA capA w7 oA grA atA ltA
      rw [Nat.zero_add, List.nil_append] at oA
      have b_w7 : Below B wc w7 := b_wb.trans (grown_below64 grA (fun q hq => by simp only [Value.ownBlock, Option.some.injEq] at hq; omega) (Nat.le_trans (Nat.le_of_eq HBe.out.symm) b_wb.size))
      have x_w7 : w7.cell? ⟨rb0, ro + k1, none⟩ = some (.int .u64 (x : Int)) := by rw [b_w7.cell (p := ⟨rb0, ro + k1, none⟩) hrb]; exact hx0
      have nW : w7.heap[g8]? = some (.cells #[.int .u64 (x : Int), .int .u64 (x : Int), .int .u64 (x : Int), .int .u64 (x : Int), .int .u64 (x : Int), .int .u64 (x : Int), .int .u64 (x : Int), .int .u64 (x : Int)] 39 (0, 0)) := by rw [grA.block g8 s8b (by simp [Value.ownBlock]; exact hg80)]; exact n8b
      have oW := oA
      clear oA grA atA ltA
      refine hK.out _ _ x_w7 (fun hHeld => ?_)
      clear hK K
      try simp only [Act.put, List.getElem_toArray, List.getElem_cons_zero, List.getElem_cons_succ, List.setIfInBounds_toArray, List.set_cons_zero, List.set_cons_succ]
      try simp only [Nat.zero_add]
      refine wpAnyH_ready (rs := [52]) (by kernel_rfl) (by simp) ?_
      refine AllReadyH.cons rfl (fun K hK => ?_) AllReadyH.nil
      refine step_append_lies _ rfl _ _ _ rfl B 39 i5 (.int .u64 0) 1 8 Tryd.underlying28 HI5.out.1 HI5.out.2.1 HI5.out.2.2.1 HI5.out.2.2.2 rfl (by decide) (.slice (some ⟨gA, 0, none⟩) n capA) n (valsV64 n f) (by simp [Act.eval]) oW ⟨g8, 0, none⟩ 8 8 [.int .u64 (x : Int), .int .u64 (x : Int), .int .u64 (x : Int), .int .u64 (x : Int), .int .u64 (x : Int), .int .u64 (x : Int), .int .u64 (x : Int), .int .u64 (x : Int)] (by simp [Act.eval]) rfl (by intro j u hj; rw [Addr.add_mid, Nat.zero_add]; exact (cell_of_row _ _ _ _ _ _ nW).trans (by simpa using hj)) (by intro u hu; simp at hu; subst hu; rfl) (by decide) (by unfold maxLen; omega) (by omega) (Nat.le_trans (Nat.le_of_eq HBe.out.symm) b_w7.size) _ rfl ?_
      intro gC capC w9 oC grC atC ltC
      have b_w9 : Below B wc w9 := b_w7.trans (grown_below64 grC (fun q hq => (oW.lt q hq).1) (Nat.le_trans (Nat.le_of_eq HBe.out.symm) b_w7.size))
      have x_w9 : w9.cell? ⟨rb0, ro + k1, none⟩ = some (.int .u64 (x : Int)) := by rw [b_w9.cell (p := ⟨rb0, ro + k1, none⟩) hrb]; exact hx0
      have HRC := hide (row8_64 HX.out HK1.out oC)
      clear oC grC atC ltC oW
      refine hK.out _ _ x_w9 (fun hHeld => ?_)
      clear hK K
      try simp only [Act.put, List.getElem_toArray, List.getElem_cons_zero, List.getElem_cons_succ, List.setIfInBounds_toArray, List.set_cons_zero, List.set_cons_succ]
      refine wpAnyH_ready (rs := [53]) (by kernel_rfl) (by simp) ?_
      refine AllReadyH.cons rfl (fun K hK => ?_) AllReadyH.nil
      go_simp
      refine (pack64_ok _ (n + 8) capC (more8 f n) w9 HRC.out.1 (by omega) HRC.out.2 (fun i hi => more8_lt HF.out hn0' i) (HT.out.below (HBc.out.trans (below_mono' b_w9 HBe.out HBc.out.size)))).mono ?_
      rintro e wz ⟨gz, Lz, hLz, hgz, rfl, Gz, Bz⟩
      have hLz' : Lz = L1 + 1 := by rw [hLz, HL1.out, HK1.out]; exact more8_len 64 6 f k1
      have x_wz : wz.cell? ⟨rb0, ro + k1, none⟩ = some (.int .u64 (x : Int)) := by rw [Bz.cell (p := ⟨rb0, ro + k1, none⟩) (block_lt_of_cell x_w9)]; exact x_w9
      have HBz : Hid (Below w.heap.size w wz) := (HBc.out.trans (below_mono' b_w9 HBe.out HBc.out.size)).trans (Bz.mono (Nat.le_trans HBc.out.size b_w9.size))
      clear hLz Gz Bz
      subst hLz'
      go_wp2_with fail
      refine hK.out _ _ x_wz (fun hHeld => ?_)
      clear hK K
      try simp only [Act.put, List.getElem_toArray, List.getElem_cons_zero, List.getElem_cons_succ, List.setIfInBounds_toArray, List.set_cons_zero, List.set_cons_succ]
      refine wpAnyH_take (i := 54) (v := ?_) rfl (by kernel_rfl) (by kernel_rfl) (by kernel_rfl) (fun _ _ _ h => h) (Or.inl ⟨by rfl, ?_⟩) hHeld ?_
      rotate_left
      · (intro wq hSw; (try dsimp only at hSw); (go_simp <;> with_reducible rfl))
      try simp only [Act.put, List.getElem_toArray, List.getElem_cons_zero, List.getElem_cons_succ, List.setIfInBounds_toArray, List.set_cons_zero, List.set_cons_succ]
      refine wpAnyH_take (i := 55) (v := ?_) rfl (by kernel_rfl) (by kernel_rfl) (by kernel_rfl) (fun _ _ _ h => h) (Or.inl ⟨by rfl, ?_⟩) hHeld ?_
      rotate_left
      · (intro wq hSw; (try dsimp only at hSw); (go_simp <;> with_reducible rfl))
      try simp only [Act.put, List.getElem_toArray, List.getElem_cons_zero, List.getElem_cons_succ, List.setIfInBounds_toArray, List.set_cons_zero, List.set_cons_succ]
      refine wpAnyH_take (i := 56) (v := ?_) rfl (by kernel_rfl) (by kernel_rfl) (by kernel_rfl) (fun _ _ _ h => h) (Or.inl ⟨by rfl, ?_⟩) hHeld ?_
      rotate_left
      · (intro wq hSw; (try dsimp only at hSw); (go_simp <;> with_reducible rfl))
      try simp only [Act.put, List.getElem_toArray, List.getElem_cons_zero, List.getElem_cons_succ, List.setIfInBounds_toArray, List.set_cons_zero, List.set_cons_succ]
      refine wpAnyH_take (i := 57) (v := ?_) rfl (by kernel_rfl) (by kernel_rfl) (by kernel_rfl) (fun _ _ _ h => h) (Or.inl ⟨by rfl, ?_⟩) hHeld ?_
      rotate_left
      · (intro wq hSw; (try dsimp only at hSw); (go_simp <;> with_reducible rfl))
      try simp only [Act.put, List.getElem_toArray, List.getElem_cons_zero, List.getElem_cons_succ, List.setIfInBounds_toArray, List.set_cons_zero, List.set_cons_succ]
      refine wpAnyH_take (i := 58) (v := ?_) rfl (by kernel_rfl) (by kernel_rfl) (by kernel_rfl) (fun _ _ _ h => h) (Or.inl ⟨by rfl, ?_⟩) hHeld ?_
      rotate_left
      · (intro wq hSw; (try dsimp only at hSw); (go_simp <;> with_reducible rfl))
      try simp only [Act.put, List.getElem_toArray, List.getElem_cons_zero, List.getElem_cons_succ, List.setIfInBounds_toArray, List.set_cons_zero, List.set_cons_succ]
      refine wpAnyH_done (by kernel_rfl) ?_ _
      go_wp2_with fail
      refine (num_any _ _).mono ?_
      rintro e wn ⟨rfl, hwn⟩
      have hwn := hwn.symm
      subst hwn
      go_wp2_with fail
      go_ret
      exact ⟨by simp; unfold wrap64; have h1 := HLL.out; have h2 := HL1.out; omega, HBz.out⟩


end Go.Proofs.YtenhippcjnemcaaDoor

/- LimbGreat's walk. -/
import Derived.Test.YtfbkdjghbgdgpabBJ
namespace Go.Proofs.Ytfbkdjghbgdgpab
open Go.RowKit
open M
set_option linter.unusedVariables false
set_option linter.unusedSimpArgs false

theorem num_size {v : Value} {N k : Nat} {w : World} (h : Num w v N) (hn : Nrm k N) : ∃ ad cap, v = .slice ad k cap := by
  obtain ⟨m, h1, h2, h3⟩ := h
  obtain ⟨_, _, ad, cap, hv, _⟩ := h1
  rw [h2.uniq hn] at hv
  exact ⟨ad, cap, hv⟩

theorem num_row {ad : Option Addr} {k cap N : Nat} {w : World} (h : Num w (.slice ad k cap) N) : Row w (.slice ad k cap) k N := by
  obtain ⟨m, h1, h2, h3⟩ := h
  have : m = k := by
    obtain ⟨_, _, ad', cap', hv, _⟩ := h1
    simp only [Value.slice.injEq] at hv
    exact hv.2.1.symm
  rw [this] at h1
  exact h1

theorem nat_num {ad : Option Addr} {k cap N F : Nat} {w : World} (h : Num w (.slice ad k cap) N) (most : Nat) (hm : most ≤ 8192) (hF : N % 4294967296 ^ (min k most) = F) :
    Calls Try.prog 29 #[.slice ad k cap, .int .i64 most] w fun e w' => ∃ r, e = .returned r ∧ Num w' r F ∧ Below w.heap.size w w' := by
  have hr := num_row h
  have hl : RowL w (.slice ad k cap) k N := by
    obtain ⟨h1, h2, ad', cap', hv, hc, hcell⟩ := Row.old hr
    exact ⟨h1, by omega, ad', cap', hv, hc, hcell⟩
  refine (nat_any _ k N most w hl hm).mono ?_
  rintro e w' ⟨r, he, n, h1, h2, h3, hb⟩
  rw [hF] at h1 h2
  exact ⟨r, he, ⟨n, h1.row, h2, by omega⟩, hb⟩

theorem divmod_is {v u : Value} {A C Q R : Nat} {w : World} (h : Num w v A) (h' : Num w u C) (hC : 0 < C) (hQ : A / C = Q) (hR : A % C = R) :
    Calls Try.prog 13 #[v, u] w fun e w' => ∃ q r, e = .returned (.tuple #[q, r, .int .i64 0]) ∧ Num w' q Q ∧ Num w' r R ∧ Below w.heap.size w w' := by
  subst hQ hR
  exact DivMod_num h h' hC

theorem RowB.below {w w' : World} {v : Value} {L N : Nat} (h : RowB w v L N) (hb : Below w.heap.size w w') : RowB w' v L N := by
  obtain ⟨h1, ad, cap, hv, hc, hcell⟩ := h
  refine ⟨h1, ad, cap, hv, hc, fun hL => ?_⟩
  obtain ⟨g, o, ha, hg, hj⟩ := hcell hL
  exact ⟨g, o, ha, Nat.lt_of_lt_of_le hg hb.size, fun j hj' => by rw [hb.cell (p := ⟨g, o + (L - 1 - j), none⟩) hg]; exact hj j hj'⟩

/-- A cell of an owned row. -/
theorem owns_cell {w : World} {base e n cap g : Nat} {xs : List Value} (h : w.ownsRow base e 1 (.slice (some ⟨g, 0, none⟩) n cap) n xs) {j : Nat} {u : Value} (hj : xs[j]? = some u) : w.cell? ⟨g, j, none⟩ = some u := by
  obtain ⟨hl, ⟨h1, _⟩ | ⟨g', cap', cur, h1, hb, hg, hc2, hm2, hs, ht⟩⟩ := h
  · cases h1
  · simp only [Value.slice.injEq, Option.some.injEq, Addr.mk.injEq] at h1
    obtain ⟨⟨rfl, _⟩, _, rfl⟩ := h1
    have hjl : j < n * 1 := by
      rw [← hl]
      exact (List.getElem?_eq_some_iff.1 hj).1
    rw [cell_of_row w g j cur _ (0, 0) hg, ← hj, ← ht, List.getElem?_take, if_pos hjl]
    simp

/-- The greatest number with a limb on top. -/
theorem long_row {w : World} {base k9 k8 cap g M : Nat} (hM : M < 4294967296 ^ k8) (h9 : k9 = k8 + 1) (hk : k9 ≤ 70368744177664) (h : w.ownsRow base 52 1 (.slice (some ⟨g, 0, none⟩) k9 cap) k9 (limbsV k8 M ++ [.int .u32 1])) :
    Row w (.slice (some ⟨g, 0, none⟩) k9 cap) k9 (M + 4294967296 ^ k8 * 1) := by
  have hcap : k9 ≤ cap := by
    obtain ⟨_, ⟨h1, h2⟩ | ⟨g', cap', cur, h1, hb, hg, hc2, _⟩⟩ := h
    · omega
    · simp only [Value.slice.injEq] at h1
      omega
  subst h9
  refine ⟨by rw [pw_succ]; omega, hk, _, cap, rfl, hcap, fun _ => ⟨g, 0, rfl, trivial, fun j hj => ?_⟩⟩
  rw [Nat.zero_add]
  refine owns_cell h ?_
  rcases Nat.lt_or_ge j k8 with h1 | h1
  · rw [List.getElem?_append_left (by rw [limbsV_length]; exact h1), limbsV_get _ _ _ h1, dg_low h1]
  · obtain rfl : j = k8 := by omega
    rw [List.getElem?_append_right (by rw [limbsV_length]; omega), limbsV_length, Nat.sub_self, dg_top hM (by omega)]
    rfl

/-- The bytes of a number, the highest first. -/
def dbsV (L N : Nat) : List Value := (List.range L).map fun i => .int .u8 (db N (L - 1 - i) : Nat)
theorem dbsV_length (L N : Nat) : (dbsV L N).length = L := by simp [dbsV]
theorem dbsV_cells {w : World} {g L cap N : Nat} (h : RowB w (.slice (some ⟨g, 0, none⟩) L cap) L N) : ∀ j u, (dbsV L N)[j]? = some u → w.cell? ((⟨g, 0, none⟩ : Addr).add j) = some u := by
  intro j u hj
  have hjl : j < L := by rw [← dbsV_length L N]; exact (List.getElem?_eq_some_iff.1 hj).1
  obtain ⟨_, ad, cap', hv, _, hc⟩ := h
  obtain ⟨g', o', ha, _, hcell⟩ := hc (by omega)
  simp only [Value.slice.injEq] at hv
  rw [← hv.1] at ha
  simp only [Option.some.injEq, Addr.mk.injEq] at ha
  obtain ⟨rfl, rfl, _⟩ := ha
  have := hcell (L - 1 - j) (by omega)
  rw [show L - 1 - (L - 1 - j) = j by omega, Nat.zero_add] at this
  rw [show (⟨g, 0, none⟩ : Addr).add j = ⟨g, j, none⟩ from by unfold Addr.add; split <;> simp_all, this, ← hj]
  simp [dbsV, hjl]
theorem dbsV_one (L N : Nat) : ∀ u ∈ dbsV L N, u.oneCell' = true := by
  intro u hu
  simp only [dbsV, List.mem_map] at hu
  obtain ⟨i, _, rfl⟩ := hu
  rfl
theorem limbs_cells {w : World} {g o k cap N : Nat} {S : Nat → Prop} (h : RowX S w (.slice (some ⟨g, o, none⟩) k cap) k N) : ∀ j u, (limbsV k N)[j]? = some u → w.cell? ((⟨g, o, none⟩ : Addr).add j) = some u := by
  intro j u hj
  have hjl : j < k := by rw [← limbsV_length k N]; exact (List.getElem?_eq_some_iff.1 hj).1
  obtain ⟨_, _, ad, cap', hv, _, hc⟩ := h
  obtain ⟨g', o', ha, _, hcell⟩ := hc (by omega)
  simp only [Value.slice.injEq] at hv
  rw [← hv.1] at ha
  simp only [Option.some.injEq, Addr.mk.injEq] at ha
  obtain ⟨rfl, rfl, _⟩ := ha
  have := hcell j hjl
  rw [limbsV_get _ _ _ hjl] at hj
  rw [show (⟨g, o, none⟩ : Addr).add j = ⟨g, o + j, none⟩ from by unfold Addr.add; split <;> simp_all, this, hj]

set_option maxRecDepth 100000 in
set_option maxHeartbeats 16000000 in
theorem great_any (w : World) :
    Calls Try.prog 5 #[] w fun e w' => e = .returned (.bool true) ∧ Below w.heap.size w w' := by
  obtain ⟨i5, hi5⟩ := info32
  have Hi := hide hi5
  clear hi5
  obtain ⟨n1, n2, n3, k8, T, H, M, F, D, hn1, hn2, hn3, hk8, hG⟩ := great
  have G := hide hG
  have hk8i : (k8 : Int) = 8192 := by omega
  have hn2i : (n2 : Int) = 262144 := by omega
  have HI : Hid ((n1 : Int) = 262143 ∧ (n2 : Int) = 262144 ∧ (n3 : Int) = 131072 ∧ n1 < 9223372036854775808 ∧ n2 < 9223372036854775808 ∧ n3 < 9223372036854775808 ∧ k8 = 8192 ∧ n2 = 262144) := by refine ⟨?_, ?_, ?_, ?_, ?_, ?_, ?_, ?_⟩ <;> omega
  clear hn1 hn2 hn3 hk8 hG
  go_enter Try.func5, Try.ntmps5
  have H0 : Hid (Below w.heap.size w w) := Below.refl _ _
  go_wp2_with fail
  refine (from_num 1 _ (by omega)).mono ?_
  rintro e w1 ⟨one, rfl, hr, hb⟩
  have H1 : Hid (Num w1 one (1) ∧ Below w.heap.size w w1) := ⟨hr, H0.out.trans (hb.mono H0.out.size)⟩
  clear H0 hb hr
  go_wp2_with fail
  refine (left_num H1.out.1 262143 HI.out.1 HI.out.2.2.2.1 G.out.top G.out.topF).mono ?_
  rintro e w2 ⟨top, rfl, hr, hb⟩
  have H2 : Hid (Num w2 one (1) ∧ Num w2 top (T) ∧ Below w.heap.size w w2) := ⟨H1.out.1.below hb, hr, H1.out.2.trans (hb.mono H1.out.2.size)⟩
  clear H1 hb hr
  go_wp2_with fail
  refine (left_long H2.out.1 262144 HI.out.2.1 HI.out.2.2.2.2.1 G.out.over).mono ?_
  rintro e w3 ⟨rfl, hb⟩
  have H3 : Hid (Num w3 one (1) ∧ Num w3 top (T) ∧ Below w.heap.size w w3) := ⟨H2.out.1.below hb, H2.out.2.1.below hb, H2.out.2.2.trans (hb.mono H2.out.2.2.size)⟩
  clear H2 hb
  go_wp2_with (at_make; refine wpList_make_row _ rfl _ _ _ rfl 52 i5 (.int .u32 0) Try.underlying27 Hi.out.1 Hi.out.2.1 Hi.out.2.2.1 rfl .i64 .i64 k8 (by rw [hk8i]; rfl) (by rw [hk8i]; rfl) (by rw [Hi.out.2.2.2]; omega) (by omega) ?_)
  have HF : Hid (Wk (w3.alloc (.cells (madeCells #[Value.int .u32 0] k8) 52)) w3.heap.size 0 k8 0 ∧ Below w3.heap.size w3 (w3.alloc (.cells (madeCells #[Value.int .u32 0] k8) 52))) := ⟨wk_of_block (pw_pos _) (make_block w3 k8), (Below.refl _ _).alloc (Nat.le_refl _) _⟩
  generalize (w3.alloc (.cells (madeCells #[Value.int .u32 0] k8) 52)) = wa at *
  go_loopw [7] (fun t7 wr => ∃ i : Nat, i ≤ k8 ∧ t7 = .int .i64 i ∧ Hid (Mid wr w3.heap.size 0 k8 i 0 M ∧ Below w3.heap.size w3 wr)) (fun t7 _ => k8 - (intOf t7).toNat)
  case atStart => exact ⟨0, by omega, rfl, HF.out.1.mid _, HF.out.2⟩
  case round =>
    obtain ⟨i, hi, rfl, HM⟩ := hrel
    by_cases hlt : i < k8
    · have hlt' : (i : Int) < (k8 : Int) := by omega
      have hlt2 : (i : Int) < 8192 := by omega
      have hy := HM.out.1.hi i (Nat.le_refl _) hlt
      have hf := HM.out.1.free i hlt
      rw [Nat.zero_add] at hy hf
      go_wp2_with fail
      go_roundw
      case rel =>
        refine ⟨i + 1, by omega, by go_num, ?_⟩
        have hst := HM.out.1.step hlt 4294967295 (by rw [G.out.allD i hlt]; rfl)
        rw [Nat.zero_add] at hst
        exact ⟨hst, HM.out.2.setCell (Nat.le_refl _) _⟩
      case measure => simp [intOf]; omega
    · obtain rfl : i = k8 := by omega
      have H4 : Hid (Num wr one (1) ∧ Num wr top (T) ∧ Num wr (.slice (some ⟨w3.heap.size, 0, none⟩) i i) (M) ∧ Below w.heap.size w wr) := ⟨H3.out.1.below HM.out.2, H3.out.2.1.below HM.out.2, ⟨i, ((HM.out.1.wk G.out.allN.1).row (S := fun _ => True) (by omega) (Nat.le_refl _) trivial _ (fun _ => rfl)), G.out.allN, by omega⟩, H3.out.2.2.trans (HM.out.2.mono H3.out.2.2.size)⟩
      have hgb : w3.heap.size < wr.heap.size := Nat.lt_of_lt_of_le (by omega) (lt_of_cell (HM.out.1.lo 0 (by omega)))
      generalize w3.heap.size = ga at *
      clear HM HF H3 hgb
      go_wp2_with fail
      refine (add_long H4.out.2.2.1 H4.out.1 G.out.allL).mono ?_
      rintro e w5 ⟨rfl, hb⟩
      have H5 : Hid (Num w5 one (1) ∧ Num w5 top (T) ∧ Num w5 (.slice (some ⟨ga, 0, none⟩) i i) (M) ∧ Below w.heap.size w w5) := ⟨H4.out.1.below hb, H4.out.2.1.below hb, H4.out.2.2.1.below hb, H4.out.2.2.2.trans (hb.mono H4.out.2.2.2.size)⟩
      clear H4 hb
      go_wp2_with fail
      refine (left_num H5.out.1 131072 HI.out.2.2.1 HI.out.2.2.2.2.2.1 G.out.half G.out.halfF).mono ?_
      rintro e w6 ⟨half, rfl, hr, hb⟩
      have H6 : Hid (Num w6 one (1) ∧ Num w6 top (T) ∧ Num w6 (.slice (some ⟨ga, 0, none⟩) i i) (M) ∧ Num w6 half (H) ∧ Below w.heap.size w w6) := ⟨H5.out.1.below hb, H5.out.2.1.below hb, H5.out.2.2.1.below hb, hr, H5.out.2.2.2.trans (hb.mono H5.out.2.2.2.size)⟩
      clear H5 hb hr
      obtain ⟨adt, capt, rfl⟩ := num_size H6.out.2.1 G.out.topN
      go_wp2_with fail
      refine (num_below 0 _).mono ?_
      rintro e w7 ⟨rfl, hb⟩
      have H7 : Hid (Num w7 one (1) ∧ Num w7 (.slice adt i capt) (T) ∧ Num w7 (.slice (some ⟨ga, 0, none⟩) i i) (M) ∧ Num w7 half (H) ∧ Below w.heap.size w w7) := ⟨H6.out.1.below hb, H6.out.2.1.below hb, H6.out.2.2.1.below hb, H6.out.2.2.2.1.below hb, H6.out.2.2.2.2.trans (hb.mono H6.out.2.2.2.2.size)⟩
      clear H6 hb
      go_wp2_with fail
      refine (num_below 21 _).mono ?_
      rintro e w8 ⟨rfl, hb⟩
      have H8 : Hid (Num w8 one (1) ∧ Num w8 (.slice adt i capt) (T) ∧ Num w8 (.slice (some ⟨ga, 0, none⟩) i i) (M) ∧ Num w8 half (H) ∧ Below w.heap.size w w8) := ⟨H7.out.1.below hb, H7.out.2.1.below hb, H7.out.2.2.1.below hb, H7.out.2.2.2.1.below hb, H7.out.2.2.2.2.trans (hb.mono H7.out.2.2.2.2.size)⟩
      clear H7 hb
      go_wp2_with fail
      refine (num_below 21 _).mono ?_
      rintro e w9 ⟨rfl, hb⟩
      have H9 : Hid (Num w9 one (1) ∧ Num w9 (.slice adt i capt) (T) ∧ Num w9 (.slice (some ⟨ga, 0, none⟩) i i) (M) ∧ Num w9 half (H) ∧ Below w.heap.size w w9) := ⟨H8.out.1.below hb, H8.out.2.1.below hb, H8.out.2.2.1.below hb, H8.out.2.2.2.1.below hb, H8.out.2.2.2.2.trans (hb.mono H8.out.2.2.2.2.size)⟩
      clear H8 hb
      go_wp2_with fail
      refine (num_below 0 _).mono ?_
      rintro e w10 ⟨rfl, hb⟩
      have H10 : Hid (Num w10 one (1) ∧ Num w10 (.slice adt i capt) (T) ∧ Num w10 (.slice (some ⟨ga, 0, none⟩) i i) (M) ∧ Num w10 half (H) ∧ Below w.heap.size w w10) := ⟨H9.out.1.below hb, H9.out.2.1.below hb, H9.out.2.2.1.below hb, H9.out.2.2.2.1.below hb, H9.out.2.2.2.2.trans (hb.mono H9.out.2.2.2.2.size)⟩
      clear H9 hb
      go_wp2_with fail
      refine (len_num H10.out.2.2.1 G.out.allB).mono ?_
      rintro e w11 ⟨rfl, hb⟩
      have H11 : Hid (Num w11 one (1) ∧ Num w11 (.slice adt i capt) (T) ∧ Num w11 (.slice (some ⟨ga, 0, none⟩) i i) (M) ∧ Num w11 half (H) ∧ Below w.heap.size w w11) := ⟨H10.out.1.below hb, H10.out.2.1.below hb, H10.out.2.2.1.below hb, H10.out.2.2.2.1.below hb, H10.out.2.2.2.2.trans (hb.mono H10.out.2.2.2.2.size)⟩
      clear H10 hb
      go_wp2_with fail
      refine (check_num H11.out.2.2.1).mono ?_
      rintro e w12 ⟨rfl, hb⟩
      have H12 : Hid (Num w12 one (1) ∧ Num w12 (.slice adt i capt) (T) ∧ Num w12 (.slice (some ⟨ga, 0, none⟩) i i) (M) ∧ Num w12 half (H) ∧ Below w.heap.size w w12) := ⟨H11.out.1.below hb, H11.out.2.1.below hb, H11.out.2.2.1.below hb, H11.out.2.2.2.1.below hb, H11.out.2.2.2.2.trans (hb.mono H11.out.2.2.2.2.size)⟩
      clear H11 hb
      go_wp2_with fail
      refine (num_below 0 _).mono ?_
      rintro e w13 ⟨rfl, hb⟩
      have H13 : Hid (Num w13 one (1) ∧ Num w13 (.slice adt i capt) (T) ∧ Num w13 (.slice (some ⟨ga, 0, none⟩) i i) (M) ∧ Num w13 half (H) ∧ Below w.heap.size w w13) := ⟨H12.out.1.below hb, H12.out.2.1.below hb, H12.out.2.2.1.below hb, H12.out.2.2.2.1.below hb, H12.out.2.2.2.2.trans (hb.mono H12.out.2.2.2.2.size)⟩
      clear H12 hb
      have HRow : Hid (Row w13 (.slice (some ⟨ga, 0, none⟩) i i) i M) := num_row H13.out.2.2.1
      have HE0 : Hid ((w13.alloc (.cells #[] 52)).ownsRow w13.heap.size 52 1 (.slice (some ⟨w13.heap.size, 0, none⟩) 0 0) 0 []) := ⟨rfl, .inr ⟨w13.heap.size, 0, #[], rfl, Nat.le_refl _, heap_alloc_new w13 _, Nat.le_refl _, by unfold maxLen; omega, rfl, rfl⟩⟩
      have hbA : Below w13.heap.size w13 (w13.alloc (.cells #[] 52)) := (Below.refl _ _).alloc (Nat.le_refl _) _
      have HBA := hide hbA
      clear hbA
      go_wp2_with (at_builtin; refine wpList_append_lies _ rfl _ _ _ rfl w13.heap.size 52 i5 (.int .u32 0) 1 4 Try.underlying27 Hi.out.1 Hi.out.2.1 Hi.out.2.2.1 Hi.out.2.2.2 rfl (by decide) _ 0 [] rfl HE0.out ⟨ga, 0, none⟩ i i (limbsV i M) rfl (by simp) (limbs_cells (HRow.out.below HBA.out)) (limbsV_cell i M) (by omega) (by unfold maxLen; omega) (by omega) HBA.out.size _ rfl ?d6)
      case d6 =>
        intro g4 cap4 wb ho4 hg4 _ _
        have HB4 : Hid (Below w13.heap.size w13 wb) := HBA.out.trans (grown_below hg4 (fun g hg => (HE0.out.lt g hg).1) HBA.out.size)
        have HO4 := hide ho4
        clear ho4 hg4
        have HBB : Hid (Below w13.heap.size w13 (wb.alloc (.cells #[.int .u32 1] 52))) := HB4.out.alloc HB4.out.size _
        go_wp2_with (at_builtin; refine wpList_append_lies _ rfl _ _ _ rfl w13.heap.size 52 i5 (.int .u32 0) 1 4 Try.underlying27 Hi.out.1 Hi.out.2.1 Hi.out.2.2.1 Hi.out.2.2.2 rfl (by decide) _ i (limbsV i M) rfl (HO4.out.alloc _) ⟨wb.heap.size, 0, none⟩ 1 1 [.int .u32 1] rfl rfl (fun j u hj => cell_new1 wb _ 52 j u hj) (fun u hu => by simp at hu; subst hu; rfl) (by decide) (by unfold maxLen; omega) (by omega) HBB.out.size _ rfl ?d7)
        case d7 =>
          intro g5 cap5 wc ho5 hg5 _ _
          have hb : Below w13.heap.size w13 wc := HBB.out.trans (grown_below hg5 (fun g hg => (HO4.out.lt g hg).1) HBB.out.size)
          obtain ⟨k9, h9⟩ : ∃ k9, i + 1 = k9 := ⟨_, rfl⟩
          rw [h9] at ho5
          have HLo : Hid (Row wc (.slice (some ⟨g5, 0, none⟩) k9 cap5) k9 (M + 4294967296 ^ i * 1) ∧ 8192 < k9) := ⟨long_row G.out.allN.1 h9.symm (by omega) ho5, by omega⟩
          rw [h9]
          have H14 : Hid (Num wc one (1) ∧ Num wc (.slice adt i capt) (T) ∧ Num wc (.slice (some ⟨ga, 0, none⟩) i i) (M) ∧ Num wc half (H) ∧ Below w.heap.size w wc) := ⟨H13.out.1.below hb, H13.out.2.1.below hb, H13.out.2.2.1.below hb, H13.out.2.2.2.1.below hb, H13.out.2.2.2.2.trans (hb.mono H13.out.2.2.2.2.size)⟩
          clear ho5 hg5 hb HB4 HBB HO4 HBA HE0 HRow H13 h9
          generalize M + 4294967296 ^ i * 1 = LL at *
          go_wp2_with fail
          refine (sub_long HLo.out.1 HLo.out.2 H14.out.1).mono ?_
          rintro e w15 ⟨rfl, hb⟩
          have HLo15 : Hid (Row w15 (.slice (some ⟨g5, 0, none⟩) k9 cap5) k9 LL ∧ 8192 < k9) := ⟨HLo.out.1.below hb, HLo.out.2⟩
          have H15 : Hid (Num w15 one (1) ∧ Num w15 (.slice adt i capt) (T) ∧ Num w15 (.slice (some ⟨ga, 0, none⟩) i i) (M) ∧ Num w15 half (H) ∧ Below w.heap.size w w15) := ⟨H14.out.1.below hb, H14.out.2.1.below hb, H14.out.2.2.1.below hb, H14.out.2.2.2.1.below hb, H14.out.2.2.2.2.trans (hb.mono H14.out.2.2.2.2.size)⟩
          clear HLo H14 hb
          have HLo := HLo15
          clear HLo15
          go_wp2_with fail
          refine (check_long HLo.out.1 HLo.out.2).mono ?_
          rintro e w16 ⟨rfl, hb⟩
          have HLo16 : Hid (Row w16 (.slice (some ⟨g5, 0, none⟩) k9 cap5) k9 LL ∧ 8192 < k9) := ⟨HLo.out.1.below hb, HLo.out.2⟩
          have H16 : Hid (Num w16 one (1) ∧ Num w16 (.slice adt i capt) (T) ∧ Num w16 (.slice (some ⟨ga, 0, none⟩) i i) (M) ∧ Num w16 half (H) ∧ Below w.heap.size w w16) := ⟨H15.out.1.below hb, H15.out.2.1.below hb, H15.out.2.2.1.below hb, H15.out.2.2.2.1.below hb, H15.out.2.2.2.2.trans (hb.mono H15.out.2.2.2.2.size)⟩
          clear HLo H15 hb
          have HLo := HLo16
          clear HLo16
          go_wp2_with fail
          refine (num_below 21 _).mono ?_
          rintro e w17 ⟨rfl, hb⟩
          have HLo17 : Hid (Row w17 (.slice (some ⟨g5, 0, none⟩) k9 cap5) k9 LL ∧ 8192 < k9) := ⟨HLo.out.1.below hb, HLo.out.2⟩
          have H17 : Hid (Num w17 one (1) ∧ Num w17 (.slice adt i capt) (T) ∧ Num w17 (.slice (some ⟨ga, 0, none⟩) i i) (M) ∧ Num w17 half (H) ∧ Below w.heap.size w w17) := ⟨H16.out.1.below hb, H16.out.2.1.below hb, H16.out.2.2.1.below hb, H16.out.2.2.2.1.below hb, H16.out.2.2.2.2.trans (hb.mono H16.out.2.2.2.2.size)⟩
          clear HLo H16 hb
          have HLo := HLo17
          clear HLo17
          go_wp2_with fail
          refine (num_below 21 _).mono ?_
          rintro e w18 ⟨rfl, hb⟩
          have HLo18 : Hid (Row w18 (.slice (some ⟨g5, 0, none⟩) k9 cap5) k9 LL ∧ 8192 < k9) := ⟨HLo.out.1.below hb, HLo.out.2⟩
          have H18 : Hid (Num w18 one (1) ∧ Num w18 (.slice adt i capt) (T) ∧ Num w18 (.slice (some ⟨ga, 0, none⟩) i i) (M) ∧ Num w18 half (H) ∧ Below w.heap.size w w18) := ⟨H17.out.1.below hb, H17.out.2.1.below hb, H17.out.2.2.1.below hb, H17.out.2.2.2.1.below hb, H17.out.2.2.2.2.trans (hb.mono H17.out.2.2.2.2.size)⟩
          clear HLo H17 hb
          have HLo := HLo18
          clear HLo18
          go_wp2_with fail
          refine (len_long HLo.out.1 HLo.out.2).mono ?_
          rintro e w19 ⟨rfl, hb⟩
          have HLo19 : Hid (Row w19 (.slice (some ⟨g5, 0, none⟩) k9 cap5) k9 LL ∧ 8192 < k9) := ⟨HLo.out.1.below hb, HLo.out.2⟩
          have H19 : Hid (Num w19 one (1) ∧ Num w19 (.slice adt i capt) (T) ∧ Num w19 (.slice (some ⟨ga, 0, none⟩) i i) (M) ∧ Num w19 half (H) ∧ Below w.heap.size w w19) := ⟨H18.out.1.below hb, H18.out.2.1.below hb, H18.out.2.2.1.below hb, H18.out.2.2.2.1.below hb, H18.out.2.2.2.2.trans (hb.mono H18.out.2.2.2.2.size)⟩
          clear HLo H18 hb
          have HLo := HLo19
          clear HLo19
          clear HLo
          go_wp2_with fail
          refine (sub_num H19.out.2.2.2.1 H19.out.1 G.out.half1).mono ?_
          rintro e w20 ⟨less, rfl, hr, hb⟩
          have H20 : Hid (Num w20 one (1) ∧ Num w20 (.slice adt i capt) (T) ∧ Num w20 (.slice (some ⟨ga, 0, none⟩) i i) (M) ∧ Num w20 half (H) ∧ Num w20 less (H - 1) ∧ Below w.heap.size w w20) := ⟨H19.out.1.below hb, H19.out.2.1.below hb, H19.out.2.2.1.below hb, H19.out.2.2.2.1.below hb, hr, H19.out.2.2.2.2.trans (hb.mono H19.out.2.2.2.2.size)⟩
          clear H19 hb hr
          go_wp2_with fail
          refine (mul_long H20.out.2.2.2.1 H20.out.2.2.2.1 G.out.halfL).mono ?_
          rintro e w21 ⟨rfl, hb⟩
          have H21 : Hid (Num w21 one (1) ∧ Num w21 (.slice adt i capt) (T) ∧ Num w21 (.slice (some ⟨ga, 0, none⟩) i i) (M) ∧ Num w21 less (H - 1) ∧ Below w.heap.size w w21) := ⟨H20.out.1.below hb, H20.out.2.1.below hb, H20.out.2.2.1.below hb, H20.out.2.2.2.2.1.below hb, H20.out.2.2.2.2.2.trans (hb.mono H20.out.2.2.2.2.2.size)⟩
          clear H20 hb
          go_wp2_with fail
          refine (mul_num H21.out.2.2.2.1 H21.out.2.2.2.1 G.out.lessF).mono ?_
          rintro e w22 ⟨square, rfl, hr, hb⟩
          have H22 : Hid (Num w22 one (1) ∧ Num w22 (.slice adt i capt) (T) ∧ Num w22 (.slice (some ⟨ga, 0, none⟩) i i) (M) ∧ Num w22 less (H - 1) ∧ Num w22 square ((H - 1) * (H - 1)) ∧ Below w.heap.size w w22) := ⟨H21.out.1.below hb, H21.out.2.1.below hb, H21.out.2.2.1.below hb, H21.out.2.2.2.1.below hb, hr, H21.out.2.2.2.2.trans (hb.mono H21.out.2.2.2.2.size)⟩
          clear H21 hb hr
          go_wp2_with fail
          refine (num_below 21 _).mono ?_
          rintro e w23 ⟨rfl, hb⟩
          have H23 : Hid (Num w23 one (1) ∧ Num w23 (.slice adt i capt) (T) ∧ Num w23 (.slice (some ⟨ga, 0, none⟩) i i) (M) ∧ Num w23 less (H - 1) ∧ Num w23 square ((H - 1) * (H - 1)) ∧ Below w.heap.size w w23) := ⟨H22.out.1.below hb, H22.out.2.1.below hb, H22.out.2.2.1.below hb, H22.out.2.2.2.1.below hb, H22.out.2.2.2.2.1.below hb, H22.out.2.2.2.2.2.trans (hb.mono H22.out.2.2.2.2.2.size)⟩
          clear H22 hb
          go_wp2_with fail
          refine (from_num 2 _ (by omega)).mono ?_
          rintro e w24 ⟨two, rfl, hr, hb⟩
          have H24 : Hid (Num w24 one (1) ∧ Num w24 (.slice adt i capt) (T) ∧ Num w24 (.slice (some ⟨ga, 0, none⟩) i i) (M) ∧ Num w24 less (H - 1) ∧ Num w24 square ((H - 1) * (H - 1)) ∧ Num w24 two (2) ∧ Below w.heap.size w w24) := ⟨H23.out.1.below hb, H23.out.2.1.below hb, H23.out.2.2.1.below hb, H23.out.2.2.2.1.below hb, H23.out.2.2.2.2.1.below hb, hr, H23.out.2.2.2.2.2.trans (hb.mono H23.out.2.2.2.2.2.size)⟩
          clear H23 hb hr
          go_wp2_with fail
          refine (mul_num H24.out.2.2.2.1 H24.out.2.2.2.2.2.1 G.out.twoF).mono ?_
          rintro e w25 ⟨m2, rfl, hr, hb⟩
          have H25 : Hid (Num w25 one (1) ∧ Num w25 (.slice adt i capt) (T) ∧ Num w25 (.slice (some ⟨ga, 0, none⟩) i i) (M) ∧ Num w25 square ((H - 1) * (H - 1)) ∧ Num w25 m2 ((H - 1) * 2) ∧ Below w.heap.size w w25) := ⟨H24.out.1.below hb, H24.out.2.1.below hb, H24.out.2.2.1.below hb, H24.out.2.2.2.2.1.below hb, hr, H24.out.2.2.2.2.2.2.trans (hb.mono H24.out.2.2.2.2.2.2.size)⟩
          clear H24 hb hr
          go_wp2_with fail
          refine (sub_num H25.out.2.2.2.2.1 H25.out.1 G.out.one2).mono ?_
          rintro e w26 ⟨m3, rfl, hr, hb⟩
          have H26 : Hid (Num w26 one (1) ∧ Num w26 (.slice adt i capt) (T) ∧ Num w26 (.slice (some ⟨ga, 0, none⟩) i i) (M) ∧ Num w26 square ((H - 1) * (H - 1)) ∧ Num w26 m3 (((H - 1) * 2) - 1) ∧ Below w.heap.size w w26) := ⟨H25.out.1.below hb, H25.out.2.1.below hb, H25.out.2.2.1.below hb, H25.out.2.2.2.1.below hb, hr, H25.out.2.2.2.2.2.trans (hb.mono H25.out.2.2.2.2.2.size)⟩
          clear H25 hb hr
          go_wp2_with fail
          refine (add_num H26.out.2.2.2.1 H26.out.2.2.2.2.1 G.out.sumF).mono ?_
          rintro e w27 ⟨m4, rfl, hr, hb⟩
          have H27 : Hid (Num w27 one (1) ∧ Num w27 (.slice adt i capt) (T) ∧ Num w27 (.slice (some ⟨ga, 0, none⟩) i i) (M) ∧ Num w27 m4 ((H - 1) * (H - 1) + (((H - 1) * 2) - 1)) ∧ Below w.heap.size w w27) := ⟨H26.out.1.below hb, H26.out.2.1.below hb, H26.out.2.2.1.below hb, hr, H26.out.2.2.2.2.2.trans (hb.mono H26.out.2.2.2.2.2.size)⟩
          clear H26 hb hr
          go_wp2_with fail
          refine (sub_num H27.out.2.2.1 H27.out.1 G.out.all1).mono ?_
          rintro e w28 ⟨m5, rfl, hr, hb⟩
          have H28 : Hid (Num w28 one (1) ∧ Num w28 (.slice adt i capt) (T) ∧ Num w28 (.slice (some ⟨ga, 0, none⟩) i i) (M) ∧ Num w28 m4 ((H - 1) * (H - 1) + (((H - 1) * 2) - 1)) ∧ Num w28 m5 (M - 1) ∧ Below w.heap.size w w28) := ⟨H27.out.1.below hb, H27.out.2.1.below hb, H27.out.2.2.1.below hb, H27.out.2.2.2.1.below hb, hr, H27.out.2.2.2.2.trans (hb.mono H27.out.2.2.2.2.size)⟩
          clear H27 hb hr
          go_wp2_with fail
          refine (eq_true H28.out.2.2.2.1 H28.out.2.2.2.2.1 G.out.same).mono ?_
          rintro e w29 ⟨rfl, hb⟩
          have H29 : Hid (Num w29 one (1) ∧ Num w29 (.slice adt i capt) (T) ∧ Num w29 (.slice (some ⟨ga, 0, none⟩) i i) (M) ∧ Below w.heap.size w w29) := ⟨H28.out.1.below hb, H28.out.2.1.below hb, H28.out.2.2.1.below hb, H28.out.2.2.2.2.2.trans (hb.mono H28.out.2.2.2.2.2.size)⟩
          clear H28 hb
          go_wp2_with fail
          refine (nat_num H29.out.2.2.1 200 (by omega) G.out.few).mono ?_
          rintro e w30 ⟨few, rfl, hr, hb⟩
          have H30 : Hid (Num w30 one (1) ∧ Num w30 (.slice adt i capt) (T) ∧ Num w30 (.slice (some ⟨ga, 0, none⟩) i i) (M) ∧ Num w30 few (F) ∧ Below w.heap.size w w30) := ⟨H29.out.1.below hb, H29.out.2.1.below hb, H29.out.2.2.1.below hb, hr, H29.out.2.2.2.trans (hb.mono H29.out.2.2.2.size)⟩
          clear H29 hb hr
          go_wp2_with fail
          refine (nat_num H30.out.2.2.1 100 (by omega) G.out.mid).mono ?_
          rintro e w31 ⟨mid, rfl, hr, hb⟩
          have H31 : Hid (Num w31 one (1) ∧ Num w31 (.slice adt i capt) (T) ∧ Num w31 (.slice (some ⟨ga, 0, none⟩) i i) (M) ∧ Num w31 few (F) ∧ Num w31 mid (D) ∧ Below w.heap.size w w31) := ⟨H30.out.1.below hb, H30.out.2.1.below hb, H30.out.2.2.1.below hb, H30.out.2.2.2.1.below hb, hr, H30.out.2.2.2.2.trans (hb.mono H30.out.2.2.2.2.size)⟩
          clear H30 hb hr
          go_wp2_with fail
          refine (root_is H31.out.2.2.2.1 G.out.root false G.out.rootX).mono ?_
          rintro e w32 ⟨r, rfl, hr, hb⟩
          have H32 : Hid (Num w32 one (1) ∧ Num w32 (.slice adt i capt) (T) ∧ Num w32 (.slice (some ⟨ga, 0, none⟩) i i) (M) ∧ Num w32 few (F) ∧ Num w32 mid (D) ∧ Num w32 r (D) ∧ Below w.heap.size w w32) := ⟨H31.out.1.below hb, H31.out.2.1.below hb, H31.out.2.2.1.below hb, H31.out.2.2.2.1.below hb, H31.out.2.2.2.2.1.below hb, hr, H31.out.2.2.2.2.2.trans (hb.mono H31.out.2.2.2.2.2.size)⟩
          clear H31 hb hr
          go_wp2_with fail
          refine (num_below 0 _).mono ?_
          rintro e w33 ⟨rfl, hb⟩
          have H33 : Hid (Num w33 one (1) ∧ Num w33 (.slice adt i capt) (T) ∧ Num w33 (.slice (some ⟨ga, 0, none⟩) i i) (M) ∧ Num w33 few (F) ∧ Num w33 mid (D) ∧ Num w33 r (D) ∧ Below w.heap.size w w33) := ⟨H32.out.1.below hb, H32.out.2.1.below hb, H32.out.2.2.1.below hb, H32.out.2.2.2.1.below hb, H32.out.2.2.2.2.1.below hb, H32.out.2.2.2.2.2.1.below hb, H32.out.2.2.2.2.2.2.trans (hb.mono H32.out.2.2.2.2.2.2.size)⟩
          clear H32 hb
          go_wp2_with fail
          refine (eq_true H33.out.2.2.2.2.2.1 H33.out.2.2.2.2.1 rfl).mono ?_
          rintro e w34 ⟨rfl, hb⟩
          have H34 : Hid (Num w34 one (1) ∧ Num w34 (.slice adt i capt) (T) ∧ Num w34 (.slice (some ⟨ga, 0, none⟩) i i) (M) ∧ Num w34 few (F) ∧ Num w34 mid (D) ∧ Below w.heap.size w w34) := ⟨H33.out.1.below hb, H33.out.2.1.below hb, H33.out.2.2.1.below hb, H33.out.2.2.2.1.below hb, H33.out.2.2.2.2.1.below hb, H33.out.2.2.2.2.2.2.trans (hb.mono H33.out.2.2.2.2.2.2.size)⟩
          clear H33 hb
          go_wp2_with fail
          refine (divmod_is H34.out.2.2.2.1 H34.out.2.2.2.2.1 G.out.mid1 G.out.quo G.out.rem).mono ?_
          rintro e w35 ⟨q, rest, rfl, hq, hr, hb⟩
          have H35 : Hid (Num w35 one (1) ∧ Num w35 (.slice adt i capt) (T) ∧ Num w35 (.slice (some ⟨ga, 0, none⟩) i i) (M) ∧ Num w35 mid (D) ∧ Num w35 q (D + 2) ∧ Num w35 rest (0) ∧ Below w.heap.size w w35) := ⟨H34.out.1.below hb, H34.out.2.1.below hb, H34.out.2.2.1.below hb, H34.out.2.2.2.2.1.below hb, hq, hr, H34.out.2.2.2.2.2.trans (hb.mono H34.out.2.2.2.2.2.size)⟩
          clear H34 hb hr
          clear hq
          obtain ⟨adr, kr, capr, rfl, hkr, hlr⟩ := num_len H35.out.2.2.2.2.2.1
          have HKr := hide hkr
          clear hkr
          have hz : kr = 0 := HKr.out.2 rfl
          subst hz
          go_wp2_with fail
          refine (num_below 0 _).mono ?_
          rintro e w36 ⟨rfl, hb⟩
          have H36 : Hid (Num w36 one (1) ∧ Num w36 (.slice adt i capt) (T) ∧ Num w36 (.slice (some ⟨ga, 0, none⟩) i i) (M) ∧ Num w36 mid (D) ∧ Num w36 q (D + 2) ∧ Below w.heap.size w w36) := ⟨H35.out.1.below hb, H35.out.2.1.below hb, H35.out.2.2.1.below hb, H35.out.2.2.2.1.below hb, H35.out.2.2.2.2.1.below hb, H35.out.2.2.2.2.2.2.trans (hb.mono H35.out.2.2.2.2.2.2.size)⟩
          clear H35 hb
          go_wp2_with fail
          refine (from_num 2 _ (by omega)).mono ?_
          rintro e w37 ⟨two2, rfl, hr, hb⟩
          have H37 : Hid (Num w37 one (1) ∧ Num w37 (.slice adt i capt) (T) ∧ Num w37 (.slice (some ⟨ga, 0, none⟩) i i) (M) ∧ Num w37 mid (D) ∧ Num w37 q (D + 2) ∧ Num w37 two2 (2) ∧ Below w.heap.size w w37) := ⟨H36.out.1.below hb, H36.out.2.1.below hb, H36.out.2.2.1.below hb, H36.out.2.2.2.1.below hb, H36.out.2.2.2.2.1.below hb, hr, H36.out.2.2.2.2.2.trans (hb.mono H36.out.2.2.2.2.2.size)⟩
          clear H36 hb hr
          go_wp2_with fail
          refine (add_num H37.out.2.2.2.1 H37.out.2.2.2.2.2.1 G.out.midF).mono ?_
          rintro e w38 ⟨m6, rfl, hr, hb⟩
          have H38 : Hid (Num w38 one (1) ∧ Num w38 (.slice adt i capt) (T) ∧ Num w38 (.slice (some ⟨ga, 0, none⟩) i i) (M) ∧ Num w38 q (D + 2) ∧ Num w38 m6 (D + 2) ∧ Below w.heap.size w w38) := ⟨H37.out.1.below hb, H37.out.2.1.below hb, H37.out.2.2.1.below hb, H37.out.2.2.2.2.1.below hb, hr, H37.out.2.2.2.2.2.2.trans (hb.mono H37.out.2.2.2.2.2.2.size)⟩
          clear H37 hb hr
          go_wp2_with fail
          refine (eq_true H38.out.2.2.2.1 H38.out.2.2.2.2.1 rfl).mono ?_
          rintro e w39 ⟨rfl, hb⟩
          have H39 : Hid (Num w39 one (1) ∧ Num w39 (.slice adt i capt) (T) ∧ Num w39 (.slice (some ⟨ga, 0, none⟩) i i) (M) ∧ Below w.heap.size w w39) := ⟨H38.out.1.below hb, H38.out.2.1.below hb, H38.out.2.2.1.below hb, H38.out.2.2.2.2.2.trans (hb.mono H38.out.2.2.2.2.2.size)⟩
          clear H38 hb
          obtain ⟨Lb, hLb⟩ : ∃ Lb, (n2 + 7) / 8 = Lb := ⟨_, rfl⟩
          have hLb2 : (Lb : Int) = 32768 := by omega
          have HLb : Hid ((bitLen M + 7) / 8 = Lb ∧ Lb = 32768) := ⟨by rw [G.out.allB]; exact hLb, by omega⟩
          clear hLb
          go_wp2_with fail
          refine (bytes_num H39.out.2.2.1 HLb.out.1).mono ?_
          rintro e w40 ⟨gb, rfl, hby, hb⟩
          have H40 : Hid (Num w40 one (1) ∧ Num w40 (.slice adt i capt) (T) ∧ Num w40 (.slice (some ⟨ga, 0, none⟩) i i) (M) ∧ Below w.heap.size w w40) := ⟨H39.out.1.below hb, H39.out.2.1.below hb, H39.out.2.2.1.below hb, H39.out.2.2.2.trans (hb.mono H39.out.2.2.2.size)⟩
          have HBy := hide hby
          clear H39 hb hby
          go_wp2_with fail
          refine (ofbytes_num HBy.out HLb.out.1 (by have := HLb.out.2; omega)).mono ?_
          rintro e w41 ⟨x, rfl, hr, hb⟩
          have HBy41 : Hid (RowB w41 (.slice (some ⟨gb, 0, none⟩) Lb Lb) Lb M) := HBy.out.below hb
          have H41 : Hid (Num w41 one (1) ∧ Num w41 (.slice adt i capt) (T) ∧ Num w41 (.slice (some ⟨ga, 0, none⟩) i i) (M) ∧ Num w41 x (M) ∧ Below w.heap.size w w41) := ⟨H40.out.1.below hb, H40.out.2.1.below hb, H40.out.2.2.1.below hb, hr, H40.out.2.2.2.trans (hb.mono H40.out.2.2.2.size)⟩
          clear HBy H40 hb hr
          have HBy := HBy41
          clear HBy41
          have HE2 : Hid ((w41.alloc (.cells #[.int .u8 1] 5)).ownsRow w41.heap.size 5 1 (.slice (some ⟨w41.heap.size, 0, none⟩) 1 1) 1 [.int .u8 1]) := ⟨rfl, .inr ⟨w41.heap.size, 1, #[.int .u8 1], rfl, Nat.le_refl _, heap_alloc_new w41 _, Nat.le_refl _, by unfold maxLen; omega, rfl, rfl⟩⟩
          have HBA : Hid (Below w41.heap.size w41 (w41.alloc (.cells #[.int .u8 1] 5))) := (Below.refl _ _).alloc (Nat.le_refl _) _
          obtain ⟨i8, hi8⟩ := info8
          have Hi8 := hide hi8
          clear hi8
          go_wp2_with (at_builtin; refine wpList_append_lies _ rfl _ _ _ rfl w41.heap.size 5 i8 (.int .u8 0) 1 1 Try.underlying43 Hi8.out.1 Hi8.out.2.1 Hi8.out.2.2.1 Hi8.out.2.2.2 rfl (by decide) _ 1 [.int .u8 1] rfl HE2.out ⟨gb, 0, none⟩ Lb Lb (dbsV Lb M) rfl (by rw [dbsV_length, Nat.mul_one]) (dbsV_cells (HBy.out.below HBA.out)) (dbsV_one Lb M) (by omega) (by unfold maxLen; omega) (by omega) HBA.out.size _ rfl ?d8)
          case d8 =>
            intro g6 cap6 wd ho6 hg6 _ _
            have hb : Below w41.heap.size w41 wd := HBA.out.trans (grown_below hg6 (fun g hg => (HE2.out.lt g hg).1) HBA.out.size)
            obtain ⟨L9, h9⟩ : ∃ L9, 1 + Lb = L9 := ⟨_, rfl⟩
            have HL9 : Hid (wd.cell? ⟨g6, 0, none⟩ = some (.int .u8 ((1 : Nat) : Int)) ∧ 32768 < L9 ∧ L9 ≤ 9223372036854775807) := ⟨owns_cell ho6 rfl, by omega, by omega⟩
            rw [h9]
            have H42 : Hid (Num wd one (1) ∧ Num wd (.slice adt i capt) (T) ∧ Num wd (.slice (some ⟨ga, 0, none⟩) i i) (M) ∧ Num wd x (M) ∧ Below w.heap.size w wd) := ⟨H41.out.1.below hb, H41.out.2.1.below hb, H41.out.2.2.1.below hb, H41.out.2.2.2.1.below hb, H41.out.2.2.2.2.trans (hb.mono H41.out.2.2.2.2.size)⟩
            clear ho6 hg6 hb HBA HE2 H41 h9 HBy hLb2
            go_wp2_with fail
            refine (ofbytes_long g6 0 L9 cap6 1 _ HL9.out.2.1 HL9.out.2.2 HL9.out.1 rfl).mono ?_
            rintro e w43 ⟨rfl, hb⟩
            have H43 : Hid (Num w43 one (1) ∧ Num w43 (.slice adt i capt) (T) ∧ Num w43 (.slice (some ⟨ga, 0, none⟩) i i) (M) ∧ Num w43 x (M) ∧ Below w.heap.size w w43) := ⟨H42.out.1.below hb, H42.out.2.1.below hb, H42.out.2.2.1.below hb, H42.out.2.2.2.1.below hb, H42.out.2.2.2.2.trans (hb.mono H42.out.2.2.2.2.size)⟩
            clear H42 hb
            clear HL9
            go_wp2_with fail
            refine (num_below 0 _).mono ?_
            rintro e w44 ⟨rfl, hb⟩
            have H44 : Hid (Num w44 one (1) ∧ Num w44 (.slice adt i capt) (T) ∧ Num w44 (.slice (some ⟨ga, 0, none⟩) i i) (M) ∧ Num w44 x (M) ∧ Below w.heap.size w w44) := ⟨H43.out.1.below hb, H43.out.2.1.below hb, H43.out.2.2.1.below hb, H43.out.2.2.2.1.below hb, H43.out.2.2.2.2.trans (hb.mono H43.out.2.2.2.2.size)⟩
            clear H43 hb
            go_wp2_with fail
            refine (eq_true H44.out.2.2.2.1 H44.out.2.2.1 rfl).mono ?_
            rintro e w45 ⟨rfl, hb⟩
            have H45 : Hid (Num w45 one (1) ∧ Num w45 (.slice adt i capt) (T) ∧ Num w45 (.slice (some ⟨ga, 0, none⟩) i i) (M) ∧ Below w.heap.size w w45) := ⟨H44.out.1.below hb, H44.out.2.1.below hb, H44.out.2.2.1.below hb, H44.out.2.2.2.2.trans (hb.mono H44.out.2.2.2.2.size)⟩
            clear H44 hb
            go_wp2_with fail
            refine (num_below 21 _).mono ?_
            rintro e w46 ⟨rfl, hb⟩
            have H46 : Hid (Num w46 one (1) ∧ Num w46 (.slice adt i capt) (T) ∧ Num w46 (.slice (some ⟨ga, 0, none⟩) i i) (M) ∧ Below w.heap.size w w46) := ⟨H45.out.1.below hb, H45.out.2.1.below hb, H45.out.2.2.1.below hb, H45.out.2.2.2.trans (hb.mono H45.out.2.2.2.size)⟩
            clear H45 hb
            go_wp2_with fail
            refine (Text_ok H46.out.2.2.1).mono ?_
            rintro e w47 ⟨L, rfl, hd, hb⟩
            have H47 : Hid (Num w47 one (1) ∧ Num w47 (.slice adt i capt) (T) ∧ Num w47 (.slice (some ⟨ga, 0, none⟩) i i) (M) ∧ Below w.heap.size w w47) := ⟨H46.out.1.below hb, H46.out.2.1.below hb, H46.out.2.2.1.below hb, H46.out.2.2.2.trans (hb.mono H46.out.2.2.2.size)⟩
            have HD : Hid (Dec0 L M ∧ L ≤ 10 * i + 1 ∧ Dec0 (L + 1) (M * 10)) := ⟨hd, dec_bound hd G.out.allN.1, dec_ten hd G.out.pos⟩
            clear H46 hb hd
            go_wp2_with fail
            refine (oftext_num _ HD.out.1 (by have := HD.out.2.1; omega) G.out.allF).mono ?_
            rintro e w48 ⟨y, rfl, hr, hb⟩
            have H48 : Hid (Num w48 one (1) ∧ Num w48 (.slice adt i capt) (T) ∧ Num w48 (.slice (some ⟨ga, 0, none⟩) i i) (M) ∧ Num w48 y (M) ∧ Below w.heap.size w w48) := ⟨H47.out.1.below hb, H47.out.2.1.below hb, H47.out.2.2.1.below hb, hr, H47.out.2.2.2.trans (hb.mono H47.out.2.2.2.size)⟩
            clear H47 hb hr
            have HTen := hide (txt_ten M L)
            obtain ⟨sa, hsa⟩ : ∃ sa, strOf (txt L M) = sa := ⟨_, rfl⟩
            obtain ⟨sb, hsb⟩ : ∃ sb, strOf (txt (L + 1) (M * 10)) = sb := ⟨_, rfl⟩
            have HOf : Hid (∀ w, Calls Try.prog 18 #[.string sb] w fun e w' => e = .returned (.tuple #[.slice none 0 0, .int .i64 21]) ∧ Below w.heap.size w w') := fun w => by rw [← hsb]; exact oftext_long w HD.out.2.2 (by have := HD.out.2.1; omega) G.out.ten
            have hcat : sa ++ ⟨#[48]⟩ = sb := by rw [← hsa, ← hsb]; exact HTen.out
            have hsz : sa.size = L := by rw [← hsa, strOf_size, txt_length]
            have hLL : L ≤ 81921 := by have := HD.out.2.1; omega
            rw [hsa]
            clear hsa hsb HTen HD
            go_wp2_with fail
            refine (HOf.out _).mono ?_
            rintro e w49 ⟨rfl, hb⟩
            have H49 : Hid (Num w49 one (1) ∧ Num w49 (.slice adt i capt) (T) ∧ Num w49 (.slice (some ⟨ga, 0, none⟩) i i) (M) ∧ Num w49 y (M) ∧ Below w.heap.size w w49) := ⟨H48.out.1.below hb, H48.out.2.1.below hb, H48.out.2.2.1.below hb, H48.out.2.2.2.1.below hb, H48.out.2.2.2.2.trans (hb.mono H48.out.2.2.2.2.size)⟩
            clear H48 hb
            clear HOf hcat
            go_wp2_with fail
            refine (power_two_long 262144 HI.out.2.1 (Nat.le_of_lt_succ HI.out.2.2.2.2.1) G.out.over2).mono ?_
            rintro e w50 ⟨rfl, hb⟩
            have H50 : Hid (Num w50 one (1) ∧ Num w50 (.slice adt i capt) (T) ∧ Num w50 (.slice (some ⟨ga, 0, none⟩) i i) (M) ∧ Num w50 y (M) ∧ Below w.heap.size w w50) := ⟨H49.out.1.below hb, H49.out.2.1.below hb, H49.out.2.2.1.below hb, H49.out.2.2.2.1.below hb, H49.out.2.2.2.2.trans (hb.mono H49.out.2.2.2.2.size)⟩
            clear H49 hb
            go_wp2_with fail
            refine (power_two 262143 HI.out.1 (Nat.le_of_lt_succ HI.out.2.2.2.1) G.out.top2 G.out.topF).mono ?_
            rintro e w51 ⟨p, rfl, hr, hb⟩
            have H51 : Hid (Num w51 one (1) ∧ Num w51 (.slice adt i capt) (T) ∧ Num w51 (.slice (some ⟨ga, 0, none⟩) i i) (M) ∧ Num w51 y (M) ∧ Num w51 p (T) ∧ Below w.heap.size w w51) := ⟨H50.out.1.below hb, H50.out.2.1.below hb, H50.out.2.2.1.below hb, H50.out.2.2.2.1.below hb, hr, H50.out.2.2.2.2.trans (hb.mono H50.out.2.2.2.2.size)⟩
            clear H50 hb hr
            go_wp2_with fail
            refine (num_below 0 _).mono ?_
            rintro e w52 ⟨rfl, hb⟩
            have H52 : Hid (Num w52 one (1) ∧ Num w52 (.slice adt i capt) (T) ∧ Num w52 (.slice (some ⟨ga, 0, none⟩) i i) (M) ∧ Num w52 y (M) ∧ Num w52 p (T) ∧ Below w.heap.size w w52) := ⟨H51.out.1.below hb, H51.out.2.1.below hb, H51.out.2.2.1.below hb, H51.out.2.2.2.1.below hb, H51.out.2.2.2.2.1.below hb, H51.out.2.2.2.2.2.trans (hb.mono H51.out.2.2.2.2.2.size)⟩
            clear H51 hb
            go_wp2_with fail
            refine (eq_true H52.out.2.2.2.1 H52.out.2.2.1 rfl).mono ?_
            rintro e w53 ⟨rfl, hb⟩
            have H53 : Hid (Num w53 one (1) ∧ Num w53 (.slice adt i capt) (T) ∧ Num w53 (.slice (some ⟨ga, 0, none⟩) i i) (M) ∧ Num w53 y (M) ∧ Num w53 p (T) ∧ Below w.heap.size w w53) := ⟨H52.out.1.below hb, H52.out.2.1.below hb, H52.out.2.2.1.below hb, H52.out.2.2.2.1.below hb, H52.out.2.2.2.2.1.below hb, H52.out.2.2.2.2.2.trans (hb.mono H52.out.2.2.2.2.2.size)⟩
            clear H52 hb
            go_wp2_with fail
            refine (num_below 21 _).mono ?_
            rintro e w54 ⟨rfl, hb⟩
            have H54 : Hid (Num w54 one (1) ∧ Num w54 (.slice adt i capt) (T) ∧ Num w54 (.slice (some ⟨ga, 0, none⟩) i i) (M) ∧ Num w54 y (M) ∧ Num w54 p (T) ∧ Below w.heap.size w w54) := ⟨H53.out.1.below hb, H53.out.2.1.below hb, H53.out.2.2.1.below hb, H53.out.2.2.2.1.below hb, H53.out.2.2.2.2.1.below hb, H53.out.2.2.2.2.2.trans (hb.mono H53.out.2.2.2.2.2.size)⟩
            clear H53 hb
            go_wp2_with fail
            refine (num_below 21 _).mono ?_
            rintro e w55 ⟨rfl, hb⟩
            have H55 : Hid (Num w55 one (1) ∧ Num w55 (.slice adt i capt) (T) ∧ Num w55 (.slice (some ⟨ga, 0, none⟩) i i) (M) ∧ Num w55 y (M) ∧ Num w55 p (T) ∧ Below w.heap.size w w55) := ⟨H54.out.1.below hb, H54.out.2.1.below hb, H54.out.2.2.1.below hb, H54.out.2.2.2.1.below hb, H54.out.2.2.2.2.1.below hb, H54.out.2.2.2.2.2.trans (hb.mono H54.out.2.2.2.2.2.size)⟩
            clear H54 hb
            go_wp2_with fail
            refine (num_below 0 _).mono ?_
            rintro e w56 ⟨rfl, hb⟩
            have H56 : Hid (Num w56 one (1) ∧ Num w56 (.slice adt i capt) (T) ∧ Num w56 (.slice (some ⟨ga, 0, none⟩) i i) (M) ∧ Num w56 y (M) ∧ Num w56 p (T) ∧ Below w.heap.size w w56) := ⟨H55.out.1.below hb, H55.out.2.1.below hb, H55.out.2.2.1.below hb, H55.out.2.2.2.1.below hb, H55.out.2.2.2.2.1.below hb, H55.out.2.2.2.2.2.trans (hb.mono H55.out.2.2.2.2.2.size)⟩
            clear H55 hb
            go_wp2_with fail
            refine (eq_true H56.out.2.2.2.2.1 H56.out.2.1 rfl).mono ?_
            rintro e w57 ⟨rfl, hb⟩
            have H57 : Hid (Num w57 one (1) ∧ Num w57 (.slice adt i capt) (T) ∧ Num w57 (.slice (some ⟨ga, 0, none⟩) i i) (M) ∧ Num w57 y (M) ∧ Num w57 p (T) ∧ Below w.heap.size w w57) := ⟨H56.out.1.below hb, H56.out.2.1.below hb, H56.out.2.2.1.below hb, H56.out.2.2.2.1.below hb, H56.out.2.2.2.2.1.below hb, H56.out.2.2.2.2.2.trans (hb.mono H56.out.2.2.2.2.2.size)⟩
            clear H56 hb
            go_wp2_with fail
            refine (wakes_any _).mono ?_
            rintro e w58 ⟨rfl, hb⟩
            have H58 : Hid (Num w58 one (1) ∧ Num w58 (.slice adt i capt) (T) ∧ Num w58 (.slice (some ⟨ga, 0, none⟩) i i) (M) ∧ Num w58 y (M) ∧ Num w58 p (T) ∧ Below w.heap.size w w58) := ⟨H57.out.1.below hb, H57.out.2.1.below hb, H57.out.2.2.1.below hb, H57.out.2.2.2.1.below hb, H57.out.2.2.2.2.1.below hb, H57.out.2.2.2.2.2.trans (hb.mono H57.out.2.2.2.2.2.size)⟩
            clear H57 hb
            go_wp2_with fail
            go_ret
            exact ⟨rfl, H58.out.2.2.2.2.2⟩

end Go.Proofs.Ytfbkdjghbgdgpab

/- The contract of Stride's unpacking (64 bits). -/
import Derived.Test.YtpdaklklhoenhaaGreatDoorC3H64
import Derived.Test.YtpdaklklhoenhaaGreatDoorC2C64
import Derived.Test.YtpdaklklhoenhaaGreatDoorC1S64
import Derived.Test.YtpdaklklhoenhaaGreatDoorC3C64
import Derived.Test.YtpdaklklhoenhaaGreatDoorB1I
import Derived.Test.YtpdaklklhoenhaaGreatDoorC1U64
import Derived.Test.YtpdaklklhoenhaaGreatDoorC2A
/- The contract of Runs' unpacking (64 bits). -/
namespace Go.Proofs.YtpdaklklhoenhaaGreatDoor
open Go.RowKit
open M
set_option linter.unusedVariables false
set_option linter.unusedSimpArgs false

/-- k of n values are taken. -/
structure Rn64 (w wr : World) (b : Nat) (s : ByteArray) (n k a : Nat) (e1 : Int) (f : Nat → Nat) (v : Value) : Prop where
  own : wr.ownsRow (b + 1) 41 1 v k (valsV64 k f)
  rd : Rd wr b 0 s a e1
  bel : Below b w wr
  size : b + 1 ≤ wr.heap.size
  rng : ∀ i, i < k → f i < 18446744073709551616
  full : ∀ h : Nat → Nat, (∀ i, i < n → h i < 18446744073709551616) → (∃ r, rb s = rnB 64 h n 0 n ++ r) → e1 = 0 ∧ (∃ r, (rb s).drop a = rnB 64 h (n - k) k (n - k) ++ r) ∧ ∀ i, i < k → f i = h i

theorem rn_head64 (h : Nat → Nat) (n k : Nat) (hk : k < n) : ∃ A, 0 < A ∧ A ≤ n - k ∧ (∀ i, i < A → h (k + i) = h k) ∧ rnB 64 h (n - k) k (n - k) = bitsOf (h k) 64 ++ (varB (A - 1) ++ rnB 64 h (n - (k + A)) (k + A) (n - (k + A))) := by
  obtain ⟨m, hm⟩ : ∃ m, n - k = m + 1 := ⟨n - k - 1, by omega⟩
  rw [hm]
  have h1 := aheadOf_pos h k m
  have h2 := aheadOf_le h (h k) k (m + 1)
  refine ⟨aheadOf h (h k) k (m + 1), h1, h2, fun i hi => aheadOf_eq h (h k) k (m + 1) i hi, ?_⟩
  conv => lhs; rw [rnB]
  rw [List.append_assoc, show n - (k + aheadOf h (h k) k (m + 1)) = m + 1 - aheadOf h (h k) k (m + 1) from by omega, rnB_enough 64 h m (m + 1 - aheadOf h (h k) k (m + 1)) _ _ (by omega) (Nat.le_refl _)]

set_option maxRecDepth 100000 in
set_option maxHeartbeats 1000000 in
theorem unpackRuns64_any (u : Value) (bs : List Nat) (n : Nat) (w : World) (h : IsBy w u bs) (hb : ∀ n ∈ bs, n < 256) (hl : bs.length ≤ 1000000000000) (hn : n ≤ 4096) :
    Calls Tryz.prog 121 #[u, .int .i64 n] w (UnEnd64 (fun f => some (rnB 64 f n 0 n)) bs n w) := by
  have H := hide h
  have HB := hide hb
  have HL := hide hl
  have hmk := make_room64 n hn
  clear h hb hl
  go_enter Tryz.func121, Tryz.ntmps121
  go_wp2_with fail
  refine (from_by w u bs H.out).mono ?_
  rintro e w1 ⟨rfl, hw1⟩
  have HR : Hid (Rd w1 w.heap.size 0 (strOf bs) 0 0 ∧ w1.heap.size = w.heap.size + 1 ∧ Below w.heap.size w w1) := by
    rw [hw1]; exact ⟨rd_new w bs HL.out, by simp, (Below.refl _ _).alloc (Nat.le_refl _) _⟩
  clear hw1
  obtain ⟨b, hbw⟩ : ∃ b, w.heap.size = b := ⟨_, rfl⟩
  have HBW := hide hbw
  obtain ⟨g, hg⟩ : ∃ g, w1.heap.size = g := ⟨_, rfl⟩
  have HA : Hid (Rn64 w (w1.alloc (.cells (Array.replicate n (Value.int .u64 0)) 41)) b (strOf bs) n 0 0 0 (fun _ => 0) (.slice (some ⟨g, 0, none⟩) 0 n)) := by
    have hA : Below w1.heap.size w1 (w1.alloc (.cells (Array.replicate n (Value.int .u64 0)) 41)) := (Below.refl _ w1).alloc (Nat.le_refl _) _
    have hs := HR.out.2.1
    refine ⟨?_, by rw [← hbw]; exact HR.out.1.below hA (by omega), (by rw [← hbw]; exact HR.out.2.2.trans (hA.mono (by omega))), by simp; omega, fun i hi => by omega, fun h hr hB => ⟨rfl, by simpa using hB, fun i hi => by omega⟩⟩
    rw [← hg]
    exact World.ownsRow_made w1 _ n (by omega) (by have : maxLen = 9223372036854775807 := rfl; omega) (by simp)
  rw [hbw]
  clear hbw
  go_upto_region 3 with fail
  (try rw [hg])
  clear hg hmk
  generalize w1.alloc (.cells (Array.replicate n (Value.int .u64 0)) 41) = W0 at *
  have HU : Hid ((∀ h, LayC64 (fun f => some (rnB 64 f n 0 n)) bs n h → 0 < n → (∀ i, i < n → h i < 18446744073709551616) ∧ ∃ r, rb (strOf bs) = rnB 64 h n 0 n ++ r)) := fun h hL h0 => by
    obtain ⟨l, r, q1, q2⟩ := hL.2.2 h0
    simp only [Option.some.injEq] at q1
    exact ⟨hL.1, r, by rw [rb_strOf bs HB.out, q1]; exact q2⟩
  go_loopw [7] (fun t7 wr => ∃ (k a : Nat) (e1 : Int) (f : Nat → Nat) (p : Option Addr) (cp : Nat), t7 = .slice p k cp ∧ Hid (k ≤ n ∧ Rn64 w wr b (strOf bs) n k a e1 f (.slice p k cp))) (fun t7 _ => n - sliceLen64 t7)
  case atStart => exact ⟨0, 0, 0, _, _, _, rfl, Nat.zero_le _, HA.out⟩
  case round =>
    obtain ⟨k, a, e1, f, p, cp, rfl, hI⟩ := hrel
    by_cases hlt : k < n
    · obtain ⟨i5, Hi⟩ := info64
      have HI5 := hide Hi
      clear Hi
      go_wp2_with fail
      refine (takeValue64_any b 0 (strOf bs) a e1 wr hI.out.2.rd).mono ?_
      rintro e w2 ⟨x, a2, e2, rfl, hx, T⟩
      have HK2 : Hid (Hk (fun y => bitsOf y 64) (fun y => y < 2 ^ 64) wr w2 b 0 (strOf bs) a e1 x a2 e2) := hk_of_tk hI.out.2.rd.le hx T
      clear T
      go_wp2_with fail
      refine (hk_var b 0 (strOf bs) a2 e2 w2 HK2.out.rd).mono ?_
      rintro e w3 ⟨y, a3, e3, rfl, hy, T3⟩
      have HK3 := hide T3
      clear T3
      have HO : Hid (Only b 0 3 wr w3 ∧ w3.ownsRow (b + 1) 41 1 (.slice p k cp) k (valsV64 k f) ∧ Below b w w3 ∧ b + 1 ≤ w3.heap.size) := by
        have h1 := HK2.out.only.trans HK3.out.only
        have h2 := hI.out.2
        have h3 := h1.size
        have h4 := h2.size
        exact ⟨h1, ownsRow_keepC64 h2.own (fun g hg1 hg2 => h1.block g hg2 (by omega)), h2.bel.trans (h1.below (Nat.le_refl _) (by omega)), by omega⟩
      have HF : Hid (∀ h, LayC64 (fun f => some (rnB 64 f n 0 n)) bs n h → e3 = 0 ∧ (∀ i, i < k → f i = h i) ∧ ∃ A r, 0 < A ∧ A ≤ n - k ∧ x = h k ∧ y = A - 1 ∧ (∀ i, i < A → h (k + i) = h k) ∧ (rb (strOf bs)).drop a3 = rnB 64 h (n - (k + A)) (k + A) (n - (k + A)) ++ r) := fun h hL => by
        obtain ⟨h1, h2⟩ := HU.out h hL (by omega)
        obtain ⟨h3, ⟨r, h4⟩, h5⟩ := hI.out.2.full h h1 h2
        obtain ⟨A, hA1, hA2, hA3, hA4⟩ := rn_head64 h n k hlt
        rw [hA4, List.append_assoc, List.append_assoc] at h4
        obtain ⟨q1, q2, q3⟩ := HK2.out.drop h3 (h k) _ (h1 k hlt) h4
        obtain ⟨q4, q5, q6⟩ := HK3.out.drop q2 (A - 1) _ (by omega) q3
        exact ⟨q5, h5, A, r, hA1, hA2, q1, q4, hA3, q6⟩
      have HRNG := hide hI.out.2.rng
      clear hI
      have e1 : IntKind.u64.wrap ((n : Int) - (k : Int)) = ((n - k : Nat) : Int) := by rw [IntKind.wrap_u64]; omega
      obtain ⟨d, hd⟩ : ∃ d, n - k = d := ⟨_, rfl⟩
      have hnk : n = k + d := by omega
      by_cases hge : d ≤ y
      · have hde : (y : Int) ≥ (d : Int) := by omega
        have HD := hide hd
        rw [hd] at e1
        clear hd hnk
        go_wp2_with fail
        go_ret2
        refine .inl ⟨83, by decide, rfl, by rw [HBW.out]; exact HO.out.2.2.1, fun h hL => ?_⟩
        obtain ⟨_, _, A, r, q1, q2, q3, q4, _⟩ := HF.out h hL
        have := HD.out
        omega
      · have hyd : y + 1 ≤ d := by omega
        have hde : ¬ ((y : Int) ≥ (d : Int)) := by omega
        have HD := hide hd
        have HNK := hide hnk
        rw [hd] at e1
        obtain ⟨c, hc⟩ : ∃ c, y + 1 = c := ⟨_, rfl⟩
        have r2 : IntKind.i64.wrap (y : Int) = (y : Int) := by rw [IntKind.wrap_i64]; omega
        have r3 : (y : Int) + 1 = (c : Int) := by omega
        have hd0 : d ≤ 4096 := by omega
        have hc0 : 0 < c ∧ c ≤ d := by omega
        have hx0 : x < 18446744073709551616 := hx
        obtain ⟨g3, hg3⟩ : ∃ g3, w3.heap.size = g3 := ⟨_, rfl⟩
        obtain ⟨W4, hW4⟩ : ∃ W4, W4 = w3.alloc (.cells #[.int .u64 (x : Int)] 41) := ⟨_, rfl⟩
        have HW4 : Hid (W4.cell? ⟨g3, 0, none⟩ = some (.int .u64 (x : Int)) ∧ W4.heap.size = g3 + 1 ∧ Below g3 w3 W4) := by
          refine ⟨by rw [← hg3, hW4]; exact cell_of_row _ _ 0 _ _ _ (heap_alloc_new w3 _), by rw [hW4, ← hg3]; simp, by rw [hW4, ← hg3]; exact (Below.refl _ w3).alloc (Nat.le_refl _) _⟩
        have HCC := hide hc
        clear hd hnk hc hx
        go_wp2_with fail
        (try rw [hg3])
        (try rw [← hW4])
        clear hW4
        refine (repeat64_any x c g3 0 1 W4 HW4.out.1 (by omega) (by omega)).mono ?_
        rintro e w5 ⟨rfl, hrow5, hB5⟩
        obtain ⟨g5, hg5⟩ : ∃ g5, W4.heap.size = g5 := ⟨_, rfl⟩
        rw [hg5] at hrow5 hB5 ⊢
        have HR5 : Hid (w5.heap[g5]? = some (.cells (List.replicate c (Value.int .u64 (x : Int))).toArray 41 (0, 0)) ∧ Below g3 w3 w5 ∧ g3 ≤ w5.heap.size) := by
          have h1 := HW4.out.2.1
          have h2 := hB5.size
          exact ⟨hrow5, HW4.out.2.2.trans (hB5.mono (by omega)), by omega⟩
        have HOWN : Hid (w5.ownsRow (b + 1) 41 1 (.slice p k cp) k (valsV64 k f)) := ownsRow_keepC64 HO.out.2.1 (fun g _ hg2 => HR5.out.2.1.block g (by omega))
        have HNEWS : Hid (∀ (j : Nat) (u : Value), (List.replicate c (Value.int .u64 (x : Int)))[j]? = some u → w5.cell? ((⟨g5, 0, none⟩ : Addr).add j) = some u) := fun j u hu => by
          rw [Addr.add_mid, Nat.zero_add, cell_of_row w5 g5 j _ _ _ HR5.out.1]
          rw [List.getElem?_toArray]; exact hu
        have HG3 := hide hg3
        have hs5 : b + 1 ≤ w5.heap.size := by have := HO.out.2.2.2; have := HR5.out.2.2; omega
        clear hrow5 hB5 hg5 hg3
        go_wp2_with (at_builtin; refine wpList_append_lies _ rfl _ _ _ rfl (b + 1) 41 i5 (.int .u64 0) 1 8 Tryz.underlying110 HI5.out.1 HI5.out.2.1 HI5.out.2.2.1 HI5.out.2.2.2 rfl (by decide) (.slice p k cp) k (valsV64 k f) rfl HOWN.out ⟨g5, 0, none⟩ c c (List.replicate c (Value.int .u64 (x : Int))) rfl (by simp) HNEWS.out (fun u hu => by rw [List.eq_of_mem_replicate hu]; rfl) (by omega) (by have : maxLen = 9223372036854775807 := rfl; omega) (by omega) hs5 _ rfl ?_; intro g6 cap6 w6 hown6 hgrow6 hat6 hlt6)
        have HS6 : Hid (Rn64 w w6 b (strOf bs) n (k + c) a3 e3 (fun i => if i < k then f i else x) (.slice (some ⟨g6, 0, none⟩) (k + c) cap6)) := by
          have hB6 : Below (b + 1) w5 w6 := grown_below64 hgrow6 (fun g hg => (HOWN.out.lt g hg).1) hs5
          have hB3 : Below (b + 1) w3 w6 := (HR5.out.2.1.mono (by have := HO.out.2.2.2; have := HG3.out; omega)).trans hB6
          have := hB6.size
          refine ⟨by rw [← valsV64_rep]; exact hown6, HK3.out.rd.below hB3 (by omega), HO.out.2.2.1.trans (hB3.mono (by omega)), by omega, fun i hi => ?_, fun h hr hB => ?_⟩
          · by_cases h1 : i < k
            · simp only [h1, if_true]; exact HRNG.out i h1
            · simp only [h1, if_false]; exact hx0
          · obtain ⟨q0, q1, A, r, q2, q3, q4, q5, q6, q7⟩ := HF.out h ⟨hr, fun h0 => by omega, fun _ => ⟨_, hB.choose, rfl, by rw [← rb_strOf bs HB.out]; exact hB.choose_spec⟩⟩
            have hAc : A = c := by have := HCC.out; omega
            rw [hAc] at q6 q7
            refine ⟨q0, ⟨r, q7⟩, fun i hi => ?_⟩
            by_cases h1 : i < k
            · simp only [h1, if_true]; exact q1 i h1
            · simp only [h1, if_false]
              have := q6 (i - k) (by omega)
              rw [show k + (i - k) = i from by omega] at this
              rw [this, q4]
        clear hown6 hgrow6 hat6 hlt6
        go_wp2_with fail
        go_roundw
        case rel => exact ⟨k + c, a3, e3, _, _, _, rfl, by have := HNK.out; omega, HS6.out⟩
        case measure => simp [sliceLen64]; omega
    · have hk : k = n := by have := hI.out.1; omega
      have hI' : Hid (Rn64 w wr b (strOf bs) n n a e1 f (.slice p n cp)) := by have := hI.out.2; rw [hk] at this; exact this
      subst hk
      clear hI
      go_wp2_with fail
      go_ret2
      refine .inr ⟨.slice p k cp, f, rfl, ⟨hI'.out.own.mono (by have := HBW.out; omega), (by rw [HBW.out]; exact hI'.out.bel), Nat.le_refl _⟩, hI'.out.rng, fun h hL i hi => ?_⟩
      obtain ⟨h1, h2⟩ := HU.out h hL (by omega)
      exact (hI'.out.full h h1 h2).2.2 i hi

end Go.Proofs.YtpdaklklhoenhaaGreatDoor

/- The contract of Stride's packing (64 bits). -/
namespace Go.Proofs.YtpdaklklhoenhaaGreatDoor
open Go.RowKit
open M
set_option linter.unusedVariables false
set_option linter.unusedSimpArgs false

theorem stB_len64 (H M : Nat) (f : Nat → Nat) (n : Nat) : (stB H M f n).length ≤ 80 * n := by
  induction n with
  | zero => simp [stB]
  | succ n ih =>
    rw [stB, List.length_append]
    have := (groups_len 9 (zig (sgW H M (rsS M f n)))).2.2
    have e : (varB (zig (sgW H M (rsS M f n)))).length = (groups 9 (zig (sgW H M (rsS M f n)))).length := rfl
    omega

set_option maxRecDepth 100000 in
set_option maxHeartbeats 1000000 in
theorem packStride64_any (p : Option Addr) (n cap : Nat) (f : Nat → Nat) (w : World) (h : URow64 w p n f) (hn : n ≤ 4096) (hcap : n ≤ cap) (hf : ∀ i, i < n → f i < 18446744073709551616) :
    Calls Tryz.prog 135 #[.slice p n cap] w (RowEnd64 (stB 9223372036854775808 18446744073709551616 f n) w) := by
  have H := hide h
  have HF := hide hf
  obtain ⟨g, hg⟩ : ∃ g, g = w.heap.size := ⟨_, rfl⟩
  obtain ⟨W1, hW1⟩ : ∃ W1, W1 = w.alloc (.cells zW 101) := ⟨_, rfl⟩
  have HM : Hid (Wr W1 (g + 1) g 0 [] 0 ∧ g + 1 ≤ W1.heap.size ∧ Below w.heap.size w W1 ∧ URow64 W1 p n f) := by
    have B1 : Below w.heap.size w W1 := by rw [hW1]; exact (Below.refl _ w).alloc (Nat.le_refl _) _
    refine ⟨?_, by rw [hW1, hg]; simp, B1, h.below B1⟩
    rw [hg, hW1]; exact wr_of (heap_alloc_new w _)
  have HP : Hid (∀ a, p = some a → 0 < n → a.block < g) := fun a ha h0 => by
    obtain ⟨b, o, hp, hc⟩ := H.out h0
    rw [hp] at ha
    simp only [Option.some.injEq] at ha
    rw [← ha, hg]
    exact block_lt_of_cell (hc 0 h0)
  have HG := hide hg
  clear h hf
  go_enter Tryz.func135, Tryz.ntmps135
  go_upto_region 1 with fail
  refine wp_region_list ?_
  refine wpList_build rfl 101 #[] rfl (by kernel_rfl) ?_
  simp only [Array.map_empty]
  rw [zW_built]
  refine Go.Great.wpList_boxTo rfl 101 (.tmp 7) rfl (some 8) rfl g hg.symm zW rfl ?_
  rw [← hW1]
  clear hW1 hg
  go_wp2_with fail
  go_loopw [11] (fun t11 wr => ∃ k : Nat, t11 = .int .i64 (k : Int) ∧ Hid (k ≤ n ∧ Wr wr (g + 1) g 0 (stB 9223372036854775808 18446744073709551616 f k) 0 ∧ Only g 0 123 W1 wr)) (fun t11 _ => n - (intOf t11).toNat)
  case atStart => exact ⟨0, rfl, Nat.zero_le _, HM.out.1, Only.refl _ _ _ _⟩
  case round =>
    obtain ⟨k, rfl, hI⟩ := hrel
    by_cases hlt : k < n
    · obtain ⟨rb0, ro, rfl, hc⟩ := HM.out.2.2.2 (by omega)
      have hrb : rb0 < g := HP.out _ rfl (by omega)
      obtain ⟨v, hv⟩ : ∃ v, f k = v := ⟨_, rfl⟩
      have hs1 := HM.out.2.1
      have c1 : wr.cell? ⟨rb0, ro + k, none⟩ = some (.int .u64 (v : Int)) := by
        rw [World.cell?_of_block (w := W1) (hI.out.2.2.block rb0 (by omega) (by omega)), ← hv]
        exact hc k hlt
      have hvM : v < 18446744073709551616 := by rw [← hv]; exact HF.out k hlt
      have HV := hide hv
      clear hv hc hs1
      go_wp2_with fail
      refine (expected64_any (some ⟨rb0, ro, none⟩) k cap f wr (fun _ => ⟨rb0, ro, rfl, fun i hi => ?_⟩) (by omega) (by omega) (fun i hi => HF.out i (by omega))).mono ?_
      · rw [World.cell?_of_block (w := W1) (hI.out.2.2.block rb0 (by have := HM.out.2.1; omega) (by omega))]
        obtain ⟨rb1, ro1, hp1, hc1⟩ := HM.out.2.2.2 (by omega)
        simp only [Option.some.injEq, Addr.mk.injEq] at hp1
        obtain ⟨rfl, rfl, _⟩ := hp1
        exact hc1 i (by omega)
      rintro e wd ⟨rfl, m, hwd⟩
      have heM : exS 18446744073709551616 f k < 18446744073709551616 := exS_lt _ _ (by omega) k fun j hj => HF.out j (by omega)
      obtain ⟨E, hE⟩ : ∃ E, exS 18446744073709551616 f k = E := ⟨_, rfl⟩
      have hr : IntKind.u64.wrap ((v : Int) - (E : Int)) = (((v + 18446744073709551616 - E) % 18446744073709551616 : Nat) : Int) := by rw [IntKind.wrap_u64]; omega
      rw [hE] at heM ⊢
      obtain ⟨X, hX⟩ : ∃ X, (v + 18446744073709551616 - E) % 18446744073709551616 = X := ⟨_, rfl⟩
      have hXM : X < 18446744073709551616 := by rw [← hX]; exact Nat.mod_lt _ (by omega)
      rw [hX] at hr
      have HE := hide (And.intro hE hX)
      have HD : Hid (Wr wd (g + 1) g 0 (stB 9223372036854775808 18446744073709551616 f k) 0 ∧ Only g 0 123 W1 wd ∧ g + 1 ≤ wd.heap.size) := by
        rw [hwd]
        exact ⟨hI.out.2.1.below (w' := wr.drewN m) ⟨rfl, rfl, rfl, Nat.le_refl _, fun _ _ => rfl⟩, ⟨hI.out.2.2.os, hI.out.2.2.tape, hI.out.2.2.output, hI.out.2.2.size, hI.out.2.2.block, hI.out.2.2.cell, hI.out.2.2.frozen⟩, Nat.le_trans HM.out.2.1 hI.out.2.2.size⟩
      clear hE hX hwd
      go_wp2_with fail
      refine (signed64_any X wd hXM).mono ?_
      rintro e ws ⟨rfl, rfl⟩
      have hsr := sgW_range 9223372036854775808 18446744073709551616 X (by omega) hXM
      go_wp2_with fail
      refine (wzig_any g 0 (g + 1) _ _ _ HD.out.1 (by omega) HD.out.2.2 (by have := stB_len64 9223372036854775808 18446744073709551616 f k; omega) (by omega) (by omega)).mono ?_
      rintro e w3 ⟨rfl, W3, O3⟩
      go_wp2_with fail
      go_roundw
      case rel =>
        refine ⟨k + 1, by simp, hlt, ?_, HD.out.2.1.trans O3⟩
        rw [stB, rsS, HV.out, HE.out.1, HE.out.2]; exact W3
      case measure => simp [intOf]; omega
    · have hk : k = n := by have := hI.out.1; omega
      go_wp2_with fail
      refine (wdone_packed g 0 (g + 1) wr _ hI.out.2.1 (Nat.le_trans HM.out.2.1 hI.out.2.2.size) (by have := stB_len64 9223372036854775808 18446744073709551616 f k; omega) _ rfl).mono ?_
      rintro e w3 ⟨rfl, G3, B3⟩
      go_wp2_with fail
      go_ret2
      have e3 := HM.out.2.2.1
      have e4 := HG.out
      have e5 := hI.out.2.2.below (B := w.heap.size) (by omega) (by have := e3.size; omega)
      refine ⟨wr.heap.size, ((stB 9223372036854775808 18446744073709551616 f n).length + 7) / 8, (packed_length _).symm, ?_, rfl, (by first | exact G3 | (rw [hk] at G3; exact G3)), ?_⟩
      · have := e5.size; have := e3.size; omega
      · exact (e3.trans e5).trans (B3.mono (by have := e5.size; have := e3.size; omega))

end Go.Proofs.YtpdaklklhoenhaaGreatDoor

namespace Go.Proofs.YtpdaklklhoenhaaGreatDoor
open Go.RowKit
open M
set_option linter.unusedVariables false
set_option linter.unusedSimpArgs false

theorem wrapY64 (m : Nat) (hm : 0 < m) (y k : Int) (hk : (m : Int) = k) : ∃ Y : Nat, y % k = (Y : Int) ∧ Y < m := by
  subst hk
  have h1 := Int.emod_nonneg y (b := (m : Int)) (by omega)
  have h2 := Int.emod_lt_of_pos y (b := (m : Int)) (by omega)
  generalize y % (m : Int) = z at *
  exact ⟨z.toNat, (Int.toNat_of_nonneg h1).symm, by omega⟩

theorem add_wrap64 (m E y Y x : Int) (h2 : y % m = Y) (h1 : (E + Y) % m = x) : x = (E + y) % m := by rw [← h1, ← h2, Int.add_emod_emod]

theorem stride_back64 (H M : Nat) (hM : M = 2 * H) (hH : 0 < H) (f h : Nat → Nat) (k : Nat) (hf : ∀ i, i < k → f i = h i) (hr : ∀ i, i < k → f i < M) (hk : h k < M) (m : Int) (hm : (M : Int) = m) : ((exS M f k : Int) + sgW H M (rsS M h k)) % m = (h k : Int) := by
  subst hm
  have e1 := exS_congr M f h k hf
  have e2 := sgW_mod H M (rsS M h k) hM (rsS_lt M h (by omega) k)
  have e3 := rsS_back M h (by omega) k fun j hj => by
    by_cases e : j = k
    · rw [e]; exact hk
    · rw [← hf j (by omega)]; exact hr j (by omega)
  rw [← Int.add_emod_emod, e2, e1, ← e3]
  simp

theorem sg_in64 (x : Nat) (hx : x < 18446744073709551616) : -9223372036854775808 ≤ sgW 9223372036854775808 18446744073709551616 x ∧ sgW 9223372036854775808 18446744073709551616 x ≤ 9223372036854775807 := by
  unfold sgW; split <;> omega

theorem lays_stride64 : Lays64 (stB 9223372036854775808 18446744073709551616) (fun h k => varB (zig (sgW 9223372036854775808 18446744073709551616 (rsS 18446744073709551616 h k)))) := ⟨fun h => rfl, fun h k => rfl⟩

theorem Ln64.drewN {bf : (Nat → Nat) → Nat → List Bool} {w wr : World} {b : Nat} {s : ByteArray} {g n k a : Nat} {e1 : Int} {f : Nat → Nat} (T : Ln64 bf w wr b s g n k a e1 f) (hb : b < wr.heap.size) (m : Nat) : Ln64 bf w (wr.drewN m) b s g n k a e1 f :=
  ⟨T.row.ofBlock rfl, T.rd.below (w' := wr.drewN m) ⟨rfl, rfl, rfl, Nat.le_refl _, fun _ _ => rfl⟩ hb, ⟨T.only.os, T.only.tape, T.only.output, T.only.size, T.only.block, T.only.cell, T.only.frozen⟩, T.size, T.rng, T.full⟩

set_option maxRecDepth 100000 in
set_option maxHeartbeats 1000000 in
theorem unpackStride64_any (v : Value) (bs : List Nat) (n : Nat) (w : World) (h : IsBy w v bs) (hb : ∀ n ∈ bs, n < 256) (hl : bs.length ≤ 1000000000000) (hn : n ≤ 4096) :
    Calls Tryz.prog 123 #[v, .int .i64 n] w (ValsEnd64 (stB 9223372036854775808 18446744073709551616) bs n w) := by
  have H := hide h
  have HB := hide hb
  have HL := hide hl
  have hmk := make_vals64 n hn
  clear h hb hl
  go_enter Tryz.func123, Tryz.ntmps123
  go_wp2_with fail
  refine (from_by w v bs H.out).mono ?_
  rintro e w1 ⟨rfl, hw1⟩
  have HR : Hid (Rd w1 w.heap.size 0 (strOf bs) 0 0 ∧ w1.heap.size = w.heap.size + 1 ∧ Below w.heap.size w w1) := by
    rw [hw1]; exact ⟨rd_new w bs HL.out, by simp, (Below.refl _ _).alloc (Nat.le_refl _) _⟩
  clear hw1
  obtain ⟨b, hbw⟩ : ∃ b, w.heap.size = b := ⟨_, rfl⟩
  have HBW := hide hbw
  obtain ⟨g, hg⟩ : ∃ g, w1.heap.size = g := ⟨_, rfl⟩
  have HA : Hid (Ln64 (stB 9223372036854775808 18446744073709551616) w1 (w1.alloc (.cells (Array.replicate n (Value.int .u64 0)) 41)) b (strOf bs) g n 0 0 0 (fun _ => 0)) := by
    have hA : Below w1.heap.size w1 (w1.alloc (.cells (Array.replicate n (Value.int .u64 0)) 41)) := (Below.refl _ w1).alloc (Nat.le_refl _) _
    have hbs : b < w1.heap.size := by have := HR.out.2.1; omega
    refine ⟨by rw [← hg]; exact UW64.new w1 n _, by rw [← hbw]; exact HR.out.1.below hA (by omega), ⟨hA.os, hA.tape, hA.output, hA.size, fun k hk _ => hA.block k hk, fun j _ => World.cell?_of_block (hA.block b hbs), fun j => World.frozen?_of_block (w := w1) (a := ⟨b, j, none⟩) (hA.block b hbs)⟩, by rw [← hg]; simp, fun i hi => by omega, fun h hB => ⟨rfl, by simp [stB], fun i hi => by omega⟩⟩
  have hgb : g ≠ b := by have := HR.out.2.1; omega
  have HG : Hid (w1.heap.size ≤ g) := Nat.le_of_eq hg
  rw [hbw]
  clear hbw
  go_upto_region 3 with fail
  (try rw [hg])
  clear hg hmk
  generalize w1.alloc (.cells (Array.replicate n (Value.int .u64 0)) 41) = W0 at *
  go_wp2_with fail
  go_loopw [15] (fun t15 wr => ∃ (k a : Nat) (e1 : Int) (f : Nat → Nat), t15 = .int .i64 (k : Int) ∧ Hid (k ≤ n ∧ Ln64 (stB 9223372036854775808 18446744073709551616) w1 wr b (strOf bs) g n k a e1 f)) (fun t15 _ => n - (intOf t15).toNat)
  case atStart => exact ⟨0, 0, 0, _, rfl, Nat.zero_le _, HA.out⟩
  case round =>
    obtain ⟨k, a, e1, f, rfl, hI⟩ := hrel
    by_cases hlt : k < n
    · have HROW : Hid (URow64 wr (some ⟨g, 0, none⟩) k f ∧ ∀ i, i < k → f i < 18446744073709551616) := ⟨fun _ => ⟨g, 0, rfl, fun i hi => by rw [Nat.zero_add, hI.out.2.row.cell i (by omega), if_pos hi]⟩, hI.out.2.rng⟩
      have HBG : Hid (b < wr.heap.size) := by have := hI.out.2.size; have := HR.out.2.1; have := HG.out; have := HBW.out; exact (by omega : b < wr.heap.size)
      go_wp2_with fail
      refine (expected64_any (some ⟨g, 0, none⟩) k n f wr HROW.out.1 (by omega) (by omega) HROW.out.2).mono ?_
      rintro e wd ⟨rfl, m, hwd⟩
      have HL1 : Hid (Ln64 (stB 9223372036854775808 18446744073709551616) w1 wd b (strOf bs) g n k a e1 f) := by rw [hwd]; exact hI.out.2.drewN HBG.out m
      have heM : exS 18446744073709551616 f k < 18446744073709551616 := exS_lt _ _ (by decide) k HROW.out.2
      obtain ⟨E, hE⟩ : ∃ E, exS 18446744073709551616 f k = E := ⟨_, rfl⟩
      rw [hE] at heM ⊢
      have HE := hide hE
      clear hE hwd
      go_wp2_with fail
      refine (hk_zig b 0 (strOf bs) a e1 wd HL1.out.rd).mono ?_
      rintro e w2 ⟨y, a', e2, rfl, hy, T⟩
      obtain ⟨Y, hY', _⟩ := wrapY64 18446744073709551616 (by decide) y 18446744073709551616 rfl
      obtain ⟨x, hX', hx⟩ := wrapY64 18446744073709551616 (by decide) ((E : Int) + (Y : Int)) 18446744073709551616 rfl
      have hY : IntKind.u64.wrap y = (Y : Int) := by rw [IntKind.wrap_u64]; exact hY'
      have hX : IntKind.u64.wrap ((E : Int) + (Y : Int)) = (x : Int) := by rw [IntKind.wrap_u64]; exact hX'
      have HX : Hid ((x : Int) = ((E : Int) + y) % 18446744073709551616) := add_wrap64 18446744073709551616 E y Y x hY' hX'
      clear hX' hY'
      have NX := Ln64.next lays_stride64 hlt HG.out hgb HL1.out x hx T.rd T.only (fun he h r hh hk hr => by
        have h0 := sg_in64 (rsS 18446744073709551616 h k) (rsS_lt _ _ (by decide) k)
        obtain ⟨h1, h2, h3⟩ := T.hit he _ _ h0 hr
        refine ⟨?_, h2, h3⟩
        have h4 := stride_back64 9223372036854775808 18446744073709551616 (by decide) (by decide) f h k hh HROW.out.2 hk 18446744073709551616 rfl
        have h5 := HX.out
        rw [h1, ← HE.out, h4] at h5
        exact Int.ofNat.inj h5)
      have RW := HL1.out.row.ofBlock (T.only.block g HL1.out.size hgb)
      have c2 : w2.cell? ⟨g, k, none⟩ = some (.int .u64 0) := by rw [RW.cell k hlt, if_neg (by omega)]; rfl
      have c3 := RW.fz k
      have HNX := hide NX
      clear NX RW T
      go_wp2_with fail
      go_roundw
      case rel => exact ⟨k + 1, a', e2, _, by simp, hlt, HNX.out⟩
      case measure => simp [intOf]; omega
    · have hk : k = n := by have := hI.out.1; omega
      have hI' : Hid (Ln64 (stB 9223372036854775808 18446744073709551616) w1 wr b (strOf bs) g n n a e1 f) := by have := hI.out.2; rw [hk] at this; exact this
      go_wp2_with fail
      go_ret2
      refine ⟨g, f, ?_, rfl, hI'.out.row, hI'.out.rng, ?_, fun h hB i hi => ?_⟩
      · have := HR.out.2.1; have := HG.out; omega
      · have := hI'.out.only.below (B := w.heap.size) (by have := HBW.out; omega) (by have := HR.out.2.1; omega)
        exact HR.out.2.2.trans this
      · exact (hI'.out.full h (by rw [rb_strOf bs HB.out]; exact hB)).2.2 i hi

end Go.Proofs.YtpdaklklhoenhaaGreatDoor

/- The document's whole numbers: Sum. -/
import Derived.Test.YtmkploknoohliaaGreatNA
import Derived.Deep.AppendLies
namespace Go.Proofs.YtmkploknoohliaaGreat
open Go.RowKit
open M
set_option linter.unusedVariables false
set_option linter.unusedSimpArgs false

theorem cell_new1 (w : World) (x : Value) (t : TypeId) (j : Nat) (u : Value) (h : ([x] : List Value)[j]? = some u) : (w.alloc (.cells #[x] t)).cell? ((⟨w.heap.size, 0, none⟩ : Addr).add j) = some u := by
  match j, h with
  | 0, h => simp at h; subst h; rw [show (⟨w.heap.size, 0, none⟩ : Addr).add 0 = ⟨w.heap.size, 0 + 0, none⟩ from by unfold Addr.add; split <;> simp_all, cell_of_row _ _ _ _ _ _ (heap_alloc_new _ _)]; rfl

theorem grown_below {w w' : World} {row : Option Nat} {B : Nat} (hg : w.grownBy w' row) (hr : ∀ g, row = some g → B ≤ g) (hB : B ≤ w.heap.size) : Below B w w' :=
  ⟨hg.os, hg.tape, hg.output, hg.size, fun k hk => hg.block k (by omega) (fun e => by have := hr k e.symm; omega)⟩

theorem limbsV_succ (i N : Nat) : limbsV (i + 1) N = limbsV i N ++ [.int .u32 (dg N i : Nat)] := by simp [limbsV, List.range_succ]
theorem limbsV_mod (i N : Nat) : limbsV i (N % 4294967296 ^ i) = limbsV i N := by
  unfold limbsV
  apply List.map_congr_left
  intro j hj
  rw [dg_mod N (List.mem_range.1 hj)]

/-- Behind i limbs that were taken over. -/
def NatSt (w : World) (N i : Nat) (v : Value) (wr : World) : Prop := wr.ownsRow w.heap.size 38 1 v i (limbsV i N) ∧ Below w.heap.size w wr

theorem NatSt.next {w wr w4 : World} {N i g cap : Nat} {v : Value} (h : NatSt w N i v wr)
    (ho : w4.ownsRow w.heap.size 38 1 (.slice (some ⟨g, 0, none⟩) (i + 1) cap) (i + 1) (limbsV i N ++ [.int .u32 (dg N i : Nat)]))
    (hg : (wr.alloc (.cells #[.int .u32 (dg N i : Nat)] 38)).grownBy w4 v.ownBlock) : NatSt w N (i + 1) (.slice (some ⟨g, 0, none⟩) (i + 1) cap) w4 := by
  refine ⟨by rw [limbsV_succ]; exact ho, (h.2.alloc h.2.size _).trans (grown_below hg (fun g hg => (h.1.lt g hg).1) (by have := h.2.size; simp; omega))⟩

theorem addC_end {A C i k m : Nat} (hA : A < 4294967296 ^ k) (hC : C < 4294967296 ^ m) (hk : k ≤ i) (hm : m ≤ i) : addC A C i = (A + C) / 4294967296 ^ i := by
  unfold addC
  rw [Nat.mod_eq_of_lt (Nat.lt_of_lt_of_le hA (Nat.pow_le_pow_right (by omega) hk)), Nat.mod_eq_of_lt (Nat.lt_of_lt_of_le hC (Nat.pow_le_pow_right (by omega) hm))]

theorem NatSt.own {w wr : World} {N i : Nat} {v : Value} (h : NatSt w N i v wr) (hN : N < 4294967296 ^ i) (hi : i ≤ 70368744177664) : Own wr w.heap.size v i N := ⟨hN, hi, h.1⟩

set_option maxRecDepth 100000 in
set_option maxHeartbeats 2000000 in
theorem nSum {S S' : Nat → Prop} (v u : Value) (k A m C : Nat) (w : World) (h : RowX S w v k A) (h' : RowX S' w u m C) (hkb : k ≤ 100000) (hmb : m ≤ 100000) :
    Calls Tryz.prog 98 #[v, u] w fun e w' => ∃ r, e = .returned r ∧ ∃ n, Row w' r n (A + C) ∧ Nrm n (A + C) ∧ n ≤ max k m + 1 ∧ Below w.heap.size w w' := by
  obtain ⟨i5, hi5⟩ := info32
  have Hi := hide hi5
  clear hi5
  have HR := hide (And.intro h.row h'.row)
  have HL := hide (And.intro h.1 h'.1)
  obtain ⟨_, _, ad, cap, rfl, _, _⟩ := h
  obtain ⟨_, _, ad', cap', rfl, _, _⟩ := h'
  go_enter Tryz.func98, Tryz.ntmps98
  go_wp2_with fail
  go_loopw [5, 6, 7] (fun t5 t6 t7 wr => ∃ i : Nat, i ≤ max k m ∧ t6 = .int .u64 (addC A C i : Nat) ∧ t7 = .int .i64 i ∧ Hid (NatSt w (A + C) i t5 wr)) (fun _ _ t7 _ => max k m - (intOf t7).toNat)
  case atStart => exact ⟨0, by omega, by rw [addC_zero]; rfl, rfl, (Own.nil w w.heap.size).2.2, Below.refl _ _⟩
  case round =>
    obtain ⟨i, hi, rfl, rfl, HS⟩ := hrel
    have hcl := addC_le A C i
    have Hst := hide (add_step A C i)
    have hxl := dg_lt A i
    have hyl := dg_lt C i
    have Hnext := hide (fun (w4 : World) (g4 cap4 : Nat) => NatSt.next (w4 := w4) (g := g4) (cap := cap4) HS.out)
    have Hd : Hid (dg (A + C) i = (addC A C i + (dg A i + dg C i)) % 4294967296 ∧ addC A C (i + 1) = (addC A C i + (dg A i + dg C i)) / 4294967296) := ⟨Hst.out.1.symm, Hst.out.2.symm⟩
    have HO := hide HS.out
    clear Hst
    by_cases hgo : i < k ∨ i < m
    · rw [Hd.out.1] at Hnext
      have HX : Hid (i < k → ∃ g o, ad = some ⟨g, o, none⟩ ∧ wr.cell? ⟨g, o + i, none⟩ = some (.int .u32 (dg A i : Nat))) := by
        intro hik
        obtain ⟨_, _, ad1, cap1, e1, _, hc1⟩ := HR.out.1.below HO.out.2
        cases e1
        obtain ⟨g, o, e, _, hj⟩ := hc1 (by omega)
        exact ⟨g, o, e, hj i hik⟩
      have HY : Hid (i < m → ∃ g o, ad' = some ⟨g, o, none⟩ ∧ wr.cell? ⟨g, o + i, none⟩ = some (.int .u32 (dg C i : Nat))) := by
        intro him
        obtain ⟨_, _, ad1, cap1, e1, _, hc1⟩ := HR.out.2.below HO.out.2
        cases e1
        obtain ⟨g, o, e, _, hj⟩ := hc1 (by omega)
        exact ⟨g, o, e, hj i him⟩
      have HZ : Hid ((¬ i < k → dg A i = 0) ∧ (¬ i < m → dg C i = 0)) := ⟨fun h => dg_high HL.out.1 (by omega), fun h => dg_high HL.out.2 (by omega)⟩
      clear HL HR
      generalize dg A i = x at *
      generalize dg C i = y at *
      generalize addC A C i = c at *
      have h3 : (i < k ∧ i < m) ∨ (i < k ∧ ¬ i < m) ∨ (¬ i < k ∧ i < m) := by omega
      clear hgo
      rcases h3 with ⟨h1, h2⟩ | ⟨h1, h2⟩ | ⟨h1, h2⟩
      · have hle : i + 1 ≤ max k m := by omega
        have h1' : (i : Int) < (k : Int) := by omega
        obtain ⟨g, o, rfl, hcx⟩ := HX.out h1
        have h2' : (i : Int) < (m : Int) := by omega
        obtain ⟨g', o', rfl, hcy⟩ := HY.out h2
        obtain ⟨z0, hz0⟩ : ∃ z : Nat, (c : Int) + (x : Int) = (z : Int) := ⟨c + x, by omega⟩
        have hz0l : z0 < 18446744073709551616 := by omega
        obtain ⟨z, hz, hz1⟩ : ∃ z : Nat, c + (x + y) = z ∧ (z0 : Int) + (y : Int) = (z : Int) := ⟨_, rfl, by omega⟩
        have hzl : z < 18446744073709551616 := by omega
        rw [hz] at Hnext Hd
        obtain ⟨d, hd, hd1⟩ : ∃ d : Nat, z % 4294967296 = d ∧ (z : Int) % 4294967296 = (d : Int) := ⟨_, rfl, by omega⟩
        obtain ⟨q, hq, hq1⟩ : ∃ q : Nat, z / 4294967296 = q ∧ (z : Int) / 4294967296 = (q : Int) := ⟨_, rfl, by omega⟩
        have hdl : d < 4294967296 := by omega
        rw [hd] at Hnext Hd
        rw [hq] at Hd
        clear hz hd hq h1 h2 HX HY HZ
        go_wp2_with (at_builtin; refine wpList_append_lies _ rfl _ _ _ rfl w.heap.size 38 i5 (.int .u32 0) 1 4 Tryz.underlying69 Hi.out.1 Hi.out.2.1 Hi.out.2.2.1 Hi.out.2.2.2 rfl (by decide) _ i (limbsV i (A + C)) rfl (HO.out.1.alloc _) ⟨wr.heap.size, 0, none⟩ 1 1 [.int .u32 (d : Nat)] rfl rfl (fun j u hj => cell_new1 wr _ 38 j u hj) (fun u hu => by simp at hu; subst hu; rfl) (by decide) (by unfold maxLen; omega) (by omega) (by have := HO.out.2.size; simp; omega) _ rfl ?d6)
        case d6 =>
          intro g4 cap4 w4 ho4 hg4 _ _
          have H4 := hide (Hnext.out w4 g4 cap4 ho4 hg4)
          clear ho4 hg4 Hnext
          go_wp2_with fail
          go_roundw
          case rel => exact ⟨i + 1, by omega, by rw [Hd.out.2], by go_num, H4⟩
          case measure => simp [intOf]; omega
      · have hle : i + 1 ≤ max k m := by omega
        have h1' : (i : Int) < (k : Int) := by omega
        obtain ⟨g, o, rfl, hcx⟩ := HX.out h1
        have h2' : ¬ (i : Int) < (m : Int) := by omega
        obtain rfl : y = 0 := HZ.out.2 h2
        obtain ⟨z, hz, hz1⟩ : ∃ z : Nat, c + (x + 0) = z ∧ (c : Int) + (x : Int) = (z : Int) := ⟨_, rfl, by omega⟩
        have hzl : z < 18446744073709551616 := by omega
        rw [hz] at Hnext Hd
        obtain ⟨d, hd, hd1⟩ : ∃ d : Nat, z % 4294967296 = d ∧ (z : Int) % 4294967296 = (d : Int) := ⟨_, rfl, by omega⟩
        obtain ⟨q, hq, hq1⟩ : ∃ q : Nat, z / 4294967296 = q ∧ (z : Int) / 4294967296 = (q : Int) := ⟨_, rfl, by omega⟩
        have hdl : d < 4294967296 := by omega
        rw [hd] at Hnext Hd
        rw [hq] at Hd
        clear hz hd hq h1 h2 HX HY HZ
        go_wp2_with (at_builtin; refine wpList_append_lies _ rfl _ _ _ rfl w.heap.size 38 i5 (.int .u32 0) 1 4 Tryz.underlying69 Hi.out.1 Hi.out.2.1 Hi.out.2.2.1 Hi.out.2.2.2 rfl (by decide) _ i (limbsV i (A + C)) rfl (HO.out.1.alloc _) ⟨wr.heap.size, 0, none⟩ 1 1 [.int .u32 (d : Nat)] rfl rfl (fun j u hj => cell_new1 wr _ 38 j u hj) (fun u hu => by simp at hu; subst hu; rfl) (by decide) (by unfold maxLen; omega) (by omega) (by have := HO.out.2.size; simp; omega) _ rfl ?d6)
        case d6 =>
          intro g4 cap4 w4 ho4 hg4 _ _
          have H4 := hide (Hnext.out w4 g4 cap4 ho4 hg4)
          clear ho4 hg4 Hnext
          go_wp2_with fail
          go_roundw
          case rel => exact ⟨i + 1, by omega, by rw [Hd.out.2], by go_num, H4⟩
          case measure => simp [intOf]; omega
      · have hle : i + 1 ≤ max k m := by omega
        have h1' : ¬ (i : Int) < (k : Int) := by omega
        obtain rfl : x = 0 := HZ.out.1 h1
        have h2' : (i : Int) < (m : Int) := by omega
        obtain ⟨g', o', rfl, hcy⟩ := HY.out h2
        obtain ⟨z, hz, hz1⟩ : ∃ z : Nat, c + (0 + y) = z ∧ (c : Int) + (y : Int) = (z : Int) := ⟨_, rfl, by omega⟩
        have hzl : z < 18446744073709551616 := by omega
        rw [hz] at Hnext Hd
        obtain ⟨d, hd, hd1⟩ : ∃ d : Nat, z % 4294967296 = d ∧ (z : Int) % 4294967296 = (d : Int) := ⟨_, rfl, by omega⟩
        obtain ⟨q, hq, hq1⟩ : ∃ q : Nat, z / 4294967296 = q ∧ (z : Int) / 4294967296 = (q : Int) := ⟨_, rfl, by omega⟩
        have hdl : d < 4294967296 := by omega
        rw [hd] at Hnext Hd
        rw [hq] at Hd
        clear hz hd hq h1 h2 HX HY HZ
        go_wp2_with (at_builtin; refine wpList_append_lies _ rfl _ _ _ rfl w.heap.size 38 i5 (.int .u32 0) 1 4 Tryz.underlying69 Hi.out.1 Hi.out.2.1 Hi.out.2.2.1 Hi.out.2.2.2 rfl (by decide) _ i (limbsV i (A + C)) rfl (HO.out.1.alloc _) ⟨wr.heap.size, 0, none⟩ 1 1 [.int .u32 (d : Nat)] rfl rfl (fun j u hj => cell_new1 wr _ 38 j u hj) (fun u hu => by simp at hu; subst hu; rfl) (by decide) (by unfold maxLen; omega) (by omega) (by have := HO.out.2.size; simp; omega) _ rfl ?d6)
        case d6 =>
          intro g4 cap4 w4 ho4 hg4 _ _
          have H4 := hide (Hnext.out w4 g4 cap4 ho4 hg4)
          clear ho4 hg4 Hnext
          go_wp2_with fail
          go_roundw
          case rel => exact ⟨i + 1, by omega, by rw [Hd.out.2], by go_num, H4⟩
          case measure => simp [intOf]; omega
    · have h1' : ¬ (i : Int) < (k : Int) := by omega
      have h2' : ¬ (i : Int) < (m : Int) := by omega
      have He : Hid (i = max k m) := by show _ = _; omega
      have Hc : Hid (dg (A + C) i = addC A C i ∧ A + C < 4294967296 ^ (i + 1)) := by
        have e0 := addC_end HL.out.1 HL.out.2 (show k ≤ i by omega) (show m ≤ i by omega)
        have e1 : A < 4294967296 ^ i := Nat.lt_of_lt_of_le HL.out.1 (Nat.pow_le_pow_right (by omega) (by omega))
        have e2 : C < 4294967296 ^ i := Nat.lt_of_lt_of_le HL.out.2 (Nat.pow_le_pow_right (by omega) (by omega))
        have e3 : A + C < 4294967296 ^ (i + 1) := by rw [pw_succ]; omega
        refine ⟨?_, e3⟩
        rw [e0]
        unfold dg
        refine Nat.mod_eq_of_lt ?_
        rw [Nat.div_lt_iff_lt_mul (pw_pos i), Nat.mul_comm, ← pw_succ]; exact e3
      rw [Hc.out.1] at Hnext
      have Hk := hide hi
      clear hgo HL HR Hd hxl hyl
      generalize addC A C i = d at *
      have hdl : d < 4294967296 := by omega
      have hd1 : (d : Int) % 4294967296 = (d : Int) := by omega
      go_wp2_with (at_builtin; refine wpList_append_lies _ rfl _ _ _ rfl w.heap.size 38 i5 (.int .u32 0) 1 4 Tryz.underlying69 Hi.out.1 Hi.out.2.1 Hi.out.2.2.1 Hi.out.2.2.2 rfl (by decide) _ i (limbsV i (A + C)) rfl (HO.out.1.alloc _) ⟨wr.heap.size, 0, none⟩ 1 1 [.int .u32 (d : Nat)] rfl rfl (fun j u hj => cell_new1 wr _ 38 j u hj) (fun u hu => by simp at hu; subst hu; rfl) (by decide) (by unfold maxLen; omega) (by omega) (by have := HO.out.2.size; simp; omega) _ rfl ?d6)
      case d6 =>
        intro g4 cap4 w4 ho4 hg4 _ _
        have H4 := hide (Hnext.out w4 g4 cap4 ho4 hg4)
        clear ho4 hg4 Hnext
        have HW : Hid (RowX (fun _ => True) w4 (.slice (some ⟨g4, 0, none⟩) (i + 1) cap4) (i + 1) (A + C)) := (H4.out.own Hc.out.2 (by omega)).row
        go_wp2_with fail
        refine (nTrim _ (i + 1) (A + C) _ HW.out).mono ?_
        rintro e w5 ⟨r, rfl, n, hr, hn, hnk, rfl⟩
        have H5 := hide (And.intro hr (And.intro hn hnk))
        clear hr hn hnk
        go_wp2_with fail
        go_ret
        exact ⟨r, rfl, n, H5.out.1, H5.out.2.1, by have := H5.out.2.2; have := He.out; omega, H4.out.2⟩
end Go.Proofs.YtmkploknoohliaaGreat

/- nat. -/
import Derived.Test.YtfbkdjghbgdgpaaR
namespace Go.Proofs.Ytfbkdjghbgdgpaa
open Go.RowKit
open M
set_option linter.unusedVariables false
set_option linter.unusedSimpArgs false

theorem limbsV_succ (i N : Nat) : limbsV (i + 1) N = limbsV i N ++ [.int .u32 (dg N i : Nat)] := by simp [limbsV, List.range_succ]
theorem limbsV_mod (i N : Nat) : limbsV i (N % 4294967296 ^ i) = limbsV i N := by
  unfold limbsV
  apply List.map_congr_left
  intro j hj
  rw [dg_mod N (List.mem_range.1 hj)]

/-- Behind i limbs that were taken over. -/
def NatSt (w : World) (N i : Nat) (v : Value) (wr : World) : Prop := wr.ownsRow w.heap.size 58 1 v i (limbsV i N) ∧ Below w.heap.size w wr

theorem NatSt.next {w wr w4 : World} {N i g cap : Nat} {v : Value} (h : NatSt w N i v wr)
    (ho : w4.ownsRow w.heap.size 58 1 (.slice (some ⟨g, 0, none⟩) (i + 1) cap) (i + 1) (limbsV i N ++ [.int .u32 (dg N i : Nat)]))
    (hg : (wr.alloc (.cells #[.int .u32 (dg N i : Nat)] 58)).grownBy w4 v.ownBlock) : NatSt w N (i + 1) (.slice (some ⟨g, 0, none⟩) (i + 1) cap) w4 := by
  refine ⟨by rw [limbsV_succ]; exact ho, (h.2.alloc h.2.size _).trans (grown_below hg (fun g hg => (h.1.lt g hg).1) (by have := h.2.size; simp; omega))⟩

/-- A row that came in: as long as may be. -/
def RowL (w : World) (v : Value) (k N : Nat) : Prop :=
  N < 4294967296 ^ k ∧ k ≤ 9223372036854775807 ∧ ∃ ad cap, v = .slice ad k cap ∧ k ≤ cap ∧
    (0 < k → ∃ g o, ad = some ⟨g, o, none⟩ ∧ g < w.heap.size ∧ ∀ j, j < k → w.cell? ⟨g, o + j, none⟩ = some (.int .u32 (dg N j : Nat)))

theorem RowL.belowB {w w' : World} {v : Value} {k N : Nat} (h : RowL w v k N) (hb : Below w.heap.size w w') : RowL w' v k N := by
  obtain ⟨h1, h2, ad, cap, hv, hc, hcell⟩ := h
  refine ⟨h1, h2, ad, cap, hv, hc, fun hk => ?_⟩
  obtain ⟨g, o, ha, hg, hj⟩ := hcell hk
  exact ⟨g, o, ha, Nat.lt_of_lt_of_le hg hb.size, fun j hj' => by rw [hb.cell (p := ⟨g, o + j, none⟩) hg]; exact hj j hj'⟩

theorem RowL.row {w : World} {v : Value} {k N : Nat} (h : RowL w v k N) (hk : k ≤ 70368744177664) : Row w v k N := by
  obtain ⟨h1, h2, ad, cap, hv, hc, hcell⟩ := h
  refine ⟨h1, hk, ad, cap, hv, hc, fun hk => ?_⟩
  obtain ⟨g, o, ha, hg, hj⟩ := hcell hk
  exact ⟨g, o, ha, trivial, hj⟩

set_option maxRecDepth 100000 in
set_option maxHeartbeats 2000000 in
theorem nat_any (v : Value) (k N most : Nat) (w : World) (h : RowL w v k N) (hm : most ≤ 8192) :
    Calls Try.prog 36 #[v, .int .i64 most] w fun e w' => ∃ r, e = .returned r ∧ ∃ n, RowX (w.heap.size ≤ ·) w' r n (N % 4294967296 ^ (min k most)) ∧ Nrm n (N % 4294967296 ^ (min k most)) ∧ n ≤ most ∧ Below w.heap.size w w' := by
  obtain ⟨i5, hi5⟩ := info32
  have Hi := hide hi5
  clear hi5
  have HS0 : Hid (NatSt w N 0 (.slice none 0 0) w) := ⟨⟨by simp [limbsV], .inl ⟨rfl, rfl⟩⟩, Below.refl _ _⟩
  obtain ⟨hN, hk, ad, cap, rfl, hc, hcell⟩ := h
  have HC := hide hcell
  clear hcell hN
  obtain ⟨I, hI⟩ : ∃ I, I = min k most := ⟨_, rfl⟩
  have HI := hide hI
  have hI1 : I ≤ k := by omega
  have hI2 : I ≤ most := by omega
  clear hI
  go_enter Try.func36, Try.ntmps36
  go_wp2_with fail
  go_loopw [5, 6] (fun t5 t6 wr => ∃ i : Nat, i ≤ I ∧ t6 = .int .i64 i ∧ Hid (NatSt w N i t5 wr)) (fun _ t6 _ => I - (intOf t6).toNat)
  case atStart => exact ⟨0, by omega, rfl, HS0⟩
  case round =>
    obtain ⟨i, hi, rfl, HS⟩ := hrel
    by_cases hlt : i < I
    · have h1 : (i : Int) < (k : Int) := by omega
      have h2 : (i : Int) < (most : Int) := by omega
      obtain ⟨g, o, rfl, hg, hj⟩ := HC.out (by omega)
      have hx : wr.cell? ⟨g, o + i, none⟩ = some (.int .u32 (dg N i : Nat)) := by rw [HS.out.2.cell (p := ⟨g, o + i, none⟩) hg]; exact hj i (by omega)
      have Hnext := hide (fun (w4 : World) (g4 cap4 : Nat) => NatSt.next (w4 := w4) (g := g4) (cap := cap4) HS.out)
      clear hj
      generalize dg N i = x at *
      go_wp2_with (at_builtin; refine wpList_append_lies _ rfl _ _ _ rfl w.heap.size 58 i5 (.int .u32 0) 1 4 Try.underlying28 Hi.out.1 Hi.out.2.1 Hi.out.2.2.1 Hi.out.2.2.2 rfl (by decide) _ i (limbsV i N) rfl (HS.out.1.alloc _) ⟨wr.heap.size, 0, none⟩ 1 1 [.int .u32 (x : Nat)] rfl rfl ?d2 ?d3 (by decide) ?d4 ?d5 ?d7 _ rfl ?d6)
      case d2 => intro j u hj; exact cell_new1 wr _ 58 j u hj
      case d3 => intro u hu; simp at hu; subst hu; rfl
      case d4 => unfold maxLen; omega
      case d5 => omega
      case d7 => have := HS.out.2.size; simp; omega
      case d6 =>
        intro g4 cap4 w4 ho4 hg4 hat4 hlt4
        have H4 : Hid (NatSt w N (i + 1) (.slice (some ⟨g4, 0, none⟩) (i + 1) cap4) w4) := Hnext.out w4 g4 cap4 ho4 hg4
        clear ho4 hg4 hat4 hlt4 HS Hnext
        go_wp2_with fail
        go_roundw
        case rel => exact ⟨i + 1, by omega, by go_num, H4⟩
        case measure => simp [intOf]; omega
    · obtain rfl : i = I := by omega
      have hend : ¬ ((i : Int) < (k : Int) ∧ (i : Int) < (most : Int)) := by have := HI.out; omega
      have HF : Hid (∃ ad2 cap2, u5 = .slice ad2 i cap2 ∧ i ≤ cap2 ∧ (0 < i → ∃ g, ad2 = some ⟨g, 0, none⟩ ∧ w.heap.size ≤ g ∧ ∀ j, j < i → wr.cell? ⟨g, j, none⟩ = some (.int .u32 (dg (N % 4294967296 ^ i) j : Nat)))) := by
        rcases HS.out.1.2 with ⟨h1, h2⟩ | ⟨g, cap2, cur, h1, hb, hg, hc2, hm2, hs, ht⟩
        · exact ⟨none, 0, by rw [h1, h2], by omega, fun h => by omega⟩
        · refine ⟨_, cap2, h1, hc2, fun _ => ⟨g, rfl, hb, fun j hj => ?_⟩⟩
          rw [cell_of_row wr g j cur _ (0, 0) hg, dg_mod N hj, ← limbsV_get i N j hj, ← ht, List.getElem?_take, if_pos (by omega)]
          simp
      obtain ⟨ad2, cap2, rfl, hc2, hcell2⟩ := HF.out
      have HC2 := hide hcell2
      have HB := hide HS.out.2
      have HM : Hid (N % 4294967296 ^ i < 4294967296 ^ i ∧ N % 4294967296 ^ i = N % 4294967296 ^ (min k most)) := ⟨mod_lt _ _, by rw [← HI.out]⟩
      clear hcell2 HF HS HS0 HC
      generalize N % 4294967296 ^ i = M at *
      by_cases hik : i < k
      all_goals
        first
        | (have hb1 : (i : Int) < (k : Int) := (by omega))
        | (have hb1 : ¬ (i : Int) < (k : Int) := (by omega))
        go_wp2_with fail
        go_loop [5] (fun t5 => ∃ n : Nat, n ≤ i ∧ t5 = .slice ad2 n cap2 ∧ Hid (M < 4294967296 ^ n)) (fun t5 => slen t5)
        case atStart => exact ⟨i, Nat.le_refl _, rfl, HM.out.1⟩
        case round =>
          obtain ⟨n, hn, rfl, Hn⟩ := hrel
          have fin : Hid (Nrm n M → ∃ n', RowX (w.heap.size ≤ ·) wr (.slice ad2 n cap2) n' (N % 4294967296 ^ (min k most)) ∧ Nrm n' (N % 4294967296 ^ (min k most)) ∧ n' ≤ most ∧ Below w.heap.size w wr) := fun hnr => by
            rw [← HM.out.2]
            exact ⟨n, ⟨Hn.out, by omega, ad2, cap2, rfl, by omega, fun h0 => by obtain ⟨g, h1, hbb, h2⟩ := HC2.out (by omega); exact ⟨g, 0, h1, hbb, fun j hj => by rw [Nat.zero_add]; exact h2 j (by omega)⟩⟩, hnr, by omega, HB.out⟩
          by_cases h0 : n = 0
          · subst h0
            have Hfin := hide (fin.out ⟨Hn.out, .inl rfl⟩)
            clear fin
            go_wp2_with fail
            go_ret
            exact ⟨_, rfl, Hfin.out⟩
          · obtain ⟨m, rfl⟩ : ∃ m, n = m + 1 := ⟨n - 1, by omega⟩
            obtain ⟨g2, rfl, _, hj2⟩ := HC2.out (by omega)
            have hci := hj2 m (by omega)
            have h2' : (0 : Int) < ((m + 1 : Nat) : Int) := by omega
            have hmc : m ≤ cap2 := by omega
            have Hd : Hid (dg M m = 0 → M < 4294967296 ^ m) := fun h => Nrm.drop Hn.out h
            have Ht : Hid (dg M m ≠ 0 → Nrm (m + 1) M) := fun h => Nrm.of_top Hn.out h
            clear hj2 h0
            generalize dg M m = x at *
            by_cases hx : x = 0
            · subst hx
              clear fin
              go_wp2_with fail
              go_round
              case rel => exact ⟨m, by omega, rfl, Hd.out rfl⟩
              case measure => simp [slen]
            · have hx' : ((x : Int) == 0) = false := by rw [beq_eq_false_iff_ne]; omega
              have Hfin := hide (fin.out (Ht.out hx))
              clear hx fin
              go_wp2_with fail
              go_ret
              exact ⟨_, rfl, Hfin.out⟩

end Go.Proofs.Ytfbkdjghbgdgpaa

/- grow: times a limb, and a limb more, in place; a limb on top where it is needed. -/
import Derived.Test.YtfbkdjghbgdgpaaS
namespace Go.Proofs.Ytfbkdjghbgdgpaa
open Go.RowKit
open M
set_option linter.unusedVariables false
set_option linter.unusedSimpArgs false

/-- What comes over behind i limbs. -/
def growC (N t m i : Nat) : Nat := (N % 4294967296 ^ i * t + m) / 4294967296 ^ i

theorem growC_zero (N t m : Nat) : growC N t m 0 = m := by simp [growC, Nat.mod_one]

theorem growC_le (N t m i : Nat) (ht : t < 4294967296) (hm : m < 4294967296) : growC N t m i ≤ 4294967295 := by
  rcases i with _ | i
  · rw [growC_zero]; omega
  · unfold growC
    have h1 := mod_lt N (i + 1)
    have h2 : N % 4294967296 ^ (i + 1) * t ≤ N % 4294967296 ^ (i + 1) * 4294967295 := Nat.mul_le_mul_left _ (by omega)
    have h3 := pw_pos i
    have h4 := pw_succ i
    have : (N % 4294967296 ^ (i + 1) * t + m) / 4294967296 ^ (i + 1) < 4294967296 := by
      rw [Nat.div_lt_iff_lt_mul (pw_pos _)]; omega
    omega

theorem grow_step (N t m i : Nat) : (growC N t m i + dg N i * t) % 4294967296 = dg (N * t + m) i ∧ (growC N t m i + dg N i * t) / 4294967296 = growC N t m (i + 1) := by
  have e : growC N t m i + dg N i * t = (N % 4294967296 ^ (i + 1) * t + m) / 4294967296 ^ i := by
    unfold growC
    rw [← carry_div, mod_succ, Nat.add_mul, Nat.mul_assoc]
    congr 1; omega
  constructor
  · rw [e]
    refine dg_of_mod (X := N % 4294967296 ^ (i + 1) * t + m) ?_
    rw [Nat.add_mod, Nat.mul_mod, Nat.mod_mod, ← Nat.mul_mod, ← Nat.add_mod]
  · rw [e, carry_next]; rfl

theorem growC_all {N t m k : Nat} (hN : N < 4294967296 ^ k) : growC N t m k = (N * t + m) / 4294967296 ^ k := by
  unfold growC; rw [mod_self hN]

/-- A block of cells, so many. -/
def Shape (w : World) (g cap : Nat) : Prop := ∃ cur, w.heap[g]? = some (.cells cur 58 (0, 0)) ∧ cur.size = cap

theorem Shape.setCell {w : World} {g cap : Nat} (h : Shape w g cap) (i : Nat) (v : Value) : Shape (w.setCell ⟨g, i, none⟩ v) g cap := by
  obtain ⟨cur, h1, h2⟩ := h
  refine ⟨cur.setIfInBounds i v, ?_, by simp [h2]⟩
  simp [World.setCell, Array.getElem?_modify, h1]

theorem Shape.owns {w : World} {g cap base k X : Nat} (h : Shape w g cap) (hb : base ≤ g) (hk : k ≤ cap) (hc : cap ≤ maxLen) (hcell : ∀ j, j < k → w.cell? ⟨g, 0 + j, none⟩ = some (.int .u32 (dg X j : Nat))) :
    w.ownsRow base 58 1 (.slice (some ⟨g, 0, none⟩) k cap) k (limbsV k X) := by
  obtain ⟨cur, h1, h2⟩ := h
  refine ⟨by simp [limbsV], .inr ⟨g, cap, cur, rfl, hb, h1, hk, hc, by rw [h2, Nat.mul_one], ?_⟩⟩
  rw [Nat.mul_one]
  refine List.ext_getElem? fun j => ?_
  rw [List.getElem?_take]
  split
  · rename_i hj
    have := hcell j hj
    rw [Nat.zero_add, cell_of_row w g j cur _ (0, 0) h1] at this
    rw [limbsV_get k X j hj, ← this]; simp
  · rename_i hj
    rw [List.getElem?_eq_none (by simp [limbsV]; omega)]

/-- Behind i limbs of grow. -/
structure GrowSt (w : World) (base : Nat) (ad : Option Addr) (k cap N X i : Nat) (wr : World) : Prop where
  below : Below base w wr
  some : 0 < k → ∃ g, ad = some ⟨g, 0, none⟩ ∧ base ≤ g ∧ Mid wr g 0 k i N X ∧ Shape wr g cap ∧ k ≤ cap ∧ cap ≤ maxLen
  none : k = 0 → wr.ownsRow base 58 1 (.slice ad k cap) k (limbsV k X)

theorem GrowSt.start {w : World} {base : Nat} {ad : Option Addr} {k cap N : Nat} (h : w.ownsRow base 58 1 (.slice ad k cap) k (limbsV k N)) (X : Nat) : GrowSt w base ad k cap N X 0 w := by
  refine ⟨Below.refl _ _, fun hk => ?_, fun hk => ?_⟩
  · rcases h.2 with ⟨h1, h2⟩ | ⟨g, cap', cur, h1, hb, hg, hc, hm, hs, ht⟩
    · omega
    · cases h1
      refine ⟨g, rfl, hb, ⟨fun j hj => by omega, fun j _ hj => ?_, fun j _ => frozen_of_row w g _ _ _ hg⟩, ⟨cur, hg, by omega⟩, hc, hm⟩
      rw [Nat.zero_add, cell_of_row w g j cur _ (0, 0) hg, ← limbsV_get k N j hj, ← ht, List.getElem?_take, if_pos (by omega)]
      simp
  · subst hk; exact h

theorem GrowSt.done {w wr : World} {base : Nat} {ad : Option Addr} {k cap N X : Nat} (h : GrowSt w base ad k cap N X k wr) : wr.ownsRow base 58 1 (.slice ad k cap) k (limbsV k X) := by
  rcases Nat.eq_zero_or_pos k with hk | hk
  · exact h.none hk
  · obtain ⟨g, rfl, hb, hM, hs, h1, h2⟩ := h.some hk
    exact hs.owns hb h1 h2 fun j hj => hM.lo j hj

theorem GrowSt.step {w wr : World} {base g : Nat} {k cap N X i : Nat} (h : GrowSt w base (.some ⟨g, 0, .none⟩) k cap N X i wr) (hi : i < k) (hw : base ≤ w.heap.size) (y : Int) (hy : y = (dg X i : Nat)) :
    GrowSt w base (.some ⟨g, 0, .none⟩) k cap N X (i + 1) (wr.setCell ⟨g, i, .none⟩ (.int .u32 y)) := by
  obtain ⟨g', e, hb, hM, hs, h1, h2⟩ := h.some (by omega)
  simp only [Option.some.injEq, Addr.mk.injEq, and_true] at e
  subst e
  have e0 : i = 0 + i := by omega
  rw [e0]
  have e1 : 0 + i + 1 = i + 1 := by omega
  rw [e1]
  refine ⟨h.below.trans ((Only.refl g 0 k _).setCell (0 + i) (by omega) (by omega) _ |>.below hb (Nat.le_trans hw h.below.size)), fun _ => ⟨g, rfl, hb, hM.step hi y hy, hs.setCell _ _, h1, h2⟩, fun h => by omega⟩

theorem grow_nrm {k N t m : Nat} (hn : Nrm k N) (ht : 1 ≤ t) (h : N * t + m < 4294967296 ^ k) : Nrm k (N * t + m) := by
  refine ⟨h, hn.2.imp id fun h => ?_⟩
  have : N * 1 ≤ N * t := Nat.mul_le_mul_left _ ht
  omega

set_option maxRecDepth 100000 in
set_option maxHeartbeats 1000000 in
theorem grow_any (v : Value) (base k N t m : Nat) (w : World) (h : Own w base v k N) (hn : Nrm k N) (hk : k ≤ 100000) (ht1 : 1 ≤ t) (ht : t < 4294967296) (hm : m < 4294967296) (hw : base ≤ w.heap.size) :
    Calls Try.prog 31 #[v, .int .u32 t, .int .u32 m] w fun e w' => ∃ r k', e = .returned r ∧ Own w' base r k' (N * t + m) ∧ Nrm k' (N * t + m) ∧ k' ≤ k + 1 ∧ Below base w w' := by
  obtain ⟨i5, hi5⟩ := info32
  have Hi := hide hi5
  clear hi5
  obtain ⟨ad, cap, rfl⟩ : ∃ ad cap, v = .slice ad k cap := by obtain ⟨_, _, ad, cap, hv, _⟩ := h.rowX; exact ⟨ad, cap, hv⟩
  have HS0 := hide (GrowSt.start h.2.2 (N * t + m))
  have HE : Hid (growC N t m k = (N * t + m) / 4294967296 ^ k) := growC_all hn.1
  have HN := hide hn
  have HT := hide ht1
  have HW := hide hw
  have hkc : k ≤ 9223372036854775807 := by omega
  clear h hn ht1 hw
  go_enter Try.func31, Try.ntmps31
  go_wp2_with fail
  go_loopw [7, 13] (fun t7 t13 wr => ∃ i : Nat, i ≤ k ∧ t7 = .int .u64 (growC N t m i : Nat) ∧ t13 = .int .i64 i ∧ Hid (GrowSt w base ad k cap N (N * t + m) i wr)) (fun _ t13 _ => k - (intOf t13).toNat)
  case atStart => exact ⟨0, by omega, by rw [growC_zero], rfl, HS0⟩
  case round =>
    obtain ⟨i, hi, rfl, rfl, HM⟩ := hrel
    by_cases hlt : i < k
    · have hlt' : (i : Int) < (k : Int) := by omega
      obtain ⟨g, rfl, hb, hM, _, hkcap, _⟩ := HM.out.some (by omega)
      have hx := hM.hi i (Nat.le_refl _) hlt
      have hfr := hM.free i hlt
      rw [Nat.zero_add] at hx hfr
      have Hs := hide (grow_step N t m i)
      have hxl := dg_lt N i
      have hcl := growC_le N t m i ht hm
      have hroom := mul_room (dg N i) t 0 0 hxl ht (by omega) (by omega)
      have hroom2 : growC N t m i + dg N i * t < 18446744073709551616 := by
        have : dg N i * t ≤ 4294967295 * 4294967295 := Nat.mul_le_mul (by omega) (by omega)
        omega
      clear hM
      generalize dg N i = x at *
      generalize growC N t m i = c at *
      obtain ⟨p, hp, hp'⟩ : ∃ p : Nat, p = x * t ∧ (x : Int) * (t : Int) = (p : Int) := ⟨x * t, rfl, by rw [Int.natCast_mul]⟩
      rw [← hp] at hroom hroom2 Hs
      clear hp
      go_wp2_with fail
      go_roundw
      case rel =>
        refine ⟨i + 1, by omega, ?_, by go_num, ?_⟩
        · rw [← Hs.out.2]; exact congrArg _ (by omega)
        · exact HM.out.step hlt HW.out _ (by rw [← Hs.out.1]; omega)
      case measure => simp [intOf]; omega
    · obtain rfl : i = k := by omega
      have hcl := growC_le N t m i ht hm
      have HO := hide HM.out.done
      rw [HE.out] at hcl ⊢
      by_cases h0 : (N * t + m) / 4294967296 ^ i = 0
      · have HX : Hid (N * t + m < 4294967296 ^ i) := by
          rcases Nat.lt_or_ge (N * t + m) (4294967296 ^ i) with h | h
          · exact h
          · have := Nat.div_pos h (pw_pos i); omega
        rw [h0]
        go_wp2_with fail
        go_ret
        exact ⟨_, i, rfl, ⟨HX.out, by omega, HO.out⟩, grow_nrm HN.out HT.out HX.out, by omega, HM.out.below⟩
      · have HX : Hid (dg (N * t + m) i = (N * t + m) / 4294967296 ^ i) := Nat.mod_eq_of_lt (by omega)
        generalize hc : (N * t + m) / 4294967296 ^ i = c at *
        have h0' : ((c : Nat) : Int) ≠ 0 := by omega
        have Hend : Hid (∀ (w4 : World) (g4 cap4 : Nat), w4.ownsRow base 58 1 (.slice (some ⟨g4, 0, none⟩) (i + 1) cap4) (i + 1) (limbsV i (N * t + m) ++ [.int .u32 (c : Nat)]) → (wr.alloc (.cells #[.int .u32 (c : Nat)] 58)).grownBy w4 (Value.slice ad i cap).ownBlock →
            ∃ k', Own w4 base (.slice (some ⟨g4, 0, none⟩) (i + 1) cap4) k' (N * t + m) ∧ Nrm k' (N * t + m) ∧ k' ≤ i + 1 ∧ Below base w w4) := by
          intro w4 g4 cap4 ho hg
          have hlt : N * t + m < 4294967296 ^ (i + 1) := by
            have := Nat.div_add_mod (N * t + m) (4294967296 ^ i)
            have := mod_lt (N * t + m) i
            rw [hc] at *
            rw [pw_succ]
            have h3 : 4294967296 ^ i * c ≤ 4294967296 ^ i * 4294967295 := Nat.mul_le_mul_left _ (by omega)
            omega
          refine ⟨i + 1, ⟨hlt, by omega, ?_⟩, Nrm.of_top hlt (by rw [HX.out]; omega), Nat.le_refl _, ?_⟩
          · rw [limbsV_succ, HX.out]; exact ho
          · exact (HM.out.below.alloc (Nat.le_trans HW.out HM.out.below.size) _).trans (grown_below hg (fun g hg => (HO.out.lt g hg).1) (by have := HM.out.below.size; have := HW.out; simp; omega))
        have HWr : Hid (base ≤ wr.heap.size) := Nat.le_trans HW.out HM.out.below.size
        have hcl' : (c : Int) ≤ 4294967295 := by omega
        clear hc HX HM
        go_wp2_with (at_builtin; refine wpList_append_lies _ rfl _ _ _ rfl base 58 i5 (.int .u32 0) 1 4 Try.underlying27 Hi.out.1 Hi.out.2.1 Hi.out.2.2.1 Hi.out.2.2.2 rfl (by decide) _ i (limbsV i (N * t + m)) rfl (HO.out.alloc _) ⟨wr.heap.size, 0, none⟩ 1 1 [.int .u32 (c : Nat)] rfl rfl ?d2 ?d3 (by decide) ?d4 ?d5 ?d7 _ rfl ?d6)
        case d2 => intro j u hj; exact cell_new1 wr _ 58 j u hj
        case d3 => intro u hu; simp at hu; subst hu; rfl
        case d4 => unfold maxLen; omega
        case d5 => omega
        case d7 => have := HWr.out; simp; omega
        case d6 =>
          intro g4 cap4 w4 ho4 hg4 hat4 hlt4
          have H4 := hide (Hend.out w4 g4 cap4 ho4 hg4)
          clear ho4 hg4 hat4 hlt4 Hend
          go_wp2_with fail
          go_ret
          obtain ⟨k', h1, h2, h3, h4⟩ := H4.out
          exact ⟨_, k', rfl, h1, h2, h3, h4⟩

end Go.Proofs.Ytfbkdjghbgdgpaa

/- The document's Text of a number. -/
import Derived.Test.YtmfimhpbdbbpoaaDoorCO
import Derived.Test.YtmfimhpbdbbpoaaDoorCR
import Derived.Test.YtmfimhpbdbbpoaaDoorQ
namespace Go.Proofs.YtmfimhpbdbbpoaaDoor
open Go.RowKit
open M
set_option linter.unusedVariables false
set_option linter.unusedSimpArgs false

/-- A row of bytes of one's own: the first i of f. -/
structure ByF (w0 : World) (f : Nat → Nat) (i : Nat) (v : Value) (w : World) : Prop where
  own : w.ownsRow w0.heap.size 5 1 v i (bytesV ((List.range i).map f))
  below : Below w0.heap.size w0 w

theorem ByF.form {w0 : World} {f : Nat → Nat} {i : Nat} {v : Value} {w : World} (h : ByF w0 f i v w) : ∃ ad cap, v = .slice ad i cap ∧ (0 < i → ∃ g, ad = some ⟨g, 0, none⟩ ∧ w0.heap.size ≤ g ∧ g < w.heap.size ∧ ∀ j, j < i → w.cell? ⟨g, j, none⟩ = some (.int .u8 (f j : Nat))) := by
  rcases h.own.2 with ⟨h1, h2⟩ | ⟨g, cap, cur, h1, h2⟩
  · rw [h1, h2]; exact ⟨_, _, rfl, fun h => by omega⟩
  · refine ⟨some ⟨g, 0, none⟩, cap, h1, fun _ => ⟨g, rfl, ?_⟩⟩
    have ho := h.own
    rw [h1] at ho
    have hl := ho.lt g rfl
    refine ⟨hl.1, hl.2, fun j hj => ?_⟩
    rw [ho.cellAt j (by omega)]
    simp [bytesV, hj]

theorem ByF.later {w0 : World} {f : Nat → Nat} {i : Nat} {v : Value} {w w' : World} (h : ByF w0 f i v w) (hb : Below w.heap.size w w') : ByF w0 f i v w' :=
  ⟨ownsRow_keep h.own fun g hg => hb.block g (h.own.lt g hg).2, h.below.trans (hb.mono h.below.size)⟩

theorem ByF.next {w0 : World} {f : Nat → Nat} {i c : Nat} {v : Value} {w w' : World} {g cap : Nat} (h : ByF w0 f i v w) (o : Obj) (hc : f i = c)
    (ho : w'.ownsRow w0.heap.size 5 1 (.slice (some ⟨g, 0, none⟩) (i + 1) cap) (i + 1) (bytesV ((List.range i).map f) ++ [.int .u8 (c : Nat)]))
    (hg : (w.alloc o).grownBy w' v.ownBlock) : ByF w0 f (i + 1) (.slice (some ⟨g, 0, none⟩) (i + 1) cap) w' := by
  refine ⟨?_, (h.below.alloc h.below.size _).trans (grown_below hg (fun g hg => (h.own.lt g hg).1) (by have := h.below.size; simp; omega))⟩
  rw [List.range_succ, List.map_append, bytesV_append]
  rw [← hc] at ho
  exact ho

/-- What lies in other blocks stays, too. -/
theorem RowX.grown {w w' : World} {x v : Value} {n k X : Nat} {o : Obj} {mid : Nat} (h : RowX (mid ≤ ·) w x n X) (hv : ∀ g, v.ownBlock = some g → g < mid) (hg : (w.alloc o).grownBy w' v.ownBlock) : Row w' x n X :=
  (h.keep fun g p hm hgl => by
    rw [World.cell?_of_block (w := w) (w' := w') (a := ⟨g, p, none⟩)]
    rw [hg.block g (by simp; omega) (fun e => by have := hv g e.symm; omega)]
    exact Below.heap_alloc _ _ _ hgl).row

theorem ten_two {t N k : Nat} (h : 10 ^ t ≤ N) (hN : N < 4294967296 ^ k) (hk : k ≤ 8192) : t ≤ 262144 := by
  have h1 : 2 ^ t ≤ 10 ^ t := Nat.pow_le_pow_left (by omega) t
  have h2 : (4294967296 : Nat) ^ k = 2 ^ (32 * k) := by rw [Nat.pow_mul]
  rw [h2] at hN
  have h3 : 2 ^ t < 2 ^ (32 * k) := by omega
  have := (Nat.pow_lt_pow_iff_right (by omega : 1 < 2)).1 h3
  omega

theorem txt_rev (L N : Nat) : (List.range L).map (fun p => 48 + d10 N (L - 1 - p)) = txt L N := rfl

set_option maxRecDepth 100000 in
set_option maxHeartbeats 4000000 in
theorem rText_ok {S : Nat → Prop} (v : Value) (k N : Nat) (w : World) (h : RowX S w v k N) (hn : Nrm k N) (hk : k ≤ 8192) :
    Calls Tryd.prog 25 #[v] w fun e w' => ∃ L, e = .returned (.string (strOf (txt L N))) ∧ Dec0 L N ∧ Below w.heap.size w w' := by
  obtain ⟨i5, hi5⟩ := info8
  have Hi := hide hi5
  clear hi5
  have HC := hide (rcheck_any v k N w h)
  rw [chk_nrm hn hk] at HC
  have HT := hide (rtrim_any v k N w h (by omega))
  have HN : Hid (N < 4294967296 ^ k) := h.1
  clear h hn
  go_enter Tryd.func25, Tryd.ntmps25
  go_wp2_with (first
    | (go_at_call 21; refine HC.out.mono ?_; rintro e w1 ⟨rfl, hw⟩; have hw1 := hw.symm; subst hw1; clear HC)
    | (go_at_call 56; refine HT.out.mono ?_; rintro e w2 ⟨x, rfl, n2, ho, hn2, hk2, hb⟩; have H2 : Hid (Num w2 x N ∧ Below w.heap.size w w2) := ⟨⟨n2, ho.row, hn2, Nat.le_trans hk2 hk⟩, hb⟩; clear ho hn2 hk2 hb HT))
  go_loopw [3, 4] (fun t3 t4 wr => ∃ t : Nat, t ≤ 262145 ∧ Hid (ByF w (fun j => 48 + d10 N j) t t3 wr ∧ Num wr t4 (N / 10 ^ t) ∧ (t = 0 ∨ 10 ^ (t - 1) ≤ N))) (fun _ t4 wr => valOf wr t4)
  case atStart => exact ⟨0, by omega, ⟨World.ownsRow_nil _ _ _ _, H2.out.2⟩, by rw [Nat.pow_zero, Nat.div_one]; exact H2.out.1, .inl rfl⟩
  case round =>
    obtain ⟨t, htb, HM⟩ := hrel
    obtain ⟨n, hx1, hx2, hx3⟩ := HM.out.2.1
    have hz := hx2.zero_iff
    by_cases hn0 : n = 0
    · have HX0 : Hid (N / 10 ^ t = 0) := hz.1 hn0
      subst hn0
      obtain ⟨_, _, adx, capx, rfl, _, _⟩ := hx1
      clear hx2 hz
      by_cases ht0 : t = 0
      · have HE : Hid (Dec0 1 N ∧ Below w.heap.size w wr) := by
          have h0 := HX0.out
          rw [ht0, Nat.pow_zero, Nat.div_one] at h0
          rw [h0]
          exact ⟨dec0_zero, HM.out.1.below⟩
        subst ht0
        have HZ : Hid (strOf (txt 1 N) = ⟨#[48]⟩) := by
          have h0 := HX0.out
          rw [Nat.pow_zero, Nat.div_one] at h0
          rw [h0]
          show strOf (txt 1 0) = _
          decide +kernel
        obtain ⟨adb, capb, hb3, _⟩ := HM.out.1.form
        clear HM
        go_wp2_with fail
        go_ret
        exact ⟨1, by rw [HZ.out]; rfl, HE.out⟩
      · have ht1 : ¬ (t : Int) = 0 := by omega
        have ht2 : ((t : Int) == 0) = false := by simpa using ht0
        have HD : Hid (Dec0 t N) := ⟨lt_tw_of_quo HX0.out, by omega, .inr (HM.out.2.2.resolve_left ht0)⟩
        obtain ⟨adb, capb, hb3, hb4⟩ := HM.out.1.form
        obtain ⟨gb, rfl, hg1, hg2, hg3⟩ := hb4 (by omega)
        have HB := hide (And.intro hg1 (And.intro hg2 hg3))
        have HW := hide HM.out.1.below
        clear hb4 hg1 hg2 hg3 HM HX0
        obtain ⟨wb, rfl⟩ : ∃ wb, wb = wr := ⟨_, rfl⟩
        go_wp2_with fail
        go_loopw [7, 8] (fun t7 t8 wr => ∃ i : Nat, i ≤ t ∧ t8 = .int .i64 ((t : Int) - 1 - (i : Int)) ∧ Hid (ByF wb (fun p => 48 + d10 N (t - 1 - p)) i t7 wr)) (fun _ t8 _ => (intOf t8 + 1).toNat)
        case atStart => exact ⟨0, by omega, by go_num, World.ownsRow_nil _ _ _ _, Below.refl _ _⟩
        case round =>
          obtain ⟨i, hi, rfl, HI⟩ := hrel
          by_cases hlt : i < t
          · obtain ⟨j, hj1, hj2⟩ : ∃ j : Nat, t - 1 - i = j ∧ (t : Int) - 1 - (i : Int) = (j : Int) := ⟨t - 1 - i, rfl, by omega⟩
            rw [hj2]
            have hjt : (j : Int) < (t : Int) := by omega
            have HJ : Hid (t - 1 - i = j ∧ (t : Int) - 1 - ((i + 1 : Nat) : Int) = (j : Int) - 1) := ⟨hj1, by omega⟩
            have hx : wr.cell? ⟨gb, j, none⟩ = some (.int .u8 ((48 + d10 N j : Nat) : Int)) := by rw [HI.out.below.cell (p := ⟨gb, j, none⟩) HB.out.2.1]; exact HB.out.2.2 j (by omega)
            obtain ⟨c, hc⟩ : ∃ c, 48 + d10 N j = c := ⟨_, rfl⟩
            have HCc := hide hc
            rw [hc] at hx
            clear hc hj1 hj2
            obtain ⟨adu, capu, hu7, _⟩ := HI.out.form
            have HU := hide hu7
            go_wp2_with (at_builtin; refine wpList_append_lies _ rfl _ _ _ rfl wb.heap.size 5 i5 (.int .u8 0) 1 1 Tryd.underlying46 Hi.out.1 Hi.out.2.1 Hi.out.2.2.1 Hi.out.2.2.2 rfl (by decide) _ i (bytesV ((List.range i).map (fun p => 48 + d10 N (t - 1 - p)))) rfl (HI.out.own.alloc _) ⟨wr.heap.size, 0, none⟩ 1 1 [.int .u8 (c : Nat)] rfl rfl ?d2 ?d3 (by decide) ?d4 ?d5 ?d7 _ rfl ?d6)
            case d2 => intro j u hj; exact cell_new1 wr _ 5 j u hj
            case d3 => intro u hu; simp at hu; subst hu; rfl
            case d4 => unfold maxLen; omega
            case d5 => omega
            case d7 => have := HI.out.below.size; simp; omega
            case d6 =>
              intro g4 cap4 w4 ho4 hg4 hat4 hlt4
              have H4 : Hid (ByF wb (fun p => 48 + d10 N (t - 1 - p)) (i + 1) (.slice (some ⟨g4, 0, none⟩) (i + 1) cap4) w4) :=
                HI.out.next _ (by show 48 + d10 N (t - 1 - i) = c; rw [HJ.out.1, HCc.out]) ho4 (by rw [HU.out]; exact hg4)
              clear ho4 hg4 hat4 hlt4
              go_wp2_with fail
              go_roundw
              case rel => exact ⟨i + 1, by omega, by rw [HJ.out.2], H4.out⟩
              case measure => simp [intOf] <;> omega
          · obtain rfl : i = t := by omega
            have hneg : ¬ (0 : Int) ≤ (i : Int) - 1 - (i : Int) := by omega
            obtain ⟨ado, capo, hu7, ho4⟩ := HI.out.form
            obtain ⟨go, rfl, _, _, hcc⟩ := ho4 (by omega)
            have hcv := convert_bytes wr go capo (txt i N) (fun p hp => by rw [txt_length] at hp; rw [txt_get i N p hp]; exact hcc p hp)
            rw [txt_length] at hcv
            obtain ⟨tx, htx⟩ : ∃ tx, tx = strOf (txt i N) := ⟨_, rfl⟩
            rw [← htx] at hcv
            have HX := hide htx
            have HF : Hid (Below w.heap.size w wr) := HW.out.trans (HI.out.below.mono HW.out.size)
            clear htx hcc ho4 HI
            subst hu7
            go_wp2_with fail
            go_ret
            exact ⟨i, by rw [← HX.out]; rfl, HD.out, HF.out⟩
    · have hX0 : N / 10 ^ t ≠ 0 := fun e => hn0 (hz.2 e)
      have h10 := le_of_quo hX0
      have htb2 := ten_two h10 HN.out hk
      have HTE := hide (rTenth_any u4 n (N / 10 ^ t) wr hx1 (by omega))
      have HV := hide HM.out.2.1.val
      have HX0 := hide hX0
      have H10 := hide h10
      have HXN := hide hx3
      obtain ⟨_, _, adx, capx, rfl, _, _⟩ := hx1
      have hn1 : (0 : Int) < (n : Int) := by omega
      obtain ⟨adb, capb, hb3, _⟩ := HM.out.1.form
      have HU := hide hb3
      clear hx2 hz hX0 h10
      go_wp2_with fail
      refine HTE.out.mono ?_
      rintro e w3 ⟨x, m, rfl, hxo, hxn, hxm, hb⟩
      have H3 : Hid (Own w3 wr.heap.size x m (N / 10 ^ t / 10) ∧ Nrm m (N / 10 ^ t / 10) ∧ m ≤ 8192 ∧ ByF w (fun j => 48 + d10 N j) t (.slice adb t capb) w3) := ⟨hxo, hxn, by have := HXN.out; omega, by rw [← HU.out]; exact HM.out.1.later hb⟩
      have HOB : Hid (∀ g, (Value.slice adb t capb).ownBlock = some g → g < wr.heap.size) := by
        have h5 := HM.out.1.own
        rw [HU.out] at h5
        exact fun g hg => (h5.lt g hg).2
      have hdl : N / 10 ^ t % 10 < 10 := Nat.mod_lt _ (by omega)
      have HDD : Hid (d10 N t = N / 10 ^ t % 10) := rfl
      clear hxo hxn hxm hb HTE
      generalize N / 10 ^ t % 10 = d at *
      obtain ⟨c, hc, hc1⟩ : ∃ c : Nat, 48 + d = c ∧ 48 + (d : Int) = (c : Int) := ⟨_, rfl, by omega⟩
      have hcb : c < 58 := by omega
      have HCc : Hid (48 + d10 N t = c) := by show _ = _; rw [HDD.out, hc]
      clear hc
      go_wp2_with (at_builtin; refine wpList_append_lies _ rfl _ _ _ rfl w.heap.size 5 i5 (.int .u8 0) 1 1 Tryd.underlying46 Hi.out.1 Hi.out.2.1 Hi.out.2.2.1 Hi.out.2.2.2 rfl (by decide) _ t (bytesV ((List.range t).map (fun j => 48 + d10 N j))) rfl (H3.out.2.2.2.own.alloc _) ⟨w3.heap.size, 0, none⟩ 1 1 [.int .u8 (c : Nat)] rfl rfl ?d2 ?d3 (by decide) ?d4 ?d5 ?d7 _ rfl ?d6)
      case d2 => intro j u hj; exact cell_new1 w3 _ 5 j u hj
      case d3 => intro u hu; simp at hu; subst hu; rfl
      case d4 => unfold maxLen; omega
      case d5 => omega
      case d7 => have := H3.out.2.2.2.below.size; simp; omega
      case d6 =>
        intro g4 cap4 w4 ho4 hg4 hat4 hlt4
        have H4 : Hid (ByF w (fun j => 48 + d10 N j) (t + 1) (.slice (some ⟨g4, 0, none⟩) (t + 1) cap4) w4 ∧ Num w4 x (N / 10 ^ (t + 1)) ∧ (t + 1 = 0 ∨ 10 ^ (t + 1 - 1) ≤ N)) := by
          refine ⟨H3.out.2.2.2.next _ HCc.out ho4 hg4, ?_, .inr (by rw [Nat.add_sub_cancel]; exact H10.out)⟩
          rw [Nat.pow_succ, ← Nat.div_div_eq_div_mul]
          exact ⟨m, RowX.grown (k := 0) (v := .slice adb t capb) H3.out.1.rowX HOB.out hg4, H3.out.2.1, H3.out.2.2.1⟩
        have HQ : Hid (valOf w4 x < valOf wr (.slice adx n capx)) := by
          show _ < _
          rw [H4.out.2.1.val, HV.out, Nat.pow_succ, ← Nat.div_div_eq_div_mul]
          exact Nat.div_lt_self (Nat.pos_of_ne_zero HX0.out) (by omega)
        clear ho4 hg4 hat4 hlt4 H3
        go_wp2_with fail
        go_roundw
        case rel => exact ⟨t + 1, by omega, H4.out⟩
        case measure => exact HQ.out

end Go.Proofs.YtmfimhpbdbbpoaaDoor

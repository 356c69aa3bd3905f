/- slices.Reverse, Text. -/
import Derived.Test.YtmfimhpbdbbpoaaDoorK
import Derived.Test.YtmfimhpbdbbpoaaDoorL
import Derived.Deep.AppendLies
import Derived.RegionTactic
import Derived.BigRegion
import Derived.ShutString
/- digitsOf. -/
namespace Go.Proofs.YtmfimhpbdbbpoaaDoor
open Go.RowKit
open M
set_option linter.unusedVariables false
set_option linter.unusedSimpArgs false

def bytesV (l : List Nat) : List Value := l.map fun n => .int .u8 (n : Nat)
@[simp] theorem bytesV_length (l : List Nat) : (bytesV l).length = l.length := by simp [bytesV]
theorem bytesV_append (l m : List Nat) : bytesV (l ++ m) = bytesV l ++ bytesV m := by simp [bytesV]

theorem info8 : ∃ i5, Tryd.prog.info? 5 = some i5 ∧ i5.zero = some (.int .u8 0) ∧ i5.size = 1 ∧ i5.bytes = 1 := by
  have hz : (Tryd.prog.info? 5).bind (·.zero) = some (.int .u8 0) := by kernel_rfl
  have hs : (Tryd.prog.info? 5).map (·.size) = some 1 := by kernel_rfl
  have hb : (Tryd.prog.info? 5).map (·.bytes) = some 1 := by kernel_rfl
  cases hi : Tryd.prog.info? 5 with
  | none => simp [hi] at hs
  | some i5 =>
    simp only [hi, Option.bind_some, Option.map_some, Option.some.injEq] at hz hs hb
    exact ⟨i5, rfl, hz, hs, hb⟩

theorem cell_new1 (w : World) (x : Value) (t : TypeId) (j : Nat) (u : Value) (h : ([x] : List Value)[j]? = some u) : (w.alloc (.cells #[x] t)).cell? ((⟨w.heap.size, 0, none⟩ : Addr).add j) = some u := by
  match j, h with
  | 0, h => simp at h; subst h; rw [show (⟨w.heap.size, 0, none⟩ : Addr).add 0 = ⟨w.heap.size, 0 + 0, none⟩ from by unfold Addr.add; split <;> simp_all, cell_of_row _ _ _ _ _ _ (heap_alloc_new _ _)]; rfl

theorem ownsRow_keep {w w' : World} {base : Nat} {t : TypeId} {size : Nat} {v : Value} {n : Nat} {xs : List Value} (h : w.ownsRow base t size v n xs) (hk : ∀ g, v.ownBlock = some g → w'.heap[g]? = w.heap[g]?) : w'.ownsRow base t size v n xs := by
  obtain ⟨h1, h2⟩ := h
  refine ⟨h1, ?_⟩
  rcases h2 with h2 | ⟨g, cap, cur, rfl, h4, h5, h6⟩
  · exact .inl h2
  · exact .inr ⟨g, cap, cur, rfl, h4, (hk g rfl).trans h5, h6⟩

theorem grown_below {w w' : World} {row : Option Nat} {B : Nat} (hg : w.grownBy w' row) (hr : ∀ g, row = some g → B ≤ g) (hB : B ≤ w.heap.size) : Below B w w' :=
  ⟨hg.os, hg.tape, hg.output, hg.size, fun k hk => hg.block k (by omega) (fun e => by have := hr k e.symm; omega)⟩

/-- A slice's length. -/
def slen : Value → Nat | .slice _ n _ => n | _ => 0

/-- Behind t digits. -/
structure DigSt (w0 : World) (N t : Nat) (vd : Value) (gw : Nat) (w : World) : Prop where
  own : w.ownsRow w0.heap.size 5 1 vd t (bytesV (dgs N t))
  ne : vd.ownBlock ≠ some gw
  below : Below w0.heap.size w0 w
  lt : w0.heap.size < w.heap.size
  gw : w0.heap.size ≤ gw ∧ gw < w.heap.size

theorem DigSt.len {w0 : World} {N t : Nat} {vd : Value} {gw : Nat} {w : World} (h : DigSt w0 N t vd gw w) : slen vd = t := by
  rcases h.own.2 with ⟨h1, h2⟩ | ⟨g, cap, cur, h1, _⟩
  · rw [h1, h2]; rfl
  · rw [h1]; rfl

theorem DigSt.only {w0 : World} {N t : Nat} {vd : Value} {gw : Nat} {w w' : World} {lo hi : Nat} (h : DigSt w0 N t vd gw w) (ho : Only gw lo hi w w') : DigSt w0 N t vd gw w' := by
  refine ⟨ownsRow_keep h.own (fun g hg => ho.block g (h.own.lt g hg).2 (fun e => h.ne (e ▸ hg))), h.ne, h.below.trans (ho.below h.gw.1 h.below.size), Nat.lt_of_lt_of_le h.lt ho.size, h.gw.1, Nat.lt_of_lt_of_le h.gw.2 ho.size⟩

theorem DigSt.next {w0 : World} {N t : Nat} {vd : Value} {gw : Nat} {w w' : World} {g cap : Nat} (h : DigSt w0 N t vd gw w)
    (ho : w'.ownsRow w0.heap.size 5 1 (.slice (some ⟨g, 0, none⟩) (t + 1) cap) (t + 1) (bytesV (dgs N t) ++ [.int .u8 (48 + d10 N t : Nat)]))
    (hg : (w.alloc (.cells #[.int .u8 (48 + d10 N t : Nat)] 5)).grownBy w' vd.ownBlock) (hat : vd.ownBlock = some g ∨ g = (w.alloc (.cells #[.int .u8 (48 + d10 N t : Nat)] 5)).heap.size) :
    DigSt w0 N (t + 1) (.slice (some ⟨g, 0, none⟩) (t + 1) cap) gw w' ∧ ∀ (k M : Nat), Wk w gw 0 k M → Wk w' gw 0 k M := by
  have hs : (w.alloc (.cells #[.int .u8 (48 + d10 N t : Nat)] 5)).heap.size = w.heap.size + 1 := by simp
  have hb : Below w0.heap.size (w.alloc (.cells #[.int .u8 (48 + d10 N t : Nat)] 5)) w' := grown_below hg (fun g hg => (h.own.lt g hg).1) (by rw [hs]; have := h.below.size; omega)
  have hblk : w'.heap[gw]? = w.heap[gw]? := by
    rw [hg.block gw (by rw [hs]; have := h.gw.2; omega) (fun e => h.ne e.symm), Below.heap_alloc _ _ _ h.gw.2]
  refine ⟨⟨?_, ?_, (h.below.alloc h.below.size _).trans hb, ?_, h.gw.1, ?_⟩, fun k M hW => ⟨hW.lt, fun j hj => ?_, fun j hj => ?_⟩⟩
  · rw [dgs_succ, bytesV_append]; exact ho
  · intro e
    simp only [Value.ownBlock, Option.some.injEq] at e
    rcases hat with h1 | h1
    · exact h.ne (h1.trans (by rw [e]))
    · rw [hs] at h1; have := h.gw.2; omega
  · have := hg.size; rw [hs] at this; have := h.lt; omega
  · have := hg.size; rw [hs] at this; have := h.gw.2; omega
  · rw [World.cell?_of_block (w := w) (a := ⟨gw, 0 + j, none⟩) hblk]; exact hW.cell j hj
  · rw [World.frozen?_of_block (w := w) (a := ⟨gw, 0 + j, none⟩) hblk]; exact hW.free j hj

theorem Wk.fewer {w : World} {g o k N n : Nat} (h : Wk w g o k N) (hn : Nrm n N) : Wk w g o n N ∧ n ≤ k := by
  have := hn.le h.lt
  exact ⟨⟨hn.1, fun j hj => h.cell j (by omega), fun j hj => h.free j (by omega)⟩, this⟩

set_option maxRecDepth 100000 in
set_option maxHeartbeats 2000000 in
theorem digitsOf_any {S : Nat → Prop} (v : Value) (k N : Nat) (w : World) (h : RowX S w v k N) (hnk : Nrm k N) (hk : k ≤ 8192) (hN0 : 0 < N) :
    Calls Tryd.prog 59 #[v] w fun e w' => ∃ g L, e = .returned (.slice (some ⟨g, 0, none⟩) L L) ∧ Dec L N ∧ w.heap.size ≤ g ∧ g < w'.heap.size ∧ (∀ j, j < L → w'.cell? ⟨g, j, none⟩ = some (.int .u8 (48 + d10 N j : Nat)) ∧ w'.frozen? ⟨g, j, none⟩ = false) ∧ L ≤ 90000 ∧ Below w.heap.size w w' := by
  obtain ⟨i5, hi5⟩ := info8
  have Hi := hide hi5
  clear hi5
  have H := hide h
  have HN := hide h.1
  clear h
  have HK := hide hnk
  have hk0 : 0 < k := by
    rcases Nat.eq_zero_or_pos k with h0 | h0
    · have := hnk.zero_iff.1 h0; omega
    · exact h0
  clear hnk
  go_enter Tryd.func59, Tryd.ntmps59
  go_wp2_with fail
  refine (fresh_any v k N _ (H.out.below ((Below.refl _ _).alloc (Nat.le_refl _) _))).mono ?_
  rintro e w1 ⟨u, rfl, hown, hb1⟩
  obtain ⟨ad, gw, cap, rfl, hc, hg, had, hwk⟩ := hown.wk
  obtain ⟨rfl, hgl⟩ := had hk0
  have hs0 : (w.alloc (.cells #[] 5)).heap.size = w.heap.size + 1 := by simp
  rw [hs0] at hg
  have HS0 : Hid (DigSt w N 0 (.slice (some ⟨w.heap.size, 0, none⟩) 0 0) gw w1 ∧ Wk w1 gw 0 k N) := by
    refine ⟨⟨⟨by simp [dgs, bytesV], .inr ⟨w.heap.size, 0, #[], rfl, Nat.le_refl _, ?_, Nat.le_refl _, by unfold maxLen; omega, rfl, by simp [dgs, bytesV]⟩⟩, ?_, ?_, ?_, by omega, hgl⟩, hwk⟩
    · rw [hb1.block w.heap.size (by rw [hs0]; omega)]; exact heap_alloc_new w _
    · intro e; simp only [Value.ownBlock, Option.some.injEq] at e; omega
    · exact ((Below.refl _ _).alloc (Nat.le_refl _) _).trans (hb1.mono (by rw [hs0]; omega))
    · have := hb1.size; rw [hs0] at this; omega
  clear hown hb1 hwk hgl hs0
  go_wp2_with fail
  go_loopw [3, 4] (fun t3 t4 wr => ∃ t n cw : Nat, n ≤ cw ∧ n ≤ k ∧ t4 = .slice (some ⟨gw, 0, none⟩) n cw ∧ Hid (DigSt w N (9 * t) t3 gw wr ∧ Wk wr gw 0 n (N / 10 ^ (9 * t)) ∧ Nrm n (N / 10 ^ (9 * t)) ∧ t ≤ 9041)) (fun t3 _ _ => 100000 - slen t3)
  case atStart => exact ⟨0, k, cap, hc, Nat.le_refl _, rfl, HS0.out.1, by simpa using HS0.out.2, by simpa using HK.out, by omega⟩
  case round =>
    obtain ⟨t, n, cw, hncw, hnk, rfl, HS⟩ := hrel
    by_cases hn0 : n = 0
    · subst hn0
      have HE : Hid (N < 10 ^ (9 * t) ∧ Below w.heap.size w wr ∧ t ≤ 9041) := by
        have h1 := HS.out.2.2.1.zero_iff.1 rfl
        exact ⟨lt_tw_of_quo h1, HS.out.1.below, HS.out.2.2.2⟩
      have ht0 : 0 < 9 * t := by
        rcases Nat.eq_zero_or_pos t with h0 | h0
        · have := HE.out.1; rw [h0] at this; simp at this; omega
        · omega
      obtain ⟨gd, cd, rfl, hgd, hgd2⟩ := HS.out.1.own.form ht0
      have Hcell : Hid (∀ j, j < 9 * t → wr.cell? ⟨gd, j, none⟩ = some (.int .u8 (48 + d10 N j : Nat)) ∧ wr.frozen? ⟨gd, j, none⟩ = false) := by
        intro j hj
        refine ⟨?_, HS.out.1.own.frozenAt j⟩
        rw [HS.out.1.own.cellAt j (by omega)]
        simp only [bytesV, List.getElem?_map, dgs_get N (9 * t) j hj, Option.map_some]
      have hcd : 9 * t ≤ cd := by
        rcases HS.out.1.own.2 with ⟨h, _⟩ | ⟨g', cap', cur, h, _, _, h2, _⟩
        · simp at h
        · simp only [Value.slice.injEq] at h; omega
      have htb := HE.out.2.2
      obtain ⟨T, hT⟩ : ∃ T, T = 9 * t := ⟨_, rfl⟩
      rw [← hT] at hcd Hcell ht0 HE HS ⊢
      have hTb : T ≤ 90000 := by omega
      clear HS hT htb
      go_wp2_with fail
      go_loop [6] (fun t6 => ∃ n : Nat, n ≤ T ∧ t6 = .int .i64 n ∧ Hid (N < 10 ^ n)) (fun t6 => (intOf t6).toNat)
      case atStart => exact ⟨T, Nat.le_refl _, rfl, HE.out.1⟩
      case round =>
        obtain ⟨n, hn, rfl, Hn⟩ := hrel
        have hnp : n ≠ 0 := by rintro rfl; have := Hn.out; simp at this; omega
        obtain ⟨m, rfl⟩ : ∃ m, n = m + 1 := ⟨n - 1, by omega⟩
        have hci := (Hcell.out m (by omega)).1
        have h2' : (m : Int) < (T : Int) := by omega
        have hmc : m + 1 ≤ cd := by omega
        have Hd : Hid (d10 N m = 0 → N < 10 ^ m) := fun h => d10_drop Hn.out h
        have Ht : Hid (d10 N m ≠ 0 → Dec (m + 1) N) := fun h => ⟨Hn.out, d10_keep h, by omega⟩
        have hdl := d10_lt N m
        obtain ⟨x, hx⟩ : ∃ x, x = d10 N m := ⟨_, rfl⟩
        rw [← hx] at hci Hd Ht hdl
        clear hx hnp
        by_cases hx0 : x = 0
        · subst hx0
          go_wp2_with fail
          go_round
          case rel => exact ⟨m, by omega, by go_num, Hd.out rfl⟩
          case measure => simp [intOf]
        · have hx' : (((48 + x : Nat) : Int) == 48) = false := by rw [beq_eq_false_iff_ne]; omega
          have HX : Hid (Dec (m + 1) N) := Ht.out hx0
          obtain ⟨y, hy⟩ : ∃ y, y = 48 + x := ⟨_, rfl⟩
          rw [← hy] at hci hx'
          clear hx0 Ht Hd hy
          go_wp2_with fail
          go_ret
          exact ⟨gd, m + 1, rfl, HX.out, hgd, hgd2, fun j hj => Hcell.out j (by omega), by omega, HE.out.2.1⟩
    · have hn' : (0 : Int) < (n : Int) := by omega
      have HM : Hid (N / 10 ^ (9 * t) ≠ 0 ∧ t ≤ 9040 ∧ slen u3 = 9 * t) := by
        have h1 : N / 10 ^ (9 * t) ≠ 0 := fun e => hn0 (HS.out.2.2.1.zero_iff.2 e)
        exact ⟨h1, digits_bound (le_of_quo h1) HN.out hk, HS.out.1.len⟩
      go_wp2_with fail
      refine (shrink_any _ gw 0 n cw (N / 10 ^ (9 * t)) 1000000000 wr HS.out.2.1 (by omega) hncw (fun _ => rfl) (by omega) (by omega)).mono ?_
      rintro e w2 ⟨rfl, hW2, hO2⟩
      obtain ⟨n2, hn2⟩ := nrm_exists (N / 10 ^ (9 * (t + 1)))
      rw [quo_next] at hW2
      have H2 : Hid (DigSt w N (9 * t) u3 gw w2 ∧ Wk w2 gw 0 n2 (N / 10 ^ (9 * (t + 1))) ∧ n2 ≤ n ∧ Nrm n2 (N / 10 ^ (9 * (t + 1)))) :=
        ⟨HS.out.1.only hO2, (hW2.fewer hn2).1, (hW2.fewer hn2).2, hn2⟩
      have HT : Hid (Calls Tryd.prog 55 #[.slice (some ⟨gw, 0, none⟩) n cw] w2 fun e w' => e = .returned (.slice (some ⟨gw, 0, none⟩) n2 n2) ∧ w' = w2) :=
        trim_val (S := fun _ => True) _ cw n _ n2 w2 (hW2.row (by omega) hncw trivial _ (fun _ => rfl)) hn2
      clear hW2 hO2 hn2 HS
      have HP : Hid (N / 10 ^ (9 * t) % 1000000000 < 1000000000) := Nat.mod_lt _ (by omega)
      have HD : Hid (∀ s, s < 9 → N / 10 ^ (9 * t) % 1000000000 / 10 ^ s % 10 = d10 N (9 * t + s)) := fun s hs => d10_part N t s hs
      generalize N / 10 ^ (9 * t) % 1000000000 = P at *
      have hP9 := HP.out
      go_wp2_with fail
      refine HT.out.mono ?_
      rintro e w3 ⟨rfl, rfl⟩
      go_wp2_with fail
      go_loopw [3, 5, 17] (fun t3 t5 t17 wr => ∃ s : Nat, s ≤ 9 ∧ t17 = .int .i64 s ∧ t5 = .int .u32 (P / 10 ^ s : Nat) ∧ Hid (DigSt w N (9 * t + s) t3 gw wr ∧ Wk wr gw 0 n2 (N / 10 ^ (9 * (t + 1))))) (fun _ _ t17 _ => 9 - (intOf t17).toNat)
      case atStart => exact ⟨0, by omega, rfl, by simp, H2.out.1, H2.out.2.1⟩
      case round =>
        obtain ⟨s, hs, rfl, rfl, HI⟩ := hrel
        by_cases hs9 : s < 9
        · have hs9' : (s : Int) < 9 := by omega
          have hpl : P / 10 ^ s ≤ 1000000000 := Nat.le_trans (Nat.div_le_self _ _) (Nat.le_of_lt HP.out)
          have Hd := hide (HD.out s hs9)
          have Hn := hide (part_next P s)
          generalize P / 10 ^ s = p at *
          have h10 : d10 N (9 * t + s) < 10 := d10_lt _ _
          obtain ⟨c, hcc, hcx⟩ : ∃ c : Nat, c = 48 + d10 N (9 * t + s) ∧ 48 + (p : Int) % 10 = (c : Int) := ⟨48 + d10 N (9 * t + s), rfl, by have := Hd.out; omega⟩
          have Hc := hide hcc
          have hcb : c < 58 := by omega
          have htb : 9 * t + s ≤ 90000 := by have := HM.out.2.1; omega
          clear hcc h10
          go_wp2_with (at_builtin; refine wpList_append_lies _ rfl _ _ _ rfl w.heap.size 5 i5 (.int .u8 0) 1 1 Tryd.underlying46 Hi.out.1 Hi.out.2.1 Hi.out.2.2.1 Hi.out.2.2.2 rfl (by decide) _ (9 * t + s) (bytesV (dgs N (9 * t + s))) rfl (HI.out.1.own.alloc _) ⟨wr.heap.size, 0, none⟩ 1 1 [.int .u8 (c : Nat)] rfl rfl ?d2 ?d3 (by decide) ?d4 ?d5 ?d7 _ rfl ?d6)
          case d2 => intro j u hj; exact cell_new1 wr _ 5 j u hj
          case d3 => intro u hu; simp at hu; subst hu; rfl
          case d4 => unfold maxLen; omega
          case d5 => omega
          case d7 => have := HI.out.1.lt; simp; omega
          case d6 =>
            intro g4 cap4 w4 ho4 hg4 hat4 hlt4
            have H4 : Hid (DigSt w N (9 * t + s + 1) (.slice (some ⟨g4, 0, none⟩) (9 * t + s + 1) cap4) gw w4 ∧ Wk w4 gw 0 n2 (N / 10 ^ (9 * (t + 1)))) := by
              rw [Hc.out] at ho4 hg4
              have := DigSt.next HI.out.1 ho4 hg4 (by rw [show (wr.alloc (.cells #[.int .u8 (48 + d10 N (9 * t + s) : Nat)] 5)).heap.size = wr.heap.size + 1 from by simp]; exact hat4)
              exact ⟨this.1, this.2 _ _ HI.out.2⟩
            clear ho4 hg4 hat4 hlt4 HI
            go_wp2_with fail
            go_roundw
            case rel => exact ⟨s + 1, by omega, by go_num, by rw [← Hn.out]; exact congrArg _ (by omega), H4.out⟩
            case measure => simp [intOf]; omega
        · obtain rfl : s = 9 := by omega
          go_wp2_with fail
          go_roundw
          case rel => exact ⟨t + 1, n2, n2, Nat.le_refl _, by have := H2.out.2.2.1; omega, rfl, by rw [Nat.mul_add]; exact HI.out.1, HI.out.2, H2.out.2.2.2, by have := HM.out.2.1; omega⟩
          case measure =>
            have h1 := HI.out.1.len
            have h2 := HM.out.2.2
            have h3 := HM.out.2.1
            simp only [h1, h2]
            omega

end Go.Proofs.YtmfimhpbdbbpoaaDoor

namespace Go.Proofs.YtmfimhpbdbbpoaaDoor
open Go.RowKit
open M
set_option linter.unusedVariables false
set_option linter.unusedSimpArgs false

/-- While bytes are turned: i from either end are done. -/
def RevSt (w0 : World) (g n : Nat) (f : Nat → Nat) (i : Nat) (w : World) : Prop :=
  Only g 0 n w0 w ∧ ∀ p, p < n → w.cell? ⟨g, p, none⟩ = some (.int .u8 (if p < i ∨ n - i ≤ p then f (n - 1 - p) else f p : Nat)) ∧ w.frozen? ⟨g, p, none⟩ = false

theorem RevSt.swap {w0 w : World} {g n : Nat} {f : Nat → Nat} {i j : Nat} (h : RevSt w0 g n f i w) (hj : i + j + 1 = n) (hij : i < j) :
    RevSt w0 g n f (i + 1) ((w.setCell ⟨g, i, none⟩ (.int .u8 (f j : Nat))).setCell ⟨g, j, none⟩ (.int .u8 (f i : Nat))) := by
  refine ⟨(h.1.setCell i (by omega) (by omega) _).setCell j (by omega) (by omega) _, fun p hp => ⟨?_, by rw [frozen_setCell, frozen_setCell]; exact (h.2 p hp).2⟩⟩
  by_cases e1 : p = j
  · subst e1
    rw [cell_setCell_eq _ _ _ _ _ (by rw [cell_setCell_ne _ _ _ _ _ (by omega)]; exact (h.2 p hp).1), if_pos (by omega)]
    rw [show n - 1 - p = i from by omega]
  · rw [cell_setCell_ne _ _ _ _ _ e1]
    by_cases e2 : p = i
    · subst e2
      rw [cell_setCell_eq _ _ _ _ _ (h.2 p hp).1, if_pos (by omega)]
      rw [show n - 1 - p = j from by omega]
    · rw [cell_setCell_ne _ _ _ _ _ e2, (h.2 p hp).1]
      by_cases e3 : p < i ∨ n - i ≤ p
      · rw [if_pos e3, if_pos (by omega)]
      · rw [if_neg e3, if_neg (by omega)]

theorem RevSt.drew {w0 w : World} {g n : Nat} {f : Nat → Nat} {i : Nat} (h : RevSt w0 g n f i w) : RevSt w0 g n f i w.drew := ⟨h.1.drew, h.2⟩

set_option maxRecDepth 100000 in
set_option maxHeartbeats 2000000 in
theorem reverse_any (g n cap : Nat) (f : Nat → Nat) (w : World) (hn0 : 0 < n) (hnb : n ≤ 70368744177664) (hc : ∀ p, p < n → w.cell? ⟨g, p, none⟩ = some (.int .u8 (f p : Nat)) ∧ w.frozen? ⟨g, p, none⟩ = false) :
    Calls Tryd.prog 60 #[.slice (some ⟨g, 0, none⟩) n cap] w fun e w' => e = .returned (.tuple #[]) ∧ Only g 0 n w w' ∧ ∀ p, p < n → w'.cell? ⟨g, p, none⟩ = some (.int .u8 (f (n - 1 - p) : Nat)) := by
  have HS : Hid (RevSt w g n f 0 w) := ⟨Only.refl _ _ _ _, fun p hp => ⟨by rw [if_neg (by omega)]; exact (hc p hp).1, (hc p hp).2⟩⟩
  clear hc
  go_enter Tryd.func60, Tryd.ntmps60
  go_wp2_with fail
  go_loopw [2, 3] (fun t2 t3 wr => ∃ i j : Nat, i + j + 1 = n ∧ t2 = .int .i64 i ∧ t3 = .int .i64 j ∧ i ≤ j + 1 ∧ Hid (RevSt w g n f i wr)) (fun t2 _ _ => n - (intOf t2).toNat)
  case atStart => exact ⟨0, n - 1, by omega, rfl, by simp; omega, by omega, HS⟩
  case round =>
    obtain ⟨i, j, hij, rfl, rfl, hle, HI⟩ := hrel
    by_cases hlt : i < j
    · have hlt' : (i : Int) < (j : Int) := by omega
      have hi := HI.out.2 i (by omega)
      have hj := HI.out.2 j (by omega)
      rw [if_neg (by omega)] at hi hj
      have hci := hi.1
      have hfi := hi.2
      have hcj := hj.1
      have hfj := hj.2
      have HN : Hid (RevSt w g n f (i + 1) ((wr.setCell ⟨g, i, none⟩ (.int .u8 (f j : Nat))).setCell ⟨g, j, none⟩ (.int .u8 (f i : Nat))).drew) := (HI.out.swap hij hlt).drew
      have hin : (i : Int) < (n : Int) := by omega
      have hjn : (j : Int) < (n : Int) := by omega
      have hne : ¬ i = j := by omega
      have hne' : ¬ j = i := by omega
      generalize f i = x at *
      generalize f j = y at *
      clear hi hj HI
      go_wp2_with fail
      go_region
      obtain ⟨j1, rfl⟩ : ∃ j1, j = j1 + 1 := ⟨j - 1, by omega⟩
      go_wp2_with fail
      go_roundw
      case rel => exact ⟨i + 1, j1, by omega, by go_num, by go_num, by omega, HN⟩
      case measure => simp [intOf]; omega
    · have hge : ¬ (i : Int) < (j : Int) := by omega
      have HF : Hid (Only g 0 n w wr ∧ ∀ p, p < n → wr.cell? ⟨g, p, none⟩ = some (.int .u8 (f (n - 1 - p) : Nat))) := by
        refine ⟨HI.out.1, fun p hp => ?_⟩
        rw [(HI.out.2 p hp).1]
        by_cases e : p < i ∨ n - i ≤ p
        · rw [if_pos e]
        · rw [if_neg e, show n - 1 - p = p from by omega]
      clear HI
      go_wp2_with fail
      go_end0
      exact ⟨rfl, HF.out⟩

end Go.Proofs.YtmfimhpbdbbpoaaDoor

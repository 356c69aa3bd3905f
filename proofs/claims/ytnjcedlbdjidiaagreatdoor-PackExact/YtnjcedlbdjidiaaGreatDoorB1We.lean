/- The document's Pack and Done: the walks. -/
import Derived.Test.YtnjcedlbdjidiaaGreatDoorKA
import Derived.Laws.AppendOwnNone
import Derived.OwnWalk
import Derived.Test.YtnjcedlbdjidiaaGreatDoorB1Rh
/- The law's Lend, Intact, Over. -/
namespace Go.Proofs.YtnjcedlbdjidiaaGreatDoor
open Go.RowKit
open M
set_option linter.unusedVariables false

/-- The first k marks. -/
def marksN (k : Nat) : List Nat := (List.range k).map fun i => 165 - i

@[simp] theorem marksN_length (k : Nat) : (marksN k).length = k := by simp [marksN]

theorem marksN_succ (k : Nat) : marksN (k + 1) = marksN k ++ [165 - k] := by simp [marksN, List.range_succ]

theorem mark_any (i : Nat) (w : World) (h : i ≤ 70) : Calls Tryz.prog 29 #[.int .i64 i] w fun e w' => e = .returned (.int .u8 ((165 - i : Nat) : Int)) ∧ w' = w := by
  go_enter Tryz.func29, Tryz.ntmps29
  go_wp2
  go_ret
  refine ⟨?_, rfl⟩
  show Ending.returned (.int .u8 _) = _
  congr 2
  omega

theorem info5 : ∃ i5, Tryz.prog.info? 5 = some i5 ∧ i5.zero = some (.int .u8 0) ∧ i5.size = 1 ∧ i5.bytes = 1 := by
  have hz : (Tryz.prog.info? 5).bind (·.zero) = some (.int .u8 0) := by kernel_rfl
  have hs : (Tryz.prog.info? 5).map (·.size) = some 1 := by kernel_rfl
  have hb : (Tryz.prog.info? 5).map (·.bytes) = some 1 := by kernel_rfl
  cases hi : Tryz.prog.info? 5 with
  | none => simp [hi] at hs
  | some i5 =>
    simp only [hi, Option.bind_some, Option.map_some, Option.some.injEq] at hz hs hb
    exact ⟨i5, rfl, hz, hs, hb⟩

/-- Bytes that are lent: in a block of their own, the marks behind them. -/
def Lent (w : World) (base g cap : Nat) (bs : List Nat) : Prop := w.ownsRow base 5 1 (.slice (some ⟨g, 0, none⟩) (bs.length + 70) cap) (bs.length + 70) (bytesV (bs ++ marksN 70))

/-- Behind i marks. -/
def LendSt (w : World) (bs : List Nat) (i : Nat) (v : Value) (wr : World) : Prop :=
  wr.ownsRow w.heap.size 5 1 v (bs.length + i) (bytesV (bs ++ marksN i)) ∧ Below w.heap.size w wr ∧ w.heap.size < wr.heap.size

set_option maxRecDepth 100000 in
set_option maxHeartbeats 4000000 in
theorem lend_some (ad : Addr) (n cap0 : Nat) (bs : List Nat) (w : World) (hn : n = bs.length) (hn2 : n ≤ 1000000) (hnews : ∀ j u, (bytesV bs)[j]? = some u → w.cell? (ad.add j) = some u) :
    Calls Tryz.prog 7 #[.slice (some ad) n cap0] w fun e w' => ∃ g cap, e = .returned (.slice (some ⟨g, 0, none⟩) n cap) ∧ Lent w' w.heap.size g cap bs ∧ Below w.heap.size w w' := by
  obtain ⟨i5, hi5⟩ := info5
  have Hi : Hid (Tryz.prog.info? 5 = some i5 ∧ i5.zero = some (.int .u8 0) ∧ i5.size = 1 ∧ i5.bytes = 1) := hi5
  have Hn : Hid (n = bs.length) := hn
  have HN : Hid (∀ j u, (bytesV bs)[j]? = some u → w.cell? (ad.add j) = some u) := hnews
  clear hi5 hn hnews
  obtain ⟨n70, hn70⟩ : ∃ n70 : Nat, (n : Int) + 70 = (n70 : Int) := ⟨n + 70, by omega⟩
  go_enter Tryz.func7, Tryz.ntmps7
  go_wp2_with (at_make; refine wpList_make_own _ rfl _ _ _ rfl w.heap.size 5 i5 (.int .u8 0) 1 Tryz.underlying59 Hi.out.1 Hi.out.2.1 Hi.out.2.2.1 .i64 .i64 (n70 : Int) n70 rfl (by simp [Act.eval]) rfl (by rw [Hi.out.2.2.2]; omega) (by unfold maxLen; omega) (Nat.le_refl _) ?_)
  intro w1 ho1 hg1
  have B1 : Below w.heap.size w w1 := grown_below hg1 (fun g hg => by simp at hg) (Nat.le_refl _)
  have z1 : w.heap.size < w1.heap.size := (ho1.lt w.heap.size rfl).2
  have HO1 : Hid (w1.ownsRow w.heap.size 5 1 (.slice (some ⟨w.heap.size, 0, none⟩) 0 n70) 0 [] ∧ Below w.heap.size w w1) := ⟨ho1, B1⟩
  clear ho1 hg1 B1
  go_wp2_with (at_builtin; refine wpList_append_own _ rfl _ _ _ rfl w.heap.size 5 i5 (.int .u8 0) 1 1 Tryz.underlying59 Hi.out.1 Hi.out.2.1 Hi.out.2.2.1 Hi.out.2.2.2 rfl (by decide) (.slice (some ⟨w.heap.size, 0, none⟩) 0 n70) 0 [] rfl HO1.out.1 ad n cap0 (bytesV bs) rfl ?c2 ?c3 (bytesV_cell bs) ?c4 ?c5 ?c7 ?c6)
  case c2 => rw [Nat.mul_one, Hn.out]; simp
  case c3 => intro j u hj; have h := HN.out j u hj; rw [HO1.out.2.cell (block_lt_of_cell h)]; exact h
  case c4 => unfold maxLen; omega
  case c5 => omega
  case c7 => omega
  case c6 =>
    intro v2 w2 ho2 hg2 _
    have B2 : Below w.heap.size w1 w2 := grown_below hg2 (fun g hg => by simp [Value.ownBlock] at hg; omega) (by omega)
    have HS2 : Hid (LendSt w bs 0 v2 w2) := ⟨by simpa [marksN, Hn.out] using ho2, HO1.out.2.trans B2, Nat.lt_of_lt_of_le z1 B2.size⟩
    clear ho2 hg2 B2 HO1 HN z1
    go_wp2_with fail
    go_loopw [3, 4] (fun t3 t4 wr => ∃ i : Nat, i ≤ 70 ∧ t4 = .int .i64 i ∧ Hid (LendSt w bs i t3 wr)) (fun _ t4 _ => 70 - (intOf t4).toNat)
    case atStart => exact ⟨0, by omega, rfl, HS2⟩
    case round =>
      obtain ⟨i, hi, rfl, HS⟩ := hrel
      by_cases hlt : i < 70
      · have hlt' : (i : Int) < 70 := by omega
        go_wp2_with fail
        refine (mark_any i wr (by omega)).mono ?_
        rintro e w3 ⟨rfl, rfl⟩
        go_wp2_with (at_builtin; refine wpList_append_lies _ rfl _ _ _ rfl w.heap.size 5 i5 (.int .u8 0) 1 1 Tryz.underlying59 Hi.out.1 Hi.out.2.1 Hi.out.2.2.1 Hi.out.2.2.2 rfl (by decide) _ (bs.length + i) (bytesV (bs ++ marksN i)) rfl (HS.out.1.alloc _) ⟨w3.heap.size, 0, none⟩ 1 1 [.int .u8 ((165 - i : Nat) : Int)] rfl rfl ?d2 ?d3 (by decide) ?d4 ?d5 ?d7 _ rfl ?d6)
        case d2 => intro j u hj; exact cell_new1 w3 _ 5 j u hj
        case d3 => intro u hu; simp at hu; subst hu; rfl
        case d4 => have := Hn.out; unfold maxLen; omega
        case d5 => have := Hn.out; omega
        case d7 => have := HS.out.2.2; simp; omega
        case d6 =>
          intro g cap w4 ho4 hg4 hat4 hlt4
          have B4 : Below w.heap.size w3 w4 := ((Below.refl _ _).alloc (by have := HS.out.2.2; omega) _).trans (grown_below hg4 (fun g hg => (HS.out.1.lt g hg).1) (by have := HS.out.2.2; simp; omega))
          have HS4 : Hid (LendSt w bs (i + 1) (.slice (some ⟨g, 0, none⟩) (bs.length + i + 1) cap) w4) := by
            refine ⟨?_, HS.out.2.1.trans B4, Nat.lt_of_lt_of_le HS.out.2.2 B4.size⟩
            rw [marksN_succ, ← List.append_assoc]
            simpa [bytesV, Nat.add_assoc] using ho4
          clear ho4 hg4 hat4 hlt4 B4 HS
          go_wp2_with fail
          go_roundw
          case rel => exact ⟨i + 1, by omega, by go_num, HS4⟩
          case measure => simp [intOf]; omega
      · have hi70 : i = 70 := by omega
        subst hi70
        obtain ⟨g, cap, hv, hg, hgs⟩ := HS.out.1.form (by omega)
        have hcap : bs.length + 70 ≤ cap := by
          rcases HS.out.1.2 with ⟨h, _⟩ | ⟨g', cap', cur, h, _, _, h2, _⟩
          · rw [hv] at h; simp at h
          · rw [hv] at h; simp only [Value.slice.injEq] at h; omega
        have hnc : n ≤ cap := by have := Hn.out; omega
        have HF : Hid (Lent wr w.heap.size g cap bs ∧ Below w.heap.size w wr) := ⟨by have := HS.out.1; rw [hv] at this; exact this, HS.out.2.1⟩
        clear HS
        subst hv
        go_wp2_with fail
        go_ret
        exact ⟨g, cap, rfl, HF.out⟩

set_option maxRecDepth 100000 in
set_option maxHeartbeats 4000000 in
theorem lend_none (bs : List Nat) (w : World) (hn : 0 = bs.length) :
    Calls Tryz.prog 7 #[.slice none 0 0] w fun e w' => ∃ g cap, e = .returned (.slice (some ⟨g, 0, none⟩) 0 cap) ∧ Lent w' w.heap.size g cap bs ∧ Below w.heap.size w w' := by
  obtain ⟨i5, hi5⟩ := info5
  have Hi : Hid (Tryz.prog.info? 5 = some i5 ∧ i5.zero = some (.int .u8 0) ∧ i5.size = 1 ∧ i5.bytes = 1) := hi5
  have Hn : Hid (0 = bs.length) := hn
  clear hi5 hn
  go_enter Tryz.func7, Tryz.ntmps7
  go_wp2_with (at_make; refine wpList_make_own _ rfl _ _ _ rfl w.heap.size 5 i5 (.int .u8 0) 1 Tryz.underlying59 Hi.out.1 Hi.out.2.1 Hi.out.2.2.1 .i64 .i64 (70 : Int) 70 rfl (by simp [Act.eval]) rfl (by rw [Hi.out.2.2.2]; omega) (by unfold maxLen; omega) (Nat.le_refl _) ?_)
  intro w1 ho1 hg1
  have B1 : Below w.heap.size w w1 := grown_below hg1 (fun g hg => by simp at hg) (Nat.le_refl _)
  have z1 : w.heap.size < w1.heap.size := (ho1.lt w.heap.size rfl).2
  have HO1 : Hid (w1.ownsRow w.heap.size 5 1 (.slice (some ⟨w.heap.size, 0, none⟩) 0 70) 0 [] ∧ Below w.heap.size w w1) := ⟨ho1, B1⟩
  clear ho1 hg1 B1
  go_wp2_with (at_builtin; refine wpList_append_own_none rfl _ _ _ rfl w.heap.size 5 i5 1 Tryz.underlying59 Hi.out.1 (.slice (some ⟨w.heap.size, 0, none⟩) 0 70) 0 [] rfl HO1.out.1 rfl ?c6)
  have HS2 : Hid (LendSt w bs 0 (.slice (some ⟨w.heap.size, 0, none⟩) 0 70) w1) := ⟨by rw [List.length_eq_zero_iff.1 Hn.out.symm]; simpa [marksN, bytesV] using HO1.out.1, HO1.out.2, z1⟩
  clear HO1 z1
  go_loopw [3, 4] (fun t3 t4 wr => ∃ i : Nat, i ≤ 70 ∧ t4 = .int .i64 i ∧ Hid (LendSt w bs i t3 wr)) (fun _ t4 _ => 70 - (intOf t4).toNat)
  case atStart => exact ⟨0, by omega, rfl, HS2⟩
  case round =>
    obtain ⟨i, hi, rfl, HS⟩ := hrel
    by_cases hlt : i < 70
    · have hlt' : (i : Int) < 70 := by omega
      go_wp2_with fail
      refine (mark_any i wr (by omega)).mono ?_
      rintro e w3 ⟨rfl, rfl⟩
      go_wp2_with (at_builtin; refine wpList_append_lies _ rfl _ _ _ rfl w.heap.size 5 i5 (.int .u8 0) 1 1 Tryz.underlying59 Hi.out.1 Hi.out.2.1 Hi.out.2.2.1 Hi.out.2.2.2 rfl (by decide) _ (bs.length + i) (bytesV (bs ++ marksN i)) rfl (HS.out.1.alloc _) ⟨w3.heap.size, 0, none⟩ 1 1 [.int .u8 ((165 - i : Nat) : Int)] rfl rfl ?d2 ?d3 (by decide) ?d4 ?d5 ?d7 _ rfl ?d6)
      case d2 => intro j u hj; exact cell_new1 w3 _ 5 j u hj
      case d3 => intro u hu; simp at hu; subst hu; rfl
      case d4 => have := Hn.out; unfold maxLen; omega
      case d5 => have := Hn.out; omega
      case d7 => have := HS.out.2.2; simp; omega
      case d6 =>
        intro g cap w4 ho4 hg4 hat4 hlt4
        have B4 : Below w.heap.size w3 w4 := ((Below.refl _ _).alloc (by have := HS.out.2.2; omega) _).trans (grown_below hg4 (fun g hg => (HS.out.1.lt g hg).1) (by have := HS.out.2.2; simp; omega))
        have HS4 : Hid (LendSt w bs (i + 1) (.slice (some ⟨g, 0, none⟩) (bs.length + i + 1) cap) w4) := by
          refine ⟨?_, HS.out.2.1.trans B4, Nat.lt_of_lt_of_le HS.out.2.2 B4.size⟩
          rw [marksN_succ, ← List.append_assoc]
          simpa [bytesV, Nat.add_assoc] using ho4
        clear ho4 hg4 hat4 hlt4 B4 HS
        go_wp2_with fail
        go_roundw
        case rel => exact ⟨i + 1, by omega, by go_num, HS4⟩
        case measure => simp [intOf]; omega
    · have hi70 : i = 70 := by omega
      subst hi70
      obtain ⟨g, cap, hv, hg, hgs⟩ := HS.out.1.form (by omega)
      have hcap : bs.length + 70 ≤ cap := by
        rcases HS.out.1.2 with ⟨h, _⟩ | ⟨g', cap', cur, h, _, _, h2, _⟩
        · rw [hv] at h; simp at h
        · rw [hv] at h; simp only [Value.slice.injEq] at h; omega
      have hnc : 0 ≤ cap := by omega
      have HF : Hid (Lent wr w.heap.size g cap bs ∧ Below w.heap.size w wr) := ⟨by have := HS.out.1; rw [hv] at this; exact this, HS.out.2.1⟩
      clear HS
      subst hv
      go_wp2_with fail
      go_ret
      exact ⟨g, cap, rfl, HF.out⟩

theorem lend_any (v : Value) (bs : List Nat) (w : World) (h : IsBy w v bs) (hn2 : bs.length ≤ 1000000) :
    Calls Tryz.prog 7 #[v] w fun e w' => ∃ g cap, e = .returned (.slice (some ⟨g, 0, none⟩) bs.length cap) ∧ Lent w' w.heap.size g cap bs ∧ Below w.heap.size w w' := by
  rcases h with h | ⟨ad, cap, rfl, rfl⟩
  · have h' := h
    rcases h with ⟨rfl, rfl⟩ | ⟨g, o, cap, rfl, hc⟩
    · exact lend_none [] w rfl
    · exact lend_some ⟨g, o, none⟩ bs.length cap bs w rfl hn2 h'.news.2
  · exact lend_some ad 0 cap [] w rfl (by omega) (fun j u hj => by simp [bytesV] at hj)

theorem Lent.lies {w : World} {base g cap : Nat} {bs : List Nat} (h : Lent w base g cap bs) : bs.length + 70 ≤ cap ∧ base ≤ g ∧ g < w.heap.size ∧ ∃ cur : Array Value, w.heap[g]? = some (.cells cur 5 (0, 0)) ∧ ∀ (i : Nat) (u : Value), (bytesV (bs ++ marksN 70))[i]? = some u → cur[i]? = some u := by
  obtain ⟨h1, h2⟩ := h
  rcases h2 with ⟨h2, _⟩ | ⟨g', cap', cur, h0, h4, h5, h6, _, h7, h8⟩
  · simp at h2
  · simp only [Value.slice.injEq, Option.some.injEq, Addr.mk.injEq] at h0
    obtain ⟨⟨rfl, _⟩, _, rfl⟩ := h0
    refine ⟨h6, h4, ?_, cur, h5, fun i u hu => ?_⟩
    · rcases Nat.lt_or_ge g w.heap.size with hlt | hge
      · exact hlt
      · rw [Array.getElem?_eq_none hge] at h5; cases h5
    · rw [← h8] at hu
      rw [← Array.getElem?_toList]
      have hi : i < (bs.length + 70) * 1 := by
        rcases Nat.lt_or_ge i ((bs.length + 70) * 1) with hlt | hge
        · exact hlt
        · rw [List.getElem?_eq_none (by rw [List.length_take]; omega)] at hu; cases hu
      rwa [List.getElem?_take_of_lt hi] at hu

theorem Lent.byte {w : World} {base g cap : Nat} {bs : List Nat} (h : Lent w base g cap bs) (i : Nat) (hi : i < bs.length) : w.cell? ⟨g, i, none⟩ = some (.int .u8 (bs.getD i 0 : Nat)) := by
  obtain ⟨_, _, _, cur, h1, h2⟩ := h.lies
  rw [cell_of_row _ _ _ _ _ _ h1]
  apply h2
  unfold bytesV
  rw [List.map_append, List.getElem?_append_left (by simpa using hi), List.getElem?_map, List.getD_eq_getElem?_getD, List.getElem?_eq_getElem hi]
  rfl

theorem Lent.mark {w : World} {base g cap : Nat} {bs : List Nat} (h : Lent w base g cap bs) (i : Nat) (hi : i < 70) : w.cell? ⟨g, bs.length + i, none⟩ = some (.int .u8 ((165 - i : Nat) : Int)) := by
  obtain ⟨_, _, _, cur, h1, h2⟩ := h.lies
  rw [cell_of_row _ _ _ _ _ _ h1]
  apply h2
  simp [bytesV, marksN, hi]

theorem Lent.free {w : World} {base g cap : Nat} {bs : List Nat} (h : Lent w base g cap bs) (i : Nat) : w.frozen? ⟨g, i, none⟩ = false := by
  obtain ⟨_, _, _, cur, h1, h2⟩ := h.lies
  exact frozen_of_row _ _ _ _ _ h1

theorem Lent.bytes {w : World} {base g cap : Nat} {bs : List Nat} (h : Lent w base g cap bs) : IsBytes w (.slice (some ⟨g, 0, none⟩) bs.length cap) bs :=
  .inr ⟨g, 0, cap, rfl, fun i hi => by rw [Nat.zero_add]; exact h.byte i hi⟩

theorem Lent.below {w w' : World} {base g cap : Nat} {bs : List Nat} (h : Lent w base g cap bs) (hB : Below w.heap.size w w') : Lent w' base g cap bs :=
  ownsRow_keep h (fun g' hg => hB.block g' (by simp only [Value.ownBlock, Option.some.injEq] at hg; subst hg; exact h.lies.2.2.1))

set_option maxRecDepth 100000 in
set_option maxHeartbeats 4000000 in
theorem intact_any (base g cap n : Nat) (v : Value) (bs : List Nat) (w : World) (hn : n = bs.length) (hn2 : n ≤ 1000000) (hL : Lent w base g cap bs) (hv : IsBy w v bs) :
    Calls Tryz.prog 10 #[.slice (some ⟨g, 0, none⟩) n cap, v] w fun e w' => e = .returned (.bool true) ∧ ∃ m, w' = w.drewN m := by
  have hc1 := convert_bytes w (.slice (some ⟨g, 0, none⟩) bs.length cap) bs hL.bytes
  have hc2 := convert_by w v bs hv
  rw [← hn] at hc1
  have hcap : n + 70 ≤ cap := by rw [hn]; exact hL.lies.1
  obtain ⟨n70, hn70⟩ : ∃ n70 : Nat, (n : Int) + 70 = (n70 : Int) := ⟨n + 70, by omega⟩
  have hn7 : n70 ≤ cap := by omega
  have HL : Hid (∀ i, i < 70 → w.cell? ⟨g, n + i, none⟩ = some (.int .u8 ((165 - i : Nat) : Int))) := fun i hi => by rw [hn]; exact hL.mark i hi
  clear hL hv hn
  generalize strOf bs = s at *
  go_enter Tryz.func10, Tryz.ntmps10
  go_wp2_with fail
  go_loopw [6] (fun t6 wr => ∃ i : Nat, i ≤ 70 ∧ t6 = .int .i64 i ∧ Hid (∃ m, wr = w.drewN m)) (fun t6 _ => 70 - (intOf t6).toNat)
  case atStart => exact ⟨0, by omega, rfl, ⟨0, rfl⟩⟩
  case round =>
    obtain ⟨i, hi, rfl, Hm⟩ := hrel
    by_cases hlt : i < 70
    · have hlt' : (i : Int) < 70 := by omega
      obtain ⟨k, hk⟩ : ∃ k : Nat, IntKind.i64.wrap ((n : Int) + (i : Int)) = (k : Int) := ⟨n + i, by rw [IntKind.wrap_i64]; omega⟩
      have hk' : k = n + i := by rw [IntKind.wrap_i64] at hk; omega
      have hkn : k < n70 := by omega
      have hki : (k : Int) < (n70 : Int) := by omega
      have hc : wr.cell? ⟨g, k, none⟩ = some (.int .u8 ((165 - i : Nat) : Int)) := by
        obtain ⟨m, rfl⟩ := Hm.out
        rw [hk']; exact HL.out i hlt
      have hmk := fun w => mark_any i w (by omega)
      have HM : Hid (∀ w, Calls Tryz.prog 29 #[.int .i64 i] w fun e w' => e = .returned (.int .u8 ((165 - i : Nat) : Int)) ∧ w' = w) := hmk
      clear hmk hk'
      generalize 165 - i = y at *
      go_wp2_with fail
      go_quiet ((go_at_call 29; exact Calls.quiet_of_same (HM.out _)))
      go_wp2_with fail
      refine ⟨⟨i + 1, by omega, by go_num, ?_⟩, by simp [intOf]; omega⟩
      obtain ⟨m, rfl⟩ := Hm.out
      exact ⟨m + nq, World.drewN_drewN _ _ _⟩
    · go_wp2_with fail
      go_ret
      exact ⟨rfl, Hm.out⟩


end Go.Proofs.YtnjcedlbdjidiaaGreatDoor

/- The document's Pack and Done. -/
namespace Go.Proofs.YtnjcedlbdjidiaaGreatDoor
open Go.RowKit
open M
set_option linter.unusedVariables false

theorem ownsRow_set {w : World} {base : Nat} {t : TypeId} {v : Value} {n : Nat} {xs : List Value} {g cap : Nat} (h : w.ownsRow base t 1 (.slice (some ⟨g, 0, none⟩) n cap) n xs) (q : Nat) (x : Value) (hq : q < n) :
    (w.setCell ⟨g, q, none⟩ x).ownsRow base t 1 (.slice (some ⟨g, 0, none⟩) n cap) n (xs.set q x) := by
  obtain ⟨h1, h2⟩ := h
  refine ⟨by simpa using h1, ?_⟩
  rcases h2 with ⟨h2, _⟩ | ⟨g', cap', cur, h0, h4, h5, h6, h6b, h7, h8⟩
  · simp at h2
  · simp only [Value.slice.injEq, Option.some.injEq, Addr.mk.injEq] at h0
    obtain ⟨⟨rfl, _⟩, _, rfl⟩ := h0
    refine .inr ⟨g, cap, cur.setIfInBounds q x, rfl, h4, ?_, h6, h6b, by simpa using h7, ?_⟩
    · simp only [World.setCell, Array.getElem?_modify, h5]
      simp
    · rw [← h8]
      simp [List.take_set]

/-- The bytes of i bits, with room for the next one. -/
def packRoom (l : List Bool) (i : Nat) : List Nat := (List.range (i / 8 + 1)).map (byteAt (l.take i))

theorem packRoom_new (l : List Bool) (i : Nat) (hi : i < l.length) (h8 : i % 8 = 0) : packRoom l i = packed (l.take i) ++ [0] := by
  have hl : (l.take i).length = i := by simp; omega
  unfold packRoom packed
  rw [hl, List.range_succ, List.map_append, show (i + 7) / 8 = i / 8 from by omega]
  congr 1
  simp only [List.map_cons, List.map_nil]
  rw [byteAt_beyond _ _ (by rw [hl]; omega)]

theorem packRoom_same (l : List Bool) (i : Nat) (hi : i < l.length) (h8 : i % 8 ≠ 0) : packRoom l i = packed (l.take i) := by
  have hl : (l.take i).length = i := by simp; omega
  unfold packRoom packed
  rw [hl, show (i + 7) / 8 = i / 8 + 1 from by omega]

theorem pack_step (l : List Bool) (i : Nat) (hi : i < l.length) : packed (l.take (i + 1)) = (packRoom l i).set (i / 8) (byteAt (l.take i) (i / 8) + bn l i * 2 ^ (7 - i % 8)) := by
  have hl : (l.take i).length = i := by simp; omega
  have hl1 : (l.take (i + 1)).length = i + 1 := by simp; omega
  have hbit : bn l i = num [l[i]] := by simp [bn, hi]; cases l[i] <;> rfl
  unfold packed packRoom
  rw [hl1, show (i + 1 + 7) / 8 = i / 8 + 1 from by omega]
  apply List.ext_getElem?
  intro j
  rw [List.getElem?_set]
  simp only [List.getElem?_map, List.length_map, List.length_range]
  by_cases hj : j < i / 8 + 1
  · rw [List.getElem?_range hj]
    simp only [Option.map_some]
    rw [take_next l i hi]
    by_cases hji : i / 8 = j
    · rw [if_pos hji, if_pos (by omega)]
      subst hji
      rw [byteAt_here (l.take i) [l[i]] (i / 8) (i % 8) (by rw [hl]; omega) (by simp; omega) (by omega), hbit]
      simp only [List.length_cons, List.length_nil, Nat.zero_add]
      rw [show 8 - i % 8 - 1 = 7 - i % 8 from by omega]
    · rw [if_neg hji, byteAt_full (l.take i) [l[i]] j (by rw [hl]; omega)]
  · rw [List.getElem?_eq_none (by simp; omega)]
    simp
    omega

end Go.Proofs.YtnjcedlbdjidiaaGreatDoor

namespace Go.Proofs.YtnjcedlbdjidiaaGreatDoor
open Go.RowKit
open M
set_option linter.unusedVariables false

theorem pack_lt (l : List Bool) (i : Nat) (hi : i < l.length) : byteAt (l.take i) (i / 8) + bn l i * 2 ^ (7 - i % 8) < 256 := by
  have h := byteAt_lt (l.take (i + 1)) (i / 8)
  have hl : (l.take i).length = i := by simp; omega
  have hbit : bn l i = num [l[i]] := by simp [bn, hi]; cases l[i] <;> rfl
  rw [take_next l i hi, byteAt_here (l.take i) [l[i]] (i / 8) (i % 8) (by rw [hl]; omega) (by simp; omega) (by omega), ← hbit] at h
  simp only [List.length_cons, List.length_nil, Nat.zero_add] at h
  rwa [show 8 - i % 8 - 1 = 7 - i % 8 from by omega] at h

theorem wraps_u8' (n : Int) (h₀ : 0 ≤ n) (h₁ : n < 256) : IntKind.u8.wrap n = n := by
  simp only [IntKind.wrap, IntKind.bits, IntKind.signed]; simp; omega

/-- Behind i bits of Pack. -/
def PackSt (w : World) (l : List Bool) (i : Nat) (v : Value) (wr : World) : Prop :=
  wr.ownsRow w.heap.size 5 1 v ((i + 7) / 8) (bytesV (packed (l.take i))) ∧ Below w.heap.size w wr

/-- With room for the next bit. -/
def PackRm (w : World) (l : List Bool) (i q g cap : Nat) (wr : World) : Prop :=
  q = i / 8 ∧ wr.ownsRow w.heap.size 5 1 (.slice (some ⟨g, 0, none⟩) (q + 1) cap) (q + 1) (bytesV (packRoom l i)) ∧ Below w.heap.size w wr

theorem PackRm.cell {w wr : World} {l : List Bool} {i q g cap : Nat} (h : PackRm w l i q g cap wr) : wr.cell? ⟨g, q, none⟩ = some (.int .u8 (byteAt (l.take i) (i / 8) : Nat)) ∧ wr.frozen? ⟨g, q, none⟩ = false ∧ w.heap.size ≤ g ∧ g < wr.heap.size := by
  obtain ⟨hq, ⟨h1, h2⟩, _⟩ := h
  rcases h2 with ⟨h2, _⟩ | ⟨g', cap', cur, h0, h4, h5, h6, _, h7, h8⟩
  · simp at h2
  · simp only [Value.slice.injEq, Option.some.injEq, Addr.mk.injEq] at h0
    obtain ⟨⟨rfl, _⟩, _, rfl⟩ := h0
    refine ⟨?_, frozen_of_row _ _ _ _ _ h5, h4, ?_⟩
    · rw [cell_of_row _ _ _ _ _ _ h5, ← Array.getElem?_toList]
      have h9 := congrArg (fun l => l[q]?) h8
      rw [List.getElem?_take_of_lt (by omega)] at h9
      rw [h9]
      subst hq
      simp [bytesV, packRoom]
    · rcases Nat.lt_or_ge g wr.heap.size with hlt | hge
      · exact hlt
      · rw [Array.getElem?_eq_none hge] at h5; cases h5

theorem PackRm.step {w wr : World} {l : List Bool} {i q g cap Z : Nat} {X : Int} (h : PackRm w l i q g cap wr) (hi : i < l.length) (hZ : Z = byteAt (l.take i) (i / 8) + bn l i * 2 ^ (7 - i % 8)) (hX : X = (Z : Int)) :
    PackSt w l (i + 1) (.slice (some ⟨g, 0, none⟩) (q + 1) cap) (wr.setCell ⟨g, q, none⟩ (.int .u8 X)).drew := by
  subst hX
  obtain ⟨hq, h1, h2⟩ := h
  have hgc := PackRm.cell ⟨hq, h1, h2⟩
  refine ⟨?_, ?_⟩
  · rw [show (i + 1 + 7) / 8 = q + 1 from by omega, pack_step l i hi, ← hZ, ← hq]
    have := ownsRow_set (v := .slice none 0 0) (w := wr) h1 q (.int .u8 Z) (by omega)
    have e : bytesV ((packRoom l i).set q Z) = (bytesV (packRoom l i)).set q (.int .u8 (Z : Int)) := by simp [bytesV, List.map_set]
    rw [e]; exact this
  · exact h2.trans ⟨rfl, rfl, rfl, by simp [World.setCell], fun k hk => Below.heap_setCell _ _ _ _ (by show k ≠ g; have := hgc.2.2.1; omega)⟩

theorem PackSt.even {w wr : World} {l : List Bool} {i q : Nat} {v : Value} (h : PackSt w l i v wr) (hq : q = i / 8) (h8 : i % 8 = 0) : wr.ownsRow w.heap.size 5 1 v q (bytesV (packed (l.take i))) := by
  have := h.1; rwa [show (i + 7) / 8 = q from by omega] at this

theorem PackSt.room {w wr : World} {l : List Bool} {i q : Nat} {v : Value} (h : PackSt w l i v wr) (hi : i < l.length) (hq : q = i / 8) (h8 : i % 8 ≠ 0) : ∃ g cap, v = .slice (some ⟨g, 0, none⟩) (q + 1) cap ∧ PackRm w l i q g cap wr := by
  obtain ⟨h1, h2⟩ := h
  rw [show (i + 7) / 8 = q + 1 from by omega] at h1
  obtain ⟨g, cap, hv, _, _⟩ := h1.form (by omega)
  subst hv
  exact ⟨g, cap, rfl, hq, by rw [packRoom_same l i hi h8]; exact h1, h2⟩

set_option maxRecDepth 100000 in
set_option maxHeartbeats 4000000 in
theorem pack_any (v : Value) (lo hi : Nat) (l : List Bool) (w : World) (h : IsBits w v lo hi l) (hl : l.length ≤ 100000000) :
    Calls Tryz.prog 91 #[v] w fun e w' => ∃ v', e = .returned v' ∧ w'.ownsRow w.heap.size 5 1 v' ((l.length + 7) / 8) (bytesV (packed l)) ∧ Below w.heap.size w w' := by
  obtain ⟨p, cap, rfl, hcap, hc⟩ := h
  obtain ⟨i5, hi5⟩ := info5
  have Hi : Hid (Tryz.prog.info? 5 = some i5 ∧ i5.zero = some (.int .u8 0) ∧ i5.size = 1 ∧ i5.bytes = 1) := hi5
  have Hc : Hid (0 < l.length → ∃ g o, p = some ⟨g, o, none⟩ ∧ lo < g ∧ g < hi ∧ ∀ i, i < l.length → w.cell? ⟨g, o + i, none⟩ = some (.int .u8 (bn l i : Nat))) := hc
  obtain ⟨n, hn⟩ : ∃ n, n = l.length := ⟨_, rfl⟩
  rw [← hn]
  have Hn : Hid (n = l.length) := hn
  have hn2 : n ≤ 100000000 := by omega
  clear hc hcap hi5 hl hn
  go_enter Tryz.func91, Tryz.ntmps91
  go_wp2
  go_loopw [3, 4] (fun t3 t4 wr => ∃ i : Nat, i ≤ n ∧ t4 = .int .i64 i ∧ Hid (PackSt w l i t3 wr)) (fun _ t4 _ => n - (intOf t4).toNat)
  case atStart => exact ⟨0, by omega, rfl, ⟨by simpa [packed, bytesV] using World.ownsRow_nil w w.heap.size 5 1, Below.refl _ _⟩⟩
  case round =>
    obtain ⟨i, hin, rfl, HS⟩ := hrel
    by_cases hlt : i < n
    · have hlt' : (i : Int) < (n : Int) := by omega
      obtain ⟨g0, o0, rfl, _, _, hcell⟩ := Hc.out (by have := Hn.out; omega)
      have hil : i < l.length := by have := Hn.out; omega
      have hc0 := hcell i hil
      have hg0 : g0 < w.heap.size := block_lt_of_cell hc0
      have hcr : wr.cell? ⟨g0, o0 + i, none⟩ = some (.int .u8 (bn l i : Nat)) := by rw [HS.out.2.cell (p := ⟨g0, o0 + i, none⟩) hg0]; exact hc0
      obtain ⟨q, hq⟩ : ∃ q : Nat, (i : Int) / 8 = (q : Int) := ⟨i / 8, by omega⟩
      have Hq : Hid (q = i / 8) := by show _ = _; omega
      obtain ⟨sh, hsh⟩ : ∃ sh : Nat, sh = 7 - i % 8 := ⟨_, rfl⟩
      have hsh7 : sh ≤ 7 := by omega
      have hwq : IntKind.i64.wrap (q : Int) = (q : Int) := by rw [IntKind.wrap_i64]; omega
      have hwsh : IntKind.i64.wrap (7 - (i : Int).tmod 8) = (sh : Int) := by
        have e : (i : Int).tmod 8 = ((i % 8 : Nat) : Int) := by rw [Int.tmod_eq_emod_of_nonneg (by omega)]; simp
        rw [e, IntKind.wrap_i64]; omega
      have hwsu : IntKind.u64.wrap (sh : Int) = (sh : Int) := wraps_u64 (sh : Int) (by omega) (by omega)
      obtain ⟨Y, hY⟩ : ∃ Y, Y = byteAt (l.take i) (i / 8) := ⟨_, rfl⟩
      obtain ⟨z, hz⟩ : ∃ z, z = bn l i * 2 ^ sh := ⟨_, rfl⟩
      have hlt256 := pack_lt l i hil
      rw [← hY, ← hsh, ← hz] at hlt256
      have hmul : IntKind.u8.wrap ((bn l i : Int) * 2 ^ sh) = (z : Int) := by
        have e : ((bn l i : Int) * 2 ^ sh) = ((bn l i * 2 ^ sh : Nat) : Int) := by simp
        rw [e, ← hz]; exact wraps_u8' _ (by omega) (by omega)
      obtain ⟨Z, hZ⟩ : ∃ Z : Nat, Z = Y + z := ⟨_, rfl⟩
      have hsum : IntKind.u8.wrap ((Y : Int) + (z : Int)) = (Z : Int) := by
        have e : ((Y : Int) + (z : Int)) = ((Y + z : Nat) : Int) := by simp
        rw [e, ← hZ]; exact wraps_u8' _ (by omega) (by omega)
      have HZ : Hid (Z = byteAt (l.take i) (i / 8) + bn l i * 2 ^ (7 - i % 8)) := by show _ = _; rw [hZ, hY, hz, hsh]
      have HX : Hid (((Y : Int) + (bn l i : Int) * 2 ^ (7 - i % 8)) % 256 = (Z : Int)) := by
        show _ = _
        have e : ((bn l i : Int) * 2 ^ (7 - i % 8)) = ((bn l i * 2 ^ (7 - i % 8) : Nat) : Int) := by simp
        rw [e, ← hsh, ← hz, hZ]; omega
      have HY : Hid (Y = byteAt (l.take i) (i / 8)) := hY
      have hqi : (q : Int) < (q : Int) + 1 := by omega
      have Hil : Hid (i < l.length) := hil
      clear hcell hc0 hY hz hZ hsh hlt256 hil
      generalize bn l i = bi at hcr hmul HX
      by_cases h8 : i % 8 = 0
      · have h8' : ((i : Int) % 8 == 0) = true := by rw [beq_iff_eq]; omega
        go_wp2_with (at_builtin; refine wpList_append_lies _ rfl _ _ _ rfl w.heap.size 5 i5 (.int .u8 0) 1 1 Tryz.underlying59 Hi.out.1 Hi.out.2.1 Hi.out.2.2.1 Hi.out.2.2.2 rfl (by decide) _ q (bytesV (packed (l.take i))) rfl ((HS.out.even Hq.out h8).alloc _) ⟨wr.heap.size, 0, none⟩ 1 1 [.int .u8 0] rfl rfl ?d2 ?d3 (by decide) ?d4 ?d5 ?d7 _ rfl ?d6)
        case d2 => intro j u hj; exact cell_new1 wr _ 5 j u hj
        case d3 => intro u hu; simp at hu; subst hu; rfl
        case d4 => unfold maxLen; omega
        case d5 => omega
        case d7 => have := HS.out.2.size; simp; omega
        case d6 =>
          intro g cap1 w1 ho1 hg1 hat1 hlt1
          have B1 : Below w.heap.size wr w1 := ((Below.refl _ _).alloc HS.out.2.size _).trans (grown_below hg1 (fun g hg => ((HS.out.even Hq.out h8).lt g hg).1) (by have := HS.out.2.size; simp; omega))
          have R1 : PackRm w l i q g cap1 w1 := ⟨Hq.out, by rw [packRoom_new l i Hil.out h8]; simpa [bytesV] using ho1, HS.out.2.trans B1⟩
          have HR : Hid (PackRm w l i q g cap1 w1) := R1
          obtain ⟨k1, k2, k3, k4⟩ := R1.cell
          rw [← HY.out] at k1
          have hc1 : w1.cell? ⟨g0, o0 + i, none⟩ = some (.int .u8 (bi : Nat)) := by rw [B1.cell (p := ⟨g0, o0 + i, none⟩) hg0]; exact hcr
          have hne : g ≠ g0 := by omega
          clear ho1 hg1 hat1 hlt1 B1 R1 HS hcr
          go_wp2_with fail
          go_region
          all_goals
            go_wp2_with fail
            go_roundw
            case rel => exact ⟨i + 1, by omega, by go_num, HR.out.step Hil.out HZ.out (by have hx := HX.out; rw [h8] at hx; simpa using hx)⟩
            case measure => simp [intOf]; omega
      · have h8' : ((i : Int) % 8 == 0) = false := by rw [beq_eq_false_iff_ne]; omega
        obtain ⟨g, cap1, hv, R1⟩ := HS.out.room Hil.out Hq.out h8
        subst hv
        have HR : Hid (PackRm w l i q g cap1 wr) := R1
        obtain ⟨k1, k2, k3, k4⟩ := R1.cell
        rw [← HY.out] at k1
        have hne : g ≠ g0 := by omega
        clear R1 HS
        go_wp2_with fail
        go_region
        all_goals
          go_wp2_with fail
          go_roundw
          case rel => exact ⟨i + 1, by omega, by go_num, HR.out.step Hil.out HZ.out HX.out⟩
          case measure => simp [intOf]; omega
    · have hin2 : i = n := by omega
      subst hin2
      have e : l.take i = l := List.take_of_length_le (by have := Hn.out; omega)
      have HF : Hid (wr.ownsRow w.heap.size 5 1 u3 ((i + 7) / 8) (bytesV (packed l)) ∧ Below w.heap.size w wr) := by have := HS.out; unfold PackSt at this; rwa [e] at this
      clear HS e
      go_wp2_with fail
      go_ret
      exact ⟨_, rfl, HF.out⟩

/-- The row of a Writer of the document, as a row of bits. -/
theorem Rw.bits {w : World} {b off : Nat} {r : Option Nat} {l : List Bool} {e : Int} (h : Rw w b off r l e) (hr : ∀ g, r = some g → 0 < g) : ∃ p cap, w.cell? ⟨b, off, none⟩ = some (.slice p l.length cap) ∧ IsBits w (.slice p l.length cap) 0 (w.heap.size + 1) l := by
  obtain ⟨v, h1, ⟨h2, h3⟩, h4, h5⟩ := h.row
  rcases h3 with ⟨rfl, h6⟩ | ⟨g, cap, cur, rfl, _, h6, h7, _, h8, h9⟩
  · rw [h6]
    exact ⟨none, 0, h1, none, 0, by rw [h6], by omega, fun h0 => by omega⟩
  · refine ⟨some ⟨g, 0, none⟩, cap, h1, some ⟨g, 0, none⟩, cap, rfl, h7, fun h0 => ⟨g, 0, rfl, ?_, ?_, fun i hi => ?_⟩⟩
    · exact hr g (by rw [← h4]; rfl)
    · have := (h.apart g (by rw [← h4]; rfl)).2; omega
    · rw [cell_of_row _ _ _ _ _ _ h6]
      have h10 := congrArg (fun l => l[i]?) h9
      rw [List.getElem?_take_of_lt (by omega)] at h10
      simp only [List.getElem?_map, List.getElem?_eq_getElem hi, Option.map_some] at h10
      simp only [Nat.zero_add]
      rw [Array.getElem?_toList] at h10
      rw [h10]
      simp only [bn, List.getElem?_eq_getElem hi, bitV]
      cases l[i] <;> simp

theorem refdone_ok (b off : Nat) (r : Option Nat) (l : List Bool) (w : World) (h : Rw w b off r l 0) (hr : ∀ g, r = some g → 0 < g) (hl : l.length ≤ 100000000) :
    Calls Tryz.prog 42 #[.pointer (some ⟨b, off, none⟩)] w fun e w' => ∃ v', e = .returned (.tuple #[v', .int .i64 0]) ∧ w'.ownsRow w.heap.size 5 1 v' ((l.length + 7) / 8) (bytesV (packed l)) ∧ Below w.heap.size w w' := by
  obtain ⟨p, cap, h1, hI⟩ := h.bits hr
  have h2 := h.err
  have H : Hid (Calls Tryz.prog 91 #[.slice p l.length cap] w fun e w' => ∃ v', e = .returned v' ∧ w'.ownsRow w.heap.size 5 1 v' ((l.length + 7) / 8) (bytesV (packed l)) ∧ Below w.heap.size w w') := pack_any _ _ _ l w hI hl
  clear hI h
  generalize l.length = n at *
  go_enter Tryz.func42, Tryz.ntmps42
  go_wp2_with fail
  refine H.out.mono ?_
  rintro _ w1 ⟨v', rfl, hq⟩
  have HQ : Hid (w1.ownsRow w.heap.size 5 1 v' ((n + 7) / 8) (bytesV (packed l)) ∧ Below w.heap.size w w1) := hq
  clear hq
  go_wp2_with fail
  go_ret2
  exact ⟨v', rfl, HQ.out⟩

theorem refdone_bad (b off : Nat) (e0 : Int) (w : World) (hn : w.cell? ⟨b, off + 1, none⟩ = some (.int .i64 e0)) (hne : e0 ≠ 0) :
    Calls Tryz.prog 42 #[.pointer (some ⟨b, off, none⟩)] w fun e w' => e = .returned (.tuple #[.slice none 0 0, .int .i64 e0]) ∧ ∃ n, w' = w.drewN n := by
  have hne' : (e0 != 0) = true := by simp [hne]
  go_enter Tryz.func42, Tryz.ntmps42
  go_wp2_with fail
  go_quiet (fail)
  go_wp2
  go_ret2
  exact ⟨rfl, _, rfl⟩

end Go.Proofs.YtnjcedlbdjidiaaGreatDoor

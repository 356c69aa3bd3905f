/- The laws' Lend and Intact. -/
import Derived.Test.YtfbkdjghbgdgpaaAO
import Derived.Test.YtfbkdjghbgdgpaaP
import Derived.Laws.AppendOwnNone
import Derived.OwnWalk
namespace Go.Proofs.Ytfbkdjghbgdgpaa
open Go.RowKit
open M
set_option linter.unusedVariables false
set_option linter.unusedSimpArgs false

/-- Bytes as they lie. -/
def IsBytes (w : World) (v : Value) (bs : List Nat) : Prop :=
  (v = .slice none 0 0 ∧ bs = []) ∨ ∃ g o cap, v = .slice (some ⟨g, o, none⟩) bs.length cap ∧ ∀ i, i < bs.length → w.cell? ⟨g, o + i, none⟩ = some (.int .u8 (bs.getD i 0 : Nat))
def IsBy (w : World) (v : Value) (bs : List Nat) : Prop := IsBytes w v bs ∨ ∃ ad cap, v = .slice (some ad) 0 cap ∧ bs = []

theorem cvt_bytes (w : World) (v : Value) (bs : List Nat) (h : IsBytes w v bs) : (convert 23 9 v).run Try.prog w = .ok (.string (strOf bs)) w := by
  rcases h with ⟨rfl, rfl⟩ | ⟨g, o, cap, rfl, hc⟩
  · rw [run_convert_bytes_nil w 23 5 Try.underlying23 Try.underlying5 0 0 9 Try.underlying9]; rfl
  · exact run_convert_bytes_arg w 23 5 Try.underlying23 Try.underlying5 g o bs.length cap (bs.map fun (n : Nat) => (n : Int)) (by simp) (fun i hi => by rw [hc i hi]; simp [List.getD, hi]) 9 Try.underlying9

theorem cvt_by (w : World) (v : Value) (bs : List Nat) (h : IsBy w v bs) : (convert 23 9 v).run Try.prog w = .ok (.string (strOf bs)) w := by
  rcases h with h | ⟨ad, cap, rfl, rfl⟩
  · exact cvt_bytes w v bs h
  · rw [run_convert_bytes_string w 23 9 5 _ 0 cap Try.underlying23 Try.underlying5 Try.underlying9, run_bytesToString w ad 0 cap [] (by simp [loadCells, loadCellsFrom])]; rfl

theorem IsBytes.news {w : World} {ad : Addr} {n c : Nat} {bs : List Nat} (h : IsBytes w (.slice (some ad) n c) bs) : n = bs.length ∧ ∀ j u, (bytesV bs)[j]? = some u → w.cell? (ad.add j) = some u := by
  rcases h with ⟨h, _⟩ | ⟨g, o, cap, h, h2⟩
  · simp at h
  · simp only [Value.slice.injEq, Option.some.injEq] at h
    obtain ⟨rfl, rfl, rfl⟩ := h
    refine ⟨rfl, fun j u hj => ?_⟩
    have hjl : j < bs.length := by
      rcases Nat.lt_or_ge j bs.length with h | h
      · exact h
      · rw [List.getElem?_eq_none (by simpa [bytesV] using h)] at hj; simp at hj
    rw [Addr.add_mid, h2 j hjl, ← hj]
    simp [bytesV, hjl]

theorem bytesV_cell (bs : List Nat) : ∀ u ∈ bytesV bs, u.oneCell' = true := by
  intro u hu
  simp only [bytesV, List.mem_map] at hu
  obtain ⟨n, _, rfl⟩ := hu
  rfl
/-- The first k marks. -/
def marksN (k : Nat) : List Nat := (List.range k).map fun i => 165 - i

@[simp] theorem marksN_length (k : Nat) : (marksN k).length = k := by simp [marksN]

theorem marksN_succ (k : Nat) : marksN (k + 1) = marksN k ++ [165 - k] := by simp [marksN, List.range_succ]

theorem mark_any (i : Nat) (w : World) (h : i ≤ 70) : Calls Try.prog 25 #[.int .i64 i] w fun e w' => e = .returned (.int .u8 ((165 - i : Nat) : Int)) ∧ w' = w := by
  go_enter Try.func25, Try.ntmps25
  go_wp2
  go_ret
  refine ⟨?_, rfl⟩
  show Ending.returned (.int .u8 _) = _
  congr 2
  omega

/-- Bytes that are lent: in a block of their own, the marks behind them. -/
def Lent (w : World) (base g cap : Nat) (bs : List Nat) : Prop := w.ownsRow base 5 1 (.slice (some ⟨g, 0, none⟩) (bs.length + 70) cap) (bs.length + 70) (bytesV (bs ++ marksN 70))

/-- Behind i marks. -/
def LendSt (w : World) (bs : List Nat) (i : Nat) (v : Value) (wr : World) : Prop :=
  wr.ownsRow w.heap.size 5 1 v (bs.length + i) (bytesV (bs ++ marksN i)) ∧ Below w.heap.size w wr ∧ w.heap.size < wr.heap.size

set_option maxRecDepth 100000 in
set_option maxHeartbeats 4000000 in
theorem lend_some (ad : Addr) (n cap0 : Nat) (bs : List Nat) (w : World) (hn : n = bs.length) (hn2 : n ≤ 65536) (hnews : ∀ j u, (bytesV bs)[j]? = some u → w.cell? (ad.add j) = some u) :
    Calls Try.prog 7 #[.slice (some ad) n cap0] w fun e w' => ∃ g cap, e = .returned (.slice (some ⟨g, 0, none⟩) n cap) ∧ Lent w' w.heap.size g cap bs ∧ Below w.heap.size w w' := by
  obtain ⟨i5, hi5⟩ := info8
  have Hi : Hid (Try.prog.info? 5 = some i5 ∧ i5.zero = some (.int .u8 0) ∧ i5.size = 1 ∧ i5.bytes = 1) := hi5
  have Hn : Hid (n = bs.length) := hn
  have HN : Hid (∀ j u, (bytesV bs)[j]? = some u → w.cell? (ad.add j) = some u) := hnews
  clear hi5 hn hnews
  obtain ⟨n70, hn70⟩ : ∃ n70 : Nat, (n : Int) + 70 = (n70 : Int) := ⟨n + 70, by omega⟩
  go_enter Try.func7, Try.ntmps7
  go_wp2_with (at_make; refine wpList_make_own _ rfl _ _ _ rfl w.heap.size 5 i5 (.int .u8 0) 1 Try.underlying23 Hi.out.1 Hi.out.2.1 Hi.out.2.2.1 .i64 .i64 (n70 : Int) n70 rfl (by simp [Act.eval]) rfl (by rw [Hi.out.2.2.2]; omega) (by unfold maxLen; omega) (Nat.le_refl _) ?_)
  intro w1 ho1 hg1
  have B1 : Below w.heap.size w w1 := grown_below hg1 (fun g hg => by simp at hg) (Nat.le_refl _)
  have z1 : w.heap.size < w1.heap.size := (ho1.lt w.heap.size rfl).2
  have HO1 : Hid (w1.ownsRow w.heap.size 5 1 (.slice (some ⟨w.heap.size, 0, none⟩) 0 n70) 0 [] ∧ Below w.heap.size w w1) := ⟨ho1, B1⟩
  clear ho1 hg1 B1
  go_wp2_with (at_builtin; refine wpList_append_own _ rfl _ _ _ rfl w.heap.size 5 i5 (.int .u8 0) 1 1 Try.underlying23 Hi.out.1 Hi.out.2.1 Hi.out.2.2.1 Hi.out.2.2.2 rfl (by decide) (.slice (some ⟨w.heap.size, 0, none⟩) 0 n70) 0 [] rfl HO1.out.1 ad n cap0 (bytesV bs) rfl ?c2 ?c3 (bytesV_cell bs) ?c4 ?c5 ?c7 ?c6)
  case c2 => rw [Nat.mul_one, Hn.out]; simp
  case c3 => intro j u hj; have h := HN.out j u hj; rw [HO1.out.2.cell (block_lt_of_cell h)]; exact h
  case c4 => unfold maxLen; omega
  case c5 => omega
  case c7 => omega
  case c6 =>
    intro v2 w2 ho2 hg2 _
    have B2 : Below w.heap.size w1 w2 := grown_below hg2 (fun g hg => by simp [Value.ownBlock] at hg; omega) (by omega)
    have HS2 : Hid (LendSt w bs 0 v2 w2) := ⟨by simpa [marksN, Hn.out] using ho2, HO1.out.2.trans B2, Nat.lt_of_lt_of_le z1 B2.size⟩
    clear ho2 hg2 B2 HO1 HN z1
    go_wp2_with fail
    go_loopw [3, 4] (fun t3 t4 wr => ∃ i : Nat, i ≤ 70 ∧ t4 = .int .i64 i ∧ Hid (LendSt w bs i t3 wr)) (fun _ t4 _ => 70 - (intOf t4).toNat)
    case atStart => exact ⟨0, by omega, rfl, HS2⟩
    case round =>
      obtain ⟨i, hi, rfl, HS⟩ := hrel
      by_cases hlt : i < 70
      · have hlt' : (i : Int) < 70 := by omega
        go_wp2_with fail
        refine (mark_any i wr (by omega)).mono ?_
        rintro e w3 ⟨rfl, rfl⟩
        go_wp2_with (at_builtin; refine wpList_append_lies _ rfl _ _ _ rfl w.heap.size 5 i5 (.int .u8 0) 1 1 Try.underlying23 Hi.out.1 Hi.out.2.1 Hi.out.2.2.1 Hi.out.2.2.2 rfl (by decide) _ (bs.length + i) (bytesV (bs ++ marksN i)) rfl (HS.out.1.alloc _) ⟨w3.heap.size, 0, none⟩ 1 1 [.int .u8 ((165 - i : Nat) : Int)] rfl rfl ?d2 ?d3 (by decide) ?d4 ?d5 ?d7 _ rfl ?d6)
        case d2 => intro j u hj; exact cell_new1 w3 _ 5 j u hj
        case d3 => intro u hu; simp at hu; subst hu; rfl
        case d4 => have := Hn.out; unfold maxLen; omega
        case d5 => have := Hn.out; omega
        case d7 => have := HS.out.2.2; simp; omega
        case d6 =>
          intro g cap w4 ho4 hg4 hat4 hlt4
          have B4 : Below w.heap.size w3 w4 := ((Below.refl _ _).alloc (by have := HS.out.2.2; omega) _).trans (grown_below hg4 (fun g hg => (HS.out.1.lt g hg).1) (by have := HS.out.2.2; simp; omega))
          have HS4 : Hid (LendSt w bs (i + 1) (.slice (some ⟨g, 0, none⟩) (bs.length + i + 1) cap) w4) := by
            refine ⟨?_, HS.out.2.1.trans B4, Nat.lt_of_lt_of_le HS.out.2.2 B4.size⟩
            rw [marksN_succ, ← List.append_assoc]
            simpa [bytesV, Nat.add_assoc] using ho4
          clear ho4 hg4 hat4 hlt4 B4 HS
          go_wp2_with fail
          go_roundw
          case rel => exact ⟨i + 1, by omega, by go_num, HS4⟩
          case measure => simp [intOf]; omega
      · have hi70 : i = 70 := by omega
        subst hi70
        obtain ⟨g, cap, hv, hg, hgs⟩ := HS.out.1.form (by omega)
        have hcap : bs.length + 70 ≤ cap := by
          rcases HS.out.1.2 with ⟨h, _⟩ | ⟨g', cap', cur, h, _, _, h2, _⟩
          · rw [hv] at h; simp at h
          · rw [hv] at h; simp only [Value.slice.injEq] at h; omega
        have hnc : n ≤ cap := by have := Hn.out; omega
        have HF : Hid (Lent wr w.heap.size g cap bs ∧ Below w.heap.size w wr) := ⟨by have := HS.out.1; rw [hv] at this; exact this, HS.out.2.1⟩
        clear HS
        subst hv
        go_wp2_with fail
        go_ret
        exact ⟨g, cap, rfl, HF.out⟩

set_option maxRecDepth 100000 in
set_option maxHeartbeats 4000000 in
theorem lend_none (bs : List Nat) (w : World) (hn : 0 = bs.length) :
    Calls Try.prog 7 #[.slice none 0 0] w fun e w' => ∃ g cap, e = .returned (.slice (some ⟨g, 0, none⟩) 0 cap) ∧ Lent w' w.heap.size g cap bs ∧ Below w.heap.size w w' := by
  obtain ⟨i5, hi5⟩ := info8
  have Hi : Hid (Try.prog.info? 5 = some i5 ∧ i5.zero = some (.int .u8 0) ∧ i5.size = 1 ∧ i5.bytes = 1) := hi5
  have Hn : Hid (0 = bs.length) := hn
  clear hi5 hn
  go_enter Try.func7, Try.ntmps7
  go_wp2_with (at_make; refine wpList_make_own _ rfl _ _ _ rfl w.heap.size 5 i5 (.int .u8 0) 1 Try.underlying23 Hi.out.1 Hi.out.2.1 Hi.out.2.2.1 .i64 .i64 (70 : Int) 70 rfl (by simp [Act.eval]) rfl (by rw [Hi.out.2.2.2]; omega) (by unfold maxLen; omega) (Nat.le_refl _) ?_)
  intro w1 ho1 hg1
  have B1 : Below w.heap.size w w1 := grown_below hg1 (fun g hg => by simp at hg) (Nat.le_refl _)
  have z1 : w.heap.size < w1.heap.size := (ho1.lt w.heap.size rfl).2
  have HO1 : Hid (w1.ownsRow w.heap.size 5 1 (.slice (some ⟨w.heap.size, 0, none⟩) 0 70) 0 [] ∧ Below w.heap.size w w1) := ⟨ho1, B1⟩
  clear ho1 hg1 B1
  go_wp2_with (at_builtin; refine wpList_append_own_none rfl _ _ _ rfl w.heap.size 5 i5 1 Try.underlying23 Hi.out.1 (.slice (some ⟨w.heap.size, 0, none⟩) 0 70) 0 [] rfl HO1.out.1 rfl ?c6)
  have HS2 : Hid (LendSt w bs 0 (.slice (some ⟨w.heap.size, 0, none⟩) 0 70) w1) := ⟨by rw [List.length_eq_zero_iff.1 Hn.out.symm]; simpa [marksN, bytesV] using HO1.out.1, HO1.out.2, z1⟩
  clear HO1 z1
  go_loopw [3, 4] (fun t3 t4 wr => ∃ i : Nat, i ≤ 70 ∧ t4 = .int .i64 i ∧ Hid (LendSt w bs i t3 wr)) (fun _ t4 _ => 70 - (intOf t4).toNat)
  case atStart => exact ⟨0, by omega, rfl, HS2⟩
  case round =>
    obtain ⟨i, hi, rfl, HS⟩ := hrel
    by_cases hlt : i < 70
    · have hlt' : (i : Int) < 70 := by omega
      go_wp2_with fail
      refine (mark_any i wr (by omega)).mono ?_
      rintro e w3 ⟨rfl, rfl⟩
      go_wp2_with (at_builtin; refine wpList_append_lies _ rfl _ _ _ rfl w.heap.size 5 i5 (.int .u8 0) 1 1 Try.underlying23 Hi.out.1 Hi.out.2.1 Hi.out.2.2.1 Hi.out.2.2.2 rfl (by decide) _ (bs.length + i) (bytesV (bs ++ marksN i)) rfl (HS.out.1.alloc _) ⟨w3.heap.size, 0, none⟩ 1 1 [.int .u8 ((165 - i : Nat) : Int)] rfl rfl ?d2 ?d3 (by decide) ?d4 ?d5 ?d7 _ rfl ?d6)
      case d2 => intro j u hj; exact cell_new1 w3 _ 5 j u hj
      case d3 => intro u hu; simp at hu; subst hu; rfl
      case d4 => have := Hn.out; unfold maxLen; omega
      case d5 => have := Hn.out; omega
      case d7 => have := HS.out.2.2; simp; omega
      case d6 =>
        intro g cap w4 ho4 hg4 hat4 hlt4
        have B4 : Below w.heap.size w3 w4 := ((Below.refl _ _).alloc (by have := HS.out.2.2; omega) _).trans (grown_below hg4 (fun g hg => (HS.out.1.lt g hg).1) (by have := HS.out.2.2; simp; omega))
        have HS4 : Hid (LendSt w bs (i + 1) (.slice (some ⟨g, 0, none⟩) (bs.length + i + 1) cap) w4) := by
          refine ⟨?_, HS.out.2.1.trans B4, Nat.lt_of_lt_of_le HS.out.2.2 B4.size⟩
          rw [marksN_succ, ← List.append_assoc]
          simpa [bytesV, Nat.add_assoc] using ho4
        clear ho4 hg4 hat4 hlt4 B4 HS
        go_wp2_with fail
        go_roundw
        case rel => exact ⟨i + 1, by omega, by go_num, HS4⟩
        case measure => simp [intOf]; omega
    · have hi70 : i = 70 := by omega
      subst hi70
      obtain ⟨g, cap, hv, hg, hgs⟩ := HS.out.1.form (by omega)
      have hcap : bs.length + 70 ≤ cap := by
        rcases HS.out.1.2 with ⟨h, _⟩ | ⟨g', cap', cur, h, _, _, h2, _⟩
        · rw [hv] at h; simp at h
        · rw [hv] at h; simp only [Value.slice.injEq] at h; omega
      have hnc : 0 ≤ cap := by omega
      have HF : Hid (Lent wr w.heap.size g cap bs ∧ Below w.heap.size w wr) := ⟨by have := HS.out.1; rw [hv] at this; exact this, HS.out.2.1⟩
      clear HS
      subst hv
      go_wp2_with fail
      go_ret
      exact ⟨g, cap, rfl, HF.out⟩

theorem lend_any (v : Value) (bs : List Nat) (w : World) (h : IsBy w v bs) (hn2 : bs.length ≤ 65536) :
    Calls Try.prog 7 #[v] w fun e w' => ∃ g cap, e = .returned (.slice (some ⟨g, 0, none⟩) bs.length cap) ∧ Lent w' w.heap.size g cap bs ∧ Below w.heap.size w w' := by
  rcases h with h | ⟨ad, cap, rfl, rfl⟩
  · have h' := h
    rcases h with ⟨rfl, rfl⟩ | ⟨g, o, cap, rfl, hc⟩
    · exact lend_none [] w rfl
    · exact lend_some ⟨g, o, none⟩ bs.length cap bs w rfl hn2 h'.news.2
  · exact lend_some ad 0 cap [] w rfl (by omega) (fun j u hj => by simp [bytesV] at hj)

theorem Lent.lies {w : World} {base g cap : Nat} {bs : List Nat} (h : Lent w base g cap bs) : bs.length + 70 ≤ cap ∧ base ≤ g ∧ g < w.heap.size ∧ ∃ cur : Array Value, w.heap[g]? = some (.cells cur 5 (0, 0)) ∧ ∀ (i : Nat) (u : Value), (bytesV (bs ++ marksN 70))[i]? = some u → cur[i]? = some u := by
  obtain ⟨h1, h2⟩ := h
  rcases h2 with ⟨h2, _⟩ | ⟨g', cap', cur, h0, h4, h5, h6, _, h7, h8⟩
  · simp at h2
  · simp only [Value.slice.injEq, Option.some.injEq, Addr.mk.injEq] at h0
    obtain ⟨⟨rfl, _⟩, _, rfl⟩ := h0
    refine ⟨h6, h4, ?_, cur, h5, fun i u hu => ?_⟩
    · rcases Nat.lt_or_ge g w.heap.size with hlt | hge
      · exact hlt
      · rw [Array.getElem?_eq_none hge] at h5; cases h5
    · rw [← h8] at hu
      rw [← Array.getElem?_toList]
      have hi : i < (bs.length + 70) * 1 := by
        rcases Nat.lt_or_ge i ((bs.length + 70) * 1) with hlt | hge
        · exact hlt
        · rw [List.getElem?_eq_none (by rw [List.length_take]; omega)] at hu; cases hu
      rwa [List.getElem?_take_of_lt hi] at hu

theorem Lent.byte {w : World} {base g cap : Nat} {bs : List Nat} (h : Lent w base g cap bs) (i : Nat) (hi : i < bs.length) : w.cell? ⟨g, i, none⟩ = some (.int .u8 (bs.getD i 0 : Nat)) := by
  obtain ⟨_, _, _, cur, h1, h2⟩ := h.lies
  rw [cell_of_row _ _ _ _ _ _ h1]
  apply h2
  unfold bytesV
  rw [List.map_append, List.getElem?_append_left (by simpa using hi), List.getElem?_map, List.getD_eq_getElem?_getD, List.getElem?_eq_getElem hi]
  rfl

theorem Lent.mark {w : World} {base g cap : Nat} {bs : List Nat} (h : Lent w base g cap bs) (i : Nat) (hi : i < 70) : w.cell? ⟨g, bs.length + i, none⟩ = some (.int .u8 ((165 - i : Nat) : Int)) := by
  obtain ⟨_, _, _, cur, h1, h2⟩ := h.lies
  rw [cell_of_row _ _ _ _ _ _ h1]
  apply h2
  simp [bytesV, marksN, hi]

theorem Lent.free {w : World} {base g cap : Nat} {bs : List Nat} (h : Lent w base g cap bs) (i : Nat) : w.frozen? ⟨g, i, none⟩ = false := by
  obtain ⟨_, _, _, cur, h1, h2⟩ := h.lies
  exact frozen_of_row _ _ _ _ _ h1

theorem Lent.bytes {w : World} {base g cap : Nat} {bs : List Nat} (h : Lent w base g cap bs) : IsBytes w (.slice (some ⟨g, 0, none⟩) bs.length cap) bs :=
  .inr ⟨g, 0, cap, rfl, fun i hi => by rw [Nat.zero_add]; exact h.byte i hi⟩

theorem Lent.below {w w' : World} {base g cap : Nat} {bs : List Nat} (h : Lent w base g cap bs) (hB : Below w.heap.size w w') : Lent w' base g cap bs :=
  ownsRow_keep h (fun g' hg => hB.block g' (by simp only [Value.ownBlock, Option.some.injEq] at hg; subst hg; exact h.lies.2.2.1))

set_option maxRecDepth 100000 in
set_option maxHeartbeats 4000000 in
theorem intact_any (base g cap n : Nat) (v : Value) (bs : List Nat) (w : World) (hn : n = bs.length) (hn2 : n ≤ 65536) (hL : Lent w base g cap bs) (hv : IsBy w v bs) :
    Calls Try.prog 11 #[.slice (some ⟨g, 0, none⟩) n cap, v] w fun e w' => e = .returned (.bool true) ∧ ∃ m, w' = w.drewN m := by
  have hc1 := cvt_bytes w (.slice (some ⟨g, 0, none⟩) bs.length cap) bs hL.bytes
  have hc2 := cvt_by w v bs hv
  rw [← hn] at hc1
  have hcap : n + 70 ≤ cap := by rw [hn]; exact hL.lies.1
  obtain ⟨n70, hn70⟩ : ∃ n70 : Nat, (n : Int) + 70 = (n70 : Int) := ⟨n + 70, by omega⟩
  have hn7 : n70 ≤ cap := by omega
  have HL : Hid (∀ i, i < 70 → w.cell? ⟨g, n + i, none⟩ = some (.int .u8 ((165 - i : Nat) : Int))) := fun i hi => by rw [hn]; exact hL.mark i hi
  clear hL hv hn
  generalize strOf bs = s at *
  go_enter Try.func11, Try.ntmps11
  go_wp2_with fail
  go_loopw [6] (fun t6 wr => ∃ i : Nat, i ≤ 70 ∧ t6 = .int .i64 i ∧ Hid (∃ m, wr = w.drewN m)) (fun t6 _ => 70 - (intOf t6).toNat)
  case atStart => exact ⟨0, by omega, rfl, ⟨0, rfl⟩⟩
  case round =>
    obtain ⟨i, hi, rfl, Hm⟩ := hrel
    by_cases hlt : i < 70
    · have hlt' : (i : Int) < 70 := by omega
      obtain ⟨k, hk⟩ : ∃ k : Nat, IntKind.i64.wrap ((n : Int) + (i : Int)) = (k : Int) := ⟨n + i, by rw [IntKind.wrap_i64]; omega⟩
      have hk' : k = n + i := by rw [IntKind.wrap_i64] at hk; omega
      have hkn : k < n70 := by omega
      have hki : (k : Int) < (n70 : Int) := by omega
      have hc : wr.cell? ⟨g, k, none⟩ = some (.int .u8 ((165 - i : Nat) : Int)) := by
        obtain ⟨m, rfl⟩ := Hm.out
        rw [hk']; exact HL.out i hlt
      have hmk := fun w => mark_any i w (by omega)
      have HM : Hid (∀ w, Calls Try.prog 25 #[.int .i64 i] w fun e w' => e = .returned (.int .u8 ((165 - i : Nat) : Int)) ∧ w' = w) := hmk
      clear hmk hk'
      generalize 165 - i = y at *
      go_wp2_with fail
      go_quiet ((go_at_call 25; exact Calls.quiet_of_same (HM.out _)))
      go_wp2_with fail
      refine ⟨⟨i + 1, by omega, by go_num, ?_⟩, by simp [intOf]; omega⟩
      obtain ⟨m, rfl⟩ := Hm.out
      exact ⟨m + nq, World.drewN_drewN _ _ _⟩
    · go_wp2_with fail
      go_ret
      exact ⟨rfl, Hm.out⟩


end Go.Proofs.Ytfbkdjghbgdgpaa

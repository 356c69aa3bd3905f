/- The law's LendSmalls, BackSmalls, OverSmalls. -/
import Derived.Test.YtnjcedlbdjidiaaGreatDoorP1B32
import Derived.Test.YtnjcedlbdjidiaaGreatDoorKN
import Derived.Deep.AppendLies
import Derived.Laws.AppendOwnNone
import Derived.OwnWalk
import Derived.BigQuiet
import Derived.Test.YtnjcedlbdjidiaaGreatDoorP3F
import Derived.Test.YtnjcedlbdjidiaaGreatDoorP2B
import Derived.Test.YtnjcedlbdjidiaaGreatDoorKQ
/- The law's LendWords, BackWords, OverWords. -/
namespace Go.Proofs.YtnjcedlbdjidiaaGreatDoor
open Go.RowKit
open M
set_option linter.unusedVariables false

/-- n times, marks behind them. -/
def mkf64 (n : Nat) (f : Nat → Nat) : Nat → Nat := fun j => if j < n then f j else 777

theorem valsV64_length (i : Nat) (f : Nat → Nat) : (valsV64 i f).length = i := by simp [valsV64]

theorem valsV64_get {i j : Nat} {f : Nat → Nat} (h : j < i) : (valsV64 i f)[j]? = some (.int .u64 ((f j) : Nat)) := by simp [valsV64, h]

theorem valsV64_cell (i : Nat) (f : Nat → Nat) : ∀ u ∈ valsV64 i f, u.oneCell' = true := by
  intro u hu
  simp only [valsV64, List.mem_map] at hu
  obtain ⟨j, _, rfl⟩ := hu
  rfl

theorem valsV64_mkf64 (n : Nat) (f : Nat → Nat) : valsV64 n (mkf64 n f) = valsV64 n f := by
  unfold valsV64
  apply List.map_congr_left
  intro j hj
  simp [mkf64, List.mem_range.1 hj]

theorem mkf64_mark (n i : Nat) (f : Nat → Nat) : mkf64 n f (n + i) = 777 := by unfold mkf64; rw [if_neg (by omega)]

/-- Times that are lent: in a block of their own, the marks behind them. -/
def LentU64 (w : World) (base g cap n : Nat) (f : Nat → Nat) : Prop := w.ownsRow base 71 1 (.slice (some ⟨g, 0, none⟩) (n + 9) cap) (n + 9) (valsV64 (n + 9) (mkf64 n f))

/-- Behind i marks. -/
def LendUSt64 (w : World) (n : Nat) (f : Nat → Nat) (i : Nat) (v : Value) (wr : World) : Prop :=
  wr.ownsRow w.heap.size 71 1 v (n + i) (valsV64 (n + i) (mkf64 n f)) ∧ Below w.heap.size w wr ∧ w.heap.size < wr.heap.size

theorem LentU64.lies {w : World} {base g cap n : Nat} {f : Nat → Nat} (h : LentU64 w base g cap n f) : n + 9 ≤ cap ∧ base ≤ g ∧ g < w.heap.size ∧ (∀ i, i < n → w.cell? ⟨g, i, none⟩ = some (.int .u64 ((f i) : Nat))) ∧ (∀ i, i < 9 → w.cell? ⟨g, n + i, none⟩ = some (.int .u64 777)) ∧ ∀ i, w.frozen? ⟨g, i, none⟩ = false := by
  obtain ⟨h1, h2⟩ := h
  rcases h2 with ⟨h2, _⟩ | ⟨g', cap', cur, h0, h4, h5, h6, _, h7, h8⟩
  · simp at h2
  · simp only [Value.slice.injEq, Option.some.injEq, Addr.mk.injEq] at h0
    obtain ⟨⟨rfl, _⟩, _, rfl⟩ := h0
    have hget : ∀ i, i < n + 9 → w.cell? ⟨g, i, none⟩ = some (.int .u64 ((mkf64 n f i) : Nat)) := fun i hi => by
      rw [cell_of_row w g i cur _ (0, 0) h5, ← valsV64_get (f := mkf64 n f) hi, ← h8, List.getElem?_take, if_pos (by omega)]
      simp
    refine ⟨h6, h4, ?_, fun i hi => ?_, fun i hi => ?_, fun i => frozen_of_row _ _ _ _ _ h5⟩
    · rcases Nat.lt_or_ge g w.heap.size with hlt | hge
      · exact hlt
      · rw [Array.getElem?_eq_none hge] at h5; cases h5
    · rw [hget i (by omega)]; simp [mkf64, hi]
    · rw [hget (n + i) (by omega), mkf64_mark]; rfl

theorem LentU64.row {w : World} {base g cap n : Nat} {f : Nat → Nat} (h : LentU64 w base g cap n f) : URow64 w (some ⟨g, 0, none⟩) n f := fun _ => ⟨g, 0, rfl, fun i hi => by rw [Nat.zero_add]; exact h.lies.2.2.2.1 i hi⟩

theorem LentU64.below {w w' : World} {base g cap n : Nat} {f : Nat → Nat} (h : LentU64 w base g cap n f) (hB : Below w.heap.size w w') : LentU64 w' base g cap n f :=
  ownsRow_keep h (fun g' hg => hB.block g' (by simp only [Value.ownBlock, Option.some.injEq] at hg; subst hg; exact h.lies.2.2.1))

set_option maxRecDepth 100000 in
set_option maxHeartbeats 4000000 in
theorem lendU64_some (ad : Addr) (n cap0 : Nat) (f : Nat → Nat) (w : World) (hn2 : n ≤ 1000000) (hnews : ∀ j u, (valsV64 n f)[j]? = some u → w.cell? (ad.add j) = some u) :
    Calls Tryz.prog 15 #[.slice (some ad) n cap0] w fun e w' => ∃ g cap, e = .returned (.slice (some ⟨g, 0, none⟩) n cap) ∧ LentU64 w' w.heap.size g cap n f ∧ Below w.heap.size w w' := by
  obtain ⟨i5, hi5⟩ := info64
  have Hi : Hid (Tryz.prog.info? 71 = some i5 ∧ i5.zero = some (.int .u64 0) ∧ i5.size = 1 ∧ i5.bytes = 8) := hi5
  have Hn : Hid (n ≤ 1000000) := hn2
  have HN : Hid (∀ j u, (valsV64 n f)[j]? = some u → w.cell? (ad.add j) = some u) := hnews
  clear hi5 hnews
  obtain ⟨n9, hn9⟩ : ∃ n9 : Nat, (n : Int) + 9 = (n9 : Int) := ⟨n + 9, by omega⟩
  go_enter Tryz.func15, Tryz.ntmps15
  go_wp2_with (at_make; refine wpList_make_own _ rfl _ _ _ rfl w.heap.size 71 i5 (.int .u64 0) 1 Tryz.underlying54 Hi.out.1 Hi.out.2.1 Hi.out.2.2.1 .i64 .i64 (n9 : Int) n9 rfl (by simp [Act.eval]) rfl (by rw [Hi.out.2.2.2]; omega) (by unfold maxLen; omega) (Nat.le_refl _) ?_)
  intro w1 ho1 hg1
  have B1 : Below w.heap.size w w1 := grown_below64 hg1 (fun g hg => by simp at hg) (Nat.le_refl _)
  have z1 : w.heap.size < w1.heap.size := (ho1.lt w.heap.size rfl).2
  have HO1 : Hid (w1.ownsRow w.heap.size 71 1 (.slice (some ⟨w.heap.size, 0, none⟩) 0 n9) 0 [] ∧ Below w.heap.size w w1) := ⟨ho1, B1⟩
  clear ho1 hg1 B1
  go_wp2_with (at_builtin; refine wpList_append_own _ rfl _ _ _ rfl w.heap.size 71 i5 (.int .u64 0) 1 8 Tryz.underlying54 Hi.out.1 Hi.out.2.1 Hi.out.2.2.1 Hi.out.2.2.2 rfl (by decide) (.slice (some ⟨w.heap.size, 0, none⟩) 0 n9) 0 [] rfl HO1.out.1 ad n cap0 (valsV64 n f) rfl ?c2 ?c3 (valsV64_cell n f) ?c4 ?c5 ?c7 ?c6)
  case c2 => rw [Nat.mul_one, valsV64_length]
  case c3 => intro j u hj; have h := HN.out j u hj; rw [HO1.out.2.cell (block_lt_of_cell h)]; exact h
  case c4 => unfold maxLen; omega
  case c5 => omega
  case c7 => omega
  case c6 =>
    intro v2 w2 ho2 hg2 _
    have B2 : Below w.heap.size w1 w2 := grown_below64 hg2 (fun g hg => by simp [Value.ownBlock] at hg; omega) (by omega)
    have HS2 : Hid (LendUSt64 w n f 0 v2 w2) := ⟨by rw [Nat.add_zero, valsV64_mkf64]; simpa using ho2, HO1.out.2.trans B2, Nat.lt_of_lt_of_le z1 B2.size⟩
    clear ho2 hg2 B2 HO1 HN z1
    go_wp2_with fail
    go_loopw [3, 4] (fun t3 t4 wr => ∃ i : Nat, i ≤ 9 ∧ t4 = .int .i64 i ∧ Hid (LendUSt64 w n f i t3 wr)) (fun _ t4 _ => 9 - (intOf t4).toNat)
    case atStart => exact ⟨0, by omega, rfl, HS2⟩
    case round =>
      obtain ⟨i, hi, rfl, HS⟩ := hrel
      by_cases hlt : i < 9
      · have hlt' : (i : Int) < 9 := by omega
        go_wp2_with (at_builtin; refine wpList_append_lies _ rfl _ _ _ rfl w.heap.size 71 i5 (.int .u64 0) 1 8 Tryz.underlying54 Hi.out.1 Hi.out.2.1 Hi.out.2.2.1 Hi.out.2.2.2 rfl (by decide) _ (n + i) (valsV64 (n + i) (mkf64 n f)) rfl (HS.out.1.alloc _) ⟨wr.heap.size, 0, none⟩ 1 1 [.int .u64 777] rfl rfl ?d2 ?d3 (by decide) ?d4 ?d5 ?d7 _ rfl ?d6)
        case d2 => intro j u hj; exact cell_newB wr _ 71 j u hj
        case d3 => intro u hu; simp at hu; subst hu; rfl
        case d4 => have := Hn.out; unfold maxLen; omega
        case d5 => have := Hn.out; omega
        case d7 => have := HS.out.2.2; simp; omega
        case d6 =>
          intro g cap w4 ho4 hg4 hat4 hlt4
          have B4 : Below w.heap.size wr w4 := ((Below.refl _ _).alloc (by have := HS.out.2.2; omega) _).trans (grown_below64 hg4 (fun g hg => (HS.out.1.lt g hg).1) (by have := HS.out.2.2; simp; omega))
          have HS4 : Hid (LendUSt64 w n f (i + 1) (.slice (some ⟨g, 0, none⟩) (n + i + 1) cap) w4) := by
            refine ⟨?_, HS.out.2.1.trans B4, Nat.lt_of_lt_of_le HS.out.2.2 B4.size⟩
            rw [← Nat.add_assoc, valsV64_succ, mkf64_mark]
            exact ho4
          clear ho4 hg4 hat4 hlt4 B4 HS
          go_wp2_with fail
          go_roundw
          case rel => exact ⟨i + 1, by omega, by go_num, HS4⟩
          case measure => simp [intOf]; omega
      · have hi9 : i = 9 := by omega
        subst hi9
        obtain ⟨g, cap, hv, hg, hgs⟩ := HS.out.1.form (by omega)
        have hcap : n + 9 ≤ cap := by
          rcases HS.out.1.2 with ⟨h, _⟩ | ⟨g', cap', cur, h, _, _, h2, _⟩
          · rw [hv] at h; simp at h
          · rw [hv] at h; simp only [Value.slice.injEq] at h; omega
        have hnc : n ≤ cap := by omega
        have HF : Hid (LentU64 wr w.heap.size g cap n f ∧ Below w.heap.size w wr) := ⟨by have := HS.out.1; rw [hv] at this; exact this, HS.out.2.1⟩
        clear HS
        subst hv
        go_wp2_with fail
        go_ret
        exact ⟨g, cap, rfl, HF.out⟩

set_option maxRecDepth 100000 in
set_option maxHeartbeats 4000000 in
theorem lendU64_none (f : Nat → Nat) (w : World) :
    Calls Tryz.prog 15 #[.slice none 0 0] w fun e w' => ∃ g cap, e = .returned (.slice (some ⟨g, 0, none⟩) 0 cap) ∧ LentU64 w' w.heap.size g cap 0 f ∧ Below w.heap.size w w' := by
  obtain ⟨i5, hi5⟩ := info64
  have Hi : Hid (Tryz.prog.info? 71 = some i5 ∧ i5.zero = some (.int .u64 0) ∧ i5.size = 1 ∧ i5.bytes = 8) := hi5
  have Hn : Hid (0 ≤ 1000000) := Nat.zero_le _
  clear hi5
  go_enter Tryz.func15, Tryz.ntmps15
  go_wp2_with (at_make; refine wpList_make_own _ rfl _ _ _ rfl w.heap.size 71 i5 (.int .u64 0) 1 Tryz.underlying54 Hi.out.1 Hi.out.2.1 Hi.out.2.2.1 .i64 .i64 (9 : Int) 9 rfl (by simp [Act.eval]) rfl (by rw [Hi.out.2.2.2]; omega) (by unfold maxLen; omega) (Nat.le_refl _) ?_)
  intro w1 ho1 hg1
  have B1 : Below w.heap.size w w1 := grown_below64 hg1 (fun g hg => by simp at hg) (Nat.le_refl _)
  have z1 : w.heap.size < w1.heap.size := (ho1.lt w.heap.size rfl).2
  have HO1 : Hid (w1.ownsRow w.heap.size 71 1 (.slice (some ⟨w.heap.size, 0, none⟩) 0 9) 0 [] ∧ Below w.heap.size w w1) := ⟨ho1, B1⟩
  clear ho1 hg1 B1
  go_wp2_with (at_builtin; refine wpList_append_own_none rfl _ _ _ rfl w.heap.size 71 i5 1 Tryz.underlying54 Hi.out.1 (.slice (some ⟨w.heap.size, 0, none⟩) 0 9) 0 [] rfl HO1.out.1 rfl ?c6)
  have HS2 : Hid (LendUSt64 w 0 f 0 (.slice (some ⟨w.heap.size, 0, none⟩) 0 9) w1) := ⟨by simpa [valsV64] using HO1.out.1, HO1.out.2, z1⟩
  clear HO1 z1
  go_loopw [3, 4] (fun t3 t4 wr => ∃ i : Nat, i ≤ 9 ∧ t4 = .int .i64 i ∧ Hid (LendUSt64 w 0 f i t3 wr)) (fun _ t4 _ => 9 - (intOf t4).toNat)
  case atStart => exact ⟨0, by omega, rfl, HS2⟩
  case round =>
    obtain ⟨i, hi, rfl, HS⟩ := hrel
    by_cases hlt : i < 9
    · have hlt' : (i : Int) < 9 := by omega
      go_wp2_with (at_builtin; refine wpList_append_lies _ rfl _ _ _ rfl w.heap.size 71 i5 (.int .u64 0) 1 8 Tryz.underlying54 Hi.out.1 Hi.out.2.1 Hi.out.2.2.1 Hi.out.2.2.2 rfl (by decide) _ (0 + i) (valsV64 (0 + i) (mkf64 0 f)) rfl (HS.out.1.alloc _) ⟨wr.heap.size, 0, none⟩ 1 1 [.int .u64 777] rfl rfl ?d2 ?d3 (by decide) ?d4 ?d5 ?d7 _ rfl ?d6)
      case d2 => intro j u hj; exact cell_newB wr _ 71 j u hj
      case d3 => intro u hu; simp at hu; subst hu; rfl
      case d4 => have := Hn.out; unfold maxLen; omega
      case d5 => have := Hn.out; omega
      case d7 => have := HS.out.2.2; simp; omega
      case d6 =>
        intro g cap w4 ho4 hg4 hat4 hlt4
        have B4 : Below w.heap.size wr w4 := ((Below.refl _ _).alloc (by have := HS.out.2.2; omega) _).trans (grown_below64 hg4 (fun g hg => (HS.out.1.lt g hg).1) (by have := HS.out.2.2; simp; omega))
        have HS4 : Hid (LendUSt64 w 0 f (i + 1) (.slice (some ⟨g, 0, none⟩) (i + 1) cap) w4) := by
          refine ⟨?_, HS.out.2.1.trans B4, Nat.lt_of_lt_of_le HS.out.2.2 B4.size⟩
          rw [← Nat.add_assoc, valsV64_succ, mkf64_mark]
          simp only [Nat.zero_add]
          exact ho4
        clear ho4 hg4 hat4 hlt4 B4 HS
        go_wp2_with fail
        go_roundw
        case rel => exact ⟨i + 1, by omega, by go_num, HS4⟩
        case measure => simp [intOf]; omega
    · have hi9 : i = 9 := by omega
      subst hi9
      obtain ⟨g, cap, hv, hg, hgs⟩ := HS.out.1.form (by omega)
      have hcap : 0 + 9 ≤ cap := by
        rcases HS.out.1.2 with ⟨h, _⟩ | ⟨g', cap', cur, h, _, _, h2, _⟩
        · rw [hv] at h; simp at h
        · rw [hv] at h; simp only [Value.slice.injEq] at h; omega
      have hnc : 0 ≤ cap := by omega
      have HF : Hid (LentU64 wr w.heap.size g cap 0 f ∧ Below w.heap.size w wr) := ⟨by have := HS.out.1; rw [hv] at this; exact this, HS.out.2.1⟩
      clear HS
      subst hv
      go_wp2_with fail
      go_ret
      exact ⟨g, cap, rfl, HF.out⟩

theorem lendU64_any (p : Option Addr) (n cap0 : Nat) (f : Nat → Nat) (w : World) (h : URow64 w p n f) (hp : p = none → cap0 = 0) (hn2 : n ≤ 1000000) :
    Calls Tryz.prog 15 #[.slice p n cap0] w fun e w' => ∃ g cap, e = .returned (.slice (some ⟨g, 0, none⟩) n cap) ∧ LentU64 w' w.heap.size g cap n f ∧ Below w.heap.size w w' := by
  cases p with
  | none =>
    have h0 : n = 0 := by
      rcases Nat.eq_zero_or_pos n with h0 | h0
      · exact h0
      · obtain ⟨b, o, hp, _⟩ := h h0; cases hp
    subst h0
    rw [hp rfl]
    exact lendU64_none f w
  | some ad =>
    refine lendU64_some ad n cap0 f w hn2 fun j u hj => ?_
    have hjn : j < n := by
      rcases Nat.lt_or_ge j n with h1 | h1
      · exact h1
      · rw [List.getElem?_eq_none (by rw [valsV64_length]; exact h1)] at hj; cases hj
    obtain ⟨b, o, hb, hc⟩ := h (by omega)
    rw [valsV64_get hjn] at hj
    cases hj
    cases hb
    have h2 := hc j hjn
    by_cases hj0 : j = 0
    · subst hj0; simpa [Addr.add] using h2
    · simpa [Addr.add, hj0] using h2

set_option maxRecDepth 100000 in
set_option maxHeartbeats 4000000 in
theorem backU64_any (base g cap n : Nat) (p : Option Addr) (cap0 : Nat) (f : Nat → Nat) (w : World) (hn2 : n ≤ 1000000) (hL : LentU64 w base g cap n f) (hv : URow64 w p n f) :
    Calls Tryz.prog 17 #[.slice (some ⟨g, 0, none⟩) n cap, .slice p n cap0] w fun e w' => e = .returned (.bool true) ∧ ∃ m, w' = w.drewN m := by
  have hcap : n + 9 ≤ cap := hL.lies.1
  obtain ⟨n9, hn9⟩ : ∃ n9 : Nat, (n : Int) + 9 = (n9 : Int) := ⟨n + 9, by omega⟩
  have hn7 : n9 ≤ cap := by omega
  have HL : Hid ((∀ i, i < n → w.cell? ⟨g, i, none⟩ = some (.int .u64 ((f i) : Nat))) ∧ ∀ i, i < 9 → w.cell? ⟨g, n + i, none⟩ = some (.int .u64 777)) := ⟨hL.lies.2.2.2.1, hL.lies.2.2.2.2.1⟩
  have HV := hideB hv
  clear hL hv
  go_enter Tryz.func17, Tryz.ntmps17
  go_wp2_with fail
  go_loopw [5] (fun t5 wr => ∃ i : Nat, i ≤ n ∧ t5 = .int .i64 i ∧ Hid (∃ m, wr = w.drewN m)) (fun t5 _ => n - (intOf t5).toNat)
  case atStart => exact ⟨0, by omega, rfl, ⟨0, rfl⟩⟩
  case round =>
    obtain ⟨i, hi, rfl, Hm⟩ := hrel
    by_cases hlt : i < n
    · have hlt' : (i : Int) < (n : Int) := by omega
      obtain ⟨b, o, rfl, hc⟩ := HV.out (by omega)
      have hc1 : wr.cell? ⟨g, i, none⟩ = some (.int .u64 ((f i) : Nat)) := by obtain ⟨m, rfl⟩ := Hm.out; exact HL.out.1 i hlt
      have hc2 : wr.cell? ⟨b, o + i, none⟩ = some (.int .u64 ((f i) : Nat)) := by obtain ⟨m, rfl⟩ := Hm.out; exact hc i hlt
      clear hc
      go_wp2_with fail
      go_quiet (fail)
      go_wp2_with fail
      refine ⟨⟨i + 1, by omega, by go_num, ?_⟩, by simp [intOf]; omega⟩
      obtain ⟨m, rfl⟩ := Hm.out
      exact ⟨m + nq, World.drewN_drewN _ _ _⟩
    · have hin : i = n := by omega
      subst hin
      go_wp2_with fail
      go_loopw [7] (fun t7 wr => ∃ k : Nat, k ≤ n9 ∧ i ≤ k ∧ t7 = .int .i64 k ∧ Hid (∃ m, wr = w.drewN m)) (fun t7 _ => n9 - (intOf t7).toNat)
      case atStart => exact ⟨i, by omega, by omega, rfl, Hm⟩
      case round =>
        obtain ⟨k, hk, hik, rfl, Hm2⟩ := hrel
        by_cases hlt : k < n9
        · have hlt' : (k : Int) < (n9 : Int) := by omega
          have hc1 : wr.cell? ⟨g, k, none⟩ = some (.int .u64 777) := by
            obtain ⟨m, rfl⟩ := Hm2.out
            have h := HL.out.2 (k - i) (by omega)
            rwa [show i + (k - i) = k by omega] at h
          go_wp2_with fail
          exact ⟨⟨k + 1, by omega, by omega, by go_num, Hm2⟩, by simp [intOf]; omega⟩
        · go_wp2_with fail
          go_ret
          exact ⟨rfl, Hm2.out⟩

set_option maxRecDepth 100000 in
set_option maxHeartbeats 4000000 in
theorem overU64_any (base g cap n : Nat) (f : Nat → Nat) (w : World) (hn2 : n ≤ 1000000) (hL : LentU64 w base g cap n f) :
    Calls Tryz.prog 18 #[.slice (some ⟨g, 0, none⟩) n cap] w fun e w' => e = .returned (.tuple #[]) ∧ Only g 0 n w w' := by
  have HL : Hid (∀ i, i < n → ∃ y : Int, w.cell? ⟨g, i, none⟩ = some (.int .u64 y)) := fun i hi => ⟨_, hL.lies.2.2.2.1 i hi⟩
  have HF : Hid (∀ i, w.frozen? ⟨g, i, none⟩ = false) := hL.lies.2.2.2.2.2
  clear hL
  go_enter Tryz.func18, Tryz.ntmps18
  go_wp2_with fail
  go_loopw [2] (fun t2 wr => ∃ i : Nat, i ≤ n ∧ t2 = .int .i64 i ∧ Hid (Only g 0 n w wr ∧ ∀ i, i < n → ∃ y : Int, wr.cell? ⟨g, i, none⟩ = some (.int .u64 y))) (fun t2 _ => n - (intOf t2).toNat)
  case atStart => exact ⟨0, by omega, rfl, ⟨Only.refl _ _ _ _, HL.out⟩⟩
  case round =>
    obtain ⟨i, hi, rfl, HS⟩ := hrel
    by_cases hlt : i < n
    · have hlt' : (i : Int) < (n : Int) := by omega
      obtain ⟨y, hc⟩ := HS.out.2 i hlt
      have hf : wr.frozen? ⟨g, i, none⟩ = false := by rw [HS.out.1.frozen]; exact HF.out i
      have HS2 : Hid (Only g 0 n w (wr.setCell ⟨g, i, none⟩ (.int .u64 778)) ∧ ∀ j, j < n → ∃ y : Int, (wr.setCell ⟨g, i, none⟩ (.int .u64 778)).cell? ⟨g, j, none⟩ = some (.int .u64 y)) := by
        refine ⟨HS.out.1.setCell i (by omega) hlt _, fun j hj => ?_⟩
        by_cases hji : j = i
        · subst hji; exact ⟨778, cell_setCell_eq _ _ _ _ _ hc⟩
        · rw [cell_setCell_ne _ _ _ _ _ hji]; exact HS.out.2 j hj
      clear HS
      go_wp2_with fail
      exact ⟨⟨i + 1, by omega, by go_num, HS2⟩, by simp [intOf]; omega⟩
    · go_wp2_with fail
      go_end0
      exact ⟨rfl, HS.out.1⟩

end Go.Proofs.YtnjcedlbdjidiaaGreatDoor

/- The law's wide: Pack of columns, put into the Late. -/
namespace Go.Proofs.YtnjcedlbdjidiaaGreatDoor
open Go.RowKit
open M
open Classical
set_option linter.unusedVariables false
set_option linter.unusedSimpArgs false

set_option maxRecDepth 100000 in
set_option maxHeartbeats 8000000 in
theorem wide_any {L : List Kd} (hL : KOk L) (hB : kB ∈ L) (NB NL base : Nat) (F : Nat → KV) (T D U : Nat) (rg rw_ : Option Nat) (G : List Got) (p : Option Addr) (n cap0 : Nat) (f : Nat → Nat) (w : World) (h : BL L w NB NL base F T D U rg rw_ G)
    (hr : URow64 w p n f) (hp : p = none → cap0 = 0) (hf : ∀ i, i < n → f i < 18446744073709551616) (hn : n ≤ 1000000) (hTb : Tab64 w) (htot : T + G.length + 2 ≤ 2000) :
    Calls Tryz.prog 4 #[.slice p n cap0, .pointer (some ⟨NL, 0, none⟩)] w fun q w' => q = .returned (.bool true) ∧ PutPost L w NB NL base F T D U rg rw_ G w' := by
  obtain ⟨bs, hbs⟩ : ∃ bs, bs = pkW 64 6 f n := ⟨_, rfl⟩
  obtain ⟨nb, hnb⟩ : ∃ nb, nb = bs.length := ⟨_, rfl⟩
  obtain ⟨eE, heE⟩ : ∃ eE, eE = pkWE n := ⟨_, rfl⟩
  have hf2 : ∀ i, i < n → f i < 2 ^ 64 := fun i hi => by have := hf i hi; simpa using this
  have hle := pkW_le 64 6 f n wK64 hf2
  have hlt := pkW_lt 64 6 f n
  rw [← hbs] at hle hlt
  have Hbs : Hid (nb = bs.length ∧ bs.length ≤ 50000 ∧ (∀ n ∈ bs, n < 256)) := ⟨hnb, hle, hlt⟩
  have HT : Hid (∀ w', Below w.heap.size w w' → URow64 w' p n f) := fun w' hB => hr.below hB
  have HP : Hid (∀ (w1 : World) (q : Option Addr) (c : Nat), Below w.heap.size w w1 → n ≤ c → URow64 w1 q n f → Calls Tryz.prog 16 #[.slice q n c] w1 fun e w' => ∃ q, e = .returned (.tuple #[.slice q nb nb, .int .i64 eE]) ∧ w'.ownsRow w1.heap.size 5 1 (.slice q nb nb) nb (bytesV bs) ∧ Below w1.heap.size w1 w') := fun w1 q c hbw hc h1 => by rw [heE]; exact tpack64_all q n c f w1 h1 hc hf (hTb.below hbw) bs hbs nb hnb
  have HQ : Hid (∀ (w1 : World) (q : Option Addr) (c : Nat), URow64 w1 q n f → Calls Tryz.prog 19 #[.slice q n c, .int .i64 64] w1 fun e w' => ∃ v, e = .returned (.tuple #[v, .int .i64 eE]) ∧ w'.ownsRow w1.heap.size 5 1 v bs.length (bytesV bs) ∧ Below w1.heap.size w1 w') := fun w1 q c h1 => by rw [heE]; exact rpack7_all 64 6 q n c f w1 wK64 h1 hf2 bs hbs
  have HL1 := hideB (lendU64_any p n cap0 f w hr hp hn)
  have HB : Hid (KOk L ∧ kB ∈ L ∧ BL L w NB NL base F T D U rg rw_ G) := ⟨hL, hB, h⟩
  clear hL hB h hr hp hf hf2 hbs hnb heE hle hlt hTb
  go_enter Tryz.func4, Tryz.ntmps4
  go_wp2_with fail
  refine HL1.out.mono ?_
  rintro _ w1 ⟨g, cap, rfl, hLt, B1⟩
  have hcap : n ≤ cap := by have := hLt.lies.1; omega
  have HP1 := hideB (HP.out w1 _ cap B1 hcap hLt.row)
  have H1 : Hid (LentU64 w1 w.heap.size g cap n f ∧ Below w.heap.size w w1) := ⟨hLt, B1⟩
  clear hLt B1 HL1
  go_wp2_with fail
  refine HP1.out.mono ?_
  rintro _ w2 ⟨pa, rfl, oa, B2⟩
  have L2 := H1.out.1.below B2
  have B12 : Below w.heap.size w w2 := H1.out.2.trans (B2.mono H1.out.2.size)
  have HP2 := hideB (HP.out w2 _ cap B12 hcap L2.row)
  have H2 : Hid (LentU64 w2 w.heap.size g cap n f ∧ w2.ownsRow w1.heap.size 5 1 (.slice pa nb nb) nb (bytesV bs) ∧ Below w1.heap.size w1 w2) := ⟨L2, oa, B2⟩
  clear L2 oa B2 B12 HP1
  go_wp2_with fail
  refine HP2.out.mono ?_
  rintro _ w3 ⟨pb, rfl, ob, B3⟩
  have L3 := H2.out.1.below B3
  have z1 := H1.out.2.size
  have z2 := H2.out.2.2.size
  have z3 := B3.size
  have B13 : Below w.heap.size w w3 := H1.out.2.trans ((H2.out.2.2.mono z1).trans (B3.mono (by omega)))
  have HBk := hideB (backU64_any w.heap.size g cap n p cap0 f w3 hn L3 (HT.out w3 B13))
  have H3 : Hid (LentU64 w3 w.heap.size g cap n f ∧ w3.ownsRow w2.heap.size 5 1 (.slice pb nb nb) nb (bytesV bs) ∧ Below w2.heap.size w2 w3 ∧ Below w.heap.size w w3) := ⟨L3, ob, B3, B13⟩
  clear L3 ob B3 B13 HP2
  go_wp2_with fail
  refine HBk.out.mono ?_
  rintro _ w4 ⟨rfl, m4, hw4⟩
  have L4 : LentU64 w4 w.heap.size g cap n f := by rw [hw4]; exact H3.out.1
  have HOv := hideB (overU64_any w.heap.size g cap n f w4 hn L4)
  have H4 : Hid (w4 = w3.drewN m4) := hw4
  have hg4 : Hid (w.heap.size ≤ g ∧ g < w1.heap.size) := ⟨H1.out.1.lies.2.1, H1.out.1.lies.2.2.1⟩
  clear hw4 L4 HBk
  go_wp2_with fail
  refine HOv.out.mono ?_
  rintro _ w5 ⟨rfl, O5⟩
  have e4 : w4.heap.size = w3.heap.size := by rw [H4.out]; rfl
  have B4 : Below w.heap.size w w4 := by rw [H4.out]; exact below_drewN H3.out.2.2.2 m4
  have B45 : Below w.heap.size w4 w5 := O5.below hg4.out.1 B4.size
  have B5 : Below w.heap.size w w5 := B4.trans B45
  have HQ1 := hideB (HQ.out w5 p cap0 (HT.out w5 B5))
  have H5 : Hid (Only g 0 n w4 w5 ∧ Below w.heap.size w w5) := ⟨O5, B5⟩
  clear O5 B45 B5 B4 HOv
  go_wp2_with fail
  refine HQ1.out.mono ?_
  rintro _ w6 ⟨vx, rfl, ox, B6⟩
  have z5 := H5.out.1.size
  have z6 := B6.size
  have hgz := hg4.out
  have kp : ∀ k, k < w3.heap.size → k ≠ g → w6.heap[k]? = w3.heap[k]? := fun k hk hne => by
    rw [B6.block k (by omega), H5.out.1.block k (by omega) hne, H4.out]; rfl
  have B16 : Below w.heap.size w w6 := H5.out.2.trans (B6.mono (by omega))
  have oa6 : w6.ownsRow w1.heap.size 5 1 (.slice pa nb nb) nb (bytesV bs) := ownsRow_keep H2.out.2.1 (fun k hk => by
    have hh := H2.out.2.1.lt k hk
    rw [kp k (by omega) (by omega), H3.out.2.2.1.block k hh.2])
  have ob6 : w6.ownsRow w2.heap.size 5 1 (.slice pb nb nb) nb (bytesV bs) := ownsRow_keep H3.out.2.1 (fun k hk => by
    have hh := H3.out.2.1.lt k hk
    exact kp k hh.2 (by omega))
  have BL6 := HB.out.2.2.below B16
  have hbase : base ≤ w.heap.size := HB.out.2.2.base_
  have HA1 := hideB (lateAdd_any NL base nb rg rw_ G pa vx bs w6 BL6.late Hbs.out.1 (ownsRow_base oa6 (by omega)) Hbs.out.2.2 Hbs.out.2.1 (fun w' hC => by_of_row (ownsRow_chg ox hC (BL6.late.data ox (by omega)))) (by omega) (by omega))
  have H6 : Hid (BL L w6 NB NL base F T D U rg rw_ G ∧ w6.ownsRow w1.heap.size 5 1 (.slice pa nb nb) nb (bytesV bs) ∧ w6.ownsRow w2.heap.size 5 1 (.slice pb nb nb) nb (bytesV bs) ∧ w6.ownsRow w5.heap.size 5 1 vx bs.length (bytesV bs) ∧ Below w.heap.size w w6) := ⟨BL6, oa6, ob6, ox, B16⟩
  clear BL6 oa6 ob6 ox B16 B6 HQ1 kp
  go_wp2_with fail
  refine HA1.out.mono ?_
  rintro _ w7 ⟨rfl, hP7⟩
  obtain ⟨BL6, oa6, ob6, ox6, B16⟩ := H6.out
  have nA : ∀ k, (Value.slice pa nb nb).ownBlock = some k → ¬ DB L F G k := fun k hk hh => by
    have h1 := (row_ge oa6 hk).1
    have h2 := HB.out.2.2.dbLt hh
    omega
  obtain ⟨rg1, rw1, u1, BL7, hu1, hr1, C7⟩ := BL6.put HB.out.1 HB.out.2.1 (by omega) nA hP7
  have oa7 := ownsRow_chg oa6 C7 (BL6.late.data oa6 (by omega))
  have ob7 := ownsRow_chg ob6 C7 (BL6.late.data ob6 (by omega))
  have ox7 := ownsRow_chg ox6 C7 (BL6.late.data ox6 (by omega))
  have z7 := C7.size
  have HA2 := hideB (lateAdd_any NL base nb rg1 rw1 _ pb vx bs w7 BL7.late Hbs.out.1 (ownsRow_base ob7 (by omega)) Hbs.out.2.2 Hbs.out.2.1 (fun w' hC => by_of_row (ownsRow_chg ox7 hC (BL7.late.data ox7 (by omega)))) (by omega) (by simp; omega))
  have HF : Hid (∀ w8, LatePost w7 NL base rg1 rw1 (G ++ [⟨.slice pa nb nb, u1, bs⟩]) (.slice pb nb nb) bs w8 → PutPost L w NB NL base F T D U rg rw_ G w8 ∧ w8.ownsRow base 5 1 (.slice pa nb nb) nb (bytesV bs) ∧ w8.ownsRow base 5 1 (.slice pb nb nb) nb (bytesV bs) ∧ w8.ownsRow base 5 1 vx bs.length (bytesV bs)) := fun w8 h8 => by
    obtain ⟨rg', rw', g1, g2, q1, q2⟩ := BL6.put2 HB.out.1 HB.out.2.1 (by omega) nA (fun k hk => by
      have h1 := row_ge ob6 hk
      refine ⟨h1.2, fun hh => ?_, fun hh => ?_⟩
      · have h2 := HB.out.2.2.dbLt hh; omega
      · have h3 := (H2.out.2.1.lt k hh).2; omega) BL7 hu1 hr1 C7 h8
    obtain ⟨_, _, _, _, _, _, _, C8⟩ := h8
    refine ⟨⟨rg', rw', g1, g2, q1, (Chg.below B16).trans' q2⟩, ownsRow_chg (ownsRow_base oa7 (by omega)) C8 (BL7.late.data oa7 (by omega)), ownsRow_chg (ownsRow_base ob7 (by omega)) C8 (BL7.late.data ob7 (by omega)), ownsRow_chg (ownsRow_base ox7 (by omega)) C8 (BL7.late.data ox7 (by omega))⟩
  clear BL7 oa7 ob7 ox7 hu1 hr1 C7 BL6 oa6 ob6 ox6 B16 HA1 hP7 nA
  go_wp2_with fail
  refine HA2.out.mono ?_
  rintro _ w8 ⟨rfl, hP8⟩
  obtain ⟨PP, oa8, ob8, ox8⟩ := HF.out w8 hP8
  have HPP := hideB PP
  have hcva : (convert 59 9 (.slice pa nb nb)).run Tryz.prog w8 = .ok (.string (strOf bs)) w8 := convert_by _ _ _ (by_of_row oa8)
  have hcvb : (convert 59 9 (.slice pb nb nb)).run Tryz.prog w8 = .ok (.string (strOf bs)) w8 := convert_by _ _ _ (by_of_row ob8)
  have hcvx : (convert 59 9 vx).run Tryz.prog w8 = .ok (.string (strOf bs)) w8 := convert_by _ _ _ (by_of_row ox8)
  clear PP oa8 ob8 ox8 HF HA2 hP8 H1 H2 H3 H4 H5 H6
  generalize strOf bs = ss at *
  go_wp2_with fail
  refine (num_any _ _).mono ?_
  rintro _ w9 ⟨rfl, hw9⟩
  have hw9 := hw9.symm
  subst hw9
  go_wp2_with fail
  refine (num_any _ _).mono ?_
  rintro _ w9 ⟨rfl, hw9⟩
  have hw9 := hw9.symm
  subst hw9
  go_wp2_with fail
  go_ret
  exact ⟨rfl, HPP.out⟩

end Go.Proofs.YtnjcedlbdjidiaaGreatDoor

namespace Go.Proofs.YtnjcedlbdjidiaaGreatDoor
open Go.RowKit
open M
set_option linter.unusedVariables false

/-- n times, marks behind them. -/
def mkf32 (n : Nat) (f : Nat → Nat) : Nat → Nat := fun j => if j < n then f j else 777

theorem valsV32_length (i : Nat) (f : Nat → Nat) : (valsV32 i f).length = i := by simp [valsV32]

theorem valsV32_get {i j : Nat} {f : Nat → Nat} (h : j < i) : (valsV32 i f)[j]? = some (.int .u32 ((f j) : Nat)) := by simp [valsV32, h]

theorem valsV32_cell (i : Nat) (f : Nat → Nat) : ∀ u ∈ valsV32 i f, u.oneCell' = true := by
  intro u hu
  simp only [valsV32, List.mem_map] at hu
  obtain ⟨j, _, rfl⟩ := hu
  rfl

theorem valsV32_mkf32 (n : Nat) (f : Nat → Nat) : valsV32 n (mkf32 n f) = valsV32 n f := by
  unfold valsV32
  apply List.map_congr_left
  intro j hj
  simp [mkf32, List.mem_range.1 hj]

theorem mkf32_mark (n i : Nat) (f : Nat → Nat) : mkf32 n f (n + i) = 777 := by unfold mkf32; rw [if_neg (by omega)]

/-- Times that are lent: in a block of their own, the marks behind them. -/
def LentU32 (w : World) (base g cap n : Nat) (f : Nat → Nat) : Prop := w.ownsRow base 80 1 (.slice (some ⟨g, 0, none⟩) (n + 9) cap) (n + 9) (valsV32 (n + 9) (mkf32 n f))

/-- Behind i marks. -/
def LendUSt32 (w : World) (n : Nat) (f : Nat → Nat) (i : Nat) (v : Value) (wr : World) : Prop :=
  wr.ownsRow w.heap.size 80 1 v (n + i) (valsV32 (n + i) (mkf32 n f)) ∧ Below w.heap.size w wr ∧ w.heap.size < wr.heap.size

theorem LentU32.lies {w : World} {base g cap n : Nat} {f : Nat → Nat} (h : LentU32 w base g cap n f) : n + 9 ≤ cap ∧ base ≤ g ∧ g < w.heap.size ∧ (∀ i, i < n → w.cell? ⟨g, i, none⟩ = some (.int .u32 ((f i) : Nat))) ∧ (∀ i, i < 9 → w.cell? ⟨g, n + i, none⟩ = some (.int .u32 777)) ∧ ∀ i, w.frozen? ⟨g, i, none⟩ = false := by
  obtain ⟨h1, h2⟩ := h
  rcases h2 with ⟨h2, _⟩ | ⟨g', cap', cur, h0, h4, h5, h6, _, h7, h8⟩
  · simp at h2
  · simp only [Value.slice.injEq, Option.some.injEq, Addr.mk.injEq] at h0
    obtain ⟨⟨rfl, _⟩, _, rfl⟩ := h0
    have hget : ∀ i, i < n + 9 → w.cell? ⟨g, i, none⟩ = some (.int .u32 ((mkf32 n f i) : Nat)) := fun i hi => by
      rw [cell_of_row w g i cur _ (0, 0) h5, ← valsV32_get (f := mkf32 n f) hi, ← h8, List.getElem?_take, if_pos (by omega)]
      simp
    refine ⟨h6, h4, ?_, fun i hi => ?_, fun i hi => ?_, fun i => frozen_of_row _ _ _ _ _ h5⟩
    · rcases Nat.lt_or_ge g w.heap.size with hlt | hge
      · exact hlt
      · rw [Array.getElem?_eq_none hge] at h5; cases h5
    · rw [hget i (by omega)]; simp [mkf32, hi]
    · rw [hget (n + i) (by omega), mkf32_mark]; rfl

theorem LentU32.row {w : World} {base g cap n : Nat} {f : Nat → Nat} (h : LentU32 w base g cap n f) : URow32 w (some ⟨g, 0, none⟩) n f := fun _ => ⟨g, 0, rfl, fun i hi => by rw [Nat.zero_add]; exact h.lies.2.2.2.1 i hi⟩

theorem LentU32.below {w w' : World} {base g cap n : Nat} {f : Nat → Nat} (h : LentU32 w base g cap n f) (hB : Below w.heap.size w w') : LentU32 w' base g cap n f :=
  ownsRow_keep h (fun g' hg => hB.block g' (by simp only [Value.ownBlock, Option.some.injEq] at hg; subst hg; exact h.lies.2.2.1))

set_option maxRecDepth 100000 in
set_option maxHeartbeats 4000000 in
theorem lendU32_some (ad : Addr) (n cap0 : Nat) (f : Nat → Nat) (w : World) (hn2 : n ≤ 1000000) (hnews : ∀ j u, (valsV32 n f)[j]? = some u → w.cell? (ad.add j) = some u) :
    Calls Tryz.prog 24 #[.slice (some ad) n cap0] w fun e w' => ∃ g cap, e = .returned (.slice (some ⟨g, 0, none⟩) n cap) ∧ LentU32 w' w.heap.size g cap n f ∧ Below w.heap.size w w' := by
  obtain ⟨i5, hi5⟩ := info32
  have Hi : Hid (Tryz.prog.info? 80 = some i5 ∧ i5.zero = some (.int .u32 0) ∧ i5.size = 1 ∧ i5.bytes = 4) := hi5
  have Hn : Hid (n ≤ 1000000) := hn2
  have HN : Hid (∀ j u, (valsV32 n f)[j]? = some u → w.cell? (ad.add j) = some u) := hnews
  clear hi5 hnews
  obtain ⟨n9, hn9⟩ : ∃ n9 : Nat, (n : Int) + 9 = (n9 : Int) := ⟨n + 9, by omega⟩
  go_enter Tryz.func24, Tryz.ntmps24
  go_wp2_with (at_make; refine wpList_make_own _ rfl _ _ _ rfl w.heap.size 80 i5 (.int .u32 0) 1 Tryz.underlying57 Hi.out.1 Hi.out.2.1 Hi.out.2.2.1 .i64 .i64 (n9 : Int) n9 rfl (by simp [Act.eval]) rfl (by rw [Hi.out.2.2.2]; omega) (by unfold maxLen; omega) (Nat.le_refl _) ?_)
  intro w1 ho1 hg1
  have B1 : Below w.heap.size w w1 := grown_below32 hg1 (fun g hg => by simp at hg) (Nat.le_refl _)
  have z1 : w.heap.size < w1.heap.size := (ho1.lt w.heap.size rfl).2
  have HO1 : Hid (w1.ownsRow w.heap.size 80 1 (.slice (some ⟨w.heap.size, 0, none⟩) 0 n9) 0 [] ∧ Below w.heap.size w w1) := ⟨ho1, B1⟩
  clear ho1 hg1 B1
  go_wp2_with (at_builtin; refine wpList_append_own _ rfl _ _ _ rfl w.heap.size 80 i5 (.int .u32 0) 1 4 Tryz.underlying57 Hi.out.1 Hi.out.2.1 Hi.out.2.2.1 Hi.out.2.2.2 rfl (by decide) (.slice (some ⟨w.heap.size, 0, none⟩) 0 n9) 0 [] rfl HO1.out.1 ad n cap0 (valsV32 n f) rfl ?c2 ?c3 (valsV32_cell n f) ?c4 ?c5 ?c7 ?c6)
  case c2 => rw [Nat.mul_one, valsV32_length]
  case c3 => intro j u hj; have h := HN.out j u hj; rw [HO1.out.2.cell (block_lt_of_cell h)]; exact h
  case c4 => unfold maxLen; omega
  case c5 => omega
  case c7 => omega
  case c6 =>
    intro v2 w2 ho2 hg2 _
    have B2 : Below w.heap.size w1 w2 := grown_below32 hg2 (fun g hg => by simp [Value.ownBlock] at hg; omega) (by omega)
    have HS2 : Hid (LendUSt32 w n f 0 v2 w2) := ⟨by rw [Nat.add_zero, valsV32_mkf32]; simpa using ho2, HO1.out.2.trans B2, Nat.lt_of_lt_of_le z1 B2.size⟩
    clear ho2 hg2 B2 HO1 HN z1
    go_wp2_with fail
    go_loopw [3, 4] (fun t3 t4 wr => ∃ i : Nat, i ≤ 9 ∧ t4 = .int .i64 i ∧ Hid (LendUSt32 w n f i t3 wr)) (fun _ t4 _ => 9 - (intOf t4).toNat)
    case atStart => exact ⟨0, by omega, rfl, HS2⟩
    case round =>
      obtain ⟨i, hi, rfl, HS⟩ := hrel
      by_cases hlt : i < 9
      · have hlt' : (i : Int) < 9 := by omega
        go_wp2_with (at_builtin; refine wpList_append_lies _ rfl _ _ _ rfl w.heap.size 80 i5 (.int .u32 0) 1 4 Tryz.underlying57 Hi.out.1 Hi.out.2.1 Hi.out.2.2.1 Hi.out.2.2.2 rfl (by decide) _ (n + i) (valsV32 (n + i) (mkf32 n f)) rfl (HS.out.1.alloc _) ⟨wr.heap.size, 0, none⟩ 1 1 [.int .u32 777] rfl rfl ?d2 ?d3 (by decide) ?d4 ?d5 ?d7 _ rfl ?d6)
        case d2 => intro j u hj; exact cell_newB wr _ 80 j u hj
        case d3 => intro u hu; simp at hu; subst hu; rfl
        case d4 => have := Hn.out; unfold maxLen; omega
        case d5 => have := Hn.out; omega
        case d7 => have := HS.out.2.2; simp; omega
        case d6 =>
          intro g cap w4 ho4 hg4 hat4 hlt4
          have B4 : Below w.heap.size wr w4 := ((Below.refl _ _).alloc (by have := HS.out.2.2; omega) _).trans (grown_below32 hg4 (fun g hg => (HS.out.1.lt g hg).1) (by have := HS.out.2.2; simp; omega))
          have HS4 : Hid (LendUSt32 w n f (i + 1) (.slice (some ⟨g, 0, none⟩) (n + i + 1) cap) w4) := by
            refine ⟨?_, HS.out.2.1.trans B4, Nat.lt_of_lt_of_le HS.out.2.2 B4.size⟩
            rw [← Nat.add_assoc, valsV32_succ, mkf32_mark]
            exact ho4
          clear ho4 hg4 hat4 hlt4 B4 HS
          go_wp2_with fail
          go_roundw
          case rel => exact ⟨i + 1, by omega, by go_num, HS4⟩
          case measure => simp [intOf]; omega
      · have hi9 : i = 9 := by omega
        subst hi9
        obtain ⟨g, cap, hv, hg, hgs⟩ := HS.out.1.form (by omega)
        have hcap : n + 9 ≤ cap := by
          rcases HS.out.1.2 with ⟨h, _⟩ | ⟨g', cap', cur, h, _, _, h2, _⟩
          · rw [hv] at h; simp at h
          · rw [hv] at h; simp only [Value.slice.injEq] at h; omega
        have hnc : n ≤ cap := by omega
        have HF : Hid (LentU32 wr w.heap.size g cap n f ∧ Below w.heap.size w wr) := ⟨by have := HS.out.1; rw [hv] at this; exact this, HS.out.2.1⟩
        clear HS
        subst hv
        go_wp2_with fail
        go_ret
        exact ⟨g, cap, rfl, HF.out⟩

set_option maxRecDepth 100000 in
set_option maxHeartbeats 4000000 in
theorem lendU32_none (f : Nat → Nat) (w : World) :
    Calls Tryz.prog 24 #[.slice none 0 0] w fun e w' => ∃ g cap, e = .returned (.slice (some ⟨g, 0, none⟩) 0 cap) ∧ LentU32 w' w.heap.size g cap 0 f ∧ Below w.heap.size w w' := by
  obtain ⟨i5, hi5⟩ := info32
  have Hi : Hid (Tryz.prog.info? 80 = some i5 ∧ i5.zero = some (.int .u32 0) ∧ i5.size = 1 ∧ i5.bytes = 4) := hi5
  have Hn : Hid (0 ≤ 1000000) := Nat.zero_le _
  clear hi5
  go_enter Tryz.func24, Tryz.ntmps24
  go_wp2_with (at_make; refine wpList_make_own _ rfl _ _ _ rfl w.heap.size 80 i5 (.int .u32 0) 1 Tryz.underlying57 Hi.out.1 Hi.out.2.1 Hi.out.2.2.1 .i64 .i64 (9 : Int) 9 rfl (by simp [Act.eval]) rfl (by rw [Hi.out.2.2.2]; omega) (by unfold maxLen; omega) (Nat.le_refl _) ?_)
  intro w1 ho1 hg1
  have B1 : Below w.heap.size w w1 := grown_below32 hg1 (fun g hg => by simp at hg) (Nat.le_refl _)
  have z1 : w.heap.size < w1.heap.size := (ho1.lt w.heap.size rfl).2
  have HO1 : Hid (w1.ownsRow w.heap.size 80 1 (.slice (some ⟨w.heap.size, 0, none⟩) 0 9) 0 [] ∧ Below w.heap.size w w1) := ⟨ho1, B1⟩
  clear ho1 hg1 B1
  go_wp2_with (at_builtin; refine wpList_append_own_none rfl _ _ _ rfl w.heap.size 80 i5 1 Tryz.underlying57 Hi.out.1 (.slice (some ⟨w.heap.size, 0, none⟩) 0 9) 0 [] rfl HO1.out.1 rfl ?c6)
  have HS2 : Hid (LendUSt32 w 0 f 0 (.slice (some ⟨w.heap.size, 0, none⟩) 0 9) w1) := ⟨by simpa [valsV32] using HO1.out.1, HO1.out.2, z1⟩
  clear HO1 z1
  go_loopw [3, 4] (fun t3 t4 wr => ∃ i : Nat, i ≤ 9 ∧ t4 = .int .i64 i ∧ Hid (LendUSt32 w 0 f i t3 wr)) (fun _ t4 _ => 9 - (intOf t4).toNat)
  case atStart => exact ⟨0, by omega, rfl, HS2⟩
  case round =>
    obtain ⟨i, hi, rfl, HS⟩ := hrel
    by_cases hlt : i < 9
    · have hlt' : (i : Int) < 9 := by omega
      go_wp2_with (at_builtin; refine wpList_append_lies _ rfl _ _ _ rfl w.heap.size 80 i5 (.int .u32 0) 1 4 Tryz.underlying57 Hi.out.1 Hi.out.2.1 Hi.out.2.2.1 Hi.out.2.2.2 rfl (by decide) _ (0 + i) (valsV32 (0 + i) (mkf32 0 f)) rfl (HS.out.1.alloc _) ⟨wr.heap.size, 0, none⟩ 1 1 [.int .u32 777] rfl rfl ?d2 ?d3 (by decide) ?d4 ?d5 ?d7 _ rfl ?d6)
      case d2 => intro j u hj; exact cell_newB wr _ 80 j u hj
      case d3 => intro u hu; simp at hu; subst hu; rfl
      case d4 => have := Hn.out; unfold maxLen; omega
      case d5 => have := Hn.out; omega
      case d7 => have := HS.out.2.2; simp; omega
      case d6 =>
        intro g cap w4 ho4 hg4 hat4 hlt4
        have B4 : Below w.heap.size wr w4 := ((Below.refl _ _).alloc (by have := HS.out.2.2; omega) _).trans (grown_below32 hg4 (fun g hg => (HS.out.1.lt g hg).1) (by have := HS.out.2.2; simp; omega))
        have HS4 : Hid (LendUSt32 w 0 f (i + 1) (.slice (some ⟨g, 0, none⟩) (i + 1) cap) w4) := by
          refine ⟨?_, HS.out.2.1.trans B4, Nat.lt_of_lt_of_le HS.out.2.2 B4.size⟩
          rw [← Nat.add_assoc, valsV32_succ, mkf32_mark]
          simp only [Nat.zero_add]
          exact ho4
        clear ho4 hg4 hat4 hlt4 B4 HS
        go_wp2_with fail
        go_roundw
        case rel => exact ⟨i + 1, by omega, by go_num, HS4⟩
        case measure => simp [intOf]; omega
    · have hi9 : i = 9 := by omega
      subst hi9
      obtain ⟨g, cap, hv, hg, hgs⟩ := HS.out.1.form (by omega)
      have hcap : 0 + 9 ≤ cap := by
        rcases HS.out.1.2 with ⟨h, _⟩ | ⟨g', cap', cur, h, _, _, h2, _⟩
        · rw [hv] at h; simp at h
        · rw [hv] at h; simp only [Value.slice.injEq] at h; omega
      have hnc : 0 ≤ cap := by omega
      have HF : Hid (LentU32 wr w.heap.size g cap 0 f ∧ Below w.heap.size w wr) := ⟨by have := HS.out.1; rw [hv] at this; exact this, HS.out.2.1⟩
      clear HS
      subst hv
      go_wp2_with fail
      go_ret
      exact ⟨g, cap, rfl, HF.out⟩

theorem lendU32_any (p : Option Addr) (n cap0 : Nat) (f : Nat → Nat) (w : World) (h : URow32 w p n f) (hp : p = none → cap0 = 0) (hn2 : n ≤ 1000000) :
    Calls Tryz.prog 24 #[.slice p n cap0] w fun e w' => ∃ g cap, e = .returned (.slice (some ⟨g, 0, none⟩) n cap) ∧ LentU32 w' w.heap.size g cap n f ∧ Below w.heap.size w w' := by
  cases p with
  | none =>
    have h0 : n = 0 := by
      rcases Nat.eq_zero_or_pos n with h0 | h0
      · exact h0
      · obtain ⟨b, o, hp, _⟩ := h h0; cases hp
    subst h0
    rw [hp rfl]
    exact lendU32_none f w
  | some ad =>
    refine lendU32_some ad n cap0 f w hn2 fun j u hj => ?_
    have hjn : j < n := by
      rcases Nat.lt_or_ge j n with h1 | h1
      · exact h1
      · rw [List.getElem?_eq_none (by rw [valsV32_length]; exact h1)] at hj; cases hj
    obtain ⟨b, o, hb, hc⟩ := h (by omega)
    rw [valsV32_get hjn] at hj
    cases hj
    cases hb
    have h2 := hc j hjn
    by_cases hj0 : j = 0
    · subst hj0; simpa [Addr.add] using h2
    · simpa [Addr.add, hj0] using h2

set_option maxRecDepth 100000 in
set_option maxHeartbeats 4000000 in
theorem backU32_any (base g cap n : Nat) (p : Option Addr) (cap0 : Nat) (f : Nat → Nat) (w : World) (hn2 : n ≤ 1000000) (hL : LentU32 w base g cap n f) (hv : URow32 w p n f) :
    Calls Tryz.prog 26 #[.slice (some ⟨g, 0, none⟩) n cap, .slice p n cap0] w fun e w' => e = .returned (.bool true) ∧ ∃ m, w' = w.drewN m := by
  have hcap : n + 9 ≤ cap := hL.lies.1
  obtain ⟨n9, hn9⟩ : ∃ n9 : Nat, (n : Int) + 9 = (n9 : Int) := ⟨n + 9, by omega⟩
  have hn7 : n9 ≤ cap := by omega
  have HL : Hid ((∀ i, i < n → w.cell? ⟨g, i, none⟩ = some (.int .u32 ((f i) : Nat))) ∧ ∀ i, i < 9 → w.cell? ⟨g, n + i, none⟩ = some (.int .u32 777)) := ⟨hL.lies.2.2.2.1, hL.lies.2.2.2.2.1⟩
  have HV := hideB hv
  clear hL hv
  go_enter Tryz.func26, Tryz.ntmps26
  go_wp2_with fail
  go_loopw [5] (fun t5 wr => ∃ i : Nat, i ≤ n ∧ t5 = .int .i64 i ∧ Hid (∃ m, wr = w.drewN m)) (fun t5 _ => n - (intOf t5).toNat)
  case atStart => exact ⟨0, by omega, rfl, ⟨0, rfl⟩⟩
  case round =>
    obtain ⟨i, hi, rfl, Hm⟩ := hrel
    by_cases hlt : i < n
    · have hlt' : (i : Int) < (n : Int) := by omega
      obtain ⟨b, o, rfl, hc⟩ := HV.out (by omega)
      have hc1 : wr.cell? ⟨g, i, none⟩ = some (.int .u32 ((f i) : Nat)) := by obtain ⟨m, rfl⟩ := Hm.out; exact HL.out.1 i hlt
      have hc2 : wr.cell? ⟨b, o + i, none⟩ = some (.int .u32 ((f i) : Nat)) := by obtain ⟨m, rfl⟩ := Hm.out; exact hc i hlt
      clear hc
      go_wp2_with fail
      go_quiet (fail)
      go_wp2_with fail
      refine ⟨⟨i + 1, by omega, by go_num, ?_⟩, by simp [intOf]; omega⟩
      obtain ⟨m, rfl⟩ := Hm.out
      exact ⟨m + nq, World.drewN_drewN _ _ _⟩
    · have hin : i = n := by omega
      subst hin
      go_wp2_with fail
      go_loopw [7] (fun t7 wr => ∃ k : Nat, k ≤ n9 ∧ i ≤ k ∧ t7 = .int .i64 k ∧ Hid (∃ m, wr = w.drewN m)) (fun t7 _ => n9 - (intOf t7).toNat)
      case atStart => exact ⟨i, by omega, by omega, rfl, Hm⟩
      case round =>
        obtain ⟨k, hk, hik, rfl, Hm2⟩ := hrel
        by_cases hlt : k < n9
        · have hlt' : (k : Int) < (n9 : Int) := by omega
          have hc1 : wr.cell? ⟨g, k, none⟩ = some (.int .u32 777) := by
            obtain ⟨m, rfl⟩ := Hm2.out
            have h := HL.out.2 (k - i) (by omega)
            rwa [show i + (k - i) = k by omega] at h
          go_wp2_with fail
          exact ⟨⟨k + 1, by omega, by omega, by go_num, Hm2⟩, by simp [intOf]; omega⟩
        · go_wp2_with fail
          go_ret
          exact ⟨rfl, Hm2.out⟩

set_option maxRecDepth 100000 in
set_option maxHeartbeats 4000000 in
theorem overU32_any (base g cap n : Nat) (f : Nat → Nat) (w : World) (hn2 : n ≤ 1000000) (hL : LentU32 w base g cap n f) :
    Calls Tryz.prog 27 #[.slice (some ⟨g, 0, none⟩) n cap] w fun e w' => e = .returned (.tuple #[]) ∧ Only g 0 n w w' := by
  have HL : Hid (∀ i, i < n → ∃ y : Int, w.cell? ⟨g, i, none⟩ = some (.int .u32 y)) := fun i hi => ⟨_, hL.lies.2.2.2.1 i hi⟩
  have HF : Hid (∀ i, w.frozen? ⟨g, i, none⟩ = false) := hL.lies.2.2.2.2.2
  clear hL
  go_enter Tryz.func27, Tryz.ntmps27
  go_wp2_with fail
  go_loopw [2] (fun t2 wr => ∃ i : Nat, i ≤ n ∧ t2 = .int .i64 i ∧ Hid (Only g 0 n w wr ∧ ∀ i, i < n → ∃ y : Int, wr.cell? ⟨g, i, none⟩ = some (.int .u32 y))) (fun t2 _ => n - (intOf t2).toNat)
  case atStart => exact ⟨0, by omega, rfl, ⟨Only.refl _ _ _ _, HL.out⟩⟩
  case round =>
    obtain ⟨i, hi, rfl, HS⟩ := hrel
    by_cases hlt : i < n
    · have hlt' : (i : Int) < (n : Int) := by omega
      obtain ⟨y, hc⟩ := HS.out.2 i hlt
      have hf : wr.frozen? ⟨g, i, none⟩ = false := by rw [HS.out.1.frozen]; exact HF.out i
      have HS2 : Hid (Only g 0 n w (wr.setCell ⟨g, i, none⟩ (.int .u32 778)) ∧ ∀ j, j < n → ∃ y : Int, (wr.setCell ⟨g, i, none⟩ (.int .u32 778)).cell? ⟨g, j, none⟩ = some (.int .u32 y)) := by
        refine ⟨HS.out.1.setCell i (by omega) hlt _, fun j hj => ?_⟩
        by_cases hji : j = i
        · subst hji; exact ⟨778, cell_setCell_eq _ _ _ _ _ hc⟩
        · rw [cell_setCell_ne _ _ _ _ _ hji]; exact HS.out.2 j hj
      clear HS
      go_wp2_with fail
      exact ⟨⟨i + 1, by omega, by go_num, HS2⟩, by simp [intOf]; omega⟩
    · go_wp2_with fail
      go_end0
      exact ⟨rfl, HS.out.1⟩

end Go.Proofs.YtnjcedlbdjidiaaGreatDoor

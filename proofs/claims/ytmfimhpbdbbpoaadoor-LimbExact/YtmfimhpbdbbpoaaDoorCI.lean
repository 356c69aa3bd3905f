/- The law's LendSmalls, BackSmalls, OverSmalls. -/
import Derived.Test.YtmfimhpbdbbpoaaDoorAO
import Derived.Test.YtmfimhpbdbbpoaaDoorBQ
import Derived.Deep.AppendLies
import Derived.Laws.AppendOwnNone
import Derived.OwnWalk
import Derived.BigQuiet
namespace Go.Proofs.YtmfimhpbdbbpoaaDoor
open Go.RowKit
open M
set_option linter.unusedVariables false
set_option linter.unusedSimpArgs false

def URow32 (w : World) (p : Option Addr) (n : Nat) (f : Nat → Nat) : Prop :=
  0 < n → ∃ b o, p = some ⟨b, o, none⟩ ∧ ∀ i, i < n → w.cell? ⟨b, o + i, none⟩ = some (.int .u32 (f i : Int))

def valsV32 (i : Nat) (f : Nat → Nat) : List Value := (List.range i).map fun j => .int .u32 (f j : Int)

theorem valsV32_succ (i : Nat) (f : Nat → Nat) : valsV32 (i + 1) f = valsV32 i f ++ [.int .u32 (f i : Int)] := by simp [valsV32, List.range_succ]

/-- n times, marks behind them. -/
def mkf32 (n : Nat) (f : Nat → Nat) : Nat → Nat := fun j => if j < n then f j else 777

theorem valsV32_length (i : Nat) (f : Nat → Nat) : (valsV32 i f).length = i := by simp [valsV32]

theorem valsV32_get {i j : Nat} {f : Nat → Nat} (h : j < i) : (valsV32 i f)[j]? = some (.int .u32 ((f j) : Nat)) := by simp [valsV32, h]

theorem valsV32_cell (i : Nat) (f : Nat → Nat) : ∀ u ∈ valsV32 i f, u.oneCell' = true := by
  intro u hu
  simp only [valsV32, List.mem_map] at hu
  obtain ⟨j, _, rfl⟩ := hu
  rfl

theorem valsV32_mkf32 (n : Nat) (f : Nat → Nat) : valsV32 n (mkf32 n f) = valsV32 n f := by
  unfold valsV32
  apply List.map_congr_left
  intro j hj
  simp [mkf32, List.mem_range.1 hj]

theorem mkf32_mark (n i : Nat) (f : Nat → Nat) : mkf32 n f (n + i) = 777 := by unfold mkf32; rw [if_neg (by omega)]

/-- Times that are lent: in a block of their own, the marks behind them. -/
def LentU32 (w : World) (base g cap n : Nat) (f : Nat → Nat) : Prop := w.ownsRow base 24 1 (.slice (some ⟨g, 0, none⟩) (n + 9) cap) (n + 9) (valsV32 (n + 9) (mkf32 n f))

/-- Behind i marks. -/
def LendUSt32 (w : World) (n : Nat) (f : Nat → Nat) (i : Nat) (v : Value) (wr : World) : Prop :=
  wr.ownsRow w.heap.size 24 1 v (n + i) (valsV32 (n + i) (mkf32 n f)) ∧ Below w.heap.size w wr ∧ w.heap.size < wr.heap.size

theorem LentU32.lies {w : World} {base g cap n : Nat} {f : Nat → Nat} (h : LentU32 w base g cap n f) : n + 9 ≤ cap ∧ base ≤ g ∧ g < w.heap.size ∧ (∀ i, i < n → w.cell? ⟨g, i, none⟩ = some (.int .u32 ((f i) : Nat))) ∧ (∀ i, i < 9 → w.cell? ⟨g, n + i, none⟩ = some (.int .u32 777)) ∧ ∀ i, w.frozen? ⟨g, i, none⟩ = false := by
  obtain ⟨h1, h2⟩ := h
  rcases h2 with ⟨h2, _⟩ | ⟨g', cap', cur, h0, h4, h5, h6, _, h7, h8⟩
  · simp at h2
  · simp only [Value.slice.injEq, Option.some.injEq, Addr.mk.injEq] at h0
    obtain ⟨⟨rfl, _⟩, _, rfl⟩ := h0
    have hget : ∀ i, i < n + 9 → w.cell? ⟨g, i, none⟩ = some (.int .u32 ((mkf32 n f i) : Nat)) := fun i hi => by
      rw [cell_of_row w g i cur _ (0, 0) h5, ← valsV32_get (f := mkf32 n f) hi, ← h8, List.getElem?_take, if_pos (by omega)]
      simp
    refine ⟨h6, h4, ?_, fun i hi => ?_, fun i hi => ?_, fun i => frozen_of_row _ _ _ _ _ h5⟩
    · rcases Nat.lt_or_ge g w.heap.size with hlt | hge
      · exact hlt
      · rw [Array.getElem?_eq_none hge] at h5; cases h5
    · rw [hget i (by omega)]; simp [mkf32, hi]
    · rw [hget (n + i) (by omega), mkf32_mark]; rfl

theorem LentU32.row {w : World} {base g cap n : Nat} {f : Nat → Nat} (h : LentU32 w base g cap n f) : URow32 w (some ⟨g, 0, none⟩) n f := fun _ => ⟨g, 0, rfl, fun i hi => by rw [Nat.zero_add]; exact h.lies.2.2.2.1 i hi⟩

theorem LentU32.below {w w' : World} {base g cap n : Nat} {f : Nat → Nat} (h : LentU32 w base g cap n f) (hB : Below w.heap.size w w') : LentU32 w' base g cap n f :=
  ownsRow_keep h (fun g' hg => hB.block g' (by simp only [Value.ownBlock, Option.some.injEq] at hg; subst hg; exact h.lies.2.2.1))

set_option maxRecDepth 100000 in
set_option maxHeartbeats 4000000 in
theorem lendU32_some (ad : Addr) (n cap0 : Nat) (f : Nat → Nat) (w : World) (hn2 : n ≤ 1000000) (hnews : ∀ j u, (valsV32 n f)[j]? = some u → w.cell? (ad.add j) = some u) :
    Calls Tryd.prog 57 #[.slice (some ad) n cap0] w fun e w' => ∃ g cap, e = .returned (.slice (some ⟨g, 0, none⟩) n cap) ∧ LentU32 w' w.heap.size g cap n f ∧ Below w.heap.size w w' := by
  obtain ⟨i5, hi5⟩ := info32
  have Hi : Hid (Tryd.prog.info? 24 = some i5 ∧ i5.zero = some (.int .u32 0) ∧ i5.size = 1 ∧ i5.bytes = 4) := hi5
  have Hn : Hid (n ≤ 1000000) := hn2
  have HN : Hid (∀ j u, (valsV32 n f)[j]? = some u → w.cell? (ad.add j) = some u) := hnews
  clear hi5 hnews
  obtain ⟨n9, hn9⟩ : ∃ n9 : Nat, (n : Int) + 9 = (n9 : Int) := ⟨n + 9, by omega⟩
  go_enter Tryd.func57, Tryd.ntmps57
  go_wp2_with (at_make; refine wpList_make_own _ rfl _ _ _ rfl w.heap.size 24 i5 (.int .u32 0) 1 Tryd.underlying23 Hi.out.1 Hi.out.2.1 Hi.out.2.2.1 .i64 .i64 (n9 : Int) n9 rfl (by simp [Act.eval]) rfl (by rw [Hi.out.2.2.2]; omega) (by unfold maxLen; omega) (Nat.le_refl _) ?_)
  intro w1 ho1 hg1
  have B1 : Below w.heap.size w w1 := grown_below hg1 (fun g hg => by simp at hg) (Nat.le_refl _)
  have z1 : w.heap.size < w1.heap.size := (ho1.lt w.heap.size rfl).2
  have HO1 : Hid (w1.ownsRow w.heap.size 24 1 (.slice (some ⟨w.heap.size, 0, none⟩) 0 n9) 0 [] ∧ Below w.heap.size w w1) := ⟨ho1, B1⟩
  clear ho1 hg1 B1
  go_wp2_with (at_builtin; refine wpList_append_own _ rfl _ _ _ rfl w.heap.size 24 i5 (.int .u32 0) 1 4 Tryd.underlying23 Hi.out.1 Hi.out.2.1 Hi.out.2.2.1 Hi.out.2.2.2 rfl (by decide) (.slice (some ⟨w.heap.size, 0, none⟩) 0 n9) 0 [] rfl HO1.out.1 ad n cap0 (valsV32 n f) rfl ?c2 ?c3 (valsV32_cell n f) ?c4 ?c5 ?c7 ?c6)
  case c2 => rw [Nat.mul_one, valsV32_length]
  case c3 => intro j u hj; have h := HN.out j u hj; rw [HO1.out.2.cell (block_lt_of_cell h)]; exact h
  case c4 => unfold maxLen; omega
  case c5 => omega
  case c7 => omega
  case c6 =>
    intro v2 w2 ho2 hg2 _
    have B2 : Below w.heap.size w1 w2 := grown_below hg2 (fun g hg => by simp [Value.ownBlock] at hg; omega) (by omega)
    have HS2 : Hid (LendUSt32 w n f 0 v2 w2) := ⟨by rw [Nat.add_zero, valsV32_mkf32]; simpa using ho2, HO1.out.2.trans B2, Nat.lt_of_lt_of_le z1 B2.size⟩
    clear ho2 hg2 B2 HO1 HN z1
    go_wp2_with fail
    go_loopw [3, 4] (fun t3 t4 wr => ∃ i : Nat, i ≤ 9 ∧ t4 = .int .i64 i ∧ Hid (LendUSt32 w n f i t3 wr)) (fun _ t4 _ => 9 - (intOf t4).toNat)
    case atStart => exact ⟨0, by omega, rfl, HS2⟩
    case round =>
      obtain ⟨i, hi, rfl, HS⟩ := hrel
      by_cases hlt : i < 9
      · have hlt' : (i : Int) < 9 := by omega
        go_wp2_with (at_builtin; refine wpList_append_lies _ rfl _ _ _ rfl w.heap.size 24 i5 (.int .u32 0) 1 4 Tryd.underlying23 Hi.out.1 Hi.out.2.1 Hi.out.2.2.1 Hi.out.2.2.2 rfl (by decide) _ (n + i) (valsV32 (n + i) (mkf32 n f)) rfl (HS.out.1.alloc _) ⟨wr.heap.size, 0, none⟩ 1 1 [.int .u32 777] rfl rfl ?d2 ?d3 (by decide) ?d4 ?d5 ?d7 _ rfl ?d6)
        case d2 => intro j u hj; exact cell_new1 wr _ 24 j u hj
        case d3 => intro u hu; simp at hu; subst hu; rfl
        case d4 => have := Hn.out; unfold maxLen; omega
        case d5 => have := Hn.out; omega
        case d7 => have := HS.out.2.2; simp; omega
        case d6 =>
          intro g cap w4 ho4 hg4 hat4 hlt4
          have B4 : Below w.heap.size wr w4 := ((Below.refl _ _).alloc (by have := HS.out.2.2; omega) _).trans (grown_below hg4 (fun g hg => (HS.out.1.lt g hg).1) (by have := HS.out.2.2; simp; omega))
          have HS4 : Hid (LendUSt32 w n f (i + 1) (.slice (some ⟨g, 0, none⟩) (n + i + 1) cap) w4) := by
            refine ⟨?_, HS.out.2.1.trans B4, Nat.lt_of_lt_of_le HS.out.2.2 B4.size⟩
            rw [← Nat.add_assoc, valsV32_succ, mkf32_mark]
            exact ho4
          clear ho4 hg4 hat4 hlt4 B4 HS
          go_wp2_with fail
          go_roundw
          case rel => exact ⟨i + 1, by omega, by go_num, HS4⟩
          case measure => simp [intOf]; omega
      · have hi9 : i = 9 := by omega
        subst hi9
        obtain ⟨g, cap, hv, hg, hgs⟩ := HS.out.1.form (by omega)
        have hcap : n + 9 ≤ cap := by
          rcases HS.out.1.2 with ⟨h, _⟩ | ⟨g', cap', cur, h, _, _, h2, _⟩
          · rw [hv] at h; simp at h
          · rw [hv] at h; simp only [Value.slice.injEq] at h; omega
        have hnc : n ≤ cap := by omega
        have HF : Hid (LentU32 wr w.heap.size g cap n f ∧ Below w.heap.size w wr) := ⟨by have := HS.out.1; rw [hv] at this; exact this, HS.out.2.1⟩
        clear HS
        subst hv
        go_wp2_with fail
        go_ret
        exact ⟨g, cap, rfl, HF.out⟩

set_option maxRecDepth 100000 in
set_option maxHeartbeats 4000000 in
theorem lendU32_none (f : Nat → Nat) (w : World) :
    Calls Tryd.prog 57 #[.slice none 0 0] w fun e w' => ∃ g cap, e = .returned (.slice (some ⟨g, 0, none⟩) 0 cap) ∧ LentU32 w' w.heap.size g cap 0 f ∧ Below w.heap.size w w' := by
  obtain ⟨i5, hi5⟩ := info32
  have Hi : Hid (Tryd.prog.info? 24 = some i5 ∧ i5.zero = some (.int .u32 0) ∧ i5.size = 1 ∧ i5.bytes = 4) := hi5
  have Hn : Hid (0 ≤ 1000000) := Nat.zero_le _
  clear hi5
  go_enter Tryd.func57, Tryd.ntmps57
  go_wp2_with (at_make; refine wpList_make_own _ rfl _ _ _ rfl w.heap.size 24 i5 (.int .u32 0) 1 Tryd.underlying23 Hi.out.1 Hi.out.2.1 Hi.out.2.2.1 .i64 .i64 (9 : Int) 9 rfl (by simp [Act.eval]) rfl (by rw [Hi.out.2.2.2]; omega) (by unfold maxLen; omega) (Nat.le_refl _) ?_)
  intro w1 ho1 hg1
  have B1 : Below w.heap.size w w1 := grown_below hg1 (fun g hg => by simp at hg) (Nat.le_refl _)
  have z1 : w.heap.size < w1.heap.size := (ho1.lt w.heap.size rfl).2
  have HO1 : Hid (w1.ownsRow w.heap.size 24 1 (.slice (some ⟨w.heap.size, 0, none⟩) 0 9) 0 [] ∧ Below w.heap.size w w1) := ⟨ho1, B1⟩
  clear ho1 hg1 B1
  go_wp2_with (at_builtin; refine wpList_append_own_none rfl _ _ _ rfl w.heap.size 24 i5 1 Tryd.underlying23 Hi.out.1 (.slice (some ⟨w.heap.size, 0, none⟩) 0 9) 0 [] rfl HO1.out.1 rfl ?c6)
  have HS2 : Hid (LendUSt32 w 0 f 0 (.slice (some ⟨w.heap.size, 0, none⟩) 0 9) w1) := ⟨by simpa [valsV32] using HO1.out.1, HO1.out.2, z1⟩
  clear HO1 z1
  go_loopw [3, 4] (fun t3 t4 wr => ∃ i : Nat, i ≤ 9 ∧ t4 = .int .i64 i ∧ Hid (LendUSt32 w 0 f i t3 wr)) (fun _ t4 _ => 9 - (intOf t4).toNat)
  case atStart => exact ⟨0, by omega, rfl, HS2⟩
  case round =>
    obtain ⟨i, hi, rfl, HS⟩ := hrel
    by_cases hlt : i < 9
    · have hlt' : (i : Int) < 9 := by omega
      go_wp2_with (at_builtin; refine wpList_append_lies _ rfl _ _ _ rfl w.heap.size 24 i5 (.int .u32 0) 1 4 Tryd.underlying23 Hi.out.1 Hi.out.2.1 Hi.out.2.2.1 Hi.out.2.2.2 rfl (by decide) _ (0 + i) (valsV32 (0 + i) (mkf32 0 f)) rfl (HS.out.1.alloc _) ⟨wr.heap.size, 0, none⟩ 1 1 [.int .u32 777] rfl rfl ?d2 ?d3 (by decide) ?d4 ?d5 ?d7 _ rfl ?d6)
      case d2 => intro j u hj; exact cell_new1 wr _ 24 j u hj
      case d3 => intro u hu; simp at hu; subst hu; rfl
      case d4 => have := Hn.out; unfold maxLen; omega
      case d5 => have := Hn.out; omega
      case d7 => have := HS.out.2.2; simp; omega
      case d6 =>
        intro g cap w4 ho4 hg4 hat4 hlt4
        have B4 : Below w.heap.size wr w4 := ((Below.refl _ _).alloc (by have := HS.out.2.2; omega) _).trans (grown_below hg4 (fun g hg => (HS.out.1.lt g hg).1) (by have := HS.out.2.2; simp; omega))
        have HS4 : Hid (LendUSt32 w 0 f (i + 1) (.slice (some ⟨g, 0, none⟩) (i + 1) cap) w4) := by
          refine ⟨?_, HS.out.2.1.trans B4, Nat.lt_of_lt_of_le HS.out.2.2 B4.size⟩
          rw [← Nat.add_assoc, valsV32_succ, mkf32_mark]
          simp only [Nat.zero_add]
          exact ho4
        clear ho4 hg4 hat4 hlt4 B4 HS
        go_wp2_with fail
        go_roundw
        case rel => exact ⟨i + 1, by omega, by go_num, HS4⟩
        case measure => simp [intOf]; omega
    · have hi9 : i = 9 := by omega
      subst hi9
      obtain ⟨g, cap, hv, hg, hgs⟩ := HS.out.1.form (by omega)
      have hcap : 0 + 9 ≤ cap := by
        rcases HS.out.1.2 with ⟨h, _⟩ | ⟨g', cap', cur, h, _, _, h2, _⟩
        · rw [hv] at h; simp at h
        · rw [hv] at h; simp only [Value.slice.injEq] at h; omega
      have hnc : 0 ≤ cap := by omega
      have HF : Hid (LentU32 wr w.heap.size g cap 0 f ∧ Below w.heap.size w wr) := ⟨by have := HS.out.1; rw [hv] at this; exact this, HS.out.2.1⟩
      clear HS
      subst hv
      go_wp2_with fail
      go_ret
      exact ⟨g, cap, rfl, HF.out⟩

theorem lendU32_any (p : Option Addr) (n cap0 : Nat) (f : Nat → Nat) (w : World) (h : URow32 w p n f) (hp : p = none → cap0 = 0) (hn2 : n ≤ 1000000) :
    Calls Tryd.prog 57 #[.slice p n cap0] w fun e w' => ∃ g cap, e = .returned (.slice (some ⟨g, 0, none⟩) n cap) ∧ LentU32 w' w.heap.size g cap n f ∧ Below w.heap.size w w' := by
  cases p with
  | none =>
    have h0 : n = 0 := by
      rcases Nat.eq_zero_or_pos n with h0 | h0
      · exact h0
      · obtain ⟨b, o, hp, _⟩ := h h0; cases hp
    subst h0
    rw [hp rfl]
    exact lendU32_none f w
  | some ad =>
    refine lendU32_some ad n cap0 f w hn2 fun j u hj => ?_
    have hjn : j < n := by
      rcases Nat.lt_or_ge j n with h1 | h1
      · exact h1
      · rw [List.getElem?_eq_none (by rw [valsV32_length]; exact h1)] at hj; cases hj
    obtain ⟨b, o, hb, hc⟩ := h (by omega)
    rw [valsV32_get hjn] at hj
    cases hj
    cases hb
    have h2 := hc j hjn
    by_cases hj0 : j = 0
    · subst hj0; simpa [Addr.add] using h2
    · simpa [Addr.add, hj0] using h2

set_option maxRecDepth 100000 in
set_option maxHeartbeats 4000000 in
theorem backU32_any (base g cap n : Nat) (p : Option Addr) (cap0 : Nat) (f : Nat → Nat) (w : World) (hn2 : n ≤ 1000000) (hL : LentU32 w base g cap n f) (hv : URow32 w p n f) :
    Calls Tryd.prog 62 #[.slice (some ⟨g, 0, none⟩) n cap, .slice p n cap0] w fun e w' => e = .returned (.bool true) ∧ ∃ m, w' = w.drewN m := by
  have hcap : n + 9 ≤ cap := hL.lies.1
  obtain ⟨n9, hn9⟩ : ∃ n9 : Nat, (n : Int) + 9 = (n9 : Int) := ⟨n + 9, by omega⟩
  have hn7 : n9 ≤ cap := by omega
  have HL : Hid ((∀ i, i < n → w.cell? ⟨g, i, none⟩ = some (.int .u32 ((f i) : Nat))) ∧ ∀ i, i < 9 → w.cell? ⟨g, n + i, none⟩ = some (.int .u32 777)) := ⟨hL.lies.2.2.2.1, hL.lies.2.2.2.2.1⟩
  have HV := hide hv
  clear hL hv
  go_enter Tryd.func62, Tryd.ntmps62
  go_wp2_with fail
  go_loopw [5] (fun t5 wr => ∃ i : Nat, i ≤ n ∧ t5 = .int .i64 i ∧ Hid (∃ m, wr = w.drewN m)) (fun t5 _ => n - (intOf t5).toNat)
  case atStart => exact ⟨0, by omega, rfl, ⟨0, rfl⟩⟩
  case round =>
    obtain ⟨i, hi, rfl, Hm⟩ := hrel
    by_cases hlt : i < n
    · have hlt' : (i : Int) < (n : Int) := by omega
      obtain ⟨b, o, rfl, hc⟩ := HV.out (by omega)
      have hc1 : wr.cell? ⟨g, i, none⟩ = some (.int .u32 ((f i) : Nat)) := by obtain ⟨m, rfl⟩ := Hm.out; exact HL.out.1 i hlt
      have hc2 : wr.cell? ⟨b, o + i, none⟩ = some (.int .u32 ((f i) : Nat)) := by obtain ⟨m, rfl⟩ := Hm.out; exact hc i hlt
      clear hc
      go_wp2_with fail
      go_quiet (fail)
      go_wp2_with fail
      refine ⟨⟨i + 1, by omega, by go_num, ?_⟩, by simp [intOf]; omega⟩
      obtain ⟨m, rfl⟩ := Hm.out
      exact ⟨m + nq, World.drewN_drewN _ _ _⟩
    · have hin : i = n := by omega
      subst hin
      go_wp2_with fail
      go_loopw [7] (fun t7 wr => ∃ k : Nat, k ≤ n9 ∧ i ≤ k ∧ t7 = .int .i64 k ∧ Hid (∃ m, wr = w.drewN m)) (fun t7 _ => n9 - (intOf t7).toNat)
      case atStart => exact ⟨i, by omega, by omega, rfl, Hm⟩
      case round =>
        obtain ⟨k, hk, hik, rfl, Hm2⟩ := hrel
        by_cases hlt : k < n9
        · have hlt' : (k : Int) < (n9 : Int) := by omega
          have hc1 : wr.cell? ⟨g, k, none⟩ = some (.int .u32 777) := by
            obtain ⟨m, rfl⟩ := Hm2.out
            have h := HL.out.2 (k - i) (by omega)
            rwa [show i + (k - i) = k by omega] at h
          go_wp2_with fail
          exact ⟨⟨k + 1, by omega, by omega, by go_num, Hm2⟩, by simp [intOf]; omega⟩
        · go_wp2_with fail
          go_ret
          exact ⟨rfl, Hm2.out⟩

set_option maxRecDepth 100000 in
set_option maxHeartbeats 4000000 in
theorem overU32_any (base g cap n : Nat) (f : Nat → Nat) (w : World) (hn2 : n ≤ 1000000) (hL : LentU32 w base g cap n f) :
    Calls Tryd.prog 63 #[.slice (some ⟨g, 0, none⟩) n cap] w fun e w' => e = .returned (.tuple #[]) ∧ Only g 0 n w w' := by
  have HL : Hid (∀ i, i < n → ∃ y : Int, w.cell? ⟨g, i, none⟩ = some (.int .u32 y)) := fun i hi => ⟨_, hL.lies.2.2.2.1 i hi⟩
  have HF : Hid (∀ i, w.frozen? ⟨g, i, none⟩ = false) := hL.lies.2.2.2.2.2
  clear hL
  go_enter Tryd.func63, Tryd.ntmps63
  go_wp2_with fail
  go_loopw [2] (fun t2 wr => ∃ i : Nat, i ≤ n ∧ t2 = .int .i64 i ∧ Hid (Only g 0 n w wr ∧ ∀ i, i < n → ∃ y : Int, wr.cell? ⟨g, i, none⟩ = some (.int .u32 y))) (fun t2 _ => n - (intOf t2).toNat)
  case atStart => exact ⟨0, by omega, rfl, ⟨Only.refl _ _ _ _, HL.out⟩⟩
  case round =>
    obtain ⟨i, hi, rfl, HS⟩ := hrel
    by_cases hlt : i < n
    · have hlt' : (i : Int) < (n : Int) := by omega
      obtain ⟨y, hc⟩ := HS.out.2 i hlt
      have hf : wr.frozen? ⟨g, i, none⟩ = false := by rw [HS.out.1.frozen]; exact HF.out i
      have HS2 : Hid (Only g 0 n w (wr.setCell ⟨g, i, none⟩ (.int .u32 778)) ∧ ∀ j, j < n → ∃ y : Int, (wr.setCell ⟨g, i, none⟩ (.int .u32 778)).cell? ⟨g, j, none⟩ = some (.int .u32 y)) := by
        refine ⟨HS.out.1.setCell i (by omega) hlt _, fun j hj => ?_⟩
        by_cases hji : j = i
        · subst hji; exact ⟨778, cell_setCell_eq _ _ _ _ _ hc⟩
        · rw [cell_setCell_ne _ _ _ _ _ hji]; exact HS.out.2 j hj
      clear HS
      go_wp2_with fail
      exact ⟨⟨i + 1, by omega, by go_num, HS2⟩, by simp [intOf]; omega⟩
    · go_wp2_with fail
      go_end0
      exact ⟨rfl, HS.out.1⟩

end Go.Proofs.YtmfimhpbdbbpoaaDoor

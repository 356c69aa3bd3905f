/- The law's Other, Into. -/
import Derived.Test.YtangjkhflgkkdaaGreatT2D
import Derived.Laws.AppendOwnNone
import Derived.OwnWalk
import Derived.BigQuiet
import Derived.Test.YtangjkhflgkkdaaGreatB1Rg
/- The law's LendTimes, BackTimes, OverTimes. -/
namespace Go.Proofs.YtangjkhflgkkdaaGreat
open Go.RowKit
open M
set_option linter.unusedVariables false

/-- n times, marks behind them. -/
def mkf (n : Nat) (f : Nat → Int) : Nat → Int := fun j => if j < n then f j else -777

theorem timesV_length (i : Nat) (f : Nat → Int) : (timesV i f).length = i := by simp [timesV]

theorem timesV_get {i j : Nat} {f : Nat → Int} (h : j < i) : (timesV i f)[j]? = some (.int .i64 (f j)) := by simp [timesV, h]

theorem timesV_cell (i : Nat) (f : Nat → Int) : ∀ u ∈ timesV i f, u.oneCell' = true := by
  intro u hu
  simp only [timesV, List.mem_map] at hu
  obtain ⟨j, _, rfl⟩ := hu
  rfl

theorem timesV_mkf (n : Nat) (f : Nat → Int) : timesV n (mkf n f) = timesV n f := by
  unfold timesV
  apply List.map_congr_left
  intro j hj
  simp [mkf, List.mem_range.1 hj]

theorem mkf_mark (n i : Nat) (f : Nat → Int) : mkf n f (n + i) = -777 := by unfold mkf; rw [if_neg (by omega)]

/-- Times that are lent: in a block of their own, the marks behind them. -/
def LentT (w : World) (base g cap n : Nat) (f : Nat → Int) : Prop := w.ownsRow base 2 1 (.slice (some ⟨g, 0, none⟩) (n + 9) cap) (n + 9) (timesV (n + 9) (mkf n f))

/-- Behind i marks. -/
def LendTSt (w : World) (n : Nat) (f : Nat → Int) (i : Nat) (v : Value) (wr : World) : Prop :=
  wr.ownsRow w.heap.size 2 1 v (n + i) (timesV (n + i) (mkf n f)) ∧ Below w.heap.size w wr ∧ w.heap.size < wr.heap.size

theorem LentT.lies {w : World} {base g cap n : Nat} {f : Nat → Int} (h : LentT w base g cap n f) : n + 9 ≤ cap ∧ base ≤ g ∧ g < w.heap.size ∧ (∀ i, i < n → w.cell? ⟨g, i, none⟩ = some (.int .i64 (f i))) ∧ (∀ i, i < 9 → w.cell? ⟨g, n + i, none⟩ = some (.int .i64 (-777))) ∧ ∀ i, w.frozen? ⟨g, i, none⟩ = false := by
  obtain ⟨h1, h2⟩ := h
  rcases h2 with ⟨h2, _⟩ | ⟨g', cap', cur, h0, h4, h5, h6, _, h7, h8⟩
  · simp at h2
  · simp only [Value.slice.injEq, Option.some.injEq, Addr.mk.injEq] at h0
    obtain ⟨⟨rfl, _⟩, _, rfl⟩ := h0
    have hget : ∀ i, i < n + 9 → w.cell? ⟨g, i, none⟩ = some (.int .i64 (mkf n f i)) := fun i hi => by
      rw [cell_of_row w g i cur _ (0, 0) h5, ← timesV_get (f := mkf n f) hi, ← h8, List.getElem?_take, if_pos (by omega)]
      simp
    refine ⟨h6, h4, ?_, fun i hi => ?_, fun i hi => ?_, fun i => frozen_of_row _ _ _ _ _ h5⟩
    · rcases Nat.lt_or_ge g w.heap.size with hlt | hge
      · exact hlt
      · rw [Array.getElem?_eq_none hge] at h5; cases h5
    · rw [hget i (by omega)]; simp [mkf, hi]
    · rw [hget (n + i) (by omega), mkf_mark]

theorem LentT.row {w : World} {base g cap n : Nat} {f : Nat → Int} (h : LentT w base g cap n f) : TRow w (some ⟨g, 0, none⟩) n f := fun _ => ⟨g, 0, rfl, fun i hi => by rw [Nat.zero_add]; exact h.lies.2.2.2.1 i hi⟩

theorem LentT.below {w w' : World} {base g cap n : Nat} {f : Nat → Int} (h : LentT w base g cap n f) (hB : Below w.heap.size w w') : LentT w' base g cap n f :=
  ownsRow_keep h (fun g' hg => hB.block g' (by simp only [Value.ownBlock, Option.some.injEq] at hg; subst hg; exact h.lies.2.2.1))

set_option maxRecDepth 100000 in
set_option maxHeartbeats 4000000 in
theorem lendT_some (ad : Addr) (n cap0 : Nat) (f : Nat → Int) (w : World) (hn2 : n ≤ 1000000) (hnews : ∀ j u, (timesV n f)[j]? = some u → w.cell? (ad.add j) = some u) :
    Calls Tryz.prog 13 #[.slice (some ad) n cap0] w fun e w' => ∃ g cap, e = .returned (.slice (some ⟨g, 0, none⟩) n cap) ∧ LentT w' w.heap.size g cap n f ∧ Below w.heap.size w w' := by
  obtain ⟨i5, hi5⟩ := info64
  have Hi : Hid (Tryz.prog.info? 2 = some i5 ∧ i5.zero = some (.int .i64 0) ∧ i5.size = 1 ∧ i5.bytes = 8) := hi5
  have Hn : Hid (n ≤ 1000000) := hn2
  have HN : Hid (∀ j u, (timesV n f)[j]? = some u → w.cell? (ad.add j) = some u) := hnews
  clear hi5 hnews
  obtain ⟨n9, hn9⟩ : ∃ n9 : Nat, (n : Int) + 9 = (n9 : Int) := ⟨n + 9, by omega⟩
  go_enter Tryz.func13, Tryz.ntmps13
  go_wp2_with (at_make; refine wpList_make_own _ rfl _ _ _ rfl w.heap.size 2 i5 (.int .i64 0) 1 Tryz.underlying54 Hi.out.1 Hi.out.2.1 Hi.out.2.2.1 .i64 .i64 (n9 : Int) n9 rfl (by simp [Act.eval]) rfl (by rw [Hi.out.2.2.2]; omega) (by unfold maxLen; omega) (Nat.le_refl _) ?_)
  intro w1 ho1 hg1
  have B1 : Below w.heap.size w w1 := grown_below hg1 (fun g hg => by simp at hg) (Nat.le_refl _)
  have z1 : w.heap.size < w1.heap.size := (ho1.lt w.heap.size rfl).2
  have HO1 : Hid (w1.ownsRow w.heap.size 2 1 (.slice (some ⟨w.heap.size, 0, none⟩) 0 n9) 0 [] ∧ Below w.heap.size w w1) := ⟨ho1, B1⟩
  clear ho1 hg1 B1
  go_wp2_with (at_builtin; refine wpList_append_own _ rfl _ _ _ rfl w.heap.size 2 i5 (.int .i64 0) 1 8 Tryz.underlying54 Hi.out.1 Hi.out.2.1 Hi.out.2.2.1 Hi.out.2.2.2 rfl (by decide) (.slice (some ⟨w.heap.size, 0, none⟩) 0 n9) 0 [] rfl HO1.out.1 ad n cap0 (timesV n f) rfl ?c2 ?c3 (timesV_cell n f) ?c4 ?c5 ?c7 ?c6)
  case c2 => rw [Nat.mul_one, timesV_length]
  case c3 => intro j u hj; have h := HN.out j u hj; rw [HO1.out.2.cell (block_lt_of_cell h)]; exact h
  case c4 => unfold maxLen; omega
  case c5 => omega
  case c7 => omega
  case c6 =>
    intro v2 w2 ho2 hg2 _
    have B2 : Below w.heap.size w1 w2 := grown_below hg2 (fun g hg => by simp [Value.ownBlock] at hg; omega) (by omega)
    have HS2 : Hid (LendTSt w n f 0 v2 w2) := ⟨by rw [Nat.add_zero, timesV_mkf]; simpa using ho2, HO1.out.2.trans B2, Nat.lt_of_lt_of_le z1 B2.size⟩
    clear ho2 hg2 B2 HO1 HN z1
    go_wp2_with fail
    go_loopw [3, 4] (fun t3 t4 wr => ∃ i : Nat, i ≤ 9 ∧ t4 = .int .i64 i ∧ Hid (LendTSt w n f i t3 wr)) (fun _ t4 _ => 9 - (intOf t4).toNat)
    case atStart => exact ⟨0, by omega, rfl, HS2⟩
    case round =>
      obtain ⟨i, hi, rfl, HS⟩ := hrel
      by_cases hlt : i < 9
      · have hlt' : (i : Int) < 9 := by omega
        go_wp2_with (at_builtin; refine wpList_append_lies _ rfl _ _ _ rfl w.heap.size 2 i5 (.int .i64 0) 1 8 Tryz.underlying54 Hi.out.1 Hi.out.2.1 Hi.out.2.2.1 Hi.out.2.2.2 rfl (by decide) _ (n + i) (timesV (n + i) (mkf n f)) rfl (HS.out.1.alloc _) ⟨wr.heap.size, 0, none⟩ 1 1 [.int .i64 (-777)] rfl rfl ?d2 ?d3 (by decide) ?d4 ?d5 ?d7 _ rfl ?d6)
        case d2 => intro j u hj; exact cell_new1 wr _ 2 j u hj
        case d3 => intro u hu; simp at hu; subst hu; rfl
        case d4 => have := Hn.out; unfold maxLen; omega
        case d5 => have := Hn.out; omega
        case d7 => have := HS.out.2.2; simp; omega
        case d6 =>
          intro g cap w4 ho4 hg4 hat4 hlt4
          have B4 : Below w.heap.size wr w4 := ((Below.refl _ _).alloc (by have := HS.out.2.2; omega) _).trans (grown_below hg4 (fun g hg => (HS.out.1.lt g hg).1) (by have := HS.out.2.2; simp; omega))
          have HS4 : Hid (LendTSt w n f (i + 1) (.slice (some ⟨g, 0, none⟩) (n + i + 1) cap) w4) := by
            refine ⟨?_, HS.out.2.1.trans B4, Nat.lt_of_lt_of_le HS.out.2.2 B4.size⟩
            rw [← Nat.add_assoc, timesV_succ, mkf_mark]
            exact ho4
          clear ho4 hg4 hat4 hlt4 B4 HS
          go_wp2_with fail
          go_roundw
          case rel => exact ⟨i + 1, by omega, by go_num, HS4⟩
          case measure => simp [intOf]; omega
      · have hi9 : i = 9 := by omega
        subst hi9
        obtain ⟨g, cap, hv, hg, hgs⟩ := HS.out.1.form (by omega)
        have hcap : n + 9 ≤ cap := by
          rcases HS.out.1.2 with ⟨h, _⟩ | ⟨g', cap', cur, h, _, _, h2, _⟩
          · rw [hv] at h; simp at h
          · rw [hv] at h; simp only [Value.slice.injEq] at h; omega
        have hnc : n ≤ cap := by omega
        have HF : Hid (LentT wr w.heap.size g cap n f ∧ Below w.heap.size w wr) := ⟨by have := HS.out.1; rw [hv] at this; exact this, HS.out.2.1⟩
        clear HS
        subst hv
        go_wp2_with fail
        go_ret
        exact ⟨g, cap, rfl, HF.out⟩

set_option maxRecDepth 100000 in
set_option maxHeartbeats 4000000 in
theorem lendT_none (f : Nat → Int) (w : World) :
    Calls Tryz.prog 13 #[.slice none 0 0] w fun e w' => ∃ g cap, e = .returned (.slice (some ⟨g, 0, none⟩) 0 cap) ∧ LentT w' w.heap.size g cap 0 f ∧ Below w.heap.size w w' := by
  obtain ⟨i5, hi5⟩ := info64
  have Hi : Hid (Tryz.prog.info? 2 = some i5 ∧ i5.zero = some (.int .i64 0) ∧ i5.size = 1 ∧ i5.bytes = 8) := hi5
  have Hn : Hid (0 ≤ 1000000) := Nat.zero_le _
  clear hi5
  go_enter Tryz.func13, Tryz.ntmps13
  go_wp2_with (at_make; refine wpList_make_own _ rfl _ _ _ rfl w.heap.size 2 i5 (.int .i64 0) 1 Tryz.underlying54 Hi.out.1 Hi.out.2.1 Hi.out.2.2.1 .i64 .i64 (9 : Int) 9 rfl (by simp [Act.eval]) rfl (by rw [Hi.out.2.2.2]; omega) (by unfold maxLen; omega) (Nat.le_refl _) ?_)
  intro w1 ho1 hg1
  have B1 : Below w.heap.size w w1 := grown_below hg1 (fun g hg => by simp at hg) (Nat.le_refl _)
  have z1 : w.heap.size < w1.heap.size := (ho1.lt w.heap.size rfl).2
  have HO1 : Hid (w1.ownsRow w.heap.size 2 1 (.slice (some ⟨w.heap.size, 0, none⟩) 0 9) 0 [] ∧ Below w.heap.size w w1) := ⟨ho1, B1⟩
  clear ho1 hg1 B1
  go_wp2_with (at_builtin; refine wpList_append_own_none rfl _ _ _ rfl w.heap.size 2 i5 1 Tryz.underlying54 Hi.out.1 (.slice (some ⟨w.heap.size, 0, none⟩) 0 9) 0 [] rfl HO1.out.1 rfl ?c6)
  have HS2 : Hid (LendTSt w 0 f 0 (.slice (some ⟨w.heap.size, 0, none⟩) 0 9) w1) := ⟨by simpa [timesV] using HO1.out.1, HO1.out.2, z1⟩
  clear HO1 z1
  go_loopw [3, 4] (fun t3 t4 wr => ∃ i : Nat, i ≤ 9 ∧ t4 = .int .i64 i ∧ Hid (LendTSt w 0 f i t3 wr)) (fun _ t4 _ => 9 - (intOf t4).toNat)
  case atStart => exact ⟨0, by omega, rfl, HS2⟩
  case round =>
    obtain ⟨i, hi, rfl, HS⟩ := hrel
    by_cases hlt : i < 9
    · have hlt' : (i : Int) < 9 := by omega
      go_wp2_with (at_builtin; refine wpList_append_lies _ rfl _ _ _ rfl w.heap.size 2 i5 (.int .i64 0) 1 8 Tryz.underlying54 Hi.out.1 Hi.out.2.1 Hi.out.2.2.1 Hi.out.2.2.2 rfl (by decide) _ (0 + i) (timesV (0 + i) (mkf 0 f)) rfl (HS.out.1.alloc _) ⟨wr.heap.size, 0, none⟩ 1 1 [.int .i64 (-777)] rfl rfl ?d2 ?d3 (by decide) ?d4 ?d5 ?d7 _ rfl ?d6)
      case d2 => intro j u hj; exact cell_new1 wr _ 2 j u hj
      case d3 => intro u hu; simp at hu; subst hu; rfl
      case d4 => have := Hn.out; unfold maxLen; omega
      case d5 => have := Hn.out; omega
      case d7 => have := HS.out.2.2; simp; omega
      case d6 =>
        intro g cap w4 ho4 hg4 hat4 hlt4
        have B4 : Below w.heap.size wr w4 := ((Below.refl _ _).alloc (by have := HS.out.2.2; omega) _).trans (grown_below hg4 (fun g hg => (HS.out.1.lt g hg).1) (by have := HS.out.2.2; simp; omega))
        have HS4 : Hid (LendTSt w 0 f (i + 1) (.slice (some ⟨g, 0, none⟩) (i + 1) cap) w4) := by
          refine ⟨?_, HS.out.2.1.trans B4, Nat.lt_of_lt_of_le HS.out.2.2 B4.size⟩
          rw [← Nat.add_assoc, timesV_succ, mkf_mark]
          simp only [Nat.zero_add]
          exact ho4
        clear ho4 hg4 hat4 hlt4 B4 HS
        go_wp2_with fail
        go_roundw
        case rel => exact ⟨i + 1, by omega, by go_num, HS4⟩
        case measure => simp [intOf]; omega
    · have hi9 : i = 9 := by omega
      subst hi9
      obtain ⟨g, cap, hv, hg, hgs⟩ := HS.out.1.form (by omega)
      have hcap : 0 + 9 ≤ cap := by
        rcases HS.out.1.2 with ⟨h, _⟩ | ⟨g', cap', cur, h, _, _, h2, _⟩
        · rw [hv] at h; simp at h
        · rw [hv] at h; simp only [Value.slice.injEq] at h; omega
      have hnc : 0 ≤ cap := by omega
      have HF : Hid (LentT wr w.heap.size g cap 0 f ∧ Below w.heap.size w wr) := ⟨by have := HS.out.1; rw [hv] at this; exact this, HS.out.2.1⟩
      clear HS
      subst hv
      go_wp2_with fail
      go_ret
      exact ⟨g, cap, rfl, HF.out⟩

theorem lendT_any (p : Option Addr) (n cap0 : Nat) (f : Nat → Int) (w : World) (h : TRow w p n f) (hp : p = none → cap0 = 0) (hn2 : n ≤ 1000000) :
    Calls Tryz.prog 13 #[.slice p n cap0] w fun e w' => ∃ g cap, e = .returned (.slice (some ⟨g, 0, none⟩) n cap) ∧ LentT w' w.heap.size g cap n f ∧ Below w.heap.size w w' := by
  cases p with
  | none =>
    have h0 : n = 0 := by
      rcases Nat.eq_zero_or_pos n with h0 | h0
      · exact h0
      · obtain ⟨b, o, hp, _⟩ := h h0; cases hp
    subst h0
    rw [hp rfl]
    exact lendT_none f w
  | some ad =>
    refine lendT_some ad n cap0 f w hn2 fun j u hj => ?_
    have hjn : j < n := by
      rcases Nat.lt_or_ge j n with h1 | h1
      · exact h1
      · rw [List.getElem?_eq_none (by rw [timesV_length]; exact h1)] at hj; cases hj
    obtain ⟨b, o, hb, hc⟩ := h (by omega)
    rw [timesV_get hjn] at hj
    cases hj
    cases hb
    have h2 := hc j hjn
    by_cases hj0 : j = 0
    · subst hj0; simpa [Addr.add] using h2
    · simpa [Addr.add, hj0] using h2

set_option maxRecDepth 100000 in
set_option maxHeartbeats 4000000 in
theorem backT_any (base g cap n : Nat) (p : Option Addr) (cap0 : Nat) (f : Nat → Int) (w : World) (hn2 : n ≤ 1000000) (hL : LentT w base g cap n f) (hv : TRow w p n f) :
    Calls Tryz.prog 15 #[.slice (some ⟨g, 0, none⟩) n cap, .slice p n cap0] w fun e w' => e = .returned (.bool true) ∧ ∃ m, w' = w.drewN m := by
  have hcap : n + 9 ≤ cap := hL.lies.1
  obtain ⟨n9, hn9⟩ : ∃ n9 : Nat, (n : Int) + 9 = (n9 : Int) := ⟨n + 9, by omega⟩
  have hn7 : n9 ≤ cap := by omega
  have HL : Hid ((∀ i, i < n → w.cell? ⟨g, i, none⟩ = some (.int .i64 (f i))) ∧ ∀ i, i < 9 → w.cell? ⟨g, n + i, none⟩ = some (.int .i64 (-777))) := ⟨hL.lies.2.2.2.1, hL.lies.2.2.2.2.1⟩
  have HV := hide hv
  clear hL hv
  go_enter Tryz.func15, Tryz.ntmps15
  go_wp2_with fail
  go_loopw [5] (fun t5 wr => ∃ i : Nat, i ≤ n ∧ t5 = .int .i64 i ∧ Hid (∃ m, wr = w.drewN m)) (fun t5 _ => n - (intOf t5).toNat)
  case atStart => exact ⟨0, by omega, rfl, ⟨0, rfl⟩⟩
  case round =>
    obtain ⟨i, hi, rfl, Hm⟩ := hrel
    by_cases hlt : i < n
    · have hlt' : (i : Int) < (n : Int) := by omega
      obtain ⟨b, o, rfl, hc⟩ := HV.out (by omega)
      have hc1 : wr.cell? ⟨g, i, none⟩ = some (.int .i64 (f i)) := by obtain ⟨m, rfl⟩ := Hm.out; exact HL.out.1 i hlt
      have hc2 : wr.cell? ⟨b, o + i, none⟩ = some (.int .i64 (f i)) := by obtain ⟨m, rfl⟩ := Hm.out; exact hc i hlt
      clear hc
      go_wp2_with fail
      go_quiet (fail)
      go_wp2_with fail
      refine ⟨⟨i + 1, by omega, by go_num, ?_⟩, by simp [intOf]; omega⟩
      obtain ⟨m, rfl⟩ := Hm.out
      exact ⟨m + nq, World.drewN_drewN _ _ _⟩
    · have hin : i = n := by omega
      subst hin
      go_wp2_with fail
      go_loopw [7] (fun t7 wr => ∃ k : Nat, k ≤ n9 ∧ i ≤ k ∧ t7 = .int .i64 k ∧ Hid (∃ m, wr = w.drewN m)) (fun t7 _ => n9 - (intOf t7).toNat)
      case atStart => exact ⟨i, by omega, by omega, rfl, Hm⟩
      case round =>
        obtain ⟨k, hk, hik, rfl, Hm2⟩ := hrel
        by_cases hlt : k < n9
        · have hlt' : (k : Int) < (n9 : Int) := by omega
          have hc1 : wr.cell? ⟨g, k, none⟩ = some (.int .i64 (-777)) := by
            obtain ⟨m, rfl⟩ := Hm2.out
            have h := HL.out.2 (k - i) (by omega)
            rwa [show i + (k - i) = k by omega] at h
          go_wp2_with fail
          exact ⟨⟨k + 1, by omega, by omega, by go_num, Hm2⟩, by simp [intOf]; omega⟩
        · go_wp2_with fail
          go_ret
          exact ⟨rfl, Hm2.out⟩

set_option maxRecDepth 100000 in
set_option maxHeartbeats 4000000 in
theorem overT_any (base g cap n : Nat) (f : Nat → Int) (w : World) (hn2 : n ≤ 1000000) (hL : LentT w base g cap n f) :
    Calls Tryz.prog 16 #[.slice (some ⟨g, 0, none⟩) n cap] w fun e w' => e = .returned (.tuple #[]) ∧ Only g 0 n w w' := by
  have HL : Hid (∀ i, i < n → ∃ y : Int, w.cell? ⟨g, i, none⟩ = some (.int .i64 y)) := fun i hi => ⟨_, hL.lies.2.2.2.1 i hi⟩
  have HF : Hid (∀ i, w.frozen? ⟨g, i, none⟩ = false) := hL.lies.2.2.2.2.2
  clear hL
  go_enter Tryz.func16, Tryz.ntmps16
  go_wp2_with fail
  go_loopw [2] (fun t2 wr => ∃ i : Nat, i ≤ n ∧ t2 = .int .i64 i ∧ Hid (Only g 0 n w wr ∧ ∀ i, i < n → ∃ y : Int, wr.cell? ⟨g, i, none⟩ = some (.int .i64 y))) (fun t2 _ => n - (intOf t2).toNat)
  case atStart => exact ⟨0, by omega, rfl, ⟨Only.refl _ _ _ _, HL.out⟩⟩
  case round =>
    obtain ⟨i, hi, rfl, HS⟩ := hrel
    by_cases hlt : i < n
    · have hlt' : (i : Int) < (n : Int) := by omega
      obtain ⟨y, hc⟩ := HS.out.2 i hlt
      have hf : wr.frozen? ⟨g, i, none⟩ = false := by rw [HS.out.1.frozen]; exact HF.out i
      have HS2 : Hid (Only g 0 n w (wr.setCell ⟨g, i, none⟩ (.int .i64 (-778))) ∧ ∀ j, j < n → ∃ y : Int, (wr.setCell ⟨g, i, none⟩ (.int .i64 (-778))).cell? ⟨g, j, none⟩ = some (.int .i64 y)) := by
        refine ⟨HS.out.1.setCell i (by omega) hlt _, fun j hj => ?_⟩
        by_cases hji : j = i
        · subst hji; exact ⟨-778, cell_setCell_eq _ _ _ _ _ hc⟩
        · rw [cell_setCell_ne _ _ _ _ _ hji]; exact HS.out.2 j hj
      clear HS
      go_wp2_with fail
      exact ⟨⟨i + 1, by omega, by go_num, HS2⟩, by simp [intOf]; omega⟩
    · go_wp2_with fail
      go_end0
      exact ⟨rfl, HS.out.1⟩

end Go.Proofs.YtangjkhflgkkdaaGreat

namespace Go.Proofs.YtangjkhflgkkdaaGreat
open Go.RowKit
open M
set_option linter.unusedVariables false

/-- A row of bytes of one's own, from block B on. -/
def BSt (B : Nat) (w0 : World) (ys : List Nat) (v : Value) (wr : World) : Prop := wr.ownsRow B 5 1 v ys.length (bytesV ys) ∧ Below B w0 wr ∧ B ≤ w0.heap.size

theorem BSt.next {B : Nat} {w0 wr w4 : World} {ys : List Nat} {g cap : Nat} {v : Value} {y : Nat} (h : BSt B w0 ys v wr)
    (ho : w4.ownsRow B 5 1 (.slice (some ⟨g, 0, none⟩) (ys.length + 1) cap) (ys.length + 1) (bytesV ys ++ [.int .u8 (y : Int)]))
    (hg : (wr.alloc (.cells #[.int .u8 (y : Int)] 5)).grownBy w4 v.ownBlock) : BSt B w0 (ys ++ [y]) (.slice (some ⟨g, 0, none⟩) (ys.length + 1) cap) w4 := by
  have hs := h.2.1.size
  have h3 := h.2.2
  exact ⟨by simpa [bytesV] using ho, (h.2.1.alloc (Nat.le_trans h3 hs) _).trans (grown_below hg (fun g hg => (h.1.lt g hg).1) (by simp; omega)), h3⟩

theorem BSt.bytes {B : Nat} {w0 wr : World} {ys : List Nat} {v : Value} (h : BSt B w0 ys v wr) : (v = .slice none 0 0 ∧ ys = []) ∨ ∃ g cap, v = .slice (some ⟨g, 0, none⟩) ys.length cap ∧ B ≤ g ∧ g < wr.heap.size ∧ (∀ i, i < ys.length → wr.cell? ⟨g, i, none⟩ = some (.int .u8 (ys.getD i 0 : Nat))) ∧ ∀ i, wr.frozen? ⟨g, i, none⟩ = false := by
  rcases h.1.2 with ⟨h1, h2⟩ | ⟨g, cap2, cur, h1, hb, hg, hc2, hm2, hs, ht⟩
  · exact .inl ⟨h1, List.length_eq_zero_iff.1 h2⟩
  · refine .inr ⟨g, cap2, h1, hb, ?_, fun i hi => ?_, fun i => frozen_of_row _ _ _ _ _ hg⟩
    · rcases Nat.lt_or_ge g wr.heap.size with hlt | hge
      · exact hlt
      · rw [Array.getElem?_eq_none hge] at hg; cases hg
    · have e : (bytesV ys)[i]? = some (.int .u8 (ys.getD i 0 : Nat)) := by simp [bytesV, List.getD, hi]
      rw [cell_of_row wr g i cur _ (0, 0) hg, ← e, ← ht, List.getElem?_take, if_pos (by omega)]
      simp

theorem BSt.isBytes {B : Nat} {w0 wr : World} {ys : List Nat} {v : Value} (h : BSt B w0 ys v wr) : IsBytes wr v ys := by
  rcases h.bytes with h | ⟨g, cap, h1, _, _, h2, _⟩
  · exact .inl h
  · exact .inr ⟨g, 0, cap, h1, fun i hi => by rw [Nat.zero_add]; exact h2 i hi⟩

/-- Bytes that lie in a block of their own, from block B on. -/
def OwnB (B : Nat) (w : World) (v : Value) (ys : List Nat) : Prop := IsBytes w v ys ∧ (∀ x ∈ ys, x < 256) ∧ ∀ ad n cap, v = .slice (some ad) n cap → B ≤ ad.block ∧ ad.block < w.heap.size

theorem xor1_u8 : ∀ y : Fin 256, bits BinOp.xor IntKind.u8 (y.val : Int) 1 = ((if y.val % 2 = 0 then y.val + 1 else y.val - 1 : Nat) : Int) := by decide +kernel

theorem xor1_ex (y : Nat) (hy : y < 256) : ∃ z : Nat, z < 256 ∧ bits BinOp.xor IntKind.u8 (y : Int) 1 = (z : Int) := ⟨_, by split <;> omega, xor1_u8 ⟨y, hy⟩⟩

/-- Where n bytes lie. -/
theorem IsBy.at {w : World} {v : Value} {bs : List Nat} (h : IsBy w v bs) : ∃ p cap, v = .slice p bs.length cap ∧ (0 < bs.length → ∃ b o, p = some ⟨b, o, none⟩ ∧ ∀ i, i < bs.length → w.cell? ⟨b, o + i, none⟩ = some (.int .u8 (bs.getD i 0 : Nat))) := by
  rcases h with (⟨rfl, rfl⟩ | ⟨g, o, cap, rfl, hc⟩) | ⟨ad, cap, rfl, rfl⟩
  · exact ⟨none, 0, rfl, fun h => by simp at h⟩
  · exact ⟨_, cap, rfl, fun _ => ⟨g, o, rfl, hc⟩⟩
  · exact ⟨_, cap, rfl, fun h => by simp at h⟩

set_option maxRecDepth 100000 in
set_option maxHeartbeats 4000000 in
theorem other_any (v : Value) (bs : List Nat) (w : World) (h : IsBy w v bs) (hb : ∀ x ∈ bs, x < 256) (hn : bs.length ≤ 1000000) :
    Calls Tryz.prog 9 #[v] w fun e w' => ∃ r ys, e = .returned r ∧ ys.length = bs.length ∧ OwnB w.heap.size w' r ys ∧ Below w.heap.size w w' := by
  obtain ⟨i5, hi5⟩ := info5
  have Hi : Hid (Tryz.prog.info? 5 = some i5 ∧ i5.zero = some (.int .u8 0) ∧ i5.size = 1 ∧ i5.bytes = 1) := hi5
  obtain ⟨p, cap0, rfl, hat⟩ := h.at
  obtain ⟨n, hn'⟩ : ∃ n, bs.length = n := ⟨_, rfl⟩
  rw [hn'] at hat hn h
  have HV : Hid (IsBy w (.slice p n cap0) bs) := h
  have HA := hide hat
  have HB := hide hb
  have HN : Hid (bs.length = n) := hn'
  rw [hn']
  clear hat hb h hi5 hn'
  go_enter Tryz.func9, Tryz.ntmps9
  go_wp2_with fail
  go_loopw [3, 4] (fun t3 t4 wr => ∃ ys : List Nat, ys.length ≤ n ∧ t4 = .int .i64 ((n : Int) - 1 - (ys.length : Int)) ∧ Hid (BSt w.heap.size w ys t3 wr ∧ ∀ x ∈ ys, x < 256)) (fun _ t4 _ => (intOf t4 + 1).toNat)
  case atStart => exact ⟨[], by simp, by simp, ⟨⟨⟨rfl, .inl ⟨rfl, rfl⟩⟩, Below.refl _ _, Nat.le_refl _⟩, by simp⟩⟩
  case round =>
    obtain ⟨ys, hi, rfl, HS⟩ := hrel
    by_cases hlt : ys.length < n
    · obtain ⟨b, o, rfl, hc⟩ := HA.out (by omega)
      obtain ⟨k, hk⟩ : ∃ k : Nat, (n : Int) - 1 - (ys.length : Int) = (k : Int) := ⟨n - 1 - ys.length, by omega⟩
      have hkn : k < n := by omega
      have hc1 : wr.cell? ⟨b, o + k, none⟩ = some (.int .u8 (bs.getD k 0 : Nat)) := by
        rw [HS.out.1.2.1.cell (p := ⟨b, o + k, none⟩) (block_lt_of_cell (hc k (by omega)))]; exact hc k (by omega)
      have hy : bs.getD k 0 < 256 := by
        have hkl : k < bs.length := by have := HN.out; omega
        rw [List.getD_eq_getElem?_getD, List.getElem?_eq_getElem hkl]; exact HB.out _ (List.getElem_mem hkl)
      generalize bs.getD k 0 = y at *
      rw [hk]
      clear hc
      go_wp2_with (at_builtin; refine wpList_append_lies _ rfl _ _ _ rfl w.heap.size 5 i5 (.int .u8 0) 1 1 Tryz.underlying57 Hi.out.1 Hi.out.2.1 Hi.out.2.2.1 Hi.out.2.2.2 rfl (by decide) _ ys.length (bytesV ys) rfl (HS.out.1.1.alloc _) ⟨wr.heap.size, 0, none⟩ 1 1 [.int .u8 (y : Int)] rfl rfl ?d2 ?d3 (by decide) ?d4 ?d5 ?d7 _ rfl ?d6)
      case d2 => intro j u hj; exact cell_new1 wr _ 5 j u hj
      case d3 => intro u hu; simp at hu; subst hu; rfl
      case d4 => unfold maxLen; omega
      case d5 => omega
      case d7 => have := HS.out.1.2.1.size; simp; omega
      case d6 =>
        intro g cap w4 ho4 hg4 hat4 hlt4
        have HS4 : Hid (BSt w.heap.size w (ys ++ [y]) (.slice (some ⟨g, 0, none⟩) (ys.length + 1) cap) w4 ∧ ∀ x ∈ ys ++ [y], x < 256) := ⟨HS.out.1.next ho4 hg4, fun x hx => by
          rcases List.mem_append.1 hx with h | h
          · exact HS.out.2 x h
          · simp at h; omega⟩
        clear ho4 hg4 hat4 hlt4 HS
        go_wp2_with fail
        go_roundw
        case rel => exact ⟨ys ++ [y], by simp; omega, by simp; omega, HS4⟩
        case measure => simp [intOf]
    · have hin : ys.length = n := by omega
      rcases Nat.eq_zero_or_pos n with h0 | h0
      · subst h0
        rcases HS.out.1.bytes with ⟨rfl, h1⟩ | ⟨g, c, rfl, h2, h3, h4, h5⟩
        · have HF : Hid (OwnB w.heap.size wr (.slice none 0 0) ys ∧ Below w.heap.size w wr) := ⟨⟨HS.out.1.isBytes, HS.out.2, fun ad n cap hv => by cases hv⟩, HS.out.1.2.1⟩
          clear HS
          go_wp2_with fail
          go_ret
          exact ⟨_, ys, rfl, hin, HF.out⟩
        · have HF : Hid (OwnB w.heap.size wr (.slice (some ⟨g, 0, none⟩) ys.length c) ys ∧ Below w.heap.size w wr) := ⟨⟨HS.out.1.isBytes, HS.out.2, fun ad n cap hv => by cases hv; exact ⟨h2, h3⟩⟩, HS.out.1.2.1⟩
          clear HS
          go_wp2_with fail
          go_ret
          exact ⟨_, ys, rfl, hin, HF.out⟩
      · rcases HS.out.1.bytes with ⟨_, h1⟩ | ⟨g, c, rfl, h2, h3, h4, h5⟩
        · subst h1; simp at hin; omega
        · have hc1 := convert_bytes wr _ ys HS.out.1.isBytes
          have hc2 := convert_by wr _ bs (isBy_below HV.out HS.out.1.2.1)
          rw [hin] at hc1
          rw [hin]
          have HF : Hid (OwnB w.heap.size wr (.slice (some ⟨g, 0, none⟩) n c) ys ∧ Below w.heap.size w wr) := ⟨⟨by have := HS.out.1.isBytes; rwa [hin] at this, HS.out.2, fun ad n cap hv => by cases hv; exact ⟨h2, h3⟩⟩, HS.out.1.2.1⟩
          have h0' : (0 : Int) < (n : Int) := by omega
          obtain ⟨k, hk⟩ : ∃ k : Nat, (n : Int) - 1 = (k : Int) := ⟨n - 1, by omega⟩
          have hkn : k < n := by omega
          have hki : (k : Int) < (n : Int) := by omega
          have hck := h4 k (by omega)
          have hfk := h5 k
          have hy : ys.getD k 0 < 256 := by
            have hkl : k < ys.length := by omega
            rw [List.getD_eq_getElem?_getD, List.getElem?_eq_getElem hkl]; exact HS.out.2 _ (List.getElem_mem hkl)
          have H4 := hide h4
          have HY := hide HS.out.2
          clear HS h4 h5
          generalize strOf ys = s1 at *
          generalize strOf bs = s2 at *
          by_cases heq : (s1.toList == s2.toList) = true
          · obtain ⟨y, hyy⟩ : ∃ y, ys.getD k 0 = y := ⟨_, rfl⟩
            rw [hyy] at hck hy
            obtain ⟨z, hz, hxz⟩ := xor1_ex y hy
            · have HZ : Hid (OwnB w.heap.size (wr.setCell ⟨g, k, none⟩ (.int .u8 (z : Int))) (.slice (some ⟨g, 0, none⟩) n c) (ys.set k z) ∧ Below w.heap.size w (wr.setCell ⟨g, k, none⟩ (.int .u8 (z : Int)))) := by
                have hO : Only g 0 n wr (wr.setCell ⟨g, k, none⟩ (.int .u8 (z : Int))) := (Only.refl _ _ _ _).setCell k (by omega) hkn _
                refine ⟨⟨.inr ⟨g, 0, c, by simp [hin], fun i hi => ?_⟩, fun x hx => ?_, fun ad n cap hv => ?_⟩, HF.out.2.trans (hO.below h2 HF.out.2.size)⟩
                · have hi' : i < ys.length := by simpa using hi
                  rw [Nat.zero_add]
                  by_cases hik : i = k
                  · subst hik
                    rw [cell_setCell_eq _ _ _ _ _ hck]; simp [List.getD, hi']
                  · rw [cell_setCell_ne _ _ _ _ _ hik, H4.out i hi']
                    simp [List.getD, List.getElem?_set_ne (Ne.symm hik)]
                · rcases List.mem_or_eq_of_mem_set hx with h | h
                  · exact HY.out x h
                  · omega
                · cases hv; exact ⟨h2, Nat.lt_of_lt_of_le h3 hO.size⟩
              have HX := hide hxz
              clear hxz
              go_wp2_with fail
              go_ret
              refine ⟨_, ys.set k z, rfl, by simpa using hin, ?_⟩
              rw [HX.out]
              exact HZ.out
          · have heq' : (s1.toList == s2.toList) = false := by simpa using heq
            clear heq
            go_wp2_with fail
            go_ret
            exact ⟨_, ys, rfl, hin, HF.out⟩

set_option maxRecDepth 100000 in
set_option maxHeartbeats 4000000 in
theorem into_any (base g cap n : Nat) (v : Value) (bs ys : List Nat) (w : World) (hn : n = bs.length) (hn2 : n ≤ 1000000) (hL : Lent w base g cap bs) (hv : OwnB (g + 1) w v ys) (hy : ys.length = bs.length) :
    Calls Tryz.prog 10 #[.slice (some ⟨g, 0, none⟩) n cap, v] w fun e w' => e = .returned (.tuple #[]) ∧ Only g 0 n w w' ∧ IsBytes w' (.slice (some ⟨g, 0, none⟩) n cap) ys := by
  obtain ⟨p, cap0, rfl, hat⟩ := IsBy.at (.inl hv.1)
  have hyn : ys.length = n := by omega
  rw [hyn] at hat
  have hap := hv.2.2
  rw [hyn] at hap ⊢
  have HL : Hid (∀ i, i < n → ∃ y : Int, w.cell? ⟨g, i, none⟩ = some (.int .u8 y)) := fun i hi => ⟨_, hL.byte i (by omega)⟩
  have HF : Hid (∀ i, w.frozen? ⟨g, i, none⟩ = false) := hL.free
  have HA : Hid (0 < n → ∃ b o, g ≠ b ∧ p = some ⟨b, o, none⟩ ∧ ∀ i, i < n → w.cell? ⟨b, o + i, none⟩ = some (.int .u8 (ys.getD i 0 : Nat))) := fun h0 => by
    obtain ⟨b, o, hp, hc⟩ := hat h0
    refine ⟨b, o, ?_, hp, hc⟩
    have := (hap _ _ _ (by rw [hp])).1
    simp at this
    omega
  clear hL hat hv hap hn hy
  go_enter Tryz.func10, Tryz.ntmps10
  go_wp2_with fail
  go_loopw [4] (fun t4 wr => ∃ i : Nat, i ≤ n ∧ t4 = .int .i64 i ∧ Hid (Only g 0 n w wr ∧ (∀ j, j < n → ∃ y : Int, wr.cell? ⟨g, j, none⟩ = some (.int .u8 y)) ∧ ∀ j, j < i → wr.cell? ⟨g, j, none⟩ = some (.int .u8 (ys.getD j 0 : Nat)))) (fun t4 _ => n - (intOf t4).toNat)
  case atStart => exact ⟨0, by omega, rfl, ⟨Only.refl _ _ _ _, HL.out, fun j hj => by omega⟩⟩
  case round =>
    obtain ⟨i, hi, rfl, HS⟩ := hrel
    by_cases hlt : i < n
    · have hlt' : (i : Int) < (n : Int) := by omega
      obtain ⟨b, o, hgb, rfl, hcs⟩ := HA.out (by omega)
      obtain ⟨y, hc⟩ := HS.out.2.1 i hlt
      have hc2 : wr.cell? ⟨b, o + i, none⟩ = some (.int .u8 (ys.getD i 0 : Nat)) := by
        have h := hcs i hlt
        rw [World.cell?_of_block (w := w) (HS.out.1.block b (block_lt_of_cell h) (Ne.symm hgb))]; exact h
      have hf : wr.frozen? ⟨g, i, none⟩ = false := by rw [HS.out.1.frozen]; exact HF.out i
      obtain ⟨z, hz⟩ : ∃ z, ys.getD i 0 = z := ⟨_, rfl⟩
      rw [hz] at hc2
      have HS2 : Hid (Only g 0 n w (wr.setCell ⟨g, i, none⟩ (.int .u8 (z : Int))) ∧ (∀ j, j < n → ∃ y : Int, (wr.setCell ⟨g, i, none⟩ (.int .u8 (z : Int))).cell? ⟨g, j, none⟩ = some (.int .u8 y)) ∧ ∀ j, j < i + 1 → (wr.setCell ⟨g, i, none⟩ (.int .u8 (z : Int))).cell? ⟨g, j, none⟩ = some (.int .u8 (ys.getD j 0 : Nat))) := by
        refine ⟨HS.out.1.setCell i (by omega) hlt _, fun j hj => ?_, fun j hj => ?_⟩
        · by_cases hji : j = i
          · subst hji; exact ⟨_, cell_setCell_eq _ _ _ _ _ hc⟩
          · rw [cell_setCell_ne _ _ _ _ _ hji]; exact HS.out.2.1 j hj
        · by_cases hji : j = i
          · subst hji; rw [hz]; exact cell_setCell_eq _ _ _ _ _ hc
          · rw [cell_setCell_ne _ _ _ _ _ hji]; exact HS.out.2.2 j (by omega)
      clear HS hcs hz
      go_wp2_with fail
      exact ⟨⟨i + 1, by omega, by go_num, HS2⟩, by simp [intOf]; omega⟩
    · have hin : i = n := by omega
      go_wp2_with fail
      go_end0
      exact ⟨rfl, HS.out.1, .inr ⟨g, 0, cap, by rw [hyn], fun j hj => by rw [Nat.zero_add]; exact HS.out.2.2 j (by omega)⟩⟩

end Go.Proofs.YtangjkhflgkkdaaGreat

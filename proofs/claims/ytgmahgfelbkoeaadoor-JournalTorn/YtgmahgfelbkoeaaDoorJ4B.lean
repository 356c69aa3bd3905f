/- The law's copied: rows in new memory. -/
import Derived.Test.YtgmahgfelbkoeaaDoorJ2M
namespace Go.Proofs.YtgmahgfelbkoeaaDoor
open Go.RowKit
set_option linter.unusedVariables false
set_option linter.unusedSimpArgs false

set_option maxRecDepth 100000 in
theorem copy_big (v : Value) (bs : List Nat) (w : World) (h : IsBy w v bs) (hl : bs.length ≤ 140737488355328) :
    Calls Tryd.prog 21 #[v] w fun e w' => ∃ v2, e = .returned v2 ∧ OB w.heap.size w bs v2 w' := by
  obtain ⟨i5, hi5⟩ := info5
  have Hi := hide hi5
  clear hi5
  have HO : Hid (OB w.heap.size w [] (.slice none 0 0) w) := OB.nil w
  have HO1 : Hid (w.ownsRow w.heap.size 5 1 (.slice none 0 0) 0 []) := World.ownsRow_nil _ _ _ _
  rcases by_news h with ⟨rfl, rfl⟩ | ⟨ad, cap, rfl, hnews⟩
  · clear h
    go_enter Tryd.func21, Tryd.ntmps21
    go_wp2_with (at_builtin; refine wpList_append_own_none rfl _ _ _ rfl w.heap.size 5 i5 1 Tryd.underlying38 Hi.out.1 (.slice none 0 0) 0 [] rfl HO1.out rfl ?c6)
    go_ret
    exact ⟨_, rfl, HO.out⟩
  · have HN := hide hnews
    clear h hnews
    obtain ⟨n, hn⟩ : ∃ n, bs.length = n := ⟨_, rfl⟩
    rw [hn] at hl ⊢
    have Hn := hide hn
    clear hn
    go_enter Tryd.func21, Tryd.ntmps21
    go_wp2_with (at_builtin; refine wpList_append_own _ rfl _ _ _ rfl w.heap.size 5 i5 (.int .u8 0) 1 1 Tryd.underlying38 Hi.out.1 Hi.out.2.1 Hi.out.2.2.1 Hi.out.2.2.2 rfl (by decide) (.slice none 0 0) 0 [] rfl HO1.out ad n cap (bytesV bs) rfl ?f2 ?f3 (bytesV_cell bs) ?f4 ?f5 ?f7 ?f6)
    case f2 => rw [Nat.mul_one, ← Hn.out]; simp
    case f3 => exact HN.out
    case f4 => unfold maxLen; omega
    case f5 => omega
    case f7 => omega
    case f6 =>
      intro v2 w2 ho2 hg2 _
      have HF : Hid (OB w.heap.size w bs v2 w2) := by
        have h2 := HO.out.more (cs := bs) (v2 := v2) (w4 := w2) (by simpa [Hn.out, bytesV] using ho2) hg2
        rw [List.nil_append] at h2
        exact h2
      clear ho2 hg2
      go_wp2_with fail
      go_ret
      exact ⟨_, rfl, HF.out⟩

/-- One more row of one's own. -/
theorem rows_add {lo : Nat} {wk w3 w4 : World} {v v3 v6 : Value} {n : Nat} {vals : List Value} {rs : List (List Nat)} {r : List Nat} {X : Obj} (hlo : lo ≤ wk.heap.size) (hown : wk.ownsRow lo 38 1 v n vals) (hn : n = rs.length) (hrow : RowV wk lo wk.heap.size vals rs) (hO : OB wk.heap.size wk r v3 w3)
    (ho4 : w4.ownsRow lo 38 1 v6 (n + 1) (vals ++ [v3])) (hg4 : (w3.alloc X).grownBy w4 v.ownBlock) :
    w4.ownsRow lo 38 1 v6 (rs ++ [r]).length (vals ++ [v3]) ∧ RowV w4 lo w4.heap.size (vals ++ [v3]) (rs ++ [r]) ∧ Below lo wk w4 := by
  have hb3 : Below wk.heap.size wk w3 := hO.bel
  have hsz4 : w3.heap.size ≤ w4.heap.size := Nat.le_trans (by simp) hg4.size
  have hne : ∀ k, k < w3.heap.size → (some k ≠ v.ownBlock) → w4.heap[k]? = w3.heap[k]? := fun k hk hx => (hg4.block k (by simp; omega) hx).trans (Below.heap_alloc _ _ _ hk)
  have hge : ∀ k, some k = v.ownBlock → lo ≤ k := fun k e => (hown.lt k e.symm).1
  have how3 : w3.ownsRow lo 38 1 v n vals := ownsRow_keep hown fun g hg => hb3.block g (hown.lt g hg).2
  have hty : ∀ k cs, k < w3.heap.size → w3.heap[k]? = some (.cells cs 5 (0, 0)) → w4.heap[k]? = w3.heap[k]? := fun k cs hk hc => hne k hk fun e => by
    rcases how3.2 with ⟨e1, _⟩ | ⟨g', cap, cur, e1, _, e3, _⟩
    · rw [e1] at e; simp [Value.ownBlock] at e
    · rw [e1] at e; simp [Value.ownBlock] at e; subst e; rw [hc] at e3; simp at e3
  refine ⟨by rw [List.length_append, ← hn]; exact ho4, (hrow.keep8 (w' := w4) (hi' := w4.heap.size) (fun k cs _ hk hc => ?_) (Nat.le_trans hb3.size hsz4)).more ⟨?_, fun k e => ?_⟩, hg4.os.trans hb3.os, hg4.tape.trans hb3.tape, hg4.output.trans hb3.output, Nat.le_trans hb3.size hsz4, fun k hk => ?_⟩
  · have hc3 := (hb3.block k hk).trans hc
    exact (hty k cs (Nat.lt_of_lt_of_le hk hb3.size) hc3).trans (hb3.block k hk)
  · refine isBy_keep hO.by_ fun k e => ?_
    rcases hO.own.2 with ⟨e1, _⟩ | ⟨g', cap, cur, e1, _, e3, _⟩
    · rw [e1] at e; simp [Value.ownBlock] at e
    · rw [e1] at e; simp [Value.ownBlock] at e; subst e; exact hty _ _ (heap_lt e3) e3
  · have hlt := hO.own.lt k e
    rcases hO.own.2 with ⟨e1, _⟩ | ⟨g', cap, cur, e1, _, e3, _⟩
    · rw [e1] at e; simp [Value.ownBlock] at e
    · have eg : g' = k := by rw [e1] at e; simpa [Value.ownBlock] using e
      subst eg
      exact ⟨⟨by omega, by omega⟩, cur, (hty _ _ (heap_lt e3) e3).trans e3⟩
  · have hk2 : k < wk.heap.size := by omega
    exact (hne k (Nat.lt_of_lt_of_le hk2 hb3.size) (fun e => by have := hge k e; omega)).trans (hb3.block k hk2)

theorem range_snoc (q : Nat → List Nat) (k : Nat) : (List.range (k + 1)).map q = (List.range k).map q ++ [q k] := by rw [List.range_succ, List.map_append]; rfl

set_option maxRecDepth 100000 in
set_option maxHeartbeats 1000000 in
theorem copied_any (p : Option Addr) (m cap : Nat) (q : Nat → List Nat) (w : World) (h : PartsOf w p m q) (hq : ∀ i, i < m → (q i).length ≤ 140737488355328) (hm : m ≤ 140737488355328) :
    Calls Tryd.prog 9 #[.slice p m cap] w fun e w' => ∃ v, e = .returned v ∧ RowsAt w' w.heap.size w'.heap.size v ((List.range (min m 300)).map q) ∧ Below w.heap.size w w' := by
  have H := hide h
  have HQ := hide hq
  obtain ⟨i40, hi40⟩ := info40
  have Hi := hide hi40
  clear h hq hi40
  go_enter Tryd.func9, Tryd.ntmps9
  go_wp2_with fail
  go_loopw [3, 4] (fun t3 t4 wr => ∃ (k : Nat) (pl : Option Addr) (cl : Nat), t3 = .slice pl k cl ∧ t4 = .int .i64 (k : Int) ∧ Hid (k ≤ m ∧ k ≤ 300 ∧ ∃ vals, wr.ownsRow w.heap.size 38 1 (.slice pl k cl) k vals ∧ RowV wr w.heap.size wr.heap.size vals ((List.range k).map q) ∧ Below w.heap.size w wr)) (fun _ t4 _ => 300 - (intOf t4).toNat)
  case atStart => exact ⟨0, none, 0, rfl, rfl, Nat.zero_le _, Nat.zero_le _, [], World.ownsRow_nil _ _ _ _, ⟨rfl, fun i v hv => by simp at hv⟩, Below.refl _ _⟩
  case round =>
    obtain ⟨k, pl, cl, rfl, rfl, hI⟩ := hrel
    by_cases hlt : k < m
    · have hlt' : (k : Int) < (m : Int) := by omega
      by_cases hl3 : k < 300
      · have hl3' : (k : Int) < 300 := by omega
        obtain ⟨_, _, vals, hown, hrow, hbel⟩ := hI.out
        obtain ⟨b, o, v, hp, hc, hby⟩ := (H.out.below hbel) k hlt
        subst hp
        obtain ⟨pe, ce, hv, _⟩ := by_slice hby
        obtain ⟨ne, hne⟩ : ∃ ne, (q k).length = ne := ⟨_, rfl⟩
        rw [hne] at hv
        subst hv
        have HCP := hide (copy_big _ (q k) wr hby (HQ.out k hlt))
        have HS := hide (And.intro hown (And.intro hrow hbel))
        clear hown hrow hbel hby hI
        have HNE := hide hne
        clear hne
        go_wp2_with (first
          | (go_at_call 21; refine HCP.out.mono ?_; rintro e w3 ⟨v3, rfl, hO3⟩; have HO3 := hide hO3; obtain ⟨p3, c3, hv3⟩ := hO3.slice; rw [HNE.out] at hv3; subst hv3; clear hO3)
          | (at_builtin; refine wpList_append_own_at _ rfl _ _ _ rfl w.heap.size 38 i40 (.slice none 0 0) 1 24 Tryd.underlying35 Hi.out.1 Hi.out.2.1 Hi.out.2.2.1 Hi.out.2.2.2 rfl (by decide) (.slice pl k cl) k vals rfl ((ownsRow_keep HS.out.1 fun g hg => HO3.out.bel.block g (HS.out.1.lt g hg).2).alloc _) ⟨w3.heap.size, 0, none⟩ 1 1 [.slice p3 ne c3] rfl rfl (World.news_of_block (heap_alloc_new w3 _)) ?h1 ?h4 ?h5 ?h7 ?h6))
        case h1 => intro z hz; simp at hz; subst hz; rfl
        case h4 => unfold maxLen; omega
        case h5 => omega
        case h7 => have h3 := HO3.out.bel.size; have h4 := HS.out.2.2.size; simp; omega
        case h6 =>
          intro v6 w4 ho4 hg4 _ _
          have HF : Hid (w4.ownsRow w.heap.size 38 1 v6 (k + 1) (vals ++ [.slice p3 ne c3]) ∧ RowV w4 w.heap.size w4.heap.size (vals ++ [.slice p3 ne c3]) ((List.range (k + 1)).map q) ∧ Below w.heap.size w w4) := by
            obtain ⟨e1, e2, e3⟩ := rows_add (rs := (List.range k).map q) HS.out.2.2.size HS.out.1 (by simp) HS.out.2.1 HO3.out ho4 hg4
            rw [range_snoc]
            exact ⟨ho4, e2, HS.out.2.2.trans e3⟩
          obtain ⟨p6, c6, hv6⟩ : ∃ p6 c6, v6 = .slice p6 (k + 1) c6 := by
            rcases ho4.2 with ⟨e1, e2⟩ | ⟨g', cap, cur, e1, _⟩
            · omega
            · exact ⟨_, _, e1⟩
          subst hv6
          clear ho4 hg4
          go_wp2_with fail
          go_roundw
          case rel => exact ⟨k + 1, p6, c6, rfl, by simp, by omega, by omega, _, HF.out⟩
          case measure => simp [intOf]; omega
      · have hl3' : ¬ (k : Int) < 300 := by omega
        have HF : Hid (RowsAt wr w.heap.size wr.heap.size (.slice pl k cl) ((List.range (min m 300)).map q) ∧ Below w.heap.size w wr) := by
          obtain ⟨_, h3, vals, hown, hrow, hbel⟩ := hI.out
          rw [show min m 300 = k from by omega]
          exact ⟨⟨vals, by simpa using hown, fun g hg => (hown.lt g hg).2, hrow⟩, hbel⟩
        go_wp2_with fail
        go_ret
        exact ⟨_, rfl, HF.out⟩
    · have hlt' : ¬ (k : Int) < (m : Int) := by omega
      have HF : Hid (RowsAt wr w.heap.size wr.heap.size (.slice pl k cl) ((List.range (min m 300)).map q) ∧ Below w.heap.size w wr) := by
        obtain ⟨h2, h3, vals, hown, hrow, hbel⟩ := hI.out
        rw [show min m 300 = k from by omega]
        exact ⟨⟨vals, by simpa using hown, fun g hg => (hown.lt g hg).2, hrow⟩, hbel⟩
      go_wp2_with fail
      go_ret
      exact ⟨_, rfl, HF.out⟩

end Go.Proofs.YtgmahgfelbkoeaaDoor

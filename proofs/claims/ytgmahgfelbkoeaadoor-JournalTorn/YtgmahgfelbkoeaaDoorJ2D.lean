/- slices.Concat of rows of bytes, a record's Sum. -/
import Derived.Test.YtgmahgfelbkoeaaDoorJ2B
import Derived.Lib.AppendZerosOnto
/- slices.Grow of none, slices.Concat of rows of bytes, a record's Sum. -/
namespace Go.Proofs.YtgmahgfelbkoeaaDoor
open Go.RowKit
open Go.Lib
set_option linter.unusedVariables false
set_option linter.unusedSimpArgs false

/-- The first k parts, one behind the other. -/
def catP (q : Nat → List Nat) : Nat → List Nat
  | 0 => []
  | k + 1 => catP q k ++ q k

theorem catP_le (q : Nat → List Nat) (k m : Nat) (h : k ≤ m) : (catP q k).length ≤ (catP q m).length := by
  induction m with
  | zero => rw [show k = 0 from by omega]; exact Nat.le_refl _
  | succ m ih =>
    by_cases e : k = m + 1
    · rw [e]; exact Nat.le_refl _
    · have := ih (by omega); rw [catP, List.length_append]; omega

/-- m parts in a row. -/
def PartsOf (w : World) (p : Option Addr) (m : Nat) (q : Nat → List Nat) : Prop := ∀ i, i < m → ∃ b o v, p = some ⟨b, o, none⟩ ∧ w.cell? ⟨b, o + i, none⟩ = some v ∧ IsBy w v (q i)

theorem PartsOf.below {w w' : World} {p : Option Addr} {m : Nat} {q : Nat → List Nat} (h : PartsOf w p m q) (hb : Below w.heap.size w w') : PartsOf w' p m q := fun i hi => by
  obtain ⟨b, o, v, h1, h2, h3⟩ := h i hi
  exact ⟨b, o, v, h1, by rw [hb.cell (p := ⟨b, o + i, none⟩) (World.block_lt_of_cell? _ _ h2)]; exact h2, isBy_below h3 hb⟩

/-- An append whose run is known. -/
theorem wpList_append_eq {P : Program} {w : World} {ops : Array Oper} {rest : List Oper} {o : Oper} {a : Act} {Q : Exit → Act → World → Prop} (hgd : o.guard = none) (s x : Operand) (t1 t2 : TypeId)
    (ho : o.op = .call { callee := .builtin .append, args := #[s, x], argTypes := #[t1, t2] }) (v1 v2 : Value) (hs : a.eval s = v1) (hx : a.eval x = v2) (v' : Value) (w' : World)
    (hr : ∀ ty, (Builtin.append_ #[t1, t2] ty #[v1, v2]).run P w = .ok v' w') (h : wpList P ops Q rest (a.put o.dst v') w') : wpList P ops Q (o :: rest) a w := by
  refine wpList_plain hgd fun K hK => ?_
  unfold Oper.wp execOp
  simp only [ho, resolve, invoke, builtin, Sem.run_bind, Sem.run_pure, Result.andThen_ok, List.map_toArray, List.map_cons, List.map_nil, hs, hx, hr]
  exact hK _ _ h

set_option maxRecDepth 100000 in
theorem grow_nil (w : World) (n : Nat) (hn : n ≤ 1000000000) : Calls Tryd.prog 55 #[.slice none 0 0, .int .i64 (n : Int)] w fun e w' => ∃ v, e = .returned v ∧ OB w.heap.size w [] v w' := by
  obtain ⟨i5, hi5⟩ := info5
  have hn0 : ¬ (n : Int) < 0 := by omega
  by_cases h0 : n = 0
  · subst h0
    go_enter Tryd.func55, Tryd.ntmps55
    go_wp2
    go_ret
    exact ⟨_, rfl, OB.nil w⟩
  · have hp : (0 : Int) < (n : Int) := by omega
    obtain ⟨w2, hw2⟩ : ∃ w2, w2 = w.drew.alloc (.cells (#[] ++ Builtin.zeroCells (Value.int .u8 0).cells n ++ Builtin.zeroCells (Value.int .u8 0).cells (grownCap w (0 + n) 0 5 - (0 + n))) 5) := ⟨_, rfl⟩
    obtain ⟨C, hC⟩ : ∃ C, grownCap w (0 + n) 0 5 = C := ⟨_, rfl⟩
    have hge : n ≤ C := by rw [← hC]; have := grownCap_ge w (0 + n) 0 5; omega
    have hcm : C ≤ maxLen := by rw [← hC]; exact grownCap_le_maxLen w (0 + n) 0 5 (by unfold maxLen; omega)
    have hrz : ∀ ty, (Builtin.append_ #[38, 3] ty #[.slice none 0 0, .int .i64 (n : Int)]).run Tryd.prog w = .ok (.slice (some ⟨w.heap.size, 0, none⟩) n C) w2 := fun ty => by
      have h := run_append_grow_zeros (P := Tryd.prog) w 38 3 ty 5 i5 (.int .u8 0) .i64 .i64 Tryd.underlying38 Tryd.underlying3 hi5.1 hi5.2.1 none 0 0 [] (run_firstCells_none w.drew i5.size 0 0 0) n (by omega) (by rw [hi5.2.2.1]; decide) (by omega) (by omega) (by rw [hi5.2.2.2]; omega) (by
        have := growslice_fits (need := 0 + n) (old := 0) (bytes := i5.bytes) (by omega) (by rw [hi5.2.2.2]; omega)
        exact this)
      rw [hC, Nat.zero_add] at h
      rw [hw2, hC, Nat.zero_add]
      exact h
    have HF : Hid (OB w.heap.size w [] (.slice (some ⟨w.heap.size, 0, none⟩) 0 C) w2) := by
      refine ⟨⟨rfl, .inr ⟨w.heap.size, C, _, rfl, Nat.le_refl _, by rw [hw2]; exact heap_alloc_new w.drew _, Nat.zero_le _, hcm, ?_, rfl⟩⟩, ?_, Nat.le_refl _⟩
      · rw [hC]
        simp [Builtin.zeroCells, Value.cells]
        omega
      · rw [hw2]; exact ⟨rfl, rfl, rfl, by simp, fun k hk => heap_alloc_old w.drew _ hk⟩
    clear hw2 hC
    have hCi : (0 : Int) ≤ (C : Int) := by omega
    go_enter Tryd.func55, Tryd.ntmps55
    go_wp2_with (at_builtin; refine wpList_append_eq rfl _ _ _ _ rfl (.slice none 0 0) (.int .i64 (n : Int)) rfl rfl _ w2 hrz ?_)
    go_ret
    exact ⟨_, rfl, HF.out⟩

end Go.Proofs.YtgmahgfelbkoeaaDoor

namespace Go.Proofs.YtgmahgfelbkoeaaDoor
open Go.RowKit
set_option linter.unusedVariables false
set_option linter.unusedSimpArgs false

theorem OB.slice {B : Nat} {w0 wr : World} {bs : List Nat} {v : Value} (h : OB B w0 bs v wr) : ∃ p cap, v = .slice p bs.length cap := by
  rcases h.own.2 with ⟨e1, e2⟩ | ⟨g, cap, cur, e1, _⟩
  · exact ⟨none, 0, by rw [e1, e2]⟩
  · exact ⟨_, cap, e1⟩

set_option maxRecDepth 100000 in
set_option maxHeartbeats 1000000 in
theorem concat_any (p : Option Addr) (m cap : Nat) (q : Nat → List Nat) (w : World) (h : PartsOf w p m q) (hm : m ≤ 100) (hl : (catP q m).length ≤ 1000000000) :
    Calls Tryd.prog 40 #[.slice p m cap] w fun e w' => ∃ v, e = .returned v ∧ OB w.heap.size w (catP q m) v w' := by
  obtain ⟨i5, hi5⟩ := info5
  have Hi := hide hi5
  have H := hide h
  obtain ⟨N, hN⟩ : ∃ N, (catP q m).length = N := ⟨_, rfl⟩
  have HN := hide hN
  rw [hN] at hl
  clear h hN hi5
  go_enter Tryd.func40, Tryd.ntmps40
  go_wp2_with fail
  go_loopw [3, 11] (fun t3 t11 wr => ∃ k s : Nat, t11 = .int .i64 (k : Int) ∧ t3 = .int .i64 (s : Int) ∧ wr = w ∧ Hid (k ≤ m ∧ s = (catP q k).length)) (fun _ t11 _ => m - (intOf t11).toNat)
  case atStart => exact ⟨0, 0, rfl, rfl, rfl, Nat.zero_le _, rfl⟩
  case round =>
    obtain ⟨k, s, rfl, rfl, rfl, hI⟩ := hrel
    by_cases hlt : k < m
    · obtain ⟨b, o, v, rfl, c1, hv⟩ := H.out k hlt
      obtain ⟨pv, cv, rfl, _⟩ := by_slice hv
      have hs1 : s + (q k).length ≤ N := by
        have := catP_le q (k + 1) m (by omega)
        rw [catP, List.length_append, HN.out, ← hI.out.2] at this; exact this
      have HNX : Hid (s + (q k).length = (catP q (k + 1)).length) := by rw [catP, List.length_append, hI.out.2]; rfl
      obtain ⟨L, hL⟩ : ∃ L, (q k).length = L := ⟨_, rfl⟩
      rw [hL] at c1 hs1 HNX
      have hneg : ¬ ((s : Int) + (L : Int)) < 0 := by omega
      clear hL hv hI
      go_wp2_with fail
      go_roundw
      case rel => exact ⟨k + 1, s + L, by simp, by simp, by trivial, hlt, HNX.out⟩
      case measure => simp [intOf]; omega
    · have hk : k = m := by have := hI.out.1; omega
      have hs : s = N := by rw [hI.out.2, hk, HN.out]
      subst hs
      obtain ⟨w0, hw0⟩ : ∃ w0, w0 = wr := ⟨_, rfl⟩
      subst hw0
      clear hI
      go_wp2_with (go_at_call 55; refine (grow_nil _ s (by omega)).mono ?_; rintro e w1 ⟨v1, rfl, hO1⟩; have HO1 := hide hO1; clear hO1)
      go_loopw [6, 27] (fun t6 t27 wq => ∃ k : Nat, t27 = .int .i64 (k : Int) ∧ Hid (k ≤ m ∧ OB w0.heap.size w0 (catP q k) t6 wq)) (fun _ t27 _ => m - (intOf t27).toNat)
      case atStart => exact ⟨0, rfl, Nat.zero_le _, HO1.out⟩
      case round =>
        obtain ⟨k, rfl, hJ⟩ := hrel
        obtain ⟨p6, c6, h6⟩ := hJ.out.2.slice
        subst h6
        have HO6 := hide hJ.out.2.own
        have HJ := hide hJ.out.2
        obtain ⟨n6, hn6⟩ : ∃ n6, (catP q k).length = n6 := ⟨_, rfl⟩
        have Hn6 := hide hn6
        rw [hn6] at HO6 ⊢
        have hn6l : n6 ≤ s := by rw [← hn6, ← HN.out]; exact catP_le q k m hJ.out.1
        by_cases hlt2 : k < m
        · obtain ⟨b, o, v, rfl, c1, hv⟩ := H.out k hlt2
          have hblt := World.block_lt_of_cell? _ _ c1
          have c2 : wr.cell? ⟨b, o + k, none⟩ = some v := by rw [HJ.out.bel.cell (p := ⟨b, o + k, none⟩) hblt]; exact c1
          have hv2 := isBy_below hv HJ.out.bel
          have hsz : (catP q (k + 1)).length ≤ s := by rw [← HN.out]; exact catP_le q (k + 1) m hlt2
          rw [catP, List.length_append, hn6] at hsz
          rcases by_news hv2 with ⟨rfl, hq0⟩ | ⟨ad, capk, rfl, hnews⟩
          · have HR : Hid (OB w0.heap.size w0 (catP q (k + 1)) (.slice p6 n6 c6) wr) := by have := HJ.out; rw [Hn6.out] at this; rw [catP, hq0, List.append_nil]; exact this
            clear hv hv2 hq0 hJ hn6
            go_wp2_with (at_builtin; refine wpList_append_own_none rfl _ _ _ rfl w0.heap.size 5 i5 1 Tryd.underlying38 Hi.out.1 (.slice p6 n6 c6) n6 (bytesV (catP q k)) rfl HO6.out rfl ?g6)
            go_roundw
            case rel => exact ⟨k + 1, by simp, hlt2, HR.out⟩
            case measure => simp [intOf]; omega
          · have HNW := hide hnews
            obtain ⟨nk, hnk⟩ : ∃ nk, (q k).length = nk := ⟨_, rfl⟩
            have Hnk := hide hnk
            rw [hnk] at c2 hsz
            have HB : Hid (w0.heap.size ≤ wr.heap.size) := HJ.out.bel.size
            clear hv hv2 hJ hn6 hnews hnk
            go_wp2_with (at_builtin; refine wpList_append_own_at _ rfl _ _ _ rfl w0.heap.size 5 i5 (.int .u8 0) 1 1 Tryd.underlying38 Hi.out.1 Hi.out.2.1 Hi.out.2.2.1 Hi.out.2.2.2 rfl (by decide) (.slice p6 n6 c6) n6 (bytesV (catP q k)) rfl HO6.out ad nk capk (bytesV (q k)) rfl ?f2 ?f3 (bytesV_cell (q k)) ?f4 ?f5 ?f7 ?f6)
            case f2 => first | exact Hnk.out | (rw [Nat.mul_one, ← Hnk.out]; simp)
            case f3 => exact HNW.out
            case f4 => unfold maxLen; omega
            case f5 => omega
            case f7 => exact HB.out
            case f6 =>
              intro v2 w2 ho2 hg2 _ hat
              have HR : Hid (OB w0.heap.size w0 (catP q (k + 1)) v2 w2) := by
                rw [catP]
                exact HJ.out.more (cs := q k) (by rw [Hn6.out, Hnk.out]; exact ho2) (by rw [Hn6.out]; exact hg2)
              clear ho2 hg2 hat
              go_wp2_with fail
              go_roundw
              case rel => exact ⟨k + 1, by simp, hlt2, HR.out⟩
              case measure => simp [intOf]; omega
        · have hkm : k = m := by have := hJ.out.1; omega
          subst hkm
          clear hJ
          go_wp2_with fail
          go_ret
          exact ⟨_, rfl, by rw [← Hn6.out]; exact HJ.out⟩

set_option maxRecDepth 100000 in
theorem jsum_any (v : Value) (bs : List Nat) (w : World) (h : IsBy w v bs) (hb : ∀ n ∈ bs, n < 256) (hl : bs.length ≤ 1000000000000) (hT : TabC w) :
    Calls Tryd.prog 18 #[v] w fun e w' => e = .returned (.int .u32 (crcO bs : Nat)) ∧ w' = w := by
  have HS := hide (bsum_any v bs w h hb hl hT)
  obtain ⟨pa, ca, rfl, _⟩ := by_slice h
  clear h hb hl hT
  go_enter Tryd.func18, Tryd.ntmps18
  go_wp2_with (go_at_call 32; refine HS.out.mono ?_; rintro e w2 ⟨rfl, hw2⟩; obtain rfl := hw2)
  go_ret
  exact ⟨rfl, rfl⟩

theorem parts_two {w : World} {g : Nat} {v0 v1 : Value} {a b : List Nat} (h : w.heap[g]? = some (.cells #[v0, v1] 38 (0, 0))) (h0 : IsBy w v0 a) (h1 : IsBy w v1 b) : PartsOf w (some ⟨g, 0, none⟩) 2 (fun i => if i = 0 then a else b) := fun i hi => by
  match i, hi with
  | 0, _ => exact ⟨g, 0, v0, rfl, by rw [cell_of_row w g _ _ _ (0, 0) h]; rfl, h0⟩
  | 1, _ => exact ⟨g, 0, v1, rfl, by rw [cell_of_row w g _ _ _ (0, 0) h]; rfl, h1⟩

set_option maxRecDepth 100000 in
theorem sumOf_any (va vb : Value) (a b : List Nat) (w : World) (ha : IsBy w va a) (hb : IsBy w vb b) (ha2 : ∀ n ∈ a, n < 256) (hb2 : ∀ n ∈ b, n < 256) (hl : a.length + b.length ≤ 1000000000) (hT : TabC w) :
    Calls Tryd.prog 41 #[va, vb] w fun e w' => e = .returned (.int .u32 (crcO (a ++ b) : Nat)) ∧ Below w.heap.size w w' := by
  have hba : Below w.heap.size w (w.alloc (.cells #[va, vb] 38)) := (Below.refl _ _).alloc (Nat.le_refl _) _
  have hcat : catP (fun i => if i = 0 then a else b) 2 = a ++ b := by simp [catP]
  have HC : Hid (Calls Tryd.prog 40 #[.slice (some ⟨w.heap.size, 0, none⟩) 2 2] (w.alloc (.cells #[va, vb] 38)) fun e w' => ∃ v, e = .returned v ∧ OB (w.alloc (.cells #[va, vb] 38)).heap.size (w.alloc (.cells #[va, vb] 38)) (a ++ b) v w') := by
    rw [← hcat]
    exact concat_any (some ⟨w.heap.size, 0, none⟩) 2 2 _ _ (parts_two (heap_alloc_new w _) (isBy_below ha hba) (isBy_below hb hba)) (by decide) (by rw [hcat, List.length_append]; exact hl)
  have HT := hide (hT.below hba)
  have HBA := hide hba
  have HL : Hid ((∀ n ∈ a ++ b, n < 256) ∧ (a ++ b).length ≤ 1000000000000) := ⟨fun n hn => (List.mem_append.1 hn).elim (ha2 n) (hb2 n), by rw [List.length_append]; omega⟩
  obtain ⟨pa, ca, rfl, _⟩ := by_slice ha
  obtain ⟨pb, cb, rfl, _⟩ := by_slice hb
  clear ha hb ha2 hb2 hT hba hcat hl
  go_enter Tryd.func41, Tryd.ntmps41
  go_wp2_with (first
    | (go_at_call 40; refine HC.out.mono ?_; rintro e w1 ⟨v1, rfl, hO1⟩; have HO1 := hide hO1; clear hO1)
    | (go_at_call 18; refine (jsum_any v1 (a ++ b) _ HO1.out.by_ HL.out.1 HL.out.2 (HT.out.below HO1.out.bel)).mono ?_; rintro e w2 ⟨rfl, hw2⟩; obtain rfl := hw2))
  go_ret
  exact ⟨rfl, HBA.out.trans (HO1.out.bel.mono HBA.out.size)⟩

end Go.Proofs.YtgmahgfelbkoeaaDoor

/- The law's Book: what it holds; at, tight, plain, holds. -/
import Derived.Test.YtpiiagjfimdflaaWf
namespace Go.Proofs.Ytpiiagjfimdflaa
open Go.RowKit
open M
set_option linter.unusedVariables false

/-- Byte k of the mark of list m. -/
def mk (m k : Nat) : Nat := if k % 2 = 0 then 1 + m % 251 else 1 + (7 * m + m / 251) % 251

theorem mk_lt (m k : Nat) : mk m k < 256 := by unfold mk; split <;> omega

theorem at_any (m k : Nat) (w : World) (hm : m ≤ 1000000) (hk : k ≤ 1000000000) : Calls Try.prog 70 #[.int .i64 m, .int .i64 k] w fun e w' => e = .returned (.int .u8 (mk m k : Nat)) ∧ w' = w := by
  by_cases h : k % 2 = 0
  · have h' : ((k : Int) % 2 == 0) = true := by rw [beq_iff_eq]; omega
    have hE : Hid ((mk m k : Int) = 1 + (m : Int) % 251) := by show _ = _; unfold mk; rw [if_pos h]; omega
    go_enter Try.func70, Try.ntmps70
    go_wp2_with fail
    go_ret
    refine ⟨?_, rfl⟩
    rw [hE.out]
    rfl
  · have h' : ((k : Int) % 2 == 0) = false := by rw [beq_eq_false_iff_ne]; omega
    have hE : Hid ((mk m k : Int) = 1 + (7 * (m : Int) + (m : Int) / 251) % 251) := by show _ = _; unfold mk; rw [if_neg h]; omega
    go_enter Try.func70, Try.ntmps70
    go_wp2_with fail
    go_ret
    refine ⟨?_, rfl⟩
    rw [hE.out]
    rfl

def marksOf (m n : Nat) : List Nat := (List.range n).map (mk m)

@[simp] theorem marksOf_length (m n : Nat) : (marksOf m n).length = n := by simp [marksOf]

theorem marksOf_succ (m n : Nat) : marksOf m (n + 1) = marksOf m n ++ [mk m n] := by simp [marksOf, List.range_succ]

/-- A list that is kept: its value, its length, its number. -/
structure Ent where
  v : Value
  n : Nat
  m : Nat

def EOk (w : World) (base : Nat) (e : Ent) : Prop := w.ownsRow base 5 1 e.v e.n (bytesV (marksOf e.m e.n)) ∧ e.n ≤ 100000 ∧ e.m ≤ 1000000

structure BookSt (w : World) (NB base : Nat) (rb ro : Option Nat) (E : List Ent) (A T D U : Nat) : Prop where
  nil : BookNil w NB
  rows : ∃ vb, w.cell? ⟨NB, 0, none⟩ = some vb ∧ w.ownsRow base 29 1 vb E.length (E.map Ent.v) ∧ vb.ownBlock = rb
  marks : ∃ vo, w.cell? ⟨NB, 1, none⟩ = some vo ∧ w.ownsRow base 3 1 vo E.length (E.map fun e => Value.int .i64 (e.m : Int)) ∧ vo.ownBlock = ro
  at_ : w.cell? ⟨NB, 2, none⟩ = some (.int .i64 A)
  turn : w.cell? ⟨NB, 69, none⟩ = some (.int .i64 T)
  done : w.cell? ⟨NB, 70, none⟩ = some (.int .i64 D)
  used : w.cell? ⟨NB, 71, none⟩ = some (.int .i64 U)
  ok : ∀ e ∈ E, EOk w base e
  le : A ≤ E.length ∧ D ≤ T ∧ U ≤ 16777216 ∧ NB < base ∧ (E = [] → rb = none ∧ ro = none)

/-- What a row looks like. -/
theorem row_form {w : World} {base : Nat} {t : TypeId} {v : Value} {n : Nat} {xs : List Value} (h : w.ownsRow base t 1 v n xs) :
    ∃ p cap, v = .slice p n cap ∧ n ≤ cap ∧ (p = none → cap = 0) ∧ ∀ g, v.ownBlock = some g → p = some ⟨g, 0, none⟩ ∧ base ≤ g ∧ g < w.heap.size ∧ ∀ (i : Nat) x, xs[i]? = some x → w.cell? ⟨g, i, none⟩ = some x := by
  obtain ⟨h1, h2⟩ := h
  rcases h2 with ⟨rfl, rfl⟩ | ⟨g, cap, cur, rfl, h4, h5, h6, _, h7, h8⟩
  · exact ⟨none, 0, rfl, by omega, fun _ => rfl, fun g hg => by simp [Value.ownBlock] at hg⟩
  · refine ⟨_, cap, rfl, h6, fun h => by simp at h, fun g' hg => ?_⟩
    simp only [Value.ownBlock, Option.some.injEq] at hg
    subst hg
    refine ⟨rfl, h4, ?_, fun i x hx => ?_⟩
    · rcases Nat.lt_or_ge g w.heap.size with hlt | hge
      · exact hlt
      · rw [Array.getElem?_eq_none hge] at h5; cases h5
    · rw [cell_of_row _ _ _ _ _ _ h5, ← Array.getElem?_toList]
      rw [← h8] at hx
      have hi : i < n * 1 := by
        rcases Nat.lt_or_ge i (n * 1) with hlt | hge
        · exact hlt
        · rw [List.getElem?_eq_none (by rw [List.length_take]; omega)] at hx; cases hx
      rwa [List.getElem?_take_of_lt hi] at hx

theorem row_at {w : World} {base : Nat} {t : TypeId} {v : Value} {n : Nat} {xs : List Value} (h : w.ownsRow base t 1 v n xs) {p : Option Addr} {cap : Nat} (hv : v = .slice p n cap) (hn : 0 < n) :
    ∃ g, p = some ⟨g, 0, none⟩ ∧ base ≤ g ∧ g < w.heap.size ∧ ∀ (i : Nat) x, xs[i]? = some x → w.cell? ⟨g, i, none⟩ = some x := by
  obtain ⟨g, cap', hv', _, _⟩ := h.form hn
  obtain ⟨p2, cap2, hv2, _, _, h4⟩ := row_form h
  obtain ⟨h5, h6, h7, h8⟩ := h4 g (by rw [hv']; rfl)
  rw [hv] at hv2
  simp only [Value.slice.injEq] at hv2
  exact ⟨g, by rw [hv2.1]; exact h5, h6, h7, h8⟩

set_option maxRecDepth 100000 in
set_option maxHeartbeats 8000000 in
theorem plain_any (NB base : Nat) (rb ro : Option Nat) (E : List Ent) (A T D U : Nat) (w : World) (h : BookSt w NB base rb ro E A T D U) (hE : E.length ≤ 1000000) :
    Calls Try.prog 72 #[.pointer (some ⟨NB, 0, none⟩)] w fun e w' => e = .returned (.bool true) ∧ ∃ m, w' = w.drewN m := by
  obtain ⟨vb, cb, ob, _⟩ := h.rows
  obtain ⟨vo, co, oo, _⟩ := h.marks
  have c3 := h.nil.nils 3 (by omega) (by omega) (by omega)
  have HOK : Hid (∀ e ∈ E, EOk w base e) := h.ok
  obtain ⟨pb, capb, hvb, -⟩ := row_form ob
  obtain ⟨po, capo, hvo, -⟩ := row_form oo
  have HB : Hid (0 < E.length → ∃ g, pb = some ⟨g, 0, none⟩ ∧ ∀ (i : Nat) e, E[i]? = some e → w.cell? ⟨g, i, none⟩ = some e.v) := fun h0 => by
    obtain ⟨g, h1, _, _, h2⟩ := row_at ob hvb h0
    exact ⟨g, h1, fun i e he => h2 i e.v (by simp [he])⟩
  have HM : Hid (0 < E.length → ∃ g, po = some ⟨g, 0, none⟩ ∧ ∀ (i : Nat) e, E[i]? = some e → w.cell? ⟨g, i, none⟩ = some (.int .i64 (e.m : Int))) := fun h0 => by
    obtain ⟨g, h1, _, _, h2⟩ := row_at oo hvo h0
    exact ⟨g, h1, fun i e he => h2 i _ (by simp [he])⟩
  subst hvb
  subst hvo
  clear h ob oo
  obtain ⟨nE, hnE⟩ : ∃ nE, nE = E.length := ⟨_, rfl⟩
  have HnE : Hid (nE = E.length) := hnE
  rw [← hnE] at cb co hE
  clear hnE
  go_enter Try.func72, Try.ntmps72
  go_wp2
  go_loopw [3] (fun t3 wr => ∃ k : Nat, k ≤ nE ∧ t3 = .int .i64 k ∧ Hid (∃ m, wr = w.drewN m)) (fun t3 _ => nE - (intOf t3).toNat)
  case atStart => exact ⟨0, by omega, rfl, ⟨0, rfl⟩⟩
  case round =>
    obtain ⟨k, hk, rfl, Hm⟩ := hrel
    have hcell : ∀ a, wr.cell? a = w.cell? a := fun a => by obtain ⟨m, rfl⟩ := Hm.out; rfl
    have cb' := (hcell ⟨NB, 0, none⟩).trans cb
    have co' := (hcell ⟨NB, 1, none⟩).trans co
    have c3' := (hcell ⟨NB, 3, none⟩).trans c3
    by_cases hlt : k < nE
    · obtain ⟨e, he⟩ : ∃ e, E[k]? = some e := ⟨E[k]'(by have := HnE.out; omega), List.getElem?_eq_getElem _⟩
      obtain ⟨hok, hn, hm⟩ := HOK.out e (List.mem_of_getElem? he)
      obtain ⟨gb, rfl, hgb⟩ := HB.out (by have := HnE.out; omega)
      obtain ⟨go, rfl, hgo⟩ := HM.out (by have := HnE.out; omega)
      have D1 : Hid (w.cell? ⟨gb, k, none⟩ = some e.v) := hgb k e he
      have D2 : Hid (w.cell? ⟨go, k, none⟩ = some (.int .i64 (e.m : Int))) := hgo k e he
      obtain ⟨p, c, hv, -⟩ := row_form hok
      have HE : Hid (0 < e.n → ∃ g, p = some ⟨g, 0, none⟩ ∧ ∀ j, j < e.n → w.cell? ⟨g, j, none⟩ = some (.int .u8 (mk e.m j : Nat))) := fun h0 => by
        obtain ⟨g, h1, _, _, h2⟩ := row_at hok hv h0
        exact ⟨g, h1, fun j hj => h2 j _ (by simp [bytesV, marksOf, hj])⟩
      rw [hv] at D1
      have d1 := (hcell ⟨gb, k, none⟩).trans D1.out
      clear hok hv he hgb hgo hcell HB HM HOK
      generalize e.n = n at *
      generalize e.m = m at *
      go_wp2_with fail
      have Hm0 : Hid (∃ m, wr = w.drewN m) := Hm
      clear Hm cb' co' c3' d1
      go_loopw [4] (fun t4 wr => ∃ j : Nat, j ≤ n ∧ t4 = .int .i64 j ∧ Hid (∃ m, wr = w.drewN m)) (fun t4 _ => n - (intOf t4).toNat)
      case atStart => exact ⟨0, by omega, rfl, Hm0⟩
      case round =>
        obtain ⟨j, hj, rfl, Hm⟩ := hrel
        have hcell : ∀ a, wr.cell? a = w.cell? a := fun a => by obtain ⟨m, rfl⟩ := Hm.out; rfl
        have cb' := (hcell ⟨NB, 0, none⟩).trans cb
        have co' := (hcell ⟨NB, 1, none⟩).trans co
        have d1 := (hcell ⟨gb, k, none⟩).trans D1.out
        have d2 := (hcell ⟨go, k, none⟩).trans D2.out
        by_cases hjn : j < n
        · obtain ⟨g, rfl, hg⟩ := HE.out (by omega)
          have d3 := (hcell ⟨g, j, none⟩).trans (hg j hjn)
          have HA : Hid (∀ w, Calls Try.prog 70 #[.int .i64 m, .int .i64 j] w fun e w' => e = .returned (.int .u8 (mk m j : Nat)) ∧ w' = w) := fun w => at_any m j w hm (by omega)
          clear hg hcell
          generalize mk m j = y at *
          have hjI : (j : Int) < (n : Int) := by omega
          have hkI : (k : Int) < (nE : Int) := by omega
          go_wp2_with fail
          go_quiet ((go_at_call 70; exact Calls.quiet_of_same (HA.out _)))
          go_wp2_with fail
          go_roundw
          case rel =>
            refine ⟨j + 1, by omega, by go_num, ?_⟩
            obtain ⟨m, rfl⟩ := Hm.out
            exact ⟨m + nq, World.drewN_drewN _ _ _⟩
          case measure => simp [intOf]; omega
        · clear hcell
          go_wp2_with fail
          go_roundw
          case rel => exact ⟨k + 1, by omega, by go_num, Hm⟩
          case measure => simp [intOf]; omega
    · clear hcell
      go_wp2_with fail
      have Hm0 : Hid (∃ m, wr = w.drewN m) := Hm
      clear Hm cb' co' c3'
      go_loopw [5] (fun t5 wr => t5 = .int .i64 0 ∧ Hid (∃ m, wr = w.drewN m)) (fun _ _ => 0)
      case atStart => exact ⟨rfl, Hm0⟩
      case round =>
        obtain ⟨rfl, Hm⟩ := hrel
        have c3' : wr.cell? ⟨NB, 3, none⟩ = some (.slice none 0 0) := by obtain ⟨m, rfl⟩ := Hm.out; exact c3
        go_wp2_with fail
        go_ret
        exact ⟨rfl, Hm.out⟩

end Go.Proofs.Ytpiiagjfimdflaa

/- The law of orders: files in turns, plain and in memory. -/
import Derived.Test.YtiblnkiecpcdpaaJ14J
namespace Go.Proofs.Ytiblnkiecpcdpaa
open Go.RowKit
set_option linter.unusedVariables false
set_option linter.unusedSimpArgs false

/-- What the law's Within tells. -/
def wi (x : Int) (m : Nat) : Nat := (if Int.tmod x (m : Int) < 0 then Int.tmod x (m : Int) + (m : Int) else Int.tmod x (m : Int)).toNat
theorem wi_lt (x : Int) (m : Nat) (hm : 0 < m) : wi x m < m := by
  have r1 := Int.lt_tmod_of_pos x (show (0 : Int) < (m : Int) by omega)
  have r2 := Int.tmod_lt_of_pos x (show (0 : Int) < (m : Int) by omega)
  unfold wi
  split <;> omega

set_option maxRecDepth 100000 in
theorem within10_is (x : Int) (m : Nat) (w : World) (h1 : -9223372036854775808 ≤ x) (h2 : x ≤ 9223372036854775807) (hm : 0 < m) (hm2 : m ≤ 1000000000) : Calls Try.prog 6 #[.int .i64 x, .int .i64 (m : Int)] w fun e w' => e = .returned (.int .i64 (wi x m : Nat)) ∧ w' = w := by
  obtain ⟨r, hr⟩ : ∃ r : Int, r = Int.tmod x (m : Int) := ⟨_, rfl⟩
  have r1 : -(m : Int) < r := by rw [hr]; have := Int.lt_tmod_of_pos x (show (0 : Int) < (m : Int) by omega); omega
  have r2 : r < (m : Int) := by rw [hr]; have := Int.tmod_lt_of_pos x (show (0 : Int) < (m : Int) by omega); omega
  have e1 : Int.tmod x (m : Int) = r := hr.symm
  have hm0 : ¬ (m : Int) = 0 := by omega
  have hm1 : ¬ (m : Int) = -1 := by omega
  have HW : Hid ((wi x m : Int) = if r < 0 then r + (m : Int) else r) := by
    show _ = _
    unfold wi
    rw [e1]
    split <;> omega
  clear hr
  by_cases h0 : r < 0
  · have HW2 : Hid ((wi x m : Int) = r + (m : Int)) := by rw [if_pos h0] at HW; exact HW
    clear HW
    go_enter Try.func6, Try.ntmps6
    go_wp2_with fail
    go_ret
    exact ⟨by rw [HW2.out]; rfl, rfl⟩
  · have HW2 : Hid ((wi x m : Int) = r) := by rw [if_neg h0] at HW; exact HW
    clear HW
    go_enter Try.func6, Try.ntmps6
    go_wp2_with fail
    go_ret
    exact ⟨by rw [HW2.out]; rfl, rfl⟩

/-- A row of bytes of one's own is written over. -/
structure Ovd (w w' : World) (g : Nat) : Prop where
  os : w'.os = w.os
  tape : w'.tape = w.tape
  output : w'.output = w.output
  size : w'.heap.size = w.heap.size
  block : ∀ k, k ≠ g → w'.heap[k]? = w.heap[k]?

set_option maxRecDepth 100000 in
set_option maxHeartbeats 4000000 in
theorem over10_any (g cap n : Nat) (w : World) (hn : n ≤ 1000000) (cur : Array Value) (hc : w.heap[g]? = some (.cells cur 5 (0, 0))) (hs : n ≤ cur.size) :
    Calls Try.prog 25 #[.slice (some ⟨g, 0, none⟩) n cap] w fun e w' => e = .returned (.tuple #[]) ∧ Ovd w w' g ∧ ∃ cur', w'.heap[g]? = some (.cells cur' 5 (0, 0)) ∧ cur'.size = cur.size := by
  have HC := hide hc
  have HSZ := hide hs
  clear hc hs
  go_enter Try.func25, Try.ntmps25
  go_wp2_with fail
  go_loopw [2] (fun t2 wr => ∃ i : Nat, i ≤ n ∧ t2 = .int .i64 (i : Int) ∧ Hid (Ovd w wr g ∧ ∃ cur', wr.heap[g]? = some (.cells cur' 5 (0, 0)) ∧ cur'.size = cur.size)) (fun t2 _ => n - (intOf t2).toNat)
  case atStart => exact ⟨0, by omega, rfl, ⟨rfl, rfl, rfl, rfl, fun _ _ => rfl⟩, cur, HC.out, rfl⟩
  case round =>
    obtain ⟨i, hi, rfl, HS⟩ := hrel
    obtain ⟨hO, cur', h1, h2⟩ := HS.out
    by_cases hlt : i < n
    · have hlt' : (i : Int) < (n : Int) := by omega
      have hic : i < cur'.size := by have := HSZ.out; omega
      have hcl : wr.cell? ⟨g, i, none⟩ = some cur'[i] := by rw [cell_of_row _ _ _ _ _ _ h1, Array.getElem?_eq_getElem hic]
      obtain ⟨u, hu⟩ : ∃ u, cur'[i] = u := ⟨_, rfl⟩
      rw [hu] at hcl
      have hf := frozen_of h1 i
      have HS2 : Hid (Ovd w (wr.setCell ⟨g, i, none⟩ (.int .u8 238)) g ∧ ∃ cur', (wr.setCell ⟨g, i, none⟩ (.int .u8 238)).heap[g]? = some (.cells cur' 5 (0, 0)) ∧ cur'.size = cur.size) := by
        have hfr := Fr.setCell (w := wr) (F := fun k => k = g) (a := ⟨g, i, none⟩) rfl (.int .u8 238)
        refine ⟨⟨hfr.os.trans hO.os, hfr.tape.trans hO.tape, hfr.output.trans hO.output, ?_, fun k hk => ?_⟩, _, heap_set_at h1 _, by simpa using h2⟩
        · have : (wr.setCell ⟨g, i, none⟩ (.int .u8 238)).heap.size = wr.heap.size := by simp [World.setCell]
          rw [this]; exact hO.size
        · rcases Nat.lt_or_ge k wr.heap.size with h | h
          · exact ((hfr.block k h hk).2).trans (hO.block k hk)
          · rw [Array.getElem?_eq_none (by simp [World.setCell]; exact h), ← hO.block k hk, Array.getElem?_eq_none h]
      clear HS hO h1 h2 hic hu
      go_wp2_with fail
      go_roundw
      case rel => exact ⟨i + 1, by omega, by simp, HS2.out⟩
      case measure => simp [intOf]; omega
    · have hlt' : ¬ (i : Int) < (n : Int) := by omega
      go_wp2_with fail
      go_end0
      exact ⟨rfl, HS.out⟩

/-- A file and where its bytes lie. -/
abbrev Pr := (ByteArray × List Nat) × Value

def PIn (w : World) (v : Value) (ps : List Pr) : Prop := FilesR w v (ps.map (·.2)) (ps.map (·.1))
def PBy (w : World) (ps : List Pr) : Prop := ∀ q ∈ ps, q.1.1.size ≤ 140737488355328 ∧ ByIn w q.2 q.1.2

theorem PBy.by_ {w : World} {ps : List Pr} (h : PBy w ps) : FilesBy w (ps.map (·.2)) (ps.map (·.1)) := fun i hi => by
  have hi' : i < ps.length := by simpa using hi
  have e1 : (ps.map (·.2)).getD i (.slice none 0 0) = ps[i].2 := by simp [List.getD, List.getElem?_eq_getElem hi']
  have e2 : (ps.map (·.1)).getD i (.empty, []) = ps[i].1 := by simp [List.getD, List.getElem?_eq_getElem hi']
  rw [e1, e2]
  exact h _ (List.getElem_mem hi')
theorem PBy.perm {w : World} {ps qs : List Pr} (h : PBy w ps) (hp : qs.Perm ps) : PBy w qs := fun q hq => h q (hp.mem_iff.1 hq)
theorem PBy.below {w w' : World} {ps : List Pr} (h : PBy w ps) (hb : Below w.heap.size w w') : PBy w' ps := fun q hq => by
  obtain ⟨h1, p', n', c', e, q1, q2, q3, q4, q5, q6⟩ := h q hq
  exact ⟨h1, p', n', c', e, q1, q2, q3, isBy_below q4 hb, q5, q6⟩

theorem loadOk_perm {a b : List (ByteArray × List Nat)} (h : a.Perm b) (room : Nat) : LoadOk a room ↔ LoadOk b room := by
  unfold LoadOk
  rw [totB_perm h, h.length_eq, (h.map (·.1)).nodup_iff]
  exact ⟨fun e => ⟨fun x hx => e.1 x (h.mem_iff.2 hx), e.2⟩, fun e => ⟨fun x hx => e.1 x (h.mem_iff.1 hx), e.2⟩⟩

/-- Turned. -/
def rot (s : Nat) (ps : List Pr) : List Pr := ps.drop s ++ ps.take s
theorem rot_perm (s : Nat) (ps : List Pr) : (rot s ps).Perm ps := by
  have := List.perm_append_comm (l₁ := ps.drop s) (l₂ := ps.take s)
  rw [List.take_append_drop] at this
  exact this
theorem rot_at (s : Nat) (ps : List Pr) (hs : s < ps.length) (k : Nat) (hk : k < ps.length) : (rot s ps)[k]? = ps[(k + s) % ps.length]? := by
  unfold rot
  rcases Nat.lt_or_ge k (ps.length - s) with h | h
  · rw [List.getElem?_append_left (by simpa using h), List.getElem?_drop, Nat.mod_eq_of_lt (by omega), Nat.add_comm]
  · rw [List.getElem?_append_right (by simpa using h), List.length_drop, List.getElem?_take, if_pos (by omega)]
    congr 1
    have : (k + s) % ps.length = k + s - ps.length := by
      rw [Nat.mod_eq_sub_mod (by omega), Nat.mod_eq_of_lt (by omega)]
    omega

/-- Two of them exchanged. -/
def exch (ps : List Pr) (i j : Nat) (x y : Pr) : List Pr := (ps.set i y).set j x
theorem exch_perm {ps : List Pr} {i j : Nat} (hi : i < ps.length) (hj : j < ps.length) : (exch ps i j ps[i] ps[j]).Perm ps := by
  have h := Array.swap_perm (xs := ps.toArray) (i := i) (j := j) (by simpa using hi) (by simpa using hj)
  have h2 := Array.perm_iff_toList_perm.1 h
  simpa [Array.swap, exch] using h2

end Go.Proofs.Ytiblnkiecpcdpaa

/- The law's Within. -/
import Derived.Test.YtlandfghodfjdaaGreatJ12Z
/- Files of one's own, as files to be read. -/
namespace Go.Proofs.YtlandfghodfjdaaGreat
open Go.RowKit
set_option linter.unusedVariables false
set_option linter.unusedSimpArgs false

theorem fcells_at : ∀ (fs : List (ByteArray × List Nat)) (us : List Value) (i : Nat), us.length = fs.length → i < fs.length → (fcells fs us)[i * 2]? = some (.string (fs.getD i (.empty, [])).1) ∧ (fcells fs us)[i * 2 + 1]? = some (us.getD i (.slice none 0 0))
  | x :: fs, u :: us, 0, _, _ => by simp [fcells]
  | x :: fs, u :: us, i + 1, h1, h2 => by
    have h := fcells_at fs us i (by simpa using h1) (by simpa using h2)
    have e1 : (i + 1) * 2 = i * 2 + 1 + 1 := by omega
    rw [e1]
    simpa [fcells] using h
  | [], _, _, _, h => by simp at h
  | _ :: _, [], _, h, _ => by simp at h

theorem FilesAt.toR {w : World} {lo : Nat} {v : Value} {vals : List Value} {fs : List (ByteArray × List Nat)} (h : FilesAt w lo v vals fs) : FilesR w v vals fs ∧ RowsR w vals fs := by
  have hl : vals.length = fs.length := by have := h.row.1; simpa using this
  refine ⟨⟨hl, ?_⟩, fun i hi => ?_⟩
  · rcases h.own.2 with ⟨e1, e2⟩ | ⟨g, cap, cur, e1, q1, q2, q3, q4, q5, q6⟩
    · exact ⟨none, 0, by rw [e1, e2], fun i hi => by omega⟩
    · refine ⟨_, cap, e1, fun i hi => ⟨g, 0, rfl, ?_⟩⟩
      obtain ⟨k1, k2⟩ := fcells_at fs vals i hl hi
      rw [← q6, List.getElem?_take, if_pos (by omega)] at k1 k2
      rw [cell_of_row _ _ _ _ _ _ q2, cell_of_row _ _ _ _ _ _ q2]
      exact ⟨by simpa using k1, by simpa using k2⟩
  · have hv : vals[i]? = some (vals.getD i (.slice none 0 0)) := by
      rw [List.getElem?_eq_getElem (by omega)]; simp [List.getD, List.getElem?_eq_getElem (show i < vals.length by omega)]
    have := (h.row.2 i _ hv).1
    rw [show (fs.map (·.2)).getD i [] = (fs.getD i (.empty, [])).2 from by simp [List.getD, List.getElem?_eq_getElem hi]] at this
    exact this

end Go.Proofs.YtlandfghodfjdaaGreat

namespace Go.Proofs.YtlandfghodfjdaaGreat
open Go.RowKit
set_option linter.unusedVariables false
set_option linter.unusedSimpArgs false

set_option maxRecDepth 100000 in
theorem within10_any (x : Int) (m : Nat) (w : World) (h1 : -9223372036854775808 ≤ x) (h2 : x ≤ 9223372036854775807) (hm : 0 < m) (hm2 : m ≤ 1000000000) : Calls Tryz.prog 5 #[.int .i64 x, .int .i64 (m : Int)] w fun e w' => ∃ n : Nat, e = .returned (.int .i64 (n : Int)) ∧ n < m ∧ w' = w := by
  obtain ⟨r, hr⟩ : ∃ r : Int, r = Int.tmod x (m : Int) := ⟨_, rfl⟩
  have r1 : -(m : Int) < r := by rw [hr]; have := Int.lt_tmod_of_pos x (show (0 : Int) < (m : Int) by omega); omega
  have r2 : r < (m : Int) := by rw [hr]; have := Int.tmod_lt_of_pos x (show (0 : Int) < (m : Int) by omega); omega
  have e1 : Int.tmod x (m : Int) = r := hr.symm
  have hm0 : ¬ (m : Int) = 0 := by omega
  have hm1 : ¬ (m : Int) = -1 := by omega
  clear hr
  by_cases h0 : r < 0
  · have e2 : Hid (r + (m : Int) = ((r + (m : Int)).toNat : Int)) := by show _ = _; omega
    go_enter Tryz.func5, Tryz.ntmps5
    go_wp2_with fail
    go_ret
    exact ⟨(r + (m : Int)).toNat, by rw [← e2.out]; rfl, by omega, rfl⟩
  · have e2 : Hid (r = (r.toNat : Int)) := by show _ = _; omega
    go_enter Tryz.func5, Tryz.ntmps5
    go_wp2_with fail
    go_ret
    exact ⟨r.toNat, by rw [← e2.out]; rfl, by omega, rfl⟩

end Go.Proofs.YtlandfghodfjdaaGreat

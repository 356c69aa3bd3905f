/- Files of one's own, as files to be read. -/
import Derived.Test.YtlandfghodfjdaaGreatJ12Z
namespace Go.Proofs.YtlandfghodfjdaaGreat
open Go.RowKit
set_option linter.unusedVariables false
set_option linter.unusedSimpArgs false

theorem fcells_at : ∀ (fs : List (ByteArray × List Nat)) (us : List Value) (i : Nat), us.length = fs.length → i < fs.length → (fcells fs us)[i * 2]? = some (.string (fs.getD i (.empty, [])).1) ∧ (fcells fs us)[i * 2 + 1]? = some (us.getD i (.slice none 0 0))
  | x :: fs, u :: us, 0, _, _ => by simp [fcells]
  | x :: fs, u :: us, i + 1, h1, h2 => by
    have h := fcells_at fs us i (by simpa using h1) (by simpa using h2)
    have e1 : (i + 1) * 2 = i * 2 + 1 + 1 := by omega
    rw [e1]
    simpa [fcells] using h
  | [], _, _, _, h => by simp at h
  | _ :: _, [], _, h, _ => by simp at h

theorem FilesAt.toR {w : World} {lo : Nat} {v : Value} {vals : List Value} {fs : List (ByteArray × List Nat)} (h : FilesAt w lo v vals fs) : FilesR w v vals fs ∧ RowsR w vals fs := by
  have hl : vals.length = fs.length := by have := h.row.1; simpa using this
  refine ⟨⟨hl, ?_⟩, fun i hi => ?_⟩
  · rcases h.own.2 with ⟨e1, e2⟩ | ⟨g, cap, cur, e1, q1, q2, q3, q4, q5, q6⟩
    · exact ⟨none, 0, by rw [e1, e2], fun i hi => by omega⟩
    · refine ⟨_, cap, e1, fun i hi => ⟨g, 0, rfl, ?_⟩⟩
      obtain ⟨k1, k2⟩ := fcells_at fs vals i hl hi
      rw [← q6, List.getElem?_take, if_pos (by omega)] at k1 k2
      rw [cell_of_row _ _ _ _ _ _ q2, cell_of_row _ _ _ _ _ _ q2]
      exact ⟨by simpa using k1, by simpa using k2⟩
  · have hv : vals[i]? = some (vals.getD i (.slice none 0 0)) := by
      rw [List.getElem?_eq_getElem (by omega)]; simp [List.getD, List.getElem?_eq_getElem (show i < vals.length by omega)]
    have := (h.row.2 i _ hv).1
    rw [show (fs.map (·.2)).getD i [] = (fs.getD i (.empty, [])).2 from by simp [List.getD, List.getElem?_eq_getElem hi]] at this
    exact this

end Go.Proofs.YtlandfghodfjdaaGreat

/- The law's file: a file's bytes among files. -/
import Derived.Test.YtlandfghodfjdaaGreatJ12U
namespace Go.Proofs.YtlandfghodfjdaaGreat
open Go.RowKit
set_option linter.unusedVariables false
set_option linter.unusedSimpArgs false

/-- Files that lie somewhere, to be read. -/
def FilesR (w : World) (v : Value) (vals : List Value) (fs : List (ByteArray × List Nat)) : Prop := vals.length = fs.length ∧ ∃ p c, v = .slice p fs.length c ∧ ∀ i, i < fs.length → ∃ g o, p = some ⟨g, o, none⟩ ∧ w.cell? ⟨g, o + i * 2, none⟩ = some (.string (fs.getD i (.empty, [])).1) ∧ w.cell? ⟨g, o + i * 2 + 1, none⟩ = some (vals.getD i (.slice none 0 0))

def lookF : List (ByteArray × List Nat) → List Value → ByteArray → Option Value
  | x :: fs, u :: us, n => if x.1 = n then some u else lookF fs us n
  | _, _, _ => none

theorem lookF_step : ∀ (fs : List (ByteArray × List Nat)) (us : List Value) (n : ByteArray) (k : Nat), us.length = fs.length → k < fs.length → lookF (fs.drop k) (us.drop k) n = if (fs.getD k (.empty, [])).1 = n then some (us.getD k (.slice none 0 0)) else lookF (fs.drop (k + 1)) (us.drop (k + 1)) n
  | x :: fs, u :: us, n, 0, _, _ => rfl
  | x :: fs, u :: us, n, k + 1, h1, h2 => by simpa using lookF_step fs us n k (by simpa using h1) (by simpa using h2)
  | [], _, _, _, _, h => by simp at h
  | _ :: _, [], _, _, h, _ => by simp at h

theorem str_ne {x y : ByteArray} (h : ¬ x = y) : (x.toList == y.toList) = false := by
  rw [ByteArray.toList_eq, ByteArray.toList_eq, beq_eq_false_iff_ne]
  intro e
  exact h (by cases x; cases y; simp at e; subst e; rfl)

set_option maxRecDepth 100000 in
set_option maxHeartbeats 2000000 in
theorem file_any (v : Value) (vals : List Value) (fs : List (ByteArray × List Nat)) (nm : ByteArray) (w : World) (h : FilesR w v vals fs) (hl : fs.length ≤ 1000000) :
    Calls Tryz.prog 13 #[v, .string nm] w fun e w' => e = .returned (.tuple #[(lookF fs vals nm).getD (.slice none 0 0), .bool (lookF fs vals nm).isSome]) ∧ ∃ N, w' = w.drewN N := by
  obtain ⟨hv, p, c, rfl, hc⟩ := h
  have HV := hide hv
  have HC := hide hc
  obtain ⟨n, hn⟩ : ∃ n, fs.length = n := ⟨_, rfl⟩
  have HL := hide hn
  rw [hn] at hl ⊢
  clear hv hc hn
  go_enter Tryz.func13, Tryz.ntmps13
  go_wp2_with fail
  go_loopw [6] (fun t6 wr => ∃ (k N : Nat), t6 = .int .i64 (k : Int) ∧ wr = w.drewN N ∧ Hid (k ≤ n ∧ lookF fs vals nm = lookF (fs.drop k) (vals.drop k) nm)) (fun t6 _ => n - (intOf t6).toNat)
  case atStart => exact ⟨0, 0, rfl, rfl, Nat.zero_le _, by simp⟩
  case round =>
    obtain ⟨k, N, rfl, rfl, hI⟩ := hrel
    by_cases hlt : k < n
    · have hlt' : (k : Int) < (n : Int) := by omega
      obtain ⟨g, o, rfl, k1, k2⟩ := HC.out k (by rw [HL.out]; exact hlt)
      have hst := lookF_step fs vals nm k HV.out (by rw [HL.out]; exact hlt)
      obtain ⟨x, hx⟩ : ∃ x, (fs.getD k (.empty, [])).1 = x := ⟨_, rfl⟩
      obtain ⟨u, hu⟩ : ∃ u, vals.getD k (.slice none 0 0) = u := ⟨_, rfl⟩
      rw [hx] at k1 hst
      rw [hu] at k2 hst
      have l1 : (w.drewN N).cell? ⟨g, o + k * 2, none⟩ = some (.string x) := k1
      have l2 : (w.drewN N).cell? ⟨g, o + k * 2 + 1, none⟩ = some u := k2
      have HN : Hid (k + 1 ≤ n) := hlt
      have HI : Hid (lookF fs vals nm = if x = nm then some u else lookF (fs.drop (k + 1)) (vals.drop (k + 1)) nm) := hI.out.2.trans hst
      obtain ⟨wn, hwn⟩ : ∃ wn, w.drewN N = wn := ⟨_, rfl⟩
      rw [hwn] at l1 l2 ⊢
      have HWN := hide hwn
      clear hwn k1 k2 hI hst hx hu
      by_cases he : x = nm
      · subst he
        have HR : Hid (lookF fs vals x = some u) := by have := HI.out; rw [if_pos rfl] at this; exact this
        clear HI
        go_wp2_with fail
        go_ret2
        exact ⟨by rw [HR.out]; rfl, N, HWN.out.symm⟩
      · have HR : Hid (lookF fs vals nm = lookF (fs.drop (k + 1)) (vals.drop (k + 1)) nm) := by have := HI.out; rw [if_neg he] at this; exact this
        have hne := str_ne he
        clear HI
        go_wp2_with (simp only [hne])
        go_roundw
        case rel => exact ⟨k + 1, N, by simp, HWN.out.symm, HN.out, HR.out⟩
        case measure => simp [intOf]; omega
    · have hlt' : ¬ (k : Int) < (n : Int) := by omega
      have HR : Hid (lookF fs vals nm = none) := by
        have h1 := hI.out.2
        rw [List.drop_eq_nil_of_le (by have := HL.out; omega)] at h1
        rw [h1]
        show lookF [] _ nm = none
        cases vals.drop k <;> rfl
      go_wp2_with fail
      go_ret2
      exact ⟨by rw [HR.out]; rfl, N, rfl⟩

end Go.Proofs.YtlandfghodfjdaaGreat

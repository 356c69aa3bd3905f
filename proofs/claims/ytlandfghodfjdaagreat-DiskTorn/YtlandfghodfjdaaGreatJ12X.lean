/- The law's size: how many bytes a call hands in. -/
import Derived.Test.YtlandfghodfjdaaGreatJ12U
/- The law's file: a file's bytes among files. -/
namespace Go.Proofs.YtlandfghodfjdaaGreat
open Go.RowKit
set_option linter.unusedVariables false
set_option linter.unusedSimpArgs false

/-- Files that lie somewhere, to be read. -/
def FilesR (w : World) (v : Value) (vals : List Value) (fs : List (ByteArray × List Nat)) : Prop := vals.length = fs.length ∧ ∃ p c, v = .slice p fs.length c ∧ ∀ i, i < fs.length → ∃ g o, p = some ⟨g, o, none⟩ ∧ w.cell? ⟨g, o + i * 2, none⟩ = some (.string (fs.getD i (.empty, [])).1) ∧ w.cell? ⟨g, o + i * 2 + 1, none⟩ = some (vals.getD i (.slice none 0 0))

def lookF : List (ByteArray × List Nat) → List Value → ByteArray → Option Value
  | x :: fs, u :: us, n => if x.1 = n then some u else lookF fs us n
  | _, _, _ => none

theorem lookF_step : ∀ (fs : List (ByteArray × List Nat)) (us : List Value) (n : ByteArray) (k : Nat), us.length = fs.length → k < fs.length → lookF (fs.drop k) (us.drop k) n = if (fs.getD k (.empty, [])).1 = n then some (us.getD k (.slice none 0 0)) else lookF (fs.drop (k + 1)) (us.drop (k + 1)) n
  | x :: fs, u :: us, n, 0, _, _ => rfl
  | x :: fs, u :: us, n, k + 1, h1, h2 => by simpa using lookF_step fs us n k (by simpa using h1) (by simpa using h2)
  | [], _, _, _, _, h => by simp at h
  | _ :: _, [], _, _, h, _ => by simp at h

theorem str_ne {x y : ByteArray} (h : ¬ x = y) : (x.toList == y.toList) = false := by
  rw [ByteArray.toList_eq, ByteArray.toList_eq, beq_eq_false_iff_ne]
  intro e
  exact h (by cases x; cases y; simp at e; subst e; rfl)

set_option maxRecDepth 100000 in
set_option maxHeartbeats 2000000 in
theorem file_any (v : Value) (vals : List Value) (fs : List (ByteArray × List Nat)) (nm : ByteArray) (w : World) (h : FilesR w v vals fs) (hl : fs.length ≤ 1000000) :
    Calls Tryz.prog 13 #[v, .string nm] w fun e w' => e = .returned (.tuple #[(lookF fs vals nm).getD (.slice none 0 0), .bool (lookF fs vals nm).isSome]) ∧ ∃ N, w' = w.drewN N := by
  obtain ⟨hv, p, c, rfl, hc⟩ := h
  have HV := hide hv
  have HC := hide hc
  obtain ⟨n, hn⟩ : ∃ n, fs.length = n := ⟨_, rfl⟩
  have HL := hide hn
  rw [hn] at hl ⊢
  clear hv hc hn
  go_enter Tryz.func13, Tryz.ntmps13
  go_wp2_with fail
  go_loopw [6] (fun t6 wr => ∃ (k N : Nat), t6 = .int .i64 (k : Int) ∧ wr = w.drewN N ∧ Hid (k ≤ n ∧ lookF fs vals nm = lookF (fs.drop k) (vals.drop k) nm)) (fun t6 _ => n - (intOf t6).toNat)
  case atStart => exact ⟨0, 0, rfl, rfl, Nat.zero_le _, by simp⟩
  case round =>
    obtain ⟨k, N, rfl, rfl, hI⟩ := hrel
    by_cases hlt : k < n
    · have hlt' : (k : Int) < (n : Int) := by omega
      obtain ⟨g, o, rfl, k1, k2⟩ := HC.out k (by rw [HL.out]; exact hlt)
      have hst := lookF_step fs vals nm k HV.out (by rw [HL.out]; exact hlt)
      obtain ⟨x, hx⟩ : ∃ x, (fs.getD k (.empty, [])).1 = x := ⟨_, rfl⟩
      obtain ⟨u, hu⟩ : ∃ u, vals.getD k (.slice none 0 0) = u := ⟨_, rfl⟩
      rw [hx] at k1 hst
      rw [hu] at k2 hst
      have l1 : (w.drewN N).cell? ⟨g, o + k * 2, none⟩ = some (.string x) := k1
      have l2 : (w.drewN N).cell? ⟨g, o + k * 2 + 1, none⟩ = some u := k2
      have HN : Hid (k + 1 ≤ n) := hlt
      have HI : Hid (lookF fs vals nm = if x = nm then some u else lookF (fs.drop (k + 1)) (vals.drop (k + 1)) nm) := hI.out.2.trans hst
      obtain ⟨wn, hwn⟩ : ∃ wn, w.drewN N = wn := ⟨_, rfl⟩
      rw [hwn] at l1 l2 ⊢
      have HWN := hide hwn
      clear hwn k1 k2 hI hst hx hu
      by_cases he : x = nm
      · subst he
        have HR : Hid (lookF fs vals x = some u) := by have := HI.out; rw [if_pos rfl] at this; exact this
        clear HI
        go_wp2_with fail
        go_ret2
        exact ⟨by rw [HR.out]; rfl, N, HWN.out.symm⟩
      · have HR : Hid (lookF fs vals nm = lookF (fs.drop (k + 1)) (vals.drop (k + 1)) nm) := by have := HI.out; rw [if_neg he] at this; exact this
        have hne := str_ne he
        clear HI
        go_wp2_with (simp only [hne])
        go_roundw
        case rel => exact ⟨k + 1, N, by simp, HWN.out.symm, HN.out, HR.out⟩
        case measure => simp [intOf]; omega
    · have hlt' : ¬ (k : Int) < (n : Int) := by omega
      have HR : Hid (lookF fs vals nm = none) := by
        have h1 := hI.out.2
        rw [List.drop_eq_nil_of_le (by have := HL.out; omega)] at h1
        rw [h1]
        show lookF [] _ nm = none
        cases vals.drop k <;> rfl
      go_wp2_with fail
      go_ret2
      exact ⟨by rw [HR.out]; rfl, N, rfl⟩

end Go.Proofs.YtlandfghodfjdaaGreat

namespace Go.Proofs.YtlandfghodfjdaaGreat
open Go.RowKit
set_option linter.unusedVariables false
set_option linter.unusedSimpArgs false

/-- A call as a value. -/
def opV (dw on : Int) (nm tt : ByteArray) (b : Value) (n kp ls : Int) (fl : Value) : Value := .agg #[.int .i64 dw, .int .i64 on, .string nm, .string tt, b, .int .i64 n, .int .i64 kp, .int .i64 ls, fl]

theorem cell_bel {w w' : World} (hb : Below w.heap.size w w') {a : Addr} {v : Value} (h : w.cell? a = some v) : w'.cell? a = some v := by
  rw [hb.cell]
  · exact h
  · rcases Nat.lt_or_ge a.block w.heap.size with h1 | h1
    · exact h1
    · have h2 : w.heap[a.block]? = none := by simp [h1]
      simp [World.cell?, h2] at h
theorem FilesR.below {w w' : World} {v : Value} {vals : List Value} {fs : List (ByteArray × List Nat)} (h : FilesR w v vals fs) (hb : Below w.heap.size w w') : FilesR w' v vals fs := by
  obtain ⟨h1, p, c, h2, h3⟩ := h
  refine ⟨h1, p, c, h2, fun i hi => ?_⟩
  obtain ⟨g, o, e, k1, k2⟩ := h3 i hi
  exact ⟨g, o, e, cell_bel hb k1, cell_bel hb k2⟩

set_option maxRecDepth 100000 in
set_option maxHeartbeats 2000000 in
theorem size10_any (dw on : Int) (nm tt : ByteArray) (pb : Option Addr) (nb cb : Nat) (n kp ls : Int) (fl : Value) (vals : List Value) (fs : List (ByteArray × List Nat)) (w : World) (h : FilesR w fl vals fs) (hl : fs.length ≤ 281474976710656)
    (hb : nb ≤ 281474976710656) (h1 : nm.size ≤ 281474976710656) (h2 : tt.size ≤ 281474976710656) (hf : ∀ i, i < fs.length → (fs.getD i (.empty, [])).1.size ≤ 281474976710656 ∧ ∃ p k c, vals.getD i (.slice none 0 0) = .slice p k c ∧ k ≤ 281474976710656) :
    Calls Tryz.prog 9 #[opV dw on nm tt (.slice pb nb cb) n kp ls fl] w fun e w' => (∃ r : Nat, e = .returned (.int .i64 (r : Int)) ∧ nb + nm.size + tt.size ≤ r ∧ r ≤ 1000000000000000) ∧ Below w.heap.size w w' := by
  obtain ⟨p, c, hfl⟩ : ∃ p c, fl = .slice p fs.length c := by obtain ⟨_, p, c, e, _⟩ := h; exact ⟨p, c, e⟩
  subst hfl
  have HC := hide h
  have HF := hide hf
  obtain ⟨m, hn⟩ : ∃ m, fs.length = m := ⟨_, rfl⟩
  have HL := hide hn
  rw [hn] at hl ⊢
  clear h hn hf
  unfold opV
  go_enter Tryz.func9, Tryz.ntmps9
  go_wp2_with fail
  have hbw : Below w.heap.size w (w.alloc (.cells #[.int .i64 dw, .int .i64 on, .string nm, .string tt, .slice pb nb cb, .int .i64 n, .int .i64 kp, .int .i64 ls, .slice p m c] 36)) := (Below.refl _ _).alloc (Nat.le_refl _) _
  have HO := hide (heap_alloc_new w (.cells #[.int .i64 dw, .int .i64 on, .string nm, .string tt, .slice pb nb cb, .int .i64 n, .int .i64 kp, .int .i64 ls, .slice p m c] 36))
  have HBW := hide hbw
  obtain ⟨wa, hwa⟩ : ∃ wa, w.alloc (.cells #[.int .i64 dw, .int .i64 on, .string nm, .string tt, .slice pb nb cb, .int .i64 n, .int .i64 kp, .int .i64 ls, .slice p m c] 36) = wa := ⟨_, rfl⟩
  rw [hwa] at HO HBW ⊢
  have HA : Hid (FilesR wa (.slice p fs.length c) vals fs) := HC.out.below HBW.out
  obtain ⟨s0, hs0⟩ : ∃ s0 : Nat, nb + nm.size + tt.size = s0 := ⟨_, rfl⟩
  have hs1 : (nb : Int) + (nm.size : Int) + (tt.size : Int) = (s0 : Int) := by omega
  have hs2 : s0 ≤ 844424930131968 := by omega
  rw [hs1]
  have HS0 := hide hs0
  clear hwa hbw HC hs0 hs1
  go_loopw [3, 4] (fun t3 t4 wr => ∃ (r k N : Nat), t3 = .int .i64 (r : Int) ∧ t4 = .int .i64 (k : Int) ∧ wr = wa.drewN N ∧ k ≤ m ∧ s0 ≤ r ∧ r ≤ 1000000000000000) (fun _ t4 _ => m - (intOf t4).toNat)
  case atStart => exact ⟨s0, 0, 0, rfl, rfl, rfl, Nat.zero_le _, Nat.le_refl _, by omega⟩
  case round =>
    obtain ⟨r, k, N, rfl, rfl, rfl, hk, hr1, hr2⟩ := hrel
    have lf : (wa.drewN N).cell? ⟨w.heap.size, 8, none⟩ = some (.slice p m c) := cell_of_row _ _ _ _ _ _ HO.out
    have HB2 : Hid (Below w.heap.size w (wa.drewN N)) := ⟨HBW.out.os, HBW.out.tape, HBW.out.output, HBW.out.size, HBW.out.block⟩
    by_cases hlt : k < m
    · have hlt' : (k : Int) < (m : Int) := by omega
      by_cases hm : r ≤ 524288
      · have hm' : (r : Int) ≤ 524288 := by omega
        obtain ⟨hv, p', c', e', hcc⟩ := HA.out
        obtain ⟨g, o, hp, k1, k2⟩ := hcc k (by rw [HL.out]; exact hlt)
        simp only [Value.slice.injEq] at e'
        obtain ⟨rfl, -, rfl⟩ := e'
        subst hp
        obtain ⟨f1, px, nx, cx, f2, f3⟩ := HF.out k (by rw [HL.out]; exact hlt)
        rw [f2] at k2
        obtain ⟨x, hx⟩ : ∃ x, (fs.getD k (.empty, [])).1 = x := ⟨_, rfl⟩
        rw [hx] at k1 f1
        have l1 : (wa.drewN N).cell? ⟨g, o + k * 2, none⟩ = some (.string x) := k1
        have l2 : (wa.drewN N).cell? ⟨g, o + k * 2 + 1, none⟩ = some (.slice px nx cx) := k2
        obtain ⟨wn, hwn⟩ : ∃ wn, wa.drewN N = wn := ⟨_, rfl⟩
        rw [hwn] at l1 l2 lf ⊢
        have HWN := hide hwn
        clear hwn k1 k2 hx f2 hcc hv HB2
        go_wp2_with fail
        go_quiet (fail)
        have HD : Hid (∃ N', wn.drewN nq = wa.drewN N') := ⟨N + nq, by rw [← HWN.out]; exact World.drewN_drewN _ _ _⟩
        go_wp2_with fail
        go_roundw
        case rel => obtain ⟨N', h'⟩ := HD.out; exact ⟨r + nx + x.size + 100, k + 1, N', by simp, by simp, h', by omega, by omega, by omega⟩
        case measure => simp [intOf]; omega
      · have hm' : ¬ (r : Int) ≤ 524288 := by omega
        go_wp2_with fail
        go_ret
        exact ⟨⟨r, rfl, by rw [HS0.out]; exact hr1, hr2⟩, HB2.out⟩
    · have hlt' : ¬ (k : Int) < (m : Int) := by omega
      go_wp2_with fail
      go_ret
      exact ⟨⟨r, rfl, by rw [HS0.out]; exact hr1, hr2⟩, HB2.out⟩

end Go.Proofs.YtlandfghodfjdaaGreat

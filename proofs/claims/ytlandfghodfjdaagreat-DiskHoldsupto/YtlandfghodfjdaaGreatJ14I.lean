/- How many bytes files have, as the law's size tells it; its sums. -/
import Derived.Test.YtlandfghodfjdaaGreatJ14D
namespace Go.Proofs.YtlandfghodfjdaaGreat
open Go.RowKit
set_option linter.unusedVariables false
set_option linter.unusedSimpArgs false

set_option maxRecDepth 100000 in
set_option maxHeartbeats 2000000 in
theorem size10_tot (dw on : Int) (nm tt : ByteArray) (pb : Option Addr) (nb cb : Nat) (n kp ls : Int) (fl : Value) (vals : List Value) (fs : List (ByteArray × List Nat)) (w : World) (h : FilesR w fl vals fs) (hl : fs.length ≤ 281474976710656)
    (hb : nb ≤ 281474976710656) (h1 : nm.size ≤ 281474976710656) (h2 : tt.size ≤ 281474976710656) (hf : ∀ i, i < fs.length → (fs.getD i (.empty, [])).1.size ≤ 281474976710656 ∧ ∃ p k c, vals.getD i (.slice none 0 0) = .slice p k c ∧ k ≤ 281474976710656 ∧ k = (fs.getD i (.empty, [])).2.length) :
    Calls Tryz.prog 9 #[opV dw on nm tt (.slice pb nb cb) n kp ls fl] w fun e w' => (∃ r : Nat, e = .returned (.int .i64 (r : Int)) ∧ (r ≤ 524288 → totB fs ≤ r) ∧ r ≤ 1000000000000000) ∧ Below w.heap.size w w' := by
  obtain ⟨p, c, hfl⟩ : ∃ p c, fl = .slice p fs.length c := by obtain ⟨_, p, c, e, _⟩ := h; exact ⟨p, c, e⟩
  subst hfl
  have HC := hide h
  have HF := hide hf
  obtain ⟨m, hn⟩ : ∃ m, fs.length = m := ⟨_, rfl⟩
  have HL := hide hn
  rw [hn] at hl ⊢
  clear h hn hf
  unfold opV
  go_enter Tryz.func9, Tryz.ntmps9
  go_wp2_with fail
  have hbw : Below w.heap.size w (w.alloc (.cells #[.int .i64 dw, .int .i64 on, .string nm, .string tt, .slice pb nb cb, .int .i64 n, .int .i64 kp, .int .i64 ls, .slice p m c] 36)) := (Below.refl _ _).alloc (Nat.le_refl _) _
  have HO := hide (heap_alloc_new w (.cells #[.int .i64 dw, .int .i64 on, .string nm, .string tt, .slice pb nb cb, .int .i64 n, .int .i64 kp, .int .i64 ls, .slice p m c] 36))
  have HBW := hide hbw
  obtain ⟨wa, hwa⟩ : ∃ wa, w.alloc (.cells #[.int .i64 dw, .int .i64 on, .string nm, .string tt, .slice pb nb cb, .int .i64 n, .int .i64 kp, .int .i64 ls, .slice p m c] 36) = wa := ⟨_, rfl⟩
  rw [hwa] at HO HBW ⊢
  have HA : Hid (FilesR wa (.slice p fs.length c) vals fs) := HC.out.below HBW.out
  obtain ⟨s0, hs0⟩ : ∃ s0 : Nat, nb + nm.size + tt.size = s0 := ⟨_, rfl⟩
  have hs1 : (nb : Int) + (nm.size : Int) + (tt.size : Int) = (s0 : Int) := by omega
  have hs2 : s0 ≤ 844424930131968 := by omega
  rw [hs1]
  have HS0 := hide hs0
  clear hwa hbw HC hs0 hs1
  go_loopw [3, 4] (fun t3 t4 wr => ∃ (r k N : Nat), t3 = .int .i64 (r : Int) ∧ t4 = .int .i64 (k : Int) ∧ wr = wa.drewN N ∧ k ≤ m ∧ (s0 ≤ r ∧ Hid (totB (fs.take k) ≤ r)) ∧ r ≤ 1000000000000000) (fun _ t4 _ => m - (intOf t4).toNat)
  case atStart => exact ⟨s0, 0, 0, rfl, rfl, rfl, Nat.zero_le _, ⟨Nat.le_refl _, by show totB [] ≤ _; simp [totB]⟩, by omega⟩
  case round =>
    obtain ⟨r, k, N, rfl, rfl, rfl, hk, ⟨hr1, HTB⟩, hr2⟩ := hrel
    have lf : (wa.drewN N).cell? ⟨w.heap.size, 8, none⟩ = some (.slice p m c) := cell_of_row _ _ _ _ _ _ HO.out
    have HB2 : Hid (Below w.heap.size w (wa.drewN N)) := ⟨HBW.out.os, HBW.out.tape, HBW.out.output, HBW.out.size, HBW.out.block⟩
    by_cases hlt : k < m
    · have hlt' : (k : Int) < (m : Int) := by omega
      by_cases hm : r ≤ 524288
      · have hm' : (r : Int) ≤ 524288 := by omega
        obtain ⟨hv, p', c', e', hcc⟩ := HA.out
        obtain ⟨g, o, hp, k1, k2⟩ := hcc k (by rw [HL.out]; exact hlt)
        simp only [Value.slice.injEq] at e'
        obtain ⟨rfl, -, rfl⟩ := e'
        subst hp
        obtain ⟨f1, px, nx, cx, f2, f3, f4⟩ := HF.out k (by rw [HL.out]; exact hlt)
        have HTN : Hid (totB (fs.take (k + 1)) = totB (fs.take k) + nx) := by
          have hk' : k < fs.length := by rw [HL.out]; exact hlt
          show _ = _
          rw [List.take_add_one, List.getElem?_eq_getElem hk', totB_app, f4]
          simp [totB, List.getD, List.getElem?_eq_getElem hk']
        clear f4
        rw [f2] at k2
        obtain ⟨x, hx⟩ : ∃ x, (fs.getD k (.empty, [])).1 = x := ⟨_, rfl⟩
        rw [hx] at k1 f1
        have l1 : (wa.drewN N).cell? ⟨g, o + k * 2, none⟩ = some (.string x) := k1
        have l2 : (wa.drewN N).cell? ⟨g, o + k * 2 + 1, none⟩ = some (.slice px nx cx) := k2
        obtain ⟨wn, hwn⟩ : ∃ wn, wa.drewN N = wn := ⟨_, rfl⟩
        rw [hwn] at l1 l2 lf ⊢
        have HWN := hide hwn
        clear hwn k1 k2 hx f2 hcc hv HB2
        go_wp2_with fail
        go_quiet (fail)
        have HD : Hid (∃ N', wn.drewN nq = wa.drewN N') := ⟨N + nq, by rw [← HWN.out]; exact World.drewN_drewN _ _ _⟩
        go_wp2_with fail
        go_roundw
        case rel => obtain ⟨N', h'⟩ := HD.out; exact ⟨r + nx + x.size + 100, k + 1, N', by simp, by simp, h', by omega, ⟨by omega, by have h1 := HTN.out; have h2 := HTB.out; show _ ≤ _; omega⟩, by omega⟩
        case measure => simp [intOf]; omega
      · have hm' : ¬ (r : Int) ≤ 524288 := by omega
        go_wp2_with fail
        go_ret
        exact ⟨⟨r, rfl, fun h => absurd h hm, hr2⟩, HB2.out⟩
    · have HTK : Hid (totB (fs.take k) = totB fs) := by show _ = _; rw [List.take_of_length_le (by rw [HL.out]; omega)]
      have hlt' : ¬ (k : Int) < (m : Int) := by omega
      go_wp2_with fail
      go_ret
      exact ⟨⟨r, rfl, fun _ => by rw [← HTK.out]; exact HTB.out, hr2⟩, HB2.out⟩

set_option maxRecDepth 100000 in
set_option maxHeartbeats 2000000 in
theorem sums_any (v : Value) (vals : List Value) (fs : List (ByteArray × List Nat)) (w : World) (h : FilesR w v vals fs) (hl : fs.length ≤ 1000000) (hf : ∀ i, i < fs.length → ∃ p k c, vals.getD i (.slice none 0 0) = .slice p k c ∧ k = (fs.getD i (.empty, [])).2.length) (ht : totB fs ≤ 1000000000000) :
    Calls Tryz.prog 16 #[v] w fun e w' => e = .returned (.int .i64 (totB fs : Nat)) ∧ ∃ N, w' = w.drewN N := by
  obtain ⟨hv, p, c, rfl, hc⟩ := h
  have HC := hide hc
  have HF := hide hf
  obtain ⟨n, hn⟩ : ∃ n, fs.length = n := ⟨_, rfl⟩
  have HL := hide hn
  rw [hn] at hl ⊢
  have HLE : Hid (∀ k, totB (fs.take k) ≤ totB fs) := fun k => by
    conv => rhs; rw [← List.take_append_drop k fs, totB_app]
    omega
  clear hv hc hf hn
  go_enter Tryz.func16, Tryz.ntmps16
  go_wp2_with fail
  go_loopw [3, 4] (fun t3 t4 wr => ∃ (r k N : Nat), t3 = .int .i64 (r : Int) ∧ t4 = .int .i64 (k : Int) ∧ wr = w.drewN N ∧ k ≤ n ∧ r ≤ 1000000000000 ∧ Hid (r = totB (fs.take k))) (fun _ t4 _ => n - (intOf t4).toNat)
  case atStart => exact ⟨0, 0, 0, rfl, rfl, rfl, Nat.zero_le _, Nat.zero_le _, rfl⟩
  case round =>
    obtain ⟨r, k, N, rfl, rfl, rfl, hk, hr, HR⟩ := hrel
    by_cases hlt : k < n
    · have hlt' : (k : Int) < (n : Int) := by omega
      obtain ⟨g, o, rfl, k1, k2⟩ := HC.out k (by rw [HL.out]; exact hlt)
      obtain ⟨px, nx, cx, f2, f3⟩ := HF.out k (by rw [HL.out]; exact hlt)
      rw [f2] at k2
      have l2 : (w.drewN N).cell? ⟨g, o + k * 2 + 1, none⟩ = some (.slice px nx cx) := k2
      have hk' : k < fs.length := by rw [HL.out]; exact hlt
      have HTN : Hid (r + nx = totB (fs.take (k + 1))) := by
        show _ = _
        rw [List.take_add_one, List.getElem?_eq_getElem hk', totB_app, f3, HR.out]
        simp [totB, List.getD, List.getElem?_eq_getElem hk']
      have hb : r + nx ≤ 1000000000000 := by have h1 := HTN.out; have h2 := HLE.out (k + 1); omega
      obtain ⟨wn, hwn⟩ : ∃ wn, w.drewN N = wn := ⟨_, rfl⟩
      rw [hwn] at l2 ⊢
      have HWN := hide hwn
      clear hwn k1 k2 f2 f3 hk'
      go_wp2_with fail
      go_roundw
      case rel => exact ⟨r + nx, k + 1, N, by simp, by simp, HWN.out.symm, by omega, hb, HTN.out⟩
      case measure => simp [intOf]; omega
    · have hlt' : ¬ (k : Int) < (n : Int) := by omega
      have HE : Hid (r = totB fs) := by have h := HR.out; rw [List.take_of_length_le (by rw [HL.out]; omega)] at h; exact h
      go_wp2_with fail
      go_ret
      exact ⟨by rw [HE.out]; rfl, N, rfl⟩

end Go.Proofs.YtlandfghodfjdaaGreat

/- Equal records. -/
import Derived.Test.YtgmahgfelbkoeaaDoorJ4C
import Derived.Deep.CutBlock
import Derived.Deep.DeepCutAuto
import Derived.Deep.CutRange
namespace Go.Proofs.YtgmahgfelbkoeaaDoor
open Go.RowKit
set_option linter.unusedVariables false
set_option linter.unusedSimpArgs false

/-- Rows, records as they are read. -/
def RowA (w : World) (v : Value) (rs : List (List Nat)) : Prop := ∃ p c, v = .slice p rs.length c ∧ ∀ i, i < rs.length → ∃ g u, p = some ⟨g, 0, none⟩ ∧ w.cell? ⟨g, i, none⟩ = some u ∧ IsBy w u (rs.getD i [])
def RecA (w : World) (v : Value) (rr : List (List (List Nat))) : Prop := ∃ p c, v = .slice p rr.length c ∧ ∀ i, i < rr.length → ∃ g u, p = some ⟨g, 0, none⟩ ∧ w.cell? ⟨g, i, none⟩ = some u ∧ RowA w u (rr.getD i [])

theorem rowA_of {w : World} {lo : Nat} {v : Value} {rs : List (List Nat)} {vals : List Value} (h1 : w.ownsRow lo 38 1 v rs.length vals) (h3 : vals.length = rs.length) (h4 : ∀ i u, vals[i]? = some u → IsBy w u (rs.getD i [])) : RowA w v rs := by
  by_cases h0 : 0 < rs.length
  · obtain ⟨g, c, rfl, h5⟩ := own_at h1 h0
    refine ⟨_, c, rfl, fun i hi => ?_⟩
    have hiv : i < vals.length := by omega
    have hv : vals[i]? = some vals[i] := List.getElem?_eq_getElem hiv
    exact ⟨g, vals[i], rfl, h5 i _ hi hv, h4 i _ hv⟩
  · rcases h1.2 with ⟨e1, e2⟩ | ⟨g, cap, cur, e1, _⟩
    · exact ⟨none, 0, by rw [e1]; congr 1; omega, fun i hi => by omega⟩
    · exact ⟨_, _, e1, fun i hi => by omega⟩

theorem recA_of {w : World} {lo : Nat} {v : Value} {rr : List (List (List Nat))} {vals : List Value} (h1 : w.ownsRow lo 35 1 v rr.length vals) (h3 : vals.length = rr.length) (h4 : ∀ i u, vals[i]? = some u → RowA w u (rr.getD i [])) : RecA w v rr := by
  by_cases h0 : 0 < rr.length
  · obtain ⟨g, c, rfl, h5⟩ := own_at h1 h0
    refine ⟨_, c, rfl, fun i hi => ?_⟩
    have hiv : i < vals.length := by omega
    have hv : vals[i]? = some vals[i] := List.getElem?_eq_getElem hiv
    exact ⟨g, vals[i], rfl, h5 i _ hi hv, h4 i _ hv⟩
  · rcases h1.2 with ⟨e1, e2⟩ | ⟨g, cap, cur, e1, _⟩
    · exact ⟨none, 0, by rw [e1]; congr 1; omega, fun i hi => by omega⟩
    · exact ⟨_, _, e1, fun i hi => by omega⟩

theorem RowsAt.a {w : World} {lo hi : Nat} {v : Value} {rs : List (List Nat)} (h : RowsAt w lo hi v rs) : RowA w v rs := by
  obtain ⟨vals, h1, _, h3, h4⟩ := h
  exact rowA_of h1 h3 fun i u hu => (h4 i u hu).1
theorem RecsAt.a {w : World} {lo hi : Nat} {v : Value} {rr : List (List (List Nat))} (h : RecsAt w lo hi v rr) : RecA w v rr := by
  obtain ⟨vals, h1, _, h3, h4⟩ := h
  exact recA_of h1 h3 fun i u hu => (h4 i u hu).a
theorem RowA.parts {w : World} {p : Option Addr} {m c : Nat} {rs : List (List Nat)} (h : RowA w (.slice p m c) rs) : m = rs.length ∧ PartsOf w p m (fun i => rs.getD i []) := by
  obtain ⟨p', c', e, k⟩ := h
  simp only [Value.slice.injEq] at e
  obtain ⟨rfl, rfl, rfl⟩ := e
  exact ⟨rfl, fun i hi => by obtain ⟨g, u, e1, e2, e3⟩ := k i hi; exact ⟨g, 0, u, e1, by rw [Nat.zero_add]; exact e2, e3⟩⟩

set_option maxRecDepth 100000 in
set_option maxHeartbeats 4000000 in
theorem eqRows_same (va vb : Value) (rr : List (List (List Nat))) (w : World) (ha : RecA w va rr) (hb : RecA w vb rr) (hl : rr.length ≤ 1000000) (hrs : ∀ r ∈ rr, r.length ≤ 1000000 ∧ ∀ x ∈ r, x.length ≤ 140737488355328) :
    Calls Tryd.prog 16 #[va, vb] w fun e w' => e = .returned (.bool true) ∧ ∃ N, w' = w.drewN N := by
  obtain ⟨pa, ca, rfl, ka⟩ := ha
  obtain ⟨pb, cb, rfl, kb⟩ := hb
  have HA := hide ka
  have HB := hide kb
  have HR : Hid (∀ i, i < rr.length → (rr.getD i []).length ≤ 1000000 ∧ ∀ j, j < (rr.getD i []).length → ((rr.getD i []).getD j []).length ≤ 140737488355328) := fun i hi => by
    have h1 := hrs (rr.getD i []) (by rw [List.getD_eq_getElem?_getD, List.getElem?_eq_getElem hi]; exact List.getElem_mem hi)
    generalize rr.getD i [] = r at h1 ⊢
    exact ⟨h1.1, fun j hj => h1.2 _ (by rw [List.getD_eq_getElem?_getD, List.getElem?_eq_getElem hj]; exact List.getElem_mem hj)⟩
  obtain ⟨n, hn⟩ : ∃ n, rr.length = n := ⟨_, rfl⟩
  rw [hn] at HA HB HR hl ⊢
  clear ka kb hn hrs
  go_enter Tryd.func16, Tryd.ntmps16
  go_wp2_with fail
  go_loopw [5] (fun t5 wr => ∃ (k N : Nat), t5 = .int .i64 (k : Int) ∧ wr = w.drewN N ∧ Hid (k ≤ n)) (fun t5 _ => n - (intOf t5).toNat)
  case atStart => exact ⟨0, 0, rfl, rfl, Nat.zero_le _⟩
  case round =>
    obtain ⟨k, N, rfl, rfl, hI⟩ := hrel
    by_cases hlt : k < n
    · have hlt' : (k : Int) < (n : Int) := by omega
      obtain ⟨ga, ua, ea, k1, r1⟩ := HA.out k hlt
      obtain ⟨gb, ub, eb, k2, r2⟩ := HB.out k hlt
      subst ea
      subst eb
      obtain ⟨pua, cua, hua, ma⟩ := r1
      obtain ⟨pub, cub, hub, mb⟩ := r2
      have HRK := hide (HR.out k hlt)
      obtain ⟨rs, hrs⟩ : ∃ rs, rr.getD k [] = rs := ⟨_, rfl⟩
      rw [hrs] at hua hub ma mb HRK
      obtain ⟨m, hm⟩ : ∃ m, rs.length = m := ⟨_, rfl⟩
      rw [hm] at hua hub ma mb HRK
      subst hua
      subst hub
      have hm6 : m ≤ 1000000 := HRK.out.1
      have HMA := hide ma
      have HMB := hide mb
      have HN : Hid (k + 1 ≤ n) := hlt
      have HK1 : Hid (∀ M, (w.drewN M).cell? ⟨ga, k, none⟩ = some (.slice pua m cua) ∧ (w.drewN M).cell? ⟨gb, k, none⟩ = some (.slice pub m cub)) := fun M => ⟨k1, k2⟩
      obtain ⟨wn, hwn⟩ : ∃ wn, w.drewN N = wn := ⟨_, rfl⟩
      have l1 : wn.cell? ⟨ga, k, none⟩ = some (.slice pua m cua) := by rw [← hwn]; exact k1
      have l2 : wn.cell? ⟨gb, k, none⟩ = some (.slice pub m cub) := by rw [← hwn]; exact k2
      rw [hwn]
      have HWN := hide hwn
      clear hwn k1 k2 hI ma mb hrs hm
      go_wp2_with fail
      go_quiet (fail)
      have HD : Hid (∃ N', wn.drewN nq = w.drewN N') := ⟨N + nq, by rw [← HWN.out]; exact World.drewN_drewN _ _ _⟩
      obtain ⟨N', h'⟩ := HD.out
      rw [h']
      clear h' HD HWN l1 l2
      go_wp2_with fail
      go_loopw [6] (fun t6 wr => ∃ (j M : Nat), t6 = .int .i64 (j : Int) ∧ wr = w.drewN M ∧ Hid (j ≤ m)) (fun t6 _ => m - (intOf t6).toNat)
      case atStart => exact ⟨0, N', rfl, rfl, Nat.zero_le _⟩
      case round =>
        obtain ⟨j, M, rfl, rfl, hJ⟩ := hrel
        obtain ⟨l1, l2⟩ := HK1.out M
        by_cases hjm : j < m
        · have hjm' : (j : Int) < (m : Int) := by omega
          obtain ⟨gua, va, ea, k3, b1⟩ := HMA.out j hjm
          obtain ⟨gub, vb, eb, k4, b2⟩ := HMB.out j hjm
          subst ea
          subst eb
          have HE : Hid (∀ M, Calls Tryd.prog 30 #[va, vb] (w.drewN M) fun e w' => e = .returned (.bool true) ∧ ∃ N, w' = (w.drewN M).drewN N) := fun M => eq_same va vb _ (w.drewN M) (isBy_heap b1 rfl) (isBy_heap b2 rfl) (HRK.out.2 j hjm)
          obtain ⟨pv1, cv1, hv1, _⟩ := by_slice b1
          obtain ⟨pv2, cv2, hv2, _⟩ := by_slice b2
          obtain ⟨nv, hnv⟩ : ∃ nv, (rs.getD j []).length = nv := ⟨_, rfl⟩
          rw [hnv] at hv1 hv2
          subst hv1
          subst hv2
          have l3 : (w.drewN M).cell? ⟨gua, j, none⟩ = some (.slice pv1 nv cv1) := k3
          have l4 : (w.drewN M).cell? ⟨gub, j, none⟩ = some (.slice pv2 nv cv2) := k4
          have HJ : Hid (j + 1 ≤ m) := hjm
          obtain ⟨wn, hwn⟩ : ∃ wn, w.drewN M = wn := ⟨_, rfl⟩
          have HE2 : Hid (∀ Z, Calls Tryd.prog 30 #[.slice pv1 nv cv1, .slice pv2 nv cv2] (wn.drewN Z) fun e w' => e = .returned (.bool true) ∧ ∃ N, w' = (wn.drewN Z).drewN N) := fun Z => by rw [← hwn, World.drewN_drewN]; exact HE.out _
          rw [hwn] at l1 l2 l3 l4 ⊢
          have HWN := hide hwn
          clear hwn k3 k4 b1 b2 hJ hnv HE
          go_wp2_with fail
          go_quiet ((go_at_call 30; exact Calls.quiet_of (HE2.out _)))
          have HD : Hid (∃ N', wn.drewN nq = w.drewN N') := ⟨M + nq, by rw [← HWN.out]; exact World.drewN_drewN _ _ _⟩
          go_wp2_with fail
          go_roundw
          case rel => obtain ⟨N', h'⟩ := HD.out; exact ⟨j + 1, N', by simp, h', HJ.out⟩
          case measure => simp [intOf]; omega
        · have hjm' : ¬ (j : Int) < (m : Int) := by omega
          go_wp2_with fail
          go_roundw
          case rel => exact ⟨k + 1, M, by simp, rfl, HN.out⟩
          case measure => simp [intOf]; omega
    · have hlt' : ¬ (k : Int) < (n : Int) := by omega
      go_wp2_with fail
      go_ret
      exact ⟨rfl, N, rfl⟩

end Go.Proofs.YtgmahgfelbkoeaaDoor

/- The law's size of rows; equal bytes, equal records. -/
import Derived.Test.YtgmahgfelbkoeaaDoorJ4B
import Derived.Test.YtgmahgfelbkoeaaDoorJ2N
namespace Go.Proofs.YtgmahgfelbkoeaaDoor
open Go.RowKit
set_option linter.unusedVariables false
set_option linter.unusedSimpArgs false

/-- How much the law counts rows for. -/
def sumL (q : Nat → List Nat) : Nat → Nat
  | 0 => 0
  | k + 1 => sumL q k + (q k).length + 8

set_option maxRecDepth 100000 in
set_option maxHeartbeats 1000000 in
theorem size_any (p : Option Addr) (m cap : Nat) (q : Nat → List Nat) (w : World) (h : PartsOf w p m q) (hq : ∀ i, i < m → (q i).length ≤ 140737488355328) (hm : m ≤ 140737488355328) :
    Calls Tryd.prog 10 #[.agg #[.int .i64 0, .int .i64 0, .string { data := #[] }, .slice p m cap, .slice none 0 0, .int .i64 0, .int .i64 0, .int .i64 0]] w fun e w' => ∃ z : Nat, e = .returned (.int .i64 (z : Int)) ∧ (z = sumL q m ∨ 262144 < z) ∧ z ≤ 281474976710656 ∧ Below w.heap.size w w' := by
  have HX : Hid ((w.alloc (.cells #[.int .i64 0, .int .i64 0, .string { data := #[] }, .slice p m cap, .slice none 0 0, .int .i64 0, .int .i64 0, .int .i64 0] 40)).heap[w.heap.size]? = some (.cells #[.int .i64 0, .int .i64 0, .string { data := #[] }, .slice p m cap, .slice none 0 0, .int .i64 0, .int .i64 0, .int .i64 0] 40 (0, 0))) := heap_alloc_new _ _
  have HB0 : Hid (Below w.heap.size w (w.alloc (.cells #[.int .i64 0, .int .i64 0, .string { data := #[] }, .slice p m cap, .slice none 0 0, .int .i64 0, .int .i64 0, .int .i64 0] 40))) := (Below.refl _ _).alloc (Nat.le_refl _) _
  have H := hide h
  have HQ := hide hq
  clear h hq
  go_enter Tryd.func10, Tryd.ntmps10
  go_upto_region 1 with fail
  generalize w.alloc (.cells #[.int .i64 0, .int .i64 0, .string { data := #[] }, .slice p m cap, .slice none 0 0, .int .i64 0, .int .i64 0, .int .i64 0] 40) = w0 at *
  have c2 : w0.cell? ⟨w.heap.size, 2, none⟩ = some (.string { data := #[] }) := by rw [cell_of_row _ _ _ _ _ _ HX.out]; rfl
  have c3 : w0.cell? ⟨w.heap.size, 3, none⟩ = some (.slice p m cap) := by rw [cell_of_row _ _ _ _ _ _ HX.out]; rfl
  have c4 : w0.cell? ⟨w.heap.size, 4, none⟩ = some (.slice none 0 0) := by rw [cell_of_row _ _ _ _ _ _ HX.out]; rfl
  have hs0 : (ByteArray.size { data := #[] }) = 0 := rfl
  go_wp2_with fail
  go_loopw [3, 4] (fun t3 t4 wr => ∃ (k z : Nat), t3 = .int .i64 (z : Int) ∧ t4 = .int .i64 (k : Int) ∧ wr = w0 ∧ Hid (k ≤ m ∧ z = sumL q k ∧ z ≤ 281474976710656)) (fun _ t4 _ => m - (intOf t4).toNat)
  case atStart => exact ⟨0, 0, rfl, rfl, rfl, Nat.zero_le _, rfl, by omega⟩
  case round =>
    obtain ⟨k, z, rfl, rfl, rfl, hI⟩ := hrel
    obtain ⟨h1, h2, h3⟩ := hI.out
    by_cases hlt : k < m
    · have hlt' : (k : Int) < (m : Int) := by omega
      by_cases hz : z ≤ 262144
      · have hz' : (z : Int) ≤ 262144 := by omega
        obtain ⟨b, o, v, hp, hc, hby⟩ := (H.out.below HB0.out) k hlt
        subst hp
        obtain ⟨pe, ce, hv, _⟩ := by_slice hby
        obtain ⟨ne, hne⟩ : ∃ ne, (q k).length = ne := ⟨_, rfl⟩
        have hne2 : ne ≤ 140737488355328 := by rw [← hne]; exact HQ.out k hlt
        rw [hne] at hv
        subst hv
        have HN : Hid (k + 1 ≤ m ∧ z + ne + 8 = sumL q (k + 1) ∧ z + ne + 8 ≤ 281474976710656) := ⟨hlt, by rw [sumL, ← h2, hne], by omega⟩
        clear hby hI h1 h2 h3 hne
        go_wp2_with fail
        go_roundw
        case rel => exact ⟨k + 1, z + ne + 8, by simp, by simp, by first | rfl | trivial, HN.out⟩
        case measure => simp [intOf]; omega
      · have hz' : ¬ (z : Int) ≤ 262144 := by omega
        clear h1 h2 h3
        go_wp2_with fail
        go_ret
        exact ⟨z, rfl, .inr (by omega), hI.out.2.2, HB0.out⟩
    · have hlt' : ¬ (k : Int) < (m : Int) := by omega
      have HKM : Hid (k = m) := by show _ = _; omega
      clear h1 h2 h3
      go_wp2_with fail
      go_ret
      exact ⟨z, rfl, .inl (by rw [hI.out.2.1, HKM.out]), hI.out.2.2, HB0.out⟩

set_option maxRecDepth 100000 in
set_option maxHeartbeats 1000000 in
theorem eq_same (va vb : Value) (bs : List Nat) (w : World) (ha : IsBy w va bs) (hb : IsBy w vb bs) (hl : bs.length ≤ 140737488355328) :
    Calls Tryd.prog 30 #[va, vb] w fun e w' => e = .returned (.bool true) ∧ ∃ N, w' = w.drewN N := by
  obtain ⟨pa, ca, rfl, ka⟩ := by_slice ha
  obtain ⟨pb, cb, rfl, kb⟩ := by_slice hb
  have HA := hide ka
  have HB := hide kb
  obtain ⟨n, hn⟩ : ∃ n, bs.length = n := ⟨_, rfl⟩
  rw [hn] at HA HB hl ⊢
  clear ha hb ka kb hn
  go_enter Tryd.func30, Tryd.ntmps30
  go_wp2_with fail
  go_loopw [5] (fun t5 wr => ∃ (k N : Nat), t5 = .int .i64 (k : Int) ∧ wr = w.drewN N ∧ Hid (k ≤ n)) (fun t5 _ => n - (intOf t5).toNat)
  case atStart => exact ⟨0, 0, rfl, rfl, Nat.zero_le _⟩
  case round =>
    obtain ⟨k, N, rfl, rfl, hI⟩ := hrel
    by_cases hlt : k < n
    · have hlt' : (k : Int) < (n : Int) := by omega
      obtain ⟨ga, oa, ea, k1⟩ := HA.out k hlt
      obtain ⟨gb, ob, eb, k2⟩ := HB.out k hlt
      subst ea
      subst eb
      obtain ⟨x, hx⟩ : ∃ x, bs.getD k 0 = x := ⟨_, rfl⟩
      rw [hx] at k1 k2
      have l1 : (w.drewN N).cell? ⟨ga, oa + k, none⟩ = some (.int .u8 (x : Int)) := k1
      have l2 : (w.drewN N).cell? ⟨gb, ob + k, none⟩ = some (.int .u8 (x : Int)) := k2
      have HN : Hid (k + 1 ≤ n) := hlt
      obtain ⟨wn, hwn⟩ : ∃ wn, w.drewN N = wn := ⟨_, rfl⟩
      rw [hwn] at l1 l2 ⊢
      have HWN := hide hwn
      clear hwn k1 k2 hI
      go_wp2_with fail
      go_quiet (fail)
      have HD : Hid (∃ N', wn.drewN nq = w.drewN N') := ⟨N + nq, by rw [← HWN.out]; exact World.drewN_drewN _ _ _⟩
      go_wp2_with fail
      go_roundw
      case rel => obtain ⟨N', h'⟩ := HD.out; exact ⟨k + 1, N', by simp, h', HN.out⟩
      case measure => simp [intOf]; omega
    · have hlt' : ¬ (k : Int) < (n : Int) := by omega
      go_wp2_with fail
      go_ret
      exact ⟨rfl, N, rfl⟩

end Go.Proofs.YtgmahgfelbkoeaaDoor

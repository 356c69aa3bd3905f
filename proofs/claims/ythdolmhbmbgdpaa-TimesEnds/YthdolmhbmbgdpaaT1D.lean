/- Rows of times in memory; the contracts of rise, rising, same. -/
import Derived.Test.YthdolmhbmbgdpaaT1C
namespace Go.Proofs.Ythdolmhbmbgdpaa
open Go.RowKit
open M
set_option linter.unusedVariables false

/-- The slice at p of n int64s holds f. -/
def TRow (w : World) (p : Option Addr) (n : Nat) (f : Nat → Int) : Prop :=
  0 < n → ∃ b o, p = some ⟨b, o, none⟩ ∧ ∀ i, i < n → w.cell? ⟨b, o + i, none⟩ = some (.int .i64 (f i))

theorem TRow.drewN {w : World} {p : Option Addr} {n : Nat} {f : Nat → Int} (h : TRow w p n f) (m : Nat) : TRow (w.drewN m) p n f := h

theorem TRow.below {w w' : World} {p : Option Addr} {n : Nat} {f : Nat → Int} (h : TRow w p n f) (hB : Below w.heap.size w w') : TRow w' p n f := fun h0 => by
  obtain ⟨b, o, hp, hc⟩ := h h0
  exact ⟨b, o, hp, fun i hi => by rw [hB.cell (p := ⟨b, o + i, none⟩) (block_lt_of_cell (hc i hi))]; exact hc i hi⟩

theorem TRow.take {w : World} {p : Option Addr} {n m : Nat} {f : Nat → Int} (h : TRow w p n f) (hm : m ≤ n) : TRow w p m f := fun h0 => by
  obtain ⟨b, o, hp, hc⟩ := h (by omega)
  exact ⟨b, o, hp, fun i hi => hc i (by omega)⟩

theorem TRow.nil (w : World) (p : Option Addr) (f : Nat → Int) : TRow w p 0 f := fun h => by omega

/-- A Bool that says whether P. -/
def Says (P : Prop) (w : World) (e : Ending) (w' : World) : Prop := ∃ v : Bool, e = .returned (.bool v) ∧ (v = true ↔ P) ∧ ∃ m, w' = w.drewN m

set_option maxHeartbeats 1000000 in
theorem rise_any (p : Option Addr) (n cap : Nat) (f : Nat → Int) (w : World) (h : TRow w p n f) (hn : n ≤ 281474976710656) :
    Calls Try.prog 15 #[.slice p n cap] w (Says (Rises f n) w) := by
  have H := hide h
  clear h
  go_enter Try.func15, Try.ntmps15
  go_wp2_with fail
  go_loopw [3] (fun i wr => ∃ k : Nat, Hid (∀ j, j < k → f j < f (j + 1)) ∧ i = .int .i64 ((k : Int) + 1) ∧ Hid (∃ m, wr = w.drewN m)) (fun i _ => n - (intOf i).toNat)
  case atStart => exact ⟨0, fun j hj => by omega, rfl, 0, rfl⟩
  case round =>
    obtain ⟨k, hr, rfl, hm⟩ := hrel
    by_cases hlt : k + 1 < n
    · obtain ⟨b, o, rfl, hc⟩ := H.out (by omega)
      have c1 : wr.cell? ⟨b, o + (k + 1), none⟩ = some (.int .i64 (f (k + 1))) := by obtain ⟨m, rfl⟩ := hm.out; exact hc (k + 1) hlt
      have c2 : wr.cell? ⟨b, o + k, none⟩ = some (.int .i64 (f k)) := by obtain ⟨m, rfl⟩ := hm.out; exact hc k (by omega)
      clear hc
      by_cases hle : f (k + 1) ≤ f k
      · go_wp2_with fail
        go_region
        go_wp2_with fail
        go_ret
        obtain ⟨m, rfl⟩ := hm.out
        exact ⟨false, rfl, ⟨fun h => (by cases h), fun h => by have := h k hlt; omega⟩, m + 1, rfl⟩
      · go_wp2_with fail
        go_region
        go_wp2_with fail
        go_roundw
        case rel => exact ⟨k + 1, fun j hj => by
          by_cases e : j = k
          · subst e; omega
          · exact hr.out j (by omega), by simp, by obtain ⟨m, rfl⟩ := hm.out; exact ⟨m + 1, rfl⟩⟩
        case measure => simp [intOf]; omega
    · go_wp2_with fail
      go_ret
      exact ⟨true, rfl, ⟨fun _ j hj => hr.out j (by omega), fun _ => rfl⟩, hm.out⟩

set_option maxHeartbeats 1000000 in
theorem rising_any (p : Option Addr) (n cap : Nat) (f : Nat → Int) (w : World) (h : TRow w p n f) (hn : n ≤ 281474976710656) :
    Calls Try.prog 9 #[.slice p n cap] w (Says (Rises f n) w) := by
  have H := hide h
  clear h
  go_enter Try.func9, Try.ntmps9
  go_wp2_with fail
  go_loopw [3] (fun i wr => ∃ k : Nat, Hid (∀ j, j < k → f j < f (j + 1)) ∧ i = .int .i64 ((k : Int) + 1) ∧ Hid (∃ m, wr = w.drewN m)) (fun i _ => n - (intOf i).toNat)
  case atStart => exact ⟨0, fun j hj => by omega, rfl, 0, rfl⟩
  case round =>
    obtain ⟨k, hr, rfl, hm⟩ := hrel
    by_cases hlt : k + 1 < n
    · obtain ⟨b, o, rfl, hc⟩ := H.out (by omega)
      have c1 : wr.cell? ⟨b, o + (k + 1), none⟩ = some (.int .i64 (f (k + 1))) := by obtain ⟨m, rfl⟩ := hm.out; exact hc (k + 1) hlt
      have c2 : wr.cell? ⟨b, o + k, none⟩ = some (.int .i64 (f k)) := by obtain ⟨m, rfl⟩ := hm.out; exact hc k (by omega)
      clear hc
      by_cases hle : f (k + 1) ≤ f k
      · go_wp2_with fail
        go_region
        go_wp2_with fail
        go_ret
        obtain ⟨m, rfl⟩ := hm.out
        exact ⟨false, rfl, ⟨fun h => (by cases h), fun h => by have := h k hlt; omega⟩, m + 1, rfl⟩
      · go_wp2_with fail
        go_region
        go_wp2_with fail
        go_roundw
        case rel => exact ⟨k + 1, fun j hj => by
          by_cases e : j = k
          · subst e; omega
          · exact hr.out j (by omega), by simp, by obtain ⟨m, rfl⟩ := hm.out; exact ⟨m + 1, rfl⟩⟩
        case measure => simp [intOf]; omega
    · go_wp2_with fail
      go_ret
      exact ⟨true, rfl, ⟨fun _ j hj => hr.out j (by omega), fun _ => rfl⟩, hm.out⟩

set_option maxHeartbeats 1000000 in
theorem same_any (p q : Option Addr) (n n' cap cap' : Nat) (f g : Nat → Int) (w : World) (h : TRow w p n f) (h' : TRow w q n' g) (hn : n ≤ 281474976710656) (hn' : n' ≤ 281474976710656) :
    Calls Try.prog 12 #[.slice p n cap, .slice q n' cap'] w (Says (n = n' ∧ ∀ i, i < n → f i = g i) w) := by
  have H := hide h
  have H' := hide h'
  clear h h'
  by_cases hne : n = n'
  · subst hne
    go_enter Try.func12, Try.ntmps12
    go_wp2_with fail
    go_loopw [5] (fun i wr => ∃ k : Nat, Hid (∀ j, j < k → f j = g j) ∧ i = .int .i64 (k : Int) ∧ Hid (∃ m, wr = w.drewN m)) (fun i _ => n - (intOf i).toNat)
    case atStart => exact ⟨0, fun j hj => by omega, rfl, 0, rfl⟩
    case round =>
      obtain ⟨k, hr, rfl, hm⟩ := hrel
      by_cases hlt : k < n
      · obtain ⟨b, o, rfl, hc⟩ := H.out (by omega)
        obtain ⟨b', o', rfl, hc'⟩ := H'.out (by omega)
        have c1 : wr.cell? ⟨b, o + k, none⟩ = some (.int .i64 (f k)) := by obtain ⟨m, rfl⟩ := hm.out; exact hc k hlt
        have c2 : wr.cell? ⟨b', o' + k, none⟩ = some (.int .i64 (g k)) := by obtain ⟨m, rfl⟩ := hm.out; exact hc' k hlt
        clear hc hc'
        by_cases hle : f k = g k
        · have hb : (f k != g k) = false := by simp [hle]
          go_wp2_with fail
          go_region
          go_wp2_with fail
          go_roundw
          case rel => exact ⟨k + 1, fun j hj => by
            by_cases e : j = k
            · subst e; exact hle
            · exact hr.out j (by omega), by simp, by obtain ⟨m, rfl⟩ := hm.out; exact ⟨m + 1, rfl⟩⟩
          case measure => simp [intOf]; omega
        · have hb : (f k != g k) = true := by simp [hle]
          go_wp2_with fail
          go_region
          go_wp2_with fail
          go_ret
          obtain ⟨m, rfl⟩ := hm.out
          exact ⟨false, rfl, ⟨fun h => (by cases h), fun h => absurd (h.2 k hlt) hle⟩, m + 1, rfl⟩
      · go_wp2_with fail
        go_ret
        exact ⟨true, rfl, ⟨fun _ => ⟨by trivial, fun j hj => hr.out j (by omega)⟩, fun _ => rfl⟩, hm.out⟩
  · have hb : ((n : Int) != (n' : Int)) = true := by simp; omega
    go_enter Try.func12, Try.ntmps12
    go_wp2_with fail
    go_ret
    exact ⟨false, rfl, ⟨fun h => (by cases h), fun h => absurd h.1 hne⟩, 0, rfl⟩

theorem num_any (n : Int) (w : World) : Calls Try.prog 10 #[.int .i64 n] w fun e w' => e = .returned (.int .i64 n) ∧ w' = w := by
  go_enter Try.func10, Try.ntmps10
  go_wp2
  go_ret
  exact ⟨rfl, rfl⟩

end Go.Proofs.Ythdolmhbmbgdpaa

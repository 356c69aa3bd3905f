/- What stands in quotes, byte by byte: a digit of base 16; does Unquote tell that? -/
import Derived.Test.YtgcmdbpanfeaaabGreatDoorL3I
import Derived.BigQuiet
namespace Go.Proofs.YtgcmdbpanfeaaabGreatDoor
open Go.RowKit
set_option linter.unusedVariables false
set_option linter.unusedSimpArgs false

def hexT (c : Nat) : Nat × Bool := match hexv c with | some d => (d, true) | none => (0, false)

set_option maxRecDepth 100000 in
theorem hex13_any (c : Nat) (hc : c < 256) (w : World) : Calls Tryz.prog 14 #[.int .i64 (c : Int)] w fun e w' => e = .returned (.tuple #[.int .i64 ((hexT c).1 : Nat), .bool (hexT c).2]) ∧ w' = w := by
  by_cases h1 : 48 ≤ c ∧ c ≤ 57
  · have i1 : (48 : Int) ≤ (c : Int) := by omega
    have i2 : (c : Int) ≤ 57 := by omega
    have e : hexT c = (c - 48, true) := by simp [hexT, hexv, h1]
    rw [e]
    have e2 : ((c - 48 : Nat) : Int) = (c : Int) - 48 := by omega
    rw [e2]
    go_enter Tryz.func14, Tryz.ntmps14
    go_wp2_with fail
    go_ret2
    exact ⟨rfl, rfl⟩
  by_cases h2 : 97 ≤ c ∧ c ≤ 102
  · have i1 : (48 : Int) ≤ (c : Int) := by omega
    have i2 : ¬ (c : Int) ≤ 57 := by omega
    have i3 : (97 : Int) ≤ (c : Int) := by omega
    have i4 : (c : Int) ≤ 102 := by omega
    have e : hexT c = (c - 87, true) := by simp [hexT, hexv, h1, h2]
    rw [e]
    have e2 : ((c - 87 : Nat) : Int) = (c : Int) - 97 + 10 := by omega
    rw [e2]
    go_enter Tryz.func14, Tryz.ntmps14
    go_wp2_with fail
    go_ret2
    exact ⟨rfl, rfl⟩
  by_cases h3 : 65 ≤ c ∧ c ≤ 70
  · have i1 : (48 : Int) ≤ (c : Int) := by omega
    have i2 : ¬ (c : Int) ≤ 57 := by omega
    have i3 : ¬ (97 : Int) ≤ (c : Int) := by omega
    have i5 : (65 : Int) ≤ (c : Int) := by omega
    have i6 : (c : Int) ≤ 70 := by omega
    have e : hexT c = (c - 55, true) := by simp [hexT, hexv, h1, h2, h3]
    rw [e]
    have e2 : ((c - 55 : Nat) : Int) = (c : Int) - 65 + 10 := by omega
    rw [e2]
    go_enter Tryz.func14, Tryz.ntmps14
    go_wp2_with fail
    go_ret2
    exact ⟨rfl, rfl⟩
  have e : hexT c = (0, false) := by simp [hexT, hexv, h1, h2, h3]
  rw [e]
  by_cases k1 : 48 ≤ c
  · have i1 : (48 : Int) ≤ (c : Int) := by omega
    have i2 : ¬ (c : Int) ≤ 57 := by omega
    by_cases k2 : 97 ≤ c
    · have i3 : (97 : Int) ≤ (c : Int) := by omega
      have i4 : ¬ (c : Int) ≤ 102 := by omega
      have i5 : (65 : Int) ≤ (c : Int) := by omega
      have i6 : ¬ (c : Int) ≤ 70 := by omega
      go_enter Tryz.func14, Tryz.ntmps14
      go_wp2_with fail
      go_ret2
      exact ⟨rfl, rfl⟩
    · have i3 : ¬ (97 : Int) ≤ (c : Int) := by omega
      by_cases k3 : 65 ≤ c
      · have i5 : (65 : Int) ≤ (c : Int) := by omega
        have i6 : ¬ (c : Int) ≤ 70 := by omega
        go_enter Tryz.func14, Tryz.ntmps14
        go_wp2_with fail
        go_ret2
        exact ⟨rfl, rfl⟩
      · have i5 : ¬ (65 : Int) ≤ (c : Int) := by omega
        go_enter Tryz.func14, Tryz.ntmps14
        go_wp2_with fail
        go_ret2
        exact ⟨rfl, rfl⟩
  · have i1 : ¬ (48 : Int) ≤ (c : Int) := by omega
    have i3 : ¬ (97 : Int) ≤ (c : Int) := by omega
    have i5 : ¬ (65 : Int) ≤ (c : Int) := by omega
    go_enter Tryz.func14, Tryz.ntmps14
    go_wp2_with fail
    go_ret2
    exact ⟨rfl, rfl⟩

set_option maxRecDepth 100000 in
theorem reads_any (s want : ByteArray) (ok : Bool) (w : World) (hE : ES w) (hs : s.size ≤ 1000) (h : unqL (bytesN s) = if ok = true then some (bytesN want, s.size) else none) :
    Calls Tryz.prog 15 #[.string s, .string want, .bool ok] w fun e w' => e = .returned (.bool true) ∧ Below w.heap.size w w' := by
  have HU := hide (Unquote_any s w (by omega) hE)
  clear hE
  cases ok with
  | false =>
    rw [h, if_neg (by decide)] at HU
    clear h
    go_enter Tryz.func15, Tryz.ntmps15
    go_wp2_with (first
      | (go_at_call 31; refine HU.out.mono ?_; rintro e w2 ⟨rfl, hb⟩; have HB := hide hb; clear hb; dsimp only [ansQ])
      | (go_at_call 8; refine (num13_any _ _).mono ?_; rintro e wn ⟨rfl, rfl⟩))
    go_ret
    exact ⟨rfl, HB.out⟩
  | true =>
    rw [h, if_pos rfl] at HU
    clear h
    have e1 : ansQ (some (bytesN want, s.size)) = .tuple #[.string want, .int .i64 (s.size : Nat), .int .i64 0] := by
      unfold ansQ
      dsimp only
      rw [strOf_bytesN]
    rw [e1] at HU
    obtain ⟨n, hn⟩ : ∃ n, s.size = n := ⟨_, rfl⟩
    rw [hn] at HU
    go_enter Tryz.func15, Tryz.ntmps15
    go_wp2_with (first
      | (go_at_call 31; refine HU.out.mono ?_; rintro e w2 ⟨rfl, hb⟩; have HB := hide hb; clear hb)
      | (go_at_call 8; refine (num13_any _ _).mono ?_; rintro e wn ⟨rfl, rfl⟩))
    go_ret
    exact ⟨rfl, HB.out⟩

def wantL (c : Nat) : List Nat :=
  if c = 10 then [34, 92, 110, 34] else if c = 34 ∨ c = 92 then [34, 92, c, 34] else if 32 ≤ c ∧ c < 127 then [34, c, 34] else [34, 92, 120, hexd (c / 16), hexd (c % 16), 34]

theorem esc1 : ∀ c, c < 256 → c ≠ 34 → unqL [34, c, 34] = if 32 ≤ c ∧ c ≠ 127 ∧ c ≠ 92 then some ([c], 3) else none := by decide +kernel
theorem esc2 : ∀ c, c < 256 → unqL [34, 92, c, 34] = if c = 110 then some ([10], 4) else if c = 34 ∨ c = 92 then some ([c], 4) else none := by decide +kernel
theorem esc3 : ∀ c, c < 256 → unqL [34, 92, 120, c, 53, 34] = if (hexT c).2 = true then some ([16 * (hexT c).1 + 5], 6) else none := by decide +kernel
theorem esc4 : ∀ c, c < 256 → unqL [34, 92, 120, 53, c, 34] = if (hexT c).2 = true then some ([80 + (hexT c).1], 6) else none := by decide +kernel
theorem esc5 : ∀ c, c < 256 → qtL [c] = wantL c := by decide +kernel
theorem hexT_lt : ∀ c, c < 256 → (hexT c).1 < 16 := by decide +kernel
theorem low_at : ∀ a, a < 16 → bytesN ((⟨#[48, 49, 50, 51, 52, 53, 54, 55, 56, 57, 97, 98, 99, 100, 101, 102]⟩ : ByteArray).extract a (a + 1)) = [hexd a] := by decide +kernel

end Go.Proofs.YtgcmdbpanfeaaabGreatDoor

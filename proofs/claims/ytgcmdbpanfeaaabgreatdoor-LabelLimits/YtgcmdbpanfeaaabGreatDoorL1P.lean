/- Two digits of base 16, read by the library. -/
import Derived.Test.YtgcmdbpanfeaaabGreatDoorL1B
import Derived.Test.YtgcmdbpanfeaaabGreatDoorL0P
namespace Go.Proofs.YtgcmdbpanfeaaabGreatDoor
open Go.RowKit
set_option linter.unusedVariables false
set_option linter.unusedSimpArgs false

def lw (x : Nat) : Nat := x ||| 32
theorem lw_lt (x : Nat) (h : x < 256) : lw x < 256 := Nat.or_lt_two_pow (n := 8) h (by decide)
set_option maxRecDepth 100000 in
theorem hexv_lw : ∀ x, x < 256 → hexv x = (if 48 ≤ x ∧ x ≤ 57 then some (x - 48) else if 97 ≤ lw x ∧ lw x ≤ 102 then some (lw x - 87) else none) := by decide +kernel

set_option maxRecDepth 100000 in
theorem lower_any (x : Nat) (hx : x < 256) (w : World) : Calls Tryz.prog 93 #[.int .u8 (x : Int)] w fun e w' => e = .returned (.int .u8 (lw x : Nat)) ∧ w' = w := by
  refine (lay_internal_strconv_lower (x : Int) w).mono ?_
  rintro e w' ⟨rfl, rfl⟩
  refine ⟨?_, rfl⟩
  rw [show bits BinOp.or IntKind.u8 (x : Int) 32 = ((lw x : Nat) : Int) from u8_or_nat x 32 hx (by decide)]

theorem hexv_lt {x d : Nat} (h : hexv x = some d) : d < 16 := by
  unfold hexv at h
  split at h
  · simp at h; omega
  · split at h
    · simp at h; omega
    · split at h
      · simp at h; omega
      · simp at h

/-- What is told of two digits. -/
def ans16 : Option Nat → Value
  | some x => .tuple #[.int .u64 (x : Nat), .nilIface]
  | none => .tuple #[.int .u64 0, .iface 146 (.int .i64 2)]

def pre16 (a b j n : Nat) : Prop := (j = 0 ∧ n = 0) ∨ (j = 1 ∧ hexv a = some n) ∨ (j = 2 ∧ hex2 [a, b] = some n)

set_option maxRecDepth 100000 in
set_option maxHeartbeats 1000000 in
theorem ipu16 (s : ByteArray) (a b : Nat) (hs : bytesN s = [a, b]) (w : World) : Calls Tryz.prog 88 #[.string s, .int .i64 16, .int .i64 8] w fun e w' =>
    e = .returned (ans16 (hex2 [a, b])) ∧ Below w.heap.size w w' := by
  have hsz : s.size = 2 := by rw [← bytesN_length, hs]; rfl
  have hne := str_nonempty (s := s) (by omega)
  have hne' : ¬ s.toList = [] := by simpa using hne
  have hcv := Lib.run_convert_string_bytes (P := Tryz.prog) w 9 42 5 s (u := .string) Tryz.underlying9 Tryz.underlying42 Tryz.underlying5
  have hB : ∀ j, j < s.size → (Lib.bytesWorld w 5 s).cell? ⟨w.heap.size, j, none⟩ = some (.int .u8 (s.data.toList.getD j 0).toNat) := fun j hj => Lib.bytesWorld_cell w 5 s j hj
  have hbel : Below w.heap.size w (Lib.bytesWorld w 5 s) := Lib.bytesWorld_below w 5 s
  obtain ⟨W1, hW1⟩ : ∃ W1, W1 = Lib.bytesWorld w 5 s := ⟨_, rfl⟩
  rw [← hW1] at hcv hB hbel
  clear hW1
  have hc0 := hB 0 (by omega)
  have hc1 := hB 1 (by omega)
  have ha : (s.data.toList.getD 0 0).toNat = a ∧ (s.data.toList.getD 1 0).toNat = b := by
    have e : s.data.toList.map UInt8.toNat = [a, b] := hs
    match hl : s.data.toList, e with
    | [x, y], e => 
      simp at e
      exact ⟨by simpa using e.1, by simpa using e.2⟩
  rw [ha.1] at hc0
  rw [ha.2] at hc1
  have hab : a < 256 ∧ b < 256 := ⟨bytesN_lt s a (by rw [hs]; simp), bytesN_lt s b (by rw [hs]; simp)⟩
  have HC : Hid ((W1.cell? ⟨w.heap.size, 0, none⟩ = some (.int .u8 (a : Int))) ∧ (W1.cell? ⟨w.heap.size, 1, none⟩ = some (.int .u8 (b : Int)))) := ⟨hc0, hc1⟩
  have HAB := hide hab
  have HBel := hide hbel
  have hmv : IntKind.u64.wrap (IntKind.u64.wrap 256 - 1) = 255 := by
    rw [IntKind.wrap_u64, IntKind.wrap_u64]
    decide
  clear hB hc0 hc1 ha hab hbel
  obtain ⟨S2, hS2⟩ : ∃ S2, s.size = S2 := ⟨_, rfl⟩
  rw [hsz] at hcv
  obtain ⟨O, hO⟩ : ∃ O, hex2 [a, b] = O := ⟨_, rfl⟩
  rw [hO]
  have HO := hide hO
  clear hO
  go_enter Tryz.func88, Tryz.ntmps88
  go_wp2
  go_loop [12, 13, 101] (fun vu vn vi => ∃ (k n : Nat) (A : Int), vu = .bool false ∧ vn = .int .u64 A ∧ vi = .int .i64 k ∧ k ≤ 2 ∧ Hid (A = (n : Int) ∧ pre16 a b k n))
    (fun _ _ vi => 2 - (intOf vi).toNat)
  case atStart => exact ⟨0, 0, 0, rfl, rfl, rfl, by omega, rfl, .inl ⟨rfl, rfl⟩⟩
  case round =>
    obtain ⟨k, n, A, rfl, rfl, rfl, hk, HP0⟩ := hrel
    have HP := hide HP0.out.2
    have HA := hide HP0.out.1
    clear HP0
    by_cases hkn : k < 2
    · obtain ⟨x, hx, hx8, hcell, hno, hyes⟩ : ∃ x : Nat, x = x ∧ x < 256 ∧ W1.cell? ⟨w.heap.size, k, none⟩ = some (.int .u8 (x : Int)) ∧ Hid (hexv x = none → hex2 [a, b] = none) ∧ Hid (n < 16 ∧ ∀ d, hexv x = some d → pre16 a b (k + 1) (16 * n + d)) := by
        rcases HP.out with ⟨rfl, rfl⟩ | ⟨rfl, h⟩ | ⟨rfl, h⟩
        · refine ⟨a, rfl, HAB.out.1, HC.out.1, hide fun h => by simp [hex2, h], hide ⟨by omega, fun d h => .inr (.inl ⟨rfl, by simpa using h⟩)⟩⟩
        · refine ⟨b, rfl, HAB.out.2, HC.out.2, hide fun h2 => by simp [hex2, h, h2], hide ⟨hexv_lt h, fun d h2 => .inr (.inr ⟨rfl, by simp [hex2, h, h2]⟩)⟩⟩
        · omega
      have A0 : 0 ≤ A := by have := HA.out; omega
      have A1 : A < 16 := by have := HA.out; have := hyes.out.1; omega
      clear HP hx
      have hv := hexv_lw x hx8
      have hl8 := lw_lt x hx8
      obtain ⟨y, hy⟩ : ∃ y, lw x = y := ⟨_, rfl⟩
      have HL : Hid (∀ w, Calls Tryz.prog 93 #[.int .u8 (x : Int)] w fun e w' => e = .returned (.int .u8 (y : Nat)) ∧ w' = w) := by rw [← hy]; exact fun w => lower_any x hx8 w
      rw [hy] at hv hl8
      clear hy
      by_cases hd : 48 ≤ x ∧ x ≤ 57
      · rw [if_pos hd] at hv
        have HN := hide (hyes.out.2 _ hv)
        have d0 : (48 : Int) ≤ (x : Int) := by omega
        have d1 : (x : Int) ≤ 57 := by omega
        obtain ⟨X, hX⟩ : ∃ X : Int, (x : Int) = X := ⟨_, rfl⟩
        rw [hX] at hcell d0 d1
        have HX := hide hX
        clear hv hno hyes hX HL hx8 hl8 hd
        go_wp2
        refine ⟨⟨k + 1, 16 * n + (x - 48), _, rfl, rfl, (by first | rfl | (congr 1; omega)), by omega, hide ⟨?_, HN.out⟩⟩, by simp [intOf]; omega⟩
        have := HX.out; have := HA.out; omega
      · rw [if_neg hd] at hv
        by_cases hl : 97 ≤ y ∧ y ≤ 102
        · rw [if_pos hl] at hv
          have HN := hide (hyes.out.2 _ hv)
          have l0 : (97 : Int) ≤ (y : Int) := by omega
          have l1 : (y : Int) ≤ 102 := by omega
          have hyes2 := hide hl
          obtain ⟨Y, hY⟩ : ∃ Y : Int, (y : Int) = Y := ⟨_, rfl⟩
          obtain ⟨X, hX⟩ : ∃ X : Int, (x : Int) = X := ⟨_, rfl⟩
          have hd' : ¬ (48 ≤ X ∧ X ≤ 57) := by omega
          have hx0 : 0 ≤ X := by omega
          have hx1 : X < 256 := by omega
          rw [hX] at hcell HL
          rw [hY] at HL l0 l1
          have HY := hide hY
          clear hv hno hyes hX hx8 hl8 hd hY hl
          by_cases e1 : 48 ≤ X
          · have e2 : ¬ X ≤ 57 := fun h => hd' ⟨e1, h⟩
            by_cases e3 : X = 95
            · subst e3
              go_wp2_with (go_at_call 93; refine (HL.out _).mono ?_; rintro e w' ⟨rfl, rfl⟩)
              refine ⟨⟨k + 1, 16 * n + (y - 87), _, rfl, rfl, (by first | rfl | (congr 1; omega)), by omega, hide ⟨?_, HN.out⟩⟩, by simp [intOf]; omega⟩
              have := HY.out; have := HA.out; have := hyes2.out; omega
            · go_wp2_with (go_at_call 93; refine (HL.out _).mono ?_; rintro e w' ⟨rfl, rfl⟩)
              refine ⟨⟨k + 1, 16 * n + (y - 87), _, rfl, rfl, (by first | rfl | (congr 1; omega)), by omega, hide ⟨?_, HN.out⟩⟩, by simp [intOf]; omega⟩
              have := HY.out; have := HA.out; have := hyes2.out; omega
          · go_wp2_with (go_at_call 93; refine (HL.out _).mono ?_; rintro e w' ⟨rfl, rfl⟩)
            refine ⟨⟨k + 1, 16 * n + (y - 87), _, rfl, rfl, (by first | rfl | (congr 1; omega)), by omega, hide ⟨?_, HN.out⟩⟩, by simp [intOf]; omega⟩
            have := HY.out; have := HA.out; have := hyes2.out; omega
        · rw [if_neg hl] at hv
          have HN := hide (hno.out hv)
          obtain ⟨Y, hY⟩ : ∃ Y : Int, (y : Int) = Y := ⟨_, rfl⟩
          obtain ⟨X, hX⟩ : ∃ X : Int, (x : Int) = X := ⟨_, rfl⟩
          have hd' : ¬ (48 ≤ X ∧ X ≤ 57) := by omega
          have hl' : ¬ (97 ≤ Y ∧ Y ≤ 102) := by omega
          have hx0 : 0 ≤ X := by omega
          have hx1 : X < 256 := by omega
          have hy0 : 0 ≤ Y := by omega
          have hy1 : Y < 256 := by omega
          rw [hX] at hcell HL
          rw [hY] at HL
          clear hv hno hyes hX hx8 hl8 hd hY hl
          have hO2 : O = none := by rw [← HO.out]; exact HN.out
          subst hO2
          by_cases e3 : X = 95
          · subst e3
            go_wp2_with (go_at_call 93; refine (HL.out _).mono ?_; rintro e w' ⟨rfl, rfl⟩)
            all_goals go_ret2
            all_goals exact ⟨rfl, HBel.out⟩
          · go_wp2_with (go_at_call 93; refine (HL.out _).mono ?_; rintro e w' ⟨rfl, rfl⟩)
            all_goals go_ret2
            all_goals exact ⟨rfl, HBel.out⟩
    · have hk2 : k = 2 := by omega
      subst hk2
      have he : hex2 [a, b] = some n := by
        rcases HP.out with ⟨h, _⟩ | ⟨h, _⟩ | ⟨_, h⟩
        · omega
        · omega
        · exact h
      rw [HO.out] at he
      subst he
      have hA := HA.out
      subst hA
      clear HP HA
      go_wp2
      go_ret2
      exact ⟨rfl, HBel.out⟩

end Go.Proofs.YtgcmdbpanfeaaabGreatDoor

/- A letter of what stands in quotes; what stands in quotes at the front of a text. -/
import Derived.Test.YtgcmdbpanfeaaabGreatDoorL1P
namespace Go.Proofs.YtgcmdbpanfeaaabGreatDoor
open Go.RowKit
set_option linter.unusedVariables false
set_option linter.unusedSimpArgs false

/-- The library's error of numbers that are none lies. -/
def ES (w : World) : Prop := ∃ ev, w.cell? ⟨3, 0, none⟩ = some ev ∧ (ev = .nilIface ∨ ∃ te pe, ev = .iface te pe)

theorem ES.below {w w' : World} (h : ES w) (hb : Below w.heap.size w w') : ES w' := by
  obtain ⟨ev, h1, h2⟩ := h
  exact ⟨ev, by rw [hb.cell (p := ⟨3, 0, none⟩) (block_lt_of_cell h1)]; exact h1, h2⟩

set_option maxRecDepth 100000 in
theorem pu16_any (s : ByteArray) (a b : Nat) (hs : bytesN s = [a, b]) (w : World) (hE : ES w) : Calls Tryz.prog 82 #[.string s, .int .i64 16, .int .i64 8] w fun e w' =>
    (∃ (x : Nat) (ev : Value), e = .returned (.tuple #[.int .u64 x, ev]) ∧ ((hex2 [a, b] = some x ∧ ev = .nilIface) ∨ (hex2 [a, b] = none ∧ ∃ N, ev = .iface 148 (.pointer (some ⟨N, 0, none⟩))))) ∧ Below w.heap.size w w' := by
  have hsz : s.size = 2 := by rw [← bytesN_length, hs]; rfl
  have HI := hide (fun w => ipu16 s a b hs w)
  have HE := hide hE
  obtain ⟨O, hO⟩ : ∃ O, hex2 [a, b] = O := ⟨_, rfl⟩
  rw [hO] at HI ⊢
  clear hE hO
  cases O with
  | some x =>
    go_enter Tryz.func82, Tryz.ntmps82
    go_wp2_with (go_at_call 88; refine (HI.out _).mono ?_; rintro e w2 ⟨rfl, hb⟩; dsimp only [ans16])
    go_ret2
    exact ⟨⟨x, .nilIface, rfl, .inl ⟨rfl, rfl⟩⟩, hb⟩
  | none =>
    obtain ⟨ev, he1, he2⟩ := HE.out
    have HT : Hid (∀ w2, Below w.heap.size w w2 → Calls Tryz.prog 89 #[.string ⟨#[80, 97, 114, 115, 101, 85, 105, 110, 116]⟩, .string s, .int .i64 16, .int .i64 8, .iface 146 (.int .i64 2)] w2 fun e w' => (∃ N, e = .returned (.iface 148 (.pointer (some ⟨N, 0, none⟩)))) ∧ Below w.heap.size w w') := fun w2 hb => by
      refine (lay_strconv_toError_syntax _ s 16 8 ev w2 (by omega) (by rw [hb.cell (p := ⟨3, 0, none⟩) (block_lt_of_cell he1)]; exact he1) he2).mono ?_
      rintro e w' ⟨N, rfl, _, _, h⟩
      exact ⟨⟨N, rfl⟩, hb.trans (h.mono hb.size)⟩
    clear he1 he2
    go_enter Tryz.func82, Tryz.ntmps82
    go_wp2_with (first
      | (go_at_call 88; refine (HI.out _).mono ?_; rintro e w2 ⟨rfl, hb⟩; have HB := hide hb; clear hb; dsimp only [ans16])
      | (go_at_call 89; refine (HT.out _ HB.out).mono ?_; rintro e w3 ⟨⟨N, rfl⟩, hb3⟩; have HB3 := hide hb3; clear hb3))
    go_ret2
    exact ⟨⟨0, _, rfl, .inr ⟨trivial, N, rfl⟩⟩, HB3.out⟩

/-- What is told of a letter. -/
def ansL : Option (Nat × Nat) → Value
  | some p => .tuple #[.int .u8 (p.1 : Nat), .int .i64 (p.2 : Nat)]
  | none => .tuple #[.int .u8 0, .int .i64 0]

theorem hex2_lt {a b x : Nat} (h : hex2 [a, b] = some x) : x < 256 := by
  simp only [hex2] at h
  cases h1 : hexv a with
  | none => rw [h1] at h; simp at h
  | some p =>
    cases h2 : hexv b with
    | none => rw [h1, h2] at h; simp at h
    | some q =>
      rw [h1, h2] at h
      simp at h
      have := hexv_lt h1
      have := hexv_lt h2
      omega

set_option maxRecDepth 100000 in
set_option maxHeartbeats 1000000 in
theorem letter_any (s : ByteArray) (w : World) (hs0 : s.size ≠ 0) (hs1 : s.size ≤ 1000000000000) (hE : ES w) : Calls Tryz.prog 71 #[.string s] w fun e w' =>
    e = .returned (ansL (letL (bytesN s))) ∧ Below w.heap.size w w' := by
  have HE := hide hE
  obtain ⟨c, r, hc⟩ : ∃ c r, bytesN s = c :: r := by
    cases hc : bytesN s with
    | nil => exact absurd hc (ne_nil_of_size hs0)
    | cons c r => exact ⟨c, r, rfl⟩
  have hc0 : (s[0]'(by omega)).toNat = c := by rw [← bytesN_getD s 0 (by omega), hc]; rfl
  obtain ⟨L, hL⟩ : ∃ L, s.size = L := ⟨_, rfl⟩
  have hlen : r.length + 1 = L := by
    have := bytesN_length s
    rw [hc] at this; simpa [hL] using this
  have p0 : (0 : Int) < (L : Int) := by omega
  by_cases h92 : c = 92
  · subst h92
    cases r with
    | nil =>
      have hl1 : L = 1 := by simpa using hlen.symm
      have HA : Hid (letL (bytesN s) = none) := by rw [hc]; exact rfl
      rw [HA.out]
      subst hl1
      go_enter Tryz.func71, Tryz.ntmps71
      go_wp2_with fail
      go_ret2
      exact ⟨rfl, Below.refl _ _⟩
    | cons d r2 =>
      have hd0 : (s[1]'(by simp at hlen; omega)).toNat = d := by rw [← bytesN_getD s 1 (by simp at hlen; omega), hc]; rfl
      have hd8 : d < 256 := bytesN_lt s d (by rw [hc]; simp)
      have hl2 : r2.length + 2 = L := by simpa using hlen
      have p1 : ¬ (L : Int) < 2 := by omega
      have p2 : (1 : Int) < (L : Int) := by omega
      by_cases hq : d = 34
      · subst hq
        have HA : Hid (letL (bytesN s) = some (34, 2)) := by rw [hc]; exact rfl
        rw [HA.out]
        go_enter Tryz.func71, Tryz.ntmps71
        go_wp2_with fail
        go_ret2
        exact ⟨rfl, Below.refl _ _⟩
      by_cases hb : d = 92
      · subst hb
        have HA : Hid (letL (bytesN s) = some (92, 2)) := by rw [hc]; exact rfl
        rw [HA.out]
        go_enter Tryz.func71, Tryz.ntmps71
        go_wp2_with fail
        go_ret2
        exact ⟨rfl, Below.refl _ _⟩
      by_cases hn : d = 110
      · subst hn
        have HA : Hid (letL (bytesN s) = some (10, 2)) := by rw [hc]; exact rfl
        rw [HA.out]
        go_enter Tryz.func71, Tryz.ntmps71
        go_wp2_with fail
        go_ret2
        exact ⟨rfl, Below.refl _ _⟩
      have q1 : ¬ (d : Int) = 34 := by omega
      have q2 : ¬ (d : Int) = 92 := by omega
      have q3 : ¬ (d : Int) = 110 := by omega
      by_cases hx : d = 120
      · subst hx
        by_cases h4 : L < 4
        · have p4 : (L : Int) < 4 := by omega
          have HA : Hid (letL (bytesN s) = none) := by
            rw [hc]
            match r2, hl2 with
            | [], _ => exact rfl
            | [_], _ => exact rfl
            | _ :: _ :: _, h => simp at h; omega
          rw [HA.out]
          clear hc HA
          go_enter Tryz.func71, Tryz.ntmps71
          go_wp2_with fail
          go_ret2
          exact ⟨rfl, Below.refl _ _⟩
        · have p4 : ¬ (L : Int) < 4 := by omega
          have p5 : (4 : Int) ≤ (L : Int) := by omega
          obtain ⟨a, b, r3, rfl⟩ : ∃ a b r3, r2 = a :: b :: r3 := by
            match r2, hl2 with
            | [], h => simp at h; omega
            | [_], h => simp at h; omega
            | a :: b :: r3, _ => exact ⟨a, b, r3, rfl⟩
          have hab : bytesN (s.extract 2 4) = [a, b] := by rw [bytesN_extract, hc]; rfl
          have HP := hide (fun w hE => pu16_any (s.extract 2 4) a b hab w hE)
          have HA : Hid (letL (bytesN s) = (hex2 [a, b]).map fun x => (x, 4)) := by rw [hc]; exact rfl
          obtain ⟨O, hO⟩ : ∃ O, hex2 [a, b] = O := ⟨_, rfl⟩
          have HL : Hid (∀ x, O = some x → x < 256) := by intro x hx; rw [← hO] at hx; exact hex2_lt hx
          rw [HA.out]
          rw [hO] at HP ⊢
          clear hc hab HA hO hE
          cases O with
          | some x =>
            have hx := HL.out x rfl
            have w8 : IntKind.u8.wrap (x : Int) = (x : Int) := by simp [IntKind.wrap, IntKind.bits, IntKind.signed]; omega
            go_enter Tryz.func71, Tryz.ntmps71
            go_wp2_with (go_at_call 82; refine (HP.out _ HE.out).mono ?_; rintro e w2 ⟨⟨x', ev, rfl, (⟨h1, rfl⟩ | ⟨h1, _⟩)⟩, hb⟩ <;> simp at h1; subst h1; have HB := hide hb; clear hb)
            go_ret2
            exact ⟨rfl, HB.out⟩
          | none =>
            go_enter Tryz.func71, Tryz.ntmps71
            go_wp2_with (go_at_call 82; refine (HP.out _ HE.out).mono ?_; rintro e w2 ⟨⟨x', ev, rfl, (⟨h1, _⟩ | ⟨h1, N, rfl⟩)⟩, hb⟩ <;> simp at h1; have HB := hide hb; clear hb)
            go_ret2
            exact ⟨rfl, HB.out⟩
      · have q4 : ¬ (d : Int) = 120 := by omega
        have HA : Hid (letL (bytesN s) = none) := by rw [hc]; simp [letL, hq, hb, hn, hx]; exact trivial
        rw [HA.out]
        clear hc HA hq hb hn hx
        go_enter Tryz.func71, Tryz.ntmps71
        go_wp2_with fail
        go_ret2
        exact ⟨rfl, Below.refl _ _⟩
  · have hcz : ¬ (c : Int) = 92 := by omega
    have HB := hide (fun w => isBare_any c w)
    by_cases hb : bareN c
    · have HA : Hid (letL (bytesN s) = some (c, 1)) := by rw [hc]; simp [letL, h92, hb]; exact trivial
      rw [HA.out]
      rw [decide_eq_true hb] at HB
      clear hc HA h92 hb
      go_enter Tryz.func71, Tryz.ntmps71
      go_wp2_with (go_at_call 45; refine (HB.out _).mono ?_; rintro e w2 ⟨rfl, rfl⟩)
      go_ret2
      exact ⟨rfl, Below.refl _ _⟩
    · have HA : Hid (letL (bytesN s) = none) := by rw [hc]; simp [letL, h92, hb]; exact trivial
      rw [HA.out]
      rw [decide_eq_false hb] at HB
      clear hc HA h92 hb
      go_enter Tryz.func71, Tryz.ntmps71
      go_wp2_with (go_at_call 45; refine (HB.out _).mono ?_; rintro e w2 ⟨rfl, rfl⟩)
      go_ret2
      exact ⟨rfl, Below.refl _ _⟩

end Go.Proofs.YtgcmdbpanfeaaabGreatDoor

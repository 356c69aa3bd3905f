/- The document's own Reader: the contracts of Unary, Var, Zig. -/
import Derived.Test.YtpiiagjfimdflaaRb
namespace Go.Proofs.Ytpiiagjfimdflaa
open Go.RowKit
open M
set_option linter.unusedVariables false

theorem bn_true (l : List Bool) (i : Nat) (h : bn l i = 1) : l[i]? = some true := by
  unfold bn at h; split at h
  · assumption
  · omega

theorem bn_false (l : List Bool) (i : Nat) (h : bn l i = 0) (hi : i < l.length) : l[i]? = some false := by
  unfold bn at h; split at h
  · omega
  · rename_i h2
    rw [List.getElem?_eq_getElem hi] at h2 ⊢
    cases hb : l[i] <;> simp_all

/-- Behind Unary. -/
def UnPost (w : World) (b hi : Nat) (l : List Bool) (e0 : Int) (e : Ending) (w' : World) : Prop :=
  ∃ k : Nat, OnesAt l k ∧ Only b 0 2 w w' ∧ ((k = 65 ∧ e = .returned (.int .i64 0) ∧ Rr w' b hi l (first e0 11)) ∨ (k ≤ 64 ∧ k = l.length ∧ e = .returned (.int .i64 0) ∧ Rr w' b hi l (first e0 12)) ∨
    (k ≤ 64 ∧ k < l.length ∧ e0 = 0 ∧ e = .returned (.int .i64 k) ∧ Rr w' b hi (l.drop (k + 1)) 0) ∨ (k ≤ 64 ∧ k < l.length ∧ e0 ≠ 0 ∧ e = .returned (.int .i64 0) ∧ Rr w' b hi l e0))

set_option maxRecDepth 100000 in
set_option maxHeartbeats 4000000 in
theorem vunary_any (b hi : Nat) (l : List Bool) (e0 : Int) (w : World) (hR : Rr w b hi l e0) :
    Calls Try.prog 55 #[.pointer (some ⟨b, 0, none⟩)] w fun e w' => UnPost w b hi l e0 e w' := by
  obtain ⟨_, h1, p, cap, rfl, hcap, hcells⟩ := hR.row
  have h2 := hR.err
  have hf0 := hR.fz 0 (by omega)
  have HI : Hid (IsBits w (.slice p l.length cap) b hi l) := ⟨p, cap, rfl, hcap, hcells⟩
  have hlen := hR.len
  have HC : Hid (0 < l.length → ∃ g o, p = some ⟨g, o, none⟩ ∧ b < g ∧ g < hi ∧ ∀ i, i < l.length → w.cell? ⟨g, o + i, none⟩ = some (.int .u8 (bn l i : Nat))) := hcells
  clear hcells
  obtain ⟨n, hn⟩ : ∃ n, n = l.length := ⟨_, rfl⟩
  have Hn : Hid (n = l.length) := hn
  have HR : Hid (Rr w b hi l e0) := hR
  rw [← hn] at h1 hcap hlen HI
  clear hn hR
  go_enter Try.func55, Try.ntmps55
  go_wp2
  go_loopw [3] (fun t3 wr => ∃ k : Nat, k ≤ 65 ∧ k ≤ n ∧ t3 = .int .i64 k ∧ Hid (∀ j, j < k → l[j]? = some true) ∧ wr = w) (fun t3 _ => 65 - (intOf t3).toNat)
  case atStart => exact ⟨0, by omega, by omega, rfl, fun j hj => by omega, rfl⟩
  case round =>
    obtain ⟨k, hk, hkn, rfl, Hk, rfl⟩ := hrel
    by_cases h65 : k = 65
    · subst h65
      have HOn : Hid (OnesAt l 65) := ⟨by omega, by rw [← Hn.out]; exact hkn, Hk.out, .inl rfl⟩
      by_cases hlt : 65 < n
      · have hlt' : (65 : Int) < (n : Int) := by omega
        obtain ⟨g, o, rfl, _, _, hcell⟩ := HC.out (by have := Hn.out; omega)
        have hci := hcell 65 (by have := Hn.out; omega)
        have hb1 := bn_le l 65
        clear hcell
        rcases (show bn l 65 = 0 ∨ bn l 65 = 1 from by omega) with hb | hb <;> rw [hb] at hci
        all_goals
          go_wp2_with fail
          refine (vrefuse_any b hi l 11 e0 wr HR.out).mono ?_
          rintro e w1 ⟨rfl, R1, O1⟩
          obtain ⟨v1, q1, I1⟩ := R1.row
          obtain ⟨p1, cap1, rfl, _, _⟩ := I1
          rw [← Hn.out] at q1
          have q2 := R1.err
          have hne := first_ne e0 11 (by omega)
          have HF : Hid (UnPost wr b hi l e0 (.returned (.int .i64 0)) w1) := ⟨65, HOn.out, O1, .inl ⟨rfl, rfl, R1⟩⟩
          clear R1 O1
          generalize first e0 11 = e1 at *
          go_wp2_with fail
          go_ret
          exact HF.out
      · have hlt' : ¬ (65 : Int) < (n : Int) := by omega
        go_wp2_with fail
        refine (vrefuse_any b hi l 11 e0 wr HR.out).mono ?_
        rintro e w1 ⟨rfl, R1, O1⟩
        obtain ⟨v1, q1, I1⟩ := R1.row
        obtain ⟨p1, cap1, rfl, _, _⟩ := I1
        rw [← Hn.out] at q1
        have hle' : (n : Int) ≤ 65 := by omega
        go_wp2_with fail
        refine (vrefuse_any b hi l 12 _ w1 R1).mono ?_
        rintro e w2 ⟨rfl, R2, O2⟩
        have hf : first (first e0 11) 12 = first e0 11 := by unfold first; split <;> simp_all
        rw [hf] at R2
        have q2 := R2.err
        have hne := first_ne e0 11 (by omega)
        have HF : Hid (UnPost wr b hi l e0 (.returned (.int .i64 0)) w2) := ⟨65, HOn.out, O1.trans O2, .inl ⟨rfl, rfl, R2⟩⟩
        clear R1 O1 R2 O2 hf q1
        generalize first e0 11 = e1 at *
        go_wp2_with fail
        go_ret
        exact HF.out
    · by_cases hlt : k < n
      · have hlt' : (k : Int) < (n : Int) := by omega
        have hk64 : (k : Int) ≤ 64 := by omega
        obtain ⟨g, o, rfl, _, _, hcell⟩ := HC.out (by have := Hn.out; omega)
        have hci := hcell k (by have := Hn.out; omega)
        have hb1 := bn_le l k
        clear hcell
        rcases (show bn l k = 0 ∨ bn l k = 1 from by omega) with hb | hb <;> rw [hb] at hci
        · have HOn : Hid (OnesAt l k) := ⟨by omega, by rw [← Hn.out]; exact hkn, Hk.out, .inr (.inr (bn_false l k hb (by have := Hn.out; omega)))⟩
          have h64 : ¬ (64 : Int) < (k : Int) := by omega
          have hnk : ¬ (n : Int) ≤ (k : Int) := by omega
          clear hb hb1
          by_cases he : e0 = 0
          · subst he
            have hkc : k + 1 ≤ cap := by omega
            have hkn1 : (k : Int) + 1 ≤ (n : Int) := by omega
            obtain ⟨k1, hk1⟩ : ∃ k1 : Nat, (k : Int) + 1 = (k1 : Int) := ⟨k + 1, by omega⟩
            have hk1n : k1 ≤ n := by omega
            have Hk1 : Hid (k1 = k + 1) := by show _ = _; omega
            go_wp2_with fail
            · go_ret
              have hI := HI.out
              rw [Hn.out] at hI
              have hrow := HR.out.setRow (hI.none k1 (by have := Hn.out; omega) (by assumption)) (by simp)
              rw [← Hn.out] at hrow
              exact ⟨k, HOn.out, (Only.refl _ _ _ wr).setCell _ (by omega) (by omega) _, .inr (.inr (.inl ⟨by omega, by have := Hn.out; omega, rfl, rfl, by rw [← Hk1.out]; exact hrow⟩))⟩
            · go_ret
              have hI := HI.out
              rw [Hn.out] at hI
              have hrow := HR.out.setRow (hI.rest k1 (by have := Hn.out; omega) (by assumption)) (by simp)
              rw [← Hn.out] at hrow
              simp only [Option.map_some, Addr.add_mid] at hrow
              exact ⟨k, HOn.out, (Only.refl _ _ _ wr).setCell _ (by omega) (by omega) _, .inr (.inr (.inl ⟨by omega, by have := Hn.out; omega, rfl, rfl, by rw [← Hk1.out]; exact hrow⟩))⟩
          · have hne : (e0 != 0) = true := by simp [he]
            go_wp2_with fail
            go_ret
            exact ⟨k, HOn.out, Only.refl _ _ _ _, .inr (.inr (.inr ⟨by omega, by have := Hn.out; omega, he, rfl, HR.out⟩))⟩
        · have HB : Hid (l[k]? = some true) := bn_true l k hb
          clear hb hb1
          go_wp2_with fail
          refine ⟨⟨k + 1, by omega, by omega, by go_num, fun j hj => ?_, trivial⟩, by simp [intOf]; omega⟩
          by_cases hjk : j < k
          · exact Hk.out j hjk
          · rw [show j = k from by omega]; exact HB.out
      · have hkn2 : k = n := by omega
        subst hkn2
        have HOn : Hid (OnesAt l k) := ⟨by omega, by rw [← Hn.out]; exact hkn, Hk.out, .inr (.inl Hn.out)⟩
        have h64 : ¬ (64 : Int) < (k : Int) := by omega
        go_wp2_with fail
        refine (vrefuse_any b hi l 12 _ wr HR.out).mono ?_
        rintro e w2 ⟨rfl, R2, O2⟩
        have q2 := R2.err
        have hne := first_ne e0 12 (by omega)
        have HF : Hid (UnPost wr b hi l e0 (.returned (.int .i64 0)) w2) := ⟨k, HOn.out, O2, .inr (.inl ⟨by omega, Hn.out, rfl, R2⟩)⟩
        clear R2 O2
        generalize first e0 12 = e1 at *
        go_wp2_with fail
        go_ret
        exact HF.out

end Go.Proofs.Ytpiiagjfimdflaa

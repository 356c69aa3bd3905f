/- The document's own Reader: the contracts of Var and Zig. -/
import Derived.Test.YtpiiagjfimdflaaRc
namespace Go.Proofs.Ytpiiagjfimdflaa
open Go.RowKit
open M
set_option linter.unusedVariables false

/-- Behind Var: the groups in front of l, a bits having been taken ahead of it. -/
def VarPost (w : World) (b hi : Nat) (l : List Bool) (a : Nat) (e : Ending) (w' : World) : Prop :=
  Only b 0 2 w w' ∧ e = .returned (.int .u64 ((readG 10 l 0 0 a).1 : Int)) ∧
    (((readG 10 l 0 0 a).2.2 = 0 ∧ Rr w' b hi (l.drop ((readG 10 l 0 0 a).2.1 - a)) 0) ∨ ((readG 10 l 0 0 a).2.2 ≠ 0 ∧ Rr w' b hi l ((readG 10 l 0 0 a).2.2 : Int)))

theorem vvar_bad (b hi : Nat) (l : List Bool) (e0 : Int) (w : World) (hR : Rr w b hi l e0) (he : (e0 == 0) = false) :
    Calls Try.prog 56 #[.pointer (some ⟨b, 0, none⟩)] w fun e w' => e = .returned (.int .u64 0) ∧ Rr w' b hi l e0 ∧ Only b 0 2 w w' := by
  have hne : (e0 != 0) = true := by simp [bne, he]
  have h2 := hR.err
  go_enter Try.func56, Try.ntmps56
  go_wp2_with fail
  go_ret
  exact ⟨rfl, hR, Only.refl _ _ _ _⟩

theorem add_group (x g p x2 : Nat) (h : x2 = x + g % 128 * 2 ^ p) (hf : x2 < 2 ^ 64) : IntKind.u64.wrap ((x : Int) + IntKind.u64.wrap ((g : Int) % 128 * 2 ^ p)) = (x2 : Int) := by
  have e : ((g : Int) % 128 * 2 ^ p) = ((g % 128 * 2 ^ p : Nat) : Int) := by simp
  rw [e, h]
  rw [h] at hf
  generalize g % 128 * 2 ^ p = z at *
  rw [wraps_u64 z (by omega) (by omega), ← Int.natCast_add, wraps_u64 ((x + z : Nat) : Int) (by omega) (by omega)]

set_option maxRecDepth 100000 in
set_option maxHeartbeats 4000000 in
theorem vvar_any (b hi : Nat) (l : List Bool) (a : Nat) (w : World) (hR : Rr w b hi l 0) :
    Calls Try.prog 56 #[.pointer (some ⟨b, 0, none⟩)] w fun e w' => VarPost w b hi l a e w' := by
  obtain ⟨_, h1, p, cap, rfl, hcap, hcells⟩ := hR.row
  have h2 := hR.err
  have hf0 := hR.fz 0 (by omega)
  have HI : Hid (IsBits w (.slice p l.length cap) b hi l) := ⟨p, cap, rfl, hcap, hcells⟩
  have hlen := hR.len
  clear hcells
  obtain ⟨n, hn⟩ : ∃ n, n = l.length := ⟨_, rfl⟩
  have Hn : Hid (n = l.length) := hn
  have HR : Hid (Rr w b hi l 0) := hR
  rw [← hn] at h1 hcap hlen
  clear hn hR
  go_enter Try.func56, Try.ntmps56
  go_wp2
  go_loopw [3, 4] (fun t3 t4 wr => ∃ (k x : Nat), k ≤ 9 ∧ t3 = .int .u64 x ∧ t4 = .int .i64 k ∧ Hid (x < 2 ^ (7 * k)) ∧ Hid (8 * k ≤ n ∧ readG (10 - k) (l.drop (8 * k)) k x (a + 8 * k) = readG 10 l 0 0 a) ∧ wr = w) (fun _ t4 _ => 10 - (intOf t4).toNat)
  case atStart => exact ⟨0, 0, by omega, rfl, rfl, by show _ < _; simp, ⟨by omega, rfl⟩, rfl⟩
  case round =>
    obtain ⟨k, x, hk9, rfl, rfl, Hx, HE, rfl⟩ := hrel
    obtain ⟨q, hq⟩ : ∃ q : Nat, (8 : Int) * (k : Int) = (q : Int) := ⟨8 * k, by omega⟩
    obtain ⟨p7, hp7⟩ : ∃ p : Nat, (7 : Int) * (k : Int) = (p : Int) := ⟨7 * k, by omega⟩
    have Hq : Hid (q = 8 * k ∧ p7 = 7 * k) := ⟨by omega, by omega⟩
    have hqn : q ≤ n := by rw [Hq.out.1]; exact HE.out.1
    have hp63 : p7 ≤ 63 := by have := Hq.out; omega
    obtain ⟨f, hf⟩ : ∃ f, 10 - k = f + 1 := ⟨9 - k, by omega⟩
    have HE2 : Hid (readG (f + 1) (l.drop q) k x (a + q) = readG 10 l 0 0 a) := by
      show _ = _
      rw [← hf, Hq.out.1]; exact HE.out.2
    have Hf : Hid (10 - k = f + 1) := hf
    have Hdl : Hid ((l.drop q).length = n - q) := by show _ = _; rw [List.length_drop, ← Hn.out]
    clear hf HE
    by_cases h8 : n < q + 8
    · have h8' : (n : Int) < (q : Int) + 8 := by omega
      have HV : Hid (readG 10 l 0 0 a = (0, 0, 12)) := by
        show _ = _
        rw [← HE2.out, readG_short _ _ _ _ _ (by rw [Hdl.out]; omega)]
      go_wp2_with fail
      refine (vrefuse_any b hi l 12 0 wr HR.out).mono ?_
      rintro e w1 ⟨rfl, R1, O1⟩
      have HF : Hid (VarPost wr b hi l a (.returned (.int .u64 0)) w1) := ⟨O1, by rw [HV.out]; rfl, .inr (by rw [HV.out]; exact ⟨by simp, R1⟩)⟩
      clear R1 O1
      go_wp2_with fail
      go_ret
      exact HF.out
    · have h8' : ¬ (n : Int) < (q : Int) + 8 := by omega
      obtain ⟨q8, hq8⟩ : ∃ q8 : Nat, (q : Int) + 8 = (q8 : Int) := ⟨q + 8, by omega⟩
      have Hq8 : Hid (q8 = q + 8) := by show _ = _; omega
      have hq8n : q8 ≤ n := by omega
      have hq8c : q8 ≤ cap := by omega
      have hqq : q ≤ q8 := by omega
      have hcq : ¬ cap = q := by omega
      obtain ⟨g, hg⟩ : ∃ g, g = num ((l.drop q).take 8) := ⟨_, rfl⟩
      have Hg : Hid (g = num ((l.drop q).take 8)) := hg
      have hg256 : g < 256 := by rw [hg]; exact num_take_lt (l.drop q) 8
      have Hlen8 : Hid (8 ≤ (l.drop q).length) := by show _ ≤ _; rw [Hdl.out]; omega
      have e8 : q8 - q = 8 := by omega
      have HN : Hid (Calls Try.prog 60 #[.slice (p.map (fun x => x.add q)) (q8 - q) (cap - q)] wr fun e w' => e = .returned (.int .u64 (g : Int)) ∧ w' = wr) := by
        have hI := HI.out.cut q 8 (by have := Hn.out; omega)
        rw [if_neg hcq] at hI
        rw [e8, hg]
        exact number_any _ b hi ((l.drop q).take 8) wr hI (by simp; omega)
      clear hg e8
      by_cases hbad : (k = 9 ∧ 1 < g) ∨ (0 < k ∧ g = 0)
      · have HV : Hid (readG 10 l 0 0 a = (0, 0, 13)) := by
          show _ = _
          rw [← HE2.out, readG_form _ _ _ _ _ Hlen8.out (by rw [← Hg.out]; exact hbad)]
        by_cases h9 : k = 9 ∧ 1 < g
        · have b9 : ((k : Int) == 9) = true := by rw [beq_iff_eq]; omega
          have bg1 : (1 : Int) < (g : Int) := by omega
          clear hbad h9
          go_wp2_with fail
          refine HN.out.mono ?_
          rintro e w1 ⟨rfl, rfl⟩
          go_wp2_with fail
          refine (vrefuse_any b hi l 13 0 _ HR.out).mono ?_
          rintro e w2 ⟨rfl, R1, O1⟩
          have HF : Hid (VarPost w1 b hi l a (.returned (.int .u64 0)) w2) := ⟨O1, by rw [HV.out]; rfl, .inr (by rw [HV.out]; exact ⟨by simp, R1⟩)⟩
          clear R1 O1
          go_wp2_with fail
          go_ret
          exact HF.out
        · have hg0 : g = 0 := by omega
          have bk : (0 : Int) < (k : Int) := by omega
          have b9 : (((k : Int) == 9) = true) ∨ ((k : Int) == 9) = false := by cases ((k : Int) == 9) <;> simp
          clear hbad h9
          subst hg0
          rcases b9 with b9 | b9
          all_goals
            go_wp2_with fail
            refine HN.out.mono ?_
            rintro e w1 ⟨rfl, rfl⟩
            go_wp2_with fail
            refine (vrefuse_any b hi l 13 0 _ HR.out).mono ?_
            rintro e w2 ⟨rfl, R1, O1⟩
            have HF : Hid (VarPost w1 b hi l a (.returned (.int .u64 0)) w2) := ⟨O1, by rw [HV.out]; rfl, .inr (by rw [HV.out]; exact ⟨by simp, R1⟩)⟩
            clear R1 O1
            go_wp2_with fail
            go_ret
            exact HF.out
      · obtain ⟨x2, hx2⟩ : ∃ x2, x2 = x + g % 128 * 2 ^ p7 := ⟨_, rfl⟩
        have hfit : x2 < 2 ^ 64 := by
          have hq' := Hq.out
          have hx' := Hx.out
          rw [hx2, hq'.2]
          by_cases e9 : k = 9
          · have : g % 128 ≤ 1 := by omega
            subst e9
            omega
          · have h56 : (2 : Nat) ^ (7 * k) ≤ 2 ^ 56 := Nat.pow_le_pow_right (by omega) (by omega)
            have : g % 128 * 2 ^ (7 * k) ≤ 127 * 2 ^ 56 := Nat.mul_le_mul (by omega) h56
            omega
        have hadd := add_group x g p7 x2 hx2 hfit
        have HbG : Hid (¬ ((k = 9 ∧ 1 < num ((l.drop q).take 8)) ∨ (0 < k ∧ num ((l.drop q).take 8) = 0))) := by rw [← Hg.out]; exact hbad
        have Hx2 : Hid (x2 = x + g % 128 * 2 ^ (7 * k)) := by show _ = _; rw [hx2, Hq.out.2]
        have b9 : ((((k : Int) == 9) = true ∧ ¬ (1 : Int) < (g : Int)) ∨ ((k : Int) == 9) = false) := by
          by_cases e9 : k = 9
          · left; exact ⟨by rw [beq_iff_eq]; omega, by omega⟩
          · right; rw [beq_eq_false_iff_ne]; omega
        by_cases hg1 : g < 128
        · have hgI : (g : Int) < 128 := by omega
          have HV : Hid (readG 10 l 0 0 a = (x2, a + q + 8, 0)) := by
            show _ = _
            rw [← HE2.out, readG_last _ _ _ _ _ Hlen8.out HbG.out (by rw [← Hg.out]; exact hg1), ← Hg.out, Hx2.out]
          have bz : ((((g : Int) == 0) = true ∧ ¬ (0 : Int) < (k : Int)) ∨ ((g : Int) == 0) = false) := by
            by_cases e0 : g = 0
            · left; exact ⟨by rw [beq_iff_eq]; omega, by omega⟩
            · right; rw [beq_eq_false_iff_ne]; omega
          have Hfin : Hid (∀ v, IsBits wr v b hi (l.drop q8) → VarPost wr b hi l a (.returned (.int .u64 x2)) (wr.setCell ⟨b, 0, none⟩ v)) := fun v hv =>
            ⟨(Only.refl _ _ _ wr).setCell _ (by omega) (by omega) _, by rw [HV.out], .inl (by
              rw [HV.out]
              refine ⟨rfl, ?_⟩
              rw [show a + q + 8 - a = q8 from by have := Hq8.out; omega]
              exact HR.out.setRow hv (by simp))⟩
          have HI2 : Hid (IsBits wr (.slice p l.length cap) b hi l) := HI.out
          clear hbad hx2 hfit
          rcases b9 with ⟨b9, bg1⟩ | b9 <;> rcases bz with ⟨bz, bk⟩ | bz
          all_goals
            go_wp2_with fail
            refine HN.out.mono ?_
            rintro e w1 ⟨rfl, rfl⟩
            go_wp2_with fail
            · go_ret
              have hI := HI2.out.none q8 (by have := Hn.out; omega) (by assumption)
              rw [← Hn.out] at hI
              exact Hfin.out _ hI
            · go_ret
              have hI := HI2.out.rest q8 (by have := Hn.out; omega) (by assumption)
              rw [← Hn.out] at hI
              exact Hfin.out _ hI
        · have hgI : ¬ (g : Int) < 128 := by omega
          have hk8 : k ≤ 8 := by omega
          have HE3 : Hid (8 * (k + 1) ≤ n ∧ readG (10 - (k + 1)) (l.drop (8 * (k + 1))) (k + 1) x2 (a + 8 * (k + 1)) = readG 10 l 0 0 a) := by
            refine ⟨by have := Hq.out; omega, ?_⟩
            rw [← HE2.out, readG_more _ _ _ _ _ Hlen8.out HbG.out (by rw [← Hg.out]; exact hg1), ← Hg.out, Hx2.out, List.drop_drop, show 10 - (k + 1) = f from by have := Hf.out; omega, show 8 * (k + 1) = q + 8 from by have := Hq.out; omega, Nat.add_assoc]
          have HX : Hid (x2 < 2 ^ (7 * (k + 1))) := by
            show _ < _
            rw [Hx2.out, show 7 * (k + 1) = 7 * k + 7 from by omega, Nat.pow_add]
            have hx' := Hx.out
            have : g % 128 * 2 ^ (7 * k) ≤ 127 * 2 ^ (7 * k) := Nat.mul_le_mul_right _ (by omega)
            omega
          rcases b9 with ⟨b9, bg1⟩ | b9
          · omega
          clear hbad hx2 hfit
          go_wp2_with fail
          refine HN.out.mono ?_
          rintro e w1 ⟨rfl, rfl⟩
          go_wp2_with fail
          refine ⟨⟨k + 1, x2, by omega, rfl, by go_num, HX, HE3, trivial⟩, by simp [intOf]; omega⟩

theorem vback_any (x : Nat) (w : World) (hx : x < 18446744073709551616) : Calls Try.prog 103 #[.int .u64 x] w fun e w' => e = .returned (.int .i64 (zag x)) ∧ w' = w := by
  by_cases h : x % 2 = 1
  · have h1 : ((x : Int) % 2 == 1) = true := by rw [beq_iff_eq]; omega
    have hz : Hid (zag x = -1 - (x : Int) / 2) := by show _ = _; unfold zag; rw [if_pos h]; omega
    go_enter Try.func103, Try.ntmps103
    go_wp2_with fail
    go_ret
    exact ⟨by rw [hz.out]; rfl, rfl⟩
  · have h1 : ((x : Int) % 2 == 1) = false := by rw [beq_eq_false_iff_ne]; omega
    have hz : Hid (zag x = (x : Int) / 2) := by show _ = _; unfold zag; rw [if_neg h]; omega
    go_enter Try.func103, Try.ntmps103
    go_wp2_with fail
    go_ret
    exact ⟨by rw [hz.out]; rfl, rfl⟩

theorem vzig_of (b : Nat) (w : World) (x : Nat) (hx : x < 18446744073709551616) (R : World → Prop) (h : Calls Try.prog 56 #[.pointer (some ⟨b, 0, none⟩)] w fun e w' => e = .returned (.int .u64 (x : Int)) ∧ R w') :
    Calls Try.prog 57 #[.pointer (some ⟨b, 0, none⟩)] w fun e w' => e = .returned (.int .i64 (zag x)) ∧ R w' := by
  have H : Hid (Calls Try.prog 56 #[.pointer (some ⟨b, 0, none⟩)] w fun e w' => e = .returned (.int .u64 (x : Int)) ∧ R w') := h
  clear h
  go_enter Try.func57, Try.ntmps57
  go_wp2_with fail
  refine H.out.mono ?_
  rintro e w1 ⟨rfl, hr⟩
  have HR : Hid (R w1) := hr
  clear hr
  go_wp2_with fail
  refine (vback_any x w1 hx).mono ?_
  rintro e w2 ⟨rfl, rfl⟩
  go_wp2_with fail
  go_ret
  exact ⟨rfl, HR.out⟩


end Go.Proofs.Ytpiiagjfimdflaa

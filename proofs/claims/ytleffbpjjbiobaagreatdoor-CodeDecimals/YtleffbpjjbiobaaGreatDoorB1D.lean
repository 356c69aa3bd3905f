/- The contract of a Writer's Done, where nothing has been refused. -/
import Derived.Test.YtleffbpjjbiobaaGreatDoorB1N
import Derived.WalkMore
import Derived.ScopeJumps
import Derived.Test.YtleffbpjjbiobaaGreatDoorB1Q
import Derived.Laws.CopyOwn
import Derived.Deep.RegionLaw
/- The contract of a Reader's groups, and of Var and Zig. -/
namespace Go.Proofs.YtleffbpjjbiobaaGreatDoor
open Go.RowKit
open M
set_option linter.unusedVariables false

set_option maxRecDepth 100000 in
theorem and128_big (g : Nat) (h : g < 256) (hb : 128 ≤ g) : bits BinOp.and IntKind.u64 (g : Int) 128 = 128 := by
  rw [u64_and _ _ (by omega) (by omega) (by omega) (by omega)]
  have : ∀ n : Fin 256, 128 ≤ n.val → n.val &&& 128 = 128 := by decide
  have := this ⟨g, h⟩ hb
  simpa using congrArg (fun n : Nat => (n : Int)) this

set_option maxRecDepth 100000 in
theorem and128_small (g : Nat) (hb : g < 128) : bits BinOp.and IntKind.u64 (g : Int) 128 = 0 := by
  rw [u64_and _ _ (by omega) (by omega) (by omega) (by omega)]
  have : ∀ n : Fin 128, n.val &&& 128 = 0 := by decide
  have := this ⟨g, hb⟩
  simpa using congrArg (fun n : Nat => (n : Int)) this

theorem or_group (x g p : Nat) (hx : x < 2 ^ p) (hp : p ≤ 63) (hf : g % 128 * 2 ^ p < 2 ^ 64) :
    bits BinOp.or IntKind.u64 (x : Int) (IntKind.u64.wrap ((g : Int) % 128 * 2 ^ p)) = ((x + g % 128 * 2 ^ p : Nat) : Int) := by
  have e : ((g : Int) % 128 * 2 ^ p) = ((g % 128 * 2 ^ p : Nat) : Int) := by simp
  have hm : g % 128 * 2 ^ p % 2 ^ p = 0 := Nat.mul_mod_left _ _
  rw [e]
  have hle : (2 : Nat) ^ p ≤ 2 ^ 63 := Nat.pow_le_pow_right (by omega) hp
  have e2 : ((2 : Int) ^ p) = ((2 ^ p : Nat) : Int) := by simp
  generalize g % 128 * 2 ^ p = z at *
  rw [wraps_u64 z (by omega) (by omega), u64_or _ _ (by omega) (by omega) (by omega) (by omega)]
  simp only [Int.toNat_natCast]
  rw [Nat.or_comm, nat_join p z x hm hx]
  simp; omega

/-- A scope that is jumped into again at one label: the way from the label on is walked once. -/
theorem wp_scope_in {P : Program} {a : Act} {w : World} {Q : Exit → Act → World → Prop} {c rest : Code} (l : Nat) (J : Act → World → Prop) (μ : Act → World → Nat) (hf : findLabel c l = some (.seq .skip rest))
    (pass : ∀ a w, J a w → rest.wp P (Exit.jump l (fun a' w' => J a' w' ∧ μ a' w' < μ a w) Q) a w)
    (first : (∀ a w, J a w → rest.wp P (Exit.jump l J Q) a w) → c.wp P (Exit.jump l J Q) a w) : (Code.scope c).wp P Q a w :=
  wp_scope_jumps l J μ hf (first fun a w hJ => Code.wp_mono (fun e a w hq => by
    cases e <;> first | exact hq | exact ⟨hq.1, hq.2.1⟩) (pass a w hJ)) (fun a w hJ => wp_seq (wp_skip (pass a w hJ)))

/-- What holds at the label: k groups have been taken. -/
def GJ (b off : Nat) (s : ByteArray) (a : Nat) (w : World) (a' : Act) (w' : World) : Prop :=
  ∃ (k x en p : Nat) (u6 u11 u12 u13 u14 u15 u16 u17 u18 u19 u20 u21 u22 u23 u24 u25 u26 u27 u28 u29 u30 u31 u32 u33 u34 u35 u36 u37 u38 u39 u40 u41 u42 u43 u44 u45 : Value), a' = ⟨#[.pointer (some ⟨b, off, none⟩), undef, .int .u64 (x : Int), .int .i64 (en : Int), .int .i64 0, .int .i64 (p : Int), u6, .pointer (some ⟨b, off, none⟩), .pointer (some ⟨b, off, none⟩), .pointer (some ⟨b, off + 1, none⟩), .int .i64 (a : Int), u11, u12, u13, u14, u15, u16, u17, u18, u19, u20, u21, u22, u23, u24, u25, u26, u27, u28, u29, u30, u31, u32, u33, u34, u35, u36, u37, u38, u39, u40, u41, u42, u43, u44, u45, undef, undef], []⟩ ∧
    Hid (k ≤ 9 ∧ en = a + 8 * k ∧ p = 7 * k ∧ x < 2 ^ (7 * k) ∧ en ≤ 8 * s.size) ∧ Hid (readG (10 - k) ((rb s).drop en) k x en = readG 10 ((rb s).drop a) 0 0 a) ∧ Hid (∃ m, w' = w.drewN m)

set_option maxRecDepth 100000 in
set_option maxHeartbeats 1000000 in
theorem groups_any (b off : Nat) (s : ByteArray) (a : Nat) (e0 : Int) (w : World) (h : Rd w b off s a e0) :
    Calls Tryz.prog 109 #[.pointer (some ⟨b, off, none⟩)] w fun e w' => e = .returned (.tuple #[.int .u64 ((readG 10 ((rb s).drop a) 0 0 a).1 : Int), .int .i64 ((readG 10 ((rb s).drop a) 0 0 a).2.1 : Int), .int .i64 ((readG 10 ((rb s).drop a) 0 0 a).2.2 : Int)]) ∧ ∃ m, w' = w.drewN m := by
  have h0 := h.text
  have h1 := h.at_
  have hs := h.size
  have hle := h.le
  generalize hres : readG 10 ((rb s).drop a) 0 0 a = res
  have Hres : Hid (readG 10 ((rb s).drop a) 0 0 a = res) := hres
  clear hres
  go_enter Tryz.func109, Tryz.ntmps109
  go_wp2
  refine wp_scope_in 0 (GJ b off s a w) (fun a' _ => 100 - (intOf (a'.tmps.getD 5 undef)).toNat) rfl ?pass ?first
  case first =>
    intro hp
    go_wp2_with fail
    go_step3
    rename_i K1 hK1
    refine hK1 _ _ (hp _ _ ⟨0, 0, a, 0, _, _, _, _, _, _, _, _, _, _, _, _, _, _, _, _, _, _, _, _, _, _, _, _, _, _, _, _, _, _, _, _, _, _, _, _, rfl, ⟨by omega, rfl, rfl, by simp, hle⟩, rfl, ⟨0, rfl⟩⟩)
  case pass =>
    rintro a' w' ⟨k, x, en, p, u6, u11, u12, u13, u14, u15, u16, u17, u18, u19, u20, u21, u22, u23, u24, u25, u26, u27, u28, u29, u30, u31, u32, u33, u34, u35, u36, u37, u38, u39, u40, u41, u42, u43, u44, u45, rfl, hk, hE, hm⟩
    have h0' : w'.cell? ⟨b, off, none⟩ = some (.string s) := by obtain ⟨m, rfl⟩ := hm.out; exact h0
    have hen : en ≤ 8 * s.size := hk.out.2.2.2.2
    have hk9 : k ≤ 9 := hk.out.1
    have hp63 : p ≤ 63 := by have := hk.out; omega
    have hl8 : ((rb s).drop en).length = 8 * s.size - en := by simp [rb]
    have Hl8 : Hid (((rb s).drop en).length = 8 * s.size - en) := hl8
    clear hl8
    obtain ⟨f, hf⟩ : ∃ f, 10 - k = f + 1 := ⟨9 - k, by omega⟩
    have Hf : Hid (10 - k = f + 1) := hf
    clear hf
    by_cases h8 : 8 * s.size < en + 8
    · have hE2 : Hid (res = (0, 0, 12)) := by
        show _ = _
        rw [← Hres.out, ← hE.out, Hf.out, readG_short _ _ _ _ _ (by rw [Hl8.out]; omega)]
      go_wp2_with fail
      refine (rsize_any b off s _ h0' hs).mono ?_
      rintro e w1 ⟨rfl, rfl⟩
      go_wp2_with fail
      simp only [Exit.jump]
      go_ret3
      exact ⟨by rw [hE2.out]; rfl, hm.out⟩
    · obtain ⟨g, hg⟩ : ∃ g, g = num (((rbits (bytesN s)).drop en).take 8) := ⟨_, rfl⟩
      have hlk := fun w (ht : World.cell? w ⟨b, off, none⟩ = some (.string s)) => look_any b off s en 8 w ht hs (by omega) (by omega)
      simp only [← hg] at hlk
      have HK : Hid (∀ w : World, World.cell? w ⟨b, off, none⟩ = some (.string s) → Calls Tryz.prog 108 #[.pointer (some ⟨b, off, none⟩), .int .i64 en, .int .i64 ((8 : Nat) : Int)] w fun e w' => e = .returned (.int .u64 (g : Int)) ∧ ∃ m, w' = w.drewN m) := hlk
      have Hg : Hid (g = num (((rb s).drop en).take 8)) := hg
      clear hg hlk
      have hg256 : g < 256 := by
        rw [Hg.out]
        refine Nat.lt_of_lt_of_le (num_lt _) ?_
        have : (((rb s).drop en).take 8).length ≤ 8 := List.length_take_le _ _
        exact Nat.pow_le_pow_right (n := 2) (by omega) this
      have hlen8 : 8 ≤ ((rb s).drop en).length := by rw [Hl8.out]; omega
      have Hlen8 : Hid (8 ≤ ((rb s).drop en).length) := hlen8
      clear hlen8
      have ha127 := and127 g (by omega)
      by_cases hbad : (k = 9 ∧ 1 < g) ∨ (0 < k ∧ g = 0)
      · have hE2 : Hid (res = (0, 0, 13)) := by
          show _ = _
          rw [← Hres.out, ← hE.out, Hf.out, readG_form _ _ _ _ _ Hlen8.out (by rw [← Hg.out]; exact hbad)]
        by_cases hk63 : k = 9
        · have b63 : ((p : Int) == 63) = true := by rw [beq_iff_eq]; have := hk.out; omega
          by_cases hg1 : 1 < g
          · have bg1 : (1 : Int) < (g : Int) := by omega
            clear hbad
            go_wp2_with fail
            refine (rsize_any b off s _ h0' hs).mono ?_
            rintro e w1 ⟨rfl, rfl⟩
            go_wp2_with fail
            refine (HK.out _ h0').mono ?_
            rintro e w2 ⟨rfl, m, rfl⟩
            go_wp2_with fail
            simp only [Exit.jump]
            go_ret3
            obtain ⟨m0, rfl⟩ := hm.out
            exact ⟨by rw [hE2.out]; rfl, m0 + m, World.drewN_drewN _ _ _⟩
          · have bg1 : ¬ (1 : Int) < (g : Int) := by omega
            have bp : (0 : Int) < (p : Int) := by have := hk.out; omega
            have bg0 : ((g : Int) == 0) = true := by rw [beq_iff_eq]; omega
            clear hbad
            go_wp2_with fail
            refine (rsize_any b off s _ h0' hs).mono ?_
            rintro e w1 ⟨rfl, rfl⟩
            go_wp2_with fail
            refine (HK.out _ h0').mono ?_
            rintro e w2 ⟨rfl, m, rfl⟩
            go_wp2_with fail
            simp only [Exit.jump]
            go_ret3
            obtain ⟨m0, rfl⟩ := hm.out
            exact ⟨by rw [hE2.out]; rfl, m0 + m, World.drewN_drewN _ _ _⟩
        · have b63 : ((p : Int) == 63) = false := by rw [beq_eq_false_iff_ne]; have := hk.out; omega
          have bp : (0 : Int) < (p : Int) := by have := hk.out; omega
          have bg0 : ((g : Int) == 0) = true := by rw [beq_iff_eq]; omega
          clear hbad
          go_wp2_with fail
          refine (rsize_any b off s _ h0' hs).mono ?_
          rintro e w1 ⟨rfl, rfl⟩
          go_wp2_with fail
          refine (HK.out _ h0').mono ?_
          rintro e w2 ⟨rfl, m, rfl⟩
          go_wp2_with fail
          simp only [Exit.jump]
          go_ret3
          obtain ⟨m0, rfl⟩ := hm.out
          exact ⟨by rw [hE2.out]; rfl, m0 + m, World.drewN_drewN _ _ _⟩
      · have hbadG : ¬ ((k = 9 ∧ 1 < num (((rb s).drop en).take 8)) ∨ (0 < k ∧ num (((rb s).drop en).take 8) = 0)) := by rw [← Hg.out]; exact hbad
        have HbadG := hbadG
        clear hbadG
        have hfit : g % 128 * 2 ^ p < 2 ^ 64 := by
          have hk' := hk.out
          by_cases e9 : k = 9
          · have : g % 128 ≤ 1 := by omega
            have e63 : p = 63 := by omega
            rw [e63]; omega
          · have h56 : (2 : Nat) ^ p ≤ 2 ^ 56 := Nat.pow_le_pow_right (by omega) (by omega)
            have : g % 128 * 2 ^ p ≤ 127 * 2 ^ 56 := Nat.mul_le_mul (by omega) h56
            omega
        obtain ⟨x2, hx2⟩ : ∃ x2, x2 = x + g % 128 * 2 ^ p := ⟨_, rfl⟩
        have hor : bits BinOp.or IntKind.u64 (x : Int) (IntKind.u64.wrap ((g : Int) % 128 * 2 ^ p)) = (x2 : Int) := by
          rw [hx2]; exact or_group x g p (by have := hk.out; rw [this.2.2.1]; exact this.2.2.2.1) hp63 hfit
        have Hx2 : Hid (x2 = x + g % 128 * 2 ^ (7 * k)) := by show _ = _; rw [hx2, hk.out.2.2.1]
        have Hbad : Hid (¬ ((k = 9 ∧ 1 < g) ∨ (0 < k ∧ g = 0))) := hbad
        have HbG : Hid (¬ ((k = 9 ∧ 1 < num (((rb s).drop en).take 8)) ∨ (0 < k ∧ num (((rb s).drop en).take 8) = 0))) := HbadG
        clear hx2 hfit hbad HbadG
        have htests : ((((p : Int) == 63) = true ∧ ¬ (1 : Int) < (g : Int)) ∨ ((p : Int) == 63) = false) ∧ (((0 : Int) < (p : Int) ∧ ((g : Int) == 0) = false) ∨ ¬ (0 : Int) < (p : Int)) := by
          have hk' := hk.out
          have hb' := Hbad.out
          refine ⟨?_, ?_⟩
          · by_cases e9 : k = 9
            · left; exact ⟨by rw [beq_iff_eq]; omega, by omega⟩
            · right; rw [beq_eq_false_iff_ne]; omega
          · by_cases e0 : 0 < k
            · left; exact ⟨by omega, by rw [beq_eq_false_iff_ne]; omega⟩
            · right; omega
        obtain ⟨ht1, ht2⟩ := htests
        by_cases hg : g < 128
        · have hb0 := and128_small g hg
          have hE2 : Hid (res = (x2, en + 8, 0)) := by
            show _ = _
            rw [← Hres.out, ← hE.out, Hf.out, readG_last _ _ _ _ _ Hlen8.out HbG.out (by rw [← Hg.out]; exact hg), ← Hg.out, Hx2.out]
          rcases ht1 with ⟨b63, bg1⟩ | b63 <;> rcases ht2 with ⟨bp, bg0⟩ | bp
          all_goals
            go_wp2_with fail
            refine (rsize_any b off s _ h0' hs).mono ?_
            rintro e w1 ⟨rfl, rfl⟩
            go_wp2_with fail
            refine (HK.out _ h0').mono ?_
            rintro e w2 ⟨rfl, m, rfl⟩
            go_wp2_with fail
            simp only [Exit.jump]
            go_ret3
            obtain ⟨m0, rfl⟩ := hm.out
            exact ⟨by rw [hE2.out]; simp, m0 + m, World.drewN_drewN _ _ _⟩
        · have hb0 := and128_big g hg256 (by omega)
          have hE2 : Hid (readG (10 - (k + 1)) ((rb s).drop (en + 8)) (k + 1) x2 (en + 8) = readG 10 ((rb s).drop a) 0 0 a) := by
            show _ = _
            rw [← hE.out, Hf.out, readG_more _ _ _ _ _ Hlen8.out HbG.out (by rw [← Hg.out]; exact hg), ← Hg.out, Hx2.out, List.drop_drop, show 10 - (k + 1) = f from by have := Hf.out; omega]
          have hJ : Hid (k + 1 ≤ 9 ∧ en + 8 = a + 8 * (k + 1) ∧ p + 7 = 7 * (k + 1) ∧ x2 < 2 ^ (7 * (k + 1)) ∧ en + 8 ≤ 8 * s.size) := by
            have hk' := hk.out
            have hb' := Hbad.out
            refine ⟨by omega, by omega, by omega, ?_, by omega⟩
            rw [Hx2.out, show 7 * (k + 1) = 7 * k + 7 from by omega, Nat.pow_add]
            have hx' := hk'.2.2.2.1
            have : g % 128 * 2 ^ (7 * k) ≤ 127 * 2 ^ (7 * k) := Nat.mul_le_mul_right _ (by omega)
            omega
          obtain ⟨en2, hen2⟩ : ∃ en2 : Nat, (en : Int) + 8 = (en2 : Int) := ⟨en + 8, by omega⟩
          obtain ⟨p2, hp2⟩ : ∃ p2 : Nat, (p : Int) + 7 = (p2 : Int) := ⟨p + 7, by omega⟩
          have He : Hid (en2 = en + 8) := by show _ = _; omega
          have Hp : Hid (p2 = p + 7) := by show _ = _; omega
          rcases ht1 with ⟨b63, bg1⟩ | b63
          · omega
          rcases ht2 with ⟨bp, bg0⟩ | bp
          all_goals
            go_wp2_with fail
            refine (rsize_any b off s _ h0' hs).mono ?_
            rintro e w1 ⟨rfl, rfl⟩
            go_wp2_with fail
            refine (HK.out _ h0').mono ?_
            rintro e w2 ⟨rfl, m, rfl⟩
            go_wp2_with fail
            go_step3
            have hJ2 := hJ.out
            have hE3 := hE2.out
            rw [← He.out, ← Hp.out] at hJ2
            rw [← He.out] at hE3
            obtain ⟨m0, hm0⟩ := hm.out
            change (0 : Nat) = 0 ∧ GJ b off s a w _ _ ∧ _ < _
            refine ⟨rfl, ⟨k + 1, x2, en2, p2, _, _, _, _, _, _, _, _, _, _, _, _, _, _, _, _, _, _, _, _, _, _, _, _, _, _, _, _, _, _, _, _, _, _, _, _, rfl, hJ2, hE3, ⟨m0 + m, by rw [hm0, World.drewN_drewN]⟩⟩, ?_⟩
            have := Hp.out
            simp [intOf]
            omega

theorem rvar_bad (b off : Nat) (s : ByteArray) (a : Nat) (e0 : Int) (w : World) (h : Rd w b off s a e0) (he : (e0 == 0) = false) :
    Calls Tryz.prog 67 #[.pointer (some ⟨b, off, none⟩)] w fun e w' => e = .returned (.int .u64 0) ∧ Rd w' b off s a e0 ∧ Only b off (off + 3) w w' := by
  have hne : (e0 != 0) = true := by simp [bne, he]
  go_enter Tryz.func67, Tryz.ntmps67
  go_wp2_with fail
  refine (groups_any b off s a e0 _ h).mono ?_
  rintro e w1 ⟨rfl, m, rfl⟩
  have hR := h.drewN m
  have hE := hR.err
  have hO : Only b off (off + 3) w (w.drewN m) := (Only.refl _ _ _ w).drewN _
  generalize w.drewN m = w1 at *
  go_wp2_with fail
  refine (rrefuse_not b off _ e0 w1 hE he).mono ?_
  rintro e w2 ⟨rfl, rfl⟩
  go_wp2_with fail
  go_ret
  exact ⟨rfl, hR, hO⟩

theorem rvar_ok (b off : Nat) (s : ByteArray) (a x en : Nat) (w : World) (h : Rd w b off s a 0) (hr : readG 10 ((rb s).drop a) 0 0 a = (x, en, 0)) (hen : en ≤ 8 * s.size) :
    Calls Tryz.prog 67 #[.pointer (some ⟨b, off, none⟩)] w fun e w' => e = .returned (.int .u64 (x : Int)) ∧ Rd w' b off s en 0 ∧ Only b off (off + 3) w w' := by
  have hg := groups_any b off s a 0 w h
  rw [hr] at hg
  have Hg : Hid _ := hg
  clear hg hr
  go_enter Tryz.func67, Tryz.ntmps67
  go_wp2_with fail
  refine Calls.mono Hg.out ?_
  rintro e w1 ⟨rfl, m, rfl⟩
  have hR := h.drewN m
  have hE := hR.err
  have hA := hR.at_
  have hf1 := hR.fz 1 (by omega)
  have hf := hR.fz 2 (by omega)
  have hO : Only b off (off + 3) w (w.drewN m) := (Only.refl _ _ _ w).drewN _
  generalize w.drewN m = w1 at *
  go_wp2_with fail
  refine (rrefuse_zero b off 0 w1 hE hf).mono ?_
  rintro e w2 ⟨rfl, hw2⟩
  have hR2 : Rd w2 b off s a 0 := by rw [hw2]; exact hR.setErr 0
  have hO2 : Only b off (off + 3) w w2 := by rw [hw2]; exact hO.setCell _ (by omega) (by omega) _
  have hE2 := hR2.err
  have hA2 := hR2.at_
  have hf2 := hR2.fz 1 (by omega)
  clear hw2
  go_wp2_with fail
  go_ret
  exact ⟨rfl, hR2.setAt en hen, hO2.setCell _ (by omega) (by omega) _⟩

theorem rvar_err (b off : Nat) (s : ByteArray) (a c : Nat) (w : World) (h : Rd w b off s a 0) (hr : readG 10 ((rb s).drop a) 0 0 a = (0, 0, c)) (hc : 0 < c) :
    Calls Tryz.prog 67 #[.pointer (some ⟨b, off, none⟩)] w fun e w' => e = .returned (.int .u64 0) ∧ Rd w' b off s a (c : Int) ∧ Only b off (off + 3) w w' := by
  have hne : ((c : Int) != 0) = true := by simp; omega
  have hg := groups_any b off s a 0 w h
  rw [hr] at hg
  have Hg : Hid _ := hg
  clear hg hr
  go_enter Tryz.func67, Tryz.ntmps67
  go_wp2_with fail
  refine Calls.mono Hg.out ?_
  rintro e w1 ⟨rfl, m, rfl⟩
  have hR := h.drewN m
  have hE := hR.err
  have hf := hR.fz 2 (by omega)
  have hO : Only b off (off + 3) w (w.drewN m) := (Only.refl _ _ _ w).drewN _
  generalize w.drewN m = w1 at *
  go_wp2_with fail
  refine (rrefuse_zero b off c w1 hE hf).mono ?_
  rintro e w2 ⟨rfl, hw2⟩
  have hR2 : Rd w2 b off s a c := by rw [hw2]; exact hR.setErr c
  have hO2 : Only b off (off + 3) w w2 := by rw [hw2]; exact hO.setCell _ (by omega) (by omega) _
  have hE2 := hR2.err
  clear hw2
  go_wp2_with fail
  go_ret
  exact ⟨rfl, hR2, hO2⟩

end Go.Proofs.YtleffbpjjbiobaaGreatDoor

/- The contract of a Reader's Zig. -/
namespace Go.Proofs.YtleffbpjjbiobaaGreatDoor
open Go.RowKit
open M
set_option linter.unusedVariables false

/-- The number whose Zig is the Var of x. -/
def zag (x : Nat) : Int := if x % 2 = 1 then -1 - ((x / 2 : Nat) : Int) else ((x / 2 : Nat) : Int)

theorem zag_zig (y : Int) : zag (zig y) = y := by
  unfold zag zig; split <;> split <;> omega
theorem zig_zag (x : Nat) : zig (zag x) = x := by
  unfold zag zig; split <;> split <;> omega

theorem i64_xor_ones (a : Nat) (ha : a < 9223372036854775808) : bits .xor .i64 (a : Int) (-1) = -1 - (a : Int) := by
  show IntKind.i64.wrap ((BitVec.ofInt 64 (a : Int) ^^^ BitVec.ofInt 64 (-1)).toNat : Int) = _
  have h1 : BitVec.ofInt 64 (-1) = BitVec.allOnes 64 := by decide
  rw [h1, BitVec.xor_allOnes, BitVec.toNat_not, ofInt_u64 a (by omega)]
  simp [IntKind.wrap, IntKind.bits, IntKind.signed]
  omega

theorem i64_xor_zero (a : Nat) (ha : a < 9223372036854775808) : bits .xor .i64 (a : Int) 0 = (a : Int) := by
  show IntKind.i64.wrap ((BitVec.ofInt 64 (a : Int) ^^^ BitVec.ofInt 64 0).toNat : Int) = _
  have h1 : BitVec.ofInt 64 0 = 0#64 := by decide
  rw [h1, BitVec.xor_zero, ofInt_u64 a (by omega)]
  simp [IntKind.wrap, IntKind.bits, IntKind.signed]
  omega

theorem zag_xor (x : Nat) (hx : x < 18446744073709551616) : bits BinOp.xor IntKind.i64 ((x : Int) / 2) (wrap64 (-wrap64 (bits BinOp.and IntKind.u64 (x : Int) 1))) = zag x := by
  have h1 := bits_mask .u64 64 (by decide) wraps_u64 1 (by omega) (x : Int) (by omega) (by omega)
  have h2 : bits BinOp.and IntKind.u64 (x : Int) 1 = (x : Int) % 2 := by simpa using h1
  have e : (x : Int) / 2 = ((x / 2 : Nat) : Int) := by omega
  rw [h2, e]
  unfold zag
  by_cases ho : x % 2 = 1
  · have h3 : wrap64 (-wrap64 ((x : Int) % 2)) = -1 := by unfold wrap64; omega
    rw [h3, i64_xor_ones _ (by omega), if_pos ho]
  · have h3 : wrap64 (-wrap64 ((x : Int) % 2)) = 0 := by unfold wrap64; omega
    rw [h3, i64_xor_zero _ (by omega), if_neg ho]

theorem rzig_of (b off : Nat) (w : World) (x : Nat) (hx : x < 18446744073709551616) (R : World → Prop) (h : Calls Tryz.prog 67 #[.pointer (some ⟨b, off, none⟩)] w fun e w' => e = .returned (.int .u64 (x : Int)) ∧ R w') :
    Calls Tryz.prog 72 #[.pointer (some ⟨b, off, none⟩)] w fun e w' => e = .returned (.int .i64 (zag x)) ∧ R w' := by
  have H : Hid (Calls Tryz.prog 67 #[.pointer (some ⟨b, off, none⟩)] w fun e w' => e = .returned (.int .u64 (x : Int)) ∧ R w') := h
  clear h
  go_enter Tryz.func72, Tryz.ntmps72
  go_wp2_with fail
  refine Calls.mono H.out ?_
  rintro e w1 ⟨rfl, hr⟩
  go_wp2_with fail
  go_ret
  exact ⟨by rw [← zag_xor x hx]; rfl, hr⟩

end Go.Proofs.YtleffbpjjbiobaaGreatDoor

namespace Go.Proofs.YtleffbpjjbiobaaGreatDoor
open Go.RowKit
open M
set_option linter.unusedVariables false
set_option linter.unusedSimpArgs false

/-- Bytes as values. -/
def bytesV (bs : List Nat) : List Value := bs.map fun (n : Nat) => Value.int .u8 (n : Int)

@[simp] theorem bytesV_length (bs : List Nat) : (bytesV bs).length = bs.length := by simp [bytesV]

theorem make_bytes (c : Nat) (h : c ≤ 281474976710656) (w : World) :
    (Instr.makeSlice 34 (.int .i64 (c : Int)) (.int .i64 (c : Int))).run Tryz.prog w = .ok (.slice (some ⟨w.heap.size, 0, none⟩) c c) (w.alloc (.cells (List.replicate c (Value.int .u8 0)).toArray 5)) := by
  have hz : (Tryz.prog.info? 5).bind (·.zero) = some (.int .u8 0) := by kernel_rfl
  have hs : (Tryz.prog.info? 5).map (·.size) = some 1 := by kernel_rfl
  have hb : (Tryz.prog.info? 5).map (·.bytes) = some 1 := by kernel_rfl
  cases hi : Tryz.prog.info? 5 with
  | none => simp [hi] at hs
  | some i =>
    simp only [hi, Option.bind_some, Option.map_some, Option.some.injEq] at hz hs hb
    rw [run_make w 34 5 i _ Tryz.underlying34 hi hz .i64 .i64 (c : Int) (c : Int) (by omega) (by omega) (by rw [hb]; omega) (by omega)]
    have e : madeCells (Value.int .u8 0).cells ((c : Int).toNat * i.size) = (List.replicate c (Value.int .u8 0)).toArray := by
      rw [hs]
      apply Array.ext
      · simp [madeCells]
      · intro j h1 h2
        simp [madeCells, Value.cells, Nat.mod_one]
    rw [e]; simp

theorem splice_get (cur cs : List Value) (o i : Nat) (h : o + cs.length ≤ cur.length) :
    (splice cur o cs)[i]? = if i < o then cur[i]? else if i < o + cs.length then cs[i - o]? else cur[i]? := by
  unfold splice
  by_cases h1 : i < o
  · rw [if_pos h1, List.getElem?_append_left (by simp; omega), List.getElem?_take_of_lt h1]
  · rw [if_neg h1, List.getElem?_append_right (by simp; omega), List.length_take, Nat.min_eq_left (by omega)]
    by_cases h2 : i < o + cs.length
    · rw [if_pos h2, List.getElem?_append_left (by omega)]
    · rw [if_neg h2, List.getElem?_append_right (by omega), List.getElem?_drop]
      congr 1; omega

set_option maxRecDepth 100000 in
set_option maxHeartbeats 4000000 in
theorem wdone_any (b off lo : Nat) (w : World) (l : List Bool) (hW : Wr w lo b off l 0) (hlo : lo ≤ w.heap.size) (hlen : l.length < 1000000000000) :
    Calls Tryz.prog 85 #[.pointer (some ⟨b, off, none⟩)] w fun e w' => e = .returned (.tuple #[.slice (some ⟨w.heap.size, 0, none⟩) ((l.length + 7) / 8) ((l.length + 7) / 8), .int .i64 0]) ∧
      w'.heap[w.heap.size]? = some (.cells (bytesV (packed l)).toArray 5 (0, 0)) ∧ Below w.heap.size w w' := by
  obtain ⟨p, hR, hC⟩ := hW
  have h1 := hR.full
  have h2 := hR.len
  have h3 := hR.err
  have hbs : b < w.heap.size := block_lt_of_cell h1
  have hsz5 : (Tryz.prog.info? 5).map (·.size) = some 1 := by kernel_rfl
  generalize hc : (l.length + 7) / 8 = c
  have Hc : Hid ((l.length + 7) / 8 = c) := hc
  clear hc
  have hc1 : ((l.length : Int) + 7) / 8 = (c : Int) := by have := Hc.out; omega
  have hmk := make_bytes c (by have := Hc.out; omega)
  obtain ⟨Z, hZ⟩ : ∃ Z, Z = List.replicate c (Value.int .u8 0) := ⟨_, rfl⟩
  rw [← hZ] at hmk
  have hZl : Z.length = c := by rw [hZ]; simp
  have HZl : Hid (Z.length = c) := hZl
  clear hZ hZl
  obtain ⟨k0, hk0⟩ : ∃ k0, k0 = l.length / 960 := ⟨_, rfl⟩
  have hat : (l.length : Int) / 960 * 120 = ((120 * k0 : Nat) : Int) := by omega
  obtain ⟨a0, ha0⟩ : ∃ a0, a0 = 120 * k0 := ⟨_, rfl⟩
  rw [← ha0] at hat
  have Hk0 : Hid (k0 = l.length / 960) := hk0
  have Ha0 : Hid (a0 = 120 * k0) := ha0
  have hac : a0 ≤ c := by have := Hc.out; omega
  have hca : c - a0 ≤ 120 := by have := Hc.out; omega
  clear hk0 ha0
  -- the bytes behind the full chunks
  obtain ⟨cs, hcsl, hcsv, hcs1, hcsr⟩ : ∃ cs : List Value, cs.length = Nat.min 120 (c - a0) ∧ Hid (∀ j, j < c - a0 → cs[j]? = some (.int .u8 (byteAt l (a0 + j)))) ∧ (∀ v ∈ cs, v.oneCell' = true) ∧ Hid (∀ j v, cs[j]? = some v → w.cell? ⟨b, off + 1 + j, none⟩ = some v) := by
    refine ⟨(List.range (c - a0)).map fun (j : Nat) => Value.int .u8 (byteAt l (a0 + j) : Int), ?_, fun j hj => ?_, fun v hv => ?_, fun j v hv => ?_⟩
    · simp only [List.length_map, List.length_range]; exact (Nat.min_eq_right hca).symm
    · simp [hj]
    · simp at hv; obtain ⟨j, _, rfl⟩ := hv; rfl
    · rw [List.getElem?_map, Option.map_eq_some_iff] at hv
      obtain ⟨i, hi, rfl⟩ := hv
      rw [List.getElem?_eq_some_iff] at hi
      obtain ⟨hi, rfl⟩ := hi
      simp at hi ⊢
      have := hR.last j (by omega)
      rw [this, Ha0.out, Hk0.out]
  have Hcsl : Hid (cs.length = Nat.min 120 (c - a0)) := hcsl
  clear hcsl
  have hcl : cs.length = c - a0 := by rw [Hcsl.out]; exact Nat.min_eq_right hca
  have Hcl : Hid (cs.length = c - a0) := hcl
  clear hcl
  have hg1 : Hid ((w.alloc (.cells Z.toArray 5)).drew.heap[w.heap.size]? = some (.cells Z.toArray 5 (0, 0))) := heap_alloc_new _ _
  have hB1 : Below w.heap.size w (w.alloc (.cells Z.toArray 5)).drew := ((Below.refl _ _).alloc (Nat.le_refl _) _).drew
  obtain ⟨o2, ho2⟩ : ∃ o2 : Nat, Hid ((c = a0 → o2 = 0) ∧ (c ≠ a0 → o2 = a0)) := ⟨if c = a0 then 0 else a0, by constructor <;> intro h <;> simp [h]⟩
  · go_enter Tryz.func85, Tryz.ntmps85
    go_wp2_with fail
    refine Code.wp_mono (Q := fun e a w' => e = .normal ∧ a = ⟨#[.pointer (some ⟨b, off, none⟩), undef, .slice none 0 0, .int .i64 0, .slice (some ⟨w.heap.size, 0, none⟩) c c, .int .i64 (a0 : Int), undef, .pointer (some ⟨b, off, none⟩), .pointer (some ⟨b, off, none⟩), .pointer (some ⟨b, off + 122, none⟩), .int .i64 0, .bool false, undef, undef, undef, undef, .pointer (some ⟨b, off, none⟩), .pointer (some ⟨b, off, none⟩), .pointer (some ⟨b, off + 121, none⟩), .int .i64 (l.length : Int), .int .i64 ((l.length : Int) + 7), .int .i64 (((l.length : Int) + 7) / 8), .slice (some ⟨w.heap.size, 0, none⟩) c c, .pointer (some ⟨b, off, none⟩), .pointer (some ⟨b, off, none⟩), .pointer (some ⟨b, off + 121, none⟩), .int .i64 (l.length : Int), .int .i64 ((l.length : Int) / 960), .int .i64 (a0 : Int), .slice (some ⟨w.heap.size, 0, none⟩) c c, .int .i64 (a0 : Int), .slice (some ⟨w.heap.size, o2, none⟩) (c - a0) (c - a0), .pointer (some ⟨b, off, none⟩), .pointer (some ⟨b, off, none⟩), .pointer (some ⟨b, off + 1, none⟩), .slice (some ⟨b, off + 1, none⟩) 120 120, .int .i64 (cs.length : Int), undef, undef, undef, undef, undef, undef, undef, undef, undef, undef, undef, undef, undef, undef, undef, undef, undef, undef, undef, undef, undef], []⟩ ∧ Hid (w'.heap[w.heap.size]? = some (.cells (splice Z a0 cs).toArray 5 (0, 0))) ∧ Below w.heap.size w w') ?h1 ?h2
    case h2 =>
      refine wp_region_any (by kernel_rfl) ?_
      change wpAny _ _ _ _ _ _ _ (World.drew _)
      refine wpAny_take (i := 0) (v := .slice (some ⟨w.heap.size, 0, none⟩) c c) rfl (by kernel_rfl) (by kernel_rfl) (by kernel_rfl) (fun _ _ _ h => absurd h.1 (by simp)) (Or.inl ⟨by rfl, ?_⟩) ?_
      · intro w; go_simp
      refine wpAny_take (i := 1) (v := .int .i64 (a0 : Int)) rfl (by kernel_rfl) (by kernel_rfl) (by kernel_rfl) (fun _ _ _ h => absurd h.1 (by simp)) (Or.inl ⟨by rfl, ?_⟩) ?_
      · intro w; go_simp
      refine wpAny_take (i := 2) (v := .slice (some ⟨w.heap.size, o2, none⟩) (c - a0) (c - a0)) rfl (by kernel_rfl) (by kernel_rfl) (by kernel_rfl) (fun _ _ _ h => absurd h.1 (by simp)) (Or.inl ⟨by rfl, ?_⟩) ?_
      · intro w; go_simp; have h2 := ho2.out; by_cases hca0 : c = a0 <;> simp [hca0] <;> omega
      refine wpAny_take (i := 3) (v := .pointer (some ⟨b, off, none⟩)) rfl (by kernel_rfl) (by kernel_rfl) (by kernel_rfl) (fun _ _ _ h => absurd h.1 (by simp)) (Or.inl ⟨by rfl, ?_⟩) ?_
      · intro w; go_simp
      refine wpAny_take (i := 4) (v := .pointer (some ⟨b, off, none⟩)) rfl (by kernel_rfl) (by kernel_rfl) (by kernel_rfl) (fun _ _ _ h => absurd h.1 (by simp)) (Or.inl ⟨by rfl, ?_⟩) ?_
      · intro w; go_simp
      refine wpAny_take (i := 5) (v := .pointer (some ⟨b, off + 1, none⟩)) rfl (by kernel_rfl) (by kernel_rfl) (by kernel_rfl) (fun _ _ _ h => absurd h.1 (by simp)) (Or.inl ⟨by rfl, ?_⟩) ?_
      · intro w; go_simp
      refine wpAny_take (i := 6) (v := .slice (some ⟨b, off + 1, none⟩) 120 120) rfl (by kernel_rfl) (by kernel_rfl) (by kernel_rfl) (fun _ _ _ h => absurd h.1 (by simp)) (Or.inl ⟨by rfl, ?_⟩) ?_
      · intro w; go_simp
      change wpAny _ _ _ _ _ _ ⟨#[.pointer (some ⟨b, off, none⟩), undef, .slice none 0 0, .int .i64 0, .slice (some ⟨w.heap.size, 0, none⟩) c c, .int .i64 (a0 : Int), undef, .pointer (some ⟨b, off, none⟩), .pointer (some ⟨b, off, none⟩), .pointer (some ⟨b, off + 122, none⟩), .int .i64 0, .bool false, undef, undef, undef, undef, .pointer (some ⟨b, off, none⟩), .pointer (some ⟨b, off, none⟩), .pointer (some ⟨b, off + 121, none⟩), .int .i64 (l.length : Int), .int .i64 ((l.length : Int) + 7), .int .i64 (((l.length : Int) + 7) / 8), .slice (some ⟨w.heap.size, 0, none⟩) c c, .pointer (some ⟨b, off, none⟩), .pointer (some ⟨b, off, none⟩), .pointer (some ⟨b, off + 121, none⟩), .int .i64 (l.length : Int), .int .i64 ((l.length : Int) / 960), .int .i64 (a0 : Int), .slice (some ⟨w.heap.size, 0, none⟩) c c, .int .i64 (a0 : Int), .slice (some ⟨w.heap.size, o2, none⟩) (c - a0) (c - a0), .pointer (some ⟨b, off, none⟩), .pointer (some ⟨b, off, none⟩), .pointer (some ⟨b, off + 1, none⟩), .slice (some ⟨b, off + 1, none⟩) 120 120, undef, undef, undef, undef, undef, undef, undef, undef, undef, undef, undef, undef, undef, undef, undef, undef, undef, undef, undef, undef, undef, undef], []⟩ _
      refine wpAny_ready (rs := [7]) (by kernel_rfl) (by simp) ?_
      refine AllReady.cons rfl (fun K hK => ?_) AllReady.nil
      refine step_copy_splice rfl _ _ 34 34 rfl 5 Tryz.underlying34 hsz5 _ _ _ _ _ _ rfl rfl w.heap.size a0 Z 5 hg1.out cs Hcsl.out (fun hp => ⟨?_, _, rfl, fun j v hv => ?_⟩) ?_ hcs1 w.heap.size w hB1 (Nat.le_refl _) ?_
      · rw [ho2.out.2 (by rw [Hcl.out] at hp; omega)]
      · rw [Addr.add_mid]
        exact (World.cell?_of_block (w := w) (w' := w.alloc (.cells Z.toArray 5)) (a := ⟨b, off + 1 + j, none⟩) (Below.heap_alloc w _ b hbs)).trans (hcsr.out j v hv)
      · rw [Hcl.out, HZl.out]; omega
      · intro w2 hg2 hB2
        refine hK _ _ ?_
        clear hK K
        refine wpAny_done (by kernel_rfl) ?_ _
        exact ⟨rfl, rfl, hg2, hB2⟩
    case h1 =>
      rintro e a w2 ⟨rfl, rfl, hg2, hB2⟩
      have d1 : w2.cell? ⟨b, off, none⟩ = some (.pointer p) := (hB2.cell (p := ⟨b, off, none⟩) hbs).trans h1
      have hcur : Hid ((splice Z a0 cs).length = c ∧ ∀ i, 120 * k0 ≤ i → i < c → (splice Z a0 cs)[i]? = some (.int .u8 (byteAt l i))) := by
        have e0 := Ha0.out
        refine ⟨by rw [length_splice _ _ _ (by rw [Hcl.out, HZl.out]; omega)]; exact HZl.out, fun i hi1 hi2 => ?_⟩
        rw [splice_get _ _ _ _ (by rw [Hcl.out, HZl.out]; omega), if_neg (by omega), if_pos (by rw [Hcl.out]; omega), hcsv.out _ (by omega), show a0 + (i - a0) = i from by omega]
      have hC0 : Hid (Chain w lo l k0 p) := by rw [Hk0.out]; exact hC
      clear hC hR h1 h2 h3 hg1 hB1 hcsr hcsv hcs1
      go_wp2_with fail
      go_loopw [5, 6] (fun t6 t7 wr => ∃ (k a1 : Nat) (q : Option Addr) (cur : List Value), Hid (a1 = 120 * k ∧ k ≤ k0) ∧ t6 = .int .i64 a1 ∧ t7 = .pointer q ∧ Hid (Chain w lo l k q) ∧ Hid (cur.length = c ∧ ∀ i, 120 * k ≤ i → i < c → cur[i]? = some (.int .u8 (byteAt l i))) ∧
        Hid (wr.heap[w.heap.size]? = some (.cells cur.toArray 5 (0, 0))) ∧ Below w.heap.size w wr) (fun t6 _ _ => (intOf t6).toNat)
      case atStart => exact ⟨k0, a0, p, _, ⟨Ha0.out, Nat.le_refl _⟩, rfl, rfl, hC0, hcur, hg2, hB2⟩
      case round =>
        obtain ⟨k, a1, q, cur, hk, rfl, rfl, hCk, hcu, hgr, hBr⟩ := hrel
        cases k with
        | zero =>
          obtain rfl : q = none := hCk.out
          go_wp2_with fail
          go_ret2
          refine ⟨rfl, ?_, hBr⟩
          rw [hgr.out]
          congr 3
          apply List.ext_getElem?
          intro i
          by_cases hi : i < c
          · rw [hcu.out.2 i (by omega) hi]
            have hi' : i < (l.length + 7) / 8 := by rw [Hc.out]; exact hi
            simp [bytesV, packed, hi']
          · rw [List.getElem?_eq_none (by rw [hcu.out.1]; omega), List.getElem?_eq_none (by rw [bytesV_length, packed_length, Hc.out]; omega)]
        | succ k =>
          obtain ⟨c', q', rfl, hc', hK', hC'⟩ := hCk.out
          clear hCk
          obtain ⟨a2, ha2⟩ : ∃ a2, a2 = 120 * k := ⟨_, rfl⟩
          have Ha2 : Hid (a2 = 120 * k) := ha2
          clear ha2
          have hsub : (a1 : Int) - 120 = (a2 : Int) := by have := hk.out; have := Ha2.out; omega
          have ha1c : a2 + 120 ≤ c := by have := hk.out; have := Ha2.out; have := Hk0.out; have := Hc.out; omega
          have hle2 : a2 ≤ c := by omega
          have hne2 : ¬ c = a2 := by omega
          have hbd : a1 ≤ 1000000000000 := by have := hk.out; have := Hk0.out; omega
          obtain ⟨cs2, h2l, h2v, h21, h2r⟩ : ∃ cs2 : List Value, Hid (cs2.length = Nat.min 120 (c - a2) ∧ cs2.length = 120) ∧ Hid (∀ j, j < 120 → cs2[j]? = some (.int .u8 (byteAt l (a2 + j)))) ∧ (∀ v ∈ cs2, v.oneCell' = true) ∧ Hid (∀ j v, cs2[j]? = some v → w.cell? ⟨c', 1 + j, none⟩ = some v) := by
            refine ⟨(List.range 120).map fun (j : Nat) => Value.int .u8 (byteAt l (a2 + j) : Int), ⟨?_, by simp⟩, fun j hj => ?_, fun v hv => ?_, fun j v hv => ?_⟩
            · simp only [List.length_map, List.length_range]; exact (Nat.min_eq_left (by omega)).symm
            · simp [hj]
            · simp at hv; obtain ⟨j, _, rfl⟩ := hv; rfl
            · rw [List.getElem?_map, Option.map_eq_some_iff] at hv
              obtain ⟨i, hi, rfl⟩ := hv
              rw [List.getElem?_eq_some_iff] at hi
              obtain ⟨hi, rfl⟩ := hi
              simp at hi ⊢
              have := hK'.2 j hi
              rw [this, Ha2.out]
          have hc'w : c' < w.heap.size := hK'.lt
          have hcell0 : w.cell? ⟨c', 0, none⟩ = some (.pointer q') := hK'.1
          have hgr' : Hid (wr.drew.heap[w.heap.size]? = some (.cells cur.toArray 5 (0, 0))) := hgr.out
          have hBr' : Below w.heap.size w wr.drew := hBr.drew
          clear hK'
          go_wp2_with fail
          refine Code.wp_mono (Q := fun e a w' => e = .normal ∧ a = ⟨#[.pointer (some ⟨b, off, none⟩), undef, .slice none 0 0, .int .i64 0, .slice (some ⟨w.heap.size, 0, none⟩) c c, .int .i64 (a2 : Int), .pointer (some ⟨c', 0, none⟩), .pointer (some ⟨b, off, none⟩), .pointer (some ⟨b, off, none⟩), .pointer (some ⟨b, off + 122, none⟩), .int .i64 0, .bool false, undef, undef, undef, undef, .pointer (some ⟨b, off, none⟩), .pointer (some ⟨b, off, none⟩), .pointer (some ⟨b, off + 121, none⟩), .int .i64 (l.length : Int), .int .i64 ((l.length : Int) + 7), .int .i64 (((l.length : Int) + 7) / 8), .slice (some ⟨w.heap.size, 0, none⟩) c c, .pointer (some ⟨b, off, none⟩), .pointer (some ⟨b, off, none⟩), .pointer (some ⟨b, off + 121, none⟩), .int .i64 (l.length : Int), .int .i64 ((l.length : Int) / 960), .int .i64 (a0 : Int), .slice (some ⟨w.heap.size, 0, none⟩) c c, .int .i64 (a0 : Int), .slice (some ⟨w.heap.size, o2, none⟩) (c - a0) (c - a0), .pointer (some ⟨b, off, none⟩), .pointer (some ⟨b, off, none⟩), .pointer (some ⟨b, off + 1, none⟩), .slice (some ⟨b, off + 1, none⟩) 120 120, .int .i64 (cs.length : Int), .pointer (some ⟨b, off, none⟩), .pointer (some ⟨b, off, none⟩), .pointer (some ⟨b, off, none⟩), .pointer p, .pointer (some ⟨c', 0, none⟩), .bool true, u43, u44, u45, u46, .int .i64 (a1 : Int), .int .i64 (a2 : Int), .slice (some ⟨w.heap.size, 0, none⟩) c c, .int .i64 (a2 : Int), .slice (some ⟨w.heap.size, a2, none⟩) (c - a2) (c - a2), .pointer (some ⟨c', 0, none⟩), .pointer (some ⟨c', 0, none⟩), .pointer (some ⟨c', 1, none⟩), .slice (some ⟨c', 1, none⟩) 120 120, .int .i64 (cs2.length : Int), undef], []⟩ ∧ Hid (w'.heap[w.heap.size]? = some (.cells (splice cur a2 cs2).toArray 5 (0, 0))) ∧ Below w.heap.size w w') ?g1 ?g2
          case g2 =>
            refine wp_region_any (by kernel_rfl) ?_
            change wpAny _ _ _ _ _ _ _ (World.drew _)
            refine wpAny_take (i := 0) (v := .slice (some ⟨w.heap.size, 0, none⟩) c c) rfl (by kernel_rfl) (by kernel_rfl) (by kernel_rfl) (fun _ _ _ h => absurd h.1 (by simp)) (Or.inl ⟨by rfl, ?_⟩) ?_
            · intro w; go_simp
            refine wpAny_take (i := 1) (v := .int .i64 (a2 : Int)) rfl (by kernel_rfl) (by kernel_rfl) (by kernel_rfl) (fun _ _ _ h => absurd h.1 (by simp)) (Or.inl ⟨by rfl, ?_⟩) ?_
            · intro w; go_simp
            refine wpAny_take (i := 2) (v := .slice (some ⟨w.heap.size, a2, none⟩) (c - a2) (c - a2)) rfl (by kernel_rfl) (by kernel_rfl) (by kernel_rfl) (fun _ _ _ h => absurd h.1 (by simp)) (Or.inl ⟨by rfl, ?_⟩) ?_
            · intro w; go_simp
            refine wpAny_take (i := 3) (v := .pointer (some ⟨c', 0, none⟩)) rfl (by kernel_rfl) (by kernel_rfl) (by kernel_rfl) (fun _ _ _ h => absurd h.1 (by simp)) (Or.inl ⟨by rfl, ?_⟩) ?_
            · intro w; go_simp
            refine wpAny_take (i := 4) (v := .pointer (some ⟨c', 0, none⟩)) rfl (by kernel_rfl) (by kernel_rfl) (by kernel_rfl) (fun _ _ _ h => absurd h.1 (by simp)) (Or.inl ⟨by rfl, ?_⟩) ?_
            · intro w; go_simp
            refine wpAny_take (i := 5) (v := .pointer (some ⟨c', 1, none⟩)) rfl (by kernel_rfl) (by kernel_rfl) (by kernel_rfl) (fun _ _ _ h => absurd h.1 (by simp)) (Or.inl ⟨by rfl, ?_⟩) ?_
            · intro w; go_simp
            refine wpAny_take (i := 6) (v := .slice (some ⟨c', 1, none⟩) 120 120) rfl (by kernel_rfl) (by kernel_rfl) (by kernel_rfl) (fun _ _ _ h => absurd h.1 (by simp)) (Or.inl ⟨by rfl, ?_⟩) ?_
            · intro w; go_simp
            change wpAny _ _ _ _ _ _ ⟨#[.pointer (some ⟨b, off, none⟩), undef, .slice none 0 0, .int .i64 0, .slice (some ⟨w.heap.size, 0, none⟩) c c, .int .i64 (a2 : Int), .pointer (some ⟨c', 0, none⟩), .pointer (some ⟨b, off, none⟩), .pointer (some ⟨b, off, none⟩), .pointer (some ⟨b, off + 122, none⟩), .int .i64 0, .bool false, undef, undef, undef, undef, .pointer (some ⟨b, off, none⟩), .pointer (some ⟨b, off, none⟩), .pointer (some ⟨b, off + 121, none⟩), .int .i64 (l.length : Int), .int .i64 ((l.length : Int) + 7), .int .i64 (((l.length : Int) + 7) / 8), .slice (some ⟨w.heap.size, 0, none⟩) c c, .pointer (some ⟨b, off, none⟩), .pointer (some ⟨b, off, none⟩), .pointer (some ⟨b, off + 121, none⟩), .int .i64 (l.length : Int), .int .i64 ((l.length : Int) / 960), .int .i64 (a0 : Int), .slice (some ⟨w.heap.size, 0, none⟩) c c, .int .i64 (a0 : Int), .slice (some ⟨w.heap.size, o2, none⟩) (c - a0) (c - a0), .pointer (some ⟨b, off, none⟩), .pointer (some ⟨b, off, none⟩), .pointer (some ⟨b, off + 1, none⟩), .slice (some ⟨b, off + 1, none⟩) 120 120, .int .i64 (cs.length : Int), .pointer (some ⟨b, off, none⟩), .pointer (some ⟨b, off, none⟩), .pointer (some ⟨b, off, none⟩), .pointer p, .pointer (some ⟨c', 0, none⟩), .bool true, u43, u44, u45, u46, .int .i64 (a1 : Int), .int .i64 (a2 : Int), .slice (some ⟨w.heap.size, 0, none⟩) c c, .int .i64 (a2 : Int), .slice (some ⟨w.heap.size, a2, none⟩) (c - a2) (c - a2), .pointer (some ⟨c', 0, none⟩), .pointer (some ⟨c', 0, none⟩), .pointer (some ⟨c', 1, none⟩), .slice (some ⟨c', 1, none⟩) 120 120, u56, undef], []⟩ _
            refine wpAny_ready (rs := [7]) (by kernel_rfl) (by simp) ?_
            refine AllReady.cons rfl (fun K hK => ?_) AllReady.nil
            refine step_copy_splice rfl _ _ 34 34 rfl 5 Tryz.underlying34 hsz5 _ _ _ _ _ _ rfl rfl w.heap.size a2 cur 5 hgr'.out cs2 h2l.out.1 (fun hp => ⟨rfl, _, rfl, fun j v hv => ?_⟩) ?_ h21 w.heap.size w hBr' (Nat.le_refl _) ?_
            · rw [Addr.add_mid]
              exact (hBr'.cell (p := ⟨c', 1 + j, none⟩) hc'w).trans (h2r.out j v hv)
            · rw [h2l.out.2, hcu.out.1]; omega
            · intro w3 hg3 hB3
              refine hK _ _ ?_
              clear hK K
              refine wpAny_done (by kernel_rfl) ?_ _
              exact ⟨rfl, rfl, hg3, hB3⟩
          case g1 =>
            rintro e a w3 ⟨rfl, rfl, hg3, hB3⟩
            have d3 : w3.cell? ⟨c', 0, none⟩ = some (.pointer q') := (hB3.cell (p := ⟨c', 0, none⟩) hc'w).trans hcell0
            have hcu3 : Hid ((splice cur a2 cs2).length = c ∧ ∀ i, 120 * k ≤ i → i < c → (splice cur a2 cs2)[i]? = some (.int .u8 (byteAt l i))) := by
              have e2 := Ha2.out
              have e3 : a2 + cs2.length ≤ cur.length := by rw [h2l.out.2, hcu.out.1]; omega
              refine ⟨by rw [length_splice _ _ _ e3]; exact hcu.out.1, fun i hi1 hi2 => ?_⟩
              rw [splice_get _ _ _ _ e3, if_neg (by omega), h2l.out.2]
              by_cases hi3 : i < a2 + 120
              · rw [if_pos hi3, h2v.out _ (by omega), show a2 + (i - a2) = i from by omega]
              · rw [if_neg hi3]; exact hcu.out.2 i (by omega) hi2
            clear hcell0
            go_wp2_with fail
            go_roundw
            case rel => exact ⟨k, a2, q', _, ⟨Ha2.out, by have := hk.out; omega⟩, rfl, rfl, hC', hcu3, hg3, hB3⟩
            case measure => simp [intOf]; omega

end Go.Proofs.YtleffbpjjbiobaaGreatDoor

/- Gcd: what it tells is one's own. -/
import Derived.Test.YtmfimhpbdbbpoaaDoorBD
import Derived.Test.YtmfimhpbdbbpoaaDoorF
/- Gcd. -/
namespace Go.Proofs.YtmfimhpbdbbpoaaDoor
open Go.RowKit
open M
set_option linter.unusedVariables false
set_option linter.unusedSimpArgs false

/-- The number that lies in limbs. -/
def rd (w : World) (g o : Nat) : Nat → Nat
  | 0 => 0
  | j + 1 => rd w g o j + 4294967296 ^ j * (match w.cell? ⟨g, o + j, none⟩ with | some (.int _ x) => x.toNat | _ => 0)

/-- The number that a row holds. -/
def valOf (w : World) : Value → Nat
  | .slice (some a) k _ => rd w a.block a.off k
  | _ => 0

theorem rd_eq {w : World} {g o k N : Nat} (h : ∀ j, j < k → w.cell? ⟨g, o + j, none⟩ = some (.int .u32 (dg N j : Nat))) : rd w g o k = N % 4294967296 ^ k := by
  induction k with
  | zero => simp [rd, Nat.mod_one]
  | succ k ih =>
    rw [rd, ih fun j hj => h j (by omega), h k (by omega), mod_succ]
    simp

theorem Num.val {w : World} {v : Value} {N : Nat} (h : Num w v N) : valOf w v = N := by
  obtain ⟨k, ⟨hN, hk, ad, cap, rfl, hc, hcell⟩, hn, _⟩ := h
  rcases Nat.eq_zero_or_pos k with rfl | h0
  · have : N = 0 := by simpa using hN
    subst this
    cases ad with
    | none => rfl
    | some a => rfl
  · obtain ⟨g, o, rfl, _, hj⟩ := hcell h0
    show rd w g o k = N
    rw [rd_eq hj, mod_self hN]

set_option maxRecDepth 100000 in
set_option maxHeartbeats 2000000 in
theorem Gcd_num {v u : Value} {A B : Nat} {w : World} (h : Num w v A) (h' : Num w u B) :
    Calls Tryd.prog 47 #[v, u] w fun e w' => ∃ r, e = .returned (.tuple #[r, .int .i64 0]) ∧ Num w' r (Nat.gcd A B) ∧ Below w.heap.size w w' := by
  have H1 := hide (And.intro h h')
  obtain ⟨k, h1, h2, h3⟩ := h
  obtain ⟨m, g1, g2, g3⟩ := h'
  have HC := hide (checkBoth_ok v u k A m B w h1 g1 h2 g2 h3 g3)
  have HCm := hide (compare_any v u k A m B w h1 g1 h2 g2)
  clear h1 h2 g1 g2
  by_cases hlt : A < B
  · have hcmp : cmpI A B = -1 := cmpI_lt hlt
    rw [hcmp] at HCm
    have Hlt := hide hlt
    clear hcmp hlt
    go_enter Tryd.func47, Tryd.ntmps47
    go_wp2_with fail
    refine HC.out.mono ?_
    rintro e w1 ⟨rfl, rfl⟩
    go_wp2_with fail
    refine HCm.out.mono ?_
    rintro e w2 ⟨rfl, n, rfl⟩
    have H2 : Hid (Num (w1.drewN n) v A ∧ Num (w1.drewN n) u B ∧ Below w1.heap.size w1 (w1.drewN n)) := ⟨H1.out.1.below (below_drewN (Below.refl _ _) n), H1.out.2.below (below_drewN (Below.refl _ _) n), below_drewN (Below.refl _ _) n⟩
    generalize w1.drewN n = w2 at *
    go_wp2_with fail
    go_loopw [7, 8] (fun t7 t8 wr => ∃ X Y : Nat, Hid (Num wr t7 X ∧ Num wr t8 Y ∧ Y ≤ X ∧ Nat.gcd X Y = Nat.gcd A B ∧ Below w1.heap.size w1 wr)) (fun _ t8 wr => valOf wr t8)
    case atStart => exact ⟨B, A, H2.out.2.1, H2.out.1, Nat.le_of_lt Hlt.out, Nat.gcd_comm _ _, H2.out.2.2⟩
    case round =>
      obtain ⟨X, Y, HM⟩ := hrel
      obtain ⟨k, hy1, hy2, hy3⟩ := HM.out.2.1
      obtain ⟨_, _, ad, cap, rfl, _, _⟩ := hy1
      have hkz := hy2.zero_iff
      clear hy2
      by_cases hk0 : k = 0
      · have hY0 : Y = 0 := hkz.1 hk0
        have HY0 := hide hY0
        subst hk0
        clear hY0 hkz
        go_wp2_with fail
        obtain ⟨k7, r7, n7, l7⟩ := HM.out.1
        have HT := hide (tell_any _ k7 X wr r7)
        clear r7 n7
        refine HT.out.mono ?_
        rintro e w2 ⟨r, c, rfl, ht, hb⟩
        have HR : Hid (c = 0 ∧ Num w2 r (Nat.gcd A B) ∧ Below w1.heap.size w1 w2) := by
          have hg := HM.out.2.2.2.1
          rw [HY0.out, Nat.gcd_zero_right] at hg
          rcases ht with ⟨h1, h2, n, h3, h4⟩ | ⟨h1, _⟩
          · exact ⟨h2, by rw [← hg]; exact h3.num h4 h1, HM.out.2.2.2.2.trans (hb.mono HM.out.2.2.2.2.size)⟩
          · exact absurd HM.out.1.fits h1
        clear ht hb
        obtain rfl := HR.out.1
        go_wp2_with fail
        go_ret2
        exact ⟨r, rfl, HR.out.2.1, HR.out.2.2⟩
      · have hk1 : (0 : Int) < (k : Int) := by omega
        have HY0 : Hid (0 < Y) := Nat.pos_of_ne_zero fun e => hk0 (hkz.2 e)
        clear hkz
        go_wp2_with fail
        refine (goDown_num HM.out.1 HM.out.2.1 HM.out.2.2.1 HY0.out).mono ?_
        rintro e w2 ⟨r, s, rfl, ⟨P, Q, hP⟩, hb⟩
        have HN : Hid (Num w2 r P ∧ Num w2 s Q ∧ Q ≤ P ∧ Nat.gcd P Q = Nat.gcd A B ∧ Below w1.heap.size w1 w2) := ⟨hP.1, hP.2.1, hP.2.2.1, hP.2.2.2.2.trans HM.out.2.2.2.1, HM.out.2.2.2.2.trans (hb.mono HM.out.2.2.2.2.size)⟩
        have HQ : Hid (valOf w2 s < valOf wr (.slice ad k cap)) := by
          show _ < _
          rw [hP.2.1.val, HM.out.2.1.val]; exact hP.2.2.2.1
        clear hP hb
        go_wp2_with fail
        go_roundw
        case rel => exact ⟨P, Q, HN.out⟩
        case measure => exact HQ.out
  · have hcmp : ¬ cmpI A B < 0 := fun h => hlt (cmpI_neg.1 h)
    have Hlt : Hid (B ≤ A) := Nat.le_of_not_lt hlt
    generalize cmpI A B = cc at *
    clear hlt
    go_enter Tryd.func47, Tryd.ntmps47
    go_wp2_with fail
    refine HC.out.mono ?_
    rintro e w1 ⟨rfl, rfl⟩
    go_wp2_with fail
    refine HCm.out.mono ?_
    rintro e w2 ⟨rfl, n, rfl⟩
    have H2 : Hid (Num (w1.drewN n) v A ∧ Num (w1.drewN n) u B ∧ Below w1.heap.size w1 (w1.drewN n)) := ⟨H1.out.1.below (below_drewN (Below.refl _ _) n), H1.out.2.below (below_drewN (Below.refl _ _) n), below_drewN (Below.refl _ _) n⟩
    generalize w1.drewN n = w2 at *
    go_wp2_with fail
    go_loopw [7, 8] (fun t7 t8 wr => ∃ X Y : Nat, Hid (Num wr t7 X ∧ Num wr t8 Y ∧ Y ≤ X ∧ Nat.gcd X Y = Nat.gcd A B ∧ Below w1.heap.size w1 wr)) (fun _ t8 wr => valOf wr t8)
    case atStart => exact ⟨A, B, H2.out.1, H2.out.2.1, Hlt.out, rfl, H2.out.2.2⟩
    case round =>
      obtain ⟨X, Y, HM⟩ := hrel
      obtain ⟨k, hy1, hy2, hy3⟩ := HM.out.2.1
      obtain ⟨_, _, ad, cap, rfl, _, _⟩ := hy1
      have hkz := hy2.zero_iff
      clear hy2
      by_cases hk0 : k = 0
      · have hY0 : Y = 0 := hkz.1 hk0
        have HY0 := hide hY0
        subst hk0
        clear hY0 hkz
        go_wp2_with fail
        obtain ⟨k7, r7, n7, l7⟩ := HM.out.1
        have HT := hide (tell_any _ k7 X wr r7)
        clear r7 n7
        refine HT.out.mono ?_
        rintro e w2 ⟨r, c, rfl, ht, hb⟩
        have HR : Hid (c = 0 ∧ Num w2 r (Nat.gcd A B) ∧ Below w1.heap.size w1 w2) := by
          have hg := HM.out.2.2.2.1
          rw [HY0.out, Nat.gcd_zero_right] at hg
          rcases ht with ⟨h1, h2, n, h3, h4⟩ | ⟨h1, _⟩
          · exact ⟨h2, by rw [← hg]; exact h3.num h4 h1, HM.out.2.2.2.2.trans (hb.mono HM.out.2.2.2.2.size)⟩
          · exact absurd HM.out.1.fits h1
        clear ht hb
        obtain rfl := HR.out.1
        go_wp2_with fail
        go_ret2
        exact ⟨r, rfl, HR.out.2.1, HR.out.2.2⟩
      · have hk1 : (0 : Int) < (k : Int) := by omega
        have HY0 : Hid (0 < Y) := Nat.pos_of_ne_zero fun e => hk0 (hkz.2 e)
        clear hkz
        go_wp2_with fail
        refine (goDown_num HM.out.1 HM.out.2.1 HM.out.2.2.1 HY0.out).mono ?_
        rintro e w2 ⟨r, s, rfl, ⟨P, Q, hP⟩, hb⟩
        have HN : Hid (Num w2 r P ∧ Num w2 s Q ∧ Q ≤ P ∧ Nat.gcd P Q = Nat.gcd A B ∧ Below w1.heap.size w1 w2) := ⟨hP.1, hP.2.1, hP.2.2.1, hP.2.2.2.2.trans HM.out.2.2.2.1, HM.out.2.2.2.2.trans (hb.mono HM.out.2.2.2.2.size)⟩
        have HQ : Hid (valOf w2 s < valOf wr (.slice ad k cap)) := by
          show _ < _
          rw [hP.2.1.val, HM.out.2.1.val]; exact hP.2.2.2.1
        clear hP hb
        go_wp2_with fail
        go_roundw
        case rel => exact ⟨P, Q, HN.out⟩
        case measure => exact HQ.out

end Go.Proofs.YtmfimhpbdbbpoaaDoor

namespace Go.Proofs.YtmfimhpbdbbpoaaDoor
open Go.RowKit
open M
set_option linter.unusedVariables false
set_option linter.unusedSimpArgs false

set_option maxRecDepth 100000 in
set_option maxHeartbeats 2000000 in
theorem Gcd_own {v u : Value} {A B : Nat} {w : World} (h : Num w v A) (h' : Num w u B) :
    Calls Tryd.prog 47 #[v, u] w fun e w' => ∃ r, e = .returned (.tuple #[r, .int .i64 0]) ∧ (∃ n, Own w' w.heap.size r n (Nat.gcd A B) ∧ Nrm n (Nat.gcd A B)) ∧ Below w.heap.size w w' := by
  have H1 := hide (And.intro h h')
  obtain ⟨k, h1, h2, h3⟩ := h
  obtain ⟨m, g1, g2, g3⟩ := h'
  have HC := hide (checkBoth_ok v u k A m B w h1 g1 h2 g2 h3 g3)
  have HCm := hide (compare_any v u k A m B w h1 g1 h2 g2)
  clear h1 h2 g1 g2
  by_cases hlt : A < B
  · have hcmp : cmpI A B = -1 := cmpI_lt hlt
    rw [hcmp] at HCm
    have Hlt := hide hlt
    clear hcmp hlt
    go_enter Tryd.func47, Tryd.ntmps47
    go_wp2_with fail
    refine HC.out.mono ?_
    rintro e w1 ⟨rfl, rfl⟩
    go_wp2_with fail
    refine HCm.out.mono ?_
    rintro e w2 ⟨rfl, n, rfl⟩
    have H2 : Hid (Num (w1.drewN n) v A ∧ Num (w1.drewN n) u B ∧ Below w1.heap.size w1 (w1.drewN n)) := ⟨H1.out.1.below (below_drewN (Below.refl _ _) n), H1.out.2.below (below_drewN (Below.refl _ _) n), below_drewN (Below.refl _ _) n⟩
    generalize w1.drewN n = w2 at *
    go_wp2_with fail
    go_loopw [7, 8] (fun t7 t8 wr => ∃ X Y : Nat, Hid (Num wr t7 X ∧ Num wr t8 Y ∧ Y ≤ X ∧ Nat.gcd X Y = Nat.gcd A B ∧ Below w1.heap.size w1 wr)) (fun _ t8 wr => valOf wr t8)
    case atStart => exact ⟨B, A, H2.out.2.1, H2.out.1, Nat.le_of_lt Hlt.out, Nat.gcd_comm _ _, H2.out.2.2⟩
    case round =>
      obtain ⟨X, Y, HM⟩ := hrel
      obtain ⟨k, hy1, hy2, hy3⟩ := HM.out.2.1
      obtain ⟨_, _, ad, cap, rfl, _, _⟩ := hy1
      have hkz := hy2.zero_iff
      clear hy2
      by_cases hk0 : k = 0
      · have hY0 : Y = 0 := hkz.1 hk0
        have HY0 := hide hY0
        subst hk0
        clear hY0 hkz
        go_wp2_with fail
        obtain ⟨k7, r7, n7, l7⟩ := HM.out.1
        have HT := hide (tell_any _ k7 X wr r7)
        clear r7 n7
        refine HT.out.mono ?_
        rintro e w2 ⟨r, c, rfl, ht, hb⟩
        have HR : Hid (c = 0 ∧ (∃ n, Own w2 w1.heap.size r n (Nat.gcd A B) ∧ Nrm n (Nat.gcd A B)) ∧ Below w1.heap.size w1 w2) := by
          have hg := HM.out.2.2.2.1
          rw [HY0.out, Nat.gcd_zero_right] at hg
          rcases ht with ⟨h1, h2, n, h3, h4⟩ | ⟨h1, _⟩
          · exact ⟨h2, by rw [← hg]; exact ⟨n, h3.mono HM.out.2.2.2.2.size, h4⟩, HM.out.2.2.2.2.trans (hb.mono HM.out.2.2.2.2.size)⟩
          · exact absurd HM.out.1.fits h1
        clear ht hb
        obtain rfl := HR.out.1
        go_wp2_with fail
        go_ret2
        exact ⟨r, rfl, HR.out.2.1, HR.out.2.2⟩
      · have hk1 : (0 : Int) < (k : Int) := by omega
        have HY0 : Hid (0 < Y) := Nat.pos_of_ne_zero fun e => hk0 (hkz.2 e)
        clear hkz
        go_wp2_with fail
        refine (goDown_num HM.out.1 HM.out.2.1 HM.out.2.2.1 HY0.out).mono ?_
        rintro e w2 ⟨r, s, rfl, ⟨P, Q, hP⟩, hb⟩
        have HN : Hid (Num w2 r P ∧ Num w2 s Q ∧ Q ≤ P ∧ Nat.gcd P Q = Nat.gcd A B ∧ Below w1.heap.size w1 w2) := ⟨hP.1, hP.2.1, hP.2.2.1, hP.2.2.2.2.trans HM.out.2.2.2.1, HM.out.2.2.2.2.trans (hb.mono HM.out.2.2.2.2.size)⟩
        have HQ : Hid (valOf w2 s < valOf wr (.slice ad k cap)) := by
          show _ < _
          rw [hP.2.1.val, HM.out.2.1.val]; exact hP.2.2.2.1
        clear hP hb
        go_wp2_with fail
        go_roundw
        case rel => exact ⟨P, Q, HN.out⟩
        case measure => exact HQ.out
  · have hcmp : ¬ cmpI A B < 0 := fun h => hlt (cmpI_neg.1 h)
    have Hlt : Hid (B ≤ A) := Nat.le_of_not_lt hlt
    generalize cmpI A B = cc at *
    clear hlt
    go_enter Tryd.func47, Tryd.ntmps47
    go_wp2_with fail
    refine HC.out.mono ?_
    rintro e w1 ⟨rfl, rfl⟩
    go_wp2_with fail
    refine HCm.out.mono ?_
    rintro e w2 ⟨rfl, n, rfl⟩
    have H2 : Hid (Num (w1.drewN n) v A ∧ Num (w1.drewN n) u B ∧ Below w1.heap.size w1 (w1.drewN n)) := ⟨H1.out.1.below (below_drewN (Below.refl _ _) n), H1.out.2.below (below_drewN (Below.refl _ _) n), below_drewN (Below.refl _ _) n⟩
    generalize w1.drewN n = w2 at *
    go_wp2_with fail
    go_loopw [7, 8] (fun t7 t8 wr => ∃ X Y : Nat, Hid (Num wr t7 X ∧ Num wr t8 Y ∧ Y ≤ X ∧ Nat.gcd X Y = Nat.gcd A B ∧ Below w1.heap.size w1 wr)) (fun _ t8 wr => valOf wr t8)
    case atStart => exact ⟨A, B, H2.out.1, H2.out.2.1, Hlt.out, rfl, H2.out.2.2⟩
    case round =>
      obtain ⟨X, Y, HM⟩ := hrel
      obtain ⟨k, hy1, hy2, hy3⟩ := HM.out.2.1
      obtain ⟨_, _, ad, cap, rfl, _, _⟩ := hy1
      have hkz := hy2.zero_iff
      clear hy2
      by_cases hk0 : k = 0
      · have hY0 : Y = 0 := hkz.1 hk0
        have HY0 := hide hY0
        subst hk0
        clear hY0 hkz
        go_wp2_with fail
        obtain ⟨k7, r7, n7, l7⟩ := HM.out.1
        have HT := hide (tell_any _ k7 X wr r7)
        clear r7 n7
        refine HT.out.mono ?_
        rintro e w2 ⟨r, c, rfl, ht, hb⟩
        have HR : Hid (c = 0 ∧ (∃ n, Own w2 w1.heap.size r n (Nat.gcd A B) ∧ Nrm n (Nat.gcd A B)) ∧ Below w1.heap.size w1 w2) := by
          have hg := HM.out.2.2.2.1
          rw [HY0.out, Nat.gcd_zero_right] at hg
          rcases ht with ⟨h1, h2, n, h3, h4⟩ | ⟨h1, _⟩
          · exact ⟨h2, by rw [← hg]; exact ⟨n, h3.mono HM.out.2.2.2.2.size, h4⟩, HM.out.2.2.2.2.trans (hb.mono HM.out.2.2.2.2.size)⟩
          · exact absurd HM.out.1.fits h1
        clear ht hb
        obtain rfl := HR.out.1
        go_wp2_with fail
        go_ret2
        exact ⟨r, rfl, HR.out.2.1, HR.out.2.2⟩
      · have hk1 : (0 : Int) < (k : Int) := by omega
        have HY0 : Hid (0 < Y) := Nat.pos_of_ne_zero fun e => hk0 (hkz.2 e)
        clear hkz
        go_wp2_with fail
        refine (goDown_num HM.out.1 HM.out.2.1 HM.out.2.2.1 HY0.out).mono ?_
        rintro e w2 ⟨r, s, rfl, ⟨P, Q, hP⟩, hb⟩
        have HN : Hid (Num w2 r P ∧ Num w2 s Q ∧ Q ≤ P ∧ Nat.gcd P Q = Nat.gcd A B ∧ Below w1.heap.size w1 w2) := ⟨hP.1, hP.2.1, hP.2.2.1, hP.2.2.2.2.trans HM.out.2.2.2.1, HM.out.2.2.2.2.trans (hb.mono HM.out.2.2.2.2.size)⟩
        have HQ : Hid (valOf w2 s < valOf wr (.slice ad k cap)) := by
          show _ < _
          rw [hP.2.1.val, HM.out.2.1.val]; exact hP.2.2.2.1
        clear hP hb
        go_wp2_with fail
        go_roundw
        case rel => exact ⟨P, Q, HN.out⟩
        case measure => exact HQ.out

end Go.Proofs.YtmfimhpbdbbpoaaDoor

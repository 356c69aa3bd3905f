/- CodeDecimals: the law's own long, Within, none. -/
import Derived.Test.YtleffbpjjbiobaaGreatDoorC4C64
import Derived.Test.YtleffbpjjbiobaaGreatDoorC3E64
import Derived.Test.YtleffbpjjbiobaaGreatDoorB1W
import Derived.Test.YtleffbpjjbiobaaGreatDoorP2F
/- What the law's own column comes to, by each kind. -/
namespace Go.Proofs.YtleffbpjjbiobaaGreatDoor
open Go.RowKit
open M
set_option linter.unusedVariables false

/-- The column that the laws lay to see that the program works. -/
def wkF (i : Nat) : Nat := if i = 0 then 4609434218613702656 else if i = 1 then 4612811918334230528 else 4612248968380809216

theorem wkF_lt (i : Nat) : wkF i < 18446744073709551616 := by unfold wkF; split; omega; split <;> omega

set_option maxRecDepth 100000 in
theorem wk_bs : F64.bs wkF 3 22 = (2, 0) := by
  have h2 : F64.bs wkF 3 2 = (2, 0) := by decide +kernel
  rw [F64.bs_stop wkF 3 2 22 (by omega) (by rw [h2]), h2]

set_option maxRecDepth 100000 in
theorem wk_wb : F64.wb 2 wkF 0 3 0 = varB (zig 150) ++ (varB (zig 100) ++ varB (zig (-25))) := by decide +kernel

theorem wk_nt : F64.nt 64 2 wkF 0 3 0 = [] := by decide +kernel
theorem wk_cnt : F64.cnt 2 wkF 0 3 = 0 := by decide +kernel

theorem wk6 : (F64.dm 64 wkF 3).length = 53 := by
  unfold Dm.dm
  rw [show F64.mostP = 22 from rfl, wk_bs, wk_cnt, wk_nt, wk_wb]
  decide +kernel

theorem wk1 : (plB 64 wkF 3).length = 192 := by rw [plB_length]
theorem wk2 : 56 < (cbn 64 6 wkF 3).length := by decide +kernel
theorem wk3 : 56 < (rnB 64 wkF 3 0 3).length := by decide +kernel
theorem wk4 : (uq wkF 3).length ≤ 256 ∧ 56 < (dcB 64 wkF 3).length := by decide +kernel
theorem wk5 : 56 < (stB 9223372036854775808 18446744073709551616 wkF 3).length := by decide +kernel

end Go.Proofs.YtleffbpjjbiobaaGreatDoor

/- The law's own works() is true (of fathomlaw8). -/
namespace Go.Proofs.YtleffbpjjbiobaaGreatDoor
open Go.RowKit
open M
set_option linter.unusedVariables false
set_option linter.unusedSimpArgs false

theorem wkO (k : Nat) (h1 : 1 ≤ k) (h6 : k ≤ 6) : ∃ l, codeO64 k wkF 3 = some l ∧ 0 < l.length ∧ (k ≠ 6 → 56 < l.length) ∧ (k = 6 → l.length = 53) := by
  obtain rfl | rfl | rfl | rfl | rfl | rfl : k = 1 ∨ k = 2 ∨ k = 3 ∨ k = 4 ∨ k = 5 ∨ k = 6 := by omega
  · exact ⟨_, rfl, by rw [wk1]; omega, fun _ => by rw [wk1]; omega, fun h => by omega⟩
  · exact ⟨_, rfl, by have := wk2; omega, fun _ => wk2, fun h => by omega⟩
  · exact ⟨_, rfl, by have := wk3; omega, fun _ => wk3, fun h => by omega⟩
  · refine ⟨dcB 64 wkF 3, ?_, by have := wk4.2; omega, fun _ => wk4.2, fun h => by omega⟩
    show dcO 64 wkF 3 = _
    unfold dcO
    rw [if_pos wk4.1]
  · exact ⟨_, rfl, by have := wk5; omega, fun _ => wk5, fun h => by omega⟩
  · exact ⟨_, rfl, by rw [wk6]; omega, fun h => absurd rfl h, fun _ => wk6⟩

theorem wkIs (k : Nat) (bs : List Nat) (h1 : 1 ≤ k) (h6 : k ≤ 6) (hP : PackIs64 k 3 wkF bs) : 0 < bs.length ∧ (k ≠ 6 → 7 < bs.length) ∧ (k = 6 → bs.length = 7) := by
  obtain ⟨l, q1, q2, q3, q4⟩ := wkO k h1 h6
  obtain ⟨l', r1, r2⟩ := hP.2.2 (by omega)
  rw [q1] at r1
  cases r1
  have := packed_length l
  rw [r2] at this
  exact ⟨by omega, fun h => by have := q3 h; omega, fun h => by have := q4 h; omega⟩

theorem wkSome (k : Nat) (h1 : 1 ≤ k) (h6 : k ≤ 6) : ∃ bs, PackIs64 k 3 wkF bs := by
  obtain ⟨l, q1, _⟩ := wkO k h1 h6
  exact ⟨packed l, fun i _ => wkF_lt i, fun h => by omega, fun _ => ⟨l, q1, rfl⟩⟩

theorem wkRow {w : World} {g : Nat} {t : TypeId} (h : w.heap[g]? = some (.cells #[.int .u64 4609434218613702656, .int .u64 4612811918334230528, .int .u64 4612248968380809216] t (0, 0))) : URow64 w (some ⟨g, 0, none⟩) 3 wkF := fun _ =>
  ⟨g, 0, rfl, fun i hi => by
    rw [cell_of_row _ _ _ _ _ _ h]
    rcases (show i = 0 ∨ i = 1 ∨ i = 2 by omega) with rfl | rfl | rfl <;> rfl⟩

set_option maxRecDepth 100000 in
set_option maxHeartbeats 4000000 in
theorem works8_any (w : World) (hT : Tab64 w) : Calls Tryz.prog 10 #[] w fun e w' => e = .returned (.bool true) ∧ Below w.heap.size w w' := by
  have HR : Hid (URow64 (w.alloc (.cells #[.int .u64 4609434218613702656, .int .u64 4612811918334230528, .int .u64 4612248968380809216] 39)) (some ⟨w.heap.size, 0, none⟩) 3 wkF) := wkRow (heap_alloc_new _ _)
  have HB : Hid (Below w.heap.size w (w.alloc (.cells #[.int .u64 4609434218613702656, .int .u64 4612811918334230528, .int .u64 4612248968380809216] 39))) := (Below.refl _ _).alloc (Nat.le_refl _) _
  have HT := hide hT
  have HAG := hide (fun k w1 (hk1 : 1 ≤ k) (hk6 : k ≤ 6) (h : URow64 w1 (some ⟨w.heap.size, 0, none⟩) 3 wkF) (hT : Tab64 w1) => cAgain64 k (some ⟨w.heap.size, 0, none⟩) 3 3 wkF w1 hk1 hk6 h (by omega) (by omega) (fun i _ => wkF_lt i) hT)
  have HUN := hide (fun k v bs w1 (hk1 : 1 ≤ k) (hk6 : k ≤ 6) h1 h2 h3 (hT : Tab64 w1) => cUnpack64_any k v bs 3 w1 hk1 hk6 h1 h2 h3 (by omega) hT)
  have HBE := hide (fun w1 (h : URow64 w1 (some ⟨w.heap.size, 0, none⟩) 3 wkF) (hT : Tab64 w1) => best64_any (some ⟨w.heap.size, 0, none⟩) 3 3 wkF w1 h (by omega) (by omega) (fun i _ => wkF_lt i) hT)
  have HSM := hide (fun p cap (f : Nat → Nat) w1 (h : URow64 w1 p 3 f) (h' : URow64 w1 (some ⟨w.heap.size, 0, none⟩) 3 wkF) => same8_any p (some ⟨w.heap.size, 0, none⟩) 3 3 cap 3 f wkF w1 h h' (by omega) (by omega))
  obtain ⟨g, hg⟩ : ∃ g, w.heap.size = g := ⟨_, rfl⟩
  have HGG := hide hg
  rw [hg] at HR HAG HBE HSM
  clear hT
  go_enter Tryz.func10, Tryz.ntmps10
  go_upto_region 2 with fail
  (try rw [hg])
  clear hg
  generalize w.alloc (.cells #[.int .u64 4609434218613702656, .int .u64 4612811918334230528, .int .u64 4612248968380809216] 39) = w0 at *
  go_wp2_with fail
  go_loopw [2] (fun t2 wr => ∃ k : Nat, t2 = .int .i64 ((k : Int) + 1) ∧ Hid (k ≤ 6 ∧ Below w0.heap.size w0 wr)) (fun t2 _ => 8 - (intOf t2).toNat)
  case atStart => exact ⟨0, rfl, by omega, Below.refl _ _⟩
  case round =>
    obtain ⟨k, rfl, hI⟩ := hrel
    have HBw : Hid (Below w.heap.size w wr) := HB.out.trans (hI.out.2.mono HB.out.size)
    have HRw : Hid (URow64 wr (some ⟨g, 0, none⟩) 3 wkF) := HR.out.below hI.out.2
    by_cases hlt : k + 1 ≤ 6
    · have hle : (k : Int) + 1 ≤ 6 := by omega
      have HA := hide (HAG.out (k + 1) wr (by omega) hlt HRw.out (HT.out.below HBw.out))
      rw [show (((k + 1 : Nat)) : Int) = (k : Int) + 1 from by simp] at HA
      go_wp2_with fail
      refine HA.out.mono ?_
      intro e w1 hE
      rcases hE with ⟨pu, cu, bs, rfl, h2, h3, h4, h5, h6⟩ | ⟨rfl, h2, h3⟩
      · have hwk := wkIs (k + 1) bs (by omega) hlt h5
        have HP := hide h5
        have HB1 : Hid (Below w.heap.size w w1 ∧ Below w0.heap.size w0 w1) := ⟨HBw.out.trans (h4.mono HBw.out.size), hI.out.2.trans (h4.mono hI.out.2.size)⟩
        have hlen : bs.length ≤ 1000000000000 := by
          by_cases e : k + 1 = 6
          · have := hwk.2.2 e; omega
          · obtain ⟨l, q1, q2⟩ := h5.2.2 (by omega)
            rw [← q2, packed_length]
            obtain rfl | rfl | rfl | rfl | rfl : k = 0 ∨ k = 1 ∨ k = 2 ∨ k = 3 ∨ k = 4 := by omega
            · cases q1; rw [wk1]; omega
            · cases q1; have : (cbn 64 6 wkF 3).length ≤ 1000 := by decide +kernel
              omega
            · cases q1; have := rnB_len64 wkF 3 0 3; omega
            · have e2 : dcB 64 wkF 3 = l := by
                have q3 : dcO 64 wkF 3 = some l := q1
                unfold dcO at q3
                rw [if_pos wk4.1] at q3
                cases q3; rfl
              rw [← e2]
              have : (dcB 64 wkF 3).length ≤ 1000 := by decide +kernel
              omega
            · cases q1; have := stB_len64 9223372036854775808 18446744073709551616 wkF 3; omega
        have HU := hide (HUN.out (k + 1) _ bs w1 (by omega) hlt h2 h3 hlen (HT.out.below HB1.out.1))
        rw [show (((k + 1 : Nat)) : Int) = (k : Int) + 1 from by simp] at HU
        have hb0 : ((bs.length : Int) == 0) = false := by rw [beq_eq_false_iff_ne]; have := hwk.1; omega
        clear h2 h3 h4 h5 h6 hlen hwk
        go_wp2_with fail
        refine HU.out.mono ?_
        intro e w2 hE
        rcases hE with ⟨rfl, h2, h3⟩ | ⟨v, f, rfl, h2, h3, h4⟩
        · exact absurd HP.out (fun h => h3 wkF h)
        · obtain ⟨pv, cv, rfl, hcv, hrow⟩ := h2.row
          have hf := h4 wkF HP.out
          have HB2 : Hid (Below w.heap.size w w2 ∧ Below w0.heap.size w0 w2) := by
            have hB := h2.2.1
            exact ⟨HB1.out.1.trans (hB.mono HB1.out.1.size), HB1.out.2.trans (hB.mono HB1.out.2.size)⟩
          have HSA := hide (HSM.out pv cv f w2 hrow (HR.out.below HB2.out.2))
          have HFE := hide hf
          clear h2 h3 h4 hrow hf
          go_wp2_with fail
          refine (num8_any _ _).mono ?_
          rintro e wn ⟨rfl, hwn⟩
          have hwn := hwn.symm
          subst hwn
          go_wp2_with fail
          refine (num8_any _ _).mono ?_
          rintro e wn ⟨rfl, hwn⟩
          have hwn := hwn.symm
          subst hwn
          go_wp2_with fail
          refine HSA.out.mono ?_
          rintro e w3 ⟨v, rfl, hv, m, rfl⟩
          obtain rfl : v = true := hv.2 ⟨by trivial, HFE.out⟩
          have HB3 : Hid (Below w0.heap.size w0 (w2.drewN m)) := ⟨HB2.out.2.os, HB2.out.2.tape, HB2.out.2.output, HB2.out.2.size, HB2.out.2.block⟩
          clear hv
          generalize w2.drewN m = w4 at *
          go_wp2_with fail
          go_roundw
          case rel => exact ⟨k + 1, by simp, hlt, HB3.out⟩
          case measure => simp [intOf]; omega
      · exfalso
        obtain ⟨bs, hbs⟩ := wkSome (k + 1) (by omega) hlt
        exact h3 bs hbs
    · have hk : k = 6 := by have := hI.out.1; omega
      subst hk
      have HBB := hide (HBE.out wr HRw.out (HT.out.below HBw.out))
      go_wp2_with fail
      refine HBB.out.mono ?_
      rintro e w1 ⟨k, p, c, bs, rfl, h2, h3, h4, h5⟩
      have hw := wkIs k bs h4.lo (by have := h4.hi; omega) h4.is
      obtain ⟨b6, hb6⟩ := wkSome 6 (by omega) (by omega)
      have hw6 := (wkIs 6 b6 (by omega) (by omega) hb6).2.2 rfl
      have hk6 : k = 6 := by
        by_cases e : k = 6
        · exact e
        · have := hw.2.1 e
          rcases h4.least 6 b6 (by omega) (by omega) hb6 with h | h <;> omega
      have hl7 : bs.length = 7 := hw.2.2 hk6
      have HB1 : Hid (Below w.heap.size w w1) := HBw.out.trans (h5.mono HBw.out.size)
      subst hk6
      rw [hl7]
      clear h2 h3 h4 h5 hw hb6 hw6 hl7
      go_wp2_with fail
      refine (num8_any _ _).mono ?_
      rintro e wn ⟨rfl, hwn⟩
      have hwn := hwn.symm
      subst hwn
      go_wp2_with fail
      go_ret
      exact ⟨rfl, HB1.out⟩

end Go.Proofs.YtleffbpjjbiobaaGreatDoor

namespace Go.Proofs.YtleffbpjjbiobaaGreatDoor
open Go.RowKit
open M
set_option linter.unusedVariables false
set_option linter.unusedSimpArgs false

theorem zig_le (x : Int) (h1 : -4000000000000000 ≤ x) (h2 : x ≤ 4000000000000000) : zig x ≤ 8000000000000000 := by unfold zig; split <;> omega

theorem grp_step (c u L : Nat) (hb : u * 128 ^ c ≤ 8000000000000000) (h : L = 8 * c + (groups (9 - c) u).length) (hu : 128 ≤ u) : (u / 128) * 128 ^ (c + 1) ≤ 8000000000000000 ∧ L = 8 * (c + 1) + (groups (9 - (c + 1)) (u / 128)).length ∧ c ≤ 6 := by
  have hc : c ≤ 6 := by
    rcases Nat.lt_or_ge 6 c with h7 | h7
    · have a : (128 : Nat) ^ 7 ≤ 128 ^ c := Nat.pow_le_pow_right (by omega) (by omega)
      have b : 128 * 128 ^ 7 ≤ u * 128 ^ c := Nat.mul_le_mul hu a
      have e : (128 : Nat) * 128 ^ 7 = 72057594037927936 := by decide
      omega
    · exact h7
  refine ⟨?_, ?_, hc⟩
  · rw [Nat.pow_succ, Nat.mul_comm (128 ^ c) 128, ← Nat.mul_assoc]
    exact Nat.le_trans (Nat.mul_le_mul_right _ (Nat.div_mul_le_self u 128)) hb
  · obtain ⟨k, hk⟩ : ∃ k, 9 - c = k + 1 := ⟨8 - c, by omega⟩
    have hk2 : 9 - (c + 1) = k := by omega
    rw [hk, groups_big k u hu, List.length_append, bitsOf_length] at h
    rw [hk2, h]; omega

set_option maxRecDepth 100000 in
set_option maxHeartbeats 1000000 in
theorem long8_any (x : Int) (w : World) (h1 : -4000000000000000 ≤ x) (h2 : x ≤ 4000000000000000) :
    Calls Tryz.prog 21 #[.int .i64 x] w fun e w' => e = .returned (.int .i64 ((varB (zig x)).length : Int)) ∧ w' = w := by
  obtain ⟨u0, hu0⟩ : ∃ u0, zig x = u0 := ⟨_, rfl⟩
  have hub : u0 ≤ 8000000000000000 := by rw [← hu0]; exact zig_le x h1 h2
  rw [hu0]
  obtain ⟨L, hL⟩ : ∃ L, (varB u0).length = L := ⟨_, rfl⟩
  rw [hL]
  have HL : Hid (u0 * 128 ^ 0 ≤ 8000000000000000 ∧ L = 8 * 0 + (groups (9 - 0) u0).length) := ⟨by omega, by rw [← hL]; unfold varB; simp⟩
  clear hL
  by_cases hx : x < 0
  · obtain ⟨a, rfl⟩ : ∃ a : Nat, x = -1 - (a : Int) := ⟨(-1 - x).toNat, by omega⟩
    have e0 : (-1 : Int) - (-1 - (a : Int)) = (a : Int) := by omega
    have e1 : IntKind.u64.wrap (a : Int) = (a : Int) := by rw [IntKind.wrap_u64]; omega
    have e3 : IntKind.u64.wrap (2 * (a : Int)) = 2 * (a : Int) := by rw [IntKind.wrap_u64]; omega
    have e4 : IntKind.u64.wrap (2 * (a : Int) + 1) = 2 * (a : Int) + 1 := by rw [IntKind.wrap_u64]; omega
    have e5 : wrap64 (a : Int) = (a : Int) := by unfold wrap64; omega
    have e2 : u0 = 2 * a + 1 := by rw [← hu0]; unfold zig; rw [if_pos hx]; omega
    subst e2
    have HUB := hide hub
    have HH := hide (And.intro h1 h2)
    clear hu0 hub h1 h2
    go_enter Tryz.func21, Tryz.ntmps21
    go_wp2_with fail
    go_loopw [3, 4] (fun t3 t4 wr => ∃ u c : Nat, t3 = .int .u64 (u : Int) ∧ t4 = .int .i64 (8 * (c : Int) + 8) ∧ Hid (u * 128 ^ c ≤ 8000000000000000 ∧ L = 8 * c + (groups (9 - c) u).length) ∧ Hid (c ≤ 7) ∧ Hid (wr = w)) (fun t3 _ _ => (intOf t3).toNat)
    case atStart => exact ⟨2 * a + 1, 0, by simp [e1, e3, e4, e5], rfl, HL.out, Nat.zero_le _, rfl⟩
    case round =>
      obtain ⟨u, c, rfl, rfl, hI, hC, hw⟩ := hrel
      obtain rfl := hw.out
      clear hw
      by_cases hu : 128 ≤ u
      · have hs := grp_step c u L hI.out.1 hI.out.2 hu
        have hc7 : c ≤ 6 := hs.2.2
        obtain ⟨v, hv⟩ : ∃ v, u / 128 = v := ⟨_, rfl⟩
        rw [hv] at hs
        have hub2 : u ≤ 8000000000000000 := by
          have := hI.out.1
          exact Nat.le_trans (Nat.le_mul_of_pos_right u (Nat.pos_of_ne_zero (by simp))) this
        have q1 : (u : Int).tdiv 128 = (v : Int) := by rw [Int.tdiv_eq_ediv_of_nonneg (by omega)]; omega
        have q2 : IntKind.u64.wrap (v : Int) = (v : Int) := by rw [IntKind.wrap_u64]; omega
        have hvu : v < u := by omega
        clear hv hub2
        have HS := hide hs
        clear hs hI hC
        go_wp2_with fail
        go_roundw
        case rel => exact ⟨v, c + 1, rfl, by simp; omega, ⟨HS.out.1, HS.out.2.1⟩, by show c + 1 ≤ 7; omega, trivial⟩
        case measure => simp [intOf]; omega
      · have hL8 : L = 8 * c + 8 := by
          have := hI.out.2
          rw [groups_small _ _ (by omega), bitsOf_length] at this
          exact this
        have HL8 := hide hL8
        clear hL8 hI hC
        go_wp2_with fail
        go_ret
        refine ⟨?_, rfl⟩
        rw [HL8.out]
        simp
  · obtain ⟨a, rfl⟩ : ∃ a : Nat, x = (a : Int) := ⟨x.toNat, by omega⟩
    have e1 : IntKind.u64.wrap (a : Int) = (a : Int) := by rw [IntKind.wrap_u64]; omega
    have e3 : IntKind.u64.wrap (2 * (a : Int)) = 2 * (a : Int) := by rw [IntKind.wrap_u64]; omega
    have e2 : u0 = 2 * a := by rw [← hu0]; unfold zig; rw [if_neg hx]; omega
    subst e2
    have HUB := hide hub
    have HH := hide (And.intro h1 h2)
    clear hu0 hub h1 h2
    go_enter Tryz.func21, Tryz.ntmps21
    go_wp2_with fail
    go_loopw [3, 4] (fun t3 t4 wr => ∃ u c : Nat, t3 = .int .u64 (u : Int) ∧ t4 = .int .i64 (8 * (c : Int) + 8) ∧ Hid (u * 128 ^ c ≤ 8000000000000000 ∧ L = 8 * c + (groups (9 - c) u).length) ∧ Hid (c ≤ 7) ∧ Hid (wr = w)) (fun t3 _ _ => (intOf t3).toNat)
    case atStart => exact ⟨2 * a, 0, by simp [e1, e3], rfl, HL.out, Nat.zero_le _, rfl⟩
    case round =>
      obtain ⟨u, c, rfl, rfl, hI, hC, hw⟩ := hrel
      obtain rfl := hw.out
      clear hw
      by_cases hu : 128 ≤ u
      · have hs := grp_step c u L hI.out.1 hI.out.2 hu
        have hc7 : c ≤ 6 := hs.2.2
        obtain ⟨v, hv⟩ : ∃ v, u / 128 = v := ⟨_, rfl⟩
        rw [hv] at hs
        have hub2 : u ≤ 8000000000000000 := by
          have := hI.out.1
          exact Nat.le_trans (Nat.le_mul_of_pos_right u (Nat.pos_of_ne_zero (by simp))) this
        have q1 : (u : Int).tdiv 128 = (v : Int) := by rw [Int.tdiv_eq_ediv_of_nonneg (by omega)]; omega
        have q2 : IntKind.u64.wrap (v : Int) = (v : Int) := by rw [IntKind.wrap_u64]; omega
        have hvu : v < u := by omega
        clear hv hub2
        have HS := hide hs
        clear hs hI hC
        go_wp2_with fail
        go_roundw
        case rel => exact ⟨v, c + 1, rfl, by simp; omega, ⟨HS.out.1, HS.out.2.1⟩, by show c + 1 ≤ 7; omega, trivial⟩
        case measure => simp [intOf]; omega
      · have hL8 : L = 8 * c + 8 := by
          have := hI.out.2
          rw [groups_small _ _ (by omega), bitsOf_length] at this
          exact this
        have HL8 := hide hL8
        clear hL8 hI hC
        go_wp2_with fail
        go_ret
        refine ⟨?_, rfl⟩
        rw [HL8.out]
        simp

set_option maxRecDepth 100000 in
theorem within8_any (x : Int) (w : World) (h1 : -9223372036854775808 ≤ x) (h2 : x ≤ 9223372036854775807) : Calls Tryz.prog 18 #[.int .i64 x, .int .i64 23] w fun e w' => ∃ n : Nat, n ≤ 22 ∧ e = .returned (.int .i64 (n : Int)) ∧ w' = w := by
  obtain ⟨r, hr⟩ : ∃ r, x.tmod 23 = r := ⟨_, rfl⟩
  have b1 : r < 23 := by rw [← hr]; exact Int.tmod_lt_of_pos x (by omega)
  have b2 : -23 < r := by rw [← hr]; exact Int.lt_tmod_of_pos x (by omega)
  have HB := hide (And.intro h1 h2)
  clear h1 h2
  by_cases h : r < 0
  · go_enter Tryz.func18, Tryz.ntmps18
    go_wp2_with fail
    go_ret
    exact ⟨(r + 23).toNat, by omega, by rw [Int.toNat_of_nonneg (by omega)]; rfl, rfl⟩
  · go_enter Tryz.func18, Tryz.ntmps18
    go_wp2_with fail
    go_ret
    exact ⟨r.toNat, by omega, by rw [Int.toNat_of_nonneg (by omega)]; rfl, rfl⟩

theorem byte_fiveD (c : Nat) (r : List Bool) : byteAt (bitsOf c 5 ++ r) 0 / 8 = c % 32 := by
  unfold byteAt
  rw [Nat.mul_zero, List.drop_zero, List.take_append, List.take_of_length_le (by simp), num_append, num_bitsOf]
  have hk : (r.take (8 - (bitsOf c 5).length)).length ≤ 3 := by simp; omega
  have hn := num_lt (r.take (8 - (bitsOf c 5).length))
  generalize r.take (8 - (bitsOf c 5).length) = q at *
  rw [List.length_append, bitsOf_length]
  generalize num q = m at *
  obtain h | h | h | h : q.length = 0 ∨ q.length = 1 ∨ q.length = 2 ∨ q.length = 3 := by omega
  all_goals rw [h] at hn ⊢; simp only [Nat.reducePow, Nat.reduceAdd, Nat.reduceSub] at hn ⊢; omega

/-- Bytes that say that no value is nothing. -/
theorem none_bits (q : Nat) (r : List Bool) : 2 ≤ (packed (bitsOf q 5 ++ (bitsOf 0 8 ++ r))).length ∧ (packed (bitsOf q 5 ++ (bitsOf 0 8 ++ r))).getD 0 0 % 8 = 0 ∧ (packed (bitsOf q 5 ++ (bitsOf 0 8 ++ r))).getD 1 0 / 8 = 0 := by
  have e : bitsOf q 5 ++ (bitsOf 0 8 ++ r) = (bitsOf q 5 ++ bitsOf 0 3) ++ (bitsOf 0 5 ++ r) := by
    rw [show (8 : Nat) = 3 + 5 from rfl, bitsOf_split 0 3 5]
    simp
  have hl : 13 ≤ (bitsOf q 5 ++ (bitsOf 0 8 ++ r)).length := by simp; omega
  refine ⟨by rw [packed_length]; omega, ?_, ?_⟩
  · rw [packed_getD _ 0 (by omega), e, byteAt_full _ _ 0 (by simp)]
    unfold byteAt
    rw [Nat.mul_zero, List.drop_zero, List.take_of_length_le (by simp), num_append, num_bitsOf, num_bitsOf]
    simp
  · rw [packed_getD _ 1 (by omega), e, show (1 : Nat) = 1 + 0 from rfl, byteAt_drop _ _ 1 0 (by simp), byte_fiveD]

set_option maxRecDepth 100000 in
theorem none8_true (g : Nat) (bs : List Nat) (w : World) (h : w.heap[g]? = some (.cells (bytesV bs).toArray 5 (0, 0))) (hl : 2 ≤ bs.length) (hl2 : bs.length ≤ 1000000000000) (h0 : bs.getD 0 0 % 8 = 0) (h1 : bs.getD 1 0 / 8 = 0) :
    Calls Tryz.prog 25 #[.slice (some ⟨g, 0, none⟩) bs.length bs.length] w fun e w' => e = .returned (.bool true) ∧ w' = w := by
  have hc : ∀ j, j < bs.length → w.cell? ⟨g, j, none⟩ = some (.int .u8 ((bs.getD j 0 : Nat) : Int)) := fun j hj => by rw [cell_of_row _ _ _ _ _ _ h]; simp [bytesV, List.getD, hj]
  have c0 := hc 0 (by omega)
  have c1 := hc 1 (by omega)
  generalize bs.getD 0 0 = x at c0 h0
  generalize bs.getD 1 0 = y at c1 h1
  generalize bs.length = L at *
  clear h hc
  have e1 : ((y : Int) / 8 == 0) = true := by rw [beq_iff_eq]; omega
  have f1 : ((x : Int).tmod 8 == 0) = true := by rw [beq_iff_eq, Int.tmod_eq_emod_of_nonneg (by omega)]; omega
  go_enter Tryz.func25, Tryz.ntmps25
  go_wp2_with fail
  go_ret
  exact ⟨by rw [← e1]; rfl, rfl⟩

end Go.Proofs.YtleffbpjjbiobaaGreatDoor

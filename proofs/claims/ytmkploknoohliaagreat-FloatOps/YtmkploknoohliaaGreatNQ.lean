/- The document's rounded, where something is cut off. -/
import Derived.Test.YtmkploknoohliaaGreatNM
import Derived.Test.YtmkploknoohliaaGreatNP
namespace Go.Proofs.YtmkploknoohliaaGreat
open Go.RowKit
open M
set_option linter.unusedVariables false
set_option linter.unusedSimpArgs false

set_option maxRecDepth 100000 in
set_option maxHeartbeats 8000000 in
theorem rrounded32 {S : Nat → Prop} (neg more : Bool) (v : Value) (kk n : Nat) (u : Int) (L k sh cut : Nat) (w : World) (h : RowX S w v kk n) (hnr : Nrm kk n) (hkk : kk ≤ 100000) (hL : blen n = L) (hLb : L ≤ 4000000) (hub : -4000000 ≤ u ∧ u ≤ 4000000)
    (hk : k ≤ 2149) (ht : ((L : Int) + u - 24 < -149 ∧ k = 0) ∨ (-149 ≤ (L : Int) + u - 24 ∧ (L : Int) + u - 24 = (k : Int) - 149)) (hk2 : (k : Int) - 149 ≤ 2000)
    (hsh : (k : Int) - 149 - u - 1 = (sh : Int)) (hshb : sh ≤ 1000000) (hcut : n / 2 ^ sh = cut) (hcl : cut < 33554432) (hc0 : cut / 2 < 8388608 → k = 0) :
    Calls Tryz.prog 93 #[.bool neg, v, .int .i64 u, .bool more, .int .i64 32] w fun e w' => e = .returned (.int .u64 (wd32 neg (min (k * 8388608 + (cut / 2 + if cut % 2 = 1 ∧ ((more || decide (n % 2 ^ sh ≠ 0)) = true ∨ cut / 2 % 2 = 1) then 1 else 0)) 2139095040) : Nat)) ∧ Below w.heap.size w w' := by
  have HLen := hide (nLen v kk n w h hnr hkk)
  rw [hL] at HLen
  have HDn := hide (nDown2 v kk n sh w h hnr hkk hshb)
  rw [hcut] at HDn
  generalize decide (n % 2 ^ sh ≠ 0) = gone at *
  obtain ⟨m0, hm0, hm1⟩ : ∃ m0 : Nat, cut / 2 = m0 ∧ (cut : Int) / 2 = (m0 : Int) := ⟨_, rfl, by omega⟩
  rw [hm0] at hc0 ⊢
  have ha1 := and_one cut (by omega)
  have ha2 := and_one m0 (by omega)
  have HLd : Hid (∀ w : World, Calls Tryz.prog 106 #[.bool neg, .int .u64 m0, .int .i64 ((k : Int) - 149), .int .i64 32] w fun e w' => e = .returned (.int .u64 (wd32 neg (min (k * 8388608 + m0) 2139095040) : Nat)) ∧ w' = w) := fun w => rlaid32 neg m0 k w (by omega) (by omega) hc0
  have HLe : Hid (∀ w : World, Calls Tryz.prog 106 #[.bool neg, .int .u64 ((m0 + 1 : Nat) : Int), .int .i64 ((k : Int) - 149), .int .i64 32] w fun e w' => e = .returned (.int .u64 (wd32 neg (min (k * 8388608 + (m0 + 1)) 2139095040) : Nat)) ∧ w' = w) := fun w => rlaid32 neg (m0 + 1) k w (by omega) (by omega) (fun h => hc0 (by omega))
  obtain ⟨m1, hm1e, hm2⟩ : ∃ m1 : Nat, m0 + 1 = m1 ∧ (m0 : Int) + 1 = (m1 : Int) := ⟨_, rfl, by omega⟩
  rw [hm1e] at HLe
  have hm4 : IntKind.u64.wrap (m1 : Int) = (m1 : Int) := by rw [IntKind.wrap_u64]; omega
  have hm5 : (m1 : Int) % 18446744073709551616 = (m1 : Int) := by omega
  have HM := hide (And.intro hm2 (And.intro hm4 hm5))
  have HM1 := hide hm1e
  clear hm2 hm4 hm5 hm1e
  have hcM : cut % 18446744073709551616 = cut := by omega
  obtain ⟨t, htt⟩ : ∃ t : Int, (k : Int) - 149 = t := ⟨_, rfl⟩
  rw [htt] at hsh HLd HLe
  obtain ⟨a, haa⟩ : ∃ a : Int, (L : Int) + u = a := ⟨_, rfl⟩
  have hab : -5000000 ≤ a ∧ a ≤ 9000000 := by omega
  obtain ⟨t0, ht0⟩ : ∃ t0 : Int, a - 24 = t0 := ⟨_, rfl⟩
  have ht0b : -6000000 ≤ t0 ∧ t0 ≤ 9000000 := by omega
  have hcase : (t0 < -149 ∧ t = -149) ∨ (¬ t0 < -149 ∧ t0 = t) := by omega
  have hu1 : ¬ t ≤ u := by omega
  have ht2 : ¬ (2000 : Int) < t := by omega
  obtain ⟨t1, ht1⟩ : ∃ t1 : Int, t - u = t1 := ⟨_, rfl⟩
  have ht1b : t1 - 1 = (sh : Int) := by omega
  have hp1 : cut % 2 = 0 ∨ cut % 2 = 1 := by omega
  have hp2 : m0 % 2 = 0 ∨ m0 % 2 = 1 := by omega
  have Hrow := hide h.row
  clear ht hsh hk2 hcut hc0 hm0 hL h hnr htt hcl hk
  rcases hcase with ⟨c1, c2⟩ | ⟨c1, c2⟩
  · subst c2
    rcases hp1 with p1 | p1
    · rw [p1] at ha1
      
      cases more
      · rw [if_neg (by simp [p1])]
        go_enter Tryz.func93, Tryz.ntmps93
        go_wp2_with fail
        refine HLen.out.mono ?_
        rintro e w1 ⟨rfl, hw1⟩
        have hw1 := hw1.symm
        subst hw1
        go_wp2_with (simp only [haa])
        refine (rdigits32 _).mono ?_
        rintro e w1 ⟨rfl, hw1⟩
        have hw1 := hw1.symm
        subst hw1
        go_wp2_with (simp only [haa, ht0])
        refine (rleast32 _).mono ?_
        rintro e w1 ⟨rfl, hw1⟩
        have hw1 := hw1.symm
        subst hw1
        go_wp2_with (simp only [haa, ht0, ht1, ht1b])
        refine (rleast32 _).mono ?_
        rintro e w1 ⟨rfl, hw1⟩
        have hw1 := hw1.symm
        subst hw1
        go_wp2_with (simp only [haa, ht0, ht1, ht1b])
        refine HDn.out.mono ?_
        rintro e w2 ⟨r2, rfl, ⟨md, b1, b2, b3⟩, hb2⟩
        have H2 := hide (And.intro b1 hb2)
        clear b1 b2 b3 hb2
        have HLow := hide (nLow64 r2 md cut w2 H2.out.1)
        rw [hcM] at HLow
        go_wp2_with fail
        refine HLow.out.mono ?_
        rintro e w3 ⟨rfl, hw1⟩
        have hw1 := hw1.symm
        subst hw1
        have hm2 := HM.out.1
        have hm4 := HM.out.2.1
        have hm5 := HM.out.2.2
        go_wp2_with (simp only [ha1, ha2, hm1, hm2, hm4, hm5])
        refine (HLd.out _).mono ?_
        rintro e w4 ⟨rfl, hw1⟩
        have hw1 := hw1.symm
        subst hw1
        go_wp2_with fail
        go_ret
        exact ⟨rfl, H2.out.2⟩
      · rw [if_neg (by simp [p1])]
        go_enter Tryz.func93, Tryz.ntmps93
        go_wp2_with fail
        refine HLen.out.mono ?_
        rintro e w1 ⟨rfl, hw1⟩
        have hw1 := hw1.symm
        subst hw1
        go_wp2_with (simp only [haa])
        refine (rdigits32 _).mono ?_
        rintro e w1 ⟨rfl, hw1⟩
        have hw1 := hw1.symm
        subst hw1
        go_wp2_with (simp only [haa, ht0])
        refine (rleast32 _).mono ?_
        rintro e w1 ⟨rfl, hw1⟩
        have hw1 := hw1.symm
        subst hw1
        go_wp2_with (simp only [haa, ht0, ht1, ht1b])
        refine (rleast32 _).mono ?_
        rintro e w1 ⟨rfl, hw1⟩
        have hw1 := hw1.symm
        subst hw1
        go_wp2_with (simp only [haa, ht0, ht1, ht1b])
        refine HDn.out.mono ?_
        rintro e w2 ⟨r2, rfl, ⟨md, b1, b2, b3⟩, hb2⟩
        have H2 := hide (And.intro b1 hb2)
        clear b1 b2 b3 hb2
        have HLow := hide (nLow64 r2 md cut w2 H2.out.1)
        rw [hcM] at HLow
        go_wp2_with fail
        refine HLow.out.mono ?_
        rintro e w3 ⟨rfl, hw1⟩
        have hw1 := hw1.symm
        subst hw1
        have hm2 := HM.out.1
        have hm4 := HM.out.2.1
        have hm5 := HM.out.2.2
        go_wp2_with (simp only [ha1, ha2, hm1, hm2, hm4, hm5])
        refine (HLd.out _).mono ?_
        rintro e w4 ⟨rfl, hw1⟩
        have hw1 := hw1.symm
        subst hw1
        go_wp2_with fail
        go_ret
        exact ⟨rfl, H2.out.2⟩
    · rw [p1] at ha1
      cases more
      · cases gone
        · rcases hp2 with p2 | p2
          · rw [p2] at ha2
            rw [if_neg (by simp [p1, p2])]
            go_enter Tryz.func93, Tryz.ntmps93
            go_wp2_with fail
            refine HLen.out.mono ?_
            rintro e w1 ⟨rfl, hw1⟩
            have hw1 := hw1.symm
            subst hw1
            go_wp2_with (simp only [haa])
            refine (rdigits32 _).mono ?_
            rintro e w1 ⟨rfl, hw1⟩
            have hw1 := hw1.symm
            subst hw1
            go_wp2_with (simp only [haa, ht0])
            refine (rleast32 _).mono ?_
            rintro e w1 ⟨rfl, hw1⟩
            have hw1 := hw1.symm
            subst hw1
            go_wp2_with (simp only [haa, ht0, ht1, ht1b])
            refine (rleast32 _).mono ?_
            rintro e w1 ⟨rfl, hw1⟩
            have hw1 := hw1.symm
            subst hw1
            go_wp2_with (simp only [haa, ht0, ht1, ht1b])
            refine HDn.out.mono ?_
            rintro e w2 ⟨r2, rfl, ⟨md, b1, b2, b3⟩, hb2⟩
            have H2 := hide (And.intro b1 hb2)
            clear b1 b2 b3 hb2
            have HLow := hide (nLow64 r2 md cut w2 H2.out.1)
            rw [hcM] at HLow
            go_wp2_with fail
            refine HLow.out.mono ?_
            rintro e w3 ⟨rfl, hw1⟩
            have hw1 := hw1.symm
            subst hw1
            have hm2 := HM.out.1
            have hm4 := HM.out.2.1
            have hm5 := HM.out.2.2
            go_wp2_with (simp only [ha1, ha2, hm1, hm2, hm4, hm5])
            refine (HLd.out _).mono ?_
            rintro e w4 ⟨rfl, hw1⟩
            have hw1 := hw1.symm
            subst hw1
            go_wp2_with fail
            go_ret
            exact ⟨rfl, H2.out.2⟩
          · rw [p2] at ha2
            rw [if_pos (by simp [p1, p2]), HM1.out]
            go_enter Tryz.func93, Tryz.ntmps93
            go_wp2_with fail
            refine HLen.out.mono ?_
            rintro e w1 ⟨rfl, hw1⟩
            have hw1 := hw1.symm
            subst hw1
            go_wp2_with (simp only [haa])
            refine (rdigits32 _).mono ?_
            rintro e w1 ⟨rfl, hw1⟩
            have hw1 := hw1.symm
            subst hw1
            go_wp2_with (simp only [haa, ht0])
            refine (rleast32 _).mono ?_
            rintro e w1 ⟨rfl, hw1⟩
            have hw1 := hw1.symm
            subst hw1
            go_wp2_with (simp only [haa, ht0, ht1, ht1b])
            refine (rleast32 _).mono ?_
            rintro e w1 ⟨rfl, hw1⟩
            have hw1 := hw1.symm
            subst hw1
            go_wp2_with (simp only [haa, ht0, ht1, ht1b])
            refine HDn.out.mono ?_
            rintro e w2 ⟨r2, rfl, ⟨md, b1, b2, b3⟩, hb2⟩
            have H2 := hide (And.intro b1 hb2)
            clear b1 b2 b3 hb2
            have HLow := hide (nLow64 r2 md cut w2 H2.out.1)
            rw [hcM] at HLow
            go_wp2_with fail
            refine HLow.out.mono ?_
            rintro e w3 ⟨rfl, hw1⟩
            have hw1 := hw1.symm
            subst hw1
            have hm2 := HM.out.1
            have hm4 := HM.out.2.1
            have hm5 := HM.out.2.2
            go_wp2_with (simp only [ha1, ha2, hm1, hm2, hm4, hm5])
            refine (HLe.out _).mono ?_
            rintro e w4 ⟨rfl, hw1⟩
            have hw1 := hw1.symm
            subst hw1
            go_wp2_with fail
            go_ret
            exact ⟨rfl, H2.out.2⟩
        · clear ha2
          rw [if_pos (by simp [p1]), HM1.out]
          go_enter Tryz.func93, Tryz.ntmps93
          go_wp2_with fail
          refine HLen.out.mono ?_
          rintro e w1 ⟨rfl, hw1⟩
          have hw1 := hw1.symm
          subst hw1
          go_wp2_with (simp only [haa])
          refine (rdigits32 _).mono ?_
          rintro e w1 ⟨rfl, hw1⟩
          have hw1 := hw1.symm
          subst hw1
          go_wp2_with (simp only [haa, ht0])
          refine (rleast32 _).mono ?_
          rintro e w1 ⟨rfl, hw1⟩
          have hw1 := hw1.symm
          subst hw1
          go_wp2_with (simp only [haa, ht0, ht1, ht1b])
          refine (rleast32 _).mono ?_
          rintro e w1 ⟨rfl, hw1⟩
          have hw1 := hw1.symm
          subst hw1
          go_wp2_with (simp only [haa, ht0, ht1, ht1b])
          refine HDn.out.mono ?_
          rintro e w2 ⟨r2, rfl, ⟨md, b1, b2, b3⟩, hb2⟩
          have H2 := hide (And.intro b1 hb2)
          clear b1 b2 b3 hb2
          have HLow := hide (nLow64 r2 md cut w2 H2.out.1)
          rw [hcM] at HLow
          go_wp2_with fail
          refine HLow.out.mono ?_
          rintro e w3 ⟨rfl, hw1⟩
          have hw1 := hw1.symm
          subst hw1
          have hm2 := HM.out.1
          have hm4 := HM.out.2.1
          have hm5 := HM.out.2.2
          go_wp2_with (simp only [ha1, ha2, hm1, hm2, hm4, hm5])
          refine (HLe.out _).mono ?_
          rintro e w4 ⟨rfl, hw1⟩
          have hw1 := hw1.symm
          subst hw1
          go_wp2_with fail
          go_ret
          exact ⟨rfl, H2.out.2⟩
      · clear ha2
        rw [if_pos (by simp [p1]), HM1.out]
        go_enter Tryz.func93, Tryz.ntmps93
        go_wp2_with fail
        refine HLen.out.mono ?_
        rintro e w1 ⟨rfl, hw1⟩
        have hw1 := hw1.symm
        subst hw1
        go_wp2_with (simp only [haa])
        refine (rdigits32 _).mono ?_
        rintro e w1 ⟨rfl, hw1⟩
        have hw1 := hw1.symm
        subst hw1
        go_wp2_with (simp only [haa, ht0])
        refine (rleast32 _).mono ?_
        rintro e w1 ⟨rfl, hw1⟩
        have hw1 := hw1.symm
        subst hw1
        go_wp2_with (simp only [haa, ht0, ht1, ht1b])
        refine (rleast32 _).mono ?_
        rintro e w1 ⟨rfl, hw1⟩
        have hw1 := hw1.symm
        subst hw1
        go_wp2_with (simp only [haa, ht0, ht1, ht1b])
        refine HDn.out.mono ?_
        rintro e w2 ⟨r2, rfl, ⟨md, b1, b2, b3⟩, hb2⟩
        have H2 := hide (And.intro b1 hb2)
        clear b1 b2 b3 hb2
        have HLow := hide (nLow64 r2 md cut w2 H2.out.1)
        rw [hcM] at HLow
        go_wp2_with fail
        refine HLow.out.mono ?_
        rintro e w3 ⟨rfl, hw1⟩
        have hw1 := hw1.symm
        subst hw1
        have hm2 := HM.out.1
        have hm4 := HM.out.2.1
        have hm5 := HM.out.2.2
        go_wp2_with (simp only [ha1, ha2, hm1, hm2, hm4, hm5])
        refine (HLe.out _).mono ?_
        rintro e w4 ⟨rfl, hw1⟩
        have hw1 := hw1.symm
        subst hw1
        go_wp2_with fail
        go_ret
        exact ⟨rfl, H2.out.2⟩
  · subst c2
    rcases hp1 with p1 | p1
    · rw [p1] at ha1
      
      cases more
      · rw [if_neg (by simp [p1])]
        go_enter Tryz.func93, Tryz.ntmps93
        go_wp2_with fail
        refine HLen.out.mono ?_
        rintro e w1 ⟨rfl, hw1⟩
        have hw1 := hw1.symm
        subst hw1
        go_wp2_with (simp only [haa])
        refine (rdigits32 _).mono ?_
        rintro e w1 ⟨rfl, hw1⟩
        have hw1 := hw1.symm
        subst hw1
        go_wp2_with (simp only [haa, ht0])
        refine (rleast32 _).mono ?_
        rintro e w1 ⟨rfl, hw1⟩
        have hw1 := hw1.symm
        subst hw1
        go_wp2_with (simp only [haa, ht0, ht1, ht1b])
        refine HDn.out.mono ?_
        rintro e w2 ⟨r2, rfl, ⟨md, b1, b2, b3⟩, hb2⟩
        have H2 := hide (And.intro b1 hb2)
        clear b1 b2 b3 hb2
        have HLow := hide (nLow64 r2 md cut w2 H2.out.1)
        rw [hcM] at HLow
        go_wp2_with fail
        refine HLow.out.mono ?_
        rintro e w3 ⟨rfl, hw1⟩
        have hw1 := hw1.symm
        subst hw1
        have hm2 := HM.out.1
        have hm4 := HM.out.2.1
        have hm5 := HM.out.2.2
        go_wp2_with (simp only [ha1, ha2, hm1, hm2, hm4, hm5])
        refine (HLd.out _).mono ?_
        rintro e w4 ⟨rfl, hw1⟩
        have hw1 := hw1.symm
        subst hw1
        go_wp2_with fail
        go_ret
        exact ⟨rfl, H2.out.2⟩
      · rw [if_neg (by simp [p1])]
        go_enter Tryz.func93, Tryz.ntmps93
        go_wp2_with fail
        refine HLen.out.mono ?_
        rintro e w1 ⟨rfl, hw1⟩
        have hw1 := hw1.symm
        subst hw1
        go_wp2_with (simp only [haa])
        refine (rdigits32 _).mono ?_
        rintro e w1 ⟨rfl, hw1⟩
        have hw1 := hw1.symm
        subst hw1
        go_wp2_with (simp only [haa, ht0])
        refine (rleast32 _).mono ?_
        rintro e w1 ⟨rfl, hw1⟩
        have hw1 := hw1.symm
        subst hw1
        go_wp2_with (simp only [haa, ht0, ht1, ht1b])
        refine HDn.out.mono ?_
        rintro e w2 ⟨r2, rfl, ⟨md, b1, b2, b3⟩, hb2⟩
        have H2 := hide (And.intro b1 hb2)
        clear b1 b2 b3 hb2
        have HLow := hide (nLow64 r2 md cut w2 H2.out.1)
        rw [hcM] at HLow
        go_wp2_with fail
        refine HLow.out.mono ?_
        rintro e w3 ⟨rfl, hw1⟩
        have hw1 := hw1.symm
        subst hw1
        have hm2 := HM.out.1
        have hm4 := HM.out.2.1
        have hm5 := HM.out.2.2
        go_wp2_with (simp only [ha1, ha2, hm1, hm2, hm4, hm5])
        refine (HLd.out _).mono ?_
        rintro e w4 ⟨rfl, hw1⟩
        have hw1 := hw1.symm
        subst hw1
        go_wp2_with fail
        go_ret
        exact ⟨rfl, H2.out.2⟩
    · rw [p1] at ha1
      cases more
      · cases gone
        · rcases hp2 with p2 | p2
          · rw [p2] at ha2
            rw [if_neg (by simp [p1, p2])]
            go_enter Tryz.func93, Tryz.ntmps93
            go_wp2_with fail
            refine HLen.out.mono ?_
            rintro e w1 ⟨rfl, hw1⟩
            have hw1 := hw1.symm
            subst hw1
            go_wp2_with (simp only [haa])
            refine (rdigits32 _).mono ?_
            rintro e w1 ⟨rfl, hw1⟩
            have hw1 := hw1.symm
            subst hw1
            go_wp2_with (simp only [haa, ht0])
            refine (rleast32 _).mono ?_
            rintro e w1 ⟨rfl, hw1⟩
            have hw1 := hw1.symm
            subst hw1
            go_wp2_with (simp only [haa, ht0, ht1, ht1b])
            refine HDn.out.mono ?_
            rintro e w2 ⟨r2, rfl, ⟨md, b1, b2, b3⟩, hb2⟩
            have H2 := hide (And.intro b1 hb2)
            clear b1 b2 b3 hb2
            have HLow := hide (nLow64 r2 md cut w2 H2.out.1)
            rw [hcM] at HLow
            go_wp2_with fail
            refine HLow.out.mono ?_
            rintro e w3 ⟨rfl, hw1⟩
            have hw1 := hw1.symm
            subst hw1
            have hm2 := HM.out.1
            have hm4 := HM.out.2.1
            have hm5 := HM.out.2.2
            go_wp2_with (simp only [ha1, ha2, hm1, hm2, hm4, hm5])
            refine (HLd.out _).mono ?_
            rintro e w4 ⟨rfl, hw1⟩
            have hw1 := hw1.symm
            subst hw1
            go_wp2_with fail
            go_ret
            exact ⟨rfl, H2.out.2⟩
          · rw [p2] at ha2
            rw [if_pos (by simp [p1, p2]), HM1.out]
            go_enter Tryz.func93, Tryz.ntmps93
            go_wp2_with fail
            refine HLen.out.mono ?_
            rintro e w1 ⟨rfl, hw1⟩
            have hw1 := hw1.symm
            subst hw1
            go_wp2_with (simp only [haa])
            refine (rdigits32 _).mono ?_
            rintro e w1 ⟨rfl, hw1⟩
            have hw1 := hw1.symm
            subst hw1
            go_wp2_with (simp only [haa, ht0])
            refine (rleast32 _).mono ?_
            rintro e w1 ⟨rfl, hw1⟩
            have hw1 := hw1.symm
            subst hw1
            go_wp2_with (simp only [haa, ht0, ht1, ht1b])
            refine HDn.out.mono ?_
            rintro e w2 ⟨r2, rfl, ⟨md, b1, b2, b3⟩, hb2⟩
            have H2 := hide (And.intro b1 hb2)
            clear b1 b2 b3 hb2
            have HLow := hide (nLow64 r2 md cut w2 H2.out.1)
            rw [hcM] at HLow
            go_wp2_with fail
            refine HLow.out.mono ?_
            rintro e w3 ⟨rfl, hw1⟩
            have hw1 := hw1.symm
            subst hw1
            have hm2 := HM.out.1
            have hm4 := HM.out.2.1
            have hm5 := HM.out.2.2
            go_wp2_with (simp only [ha1, ha2, hm1, hm2, hm4, hm5])
            refine (HLe.out _).mono ?_
            rintro e w4 ⟨rfl, hw1⟩
            have hw1 := hw1.symm
            subst hw1
            go_wp2_with fail
            go_ret
            exact ⟨rfl, H2.out.2⟩
        · clear ha2
          rw [if_pos (by simp [p1]), HM1.out]
          go_enter Tryz.func93, Tryz.ntmps93
          go_wp2_with fail
          refine HLen.out.mono ?_
          rintro e w1 ⟨rfl, hw1⟩
          have hw1 := hw1.symm
          subst hw1
          go_wp2_with (simp only [haa])
          refine (rdigits32 _).mono ?_
          rintro e w1 ⟨rfl, hw1⟩
          have hw1 := hw1.symm
          subst hw1
          go_wp2_with (simp only [haa, ht0])
          refine (rleast32 _).mono ?_
          rintro e w1 ⟨rfl, hw1⟩
          have hw1 := hw1.symm
          subst hw1
          go_wp2_with (simp only [haa, ht0, ht1, ht1b])
          refine HDn.out.mono ?_
          rintro e w2 ⟨r2, rfl, ⟨md, b1, b2, b3⟩, hb2⟩
          have H2 := hide (And.intro b1 hb2)
          clear b1 b2 b3 hb2
          have HLow := hide (nLow64 r2 md cut w2 H2.out.1)
          rw [hcM] at HLow
          go_wp2_with fail
          refine HLow.out.mono ?_
          rintro e w3 ⟨rfl, hw1⟩
          have hw1 := hw1.symm
          subst hw1
          have hm2 := HM.out.1
          have hm4 := HM.out.2.1
          have hm5 := HM.out.2.2
          go_wp2_with (simp only [ha1, ha2, hm1, hm2, hm4, hm5])
          refine (HLe.out _).mono ?_
          rintro e w4 ⟨rfl, hw1⟩
          have hw1 := hw1.symm
          subst hw1
          go_wp2_with fail
          go_ret
          exact ⟨rfl, H2.out.2⟩
      · clear ha2
        rw [if_pos (by simp [p1]), HM1.out]
        go_enter Tryz.func93, Tryz.ntmps93
        go_wp2_with fail
        refine HLen.out.mono ?_
        rintro e w1 ⟨rfl, hw1⟩
        have hw1 := hw1.symm
        subst hw1
        go_wp2_with (simp only [haa])
        refine (rdigits32 _).mono ?_
        rintro e w1 ⟨rfl, hw1⟩
        have hw1 := hw1.symm
        subst hw1
        go_wp2_with (simp only [haa, ht0])
        refine (rleast32 _).mono ?_
        rintro e w1 ⟨rfl, hw1⟩
        have hw1 := hw1.symm
        subst hw1
        go_wp2_with (simp only [haa, ht0, ht1, ht1b])
        refine HDn.out.mono ?_
        rintro e w2 ⟨r2, rfl, ⟨md, b1, b2, b3⟩, hb2⟩
        have H2 := hide (And.intro b1 hb2)
        clear b1 b2 b3 hb2
        have HLow := hide (nLow64 r2 md cut w2 H2.out.1)
        rw [hcM] at HLow
        go_wp2_with fail
        refine HLow.out.mono ?_
        rintro e w3 ⟨rfl, hw1⟩
        have hw1 := hw1.symm
        subst hw1
        have hm2 := HM.out.1
        have hm4 := HM.out.2.1
        have hm5 := HM.out.2.2
        go_wp2_with (simp only [ha1, ha2, hm1, hm2, hm4, hm5])
        refine (HLe.out _).mono ?_
        rintro e w4 ⟨rfl, hw1⟩
        have hw1 := hw1.symm
        subst hw1
        go_wp2_with fail
        go_ret
        exact ⟨rfl, H2.out.2⟩

end Go.Proofs.YtmkploknoohliaaGreat

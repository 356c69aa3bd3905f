/- The law's own functions: Widened (of fathomlaw7), wideOf, alike (of fathomlaw8). As P2A. -/
import Derived.Test.YtgjjkopmoobilaaGreatDoorC6A64
import Derived.BigQuiet
import Derived.Test.YtgjjkopmoobilaaGreatDoorC3M
import Derived.Deep.AppendLies
/- The law's own functions: unlike (of fathomlaw8). -/
namespace Go.Proofs.YtgjjkopmoobilaaGreatDoor
open Go.RowKit
open M
set_option linter.unusedVariables false

theorem uq_step (f : Nat → Nat) (k : Nat) (v : Bool) (h : v = true ↔ ∃ i, i < k ∧ f i = f k) : (uq f (k + 1)).length = if v = true then (uq f k).length else (uq f k).length + 1 := by
  rw [uq]
  by_cases e : f k ∈ uq f k
  · obtain ⟨i, h1, h2⟩ := uq_of f _ k e
    rw [if_pos e, if_pos (h.2 ⟨i, h1, h2⟩)]
  · rw [if_neg e, if_neg (fun hv => by
      obtain ⟨i, h1, h2⟩ := h.1 hv
      exact e (h2 ▸ uq_mem f i k h1))]
    simp

set_option maxRecDepth 100000 in
set_option maxHeartbeats 1000000 in
theorem unlike8_any (p : Option Addr) (n cap : Nat) (f : Nat → Nat) (w : World) (h : URow64 w p n f) (hn : n ≤ 281474976710656) :
    Calls Tryz.prog 31 #[.slice p n cap] w fun e w' => e = .returned (.int .i64 ((uq f n).length : Int)) ∧ ∃ m, w' = w.drewN m := by
  have H := hide h
  clear h
  go_enter Tryz.func31, Tryz.ntmps31
  go_wp2_with fail
  go_loopw [3, 4] (fun t3 t4 wr => ∃ c k : Nat, t3 = .int .i64 (c : Int) ∧ t4 = .int .i64 (k : Int) ∧ Hid (k ≤ n ∧ c = (uq f k).length) ∧ Hid (∃ m, wr = w.drewN m)) (fun _ t4 _ => n - (intOf t4).toNat)
  case atStart => exact ⟨0, 0, rfl, rfl, ⟨Nat.zero_le _, rfl⟩, 0, rfl⟩
  case round =>
    obtain ⟨c, k, rfl, rfl, hI, hm⟩ := hrel
    have hcn : c ≤ 281474976710656 := by have := uq_len f k; rw [hI.out.2]; have := hI.out.1; omega
    by_cases hlt : k < n
    · obtain ⟨b, o, rfl, hc⟩ := H.out (by omega)
      have HC := hide hc
      obtain ⟨x, hx⟩ : ∃ x, f k = x := ⟨_, rfl⟩
      have HX := hide hx
      clear hc hx
      go_wp2_with fail
      go_loopw [5, 6] (fun t5 t6 wi => ∃ (v : Bool) (j : Nat), t5 = .bool v ∧ t6 = .int .i64 (j : Int) ∧ Hid (j ≤ k ∧ (v = true ↔ ∃ i, i < j ∧ f i = f k)) ∧ Hid (∃ m, wi = w.drewN m)) (fun _ t6 _ => k - (intOf t6).toNat)
      case atStart => exact ⟨false, 0, rfl, rfl, ⟨Nat.zero_le _, ⟨fun h => (by cases h), fun h => (by obtain ⟨i, hi, _⟩ := h; omega)⟩⟩, hm.out⟩
      case round =>
        obtain ⟨v, j, rfl, rfl, hJ, hm2⟩ := hrel
        by_cases hjk : j < k
        · obtain ⟨y, hy⟩ : ∃ y, f j = y := ⟨_, rfl⟩
          have c1 : wr.cell? ⟨b, o + j, none⟩ = some (.int .u64 (y : Int)) := by obtain ⟨m, rfl⟩ := hm2.out; rw [← hy]; exact HC.out j (by omega)
          have c2 : wr.cell? ⟨b, o + k, none⟩ = some (.int .u64 (x : Int)) := by obtain ⟨m, rfl⟩ := hm2.out; rw [← HX.out]; exact HC.out k hlt
          have HY := hide hy
          clear hy
          cases v
          · by_cases hyx : y = x
            · have hb : ((y : Int) == (x : Int)) = true := by simp [hyx]
              go_wp2_with fail
              go_quiet (fail)
              go_wp2_with fail
              go_roundw
              case rel => exact ⟨true, j + 1, rfl, by simp, ⟨by omega, ⟨fun _ => ⟨j, by omega, by rw [HY.out, HX.out]; exact hyx⟩, fun _ => rfl⟩⟩, by obtain ⟨m, rfl⟩ := hm2.out; exact ⟨_, World.drewN_drewN ..⟩⟩
              case measure => simp [intOf]; omega
            · have hb : ((y : Int) == (x : Int)) = false := by rw [beq_eq_false_iff_ne]; omega
              go_wp2_with fail
              go_quiet (fail)
              go_wp2_with fail
              go_roundw
              case rel => exact ⟨false, j + 1, rfl, by simp, ⟨by omega, ⟨fun h => (by cases h), fun h => (by
                obtain ⟨i, h1, h2⟩ := h
                by_cases e : i = j
                · subst e; rw [HY.out, HX.out] at h2; exact absurd h2 hyx
                · exact hJ.out.2.2 ⟨i, by omega, h2⟩)⟩⟩, by obtain ⟨m, rfl⟩ := hm2.out; exact ⟨_, World.drewN_drewN ..⟩⟩
              case measure => simp [intOf]; omega
          · go_wp2_with fail
            go_quiet (fail)
            go_wp2_with fail
            go_roundw
            case rel => exact ⟨true, j + 1, rfl, by simp, ⟨by omega, ⟨fun _ => (by obtain ⟨i, h1, h2⟩ := hJ.out.2.1 (by trivial); exact ⟨i, by omega, h2⟩), fun _ => rfl⟩⟩, by obtain ⟨m, rfl⟩ := hm2.out; exact ⟨_, World.drewN_drewN ..⟩⟩
            case measure => simp [intOf]; omega
        · have HS := hide (uq_step f k v (by have := hJ.out; rw [show j = k from by omega] at this; exact this.2))
          cases v
          · go_wp2_with fail
            go_roundw
            case rel => exact ⟨c + 1, k + 1, by simp, by simp, ⟨by omega, by rw [HS.out, hI.out.2]; rfl⟩, hm2.out⟩
            case measure => simp [intOf]; omega
          · go_wp2_with fail
            go_roundw
            case rel => exact ⟨c, k + 1, rfl, by simp, ⟨by omega, by rw [HS.out, hI.out.2]; rfl⟩, hm2.out⟩
            case measure => simp [intOf]; omega
    · go_wp2_with fail
      go_ret
      have hkn : k = n := by have := hI.out.1; omega
      have hcc : c = (uq f n).length := by rw [← hkn]; exact hI.out.2
      rw [← hcc]
      exact ⟨rfl, hm.out⟩

end Go.Proofs.YtgjjkopmoobilaaGreatDoor

/- Which kinds lay a column, and how long Plain is: what back asks of Pack, Sizes and Best. Plain mathematics. -/
namespace Go.Proofs.YtgjjkopmoobilaaGreatDoor
open Go.RowKit
open M
set_option linter.unusedVariables false

/-- A column is laid by each kind, save by Dict where more than 256 are unlike. -/
theorem packIs_takes64 (k n : Nat) (f : Nat → Nat) (hk1 : 1 ≤ k) (hk6 : k ≤ 6) (hf : ∀ i, i < n → f i < 18446744073709551616) (hu : ¬ (k = 4 ∧ 256 < (uq f n).length)) : ∃ bs, PackIs64 k n f bs := by
  by_cases h0 : n = 0
  · exact ⟨[], hf, fun _ => rfl, fun h => by omega⟩
  · have hS : ∃ l, codeO64 k f n = some l := by
      obtain rfl | rfl | rfl | rfl | rfl | rfl : k = 1 ∨ k = 2 ∨ k = 3 ∨ k = 4 ∨ k = 5 ∨ k = 6 := by omega
      · exact ⟨_, rfl⟩
      · exact ⟨_, rfl⟩
      · exact ⟨_, rfl⟩
      · refine ⟨dcB 64 f n, ?_⟩
        show dcO 64 f n = _
        rw [dcO, if_pos (by omega)]
      · exact ⟨_, rfl⟩
      · exact ⟨_, rfl⟩
    obtain ⟨l, hl⟩ := hS
    exact ⟨packed l, hf, fun h => absurd h h0, fun _ => ⟨l, hl, rfl⟩⟩

theorem packIs_none64 (n : Nat) (f : Nat → Nat) (hu : 256 < (uq f n).length) (bs : List Nat) (h : PackIs64 4 n f bs) : False := by
  have h0 : 0 < n := by have := uq_len f n; omega
  obtain ⟨l, h1, h2⟩ := h.2.2 h0
  have h1 : dcO 64 f n = some l := h1
  rw [dcO, if_neg (by omega)] at h1
  cases h1

theorem packIs_plain64 (n : Nat) (f : Nat → Nat) (bs : List Nat) (h : PackIs64 1 n f bs) : bs.length = 8 * n := by
  by_cases h0 : n = 0
  · rw [h.2.1 h0, h0]; rfl
  · obtain ⟨l, h1, h2⟩ := h.2.2 (by omega)
    have h1 : some (plB 64 f n) = some l := h1
    obtain rfl := Option.some.inj h1
    rw [← h2, packed_length, plB_length]; omega

/-- A kind lays a column in one way. -/
theorem packIs_one64 (k n : Nat) (f : Nat → Nat) (bs bs' : List Nat) (h : PackIs64 k n f bs) (h' : PackIs64 k n f bs') : bs = bs' := by
  by_cases h0 : n = 0
  · rw [h.2.1 h0, h'.2.1 h0]
  · obtain ⟨l, h1, h2⟩ := h.2.2 (by omega)
    obtain ⟨l', h1', h2'⟩ := h'.2.2 (by omega)
    rw [h1] at h1'
    obtain rfl := Option.some.inj h1'
    rw [← h2, ← h2']

/-- A column is laid by each kind, save by Dict where more than 256 are unlike. -/
theorem packIs_takes32 (k n : Nat) (f : Nat → Nat) (hk1 : 1 ≤ k) (hk6 : k ≤ 6) (hf : ∀ i, i < n → f i < 4294967296) (hu : ¬ (k = 4 ∧ 256 < (uq f n).length)) : ∃ bs, PackIs32 k n f bs := by
  by_cases h0 : n = 0
  · exact ⟨[], hf, fun _ => rfl, fun h => by omega⟩
  · have hS : ∃ l, codeO32 k f n = some l := by
      obtain rfl | rfl | rfl | rfl | rfl | rfl : k = 1 ∨ k = 2 ∨ k = 3 ∨ k = 4 ∨ k = 5 ∨ k = 6 := by omega
      · exact ⟨_, rfl⟩
      · exact ⟨_, rfl⟩
      · exact ⟨_, rfl⟩
      · refine ⟨dcB 32 f n, ?_⟩
        show dcO 32 f n = _
        rw [dcO, if_pos (by omega)]
      · exact ⟨_, rfl⟩
      · exact ⟨_, rfl⟩
    obtain ⟨l, hl⟩ := hS
    exact ⟨packed l, hf, fun h => absurd h h0, fun _ => ⟨l, hl, rfl⟩⟩

theorem packIs_none32 (n : Nat) (f : Nat → Nat) (hu : 256 < (uq f n).length) (bs : List Nat) (h : PackIs32 4 n f bs) : False := by
  have h0 : 0 < n := by have := uq_len f n; omega
  obtain ⟨l, h1, h2⟩ := h.2.2 h0
  have h1 : dcO 32 f n = some l := h1
  rw [dcO, if_neg (by omega)] at h1
  cases h1

theorem packIs_plain32 (n : Nat) (f : Nat → Nat) (bs : List Nat) (h : PackIs32 1 n f bs) : bs.length = 4 * n := by
  by_cases h0 : n = 0
  · rw [h.2.1 h0, h0]; rfl
  · obtain ⟨l, h1, h2⟩ := h.2.2 (by omega)
    have h1 : some (plB 32 f n) = some l := h1
    obtain rfl := Option.some.inj h1
    rw [← h2, packed_length, plB_length]; omega

/-- A kind lays a column in one way. -/
theorem packIs_one32 (k n : Nat) (f : Nat → Nat) (bs bs' : List Nat) (h : PackIs32 k n f bs) (h' : PackIs32 k n f bs') : bs = bs' := by
  by_cases h0 : n = 0
  · rw [h.2.1 h0, h'.2.1 h0]
  · obtain ⟨l, h1, h2⟩ := h.2.2 (by omega)
    obtain ⟨l', h1', h2'⟩ := h'.2.2 (by omega)
    rw [h1] at h1'
    obtain rfl := Option.some.inj h1'
    rw [← h2, ← h2']

end Go.Proofs.YtgjjkopmoobilaaGreatDoor

/- CodeBack's back, of uint64s. -/
namespace Go.Proofs.YtgjjkopmoobilaaGreatDoor
open Go.RowKit
open M
set_option linter.unusedVariables false
set_option linter.unusedSimpArgs false

theorem sizes_row64 {B : Nat} {w : World} {v : Value} {f : Nat → Nat} {n : Nat} (h : w.ownsRow B 3 1 v 6 (szV64 f n 6)) :
    ∃ g cap, v = .slice (some ⟨g, 0, none⟩) 6 cap ∧ ∀ j, j < 6 → w.cell? ⟨g, j, none⟩ = some (.int .i64 (szI64 f n (j + 1))) := by
  rcases h.2 with ⟨h1, h2⟩ | ⟨g, cap2, cur, h1, hb, hg, hc2, hm2, hs, ht⟩
  · omega
  · refine ⟨g, cap2, h1, fun j hj => ?_⟩
    have e : (szV64 f n 6)[j]? = some (.int .i64 (szI64 f n (j + 1))) := by simp [szV64, hj]
    rw [cell_of_row w g j cur _ (0, 0) hg, ← e, ← ht, List.getElem?_take, if_pos (by omega)]
    simp

/-- How long a column's text can be. -/
theorem packIs_len64 (k n : Nat) (f : Nat → Nat) (bs : List Nat) (hn : n ≤ 4096) (h : PackIs64 k n f bs) : bs.length ≤ 1000000000000 := by
  by_cases h0 : n = 0
  · rw [h.2.1 h0]; simp
  · obtain ⟨l, h1, h2⟩ := h.2.2 (by omega)
    have hl : l.length ≤ 4000000 := by
      unfold codeO64 at h1
      split at h1
      · obtain rfl := Option.some.inj h1; rw [plB_length]; omega
      · obtain rfl := Option.some.inj h1; have := cbn_length' 64 6 f n (by omega) h.1; omega
      · obtain rfl := Option.some.inj h1; have := rnB_len64 f n 0 n; omega
      · rw [dcO] at h1
        split at h1
        · rename_i hu
          obtain rfl := Option.some.inj h1
          have hb : bitLen ((uq f n).length - 1) ≤ 8 := bitLen_le _ 8 (by show _ < 256; omega)
          have hm := Nat.mul_le_mul hb (Nat.le_refl n)
          rw [dcB, List.length_append, List.length_append, plL_length, pcB_length]
          have : (bitsOf ((uq f n).length - 1) 8).length = 8 := by simp
          omega
        · cases h1
      · obtain rfl := Option.some.inj h1; have := stB_len64 9223372036854775808 18446744073709551616 f n; omega
      · obtain rfl := Option.some.inj h1; have := dm_len64 f n; omega
      · cases h1
    rw [← h2, packed_length]; omega

set_option maxRecDepth 100000 in
set_option maxHeartbeats 4000000 in
theorem back64_any (p : Option Addr) (n cap : Nat) (f : Nat → Nat) (w : World) (h : URow64 w p n f) (hn : n ≤ 4096) (hcap : n ≤ cap) (hf : ∀ i, i < n → f i < 18446744073709551616) (hT : Tab64 w) :
    Calls Tryz.prog 8 #[.slice p n cap] w fun e w' => e = .returned (.bool true) ∧ Below w.heap.size w w' := by
  have HH := hide h
  have HF := hide hf
  have HTT := hide hT
  clear h hf hT
  go_enter Tryz.func8, Tryz.ntmps8
  go_wp2_with fail
  refine (sizes64_any p n cap f w HH.out hn hcap HF.out HTT.out).mono ?_
  rintro e w1 ⟨v, rfl, hown, B1⟩
  obtain ⟨g, cs, rfl, hs⟩ := sizes_row64 hown
  have HS1 := hide hs
  have HB1 := hide B1
  clear hown hs B1
  go_wp2_with fail
  refine (best64_any p n cap f w1 (HH.out.below HB1.out) hn hcap HF.out (HTT.out.below HB1.out)).mono ?_
  rintro e w2 ⟨kd, pb, cb, bb, rfl, hby, h256, hbst, B2⟩
  have HB2 : Hid (Below w.heap.size w w2) := HB1.out.trans (B2.mono HB1.out.size)
  have HS2 : Hid (∀ j, j < 6 → w2.cell? ⟨g, j, none⟩ = some (.int .i64 (szI64 f n (j + 1)))) := fun j hj => by
    rw [B2.cell (p := ⟨g, j, none⟩) (block_lt_of_cell (HS1.out j hj))]; exact HS1.out j hj
  have HBY := hide hby
  have H256 := hide h256
  have HBST := hide hbst
  have hkd1 := hbst.lo
  have hkd6 := hbst.hi
  clear hby h256 hbst B2
  have HLB : Hid (bb.length ≤ 8 * n) := by
    obtain ⟨b1, hb1⟩ := packIs_takes64 1 n f (by omega) (by omega) HF.out (by omega)
    have := HBST.out.least 1 b1 (by omega) (by omega) hb1
    rw [packIs_plain64 n f b1 hb1] at this
    show _ ≤ _
    omega
  have HS0 : Hid (szI64 f n 1 = ((8 * n : Nat) : Int)) := by
    obtain ⟨b1, hb1⟩ := packIs_takes64 1 n f (by omega) (by omega) HF.out (by omega)
    show _ = _
    rw [szI64_is hb1, packIs_plain64 n f b1 hb1]
  obtain ⟨lb, hlb⟩ : ∃ lb, bb.length = lb := ⟨_, rfl⟩
  rw [hlb] at HBY HLB ⊢
  have HLBE := hide hlb
  clear hlb
  go_wp2_with fail
  refine (num8_any _ _).mono ?_
  rintro e wn ⟨rfl, hwn⟩
  have hwn := hwn.symm
  subst hwn
  go_wp2_with fail
  refine (num8_any _ _).mono ?_
  rintro e wn ⟨rfl, hwn⟩
  have hwn := hwn.symm
  subst hwn
  go_wp2_with fail
  go_loopw [8] (fun t8 wr => ∃ q : Nat, t8 = .int .i64 ((q : Int) + 1) ∧ Hid (q ≤ 6 ∧ Below w2.heap.size w2 wr)) (fun t8 _ => 7 - (intOf t8).toNat)
  case atStart => exact ⟨0, rfl, by omega, Below.refl _ _⟩
  case round =>
    obtain ⟨q, rfl, hI⟩ := hrel
    by_cases hlt : q + 1 ≤ 6
    · have hle : (q : Int) + 1 ≤ 6 := by omega
      have HQ := hide (cAgain64 (q + 1) p n cap f wr (by omega) hlt ((HH.out.below HB2.out).below hI.out.2) hn hcap HF.out ((HTT.out.below HB2.out).below hI.out.2))
      rw [show (((q + 1 : Nat)) : Int) = (q : Int) + 1 from by simp] at HQ
      go_wp2_with fail
      refine HQ.out.mono ?_
      intro e w3 hE
      rcases hE with ⟨pu, cu, bs, rfl, hby3, h2563, B3, hP, huq⟩ | ⟨rfl, B3, hno⟩
      · have HB3 : Hid (Below w2.heap.size w2 w3) := hI.out.2.trans (B3.mono hI.out.2.size)
        have HNU : Hid (¬ (q + 1 = 4 ∧ 256 < (uq f n).length)) := fun hh => packIs_none64 n f hh.2 bs (hh.1 ▸ hP)
        have HSZ : Hid (szI64 f n (q + 1) = (bs.length : Int)) := szI64_is hP
        have hLE := HBST.out.least (q + 1) bs (by omega) hlt hP
        rw [HLBE.out] at hLE
        have HEQ : Hid (q + 1 = kd → bs = bb) := fun e => packIs_one64 kd n f bs bb (e ▸ hP) HBST.out.is
        have HP := hide hP
        have HBY3 := hide hby3
        have H2563 := hide h2563
        have HLN : Hid (bs.length ≤ 1000000000000) := packIs_len64 (q + 1) n f bs hn hP
        clear hP hby3 h2563 B3 huq HQ
        obtain ⟨lc, hlc⟩ : ∃ lc, bs.length = lc := ⟨_, rfl⟩
        have HLC := hide hlc
        rw [hlc] at HSZ hLE HBY3 HLN ⊢
        clear hlc
        go_upto_region 9 with fail
        go_cut [61] from 55 to 60 (fun t61 wc => t61 = .bool false ∧ Hid (Below w2.heap.size w2 wc ∧ IsBy wc (.slice pu lc cu) bs))
        case first =>
          by_cases hq4 : q = 3
          · subst hq4
            have hul : (uq f n).length ≤ 256 := by have := HNU.out; omega
            go_wp2_with fail
            refine (unlike8_any p n cap f w3 ((HH.out.below HB2.out).below HB3.out) (by omega)).mono ?_
            rintro e w4 ⟨rfl, m, rfl⟩
            generalize (uq f n).length = cc at *
            go_wp2_with fail
            go_meet
            case rel => exact ⟨by simp; omega, below_drewN HB3.out m, isBy_below HBY3.out (below_drewN (Below.refl _ _) m)⟩
          · have hq5 : ((q : Int) + 1 == 4) = false := by rw [beq_eq_false_iff_ne]; omega
            go_wp2_with fail
            go_meet
            case rel => exact ⟨by simp, HB3.out, HBY3.out⟩
        case rest =>
          obtain ⟨rfl, hW⟩ := hcut
          have HU := hide (cUnpack64_any (q + 1) (.slice pu lc cu) bs n wc (by omega) hlt hW.out.2 H2563.out (by rw [HLC.out]; exact HLN.out) hn ((HTT.out.below HB2.out).below hW.out.1))
          rw [show (((q + 1 : Nat)) : Int) = (q : Int) + 1 from by simp] at HU
          go_wp2_with fail
          refine HU.out.mono ?_
          intro e w5 hE5
          rcases hE5 with ⟨_, _, hno⟩ | ⟨v5, f5, rfl, hU5, _, hEq5⟩
          · exact (hno f HP.out).elim
          obtain ⟨ad, cp, rfl, hcp, hrow⟩ := hU5.row
          have HROW := hide hrow
          have HB5 : Hid (Below w2.heap.size w2 w5 ∧ IsBy w5 (.slice pu lc cu) bs) := ⟨hW.out.1.trans (hU5.2.1.mono hW.out.1.size), isBy_below hW.out.2 hU5.2.1⟩
          have HE5 := hide (hEq5 f HP.out)
          clear hU5 hrow hEq5 HU
          go_wp2_with fail
          refine (num8_any _ _).mono ?_
          rintro e wn ⟨rfl, hwn⟩
          have hwn := hwn.symm
          subst hwn
          go_wp2_with fail
          refine (num8_any _ _).mono ?_
          rintro e wn ⟨rfl, hwn⟩
          have hwn := hwn.symm
          subst hwn
          go_wp2_with fail
          refine (same8_any ad p n n cp cap f5 f w5 HROW.out ((HH.out.below HB2.out).below HB5.out.1) (by omega) (by omega)).mono ?_
          rintro e w6 ⟨vv, rfl, hvv, m, hw6⟩
          obtain rfl : vv = true := hvv.2 ⟨rfl, HE5.out⟩
          have HB6 : Hid (Below w2.heap.size w2 w6) := by rw [hw6]; exact below_drewN HB5.out.1 m
          have hc1 : (convert 34 9 (.slice pu lc cu)).run Tryz.prog w6 = .ok (.string (strOf bs)) w6 := convert_by _ _ _ (by rw [hw6]; exact isBy_below HB5.out.2 (below_drewN (Below.refl _ _) m))
          have hc2 : (convert 34 9 (.slice pb lb cb)).run Tryz.prog w6 = .ok (.string (strOf bb)) w6 := convert_by _ _ _ (isBy_below HBY.out HB6.out)
          have c0 : w6.cell? ⟨g, q, none⟩ = some (.int .i64 (lc : Int)) := by
            rw [HB6.out.cell (p := ⟨g, q, none⟩) (block_lt_of_cell (HS2.out q (by omega))), ← HSZ.out]; exact HS2.out q (by omega)
          have hsub : (q : Int) + 1 - 1 = (q : Int) := by omega
          clear hw6 hvv
          by_cases hkk : q + 1 = kd
          · have hbb := HEQ.out hkk
            have hll : lc = lb := by rw [← HLC.out, ← HLBE.out, hbb]
            have e1 : ((q : Int) + 1 == (kd : Int)) = true := by rw [beq_iff_eq]; omega
            rw [hbb] at hc1
            generalize strOf bb = SB at *
            clear hbb
            subst hll
            go_wp2_with fail
            go_roundw
            case rel => exact ⟨q + 1, by simp, hlt, HB6.out⟩
            case measure => simp [intOf]; omega
          · have e1 : ((q : Int) + 1 == (kd : Int)) = false := by rw [beq_eq_false_iff_ne]; omega
            clear hc1 hc2
            by_cases hll : lc = lb
            · subst hll
              go_wp2_with fail
              go_roundw
              case rel => exact ⟨q + 1, by simp, hlt, HB6.out⟩
              case measure => simp [intOf]; omega
            · have e2 : ((lc : Int) == (lb : Int)) = false := by rw [beq_eq_false_iff_ne]; omega
              go_wp2_with fail
              go_roundw
              case rel => exact ⟨q + 1, by simp, hlt, HB6.out⟩
              case measure => simp [intOf]; omega
      · have HB3 : Hid (Below w2.heap.size w2 w3) := hI.out.2.trans (B3.mono hI.out.2.size)
        have hq : q = 3 ∧ 256 < (uq f n).length := by
          by_cases hc : q + 1 = 4 ∧ 256 < (uq f n).length
          · exact ⟨by omega, hc.2⟩
          · obtain ⟨bs, hbs⟩ := packIs_takes64 (q + 1) n f (by omega) hlt HF.out hc
            exact (hno bs hbs).elim
        obtain ⟨rfl, hul⟩ := hq
        have hul2 : (uq f n).length ≤ 4096 := by have := uq_len f n; omega
        have HSZ : Hid (szI64 f n 4 = -1) := szI64_no HF.out hno
        clear hno B3 HQ
        go_wp2_with fail
        refine (unlike8_any p n cap f w3 ((HH.out.below HB2.out).below HB3.out) (by omega)).mono ?_
        rintro e w4 ⟨rfl, m, hw4⟩
        have HB4 : Hid (Below w2.heap.size w2 w4) := by rw [hw4]; exact below_drewN HB3.out m
        have c0 : w4.cell? ⟨g, 3, none⟩ = some (.int .i64 (-1)) := by
          rw [HB4.out.cell (p := ⟨g, 3, none⟩) (block_lt_of_cell (HS2.out 3 (by omega))), ← HSZ.out]; exact HS2.out 3 (by omega)
        clear hw4
        generalize (uq f n).length = cc at *
        go_wp2_with fail
        refine (num8_any _ _).mono ?_
        rintro e wn ⟨rfl, hwn⟩
        have hwn := hwn.symm
        subst hwn
        go_wp2_with fail
        go_roundw
        case rel => exact ⟨4, by simp, by omega, HB4.out⟩
        case measure => simp [intOf]
    · have hq : q = 6 := by have := hI.out.1; omega
      subst hq
      have c0 : wr.cell? ⟨g, 0, none⟩ = some (.int .i64 ((8 * n : Nat) : Int)) := by
        rw [hI.out.2.cell (p := ⟨g, 0, none⟩) (block_lt_of_cell (HS2.out 0 (by omega))), ← HS0.out]; exact HS2.out 0 (by omega)
      have hlb8 := HLB.out
      rw [show ((8 * n : Nat) : Int) = 8 * (n : Int) from by simp] at c0
      go_wp2_with fail
      go_ret
      exact ⟨rfl, HB2.out.trans (hI.out.2.mono HB2.out.size)⟩

end Go.Proofs.YtgjjkopmoobilaaGreatDoor

/- Sizes (32 bits). -/
namespace Go.Proofs.YtgjjkopmoobilaaGreatDoor
open Go.RowKit
open M
set_option linter.unusedVariables false
set_option linter.unusedSimpArgs false

/-- How many bytes a kind needs, -1 where it has none. -/
def szI32 (f : Nat → Nat) (n k : Nat) : Int := if n = 0 then 0 else match codeO32 k f n with
  | some l => ((packed l).length : Int)
  | none => -1

theorem szI32_is {f : Nat → Nat} {n k : Nat} {bs : List Nat} (h : PackIs32 k n f bs) : szI32 f n k = (bs.length : Int) := by
  unfold szI32
  split
  · rename_i h0; rw [h.2.1 h0]; rfl
  · rename_i h0
    obtain ⟨l, h1, h2⟩ := h.2.2 (by omega)
    rw [h1, ← h2]

theorem szI32_no {f : Nat → Nat} {n k : Nat} (hf : ∀ i, i < n → f i < 4294967296) (h : ∀ bs, PackIs32 k n f bs → False) : szI32 f n k = -1 := by
  unfold szI32
  split
  · rename_i h0; exact (h [] ⟨hf, fun _ => rfl, fun h => by omega⟩).elim
  · rename_i h0
    cases ho : codeO32 k f n with
    | none => rfl
    | some l => exact (h _ ⟨hf, fun h => absurd h h0, fun _ => ⟨l, ho, rfl⟩⟩).elim

def szV32 (f : Nat → Nat) (n q : Nat) : List Value := (List.range q).map fun j => .int .i64 (szI32 f n (j + 1))
theorem szV32_succ (f : Nat → Nat) (n q : Nat) : szV32 f n (q + 1) = szV32 f n q ++ [.int .i64 (szI32 f n (q + 1))] := by simp [szV32, List.range_succ]

theorem infoIC32 : ∃ i5, Tryz.prog.info? 3 = some i5 ∧ i5.zero = some (.int .i64 0) ∧ i5.size = 1 ∧ i5.bytes = 8 := by
  have hz : (Tryz.prog.info? 3).bind (·.zero) = some (.int .i64 0) := by kernel_rfl
  have hs : (Tryz.prog.info? 3).map (·.size) = some 1 := by kernel_rfl
  have hb : (Tryz.prog.info? 3).map (·.bytes) = some 8 := by kernel_rfl
  cases hi : Tryz.prog.info? 3 with
  | none => simp [hi] at hs
  | some i5 =>
    simp only [hi, Option.bind_some, Option.map_some, Option.some.injEq] at hz hs hb
    exact ⟨i5, rfl, hz, hs, hb⟩

theorem sizes32_many (p : Option Addr) (n cap : Nat) (w : World) (hn : 4096 < n) : Calls Tryz.prog 30 #[.slice p n cap] w fun e w' => e = .returned (.tuple #[.slice none 0 0, .int .i64 81]) ∧ w' = w := by
  go_enter Tryz.func30, Tryz.ntmps30
  go_wp2_with fail
  go_ret2
  exact ⟨rfl, rfl⟩

set_option maxRecDepth 100000 in
set_option maxHeartbeats 1000000 in
theorem sizes32_any (p : Option Addr) (n cap : Nat) (f : Nat → Nat) (w : World) (h : URow32 w p n f) (hn : n ≤ 4096) (hcap : n ≤ cap) (hf : ∀ i, i < n → f i < 4294967296) (hT : Tab64 w) :
    Calls Tryz.prog 30 #[.slice p n cap] w fun e w' => ∃ v, e = .returned (.tuple #[v, .int .i64 0]) ∧ w'.ownsRow w.heap.size 3 1 v 6 (szV32 f n 6) ∧ Below w.heap.size w w' := by
  have HAG := hide (fun k w1 (hk1 : 1 ≤ k) (hk6 : k ≤ 6) (hB : Below w.heap.size w w1) => cAgain32 k p n cap f w1 hk1 hk6 (h.below hB) hn hcap hf (hT.below hB))
  have HFF := hide hf
  obtain ⟨i5, Hi⟩ := infoIC32
  have HI5 := hide Hi
  have H0 : Hid ((w.alloc (.cells #[] 3)).ownsRow w.heap.size 3 1 (.slice (some ⟨w.heap.size, 0, none⟩) 0 0) 0 (szV32 f n 0) ∧ Below w.heap.size w (w.alloc (.cells #[] 3))) := by
    refine ⟨?_, (Below.refl _ w).alloc (Nat.le_refl _) _⟩
    have := World.ownsRow_made (base := w.heap.size) (e := 3) (size := 1) w #[] 0 (Nat.le_refl _) (by have : maxLen = 9223372036854775807 := rfl; omega) (by simp)
    exact this
  clear h hf hT Hi
  go_enter Tryz.func30, Tryz.ntmps30
  go_upto_region 4 with fail
  generalize w.alloc (.cells #[] 3) = w0 at *
  go_wp2_with fail
  go_loopw [4, 5] (fun t4 t5 wr => ∃ (q : Nat) (pu : Option Addr) (cu : Nat), t5 = .int .i64 ((q : Int) + 1) ∧ t4 = .slice pu q cu ∧ Hid (q ≤ 6 ∧ wr.ownsRow w.heap.size 3 1 (.slice pu q cu) q (szV32 f n q) ∧ Below w.heap.size w wr)) (fun _ t5 _ => 7 - (intOf t5).toNat)
  case atStart => exact ⟨0, _, 0, rfl, rfl, by omega, H0.out.1, H0.out.2⟩
  case round =>
    obtain ⟨q, pu, cu, rfl, rfl, hI⟩ := hrel
    by_cases hlt : q + 1 ≤ 6
    · have hle : (q : Int) + 1 ≤ 6 := by omega
      have HQ := hide (HAG.out (q + 1) wr (by omega) hlt hI.out.2.2)
      rw [show (((q + 1 : Nat)) : Int) = (q : Int) + 1 from by simp] at HQ
      go_wp2_with fail
      refine HQ.out.mono ?_
      intro e w2 hE
      rcases hE with ⟨pv, cv, bv, rfl, h2, h3, h4, h5, h6⟩ | ⟨rfl, h4, h3⟩
      · have HBB : Hid (Below w.heap.size w w2) := hI.out.2.2.trans (h4.mono hI.out.2.2.size)
        have HOWN : Hid (w2.ownsRow w.heap.size 3 1 (.slice pu q cu) q (szV32 f n q)) := ownsRow_keepC32 hI.out.2.1 (fun g _ hg => h4.block g hg)
        have HSZ : Hid (szI32 f n (q + 1) = (bv.length : Int)) := szI32_is h5
        have hs2 : w.heap.size ≤ (w2.alloc (.cells #[.int .i64 (bv.length : Int)] 3)).heap.size := by have := HBB.out.size; simp; omega
        clear h2 h3 h4 h5 h6 hI
        go_wp2_with (at_builtin; refine wpList_append_lies _ rfl _ _ _ rfl w.heap.size 3 i5 (.int .i64 0) 1 8 Tryz.underlying25 HI5.out.1 HI5.out.2.1 HI5.out.2.2.1 HI5.out.2.2.2 rfl (by decide) (.slice pu q cu) q (szV32 f n q) rfl (HOWN.out.alloc _) ⟨w2.heap.size, 0, none⟩ 1 1 [.int .i64 (bv.length : Int)] rfl rfl (fun j u hj => cell_new132 w2 _ 3 j u hj) (fun u hu => by simp at hu; subst hu; rfl) (by omega) (by have : maxLen = 9223372036854775807 := rfl; omega) (by omega) hs2 _ rfl ?_; intro g6 cap6 w6 hown6 hgrow6 hat6 hlt6)
        have HS6 : Hid (w6.ownsRow w.heap.size 3 1 (.slice (some ⟨g6, 0, none⟩) (q + 1) cap6) (q + 1) (szV32 f n (q + 1)) ∧ Below w.heap.size w w6) := by
          have hB6 : Below w.heap.size (w2.alloc (.cells #[.int .i64 (bv.length : Int)] 3)) w6 := grown_below32 hgrow6 (fun g hg => (HOWN.out.lt g hg).1) hs2
          refine ⟨?_, (HBB.out.alloc (by have := HBB.out.size; omega) _).trans hB6⟩
          rw [szV32_succ, HSZ.out]; exact hown6
        clear hown6 hgrow6 hat6 hlt6
        go_wp2_with fail
        go_roundw
        case rel => exact ⟨q + 1, some ⟨g6, 0, none⟩, cap6, by simp, rfl, hlt, HS6.out.1, HS6.out.2⟩
        case measure => simp [intOf]; omega
      · have HBB : Hid (Below w.heap.size w w2) := hI.out.2.2.trans (h4.mono hI.out.2.2.size)
        have HOWN : Hid (w2.ownsRow w.heap.size 3 1 (.slice pu q cu) q (szV32 f n q)) := ownsRow_keepC32 hI.out.2.1 (fun g _ hg => h4.block g hg)
        have HSZ : Hid (szI32 f n (q + 1) = -1) := szI32_no HFF.out h3
        have hs2 : w.heap.size ≤ (w2.alloc (.cells #[.int .i64 (-1)] 3)).heap.size := by have := HBB.out.size; simp; omega
        clear h3 h4 hI
        go_wp2_with (at_builtin; refine wpList_append_lies _ rfl _ _ _ rfl w.heap.size 3 i5 (.int .i64 0) 1 8 Tryz.underlying25 HI5.out.1 HI5.out.2.1 HI5.out.2.2.1 HI5.out.2.2.2 rfl (by decide) (.slice pu q cu) q (szV32 f n q) rfl (HOWN.out.alloc _) ⟨w2.heap.size, 0, none⟩ 1 1 [.int .i64 (-1)] rfl rfl (fun j u hj => cell_new132 w2 _ 3 j u hj) (fun u hu => by simp at hu; subst hu; rfl) (by omega) (by have : maxLen = 9223372036854775807 := rfl; omega) (by omega) hs2 _ rfl ?_; intro g6 cap6 w6 hown6 hgrow6 hat6 hlt6)
        have HS6 : Hid (w6.ownsRow w.heap.size 3 1 (.slice (some ⟨g6, 0, none⟩) (q + 1) cap6) (q + 1) (szV32 f n (q + 1)) ∧ Below w.heap.size w w6) := by
          have hB6 : Below w.heap.size (w2.alloc (.cells #[.int .i64 (-1)] 3)) w6 := grown_below32 hgrow6 (fun g hg => (HOWN.out.lt g hg).1) hs2
          refine ⟨?_, (HBB.out.alloc (by have := HBB.out.size; omega) _).trans hB6⟩
          rw [szV32_succ, HSZ.out]; exact hown6
        clear hown6 hgrow6 hat6 hlt6
        go_wp2_with fail
        go_roundw
        case rel => exact ⟨q + 1, some ⟨g6, 0, none⟩, cap6, by simp, rfl, hlt, HS6.out.1, HS6.out.2⟩
        case measure => simp [intOf]; omega
    · have hq : q = 6 := by have := hI.out.1; omega
      subst hq
      go_wp2_with fail
      go_ret2
      exact ⟨_, rfl, hI.out.2.1, hI.out.2.2⟩

end Go.Proofs.YtgjjkopmoobilaaGreatDoor

namespace Go.Proofs.YtgjjkopmoobilaaGreatDoor
open Go.RowKit
open M
set_option linter.unusedVariables false

theorem cell_new8 (w : World) (v : Value) (t : TypeId) (j : Nat) (u : Value) (h : [v][j]? = some u) : (w.alloc (.cells #[v] t)).cell? ((⟨w.heap.size, 0, none⟩ : Addr).add j) = some u := by
  have hn := heap_alloc_new w (.cells #[v] t)
  rw [Addr.add_mid, Nat.zero_add, cell_of_row _ _ _ _ _ _ hn]
  cases j with
  | zero => simpa using h
  | succ j => simp at h

set_option maxRecDepth 100000 in
set_option maxHeartbeats 1000000 in
/-- uint32s as uint64s. -/
theorem widened8_any (p : Option Addr) (n cap : Nat) (f : Nat → Nat) (w : World) (h : URow32 w p n f) (hf : ∀ i, i < n → f i < 4294967296) (hn : n ≤ 1000000) :
    Calls Tryz.prog 38 #[.slice p n cap] w fun e w' => ∃ ad cp, e = .returned (.slice ad n cp) ∧ n ≤ cp ∧ URow64 w' ad n f ∧ Below w.heap.size w w' := by
  have H := hide h
  have HF := hide hf
  clear h hf
  obtain ⟨i5, hi5⟩ := info64
  have Hi := hide hi5
  clear hi5
  go_enter Tryz.func38, Tryz.ntmps38
  go_wp2_with fail
  go_loopw [3, 4] (fun t3 t4 wr => ∃ i : Nat, t4 = .int .i64 (i : Int) ∧ Hid (i ≤ n) ∧ Hid (USt64 w.heap.size w f i t3 wr)) (fun _ t4 _ => n - (intOf t4).toNat)
  case atStart => exact ⟨0, rfl, Nat.zero_le _, USt64.nil _ _⟩
  case round =>
    obtain ⟨i, rfl, hI, HS⟩ := hrel
    by_cases hlt : i < n
    · obtain ⟨b, o, rfl, hc⟩ := H.out (by omega)
      have Hnext := hide (fun (w4 : World) (g4 cap4 : Nat) => USt64.next (w4 := w4) (g := g4) (cap := cap4) HS.out rfl)
      obtain ⟨x, hx⟩ : ∃ x, f i = x := ⟨_, rfl⟩
      have hbw : b < w.heap.size := block_lt_of_cell (hc i hlt)
      have c1 : wr.cell? ⟨b, o + i, none⟩ = some (.int .u32 (x : Int)) := by rw [HS.out.2.1.cell (p := ⟨b, o + i, none⟩) hbw, ← hx]; exact hc i hlt
      have hxl : x < 4294967296 := by rw [← hx]; exact HF.out i hlt
      have r1 : IntKind.u64.wrap (x : Int) = (x : Int) := by rw [IntKind.wrap_u64]; omega
      rw [hx] at Hnext
      have HX := hide hxl
      clear hc hx hxl
      go_wp2_with (at_builtin; refine wpList_append_lies _ rfl _ _ _ rfl w.heap.size 39 i5 (.int .u64 0) 1 8 Tryz.underlying28 Hi.out.1 Hi.out.2.1 Hi.out.2.2.1 Hi.out.2.2.2 rfl (by decide) _ i (valsV64 i f) rfl (HS.out.1.alloc _) ⟨wr.heap.size, 0, none⟩ 1 1 [.int .u64 (x : Int)] rfl rfl ?d2 ?d3 (by decide) ?d4 ?d5 ?d7 _ rfl ?d6)
      case d2 => intro j u hj; exact cell_new8 wr _ 39 j u hj
      case d3 => intro u hu; simp at hu; subst hu; rfl
      case d4 => unfold maxLen; omega
      case d5 => omega
      case d7 => have := HS.out.2.1.size; simp; omega
      case d6 =>
        intro g4 cap4 w4 ho4 hg4 hat4 hlt4
        have H4 : Hid (USt64 w.heap.size w f (i + 1) (.slice (some ⟨g4, 0, none⟩) (i + 1) cap4) w4) := Hnext.out w4 g4 cap4 ho4 hg4
        clear ho4 hg4 hat4 hlt4 HS Hnext
        go_wp2_with fail
        go_roundw
        case rel => exact ⟨i + 1, by simp, hlt, H4.out⟩
        case measure => simp [intOf]; omega
    · obtain rfl : i = n := by have := hI.out; omega
      obtain ⟨ad, cp, rfl, hcp, hrow⟩ := HS.out.row
      have HR := hide hrow
      have HB := hide HS.out.2.1
      clear hrow HS
      go_wp2_with fail
      go_ret
      exact ⟨ad, cp, rfl, hcp, HR.out, HB.out⟩

set_option maxRecDepth 100000 in
set_option maxHeartbeats 1000000 in
/-- uint32s as uint64s. -/
theorem wideOf8_any (p : Option Addr) (n cap : Nat) (f : Nat → Nat) (w : World) (h : URow32 w p n f) (hf : ∀ i, i < n → f i < 4294967296) (hn : n ≤ 1000000) :
    Calls Tryz.prog 24 #[.slice p n cap] w fun e w' => ∃ ad cp, e = .returned (.slice ad n cp) ∧ n ≤ cp ∧ URow64 w' ad n f ∧ Below w.heap.size w w' := by
  have H := hide h
  have HF := hide hf
  clear h hf
  obtain ⟨i5, hi5⟩ := info64
  have Hi := hide hi5
  clear hi5
  go_enter Tryz.func24, Tryz.ntmps24
  go_wp2_with fail
  go_loopw [3, 4] (fun t3 t4 wr => ∃ i : Nat, t4 = .int .i64 (i : Int) ∧ Hid (i ≤ n) ∧ Hid (USt64 w.heap.size w f i t3 wr)) (fun _ t4 _ => n - (intOf t4).toNat)
  case atStart => exact ⟨0, rfl, Nat.zero_le _, USt64.nil _ _⟩
  case round =>
    obtain ⟨i, rfl, hI, HS⟩ := hrel
    by_cases hlt : i < n
    · obtain ⟨b, o, rfl, hc⟩ := H.out (by omega)
      have Hnext := hide (fun (w4 : World) (g4 cap4 : Nat) => USt64.next (w4 := w4) (g := g4) (cap := cap4) HS.out rfl)
      obtain ⟨x, hx⟩ : ∃ x, f i = x := ⟨_, rfl⟩
      have hbw : b < w.heap.size := block_lt_of_cell (hc i hlt)
      have c1 : wr.cell? ⟨b, o + i, none⟩ = some (.int .u32 (x : Int)) := by rw [HS.out.2.1.cell (p := ⟨b, o + i, none⟩) hbw, ← hx]; exact hc i hlt
      have hxl : x < 4294967296 := by rw [← hx]; exact HF.out i hlt
      have r1 : IntKind.u64.wrap (x : Int) = (x : Int) := by rw [IntKind.wrap_u64]; omega
      rw [hx] at Hnext
      have HX := hide hxl
      clear hc hx hxl
      go_wp2_with (at_builtin; refine wpList_append_lies _ rfl _ _ _ rfl w.heap.size 39 i5 (.int .u64 0) 1 8 Tryz.underlying28 Hi.out.1 Hi.out.2.1 Hi.out.2.2.1 Hi.out.2.2.2 rfl (by decide) _ i (valsV64 i f) rfl (HS.out.1.alloc _) ⟨wr.heap.size, 0, none⟩ 1 1 [.int .u64 (x : Int)] rfl rfl ?d2 ?d3 (by decide) ?d4 ?d5 ?d7 _ rfl ?d6)
      case d2 => intro j u hj; exact cell_new8 wr _ 39 j u hj
      case d3 => intro u hu; simp at hu; subst hu; rfl
      case d4 => unfold maxLen; omega
      case d5 => omega
      case d7 => have := HS.out.2.1.size; simp; omega
      case d6 =>
        intro g4 cap4 w4 ho4 hg4 hat4 hlt4
        have H4 : Hid (USt64 w.heap.size w f (i + 1) (.slice (some ⟨g4, 0, none⟩) (i + 1) cap4) w4) := Hnext.out w4 g4 cap4 ho4 hg4
        clear ho4 hg4 hat4 hlt4 HS Hnext
        go_wp2_with fail
        go_roundw
        case rel => exact ⟨i + 1, by simp, hlt, H4.out⟩
        case measure => simp [intOf]; omega
    · obtain rfl : i = n := by have := hI.out; omega
      obtain ⟨ad, cp, rfl, hcp, hrow⟩ := HS.out.row
      have HR := hide hrow
      have HB := hide HS.out.2.1
      clear hrow HS
      go_wp2_with fail
      go_ret
      exact ⟨ad, cp, rfl, hcp, HR.out, HB.out⟩

/-- A Bool that says whether P; new memory may have been made. -/
def SaysB8 (P : Prop) (w : World) (e : Ending) (w' : World) : Prop := ∃ v : Bool, e = .returned (.bool v) ∧ (v = true ↔ P) ∧ Below w.heap.size w w'

theorem alike8_any (p q : Option Addr) (n n' cap cap' : Nat) (f g : Nat → Nat) (w : World) (h : URow32 w p n f) (hf : ∀ i, i < n → f i < 4294967296) (hn : n ≤ 1000000) (h' : URow64 w q n' g) (hn' : n' ≤ 281474976710656) :
    Calls Tryz.prog 23 #[.slice p n cap, .slice q n' cap'] w (SaysB8 (n = n' ∧ ∀ i, i < n → f i = g i) w) := by
  have H' := hide h'
  have HW := hide (widened8_any p n cap f w h hf hn)
  clear h h' hf
  go_enter Tryz.func23, Tryz.ntmps23
  go_wp2_with fail
  refine HW.out.mono ?_
  rintro e w1 ⟨ad, cp, rfl, hcp, R1, B1⟩
  have HR1 := hide R1
  have HB1 := hide B1
  clear R1 B1
  go_wp2_with fail
  refine (same8_any ad q n n' cp cap' f g w1 HR1.out (H'.out.below HB1.out) (by omega) hn').mono ?_
  rintro e w2 ⟨v, rfl, hv, m, hw2⟩
  have HV := hide hv
  have HB2 : Hid (Below w.heap.size w w2) := by rw [hw2]; exact below_drewN HB1.out m
  clear hv hw2
  go_wp2_with fail
  go_ret
  exact ⟨v, rfl, HV.out, HB2.out⟩

end Go.Proofs.YtgjjkopmoobilaaGreatDoor

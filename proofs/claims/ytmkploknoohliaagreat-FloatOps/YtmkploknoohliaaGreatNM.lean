/- The document's whole numbers: Down2. -/
import Derived.Test.YtmkploknoohliaaGreatNK
namespace Go.Proofs.YtmkploknoohliaaGreat
open Go.RowKit
open M
set_option linter.unusedVariables false
set_option linter.unusedSimpArgs false

theorem shift_split (N n : Nat) : N / 4294967296 ^ (n / 32) / 2 ^ (n % 32) = N / 2 ^ n := by
  rw [show (4294967296 : Nat) = 2 ^ 32 from by decide, ← Nat.pow_mul, Nat.div_div_eq_div_mul, ← Nat.pow_add, show 32 * (n / 32) + n % 32 = n from by omega]
theorem down_two (t z r : Nat) (hr : r < 32) : (t * 4294967296 * 4294967296 + z) / 2 ^ r % 4294967296 = z / 2 ^ r % 4294967296 := by
  have h2 : (4294967296 : Nat) = 2 ^ r * 2 ^ (32 - r) := by rw [← Nat.pow_add, show r + (32 - r) = 32 from by omega]
  have e : t * 4294967296 = 2 ^ r * (2 ^ (32 - r) * t) := by
    rw [Nat.mul_comm t, ← Nat.mul_assoc, ← h2]
  rw [e, Nat.mul_assoc (2 ^ r), Nat.add_comm, Nat.add_mul_div_left _ _ (Nat.two_pow_pos r), Nat.add_mul_mod_self_right]
theorem dg_down (N i r : Nat) (hr : r < 32) : (dg N (i + 1) * 4294967296 + dg N i) / 2 ^ r % 4294967296 = dg (N / 2 ^ r) i := by
  have hd1 : N / 4294967296 ^ i = N / 4294967296 ^ (i + 1 + 1) * 4294967296 * 4294967296 + (dg N (i + 1) * 4294967296 + dg N i) := by
    rw [div_succ N i, div_succ N (i + 1), Nat.add_mul, Nat.add_assoc]
  have e : dg (N / 2 ^ r) i = N / 4294967296 ^ i / 2 ^ r % 4294967296 := by
    unfold dg
    rw [Nat.div_div_eq_div_mul, Nat.mul_comm, ← Nat.div_div_eq_div_mul]
  rw [e, hd1, down_two _ _ r hr]
theorem mod_split (N n q r : Nat) (hq : n / 32 = q) (hr : n % 32 = r) : N % 2 ^ n = N % 4294967296 ^ q + 4294967296 ^ q * (dg N q % 2 ^ r) := by
  have hrl : r < 32 := by omega
  have e : 2 ^ n = 4294967296 ^ q * 2 ^ r := by
    rw [show (4294967296 : Nat) = 2 ^ 32 from rfl, ← Nat.pow_mul, ← Nat.pow_add]
    congr 1; omega
  rw [e, Nat.mod_mul]
  congr 2
  unfold dg
  rw [show (4294967296 : Nat) = 2 ^ r * 2 ^ (32 - r) by rw [← Nat.pow_add, show r + (32 - r) = 32 by omega], Nat.mod_mul_right_mod]

set_option maxRecDepth 100000 in
set_option maxHeartbeats 4000000 in
theorem nDown2 {S : Nat → Prop} (v : Value) (k N n : Nat) (w : World) (h : RowX S w v k N) (hnr : Nrm k N) (hkb : k ≤ 100000) (hnb : n ≤ 1000000) :
    Calls Tryz.prog 96 #[v, .int .i64 n] w fun e w' => ∃ r, e = .returned (.tuple #[r, .bool (decide (N % 2 ^ n ≠ 0))]) ∧ (∃ m, Row w' r m (N / 2 ^ n) ∧ Nrm m (N / 2 ^ n) ∧ m ≤ k) ∧ Below w.heap.size w w' := by
  have HLen := hide (nLen v k N w h hnr hkb)
  obtain ⟨i5, hi5⟩ := info32
  have Hi := hide hi5
  clear hi5
  have HN := hide h.1
  obtain ⟨_, hk, ad, cap, rfl, hc, hcell⟩ := Row.old h.row
  by_cases hbig : blen N ≤ n
  · have hlt : N < 2 ^ n := by
      unfold blen at hbig
      split at hbig
      · rename_i h0; rw [h0]; exact Nat.two_pow_pos n
      · exact Nat.lt_of_lt_of_le Nat.lt_log2_self (Nat.pow_le_pow_right (by omega) hbig)
    rw [Nat.mod_eq_of_lt hlt, Nat.div_eq_of_lt hlt]
    have hb' : ((blen N : Nat) : Int) ≤ (n : Int) := by omega
    have hkN : (0 < k) ↔ N ≠ 0 := by
      constructor
      · intro hk0 h0
        obtain ⟨m, rfl⟩ : ∃ m, k = m + 1 := ⟨k - 1, by omega⟩
        exact hnr.top (by rw [h0, dg_zero])
      · intro h0
        rcases Nat.eq_zero_or_pos k with h1 | h1
        · exfalso; subst h1; have := HN.out; rw [Nat.pow_zero] at this; omega
        · exact h1
    have hd : decide (N ≠ 0) = decide (0 < k) := by rw [decide_eq_decide]; exact hkN.symm
    rw [hd]
    clear hlt hkN hd hcell hbig h hnr
    generalize blen N = bl at *
    go_enter Tryz.func96, Tryz.ntmps96
    go_wp2_with fail
    refine HLen.out.mono ?_
    rintro e w1 ⟨rfl, hw1⟩
    have hw1 := hw1.symm
    subst hw1
    go_wp2_with fail
    go_ret2
    refine ⟨.slice none 0 0, ?_, ⟨0, Row.nil _, nrm_zero, by omega⟩, Below.refl _ _⟩
    rfl
  · have hb' : ¬ ((blen N : Nat) : Int) ≤ (n : Int) := by omega
    have hN0 : N ≠ 0 := by rintro rfl; apply hbig; unfold blen; rw [if_pos rfl]; omega
    have hge : 2 ^ n ≤ N := by
      unfold blen at hbig
      rw [if_neg hN0] at hbig
      exact (Nat.le_log2 hN0).1 (by omega)
    obtain ⟨q, hq, hq1, hq2⟩ : ∃ q : Nat, n / 32 = q ∧ (n : Int) / 32 = (q : Int) ∧ (n : Int).tdiv 32 = (q : Int) := ⟨n / 32, rfl, by omega, rfl⟩
    obtain ⟨r, hr, hr1, hr2⟩ : ∃ r : Nat, n % 32 = r ∧ (n : Int) % 32 = (r : Int) ∧ (n : Int).tmod 32 = (r : Int) := ⟨n % 32, rfl, by omega, rfl⟩
    have hrl : r < 32 := by omega
    have hr3 : (r : Int) % 18446744073709551616 = (r : Int) := by omega
    have hqk : q < k := by
      rcases Nat.lt_or_ge q k with h1 | h1
      · exact h1
      · exfalso
        have e : 4294967296 ^ k ≤ 2 ^ n := by
          rw [show (4294967296 : Nat) = 2 ^ 32 from rfl, ← Nat.pow_mul]
          exact Nat.pow_le_pow_right (by omega) (by omega)
        have := HN.out
        omega
    have hqk' : (q : Int) < (k : Int) := by omega
    obtain ⟨g, o, rfl, hg, hj⟩ := hcell (by omega)
    have HC := hide hj
    have HSp := hide (mod_split N n q r hq hr)
    obtain ⟨Mq, hMq⟩ : ∃ Mq, N / 4294967296 ^ q = Mq := ⟨_, rfl⟩
    have HM : Hid (Mq / 2 ^ r < 4294967296 ^ (k - q) ∧ Mq / 2 ^ r = N / 2 ^ n ∧ ∀ j, dg N (q + j) = dg Mq j) := by
      refine ⟨?_, by rw [← hMq, ← hq, ← hr]; exact shift_split N n, fun j => by rw [← hMq]; exact dg_shift N q j⟩
      exact Nat.lt_of_le_of_lt (Nat.div_le_self _ _) (by rw [← hMq]; exact div_lt_pow (by rw [show q + (k - q) = k by omega]; exact HN.out))
    have h2p := Nat.two_pow_pos r
    have h2l : 2 ^ r < 4294967296 := Nat.lt_of_lt_of_le ((Nat.pow_lt_pow_iff_right (by omega : 1 < 2)).2 hrl) (by decide)
    have hxq := dg_lt N q
    have hand : bits BinOp.and IntKind.u32 ((dg N q : Nat) : Int) ((2 ^ r - 1 : Nat) : Int) = ((dg N q % 2 ^ r : Nat) : Int) := by
      have := u32_and_nat (dg N q) (2 ^ r - 1) hxq (by omega)
      rw [Nat.and_two_pow_sub_one_eq_mod] at this; exact this
    obtain ⟨P, hP, hP1⟩ : ∃ P : Nat, 2 ^ r = P ∧ (2 : Int) ^ r = (P : Int) := ⟨2 ^ r, rfl, by simp⟩
    have HDn : Hid (∀ j, (dg Mq (j + 1) * 4294967296 + dg Mq j) / P % 4294967296 = dg (Mq / P) j) := fun j => by rw [← hP]; exact dg_down Mq j r hrl
    rw [hP] at HM h2p h2l hand HSp
    have hP4 : (P : Int) % 4294967296 = (P : Int) := by omega
    have hP5 : (P : Int) - 1 = ((P - 1 : Nat) : Int) := by omega
    have cq := HC.out q hqk
    have HQ : Hid (N % 2 ^ n = N % 4294967296 ^ q + 4294967296 ^ q * (dg N q % P)) := HSp.out
    generalize dg N q = xq at *
    obtain ⟨yq, hyq⟩ : ∃ yq : Nat, xq % P = yq := ⟨_, rfl⟩
    rw [hyq] at hand HQ
    clear hq hr hMq hP HSp hcell hj h hnr hge hN0 hbig hyq
    generalize blen N = bl at *
    have hbl2 := hb'
    go_enter Tryz.func96, Tryz.ntmps96
    go_wp2_with fail
    refine HLen.out.mono ?_
    rintro e w1 ⟨rfl, hw1⟩
    have hw1 := hw1.symm
    subst hw1
    go_wp2_with fail
    go_loop [6, 7] (fun t6 t7 => ∃ i : Nat, i ≤ q ∧ t6 = .bool (decide (N % 4294967296 ^ i ≠ 0)) ∧ t7 = .int .i64 i) (fun _ t7 => q - (intOf t7).toNat)
    case atStart => exact ⟨0, by omega, by rw [mod_zero]; rfl, rfl⟩
    case round =>
      obtain ⟨i, hi, rfl, rfl⟩ := hrel
      by_cases hlt : i < q
      · have hlt' : (i : Int) < (q : Int) := by omega
        have hik' : (i : Int) < (k : Int) := by omega
        have ci := HC.out i (by omega)
        have Hms := hide (mod_succ N i)
        generalize dg N i = x at *
        by_cases hL : N % 4294967296 ^ i = 0
        · have hd1 : decide (N % 4294967296 ^ i ≠ 0) = false := by simp [hL]
          rw [hd1]
          by_cases hx : x = 0
          · subst hx
            have Hnx : Hid (decide (N % 4294967296 ^ (i + 1) ≠ 0) = false) := by show _ = _; rw [Hms.out, hL]; simp
            clear hL hd1
            go_wp2_with (simp only [hq2])
            go_round
            case rel => exact ⟨i + 1, by omega, by rw [Hnx.out], by go_num⟩
            case measure => simp [intOf]; omega
          · have hx' : ((x : Int) == 0) = false := by simp; omega
            have hx2 : ((x : Int) != 0) = true := by simp; omega
            have Hnx : Hid (decide (N % 4294967296 ^ (i + 1) ≠ 0) = true) := by
              show _ = _
              rw [Hms.out, hL, Nat.zero_add]
              have := Nat.mul_ne_zero (Nat.ne_of_gt (pw_pos i)) hx
              exact decide_eq_true this
            clear hL hd1 hx
            go_wp2_with (simp only [hq2])
            go_round
            case rel => exact ⟨i + 1, by omega, by rw [Hnx.out], by go_num⟩
            case measure => simp [intOf]; omega
        · have hd1 : decide (N % 4294967296 ^ i ≠ 0) = true := by simp [hL]
          rw [hd1]
          have Hnx : Hid (decide (N % 4294967296 ^ (i + 1) ≠ 0) = true) := by
            show _ = _
            rw [Hms.out]
            have : N % 4294967296 ^ i + 4294967296 ^ i * x ≠ 0 := by omega
            exact decide_eq_true this
          clear hL hd1
          go_wp2_with (simp only [hq2])
          go_round
          case rel => exact ⟨i + 1, by omega, by rw [Hnx.out], by go_num⟩
          case measure => simp [intOf]; omega
      · have hlt' : ¬ (i : Int) < (q : Int) := by omega
        obtain rfl : q = i := by omega
        by_cases hL : N % 4294967296 ^ q = 0
        · have hd1 : decide (N % 4294967296 ^ q ≠ 0) = false := by simp [hL]
          rw [hd1]
          by_cases hx : yq = 0
          · subst hx
            have Hleft : Hid (decide (N % 2 ^ n ≠ 0) = false) := by show _ = _; rw [HQ.out, hL]; simp
            have hand : bits BinOp.and IntKind.u32 (xq : Int) ((P - 1 : Nat) : Int) = 0 := hand
            clear hL hd1 HQ
            go_wp2_with (simp only [hq2, hr2, hr3, hP1, hP4, hand])
            go_loopw [8, 9] (fun t8 t9 wr => ∃ j : Nat, q + j ≤ k ∧ t9 = .int .i64 ((q + j : Nat) : Int) ∧ Hid (NatSt w (Mq / P) j t8 wr)) (fun _ t9 _ => k - (intOf t9).toNat)
            case atStart => exact ⟨0, by omega, by go_num, (Own.nil w w.heap.size).2.2, Below.refl _ _⟩
            case round =>
              obtain ⟨j, hj, rfl, HS⟩ := hrel
              by_cases hlt : q + j < k
              · obtain ⟨i, hi⟩ : ∃ i, q + j = i := ⟨_, rfl⟩
                have hlt' : (i : Int) < (k : Int) := by omega
                have hxl := dg_lt Mq j
                have hyl := dg_lt Mq (j + 1)
                have Hnext := hide (fun (w4 : World) (g4 cap4 : Nat) => NatSt.next (w4 := w4) (g := g4) (cap := cap4) HS.out)
                rw [← HDn.out j] at Hnext
                have HO := hide HS.out
                have hcx : wr.cell? ⟨g, o + i, none⟩ = some (.int .u32 (dg Mq j : Nat)) := by
                  rw [HO.out.2.cell (p := ⟨g, o + i, none⟩) (lt_of_cell (HC.out i (by omega)))]
                  rw [← HM.out.2.2 j, hi]; exact HC.out i (by omega)
                have HY : Hid (i + 1 < k → wr.cell? ⟨g, o + (i + 1), none⟩ = some (.int .u32 (dg Mq (j + 1) : Nat))) := fun hh => by
                  rw [HO.out.2.cell (p := ⟨g, o + (i + 1), none⟩) (lt_of_cell (HC.out (i + 1) hh))]
                  rw [← HM.out.2.2 (j + 1), show q + (j + 1) = i + 1 by omega]; exact HC.out (i + 1) hh
                have HZ : Hid (¬ i + 1 < k → dg Mq (j + 1) = 0) := fun hh => by
                  rw [← HM.out.2.2 (j + 1)]; exact dg_high HN.out (by omega)
                rw [hi]
                have Hij := hide hi
                have hi1 : (i : Int) + 1 = ((i + 1 : Nat) : Int) := by omega
                clear hi HS
                generalize dg Mq j = x at *
                generalize dg Mq (j + 1) = y at *
                by_cases h1k : i + 1 < k
                · have h1k' : ((i + 1 : Nat) : Int) < (k : Int) := by omega
                  have h1k2 : (i : Int) + 1 < (k : Int) := by omega
                  have hcy := HY.out h1k
                  obtain ⟨z, hz, hz1⟩ : ∃ z : Nat, y * 4294967296 + x = z ∧ bits BinOp.or IntKind.u64 (x : Int) ((y : Int) * 4294967296) = (z : Int) := ⟨_, rfl, by
                    have e : (y : Int) * 4294967296 = ((y * 4294967296 : Nat) : Int) := by omega
                    rw [e, u64_or_nat _ _ (by omega) (by omega), Nat.or_comm]
                    have := Nat.two_pow_add_eq_or_of_lt (i := 32) hxl y
                    rw [show (2 : Nat) ^ 32 * y = y * 4294967296 by omega] at this
                    rw [← this]⟩
                  have hzl : z < 18446744073709551616 := by omega
                  have hym : (y : Int) * 4294967296 % 18446744073709551616 = (y : Int) * 4294967296 := by omega
                  have hyw : IntKind.u64.wrap ((y : Int) * 4294967296) = (y : Int) * 4294967296 := by rw [IntKind.wrap_u64]; exact hym
                  rw [hz] at Hnext
                  obtain ⟨s, hs, hs1⟩ : ∃ s : Nat, z / P = s ∧ (z : Int) / (P : Int) = (s : Int) := ⟨z / P, rfl, by simp⟩
                  have hsl : s < 18446744073709551616 := by rw [← hs]; exact Nat.lt_of_le_of_lt (Nat.div_le_self _ _) hzl
                  rw [hs] at Hnext
                  obtain ⟨d, hd, hd1⟩ : ∃ d : Nat, s % 4294967296 = d ∧ (s : Int) % 4294967296 = (d : Int) := ⟨_, rfl, by omega⟩
                  have hdl : d < 4294967296 := by omega
                  rw [hd] at Hnext
                  clear hz hs hd HY HZ h1k hi1
                  go_wp2_with (first | (simp only [hr2, hr3, hP1, hym, hyw, hz1, hs1, hd1]; done) | (at_builtin; refine wpList_append_lies _ rfl _ _ _ rfl w.heap.size 38 i5 (.int .u32 0) 1 4 Tryz.underlying69 Hi.out.1 Hi.out.2.1 Hi.out.2.2.1 Hi.out.2.2.2 rfl (by decide) _ j (limbsV j (Mq / P)) rfl (HO.out.1.alloc _) ⟨wr.heap.size, 0, none⟩ 1 1 [.int .u32 (d : Nat)] rfl rfl (fun j u hj => cell_new1 wr _ 38 j u hj) (fun u hu => by simp at hu; subst hu; rfl) (by decide) (by unfold maxLen; omega) (by omega) (by have := HO.out.2.size; simp; omega) _ rfl ?d6))
                  case d6 =>
                    intro g4 cap4 w4 ho4 hg4 _ _
                    have H4 := hide (Hnext.out w4 g4 cap4 ho4 hg4)
                    clear ho4 hg4 Hnext
                    go_wp2_with fail
                    go_roundw
                    case rel => exact ⟨j + 1, by have := Hij.out; omega, by have := Hij.out; go_num, H4⟩
                    case measure => simp [intOf]; omega
                · have h1k' : ¬ ((i + 1 : Nat) : Int) < (k : Int) := by omega
                  have h1k2 : ¬ (i : Int) + 1 < (k : Int) := by omega
                  have y0 := HZ.out h1k
                  subst y0
                  obtain ⟨z, hz, hz1⟩ : ∃ z : Nat, 0 * 4294967296 + x = z ∧ x = z := ⟨x, by rw [Nat.zero_mul, Nat.zero_add], rfl⟩
                  subst hz1
                  rw [hz] at Hnext
                  obtain ⟨d, hs, hs1⟩ : ∃ s : Nat, x / P = s ∧ (x : Int) / (P : Int) = (s : Int) := ⟨x / P, rfl, by simp⟩
                  have hdl : d < 4294967296 := by rw [← hs]; exact Nat.lt_of_le_of_lt (Nat.div_le_self _ _) hxl
                  rw [hs, Nat.mod_eq_of_lt hdl] at Hnext
                  have hd1 : (d : Int) % 4294967296 = (d : Int) := by omega
                  clear hz hs HY HZ h1k hi1
                  go_wp2_with (first | (simp only [hr2, hr3, hP1, hs1, hd1]; done) | (at_builtin; refine wpList_append_lies _ rfl _ _ _ rfl w.heap.size 38 i5 (.int .u32 0) 1 4 Tryz.underlying69 Hi.out.1 Hi.out.2.1 Hi.out.2.2.1 Hi.out.2.2.2 rfl (by decide) _ j (limbsV j (Mq / P)) rfl (HO.out.1.alloc _) ⟨wr.heap.size, 0, none⟩ 1 1 [.int .u32 (d : Nat)] rfl rfl (fun j u hj => cell_new1 wr _ 38 j u hj) (fun u hu => by simp at hu; subst hu; rfl) (by decide) (by unfold maxLen; omega) (by omega) (by have := HO.out.2.size; simp; omega) _ rfl ?d6))
                  case d6 =>
                    intro g4 cap4 w4 ho4 hg4 _ _
                    have H4 := hide (Hnext.out w4 g4 cap4 ho4 hg4)
                    clear ho4 hg4 Hnext
                    go_wp2_with fail
                    go_roundw
                    case rel => exact ⟨j + 1, by have := Hij.out; omega, by have := Hij.out; go_num, H4⟩
                    case measure => simp [intOf]; omega
              · obtain ⟨i, hi⟩ : ∃ i, q + j = i := ⟨_, rfl⟩
                have hlt' : ¬ (i : Int) < (k : Int) := by omega
                have HE := hide (HS.out.own (by rw [show j = k - q by omega]; exact HM.out.1) (by omega)).row
                rw [HM.out.2.1] at HE
                have HB := hide HS.out.2
                have hjk : j ≤ k := by omega
                rw [hi]
                clear HS hi
                go_wp2_with fail
                refine (nTrim _ j (N / 2 ^ n) _ HE.out).mono ?_
                rintro e w5 ⟨r5, rfl, n5, hr5, hn5, hnk5, rfl⟩
                have H5 := hide (And.intro hr5 (And.intro hn5 hnk5))
                clear hr5 hn5 hnk5
                go_wp2_with fail
                go_ret2
                refine ⟨r5, ?_, ⟨n5, H5.out.1, H5.out.2.1, by have := H5.out.2.2; omega⟩, HB.out⟩
                rw [Hleft.out]
                rfl
          · have hx' : ((yq : Int) == 0) = false := by simp; omega
            have hx2 : ((yq : Int) != 0) = true := by simp; omega
            have Hleft : Hid (decide (N % 2 ^ n ≠ 0) = true) := by
              show _ = _
              rw [HQ.out, hL, Nat.zero_add]
              have := Nat.mul_ne_zero (Nat.ne_of_gt (pw_pos q)) hx
              exact decide_eq_true this
            clear hL hd1 hx HQ
            go_wp2_with (simp only [hq2, hr2, hr3, hP1, hP4, hand])
            go_loopw [8, 9] (fun t8 t9 wr => ∃ j : Nat, q + j ≤ k ∧ t9 = .int .i64 ((q + j : Nat) : Int) ∧ Hid (NatSt w (Mq / P) j t8 wr)) (fun _ t9 _ => k - (intOf t9).toNat)
            case atStart => exact ⟨0, by omega, by go_num, (Own.nil w w.heap.size).2.2, Below.refl _ _⟩
            case round =>
              obtain ⟨j, hj, rfl, HS⟩ := hrel
              by_cases hlt : q + j < k
              · obtain ⟨i, hi⟩ : ∃ i, q + j = i := ⟨_, rfl⟩
                have hlt' : (i : Int) < (k : Int) := by omega
                have hxl := dg_lt Mq j
                have hyl := dg_lt Mq (j + 1)
                have Hnext := hide (fun (w4 : World) (g4 cap4 : Nat) => NatSt.next (w4 := w4) (g := g4) (cap := cap4) HS.out)
                rw [← HDn.out j] at Hnext
                have HO := hide HS.out
                have hcx : wr.cell? ⟨g, o + i, none⟩ = some (.int .u32 (dg Mq j : Nat)) := by
                  rw [HO.out.2.cell (p := ⟨g, o + i, none⟩) (lt_of_cell (HC.out i (by omega)))]
                  rw [← HM.out.2.2 j, hi]; exact HC.out i (by omega)
                have HY : Hid (i + 1 < k → wr.cell? ⟨g, o + (i + 1), none⟩ = some (.int .u32 (dg Mq (j + 1) : Nat))) := fun hh => by
                  rw [HO.out.2.cell (p := ⟨g, o + (i + 1), none⟩) (lt_of_cell (HC.out (i + 1) hh))]
                  rw [← HM.out.2.2 (j + 1), show q + (j + 1) = i + 1 by omega]; exact HC.out (i + 1) hh
                have HZ : Hid (¬ i + 1 < k → dg Mq (j + 1) = 0) := fun hh => by
                  rw [← HM.out.2.2 (j + 1)]; exact dg_high HN.out (by omega)
                rw [hi]
                have Hij := hide hi
                have hi1 : (i : Int) + 1 = ((i + 1 : Nat) : Int) := by omega
                clear hi HS
                generalize dg Mq j = x at *
                generalize dg Mq (j + 1) = y at *
                by_cases h1k : i + 1 < k
                · have h1k' : ((i + 1 : Nat) : Int) < (k : Int) := by omega
                  have h1k2 : (i : Int) + 1 < (k : Int) := by omega
                  have hcy := HY.out h1k
                  obtain ⟨z, hz, hz1⟩ : ∃ z : Nat, y * 4294967296 + x = z ∧ bits BinOp.or IntKind.u64 (x : Int) ((y : Int) * 4294967296) = (z : Int) := ⟨_, rfl, by
                    have e : (y : Int) * 4294967296 = ((y * 4294967296 : Nat) : Int) := by omega
                    rw [e, u64_or_nat _ _ (by omega) (by omega), Nat.or_comm]
                    have := Nat.two_pow_add_eq_or_of_lt (i := 32) hxl y
                    rw [show (2 : Nat) ^ 32 * y = y * 4294967296 by omega] at this
                    rw [← this]⟩
                  have hzl : z < 18446744073709551616 := by omega
                  have hym : (y : Int) * 4294967296 % 18446744073709551616 = (y : Int) * 4294967296 := by omega
                  have hyw : IntKind.u64.wrap ((y : Int) * 4294967296) = (y : Int) * 4294967296 := by rw [IntKind.wrap_u64]; exact hym
                  rw [hz] at Hnext
                  obtain ⟨s, hs, hs1⟩ : ∃ s : Nat, z / P = s ∧ (z : Int) / (P : Int) = (s : Int) := ⟨z / P, rfl, by simp⟩
                  have hsl : s < 18446744073709551616 := by rw [← hs]; exact Nat.lt_of_le_of_lt (Nat.div_le_self _ _) hzl
                  rw [hs] at Hnext
                  obtain ⟨d, hd, hd1⟩ : ∃ d : Nat, s % 4294967296 = d ∧ (s : Int) % 4294967296 = (d : Int) := ⟨_, rfl, by omega⟩
                  have hdl : d < 4294967296 := by omega
                  rw [hd] at Hnext
                  clear hz hs hd HY HZ h1k hi1
                  go_wp2_with (first | (simp only [hr2, hr3, hP1, hym, hyw, hz1, hs1, hd1]; done) | (at_builtin; refine wpList_append_lies _ rfl _ _ _ rfl w.heap.size 38 i5 (.int .u32 0) 1 4 Tryz.underlying69 Hi.out.1 Hi.out.2.1 Hi.out.2.2.1 Hi.out.2.2.2 rfl (by decide) _ j (limbsV j (Mq / P)) rfl (HO.out.1.alloc _) ⟨wr.heap.size, 0, none⟩ 1 1 [.int .u32 (d : Nat)] rfl rfl (fun j u hj => cell_new1 wr _ 38 j u hj) (fun u hu => by simp at hu; subst hu; rfl) (by decide) (by unfold maxLen; omega) (by omega) (by have := HO.out.2.size; simp; omega) _ rfl ?d6))
                  case d6 =>
                    intro g4 cap4 w4 ho4 hg4 _ _
                    have H4 := hide (Hnext.out w4 g4 cap4 ho4 hg4)
                    clear ho4 hg4 Hnext
                    go_wp2_with fail
                    go_roundw
                    case rel => exact ⟨j + 1, by have := Hij.out; omega, by have := Hij.out; go_num, H4⟩
                    case measure => simp [intOf]; omega
                · have h1k' : ¬ ((i + 1 : Nat) : Int) < (k : Int) := by omega
                  have h1k2 : ¬ (i : Int) + 1 < (k : Int) := by omega
                  have y0 := HZ.out h1k
                  subst y0
                  obtain ⟨z, hz, hz1⟩ : ∃ z : Nat, 0 * 4294967296 + x = z ∧ x = z := ⟨x, by rw [Nat.zero_mul, Nat.zero_add], rfl⟩
                  subst hz1
                  rw [hz] at Hnext
                  obtain ⟨d, hs, hs1⟩ : ∃ s : Nat, x / P = s ∧ (x : Int) / (P : Int) = (s : Int) := ⟨x / P, rfl, by simp⟩
                  have hdl : d < 4294967296 := by rw [← hs]; exact Nat.lt_of_le_of_lt (Nat.div_le_self _ _) hxl
                  rw [hs, Nat.mod_eq_of_lt hdl] at Hnext
                  have hd1 : (d : Int) % 4294967296 = (d : Int) := by omega
                  clear hz hs HY HZ h1k hi1
                  go_wp2_with (first | (simp only [hr2, hr3, hP1, hs1, hd1]; done) | (at_builtin; refine wpList_append_lies _ rfl _ _ _ rfl w.heap.size 38 i5 (.int .u32 0) 1 4 Tryz.underlying69 Hi.out.1 Hi.out.2.1 Hi.out.2.2.1 Hi.out.2.2.2 rfl (by decide) _ j (limbsV j (Mq / P)) rfl (HO.out.1.alloc _) ⟨wr.heap.size, 0, none⟩ 1 1 [.int .u32 (d : Nat)] rfl rfl (fun j u hj => cell_new1 wr _ 38 j u hj) (fun u hu => by simp at hu; subst hu; rfl) (by decide) (by unfold maxLen; omega) (by omega) (by have := HO.out.2.size; simp; omega) _ rfl ?d6))
                  case d6 =>
                    intro g4 cap4 w4 ho4 hg4 _ _
                    have H4 := hide (Hnext.out w4 g4 cap4 ho4 hg4)
                    clear ho4 hg4 Hnext
                    go_wp2_with fail
                    go_roundw
                    case rel => exact ⟨j + 1, by have := Hij.out; omega, by have := Hij.out; go_num, H4⟩
                    case measure => simp [intOf]; omega
              · obtain ⟨i, hi⟩ : ∃ i, q + j = i := ⟨_, rfl⟩
                have hlt' : ¬ (i : Int) < (k : Int) := by omega
                have HE := hide (HS.out.own (by rw [show j = k - q by omega]; exact HM.out.1) (by omega)).row
                rw [HM.out.2.1] at HE
                have HB := hide HS.out.2
                have hjk : j ≤ k := by omega
                rw [hi]
                clear HS hi
                go_wp2_with fail
                refine (nTrim _ j (N / 2 ^ n) _ HE.out).mono ?_
                rintro e w5 ⟨r5, rfl, n5, hr5, hn5, hnk5, rfl⟩
                have H5 := hide (And.intro hr5 (And.intro hn5 hnk5))
                clear hr5 hn5 hnk5
                go_wp2_with fail
                go_ret2
                refine ⟨r5, ?_, ⟨n5, H5.out.1, H5.out.2.1, by have := H5.out.2.2; omega⟩, HB.out⟩
                rw [Hleft.out]
                rfl
        · have hd1 : decide (N % 4294967296 ^ q ≠ 0) = true := by simp [hL]
          rw [hd1]
          have Hleft : Hid (decide (N % 2 ^ n ≠ 0) = true) := by
            show _ = _
            rw [HQ.out]
            have : N % 4294967296 ^ q + 4294967296 ^ q * yq ≠ 0 := by omega
            exact decide_eq_true this
          clear hL hd1 HQ
          go_wp2_with (simp only [hq2, hr2, hr3, hP1, hP4, hand])
          go_loopw [8, 9] (fun t8 t9 wr => ∃ j : Nat, q + j ≤ k ∧ t9 = .int .i64 ((q + j : Nat) : Int) ∧ Hid (NatSt w (Mq / P) j t8 wr)) (fun _ t9 _ => k - (intOf t9).toNat)
          case atStart => exact ⟨0, by omega, by go_num, (Own.nil w w.heap.size).2.2, Below.refl _ _⟩
          case round =>
            obtain ⟨j, hj, rfl, HS⟩ := hrel
            by_cases hlt : q + j < k
            · obtain ⟨i, hi⟩ : ∃ i, q + j = i := ⟨_, rfl⟩
              have hlt' : (i : Int) < (k : Int) := by omega
              have hxl := dg_lt Mq j
              have hyl := dg_lt Mq (j + 1)
              have Hnext := hide (fun (w4 : World) (g4 cap4 : Nat) => NatSt.next (w4 := w4) (g := g4) (cap := cap4) HS.out)
              rw [← HDn.out j] at Hnext
              have HO := hide HS.out
              have hcx : wr.cell? ⟨g, o + i, none⟩ = some (.int .u32 (dg Mq j : Nat)) := by
                rw [HO.out.2.cell (p := ⟨g, o + i, none⟩) (lt_of_cell (HC.out i (by omega)))]
                rw [← HM.out.2.2 j, hi]; exact HC.out i (by omega)
              have HY : Hid (i + 1 < k → wr.cell? ⟨g, o + (i + 1), none⟩ = some (.int .u32 (dg Mq (j + 1) : Nat))) := fun hh => by
                rw [HO.out.2.cell (p := ⟨g, o + (i + 1), none⟩) (lt_of_cell (HC.out (i + 1) hh))]
                rw [← HM.out.2.2 (j + 1), show q + (j + 1) = i + 1 by omega]; exact HC.out (i + 1) hh
              have HZ : Hid (¬ i + 1 < k → dg Mq (j + 1) = 0) := fun hh => by
                rw [← HM.out.2.2 (j + 1)]; exact dg_high HN.out (by omega)
              rw [hi]
              have Hij := hide hi
              have hi1 : (i : Int) + 1 = ((i + 1 : Nat) : Int) := by omega
              clear hi HS
              generalize dg Mq j = x at *
              generalize dg Mq (j + 1) = y at *
              by_cases h1k : i + 1 < k
              · have h1k' : ((i + 1 : Nat) : Int) < (k : Int) := by omega
                have h1k2 : (i : Int) + 1 < (k : Int) := by omega
                have hcy := HY.out h1k
                obtain ⟨z, hz, hz1⟩ : ∃ z : Nat, y * 4294967296 + x = z ∧ bits BinOp.or IntKind.u64 (x : Int) ((y : Int) * 4294967296) = (z : Int) := ⟨_, rfl, by
                  have e : (y : Int) * 4294967296 = ((y * 4294967296 : Nat) : Int) := by omega
                  rw [e, u64_or_nat _ _ (by omega) (by omega), Nat.or_comm]
                  have := Nat.two_pow_add_eq_or_of_lt (i := 32) hxl y
                  rw [show (2 : Nat) ^ 32 * y = y * 4294967296 by omega] at this
                  rw [← this]⟩
                have hzl : z < 18446744073709551616 := by omega
                have hym : (y : Int) * 4294967296 % 18446744073709551616 = (y : Int) * 4294967296 := by omega
                have hyw : IntKind.u64.wrap ((y : Int) * 4294967296) = (y : Int) * 4294967296 := by rw [IntKind.wrap_u64]; exact hym
                rw [hz] at Hnext
                obtain ⟨s, hs, hs1⟩ : ∃ s : Nat, z / P = s ∧ (z : Int) / (P : Int) = (s : Int) := ⟨z / P, rfl, by simp⟩
                have hsl : s < 18446744073709551616 := by rw [← hs]; exact Nat.lt_of_le_of_lt (Nat.div_le_self _ _) hzl
                rw [hs] at Hnext
                obtain ⟨d, hd, hd1⟩ : ∃ d : Nat, s % 4294967296 = d ∧ (s : Int) % 4294967296 = (d : Int) := ⟨_, rfl, by omega⟩
                have hdl : d < 4294967296 := by omega
                rw [hd] at Hnext
                clear hz hs hd HY HZ h1k hi1
                go_wp2_with (first | (simp only [hr2, hr3, hP1, hym, hyw, hz1, hs1, hd1]; done) | (at_builtin; refine wpList_append_lies _ rfl _ _ _ rfl w.heap.size 38 i5 (.int .u32 0) 1 4 Tryz.underlying69 Hi.out.1 Hi.out.2.1 Hi.out.2.2.1 Hi.out.2.2.2 rfl (by decide) _ j (limbsV j (Mq / P)) rfl (HO.out.1.alloc _) ⟨wr.heap.size, 0, none⟩ 1 1 [.int .u32 (d : Nat)] rfl rfl (fun j u hj => cell_new1 wr _ 38 j u hj) (fun u hu => by simp at hu; subst hu; rfl) (by decide) (by unfold maxLen; omega) (by omega) (by have := HO.out.2.size; simp; omega) _ rfl ?d6))
                case d6 =>
                  intro g4 cap4 w4 ho4 hg4 _ _
                  have H4 := hide (Hnext.out w4 g4 cap4 ho4 hg4)
                  clear ho4 hg4 Hnext
                  go_wp2_with fail
                  go_roundw
                  case rel => exact ⟨j + 1, by have := Hij.out; omega, by have := Hij.out; go_num, H4⟩
                  case measure => simp [intOf]; omega
              · have h1k' : ¬ ((i + 1 : Nat) : Int) < (k : Int) := by omega
                have h1k2 : ¬ (i : Int) + 1 < (k : Int) := by omega
                have y0 := HZ.out h1k
                subst y0
                obtain ⟨z, hz, hz1⟩ : ∃ z : Nat, 0 * 4294967296 + x = z ∧ x = z := ⟨x, by rw [Nat.zero_mul, Nat.zero_add], rfl⟩
                subst hz1
                rw [hz] at Hnext
                obtain ⟨d, hs, hs1⟩ : ∃ s : Nat, x / P = s ∧ (x : Int) / (P : Int) = (s : Int) := ⟨x / P, rfl, by simp⟩
                have hdl : d < 4294967296 := by rw [← hs]; exact Nat.lt_of_le_of_lt (Nat.div_le_self _ _) hxl
                rw [hs, Nat.mod_eq_of_lt hdl] at Hnext
                have hd1 : (d : Int) % 4294967296 = (d : Int) := by omega
                clear hz hs HY HZ h1k hi1
                go_wp2_with (first | (simp only [hr2, hr3, hP1, hs1, hd1]; done) | (at_builtin; refine wpList_append_lies _ rfl _ _ _ rfl w.heap.size 38 i5 (.int .u32 0) 1 4 Tryz.underlying69 Hi.out.1 Hi.out.2.1 Hi.out.2.2.1 Hi.out.2.2.2 rfl (by decide) _ j (limbsV j (Mq / P)) rfl (HO.out.1.alloc _) ⟨wr.heap.size, 0, none⟩ 1 1 [.int .u32 (d : Nat)] rfl rfl (fun j u hj => cell_new1 wr _ 38 j u hj) (fun u hu => by simp at hu; subst hu; rfl) (by decide) (by unfold maxLen; omega) (by omega) (by have := HO.out.2.size; simp; omega) _ rfl ?d6))
                case d6 =>
                  intro g4 cap4 w4 ho4 hg4 _ _
                  have H4 := hide (Hnext.out w4 g4 cap4 ho4 hg4)
                  clear ho4 hg4 Hnext
                  go_wp2_with fail
                  go_roundw
                  case rel => exact ⟨j + 1, by have := Hij.out; omega, by have := Hij.out; go_num, H4⟩
                  case measure => simp [intOf]; omega
            · obtain ⟨i, hi⟩ : ∃ i, q + j = i := ⟨_, rfl⟩
              have hlt' : ¬ (i : Int) < (k : Int) := by omega
              have HE := hide (HS.out.own (by rw [show j = k - q by omega]; exact HM.out.1) (by omega)).row
              rw [HM.out.2.1] at HE
              have HB := hide HS.out.2
              have hjk : j ≤ k := by omega
              rw [hi]
              clear HS hi
              go_wp2_with fail
              refine (nTrim _ j (N / 2 ^ n) _ HE.out).mono ?_
              rintro e w5 ⟨r5, rfl, n5, hr5, hn5, hnk5, rfl⟩
              have H5 := hide (And.intro hr5 (And.intro hn5 hnk5))
              clear hr5 hn5 hnk5
              go_wp2_with fail
              go_ret2
              refine ⟨r5, ?_, ⟨n5, H5.out.1, H5.out.2.1, by have := H5.out.2.2; omega⟩, HB.out⟩
              rw [Hleft.out]
              rfl
end Go.Proofs.YtmkploknoohliaaGreat

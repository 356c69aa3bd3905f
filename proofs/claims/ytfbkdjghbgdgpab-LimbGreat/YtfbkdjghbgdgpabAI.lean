/- LimbPowers' walk. -/
import Derived.Test.YtfbkdjghbgdgpabUB
import Derived.Test.YtfbkdjghbgdgpabAH
namespace Go.Proofs.Ytfbkdjghbgdgpab
open Go.RowKit
open M
set_option linter.unusedVariables false
set_option linter.unusedSimpArgs false

theorem i64_and63 (n : Int) : bits .and .i64 n 63 = n % 64 := by
  have h63 : (BitVec.ofInt 64 63).toNat = 2 ^ 6 - 1 := by decide
  have key : (BitVec.ofInt 64 n &&& BitVec.ofInt 64 63).toNat = (n % ((2 ^ 64 : Nat) : Int)).toNat % 2 ^ 6 := by
    rw [BitVec.toNat_and, BitVec.toNat_ofInt, h63, Nat.and_two_pow_sub_one_eq_mod]
  show IntKind.i64.wrap ((BitVec.ofInt 64 n &&& BitVec.ofInt 64 63).toNat : Nat) = n % 64
  rw [key, IntKind.wrap_i64]
  omega

/-- A slice of Powers that came in. -/
def IsPows (w : World) (a : Option Addr) (len : Nat) : Prop :=
  len ≤ 9223372036854775807 ∧ (0 < len → ∃ g o, a = some ⟨g, o, none⟩ ∧ g < w.heap.size ∧ ∀ i, i < len → ∃ (B : Nat) (M N : Int), B < 4294967296 ∧ (-9223372036854775808 ≤ M ∧ M ≤ 9223372036854775807) ∧ (-9223372036854775808 ≤ N ∧ N ≤ 9223372036854775807) ∧
    w.cell? ⟨g, o + i * 3, none⟩ = some (.int .u32 B) ∧ w.cell? ⟨g, o + i * 3 + 1, none⟩ = some (.int .i64 M) ∧ w.cell? ⟨g, o + i * 3 + 2, none⟩ = some (.int .i64 N))

theorem power_num (b n : Nat) (w : World) (hb : b < 4294967296) (hn : n ≤ 262143) (hf : Fits (b ^ n)) :
    Calls Try.prog 31 #[.int .u32 b, .int .i64 n] w fun e w' => ∃ r, e = .returned (.tuple #[r, .int .i64 0]) ∧ Num w' r (b ^ n) ∧ Below w.heap.size w w' := by
  refine (Power_any b n w hb (by omega)).mono ?_
  rintro e w' ⟨r, c, he, ht, hbl⟩
  obtain ⟨rfl, k, ho, hn⟩ := ht.ok hf
  exact ⟨r, he, ho.num hn hf, hbl⟩

theorem power_less (b : Nat) (n : Int) (w : World) (hn : n < 0) :
    Calls Try.prog 31 #[.int .u32 b, .int .i64 n] w fun e w' => e = .returned (.tuple #[.slice none 0 0, .int .i64 24]) ∧ Below w.heap.size w w' :=
  (Power_neg b n w hn).mono fun r w' ⟨h1, h2⟩ => ⟨h1, by rw [h2]; exact Below.refl _ _⟩

theorem pow_fits {b n : Nat} (hb : b < 4294967296) (hn : n ≤ 8191) : Fits (b ^ n) := by
  refine fits_of (k := n + 1) (by omega) ?_
  rw [pw_succ]
  have h1 : b ^ n ≤ 4294967296 ^ n := Nat.pow_le_pow_left (by omega) n
  have := pw_pos n
  omega

theorem text_num {v : Value} {N L : Nat} {w : World} (h : Num w v N) (hL : Dec0 L N) :
    Calls Try.prog 19 #[v] w fun e w' => e = .returned (.string (strOf (txt L N))) ∧ Below w.heap.size w w' := by
  refine (Text_ok h).mono ?_
  rintro e w' ⟨L', he, hd, hb⟩
  rw [hd.uniq hL] at he
  exact ⟨he, hb⟩

theorem dec0_ten (m : Nat) : Dec0 (m + 1) (10 ^ m) := ⟨Nat.pow_lt_pow_right (by omega) (by omega), by omega, .inr (Nat.le_refl _)⟩

theorem strOf_size (bs : List Nat) : (strOf bs).size = bs.length := by simp [strOf, strOfNums_size]

theorem strOf_get (bs : List Nat) (k : Nat) (h : k < (strOf bs).size) (hb : bs.getD k 0 < 256) : ((strOf bs)[k]'h).toNat = bs.getD k 0 := by
  have hk : k < bs.length := by rw [strOf_size] at h; exact h
  have e : (strOf bs)[k]'h = UInt8.ofNat ((bs[k] : Nat) : Int).toNat := by
    show (strOf bs).data[k]'_ = _
    simp [strOf, strOfNums]
  rw [e]
  simp only [List.getD, List.getElem?_eq_getElem hk, Option.getD_some] at hb ⊢
  simp only [Int.toNat_natCast, UInt8.toNat_ofNat']
  omega

theorem d10_ten (m j : Nat) (h : j ≤ m) : d10 (10 ^ m) j = if j = m then 1 else 0 := by
  unfold d10
  rw [Nat.pow_div h (by omega)]
  split
  · rename_i e; subst e; simp
  · rw [show m - j = m - j - 1 + 1 from by omega, Nat.pow_succ]; omega

theorem ten_get (m k : Nat) (h : k < (strOf (txt (m + 1) (10 ^ m))).size) : ((strOf (txt (m + 1) (10 ^ m)))[k]'h).toNat = if k = 0 then 49 else 48 := by
  have hk : k < m + 1 := by rw [strOf_size, txt_length] at h; exact h
  have hg := txt_get (m + 1) (10 ^ m) k hk
  rw [show m + 1 - 1 - k = m - k from by omega, d10_ten m (m - k) (by omega)] at hg
  rw [strOf_get _ _ _ (by rw [hg]; split <;> omega), hg]
  by_cases e : k = 0
  · rw [if_pos e, if_pos (by omega)]
  · rw [if_neg e, if_neg (by omega)]

set_option maxRecDepth 100000 in
set_option maxHeartbeats 8000000 in
theorem powers_any (a0 : Option Addr) (len0 cap0 : Nat) (w : World) (h : IsPows w a0 len0) :
    Calls Try.prog 6 #[.slice a0 len0 cap0] w fun e w' => e = .returned (.bool true) ∧ Below w.heap.size w w' := by
  obtain ⟨hlen, hcell⟩ := h
  have HC := hide hcell
  clear hcell
  go_enter Try.func6, Try.ntmps6
  go_wp2_with fail
  go_loopw [3] (fun t3 wr => ∃ i : Nat, i ≤ len0 ∧ i ≤ 20 ∧ t3 = .int .i64 i ∧ Hid (Below w.heap.size w wr)) (fun t3 _ => 20 - (intOf t3).toNat)
  case atStart => exact ⟨0, by omega, by omega, rfl, Below.refl _ _⟩
  case round =>
    obtain ⟨i, hi, hi20, rfl, HI⟩ := hrel
    by_cases hgo : i < len0 ∧ i < 20
    · have g1 : (i : Int) < (len0 : Int) := by omega
      have g2 : (i : Int) < 20 := by omega
      obtain ⟨g, o, rfl, hg, hj⟩ := HC.out (by omega)
      obtain ⟨B, M, N, hB, hM, hN, cb, cm, cn⟩ := hj i hgo.1
      have cb0 : wr.cell? ⟨g, o + i * 3, none⟩ = some (.int .u32 B) := by rw [HI.out.cell (p := ⟨g, o + i * 3, none⟩) hg]; exact cb
      have cm0 : wr.cell? ⟨g, o + i * 3 + 1, none⟩ = some (.int .i64 M) := by rw [HI.out.cell (p := ⟨g, o + i * 3 + 1, none⟩) hg]; exact cm
      have cn0 : wr.cell? ⟨g, o + i * 3 + 2, none⟩ = some (.int .i64 N) := by rw [HI.out.cell (p := ⟨g, o + i * 3 + 2, none⟩) hg]; exact cn
      have HCB : Hid (∀ w2, Below w.heap.size w w2 → w2.cell? ⟨g, o + i * 3, none⟩ = some (.int .u32 B)) := fun w2 h2 => by rw [h2.cell (p := ⟨g, o + i * 3, none⟩) hg]; exact cb
      have HBb := hide hB
      clear hj hgo cb cm cn
      by_cases hneg : M < 0 ∨ N < 0
      · have hand := i64_and63 M
        have hml := Int.emod_nonneg M (show (64 : Int) ≠ 0 from by decide)
        have hmh := Int.emod_lt_of_pos M (show (0 : Int) < 64 from by decide)
        generalize M % 64 = y at *
        obtain ⟨z, hz⟩ : ∃ z : Int, -1 - y = z := ⟨_, rfl⟩
        have hzn : z < 0 := by omega
        have HW : Hid (Below w.heap.size w wr) := HI
        have fin : ∀ (P : Prop), P → P := fun _ h => h
        by_cases hM0 : M < 0
        all_goals
          first
          | (have hm1 : M < 0 := hM0)
          | (have hm1 : ¬ M < 0 := hM0; have hn1 : N < 0 := (by omega))
          clear hneg hM0 fin
          have H0 : Hid (Below w.heap.size w wr) := HW
          clear HW HI
          go_wp2_with fail
          refine (power_less B z _ hzn).mono ?_
          rintro e w1 ⟨rfl, hb⟩
          have H1 : Hid (Below w.heap.size w w1) := H0.out.trans (hb.mono H0.out.size)
          clear H0 hb
          go_wp2_with fail
          refine (num_below 24 _).mono ?_
          rintro e w2 ⟨rfl, hb⟩
          have H2 : Hid (Below w.heap.size w w2) := H1.out.trans (hb.mono H1.out.size)
          clear H1 hb
          go_wp2_with fail
          go_roundw
          case rel => exact ⟨i + 1, by omega, by omega, by go_num, H2⟩
          case measure => simp [intOf]; omega
      · have hm1 : ¬ M < 0 := by omega
        have hn1 : ¬ N < 0 := by omega
        obtain ⟨m, hm, hm'⟩ : ∃ m : Nat, m = (M % 120).toNat ∧ M.tmod 120 = (m : Int) := ⟨(M % 120).toNat, rfl, by rw [Int.tmod_eq_emod_of_nonneg (by omega)]; omega⟩
        obtain ⟨n, hn, hn'⟩ : ∃ n : Nat, n = (N % 120).toNat ∧ N.tmod 120 = (n : Int) := ⟨(N % 120).toNat, rfl, by rw [Int.tmod_eq_emod_of_nonneg (by omega)]; omega⟩
        have hm2 : M % 120 = (m : Int) := by omega
        have hn2 : N % 120 = (n : Int) := by omega
        have hmb : m < 120 := by omega
        have hnb : n < 120 := by omega
        obtain ⟨mn, hmn, hmn'⟩ : ∃ mn : Nat, mn = m + n ∧ (m : Int) + (n : Int) = (mn : Int) := ⟨m + n, rfl, by omega⟩
        obtain ⟨mh, hmh, hmh'⟩ : ∃ mh : Nat, mh = m * 101 ∧ (m : Int) * 101 = (mh : Int) := ⟨m * 101, rfl, by omega⟩
        obtain ⟨m1, hmm1, hmm1'⟩ : ∃ m1 : Nat, m1 = m + 1 ∧ (m : Int) + 1 = (m1 : Int) := ⟨m + 1, rfl, by omega⟩
        have HMN := hide (And.intro hmn (And.intro hmh hmm1))
        have hmnb : mn ≤ 238 := by omega
        have hmhb : mh ≤ 12019 := by omega
        have HF : Hid (Fits (B ^ m) ∧ Fits (B ^ n) ∧ Fits (B ^ mn) ∧ Fits (B ^ m * B ^ n) ∧ Fits (10 ^ m) ∧ Fits (0 ^ m) ∧ Fits (1 ^ mh) ∧ B ^ m * B ^ n = B ^ mn) := by
          have e : B ^ m * B ^ n = B ^ mn := by rw [hmn, Nat.pow_add]
          refine ⟨pow_fits hB (by omega), pow_fits hB (by omega), pow_fits hB (by omega), by rw [e]; exact pow_fits hB (by omega), pow_fits (by omega) (by omega), pow_fits (by omega) (by omega), by rw [Nat.one_pow]; exact fits_of (k := 1) (by omega) (by decide), e⟩
        clear hm hn hmn hmh hmm1 hneg
        have H0 : Hid (Below w.heap.size w wr) := HI
        clear HI
        go_wp2_with fail
        refine (power_num B m _ HBb.out (by omega) HF.out.1).mono ?_
        rintro e w1 ⟨a, rfl, hr, hb⟩
        have H1 : Hid (Num w1 a (B ^ m) ∧ Below w.heap.size w w1) := ⟨hr, H0.out.trans (hb.mono H0.out.size)⟩
        clear H0 hb hr
        have cb1 := HCB.out _ H1.out.2
        go_wp2_with fail
        refine (power_num B n _ HBb.out (by omega) HF.out.2.1).mono ?_
        rintro e w2 ⟨b, rfl, hr, hb⟩
        have H2 : Hid (Num w2 a (B ^ m) ∧ Num w2 b (B ^ n) ∧ Below w.heap.size w w2) := ⟨H1.out.1.below hb, hr, H1.out.2.trans (hb.mono H1.out.2.size)⟩
        clear H1 hb hr
        have cb2 := HCB.out _ H2.out.2.2
        go_wp2_with fail
        refine (power_num B mn _ HBb.out (by omega) HF.out.2.2.1).mono ?_
        rintro e w3 ⟨c, rfl, hr, hb⟩
        have H3 : Hid (Num w3 a (B ^ m) ∧ Num w3 b (B ^ n) ∧ Num w3 c (B ^ mn) ∧ Below w.heap.size w w3) := ⟨H2.out.1.below hb, H2.out.2.1.below hb, hr, H2.out.2.2.trans (hb.mono H2.out.2.2.size)⟩
        clear H2 hb hr
        go_wp2_with fail
        refine (num_below 0 _).mono ?_
        rintro e w4 ⟨rfl, hb⟩
        have H4 : Hid (Num w4 a (B ^ m) ∧ Num w4 b (B ^ n) ∧ Num w4 c (B ^ mn) ∧ Below w.heap.size w w4) := ⟨H3.out.1.below hb, H3.out.2.1.below hb, H3.out.2.2.1.below hb, H3.out.2.2.2.trans (hb.mono H3.out.2.2.2.size)⟩
        clear H3 hb
        go_wp2_with fail
        refine (num_below 0 _).mono ?_
        rintro e w5 ⟨rfl, hb⟩
        have H5 : Hid (Num w5 a (B ^ m) ∧ Num w5 b (B ^ n) ∧ Num w5 c (B ^ mn) ∧ Below w.heap.size w w5) := ⟨H4.out.1.below hb, H4.out.2.1.below hb, H4.out.2.2.1.below hb, H4.out.2.2.2.trans (hb.mono H4.out.2.2.2.size)⟩
        clear H4 hb
        go_wp2_with fail
        refine (num_below 0 _).mono ?_
        rintro e w6 ⟨rfl, hb⟩
        have H6 : Hid (Num w6 a (B ^ m) ∧ Num w6 b (B ^ n) ∧ Num w6 c (B ^ mn) ∧ Below w.heap.size w w6) := ⟨H5.out.1.below hb, H5.out.2.1.below hb, H5.out.2.2.1.below hb, H5.out.2.2.2.trans (hb.mono H5.out.2.2.2.size)⟩
        clear H5 hb
        go_wp2_with fail
        refine (mul_num H6.out.1 H6.out.2.1 HF.out.2.2.2.1).mono ?_
        rintro e w7 ⟨p, rfl, hr, hb⟩
        have H7 : Hid (Num w7 c (B ^ mn) ∧ Num w7 p ((B ^ m) * (B ^ n)) ∧ Below w.heap.size w w7) := ⟨H6.out.2.2.1.below hb, hr, H6.out.2.2.2.trans (hb.mono H6.out.2.2.2.size)⟩
        clear H6 hb hr
        go_wp2_with fail
        refine (eq_true H7.out.2.1 H7.out.1 HF.out.2.2.2.2.2.2.2).mono ?_
        rintro e w8 ⟨rfl, hb⟩
        have H8 : Hid (Below w.heap.size w w8) := H7.out.2.2.trans (hb.mono H7.out.2.2.size)
        clear H7 hb
        go_wp2_with fail
        refine (power_num 10 m _ (by omega) (by omega) HF.out.2.2.2.2.1).mono ?_
        rintro e w9 ⟨ten, rfl, hr, hb⟩
        have H9 : Hid (Num w9 ten (10 ^ m) ∧ Below w.heap.size w w9) := ⟨hr, H8.out.trans (hb.mono H8.out.size)⟩
        clear H8 hb hr
        go_wp2_with fail
        refine (text_num H9.out.1 (dec0_ten m)).mono ?_
        rintro e w10 ⟨rfl, hb⟩
        have H10 : Hid (Below w.heap.size w w10) := H9.out.2.trans (hb.mono H9.out.2.size)
        clear H9 hb
        have hsz : (strOf (txt (m + 1) (10 ^ m))).size = m1 := by rw [strOf_size, txt_length]; exact HMN.out.2.2.symm
        have hget := ten_get m
        generalize strOf (txt (m + 1) (10 ^ m)) = tx at *
        have HG : Hid (∀ (k : Nat) (h : k < tx.size), (tx[k]'h).toNat = if k = 0 then 49 else 48) := hget
        clear hget
        go_wp2_with fail
        refine (num_below 0 _).mono ?_
        rintro e w11 ⟨rfl, hb⟩
        have H11 : Hid (Below w.heap.size w w11) := H10.out.trans (hb.mono H10.out.size)
        clear H10 hb
        have hg0 : (tx[0]'(by rw [hsz, HMN.out.2.2]; omega)).toNat = 49 := HG.out 0 _
        have hm1b : 0 < m1 := by rw [HMN.out.2.2]; omega
        have hm1c : (0 : Int) < (m1 : Int) := by omega
        go_wp2_with fail
        go_loop [16] (fun t16 => ∃ k : Nat, 1 ≤ k ∧ k ≤ m1 ∧ t16 = .int .i64 k) (fun t16 => m1 - (intOf t16).toNat)
        case atStart => exact ⟨1, by omega, by omega, rfl⟩
        case round =>
          obtain ⟨k, hk1, hk2, rfl⟩ := hrel
          by_cases hkm : k < m1
          · have hkm' : (k : Int) < (m1 : Int) := by omega
            have hkk : ¬ ((k : Int) < 0) := by omega
            have hgk : (tx[k]'(by rw [hsz]; exact hkm)).toNat = 48 := by rw [HG.out k _, if_neg (by omega)]
            go_wp2_with fail
            go_round
            case rel => exact ⟨k + 1, by omega, by omega, by go_num⟩
            case measure => simp [intOf]; omega
          · have hkm' : ¬ ((k : Int) < (m1 : Int)) := by omega
            have h12 : (m : Int) * 101 = (mh : Int) := hmh'
            go_wp2_with fail
            refine (power_num 0 m _ (by omega) (by omega) HF.out.2.2.2.2.2.1).mono ?_
            rintro e w12 ⟨z, rfl, hr, hb⟩
            have H12 : Hid (Num w12 z (0 ^ m) ∧ Below w.heap.size w w12) := ⟨hr, H11.out.trans (hb.mono H11.out.size)⟩
            clear H11 hb hr
            go_wp2_with fail
            refine (power_num 1 mh _ (by omega) (by omega) HF.out.2.2.2.2.2.2.1).mono ?_
            rintro e w13 ⟨one, rfl, hr, hb⟩
            have H13 : Hid (Num w13 z (0 ^ m) ∧ Num w13 one (1 ^ mh) ∧ Below w.heap.size w w13) := ⟨H12.out.1.below hb, hr, H12.out.2.trans (hb.mono H12.out.2.size)⟩
            clear H12 hb hr
            go_wp2_with fail
            refine (num_below 0 _).mono ?_
            rintro e w14 ⟨rfl, hb⟩
            have H14 : Hid (Num w14 z (0 ^ m) ∧ Num w14 one (1 ^ mh) ∧ Below w.heap.size w w14) := ⟨H13.out.1.below hb, H13.out.2.1.below hb, H13.out.2.2.trans (hb.mono H13.out.2.2.size)⟩
            clear H13 hb
            go_wp2_with fail
            refine (num_below 0 _).mono ?_
            rintro e w15 ⟨rfl, hb⟩
            have H15 : Hid (Num w15 z (0 ^ m) ∧ Num w15 one (1 ^ mh) ∧ Below w.heap.size w w15) := ⟨H14.out.1.below hb, H14.out.2.1.below hb, H14.out.2.2.trans (hb.mono H14.out.2.2.size)⟩
            clear H14 hb
            go_wp2_with fail
            refine (from_num 1 _ (by omega)).mono ?_
            rintro e w16 ⟨uno, rfl, hr, hb⟩
            have H16 : Hid (Num w16 z (0 ^ m) ∧ Num w16 one (1 ^ mh) ∧ Num w16 uno (1) ∧ Below w.heap.size w w16) := ⟨H15.out.1.below hb, H15.out.2.1.below hb, hr, H15.out.2.2.trans (hb.mono H15.out.2.2.size)⟩
            clear H15 hb hr
            go_wp2_with fail
            refine (eq_true H16.out.2.1 H16.out.2.2.1 (Nat.one_pow _)).mono ?_
            rintro e w17 ⟨rfl, hb⟩
            have H17 : Hid (Num w17 z (0 ^ m) ∧ Below w.heap.size w w17) := ⟨H16.out.1.below hb, H16.out.2.2.2.trans (hb.mono H16.out.2.2.2.size)⟩
            clear H16 hb
            obtain ⟨adz, kz, capz, rfl, hkz, hlz⟩ := num_len H17.out.1
            have HKz := hide hkz
            clear hkz
            by_cases hm0 : m = 0
            · have hmI : (m : Int) = 0 := by omega
              have hkz : kz ≠ 0 := fun h0 => by have := HKz.out.1 h0; rw [hm0] at this; exact absurd this (by decide)
              have hkz1 : ¬ ((kz : Int) = 0) := by omega
              have hmI2 : ¬ ((0 : Int) < (m : Int)) := by omega
              go_wp2_with fail
              go_roundw
              case rel => exact ⟨i + 1, by omega, by omega, by go_num, H17.out.2⟩
              case measure => simp [intOf]; omega
            · have hmI : (0 : Int) < (m : Int) := by omega
              have hkz : kz = 0 := HKz.out.2 (Nat.zero_pow (by omega))
              have hkz1 : (kz : Int) = 0 := by omega
              have hmN : (!decide (0 < m)) = false := by simp; omega
              go_wp2_with fail
              go_roundw
              case rel => exact ⟨i + 1, by omega, by omega, by go_num, H17.out.2⟩
              case measure => simp [intOf]; omega
    · by_cases hl : i < len0
      · have g1 : (i : Int) < (len0 : Int) := by omega
        have g2 : ¬ (i : Int) < 20 := by omega
        have H0 : Hid (Below w.heap.size w wr) := HI
        go_wp2_with fail
        refine (wakes_any _).mono ?_
        rintro e w1 ⟨rfl, hb⟩
        have H1 : Hid (Below w.heap.size w w1) := H0.out.trans (hb.mono H0.out.size)
        clear H0 hb
        go_wp2_with fail
        go_ret
        exact ⟨rfl, H1.out⟩
      · have g1 : ¬ (i : Int) < (len0 : Int) := by omega
        have H0 : Hid (Below w.heap.size w wr) := HI
        go_wp2_with fail
        refine (wakes_any _).mono ?_
        rintro e w1 ⟨rfl, hb⟩
        have H1 : Hid (Below w.heap.size w w1) := H0.out.trans (hb.mono H0.out.size)
        clear H0 hb
        go_wp2_with fail
        go_ret
        exact ⟨rfl, H1.out⟩

end Go.Proofs.Ytfbkdjghbgdgpab

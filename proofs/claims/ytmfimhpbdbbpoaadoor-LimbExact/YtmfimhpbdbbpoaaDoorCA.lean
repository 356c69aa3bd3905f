/- The document's Up. -/
import Derived.Test.YtmfimhpbdbbpoaaDoorBY
/- The document's Less and Down. -/
namespace Go.Proofs.YtmfimhpbdbbpoaaDoor
open Go.RowKit
open M
set_option linter.unusedVariables false
set_option linter.unusedSimpArgs false

theorem less_round {A C k i x y b : Nat} (hx : x ≤ 4294967295) (hy : y ≤ 4294967295) (hb : b ≤ 1)
    (hs : (b + y ≤ x → dg (subN A C k) i = x - y - b ∧ brw A C (i + 1) = 0) ∧ (x < b + y → dg (subN A C k) i = x + 4294967296 - y - b ∧ brw A C (i + 1) = 1)) :
    dg (subN A C k) i = (4294967296 + x - y - b) % 4294967296 ∧ (brw A C (i + 1) : Int) = 1 - (((4294967296 + x - y - b) / 4294967296 : Nat) : Int) := by
  rcases Nat.lt_or_ge x (b + y) with h | h
  · have := hs.2 h; omega
  · have := hs.1 h; omega

set_option maxRecDepth 100000 in
set_option maxHeartbeats 2000000 in
theorem rless_any {S S' : Nat → Prop} (v u : Value) (k A m C : Nat) (w : World) (h : RowX S w v k A) (h' : RowX S' w u m C) (hkb : k ≤ 100000) (hle : C ≤ A) :
    Calls Tryd.prog 72 #[v, u] w fun e w' => ∃ r, e = .returned r ∧ ∃ n, Own w' w.heap.size r n (A - C) ∧ Nrm n (A - C) ∧ n ≤ k ∧ Below w.heap.size w w' := by
  obtain ⟨i5, hi5⟩ := info32
  have Hi := hide hi5
  clear hi5
  have HR := hide (And.intro h.row h'.row)
  have HL : Hid (A < 4294967296 ^ k ∧ subN A C k = A - C) := ⟨h.1, subN_ge hle h.1⟩
  obtain ⟨_, _, ad, cap, rfl, _, _⟩ := h
  obtain ⟨_, _, ad', cap', rfl, _, _⟩ := h'
  go_enter Tryd.func72, Tryd.ntmps72
  go_wp2_with fail
  go_loopw [5, 6, 7] (fun t5 t6 t7 wr => ∃ i : Nat, i ≤ k ∧ t6 = .int .u64 (brw A C i : Nat) ∧ t7 = .int .i64 i ∧ Hid (NatSt w (A - C) i t5 wr)) (fun _ _ t7 _ => k - (intOf t7).toNat)
  case atStart => exact ⟨0, by omega, by rw [brw_zero]; rfl, rfl, (Own.nil w w.heap.size).2.2, Below.refl _ _⟩
  case round =>
    obtain ⟨i, hi, rfl, rfl, HS⟩ := hrel
    by_cases hlt : i < k
    · have hlt' : (i : Int) < (k : Int) := by omega
      have HA : Hid (Calls Tryd.prog 86 #[.slice ad k cap, .int .i64 i] wr fun e w' => e = .returned (.int .u64 (dg A i : Nat)) ∧ w' = wr) := rat_any _ k A i _ (HR.out.1.below HS.out.2) (by omega)
      have HC : Hid (Calls Tryd.prog 86 #[.slice ad' m cap', .int .i64 i] wr fun e w' => e = .returned (.int .u64 (dg C i : Nat)) ∧ w' = wr) := rat_any _ m C i _ (HR.out.2.below HS.out.2) (by omega)
      have hxl := dg_le A i
      have hyl := dg_le C i
      have hbl := brw_le A C i
      have Hd := hide (less_round hxl hyl hbl (sub_step A C k i hlt _ _ _ rfl rfl rfl))
      rw [HL.out.2] at Hd
      have Hnext := hide (fun (w4 : World) (g4 cap4 : Nat) => NatSt.next (w4 := w4) (g := g4) (cap := cap4) HS.out)
      rw [Hd.out.1] at Hnext
      have HO := hide HS.out
      generalize dg A i = x at *
      generalize dg C i = y at *
      generalize brw A C i = b at *
      obtain ⟨z, hz, hz1⟩ : ∃ z : Nat, 4294967296 + x - y - b = z ∧ (4294967296 : Int) + (x : Int) - (y : Int) - (b : Int) = (z : Int) := ⟨_, rfl, by omega⟩
      have hzl : z < 18446744073709551616 := by omega
      have hz2 : (0 : Int) ≤ 4294967296 + (x : Int) - (y : Int) := by omega
      rw [hz] at Hnext Hd
      obtain ⟨d, hd, hd1⟩ : ∃ d : Nat, z % 4294967296 = d ∧ (z : Int) % 4294967296 = (d : Int) := ⟨_, rfl, by omega⟩
      obtain ⟨q, hq, hq1⟩ : ∃ q : Nat, z / 4294967296 = q ∧ (z : Int) / 4294967296 = (q : Int) := ⟨_, rfl, by omega⟩
      have hdl : d < 4294967296 := by omega
      have hql : q ≤ 1 := by omega
      rw [hd] at Hnext Hd
      rw [hq] at Hd
      clear hz hd hq HS
      go_wp2_with fail
      refine HA.out.mono ?_
      rintro e w1 ⟨rfl, rfl⟩
      go_wp2_with fail
      refine HC.out.mono ?_
      rintro e w1 ⟨rfl, rfl⟩
      clear HA HC
      go_wp2_with (at_builtin; refine wpList_append_lies _ rfl _ _ _ rfl w.heap.size 24 i5 (.int .u32 0) 1 4 Tryd.underlying23 Hi.out.1 Hi.out.2.1 Hi.out.2.2.1 Hi.out.2.2.2 rfl (by decide) _ i (limbsV i (A - C)) rfl (HO.out.1.alloc _) ⟨w1.heap.size, 0, none⟩ 1 1 [.int .u32 (d : Nat)] rfl rfl (fun j u hj => cell_new1 w1 _ 24 j u hj) (fun u hu => by simp at hu; subst hu; rfl) (by decide) (by unfold maxLen; omega) (by omega) (by have := HO.out.2.size; simp; omega) _ rfl ?d6)
      case d6 =>
        intro g4 cap4 w4 ho4 hg4 _ _
        have H4 := hide (Hnext.out w4 g4 cap4 ho4 hg4)
        clear ho4 hg4 Hnext
        go_wp2_with fail
        go_roundw
        case rel => exact ⟨i + 1, by omega, by rw [Hd.out.2], by go_num, H4⟩
        case measure => simp [intOf]; omega
    · obtain rfl : i = k := by omega
      have HE : Hid (Own wr w.heap.size u5 i (A - C) ∧ Below w.heap.size w wr) := ⟨HS.out.own (Nat.lt_of_le_of_lt (Nat.sub_le _ _) HL.out.1) (by omega), HS.out.2⟩
      clear HS
      generalize brw A C i = b at *
      go_wp2_with fail
      refine (rtrim_any _ i (A - C) wr HE.out.1.row (by omega)).mono ?_
      rintro e w3 ⟨r, rfl, n, ho, hn, hnk, hb⟩
      have HF : Hid (Own w3 w.heap.size r n (A - C) ∧ Nrm n (A - C) ∧ n ≤ i ∧ Below w.heap.size w w3) := ⟨ho.mono HE.out.2.size, hn, hnk, HE.out.2.trans (hb.mono HE.out.2.size)⟩
      clear ho hn hb
      go_wp2_with fail
      go_ret
      exact ⟨r, rfl, n, HF.out⟩

set_option maxRecDepth 100000 in
set_option maxHeartbeats 2000000 in
theorem rdown_any {S : Nat → Prop} (v : Value) (k A n : Nat) (w : World) (h : RowX S w v k A) (hkb : k ≤ 100000) (hnb : n < 9223372036854775808) :
    Calls Tryd.prog 77 #[v, .int .i64 n] w fun e w' => ∃ r, e = .returned r ∧ ∃ m, Own w' w.heap.size r m (A / 2 ^ n) ∧ Nrm m (A / 2 ^ n) ∧ m ≤ k ∧ Below w.heap.size w w' := by
  obtain ⟨i5, hi5⟩ := info32
  have Hi := hide hi5
  clear hi5
  have HR := hide h.row
  have hA := h.1
  obtain ⟨_, _, ad, cap, rfl, _, _⟩ := h
  obtain ⟨q, hq, hq1, hq2⟩ : ∃ q : Nat, n / 32 = q ∧ (n : Int) / 32 = (q : Int) ∧ (n : Int).tdiv 32 = (q : Int) := ⟨n / 32, rfl, by omega, rfl⟩
  obtain ⟨r, hr, hr1, hr2⟩ : ∃ r : Nat, n % 32 = r ∧ (n : Int) % 32 = (r : Int) ∧ (n : Int).tmod 32 = (r : Int) := ⟨n % 32, rfl, by omega, rfl⟩
  have hrl : r < 32 := by omega
  have HD : Hid (A / 4294967296 ^ q / 2 ^ r = A / 2 ^ n) := by show _ = _; rw [← hq, ← hr]; exact shift_split A n
  by_cases hqk : k ≤ q
  · have hqk' : (k : Int) ≤ (q : Int) := by omega
    have H0 : Hid (A / 2 ^ n = 0) := by
      show _ = _
      rw [← HD.out, Nat.div_eq_of_lt (Nat.lt_of_lt_of_le hA (Nat.pow_le_pow_right (by omega) hqk)), Nat.zero_div]
    clear hq hr
    go_enter Tryd.func77, Tryd.ntmps77
    go_wp2_with fail
    go_ret
    exact ⟨_, rfl, 0, by rw [H0.out]; exact Own.nil _ _, by rw [H0.out]; exact nrm_zero, by omega, Below.refl _ _⟩
  · have hqk' : ¬ (k : Int) ≤ (q : Int) := by omega
    obtain ⟨M, hM⟩ : ∃ M, A / 4294967296 ^ q = M := ⟨_, rfl⟩
    have HM : Hid (M / 2 ^ r < 4294967296 ^ (k - q) ∧ M / 2 ^ r = A / 2 ^ n ∧ ∀ j, dg A (q + j) = dg M j) := by
      refine ⟨?_, by rw [← hM]; exact HD.out, fun j => by rw [← hM]; exact dg_shift A q j⟩
      exact Nat.lt_of_le_of_lt (Nat.div_le_self _ _) (by rw [← hM]; exact div_lt_pow (by rw [show q + (k - q) = k by omega]; exact hA))
    have h2p := Nat.two_pow_pos r
    have h2l : 2 ^ r < 4294967296 := Nat.lt_of_lt_of_le ((Nat.pow_lt_pow_iff_right (by omega : 1 < 2)).2 hrl) (by decide)
    obtain ⟨P, hP, hP1⟩ : ∃ P : Nat, 2 ^ r = P ∧ (2 : Int) ^ r = (P : Int) := ⟨2 ^ r, rfl, by simp⟩
    have HDn : Hid (∀ j, (dg M (j + 1) * 4294967296 + dg M j) / P % 4294967296 = dg (M / P) j) := fun j => by rw [← hP]; exact dg_down M j r hrl
    rw [hP] at HM h2p h2l
    have hP2 : (P : Int) % 18446744073709551616 = (P : Int) := by omega
    have hP3 : ¬ (P : Int) = 0 := by omega
    clear hq hr hM hP HD
    go_enter Tryd.func77, Tryd.ntmps77
    go_wp2_with fail
    go_loopw [5, 6] (fun t5 t6 wr => ∃ j : Nat, q + j ≤ k ∧ t6 = .int .i64 ((q + j : Nat) : Int) ∧ Hid (NatSt w (M / P) j t5 wr)) (fun _ t6 _ => k - (intOf t6).toNat)
    case atStart => exact ⟨0, by omega, by go_num, (Own.nil w w.heap.size).2.2, Below.refl _ _⟩
    case round =>
      obtain ⟨j, hj, rfl, HS⟩ := hrel
      by_cases hlt : q + j < k
      · obtain ⟨i, hi⟩ : ∃ i, q + j = i := ⟨_, rfl⟩
        have hi1 : ((i : Int) + 1) = ((i + 1 : Nat) : Int) := by omega
        have hlt' : (i : Int) < (k : Int) := by omega
        have HA : Hid (Calls Tryd.prog 86 #[.slice ad k cap, .int .i64 i] wr fun e w' => e = .returned (.int .u64 (dg M j : Nat)) ∧ w' = wr) := by rw [← HM.out.2.2 j, hi]; exact rat_any _ k A i _ (HR.out.below HS.out.2) (by omega)
        have HA1 : Hid (Calls Tryd.prog 86 #[.slice ad k cap, .int .i64 (i + 1)] wr fun e w' => e = .returned (.int .u64 (dg M (j + 1) : Nat)) ∧ w' = wr) := by rw [← HM.out.2.2 (j + 1), ← Nat.add_assoc, hi, hi1]; exact rat_any _ k A (i + 1) _ (HR.out.below HS.out.2) (by omega)
        have hxl := dg_lt M j
        have hyl := dg_lt M (j + 1)
        have Hnext := hide (fun (w4 : World) (g4 cap4 : Nat) => NatSt.next (w4 := w4) (g := g4) (cap := cap4) HS.out)
        rw [← HDn.out j] at Hnext
        have HO := hide HS.out
        rw [hi]
        generalize dg M j = x at *
        generalize dg M (j + 1) = y at *
        obtain ⟨z, hz, hz1⟩ : ∃ z : Nat, y * 4294967296 + x = z ∧ (y : Int) * 4294967296 + (x : Int) = (z : Int) := ⟨_, rfl, by omega⟩
        have hzl : z < 18446744073709551616 := by omega
        have hyz : (y : Int) * 4294967296 < 18446744073709551616 := by omega
        rw [hz] at Hnext
        obtain ⟨s, hs, hs1, hs2⟩ : ∃ s : Nat, z / P = s ∧ (z : Int) / (P : Int) = (s : Int) ∧ (z : Int).tdiv (P : Int) = (s : Int) := ⟨z / P, rfl, by simp, by rw [Int.tdiv_eq_ediv_of_nonneg (by omega)]; simp⟩
        have hsl : s < 18446744073709551616 := by rw [← hs]; exact Nat.lt_of_le_of_lt (Nat.div_le_self _ _) hzl
        rw [hs] at Hnext
        obtain ⟨d, hd, hd1⟩ : ∃ d : Nat, s % 4294967296 = d ∧ (s : Int) % 4294967296 = (d : Int) := ⟨_, rfl, by omega⟩
        have hdl : d < 4294967296 := by omega
        rw [hd] at Hnext
        clear hz hs hd HS hi1
        go_wp2_with fail
        refine HA1.out.mono ?_
        rintro e w1 ⟨rfl, rfl⟩
        go_wp2_with fail
        refine HA.out.mono ?_
        rintro e w1 ⟨rfl, rfl⟩
        clear HA HA1
        go_wp2_with (at_builtin; refine wpList_append_lies _ rfl _ _ _ rfl w.heap.size 24 i5 (.int .u32 0) 1 4 Tryd.underlying23 Hi.out.1 Hi.out.2.1 Hi.out.2.2.1 Hi.out.2.2.2 rfl (by decide) _ j (limbsV j (M / P)) rfl (HO.out.1.alloc _) ⟨w1.heap.size, 0, none⟩ 1 1 [.int .u32 (d : Nat)] rfl rfl (fun j u hj => cell_new1 w1 _ 24 j u hj) (fun u hu => by simp at hu; subst hu; rfl) (by decide) (by unfold maxLen; omega) (by omega) (by have := HO.out.2.size; simp; omega) _ rfl ?d6)
        case d6 =>
          intro g4 cap4 w4 ho4 hg4 _ _
          have H4 := hide (Hnext.out w4 g4 cap4 ho4 hg4)
          clear ho4 hg4 Hnext
          go_wp2_with fail
          go_roundw
          case rel => exact ⟨j + 1, by omega, by go_num, H4⟩
          case measure => simp [intOf]; omega
      · obtain ⟨i, hi⟩ : ∃ i, q + j = i := ⟨_, rfl⟩
        have hlt' : ¬ (i : Int) < (k : Int) := by omega
        have HE : Hid (Own wr w.heap.size u5 j (A / 2 ^ n) ∧ Below w.heap.size w wr) := by
          have := HS.out.own (by rw [show j = k - q by omega]; exact HM.out.1) (by omega)
          rw [HM.out.2.1] at this
          exact ⟨this, HS.out.2⟩
        rw [hi]
        clear HS
        go_wp2_with fail
        refine (rtrim_any _ j (A / 2 ^ n) wr HE.out.1.row (by omega)).mono ?_
        rintro e w3 ⟨r, rfl, n, ho, hn, hnk, hb⟩
        have HF : Hid (Own w3 w.heap.size r n _ ∧ Nrm n _ ∧ n ≤ k ∧ Below w.heap.size w w3) := ⟨ho.mono HE.out.2.size, hn, by omega, HE.out.2.trans (hb.mono HE.out.2.size)⟩
        clear ho hn hb
        go_wp2_with fail
        go_ret
        exact ⟨r, rfl, n, HF.out⟩

end Go.Proofs.YtmfimhpbdbbpoaaDoor

namespace Go.Proofs.YtmfimhpbdbbpoaaDoor
open Go.RowKit
open M
set_option linter.unusedVariables false
set_option linter.unusedSimpArgs false

theorem up_round (A r i : Nat) (hr : r < 32) :
    shC A r i + dg A i * 2 ^ r % 4294967296 = dg (A * 2 ^ r) i ∧ shC A r i + dg A i * 2 ^ r % 4294967296 < 4294967296 ∧ dg A i * 2 ^ r / 4294967296 = shC A r (i + 1) ∧ dg A i * 2 ^ r / 4294967296 < 4294967296 ∧ dg A i * 2 ^ r < 18446744073709551616 := by
  obtain ⟨h1, h2⟩ := sh_step A r i
  have hc := shC_lt A r i
  have hx := dg_lt A i
  have hp := Nat.two_pow_pos r
  obtain ⟨d, hd⟩ : ∃ d, 32 = r + (d + 1) := ⟨31 - r, by omega⟩
  have hB : (4294967296 : Nat) = 2 ^ r * (2 ^ d * 2) := by rw [← Nat.pow_succ, ← Nat.pow_add, ← hd]
  have hl : 2 ^ r ≤ 2147483648 := Nat.le_trans (Nat.pow_le_pow_right (by omega) (by omega : r ≤ 31)) (by decide)
  have hm : dg A i * 2 ^ r % 4294967296 + 2 ^ r ≤ 4294967296 := by
    have e : dg A i * 2 ^ r % 4294967296 = 2 ^ r * (dg A i % (2 ^ d * 2)) := by
      rw [hB, Nat.mul_comm (dg A i), Nat.mul_mod_mul_left]
    have h3 : dg A i % (2 ^ d * 2) + 1 ≤ 2 ^ d * 2 := Nat.mod_lt _ (by have := Nat.two_pow_pos d; omega)
    have h4 : 2 ^ r * (dg A i % (2 ^ d * 2) + 1) ≤ 2 ^ r * (2 ^ d * 2) := Nat.mul_le_mul_left _ h3
    rw [Nat.mul_add, Nat.mul_one, ← hB] at h4
    rw [e]; exact h4
  have hy : dg A i * 2 ^ r ≤ 4294967295 * 2147483648 := Nat.mul_le_mul (by omega) hl
  generalize dg A i * 2 ^ r = y at *
  generalize shC A r i = c at *
  generalize shC A r (i + 1) = c' at *
  generalize dg (A * 2 ^ r) i = e at *
  generalize 2 ^ r = P at *
  clear hB
  omega

/-- What lies in Up's limbs behind i of them. -/
def upF (A r q i j : Nat) : Nat := if j < q then 0 else if j < q + i then dg (A * 2 ^ r) (j - q) else if j = q + i then shC A r i else 0

theorem upF_next (A r q i j : Nat) : upF A r q (i + 1) j = if j = q + i then dg (A * 2 ^ r) i else if j = q + i + 1 then shC A r (i + 1) else upF A r q i j := by
  unfold upF
  by_cases h1 : j = q + i
  · subst h1
    rw [if_neg (by omega), if_pos (by omega), if_pos rfl, Nat.add_sub_cancel_left]
  · by_cases h2 : j = q + i + 1
    · subst h2
      rw [if_neg (by omega), if_neg (by omega), if_pos (by omega), if_neg (by omega), if_pos rfl]
    · rw [if_neg h1, if_neg h2]
      by_cases h3 : j < q
      · rw [if_pos h3, if_pos h3]
      · by_cases h4 : j < q + i
        · rw [if_neg h3, if_pos (by omega), if_neg h3, if_pos h4]
        · rw [if_neg h3, if_neg (by omega), if_neg (by omega), if_neg h3, if_neg h4, if_neg h1]

theorem upF_end {A r q k j : Nat} (hA : A < 4294967296 ^ k) (hr : r < 32) (hj : j < q + k + 1) : upF A r q k j = dg (A * 2 ^ r * 4294967296 ^ q) j := by
  unfold upF
  have e0 : A * 2 ^ r * 4294967296 ^ q = 0 + 4294967296 ^ q * (A * 2 ^ r) := by rw [Nat.zero_add, Nat.mul_comm]
  by_cases h3 : j < q
  · rw [if_pos h3, e0, dg_low h3, dg_zero]
  · have e : dg (A * 2 ^ r * 4294967296 ^ q) j = dg (A * 2 ^ r) (j - q) := by
      obtain ⟨t, rfl⟩ : ∃ t, j = q + t := ⟨j - q, by omega⟩
      rw [dg_shift, Nat.mul_div_cancel _ (pw_pos q), Nat.add_sub_cancel_left]
    rw [if_neg h3, e]
    by_cases h4 : j < q + k
    · rw [if_pos h4]
    · obtain rfl : j = q + k := by omega
      rw [if_neg h4, if_pos rfl, Nat.add_sub_cancel_left]
      have hl := up_lt hA hr
      unfold shC dg
      rw [mod_self hA, Nat.mod_eq_of_lt]
      exact (Nat.div_lt_iff_lt_mul (pw_pos k)).2 (by rw [pw_succ, Nat.mul_comm (4294967296 ^ k)] at hl; exact hl)

/-- Behind i limbs of Up. -/
def UpSt (w : World) (g A r q k i : Nat) (wr : World) : Prop :=
  (∀ j, j < q + k + 1 → wr.cell? ⟨g, j, none⟩ = some (.int .u32 (upF A r q i j : Nat))) ∧ (∀ j, j < q + k + 1 → wr.frozen? ⟨g, j, none⟩ = false) ∧ Below w.heap.size w wr

theorem UpSt.next {w wr : World} {g A r q k i : Nat} (h : UpSt w g A r q k i wr) (hg : w.heap.size ≤ g) (hi : i < k) (x y : Int) (hx : x = (dg (A * 2 ^ r) i : Nat)) (hy : y = (shC A r (i + 1) : Nat)) :
    UpSt w g A r q k (i + 1) ((wr.setCell ⟨g, q + i, none⟩ (.int .u32 x)).setCell ⟨g, q + i + 1, none⟩ (.int .u32 y)) := by
  obtain ⟨h1, h2, h3⟩ := h
  refine ⟨fun j hj => ?_, fun j hj => by rw [frozen_setCell, frozen_setCell]; exact h2 j hj, (h3.setCell hg _).setCell hg _⟩
  rw [upF_next]
  by_cases e1 : j = q + i
  · subst e1
    rw [if_pos rfl, cell_setCell_ne _ _ _ _ _ (by omega), ← hx]
    exact cell_setCell_eq _ _ _ _ _ (h1 _ hj)
  · rw [if_neg e1]
    by_cases e2 : j = q + i + 1
    · subst e2
      rw [if_pos rfl, ← hy]
      exact cell_setCell_eq _ _ _ _ _ ((cell_setCell_ne _ _ _ _ _ (by omega)).trans (h1 _ hj))
    · rw [if_neg e2, cell_setCell_ne _ _ _ _ _ e2, cell_setCell_ne _ _ _ _ _ e1]
      exact h1 j hj

set_option maxRecDepth 100000 in
set_option maxHeartbeats 2000000 in
theorem rup_any {S : Nat → Prop} (v : Value) (k A n : Nat) (w : World) (h : RowX S w v k A) (hkb : k ≤ 100000) (hnb : n ≤ 1000000) :
    Calls Tryd.prog 75 #[v, .int .i64 n] w fun e w' => ∃ r, e = .returned r ∧ ∃ m, Own w' w.heap.size r m (A * 2 ^ n) ∧ Nrm m (A * 2 ^ n) ∧ m ≤ n / 32 + k + 1 ∧ Below w.heap.size w w' := by
  obtain ⟨i5, hi5⟩ := info32
  have Hi := hide hi5
  clear hi5
  have HR := hide (Row.old h.row)
  have HA := hide h.1
  obtain ⟨_, _, ad, cap, rfl, _, _⟩ := h
  obtain ⟨q, hq, hq1, hq2⟩ : ∃ q : Nat, n / 32 = q ∧ (n : Int) / 32 = (q : Int) ∧ (n : Int).tdiv 32 = (q : Int) := ⟨n / 32, rfl, by omega, rfl⟩
  obtain ⟨r, hr, hr1, hr2⟩ : ∃ r : Nat, n % 32 = r ∧ (n : Int) % 32 = (r : Int) ∧ (n : Int).tmod 32 = (r : Int) := ⟨n % 32, rfl, by omega, rfl⟩
  have hrl : r < 32 := by omega
  have HU : Hid (A * 2 ^ r * 4294967296 ^ q = A * 2 ^ n ∧ n / 32 = q) := by refine ⟨?_, hq⟩; rw [← hq, ← hr]; exact up_split A n
  by_cases hk0 : k = 0
  · subst hk0
    have H0 : Hid (A * 2 ^ n = 0) := by
      show _ = _
      have := HA.out
      rw [Nat.pow_zero] at this
      rw [show A = 0 by omega, Nat.zero_mul]
    clear hq hr
    go_enter Tryd.func75, Tryd.ntmps75
    go_wp2_with fail
    go_ret
    exact ⟨_, rfl, 0, by rw [H0.out]; exact Own.nil _ _, by rw [H0.out]; exact nrm_zero, by omega, Below.refl _ _⟩
  · have hk1 : ((k : Int) == 0) = false := by simp; omega
    obtain ⟨K, hK, hK1⟩ : ∃ K : Nat, q + k + 1 = K ∧ (q : Int) + (k : Int) + 1 = (K : Int) := ⟨_, rfl, by omega⟩
    have hKb : K ≤ 200000 := by omega
    have h2l : 2 ^ r < 4294967296 := Nat.lt_of_lt_of_le ((Nat.pow_lt_pow_iff_right (by omega : 1 < 2)).2 hrl) (by decide)
    have HUR : Hid (∀ i, _) := fun i => up_round A r i hrl
    obtain ⟨P, hP, hP1⟩ : ∃ P : Nat, 2 ^ r = P ∧ (2 : Int) ^ r = (P : Int) := ⟨2 ^ r, rfl, by simp⟩
    rw [hP] at h2l
    have HPr := hide hP
    have hP2 : (P : Int) % 18446744073709551616 = (P : Int) := by omega
    have HS0 : Hid (UpSt w w.heap.size A r q k 0 (w.alloc (.cells (madeCells #[Value.int .u32 0] K) 24))) := by
      have hw := wk_of_block (w := w.alloc (.cells (madeCells #[Value.int .u32 0] K) 24)) (g := w.heap.size) (k := K) (N := 0) (pw_pos _) (make_block w K)
      refine ⟨fun j hj => ?_, fun j hj => ?_, (Below.refl _ _).alloc (Nat.le_refl _) _⟩
      · have := hw.cell j (by omega)
        rw [Nat.zero_add, dg_zero] at this
        rw [this]
        unfold upF
        rw [shC_zero]
        split <;> (try rfl) <;> split <;> (try omega) <;> (try rfl) <;> split <;> rfl
      · have := hw.free j (by omega)
        rwa [Nat.zero_add] at this
    clear hq hr hP
    go_enter Tryd.func75, Tryd.ntmps75
    go_wp2_with (at_make; refine wpList_make_row _ rfl _ _ _ rfl 24 i5 (.int .u32 0) Tryd.underlying23 Hi.out.1 Hi.out.2.1 Hi.out.2.2.1 rfl .i64 .i64 K rfl rfl (by rw [Hi.out.2.2.2]; omega) (by omega) ?_)
    generalize w.alloc (.cells (madeCells #[Value.int .u32 0] K) 24) = wa at *
    go_loopw [6] (fun t6 wr => ∃ i : Nat, i ≤ k ∧ t6 = .int .i64 i ∧ Hid (UpSt w w.heap.size A r q k i wr)) (fun t6 _ => k - (intOf t6).toNat)
    case atStart => exact ⟨0, by omega, rfl, HS0⟩
    case round =>
      obtain ⟨i, hi, rfl, HS⟩ := hrel
      by_cases hlt : i < k
      · have hlt' : (i : Int) < (k : Int) := by omega
        obtain ⟨_, _, ad2, cap2, hv2, _, hcell2⟩ := HR.out.belowB HS.out.2.2
        obtain ⟨g2, o2, ha2, _, hj2⟩ := hcell2 (by omega)
        simp only [Value.slice.injEq] at hv2
        rw [← hv2.1] at ha2
        subst ha2
        have hx := hj2 i hlt
        obtain ⟨p, hp, hp1, hp2⟩ : ∃ p : Nat, q + i = p ∧ (q : Int) + (i : Int) = (p : Int) ∧ (p : Int) + 1 = ((p + 1 : Nat) : Int) := ⟨_, rfl, by omega, by omega⟩
        have hc0 := HS.out.1 (q + i) (by omega)
        have hc1 := HS.out.1 (q + i + 1) (by omega)
        have hf0 := HS.out.2.1 (q + i) (by omega)
        have hf1 := HS.out.2.1 (q + i + 1) (by omega)
        have e0 : upF A r q i (q + i) = shC A r i := by unfold upF; rw [if_neg (by omega), if_neg (by omega), if_pos rfl]
        rw [e0] at hc0
        have Hr := hide (HUR.out i)
        rw [HPr.out] at Hr
        have Hnx := hide (fun x y => HS.out.next (Nat.le_refl _) hlt x y)
        rw [HPr.out] at Hnx
        rw [hp] at hc0 hc1 hf0 hf1 Hnx
        have hpK : (p : Int) < (K : Int) := by omega
        have hpK1 : (p : Int) + 1 < (K : Int) := by omega
        clear hj2 hcell2 hv2 e0 hp hp2
        generalize upF A r q i (p + 1) = z at *
        generalize shC A r i = c at *
        have hxl := dg_lt A i
        generalize dg A i = x at *
        obtain ⟨y, hy, hy1⟩ : ∃ y : Nat, x * P = y ∧ (x : Int) * (P : Int) = (y : Int) := ⟨_, rfl, by rw [Int.natCast_mul]⟩
        rw [hy] at Hr
        have hyl := Hr.out.2.2.2.2
        obtain ⟨a, ha, ha1⟩ : ∃ a : Nat, y % 4294967296 = a ∧ (y : Int) % 4294967296 = (a : Int) := ⟨_, rfl, by omega⟩
        obtain ⟨b, hb, hb1⟩ : ∃ b : Nat, y / 4294967296 = b ∧ (y : Int) / 4294967296 = (b : Int) := ⟨_, rfl, by omega⟩
        rw [ha, hb] at Hr
        have hal : a < 4294967296 := by omega
        have hbl := Hr.out.2.2.2.1
        have hcal : (c : Int) + (a : Int) < 4294967296 := by have := Hr.out.2.1; omega
        clear hy ha hb
        go_wp2_with fail
        go_roundw
        case rel => exact ⟨i + 1, by omega, by go_num, Hnx.out _ _ (by rw [← Hr.out.1]; omega) (by rw [← Hr.out.2.2.1])⟩
        case measure => simp [intOf]; omega
      · obtain rfl : i = k := by omega
        have HE : Hid (Row wr (.slice (some ⟨w.heap.size, 0, none⟩) K K) K (A * 2 ^ n) ∧ Below w.heap.size w wr) := by
          refine ⟨⟨?_, by omega, _, K, rfl, Nat.le_refl _, fun _ => ⟨w.heap.size, 0, rfl, trivial, fun j hj => ?_⟩⟩, HS.out.2.2⟩
          · rw [← HU.out.1, ← hK, show q + i + 1 = (i + 1) + q by omega, Nat.pow_add]
            exact Nat.mul_lt_mul_of_pos_right (up_lt HA.out hrl) (pw_pos q)
          · rw [Nat.zero_add, HS.out.1 j (by omega), upF_end HA.out hrl (by omega), HU.out.1]
        clear HS
        go_wp2_with fail
        refine (rtrim_any _ K (A * 2 ^ n) wr HE.out.1 (by omega)).mono ?_
        rintro e w3 ⟨r, rfl, n, ho, hn, hnk, hb⟩
        have HF : Hid (Own w3 w.heap.size r n _ ∧ Nrm n _ ∧ n ≤ q + i + 1 ∧ Below w.heap.size w w3) := ⟨ho.mono HE.out.2.size, hn, by omega, HE.out.2.trans (hb.mono HE.out.2.size)⟩
        clear ho hn hb
        go_wp2_with fail
        go_ret
        exact ⟨r, rfl, n, HF.out.1, HF.out.2.1, by rw [HU.out.2]; exact HF.out.2.2.1, HF.out.2.2.2⟩

end Go.Proofs.YtmfimhpbdbbpoaaDoor

/- The document's whole numbers: Up2. -/
import Derived.Test.YtmkploknoohliaaGreatNB
import Derived.Deep.AppendLies
namespace Go.Proofs.YtmkploknoohliaaGreat
open Go.RowKit
open M
set_option linter.unusedVariables false
set_option linter.unusedSimpArgs false

theorem up_split (N n : Nat) : N * 2 ^ (n % 32) * 4294967296 ^ (n / 32) = N * 2 ^ n := by
  rw [show (4294967296 : Nat) = 2 ^ 32 from by decide, ← Nat.pow_mul, Nat.mul_assoc, ← Nat.pow_add, show n % 32 + 32 * (n / 32) = n from by omega]

theorem up_lt {N k r : Nat} (h : N < 4294967296 ^ k) (hr : r < 32) : N * 2 ^ r < 4294967296 ^ (k + 1) := by
  rw [pw_succ]
  have h2 : (2 : Nat) ^ r ≤ 2 ^ 32 := Nat.pow_le_pow_right (by omega) (by omega)
  have h3 : N * 2 ^ r ≤ N * 2 ^ 32 := Nat.mul_le_mul_left _ h2
  have h4 : N * 2 ^ 32 < 4294967296 ^ k * 2 ^ 32 := Nat.mul_lt_mul_of_pos_right h (by decide)
  omega

theorem dg_up (A n q r i : Nat) (h : A * 2 ^ r * 4294967296 ^ q = A * 2 ^ n) : dg (A * 2 ^ n) (q + i) = dg (A * 2 ^ r) i := by
  rw [← h, dg_shift, Nat.mul_div_cancel _ (pw_pos q)]
theorem low_up (A n q r : Nat) (h : A * 2 ^ r * 4294967296 ^ q = A * 2 ^ n) : limbsV q 0 = limbsV q (A * 2 ^ n) := by
  unfold limbsV
  apply List.map_congr_left
  intro j hj
  have e0 : A * 2 ^ n = 0 + 4294967296 ^ q * (A * 2 ^ r) := by rw [Nat.zero_add, Nat.mul_comm (4294967296 ^ q), h]
  rw [e0, dg_low (List.mem_range.1 hj)]
theorem or_carry (c x r : Nat) (hc : c < 2 ^ r) (hx : x < 4294967296) (hr : r < 32) : bits BinOp.or IntKind.u64 (c : Int) ((x * 2 ^ r : Nat) : Int) = ((c + x * 2 ^ r : Nat) : Int) ∧ c + x * 2 ^ r < 18446744073709551616 := by
  have hl : 2 ^ r ≤ 2147483648 := Nat.le_trans (Nat.pow_le_pow_right (by omega) (by omega : r ≤ 31)) (by decide)
  have hy : x * 2 ^ r ≤ 4294967295 * 2147483648 := Nat.mul_le_mul (by omega) hl
  refine ⟨?_, by omega⟩
  rw [u64_or_nat _ _ (by omega) (by omega), Nat.or_comm]
  have := Nat.two_pow_add_eq_or_of_lt hc x
  rw [Nat.mul_comm x, ← this, Nat.add_comm]

set_option maxRecDepth 100000 in
set_option maxHeartbeats 2000000 in
theorem nUp2 {S : Nat → Prop} (v : Value) (k A n : Nat) (w : World) (h : RowX S w v k A) (hkb : k ≤ 100000) (hnb : n ≤ 1000000) :
    Calls Tryz.prog 95 #[v, .int .i64 n] w fun e w' => ∃ r, e = .returned r ∧ ∃ m, Row w' r m (A * 2 ^ n) ∧ Nrm m (A * 2 ^ n) ∧ m ≤ n / 32 + k + 1 ∧ Below w.heap.size w w' := by
  obtain ⟨i5, hi5⟩ := info32
  have Hi := hide hi5
  clear hi5
  have HR := hide h.row
  have HA := hide h.1
  obtain ⟨_, _, ad, cap, rfl, _, _⟩ := h
  obtain ⟨q, hq, hq1, hq2⟩ : ∃ q : Nat, n / 32 = q ∧ (n : Int) / 32 = (q : Int) ∧ (n : Int).tdiv 32 = (q : Int) := ⟨n / 32, rfl, by omega, rfl⟩
  obtain ⟨r, hr, hr1, hr2⟩ : ∃ r : Nat, n % 32 = r ∧ (n : Int) % 32 = (r : Int) ∧ (n : Int).tmod 32 = (r : Int) := ⟨n % 32, rfl, by omega, rfl⟩
  have hrl : r < 32 := by omega
  have HU : Hid (A * 2 ^ r * 4294967296 ^ q = A * 2 ^ n ∧ n / 32 = q) := by refine ⟨?_, hq⟩; rw [← hq, ← hr]; exact up_split A n
  by_cases hk0 : k = 0
  · subst hk0
    have H0 : Hid (A * 2 ^ n = 0) := by
      show _ = _
      have := HA.out
      rw [Nat.pow_zero] at this
      rw [show A = 0 by omega, Nat.zero_mul]
    clear hq hr
    go_enter Tryz.func95, Tryz.ntmps95
    go_wp2_with fail
    go_ret
    exact ⟨_, rfl, 0, by rw [H0.out]; exact Row.nil _, by rw [H0.out]; exact nrm_zero, by omega, Below.refl _ _⟩
  · have hk1 : ((k : Int) == 0) = false := by simp; omega
    have hqb : q ≤ 100000 := by omega
    have h2l : 2 ^ r < 4294967296 := Nat.lt_of_lt_of_le ((Nat.pow_lt_pow_iff_right (by omega : 1 < 2)).2 hrl) (by decide)
    obtain ⟨P, hP, hP1⟩ : ∃ P : Nat, 2 ^ r = P ∧ (2 : Int) ^ r = (P : Int) := ⟨2 ^ r, rfl, by simp⟩
    rw [hP] at h2l
    have HPr := hide hP
    have hr3 : (r : Int) % 18446744073709551616 = (r : Int) := by omega
    have HS0 : Hid (NatSt w (A * 2 ^ n) (q + 0) (.slice (some ⟨w.heap.size, 0, none⟩) q q) (w.alloc (.cells (madeCells #[Value.int .u32 0] q) 38))) := by
      refine ⟨?_, (Below.refl _ _).alloc (Nat.le_refl _) _⟩
      have := (own_of_block (w := w.alloc (.cells (madeCells #[Value.int .u32 0] q) 38)) (base := w.heap.size) (g := w.heap.size) (k := q) (N := 0) (pw_pos _) (by omega) (Nat.le_refl _) (make_block w q)).2.2
      rw [low_up A n q r HU.out.1] at this
      exact this
    clear hq hr hP hk0
    go_enter Tryz.func95, Tryz.ntmps95
    go_wp2_with (at_make; refine wpList_make_row _ rfl _ _ _ rfl 38 i5 (.int .u32 0) Tryz.underlying69 Hi.out.1 Hi.out.2.1 Hi.out.2.2.1 rfl .i64 .i64 q rfl rfl (by rw [Hi.out.2.2.2]; omega) (by omega) ?_)
    generalize w.alloc (.cells (madeCells #[Value.int .u32 0] q) 38) = wa at *
    go_loopw [5, 6, 7] (fun t5 t6 t7 wr => ∃ i : Nat, i ≤ k ∧ t6 = .int .u64 (shC A r i : Nat) ∧ t7 = .int .i64 i ∧ Hid (NatSt w (A * 2 ^ n) (q + i) t5 wr)) (fun _ _ t7 _ => k - (intOf t7).toNat)
    case atStart => exact ⟨0, by omega, by rw [shC_zero]; rfl, rfl, HS0⟩
    case round =>
      clear HS0
      obtain ⟨i, hi, rfl, rfl, HS⟩ := hrel
      have Hst := hide (sh_step A r i)
      have hcl := shC_lt A r i
      have hxl := dg_lt A i
      have Hnext := hide (fun (w4 : World) (g4 cap4 : Nat) => NatSt.next (w4 := w4) (g := g4) (cap := cap4) HS.out)
      have HO := hide HS.out
      rw [dg_up A n q r i HU.out.1] at Hnext
      by_cases hgo : i < k
      · have h1' : (i : Int) < (k : Int) := by omega
        have hle : i + 1 ≤ k := by omega
        obtain ⟨g, o, rfl, hcx⟩ : ∃ g o, ad = some ⟨g, o, none⟩ ∧ wr.cell? ⟨g, o + i, none⟩ = some (.int .u32 (dg A i : Nat)) := by
          obtain ⟨_, _, ad1, cap1, e1, _, hc1⟩ := HR.out.below HO.out.2
          cases e1
          obtain ⟨g, o, e, _, hj⟩ := hc1 (by omega)
          exact ⟨g, o, e, hj i hgo⟩
        rw [← Hst.out.1] at Hnext
        obtain ⟨hor, hzl⟩ := or_carry (shC A r i) (dg A i) r hcl hxl hrl
        have Hc : Hid (shC A r (i + 1) = (shC A r i + dg A i * 2 ^ r) / 4294967296) := Hst.out.2.symm
        rw [HPr.out] at hor hzl Hc Hnext
        clear Hst HR HA hgo
        generalize dg A i = x at *
        generalize shC A r i = c at *
        obtain ⟨y, hy, hy1⟩ : ∃ y : Nat, x * P = y ∧ (x : Int) * (P : Int) = (y : Int) := ⟨_, rfl, by simp⟩
        rw [hy] at hor hzl Hc Hnext
        have hyl : y < 18446744073709551616 := by omega
        have hym : (y : Int) % 18446744073709551616 = (y : Int) := by omega
        have hyw : IntKind.u64.wrap (y : Int) = (y : Int) := by rw [IntKind.wrap_u64]; exact hym
        obtain ⟨z, hz⟩ : ∃ z : Nat, c + y = z := ⟨_, rfl⟩
        rw [hz] at hor hzl Hc Hnext
        obtain ⟨d, hd, hd1⟩ : ∃ d : Nat, z % 4294967296 = d ∧ (z : Int) % 4294967296 = (d : Int) := ⟨_, rfl, by omega⟩
        obtain ⟨e', hq', hq1'⟩ : ∃ q' : Nat, z / 4294967296 = q' ∧ (z : Int) / 4294967296 = (q' : Int) := ⟨_, rfl, by omega⟩
        have hdl : d < 4294967296 := by omega
        rw [hd] at Hnext
        rw [hq'] at Hc
        clear hz hd hq' hy hcl
        go_wp2_with (first | (simp only [hP1, hy1, hym, hyw, hor]; done) | (at_builtin; refine wpList_append_lies _ rfl _ _ _ rfl w.heap.size 38 i5 (.int .u32 0) 1 4 Tryz.underlying69 Hi.out.1 Hi.out.2.1 Hi.out.2.2.1 Hi.out.2.2.2 rfl (by decide) _ (q + i) (limbsV (q + i) (A * 2 ^ n)) rfl (HO.out.1.alloc _) ⟨wr.heap.size, 0, none⟩ 1 1 [.int .u32 (d : Nat)] rfl rfl (fun j u hj => cell_new1 wr _ 38 j u hj) (fun u hu => by simp at hu; subst hu; rfl) (by decide) (by unfold maxLen; omega) (by omega) (by have := HO.out.2.size; simp; omega) _ rfl ?d6))
        case d6 =>
          intro g4 cap4 w4 ho4 hg4 _ _
          have H4 := hide (Hnext.out w4 g4 cap4 ho4 hg4)
          clear ho4 hg4 Hnext
          go_wp2_with fail
          go_roundw
          case rel => exact ⟨i + 1, by omega, by rw [Hc.out], by go_num, H4⟩
          case measure => simp [intOf]; omega
      · have h1' : ¬ (i : Int) < (k : Int) := by omega
        obtain rfl : i = k := by omega
        have Hc : Hid (dg (A * 2 ^ r) i = shC A r i ∧ A * 2 ^ n < 4294967296 ^ (q + i + 1)) := by
          have hl := up_lt HA.out hrl
          constructor
          · unfold shC dg
            rw [mod_self HA.out, Nat.mod_eq_of_lt]
            exact (Nat.div_lt_iff_lt_mul (pw_pos i)).2 (by rw [pw_succ, Nat.mul_comm (4294967296 ^ i)] at hl; exact hl)
          · rw [← HU.out.1, Nat.add_assoc, Nat.pow_add, Nat.mul_comm]
            exact Nat.mul_lt_mul_of_pos_left hl (pw_pos q)
        rw [Hc.out.1] at Hnext
        rw [HPr.out] at hcl
        clear Hst HR HA hgo
        generalize shC A r i = d at *
        have hdl : d < 4294967296 := by omega
        have hd1 : (d : Int) % 4294967296 = (d : Int) := by omega
        go_wp2_with (at_builtin; refine wpList_append_lies _ rfl _ _ _ rfl w.heap.size 38 i5 (.int .u32 0) 1 4 Tryz.underlying69 Hi.out.1 Hi.out.2.1 Hi.out.2.2.1 Hi.out.2.2.2 rfl (by decide) _ (q + i) (limbsV (q + i) (A * 2 ^ n)) rfl (HO.out.1.alloc _) ⟨wr.heap.size, 0, none⟩ 1 1 [.int .u32 (d : Nat)] rfl rfl (fun j u hj => cell_new1 wr _ 38 j u hj) (fun u hu => by simp at hu; subst hu; rfl) (by decide) (by unfold maxLen; omega) (by omega) (by have := HO.out.2.size; simp; omega) _ rfl ?d6)
        case d6 =>
          intro g4 cap4 w4 ho4 hg4 _ _
          have H4 := hide (Hnext.out w4 g4 cap4 ho4 hg4)
          clear ho4 hg4 Hnext
          have HW : Hid (RowX (fun _ => True) w4 (.slice (some ⟨g4, 0, none⟩) (q + i + 1) cap4) (q + i + 1) (A * 2 ^ n)) := (H4.out.own Hc.out.2 (by omega)).row
          go_wp2_with fail
          refine (nTrim _ (q + i + 1) (A * 2 ^ n) _ HW.out).mono ?_
          rintro e w5 ⟨r5, rfl, n5, hr5, hn5, hnk5, rfl⟩
          have H5 := hide (And.intro hr5 (And.intro hn5 hnk5))
          clear hr5 hn5 hnk5
          go_wp2_with fail
          go_ret
          exact ⟨r5, rfl, n5, H5.out.1, H5.out.2.1, by have := H5.out.2.2; have := HU.out.2; omega, H4.out.2⟩
end Go.Proofs.YtmkploknoohliaaGreat

/- Package exact: the nearest float of a number's leading bits. -/
import Derived.Test.YtanijhgmgldiiaaXB
namespace Go.Proofs.Ytanijhgmgldiiaa
open Go.RowKit
open M
open Flt (cutN)
set_option linter.unusedVariables false
set_option linter.unusedSimpArgs false

/-- The step's power of 2. -/
def stp (b L head : Nat) (e : Int) : Int := max (e + (bitLen head : Int) - (b : Int)) (-(L : Int))
/-- The pattern, without a sign. -/
def unsF (b L inf head : Nat) (more : Bool) (e : Int) : Nat := if head = 0 then 0 else min ((stp b L head e + L).toNat * 2 ^ (b - 1) + cutN head ((stp b L head e - e).toNat - 1) more) inf

theorem cell_row (w : World) (cs : Array Value) (t : TypeId) (j : Nat) (v : Value) (h : cs[j]? = some v) : (w.alloc (.cells cs t)).cell? ⟨w.heap.size, j, none⟩ = some v := by
  rw [cell_of_row _ _ _ _ _ _ (heap_alloc_new _ _)]; exact h

theorem min_field (kk cu fl pw inf : Nat) (h : min kk 2048 = fl) (hinf : inf ≤ 2048 * pw) : min (kk * pw + cu) inf = min (cu + fl * pw) inf := by
  rcases Nat.le_total kk 2048 with c | c
  · rw [Nat.min_eq_left c] at h
    rw [h, Nat.add_comm]
  · rw [Nat.min_eq_right c] at h
    have h1 : 2048 * pw ≤ kk * pw := Nat.mul_le_mul_right _ c
    rw [← h, Nat.min_eq_right (Nat.le_trans hinf (Nat.le_trans h1 (Nat.le_add_right _ _))), Nat.min_eq_right (Nat.le_trans hinf (Nat.le_add_left _ _))]

theorem min_u64 (a b : Nat) : (if (b : Int) < (a : Int) then (b : Int) else (a : Int)) = ((min a b : Nat) : Int) := by
  split <;> omega

theorem bitLen_62 {n : Nat} (h : 4611686018427387904 ≤ n) (h2 : n < 18446744073709551616) : 63 ≤ bitLen n ∧ bitLen n ≤ 64 := by
  have h1 := (bitLen_spec n).1
  constructor
  · rcases Nat.lt_or_ge (bitLen n) 63 with h3 | h3
    · have := Nat.pow_le_pow_right (n := 2) (by omega) (show bitLen n ≤ 62 by omega)
      have h4 : 2 ^ 62 = 4611686018427387904 := by decide
      omega
    · exact h3
  · exact bitLen_le (k := 64) h2

theorem cut_few (n sh : Nat) (more : Bool) (h : 9 ≤ sh) (hn : n < 18446744073709551616) : cutN n sh more ≤ 36028797018963968 := by
  rw [cutN_low]
  have h1 : n / 2 ^ (sh + 1) ≤ n / 1024 := by
    refine Nat.div_le_div_left ?_ (by omega)
    have := Nat.pow_le_pow_right (n := 2) (by omega) (show 10 ≤ sh + 1 by omega)
    simpa using this
  have h2 : n / 1024 ≤ 18014398509481983 := by omega
  split <;> omega

set_option maxRecDepth 100000 in
theorem layout64 (w : World) : Calls Try.prog 9 #[] w fun e w' => e = .returned (.agg #[.int .i64 53, .int .i64 (-1074), .int .u64 9218868437227405312, .int .u64 9223372036854775808]) ∧ Below w.heap.size w w' := by
  go_enter Try.func9, Try.ntmps9
  go_wp2_with fail
  refine bodyPost_ret (v := .agg #[.int .i64 53, .int .i64 (-1074), .int .u64 9218868437227405312, .int .u64 9223372036854775808]) (by simp [results, Try.results9, go_sem]) rfl ⟨rfl, ?_⟩
  exact (Below.refl _ w).alloc (Nat.le_refl _) _

theorem uns64_zero (more : Bool) (e0 : Int) (w : World) : Calls Try.prog 15 #[.agg #[.int .i64 53, .int .i64 (-1074), .int .u64 9218868437227405312, .int .u64 9223372036854775808], .agg #[.int .u64 0, .bool more, .int .i64 e0]] w fun e w' => e = .returned (.int .u64 0) ∧ Below w.heap.size w w' := by
  go_enter Try.func15, Try.ntmps15
  go_wp2_with fail
  go_ret
  exact ⟨rfl, ((Below.refl _ w).alloc (Nat.le_refl _) _).alloc (by simp) _⟩

set_option maxRecDepth 100000 in
set_option maxHeartbeats 4000000 in
theorem uns64_num (n : Nat) (more : Bool) (e0 : Int) (w : World) (h1 : 4611686018427387904 ≤ n) (h2 : n < 18446744073709551616) (he1 : -4000000 ≤ e0) (he2 : e0 ≤ 4000000) : Calls Try.prog 15 #[.agg #[.int .i64 53, .int .i64 (-1074), .int .u64 9218868437227405312, .int .u64 9223372036854775808], .agg #[.int .u64 n, .bool more, .int .i64 e0]] w fun e w' => e = .returned (.int .u64 (unsF 53 1074 9218868437227405312 n more e0 : Nat)) ∧ Below w.heap.size w w' := by
  obtain ⟨bl1, bl2⟩ := bitLen_62 h1 h2
  have HLn := hide (fun w : World => len64_top n w h1 h2)
  unfold unsF
  rw [if_neg (by omega)]
  obtain ⟨st, hst⟩ : ∃ st : Int, stp 53 1074 n e0 = st := ⟨_, rfl⟩
  rw [hst]
  unfold stp at hst
  obtain ⟨bl, hbl⟩ : ∃ bl : Nat, bitLen n = bl := ⟨_, rfl⟩
  rw [hbl] at HLn hst bl1 bl2
  obtain ⟨s1, hs1, hs1b⟩ : ∃ s1 : Int, e0 + (bl : Int) = s1 ∧ (-5000000 ≤ s1 ∧ s1 ≤ 5000000) := ⟨_, rfl, by omega⟩
  obtain ⟨s2, hs2, hs2b⟩ : ∃ s2 : Int, s1 - 53 = s2 ∧ (-6000000 ≤ s2 ∧ s2 ≤ 6000000) := ⟨_, rfl, by omega⟩
  have hw1 : IntKind.i64.wrap (e0 + (bl : Int)) = s1 := by rw [IntKind.wrap_i64]; omega
  have hw2 : IntKind.i64.wrap (s1 - 53) = s2 := by rw [IntKind.wrap_i64]; omega
  have hstc : (s2 < -1074 ∧ st = -1074) ∨ (¬ s2 < -1074 ∧ st = s2) := by omega
  obtain ⟨kk, hkk, hkb⟩ : ∃ kk : Nat, st - -1074 = (kk : Int) ∧ kk ≤ 7000000 := ⟨(st + 1074).toNat, by omega, by omega⟩
  obtain ⟨sh, hsh, hshb⟩ : ∃ sh : Nat, st - e0 = (sh : Int) + 1 ∧ (9 ≤ sh ∧ sh ≤ 12000000) := ⟨(st - e0).toNat - 1, by omega, by omega⟩
  have hwk : IntKind.i64.wrap (st - -1074) = (kk : Int) := by rw [IntKind.wrap_i64]; omega
  have hwsh : IntKind.i64.wrap (st - e0) = (sh : Int) + 1 := by rw [IntKind.wrap_i64]; omega
  rw [show (st + (1074 : Nat)).toNat = kk by omega, show (st - e0).toNat - 1 = sh by omega]
  have HW := hide (fun w : World => without_any n sh more e0 w h2 (by omega))
  have hcf := cut_few n sh more hshb.1 h2
  generalize cutN n sh more = cu at *
  obtain ⟨fl, hfl, hflb⟩ : ∃ fl : Nat, min kk 2048 = fl ∧ fl ≤ 2048 := ⟨_, rfl, by omega⟩
  have hfc : ((2048 : Int) < (kk : Int) ∧ fl = 2048) ∨ (¬ (2048 : Int) < (kk : Int) ∧ fl = kk) := by omega
  have hsl : IntKind.u64.wrap ((fl : Int) * 4503599627370496) = ((fl * 4503599627370496 : Nat) : Int) := by rw [IntKind.wrap_u64]; omega
  have had : IntKind.u64.wrap ((cu : Int) + ((fl * 4503599627370496 : Nat) : Int)) = ((cu + fl * 4503599627370496 : Nat) : Int) := by rw [IntKind.wrap_u64]; omega
  have hres : min (kk * 2 ^ (53 - 1) + cu) 9218868437227405312 = min (cu + fl * 4503599627370496) 9218868437227405312 := by
    rw [show 2 ^ (53 - 1) = 4503599627370496 by decide]
    exact min_field kk cu fl 4503599627370496 9218868437227405312 hfl (by decide)
  rw [hres]
  obtain ⟨q1, hq1⟩ : ∃ q1 : Nat, fl * 4503599627370496 = q1 := ⟨_, rfl⟩
  rw [hq1] at hsl had ⊢
  obtain ⟨q2, hq2⟩ : ∃ q2 : Nat, cu + q1 = q2 := ⟨_, rfl⟩
  rw [hq2] at had ⊢
  obtain ⟨out, hout⟩ : ∃ out : Nat, min q2 9218868437227405312 = out := ⟨_, rfl⟩
  rw [hout]
  have hoc : (decide ((9 : Int) < 0) = true) ∨ ((9218868437227405312 : Nat) < q2 ∧ out = 9218868437227405312) ∨ (¬ (9218868437227405312 : Nat) < q2 ∧ out = q2) := by right; omega
  obtain ⟨W, hW⟩ : ∃ W, W = (w.alloc (.cells #[.int .i64 53, .int .i64 (-1074), .int .u64 9218868437227405312, .int .u64 9223372036854775808] 36)).alloc (.cells #[.int .u64 n, .bool more, .int .i64 e0] 40) := ⟨_, rfl⟩
  have hz1 : (w.alloc (.cells #[.int .i64 53, .int .i64 (-1074), .int .u64 9218868437227405312, .int .u64 9223372036854775808] 36)).heap.size = w.heap.size + 1 := by simp
  have hb1 : Below w.heap.size w (w.alloc (.cells #[.int .i64 53, .int .i64 (-1074), .int .u64 9218868437227405312, .int .u64 9223372036854775808] 36)) := (Below.refl _ w).alloc (Nat.le_refl _) _
  have hb2 : Below (w.heap.size + 1) (w.alloc (.cells #[.int .i64 53, .int .i64 (-1074), .int .u64 9218868437227405312, .int .u64 9223372036854775808] 36)) W := by rw [hW]; exact (Below.refl _ _).alloc (by rw [hz1]; exact Nat.le_refl _) _
  have o0 : W.cell? ⟨w.heap.size, 0, none⟩ = some (.int .i64 53) := by rw [hb2.cell (p := ⟨w.heap.size, 0, none⟩) (Nat.lt_succ_self _)]; exact cell_row w _ _ 0 _ rfl
  have o1 : W.cell? ⟨w.heap.size, 1, none⟩ = some (.int .i64 (-1074)) := by rw [hb2.cell (p := ⟨w.heap.size, 1, none⟩) (Nat.lt_succ_self _)]; exact cell_row w _ _ 1 _ rfl
  have o2 : W.cell? ⟨w.heap.size, 2, none⟩ = some (.int .u64 9218868437227405312) := by rw [hb2.cell (p := ⟨w.heap.size, 2, none⟩) (Nat.lt_succ_self _)]; exact cell_row w _ _ 2 _ rfl
  have p0 : W.cell? ⟨w.heap.size + 1, 0, none⟩ = some (.int .u64 n) := by rw [hW, ← hz1]; exact cell_row _ _ _ 0 _ rfl
  have p1 : W.cell? ⟨w.heap.size + 1, 1, none⟩ = some (.bool more) := by rw [hW, ← hz1]; exact cell_row _ _ _ 1 _ rfl
  have p2 : W.cell? ⟨w.heap.size + 1, 2, none⟩ = some (.int .i64 e0) := by rw [hW, ← hz1]; exact cell_row _ _ _ 2 _ rfl
  have HB := hide (hb1.trans (hb2.mono (by omega)))
  have HKK := hide (And.intro hkk hfl)
  have hw52 : IntKind.i64.wrap 52 = 52 := by decide
  have hn0 : ((n : Int) == 0) = false := by simp; omega
  clear hst hbl hs1 hs2 hkk hsh hfl hres hq2 hout hz1 hb1 hb2 hcf h1 h2
  go_enter Try.func15, Try.ntmps15
  go_wp2_with fail
  rw [← hW]
  have HWW := hide hW
  clear hW
  have HB := hide HB.out.drew
  have o0 : W.drew.cell? ⟨w.heap.size, 0, none⟩ = some (.int .i64 53) := o0
  have o1 : W.drew.cell? ⟨w.heap.size, 1, none⟩ = some (.int .i64 (-1074)) := o1
  have o2 : W.drew.cell? ⟨w.heap.size, 2, none⟩ = some (.int .u64 9218868437227405312) := o2
  have p0 : W.drew.cell? ⟨w.heap.size + 1, 0, none⟩ = some (.int .u64 n) := p0
  have p1 : W.drew.cell? ⟨w.heap.size + 1, 1, none⟩ = some (.bool more) := p1
  have p2 : W.drew.cell? ⟨w.heap.size + 1, 2, none⟩ = some (.int .i64 e0) := p2
  clear HWW
  have hmin : ∀ (w : World) (ts : Array TypeId) (t : TypeId), (Builtin.min_ ts t #[.int .u64 (q2 : Int), .int .u64 9218868437227405312]).run Try.prog w = .ok (.int .u64 (out : Int)) w := by
    intro w ts t
    rw [run_min_int2]
    rcases hoc with h | ⟨h, h'⟩ | ⟨h, h'⟩
    · simp at h
    · rw [if_pos (by omega), h']; rfl
    · rw [if_neg (by omega), h']
  clear hoc
  have HO := hide HB.out
  rcases hstc with ⟨k1, hst⟩ | ⟨k1, hst⟩
  · subst hst
    obtain rfl : kk = 0 := by have := HKK.out.1; omega
    obtain rfl : fl = 0 := by have := HKK.out.2; omega
    obtain rfl : q1 = 0 := by rw [Nat.zero_mul] at hq1; exact hq1.symm
    have had0 : IntKind.u64.wrap (cu : Int) = (q2 : Int) := by simpa using had
    have had1 : IntKind.u64.wrap ((cu : Int) + 0) = (q2 : Int) := by simpa using had
    have hw0 : IntKind.u64.wrap 0 = 0 := by decide
    clear hfc hsl had hwk hq1
    go_region_held3 (fun w' => w'.cell? ⟨w.heap.size, 0, none⟩ = some (.int .i64 53) ∧ w'.cell? ⟨w.heap.size, 1, none⟩ = some (.int .i64 (-1074)) ∧ w'.cell? ⟨w.heap.size, 2, none⟩ = some (.int .u64 9218868437227405312) ∧ w'.cell? ⟨w.heap.size + 1, 0, none⟩ = some (.int .u64 n) ∧ w'.cell? ⟨w.heap.size + 1, 1, none⟩ = some (.bool more) ∧ w'.cell? ⟨w.heap.size + 1, 2, none⟩ = some (.int .i64 e0)) (exact ⟨o0, o1, o2, p0, p1, p2⟩)
      (first | (go_at_call 21; go_must (refine (HLn.out _).mono ?_); rintro _ w5 ⟨rfl, hw5⟩; have hw5 := hw5.symm; subst hw5))
    go_wp2_with fail
    have HO := hide HB.out.drew
    have o0 : W.drew.drew.cell? ⟨w.heap.size, 0, none⟩ = some (.int .i64 53) := o0
    have o1 : W.drew.drew.cell? ⟨w.heap.size, 1, none⟩ = some (.int .i64 (-1074)) := o1
    have o2 : W.drew.drew.cell? ⟨w.heap.size, 2, none⟩ = some (.int .u64 9218868437227405312) := o2
    have p0 : W.drew.drew.cell? ⟨w.heap.size + 1, 0, none⟩ = some (.int .u64 n) := p0
    have p1 : W.drew.drew.cell? ⟨w.heap.size + 1, 1, none⟩ = some (.bool more) := p1
    have p2 : W.drew.drew.cell? ⟨w.heap.size + 1, 2, none⟩ = some (.int .i64 e0) := p2
    go_region_held3 (fun w' => w'.cell? ⟨w.heap.size, 0, none⟩ = some (.int .i64 53) ∧ w'.cell? ⟨w.heap.size, 1, none⟩ = some (.int .i64 (-1074)) ∧ w'.cell? ⟨w.heap.size, 2, none⟩ = some (.int .u64 9218868437227405312) ∧ w'.cell? ⟨w.heap.size + 1, 0, none⟩ = some (.int .u64 n) ∧ w'.cell? ⟨w.heap.size + 1, 1, none⟩ = some (.bool more) ∧ w'.cell? ⟨w.heap.size + 1, 2, none⟩ = some (.int .i64 e0)) (exact ⟨o0, o1, o2, p0, p1, p2⟩)
      (first | (simp only [hmin]; done) | (go_at_call 22; go_must (refine (HW.out _).mono ?_); rintro _ w5 ⟨rfl, B5⟩; have HO := hide (HO.out.trans (B5.mono HO.out.size)); have o0 : w5.cell? ⟨w.heap.size, 0, none⟩ = some (.int .i64 53) := (by rw [B5.cell (p := ⟨w.heap.size, 0, none⟩) (block_lt_of_cell o0)]; exact o0); have o1 : w5.cell? ⟨w.heap.size, 1, none⟩ = some (.int .i64 (-1074)) := (by rw [B5.cell (p := ⟨w.heap.size, 1, none⟩) (block_lt_of_cell o1)]; exact o1); have o2 : w5.cell? ⟨w.heap.size, 2, none⟩ = some (.int .u64 9218868437227405312) := (by rw [B5.cell (p := ⟨w.heap.size, 2, none⟩) (block_lt_of_cell o2)]; exact o2); have p0 : w5.cell? ⟨w.heap.size + 1, 0, none⟩ = some (.int .u64 n) := (by rw [B5.cell (p := ⟨w.heap.size + 1, 0, none⟩) (block_lt_of_cell p0)]; exact p0); have p1 : w5.cell? ⟨w.heap.size + 1, 1, none⟩ = some (.bool more) := (by rw [B5.cell (p := ⟨w.heap.size + 1, 1, none⟩) (block_lt_of_cell p1)]; exact p1); have p2 : w5.cell? ⟨w.heap.size + 1, 2, none⟩ = some (.int .i64 e0) := (by rw [B5.cell (p := ⟨w.heap.size + 1, 2, none⟩) (block_lt_of_cell p2)]; exact p2); clear B5))
    go_wp2_with fail
    go_ret
    exact ⟨rfl, HO.out⟩
  · subst hst
    rcases hfc with ⟨k2, hfl⟩ | ⟨k2, hfl⟩
    · subst hfl
      have hsla : IntKind.u64.wrap (2048 * 4503599627370496) = (q1 : Int) := hsl
      have hslb : IntKind.u64.wrap 9223372036854775808 = (q1 : Int) := hsl
      have hk3 : st + 1074 = (kk : Int) := by have := HKK.out.1; omega
      have k3 : 2048 < st + 1074 := by omega
      clear hsl hq1 k2 hk3
      go_region_held3 (fun w' => w'.cell? ⟨w.heap.size, 0, none⟩ = some (.int .i64 53) ∧ w'.cell? ⟨w.heap.size, 1, none⟩ = some (.int .i64 (-1074)) ∧ w'.cell? ⟨w.heap.size, 2, none⟩ = some (.int .u64 9218868437227405312) ∧ w'.cell? ⟨w.heap.size + 1, 0, none⟩ = some (.int .u64 n) ∧ w'.cell? ⟨w.heap.size + 1, 1, none⟩ = some (.bool more) ∧ w'.cell? ⟨w.heap.size + 1, 2, none⟩ = some (.int .i64 e0)) (exact ⟨o0, o1, o2, p0, p1, p2⟩)
        (first | (go_at_call 21; go_must (refine (HLn.out _).mono ?_); rintro _ w5 ⟨rfl, hw5⟩; have hw5 := hw5.symm; subst hw5))
      go_wp2_with fail
      have HO := hide HB.out.drew
      have o0 : W.drew.drew.cell? ⟨w.heap.size, 0, none⟩ = some (.int .i64 53) := o0
      have o1 : W.drew.drew.cell? ⟨w.heap.size, 1, none⟩ = some (.int .i64 (-1074)) := o1
      have o2 : W.drew.drew.cell? ⟨w.heap.size, 2, none⟩ = some (.int .u64 9218868437227405312) := o2
      have p0 : W.drew.drew.cell? ⟨w.heap.size + 1, 0, none⟩ = some (.int .u64 n) := p0
      have p1 : W.drew.drew.cell? ⟨w.heap.size + 1, 1, none⟩ = some (.bool more) := p1
      have p2 : W.drew.drew.cell? ⟨w.heap.size + 1, 2, none⟩ = some (.int .i64 e0) := p2
      go_region_held3 (fun w' => w'.cell? ⟨w.heap.size, 0, none⟩ = some (.int .i64 53) ∧ w'.cell? ⟨w.heap.size, 1, none⟩ = some (.int .i64 (-1074)) ∧ w'.cell? ⟨w.heap.size, 2, none⟩ = some (.int .u64 9218868437227405312) ∧ w'.cell? ⟨w.heap.size + 1, 0, none⟩ = some (.int .u64 n) ∧ w'.cell? ⟨w.heap.size + 1, 1, none⟩ = some (.bool more) ∧ w'.cell? ⟨w.heap.size + 1, 2, none⟩ = some (.int .i64 e0)) (exact ⟨o0, o1, o2, p0, p1, p2⟩)
        (first | (simp only [hmin]; done) | (go_at_call 22; go_must (refine (HW.out _).mono ?_); rintro _ w5 ⟨rfl, B5⟩; have HO := hide (HO.out.trans (B5.mono HO.out.size)); have o0 : w5.cell? ⟨w.heap.size, 0, none⟩ = some (.int .i64 53) := (by rw [B5.cell (p := ⟨w.heap.size, 0, none⟩) (block_lt_of_cell o0)]; exact o0); have o1 : w5.cell? ⟨w.heap.size, 1, none⟩ = some (.int .i64 (-1074)) := (by rw [B5.cell (p := ⟨w.heap.size, 1, none⟩) (block_lt_of_cell o1)]; exact o1); have o2 : w5.cell? ⟨w.heap.size, 2, none⟩ = some (.int .u64 9218868437227405312) := (by rw [B5.cell (p := ⟨w.heap.size, 2, none⟩) (block_lt_of_cell o2)]; exact o2); have p0 : w5.cell? ⟨w.heap.size + 1, 0, none⟩ = some (.int .u64 n) := (by rw [B5.cell (p := ⟨w.heap.size + 1, 0, none⟩) (block_lt_of_cell p0)]; exact p0); have p1 : w5.cell? ⟨w.heap.size + 1, 1, none⟩ = some (.bool more) := (by rw [B5.cell (p := ⟨w.heap.size + 1, 1, none⟩) (block_lt_of_cell p1)]; exact p1); have p2 : w5.cell? ⟨w.heap.size + 1, 2, none⟩ = some (.int .i64 e0) := (by rw [B5.cell (p := ⟨w.heap.size + 1, 2, none⟩) (block_lt_of_cell p2)]; exact p2); clear B5))
      go_wp2_with fail
      go_ret
      exact ⟨rfl, HO.out⟩
    · subst hfl
      have hk3 : st + 1074 = (fl : Int) := by have := HKK.out.1; omega
      have k3 : ¬ (2048 : Int) < (fl : Int) := by omega
      clear hq1 k2
      go_region_held3 (fun w' => w'.cell? ⟨w.heap.size, 0, none⟩ = some (.int .i64 53) ∧ w'.cell? ⟨w.heap.size, 1, none⟩ = some (.int .i64 (-1074)) ∧ w'.cell? ⟨w.heap.size, 2, none⟩ = some (.int .u64 9218868437227405312) ∧ w'.cell? ⟨w.heap.size + 1, 0, none⟩ = some (.int .u64 n) ∧ w'.cell? ⟨w.heap.size + 1, 1, none⟩ = some (.bool more) ∧ w'.cell? ⟨w.heap.size + 1, 2, none⟩ = some (.int .i64 e0)) (exact ⟨o0, o1, o2, p0, p1, p2⟩)
        (first | (go_at_call 21; go_must (refine (HLn.out _).mono ?_); rintro _ w5 ⟨rfl, hw5⟩; have hw5 := hw5.symm; subst hw5))
      go_wp2_with (simp only [hk3])
      have HO := hide HB.out.drew
      have o0 : W.drew.drew.cell? ⟨w.heap.size, 0, none⟩ = some (.int .i64 53) := o0
      have o1 : W.drew.drew.cell? ⟨w.heap.size, 1, none⟩ = some (.int .i64 (-1074)) := o1
      have o2 : W.drew.drew.cell? ⟨w.heap.size, 2, none⟩ = some (.int .u64 9218868437227405312) := o2
      have p0 : W.drew.drew.cell? ⟨w.heap.size + 1, 0, none⟩ = some (.int .u64 n) := p0
      have p1 : W.drew.drew.cell? ⟨w.heap.size + 1, 1, none⟩ = some (.bool more) := p1
      have p2 : W.drew.drew.cell? ⟨w.heap.size + 1, 2, none⟩ = some (.int .i64 e0) := p2
      go_region_held3 (fun w' => w'.cell? ⟨w.heap.size, 0, none⟩ = some (.int .i64 53) ∧ w'.cell? ⟨w.heap.size, 1, none⟩ = some (.int .i64 (-1074)) ∧ w'.cell? ⟨w.heap.size, 2, none⟩ = some (.int .u64 9218868437227405312) ∧ w'.cell? ⟨w.heap.size + 1, 0, none⟩ = some (.int .u64 n) ∧ w'.cell? ⟨w.heap.size + 1, 1, none⟩ = some (.bool more) ∧ w'.cell? ⟨w.heap.size + 1, 2, none⟩ = some (.int .i64 e0)) (exact ⟨o0, o1, o2, p0, p1, p2⟩)
        (first | (simp only [hmin]; done) | (go_at_call 22; go_must (refine (HW.out _).mono ?_); rintro _ w5 ⟨rfl, B5⟩; have HO := hide (HO.out.trans (B5.mono HO.out.size)); have o0 : w5.cell? ⟨w.heap.size, 0, none⟩ = some (.int .i64 53) := (by rw [B5.cell (p := ⟨w.heap.size, 0, none⟩) (block_lt_of_cell o0)]; exact o0); have o1 : w5.cell? ⟨w.heap.size, 1, none⟩ = some (.int .i64 (-1074)) := (by rw [B5.cell (p := ⟨w.heap.size, 1, none⟩) (block_lt_of_cell o1)]; exact o1); have o2 : w5.cell? ⟨w.heap.size, 2, none⟩ = some (.int .u64 9218868437227405312) := (by rw [B5.cell (p := ⟨w.heap.size, 2, none⟩) (block_lt_of_cell o2)]; exact o2); have p0 : w5.cell? ⟨w.heap.size + 1, 0, none⟩ = some (.int .u64 n) := (by rw [B5.cell (p := ⟨w.heap.size + 1, 0, none⟩) (block_lt_of_cell p0)]; exact p0); have p1 : w5.cell? ⟨w.heap.size + 1, 1, none⟩ = some (.bool more) := (by rw [B5.cell (p := ⟨w.heap.size + 1, 1, none⟩) (block_lt_of_cell p1)]; exact p1); have p2 : w5.cell? ⟨w.heap.size + 1, 2, none⟩ = some (.int .i64 e0) := (by rw [B5.cell (p := ⟨w.heap.size + 1, 2, none⟩) (block_lt_of_cell p2)]; exact p2); clear B5))
      go_wp2_with fail
      go_ret
      exact ⟨rfl, HO.out⟩

set_option maxRecDepth 100000 in
theorem layout32 (w : World) : Calls Try.prog 13 #[] w fun e w' => e = .returned (.agg #[.int .i64 24, .int .i64 (-149), .int .u64 2139095040, .int .u64 2147483648]) ∧ Below w.heap.size w w' := by
  go_enter Try.func13, Try.ntmps13
  go_wp2_with fail
  refine bodyPost_ret (v := .agg #[.int .i64 24, .int .i64 (-149), .int .u64 2139095040, .int .u64 2147483648]) (by simp [results, Try.results13, go_sem]) rfl ⟨rfl, ?_⟩
  exact (Below.refl _ w).alloc (Nat.le_refl _) _

theorem uns32_zero (more : Bool) (e0 : Int) (w : World) : Calls Try.prog 15 #[.agg #[.int .i64 24, .int .i64 (-149), .int .u64 2139095040, .int .u64 2147483648], .agg #[.int .u64 0, .bool more, .int .i64 e0]] w fun e w' => e = .returned (.int .u64 0) ∧ Below w.heap.size w w' := by
  go_enter Try.func15, Try.ntmps15
  go_wp2_with fail
  go_ret
  exact ⟨rfl, ((Below.refl _ w).alloc (Nat.le_refl _) _).alloc (by simp) _⟩

set_option maxRecDepth 100000 in
set_option maxHeartbeats 4000000 in
theorem uns32_num (n : Nat) (more : Bool) (e0 : Int) (w : World) (h1 : 4611686018427387904 ≤ n) (h2 : n < 18446744073709551616) (he1 : -4000000 ≤ e0) (he2 : e0 ≤ 4000000) : Calls Try.prog 15 #[.agg #[.int .i64 24, .int .i64 (-149), .int .u64 2139095040, .int .u64 2147483648], .agg #[.int .u64 n, .bool more, .int .i64 e0]] w fun e w' => e = .returned (.int .u64 (unsF 24 149 2139095040 n more e0 : Nat)) ∧ Below w.heap.size w w' := by
  obtain ⟨bl1, bl2⟩ := bitLen_62 h1 h2
  have HLn := hide (fun w : World => len64_top n w h1 h2)
  unfold unsF
  rw [if_neg (by omega)]
  obtain ⟨st, hst⟩ : ∃ st : Int, stp 24 149 n e0 = st := ⟨_, rfl⟩
  rw [hst]
  unfold stp at hst
  obtain ⟨bl, hbl⟩ : ∃ bl : Nat, bitLen n = bl := ⟨_, rfl⟩
  rw [hbl] at HLn hst bl1 bl2
  obtain ⟨s1, hs1, hs1b⟩ : ∃ s1 : Int, e0 + (bl : Int) = s1 ∧ (-5000000 ≤ s1 ∧ s1 ≤ 5000000) := ⟨_, rfl, by omega⟩
  obtain ⟨s2, hs2, hs2b⟩ : ∃ s2 : Int, s1 - 24 = s2 ∧ (-6000000 ≤ s2 ∧ s2 ≤ 6000000) := ⟨_, rfl, by omega⟩
  have hw1 : IntKind.i64.wrap (e0 + (bl : Int)) = s1 := by rw [IntKind.wrap_i64]; omega
  have hw2 : IntKind.i64.wrap (s1 - 24) = s2 := by rw [IntKind.wrap_i64]; omega
  have hstc : (s2 < -149 ∧ st = -149) ∨ (¬ s2 < -149 ∧ st = s2) := by omega
  obtain ⟨kk, hkk, hkb⟩ : ∃ kk : Nat, st - -149 = (kk : Int) ∧ kk ≤ 7000000 := ⟨(st + 149).toNat, by omega, by omega⟩
  obtain ⟨sh, hsh, hshb⟩ : ∃ sh : Nat, st - e0 = (sh : Int) + 1 ∧ (9 ≤ sh ∧ sh ≤ 12000000) := ⟨(st - e0).toNat - 1, by omega, by omega⟩
  have hwk : IntKind.i64.wrap (st - -149) = (kk : Int) := by rw [IntKind.wrap_i64]; omega
  have hwsh : IntKind.i64.wrap (st - e0) = (sh : Int) + 1 := by rw [IntKind.wrap_i64]; omega
  rw [show (st + (149 : Nat)).toNat = kk by omega, show (st - e0).toNat - 1 = sh by omega]
  have HW := hide (fun w : World => without_any n sh more e0 w h2 (by omega))
  have hcf := cut_few n sh more hshb.1 h2
  generalize cutN n sh more = cu at *
  obtain ⟨fl, hfl, hflb⟩ : ∃ fl : Nat, min kk 2048 = fl ∧ fl ≤ 2048 := ⟨_, rfl, by omega⟩
  have hfc : ((2048 : Int) < (kk : Int) ∧ fl = 2048) ∨ (¬ (2048 : Int) < (kk : Int) ∧ fl = kk) := by omega
  have hsl : IntKind.u64.wrap ((fl : Int) * 8388608) = ((fl * 8388608 : Nat) : Int) := by rw [IntKind.wrap_u64]; omega
  have had : IntKind.u64.wrap ((cu : Int) + ((fl * 8388608 : Nat) : Int)) = ((cu + fl * 8388608 : Nat) : Int) := by rw [IntKind.wrap_u64]; omega
  have hres : min (kk * 2 ^ (24 - 1) + cu) 2139095040 = min (cu + fl * 8388608) 2139095040 := by
    rw [show 2 ^ (24 - 1) = 8388608 by decide]
    exact min_field kk cu fl 8388608 2139095040 hfl (by decide)
  rw [hres]
  obtain ⟨q1, hq1⟩ : ∃ q1 : Nat, fl * 8388608 = q1 := ⟨_, rfl⟩
  rw [hq1] at hsl had ⊢
  obtain ⟨q2, hq2⟩ : ∃ q2 : Nat, cu + q1 = q2 := ⟨_, rfl⟩
  rw [hq2] at had ⊢
  obtain ⟨out, hout⟩ : ∃ out : Nat, min q2 2139095040 = out := ⟨_, rfl⟩
  rw [hout]
  have hoc : (decide ((9 : Int) < 0) = true) ∨ ((2139095040 : Nat) < q2 ∧ out = 2139095040) ∨ (¬ (2139095040 : Nat) < q2 ∧ out = q2) := by right; omega
  obtain ⟨W, hW⟩ : ∃ W, W = (w.alloc (.cells #[.int .i64 24, .int .i64 (-149), .int .u64 2139095040, .int .u64 2147483648] 36)).alloc (.cells #[.int .u64 n, .bool more, .int .i64 e0] 40) := ⟨_, rfl⟩
  have hz1 : (w.alloc (.cells #[.int .i64 24, .int .i64 (-149), .int .u64 2139095040, .int .u64 2147483648] 36)).heap.size = w.heap.size + 1 := by simp
  have hb1 : Below w.heap.size w (w.alloc (.cells #[.int .i64 24, .int .i64 (-149), .int .u64 2139095040, .int .u64 2147483648] 36)) := (Below.refl _ w).alloc (Nat.le_refl _) _
  have hb2 : Below (w.heap.size + 1) (w.alloc (.cells #[.int .i64 24, .int .i64 (-149), .int .u64 2139095040, .int .u64 2147483648] 36)) W := by rw [hW]; exact (Below.refl _ _).alloc (by rw [hz1]; exact Nat.le_refl _) _
  have o0 : W.cell? ⟨w.heap.size, 0, none⟩ = some (.int .i64 24) := by rw [hb2.cell (p := ⟨w.heap.size, 0, none⟩) (Nat.lt_succ_self _)]; exact cell_row w _ _ 0 _ rfl
  have o1 : W.cell? ⟨w.heap.size, 1, none⟩ = some (.int .i64 (-149)) := by rw [hb2.cell (p := ⟨w.heap.size, 1, none⟩) (Nat.lt_succ_self _)]; exact cell_row w _ _ 1 _ rfl
  have o2 : W.cell? ⟨w.heap.size, 2, none⟩ = some (.int .u64 2139095040) := by rw [hb2.cell (p := ⟨w.heap.size, 2, none⟩) (Nat.lt_succ_self _)]; exact cell_row w _ _ 2 _ rfl
  have p0 : W.cell? ⟨w.heap.size + 1, 0, none⟩ = some (.int .u64 n) := by rw [hW, ← hz1]; exact cell_row _ _ _ 0 _ rfl
  have p1 : W.cell? ⟨w.heap.size + 1, 1, none⟩ = some (.bool more) := by rw [hW, ← hz1]; exact cell_row _ _ _ 1 _ rfl
  have p2 : W.cell? ⟨w.heap.size + 1, 2, none⟩ = some (.int .i64 e0) := by rw [hW, ← hz1]; exact cell_row _ _ _ 2 _ rfl
  have HB := hide (hb1.trans (hb2.mono (by omega)))
  have HKK := hide (And.intro hkk hfl)
  have hw52 : IntKind.i64.wrap 23 = 23 := by decide
  have hn0 : ((n : Int) == 0) = false := by simp; omega
  clear hst hbl hs1 hs2 hkk hsh hfl hres hq2 hout hz1 hb1 hb2 hcf h1 h2
  go_enter Try.func15, Try.ntmps15
  go_wp2_with fail
  rw [← hW]
  have HWW := hide hW
  clear hW
  have HB := hide HB.out.drew
  have o0 : W.drew.cell? ⟨w.heap.size, 0, none⟩ = some (.int .i64 24) := o0
  have o1 : W.drew.cell? ⟨w.heap.size, 1, none⟩ = some (.int .i64 (-149)) := o1
  have o2 : W.drew.cell? ⟨w.heap.size, 2, none⟩ = some (.int .u64 2139095040) := o2
  have p0 : W.drew.cell? ⟨w.heap.size + 1, 0, none⟩ = some (.int .u64 n) := p0
  have p1 : W.drew.cell? ⟨w.heap.size + 1, 1, none⟩ = some (.bool more) := p1
  have p2 : W.drew.cell? ⟨w.heap.size + 1, 2, none⟩ = some (.int .i64 e0) := p2
  clear HWW
  have hmin : ∀ (w : World) (ts : Array TypeId) (t : TypeId), (Builtin.min_ ts t #[.int .u64 (q2 : Int), .int .u64 2139095040]).run Try.prog w = .ok (.int .u64 (out : Int)) w := by
    intro w ts t
    rw [run_min_int2]
    rcases hoc with h | ⟨h, h'⟩ | ⟨h, h'⟩
    · simp at h
    · rw [if_pos (by omega), h']; rfl
    · rw [if_neg (by omega), h']
  clear hoc
  have HO := hide HB.out
  rcases hstc with ⟨k1, hst⟩ | ⟨k1, hst⟩
  · subst hst
    obtain rfl : kk = 0 := by have := HKK.out.1; omega
    obtain rfl : fl = 0 := by have := HKK.out.2; omega
    obtain rfl : q1 = 0 := by rw [Nat.zero_mul] at hq1; exact hq1.symm
    have had0 : IntKind.u64.wrap (cu : Int) = (q2 : Int) := by simpa using had
    have had1 : IntKind.u64.wrap ((cu : Int) + 0) = (q2 : Int) := by simpa using had
    have hw0 : IntKind.u64.wrap 0 = 0 := by decide
    clear hfc hsl had hwk hq1
    go_region_held3 (fun w' => w'.cell? ⟨w.heap.size, 0, none⟩ = some (.int .i64 24) ∧ w'.cell? ⟨w.heap.size, 1, none⟩ = some (.int .i64 (-149)) ∧ w'.cell? ⟨w.heap.size, 2, none⟩ = some (.int .u64 2139095040) ∧ w'.cell? ⟨w.heap.size + 1, 0, none⟩ = some (.int .u64 n) ∧ w'.cell? ⟨w.heap.size + 1, 1, none⟩ = some (.bool more) ∧ w'.cell? ⟨w.heap.size + 1, 2, none⟩ = some (.int .i64 e0)) (exact ⟨o0, o1, o2, p0, p1, p2⟩)
      (first | (go_at_call 21; go_must (refine (HLn.out _).mono ?_); rintro _ w5 ⟨rfl, hw5⟩; have hw5 := hw5.symm; subst hw5))
    go_wp2_with fail
    have HO := hide HB.out.drew
    have o0 : W.drew.drew.cell? ⟨w.heap.size, 0, none⟩ = some (.int .i64 24) := o0
    have o1 : W.drew.drew.cell? ⟨w.heap.size, 1, none⟩ = some (.int .i64 (-149)) := o1
    have o2 : W.drew.drew.cell? ⟨w.heap.size, 2, none⟩ = some (.int .u64 2139095040) := o2
    have p0 : W.drew.drew.cell? ⟨w.heap.size + 1, 0, none⟩ = some (.int .u64 n) := p0
    have p1 : W.drew.drew.cell? ⟨w.heap.size + 1, 1, none⟩ = some (.bool more) := p1
    have p2 : W.drew.drew.cell? ⟨w.heap.size + 1, 2, none⟩ = some (.int .i64 e0) := p2
    go_region_held3 (fun w' => w'.cell? ⟨w.heap.size, 0, none⟩ = some (.int .i64 24) ∧ w'.cell? ⟨w.heap.size, 1, none⟩ = some (.int .i64 (-149)) ∧ w'.cell? ⟨w.heap.size, 2, none⟩ = some (.int .u64 2139095040) ∧ w'.cell? ⟨w.heap.size + 1, 0, none⟩ = some (.int .u64 n) ∧ w'.cell? ⟨w.heap.size + 1, 1, none⟩ = some (.bool more) ∧ w'.cell? ⟨w.heap.size + 1, 2, none⟩ = some (.int .i64 e0)) (exact ⟨o0, o1, o2, p0, p1, p2⟩)
      (first | (simp only [hmin]; done) | (go_at_call 22; go_must (refine (HW.out _).mono ?_); rintro _ w5 ⟨rfl, B5⟩; have HO := hide (HO.out.trans (B5.mono HO.out.size)); have o0 : w5.cell? ⟨w.heap.size, 0, none⟩ = some (.int .i64 24) := (by rw [B5.cell (p := ⟨w.heap.size, 0, none⟩) (block_lt_of_cell o0)]; exact o0); have o1 : w5.cell? ⟨w.heap.size, 1, none⟩ = some (.int .i64 (-149)) := (by rw [B5.cell (p := ⟨w.heap.size, 1, none⟩) (block_lt_of_cell o1)]; exact o1); have o2 : w5.cell? ⟨w.heap.size, 2, none⟩ = some (.int .u64 2139095040) := (by rw [B5.cell (p := ⟨w.heap.size, 2, none⟩) (block_lt_of_cell o2)]; exact o2); have p0 : w5.cell? ⟨w.heap.size + 1, 0, none⟩ = some (.int .u64 n) := (by rw [B5.cell (p := ⟨w.heap.size + 1, 0, none⟩) (block_lt_of_cell p0)]; exact p0); have p1 : w5.cell? ⟨w.heap.size + 1, 1, none⟩ = some (.bool more) := (by rw [B5.cell (p := ⟨w.heap.size + 1, 1, none⟩) (block_lt_of_cell p1)]; exact p1); have p2 : w5.cell? ⟨w.heap.size + 1, 2, none⟩ = some (.int .i64 e0) := (by rw [B5.cell (p := ⟨w.heap.size + 1, 2, none⟩) (block_lt_of_cell p2)]; exact p2); clear B5))
    go_wp2_with fail
    go_ret
    exact ⟨rfl, HO.out⟩
  · subst hst
    rcases hfc with ⟨k2, hfl⟩ | ⟨k2, hfl⟩
    · subst hfl
      have hsla : IntKind.u64.wrap (2048 * 8388608) = (q1 : Int) := hsl
      have hslb : IntKind.u64.wrap 17179869184 = (q1 : Int) := hsl
      have hk3 : st + 149 = (kk : Int) := by have := HKK.out.1; omega
      have k3 : 2048 < st + 149 := by omega
      clear hsl hq1 k2 hk3
      go_region_held3 (fun w' => w'.cell? ⟨w.heap.size, 0, none⟩ = some (.int .i64 24) ∧ w'.cell? ⟨w.heap.size, 1, none⟩ = some (.int .i64 (-149)) ∧ w'.cell? ⟨w.heap.size, 2, none⟩ = some (.int .u64 2139095040) ∧ w'.cell? ⟨w.heap.size + 1, 0, none⟩ = some (.int .u64 n) ∧ w'.cell? ⟨w.heap.size + 1, 1, none⟩ = some (.bool more) ∧ w'.cell? ⟨w.heap.size + 1, 2, none⟩ = some (.int .i64 e0)) (exact ⟨o0, o1, o2, p0, p1, p2⟩)
        (first | (go_at_call 21; go_must (refine (HLn.out _).mono ?_); rintro _ w5 ⟨rfl, hw5⟩; have hw5 := hw5.symm; subst hw5))
      go_wp2_with fail
      have HO := hide HB.out.drew
      have o0 : W.drew.drew.cell? ⟨w.heap.size, 0, none⟩ = some (.int .i64 24) := o0
      have o1 : W.drew.drew.cell? ⟨w.heap.size, 1, none⟩ = some (.int .i64 (-149)) := o1
      have o2 : W.drew.drew.cell? ⟨w.heap.size, 2, none⟩ = some (.int .u64 2139095040) := o2
      have p0 : W.drew.drew.cell? ⟨w.heap.size + 1, 0, none⟩ = some (.int .u64 n) := p0
      have p1 : W.drew.drew.cell? ⟨w.heap.size + 1, 1, none⟩ = some (.bool more) := p1
      have p2 : W.drew.drew.cell? ⟨w.heap.size + 1, 2, none⟩ = some (.int .i64 e0) := p2
      go_region_held3 (fun w' => w'.cell? ⟨w.heap.size, 0, none⟩ = some (.int .i64 24) ∧ w'.cell? ⟨w.heap.size, 1, none⟩ = some (.int .i64 (-149)) ∧ w'.cell? ⟨w.heap.size, 2, none⟩ = some (.int .u64 2139095040) ∧ w'.cell? ⟨w.heap.size + 1, 0, none⟩ = some (.int .u64 n) ∧ w'.cell? ⟨w.heap.size + 1, 1, none⟩ = some (.bool more) ∧ w'.cell? ⟨w.heap.size + 1, 2, none⟩ = some (.int .i64 e0)) (exact ⟨o0, o1, o2, p0, p1, p2⟩)
        (first | (simp only [hmin]; done) | (go_at_call 22; go_must (refine (HW.out _).mono ?_); rintro _ w5 ⟨rfl, B5⟩; have HO := hide (HO.out.trans (B5.mono HO.out.size)); have o0 : w5.cell? ⟨w.heap.size, 0, none⟩ = some (.int .i64 24) := (by rw [B5.cell (p := ⟨w.heap.size, 0, none⟩) (block_lt_of_cell o0)]; exact o0); have o1 : w5.cell? ⟨w.heap.size, 1, none⟩ = some (.int .i64 (-149)) := (by rw [B5.cell (p := ⟨w.heap.size, 1, none⟩) (block_lt_of_cell o1)]; exact o1); have o2 : w5.cell? ⟨w.heap.size, 2, none⟩ = some (.int .u64 2139095040) := (by rw [B5.cell (p := ⟨w.heap.size, 2, none⟩) (block_lt_of_cell o2)]; exact o2); have p0 : w5.cell? ⟨w.heap.size + 1, 0, none⟩ = some (.int .u64 n) := (by rw [B5.cell (p := ⟨w.heap.size + 1, 0, none⟩) (block_lt_of_cell p0)]; exact p0); have p1 : w5.cell? ⟨w.heap.size + 1, 1, none⟩ = some (.bool more) := (by rw [B5.cell (p := ⟨w.heap.size + 1, 1, none⟩) (block_lt_of_cell p1)]; exact p1); have p2 : w5.cell? ⟨w.heap.size + 1, 2, none⟩ = some (.int .i64 e0) := (by rw [B5.cell (p := ⟨w.heap.size + 1, 2, none⟩) (block_lt_of_cell p2)]; exact p2); clear B5))
      go_wp2_with fail
      go_ret
      exact ⟨rfl, HO.out⟩
    · subst hfl
      have hk3 : st + 149 = (fl : Int) := by have := HKK.out.1; omega
      have k3 : ¬ (2048 : Int) < (fl : Int) := by omega
      clear hq1 k2
      go_region_held3 (fun w' => w'.cell? ⟨w.heap.size, 0, none⟩ = some (.int .i64 24) ∧ w'.cell? ⟨w.heap.size, 1, none⟩ = some (.int .i64 (-149)) ∧ w'.cell? ⟨w.heap.size, 2, none⟩ = some (.int .u64 2139095040) ∧ w'.cell? ⟨w.heap.size + 1, 0, none⟩ = some (.int .u64 n) ∧ w'.cell? ⟨w.heap.size + 1, 1, none⟩ = some (.bool more) ∧ w'.cell? ⟨w.heap.size + 1, 2, none⟩ = some (.int .i64 e0)) (exact ⟨o0, o1, o2, p0, p1, p2⟩)
        (first | (go_at_call 21; go_must (refine (HLn.out _).mono ?_); rintro _ w5 ⟨rfl, hw5⟩; have hw5 := hw5.symm; subst hw5))
      go_wp2_with (simp only [hk3])
      have HO := hide HB.out.drew
      have o0 : W.drew.drew.cell? ⟨w.heap.size, 0, none⟩ = some (.int .i64 24) := o0
      have o1 : W.drew.drew.cell? ⟨w.heap.size, 1, none⟩ = some (.int .i64 (-149)) := o1
      have o2 : W.drew.drew.cell? ⟨w.heap.size, 2, none⟩ = some (.int .u64 2139095040) := o2
      have p0 : W.drew.drew.cell? ⟨w.heap.size + 1, 0, none⟩ = some (.int .u64 n) := p0
      have p1 : W.drew.drew.cell? ⟨w.heap.size + 1, 1, none⟩ = some (.bool more) := p1
      have p2 : W.drew.drew.cell? ⟨w.heap.size + 1, 2, none⟩ = some (.int .i64 e0) := p2
      go_region_held3 (fun w' => w'.cell? ⟨w.heap.size, 0, none⟩ = some (.int .i64 24) ∧ w'.cell? ⟨w.heap.size, 1, none⟩ = some (.int .i64 (-149)) ∧ w'.cell? ⟨w.heap.size, 2, none⟩ = some (.int .u64 2139095040) ∧ w'.cell? ⟨w.heap.size + 1, 0, none⟩ = some (.int .u64 n) ∧ w'.cell? ⟨w.heap.size + 1, 1, none⟩ = some (.bool more) ∧ w'.cell? ⟨w.heap.size + 1, 2, none⟩ = some (.int .i64 e0)) (exact ⟨o0, o1, o2, p0, p1, p2⟩)
        (first | (simp only [hmin]; done) | (go_at_call 22; go_must (refine (HW.out _).mono ?_); rintro _ w5 ⟨rfl, B5⟩; have HO := hide (HO.out.trans (B5.mono HO.out.size)); have o0 : w5.cell? ⟨w.heap.size, 0, none⟩ = some (.int .i64 24) := (by rw [B5.cell (p := ⟨w.heap.size, 0, none⟩) (block_lt_of_cell o0)]; exact o0); have o1 : w5.cell? ⟨w.heap.size, 1, none⟩ = some (.int .i64 (-149)) := (by rw [B5.cell (p := ⟨w.heap.size, 1, none⟩) (block_lt_of_cell o1)]; exact o1); have o2 : w5.cell? ⟨w.heap.size, 2, none⟩ = some (.int .u64 2139095040) := (by rw [B5.cell (p := ⟨w.heap.size, 2, none⟩) (block_lt_of_cell o2)]; exact o2); have p0 : w5.cell? ⟨w.heap.size + 1, 0, none⟩ = some (.int .u64 n) := (by rw [B5.cell (p := ⟨w.heap.size + 1, 0, none⟩) (block_lt_of_cell p0)]; exact p0); have p1 : w5.cell? ⟨w.heap.size + 1, 1, none⟩ = some (.bool more) := (by rw [B5.cell (p := ⟨w.heap.size + 1, 1, none⟩) (block_lt_of_cell p1)]; exact p1); have p2 : w5.cell? ⟨w.heap.size + 1, 2, none⟩ = some (.int .i64 e0) := (by rw [B5.cell (p := ⟨w.heap.size + 1, 2, none⟩) (block_lt_of_cell p2)]; exact p2); clear B5))
      go_wp2_with fail
      go_ret
      exact ⟨rfl, HO.out⟩

end Go.Proofs.Ytanijhgmgldiiaa

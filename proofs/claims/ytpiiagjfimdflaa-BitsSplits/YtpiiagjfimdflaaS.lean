/- The walk of BitsSplits. -/
import Derived.Test.YtpiiagjfimdflaaU
import Derived.Test.YtpiiagjfimdflaaJ
namespace Go.Proofs.Ytpiiagjfimdflaa
open Go.RowKit
open M
set_option linter.unusedVariables false

theorem tmod_cases (i n : Int) (hn : 0 < n) : i.tmod n = i % n ∨ i.tmod n = i % n - n := by
  rw [Int.tmod_eq_emod]
  split
  · left; simp
  · right; omega

theorem within_any (i n : Int) (w : World) (hn : 0 < n) (hn2 : n ≤ 100) (h1 : -9223372036854775808 ≤ i) (h2 : i ≤ 9223372036854775807) :
    Calls Try.prog 40 #[.int .i64 i, .int .i64 n] w fun e w' => e = .returned (.int .i64 (i % n)) ∧ w' = w := by
  have hne : ¬ n = 0 := by omega
  have hne' : (n == 0) = false := by rw [beq_eq_false_iff_ne]; exact hne
  have hc := tmod_cases i n hn
  have hm0 := Int.emod_nonneg i hne
  have hm1 := Int.emod_lt_of_pos i hn
  by_cases hneg : i.tmod n < 0
  · have hb : -100 ≤ i.tmod n := by omega
    have hs : Hid (i.tmod n + n = i % n) := by show _ = _; omega
    clear hc hm0 hm1
    go_enter Try.func40, Try.ntmps40
    go_wp2_with fail
    go_ret
    exact ⟨by rw [← hs.out]; rfl, rfl⟩
  · have hs : Hid (i.tmod n = i % n) := by show _ = _; omega
    clear hc hm0 hm1
    go_enter Try.func40, Try.ntmps40
    go_wp2_with fail
    go_ret
    exact ⟨by rw [← hs.out]; rfl, rfl⟩

section
variable (n m : Nat → Int) (x : Nat → Nat)
/-- The width of number i, how many of its bits are laid apart, the number. -/
def wd (i : Nat) : Nat := (m i % 65).toNat
def lw (i : Nat) : Nat := (n i % ((wd m i : Int) + 1)).toNat
def yy (i : Nat) : Nat := x i % 2 ^ wd m i
/-- What the first k numbers are laid as. -/
def LL (k : Nat) : List Bool := (List.range k).flatMap fun i => bitsOf (yy m x i) (wd m i)

theorem wd_le (i : Nat) : wd m i ≤ 64 := by unfold wd; omega
theorem wd_cast (i : Nat) : ((wd m i : Nat) : Int) = m i % 65 := by unfold wd; omega
theorem lw_le (i : Nat) : lw n m i ≤ wd m i := by
  unfold lw
  have h1 := Int.emod_nonneg (n i) (show ((wd m i : Int) + 1) ≠ 0 from by omega)
  have h2 := Int.emod_lt_of_pos (n i) (show 0 < ((wd m i : Int) + 1) from by omega)
  omega
theorem lw_cast (i : Nat) : ((lw n m i : Nat) : Int) = n i % ((wd m i : Int) + 1) := by
  unfold lw
  have h1 := Int.emod_nonneg (n i) (show ((wd m i : Int) + 1) ≠ 0 from by omega)
  omega
theorem yy_lt (i : Nat) : yy m x i < 2 ^ wd m i := Nat.mod_lt _ (Nat.pos_of_ne_zero (by simp))
theorem LL_succ (k : Nat) : LL m x (k + 1) = LL m x k ++ bitsOf (yy m x k) (wd m k) := by
  simp [LL, List.range_succ]
theorem LL_len (k : Nat) : (LL m x k).length ≤ 64 * k := by
  induction k with
  | zero => simp [LL]
  | succ k ih => rw [LL_succ]; have := wd_le m k; simp; omega
end

theorem pow_facts (X Y W : Nat) (hW : W < 64) (hY : Y = X % 2 ^ W) : ∃ p2 : Nat, IntKind.u64.wrap (2 ^ W) = (p2 : Int) ∧ 0 < p2 ∧ (X : Int) % (p2 : Int) = (Y : Int) := by
  have hpos : 0 < 2 ^ W := Nat.pos_of_ne_zero (by simp)
  have hle : (2 : Nat) ^ W ≤ 2 ^ 63 := Nat.pow_le_pow_right (by omega) (by omega)
  refine ⟨2 ^ W, ?_, hpos, by rw [hY]; simp⟩
  have e : ((2 : Int) ^ W) = ((2 ^ W : Nat) : Int) := by simp
  rw [e, wraps_u64 _ (by omega) (by omega)]

theorem split_facts (L : List Bool) (Y W lo wl : Nat) (hwl : W = wl + lo) (hW : W ≤ 64) (hlo : lo < 64) (hYb : Y < 18446744073709551616) (hy : Y < 2 ^ W) :
    ∃ hi : Nat, ((Y : Int) / 2 ^ lo = (hi : Int) ∧ hi < 18446744073709551616) ∧ Hid (hi < 2 ^ wl) ∧ ∃ z q2 : Nat, ((Y : Int) % (q2 : Int) = (z : Int) ∧ z < 18446744073709551616) ∧ Hid (z < 2 ^ lo) ∧ IntKind.u64.wrap (2 ^ lo) = (q2 : Int) ∧ 0 < q2 ∧
      Hid (L ++ bitsOf hi wl ++ bitsOf z lo = L ++ bitsOf Y W) := by
  obtain ⟨q2, h1, h2, h3⟩ := pow_facts Y (Y % 2 ^ lo) lo hlo rfl
  have hpos : 0 < 2 ^ lo := Nat.pos_of_ne_zero (by simp)
  refine ⟨Y / 2 ^ lo, ⟨by simp, ?_⟩, ?_, Y % 2 ^ lo, q2, ⟨h3, ?_⟩, Nat.mod_lt _ hpos, h1, h2, ?_⟩
  · exact Nat.lt_of_le_of_lt (Nat.div_le_self _ _) hYb
  · show _ < _
    rw [hwl, Nat.pow_add] at hy
    exact Nat.div_lt_of_lt_mul (by rw [Nat.mul_comm]; exact hy)
  · exact Nat.lt_of_le_of_lt (Nat.mod_le _ _) hYb
  · show _ = _
    rw [bitsOf_mod, List.append_assoc, hwl, ← bitsOf_split]

theorem bit_next (L : List Bool) (Y W j : Nat) (h : j + 1 ≤ W) : L ++ bitsOf (Y / 2 ^ (j + 1)) (W - (j + 1)) ++ [(((Y : Int) / 2 ^ j).tmod 2 == 1)] = L ++ bitsOf (Y / 2 ^ j) (W - j) := by
  rw [List.append_assoc]
  congr 1
  have h1 := bitsOf_split (Y / 2 ^ j) (W - (j + 1)) 1
  rw [show W - (j + 1) + 1 = W - j from by omega, Nat.div_div_eq_div_mul, ← Nat.pow_add] at h1
  rw [h1]
  congr 1
  have e : ((Y : Int) / 2 ^ j).tmod 2 = ((Y / 2 ^ j % 2 : Nat) : Int) := by
    have h0 : (Y : Int) / 2 ^ j = ((Y / 2 ^ j : Nat) : Int) := by simp
    rw [h0, Int.tmod_eq_emod_of_nonneg (Int.natCast_nonneg _)]; omega
  rw [e]
  simp only [bitsOf, Nat.pow_zero, Nat.div_one]
  generalize Y / 2 ^ j % 2 = y
  by_cases hy : y = 1
  · subst hy; rfl
  · have : ¬ (y : Int) = 1 := by omega
    rw [beq_eq_false_iff_ne.2 hy, beq_eq_false_iff_ne.2 this]

theorem sum_back (Y W lo : Nat) (hW : W ≤ 64) (hlo : lo ≤ W) (hy : Y < 2 ^ W) : lo < 64 → IntKind.u64.wrap (IntKind.u64.wrap (((Y / 2 ^ lo : Nat) : Int) * 2 ^ lo) + ((Y % 2 ^ lo : Nat) : Int)) = (Y : Int) := by
  intro _
  have hle : (2 : Nat) ^ W ≤ 2 ^ 64 := Nat.pow_le_pow_right (by omega) hW
  have hd := Nat.div_add_mod Y (2 ^ lo)
  have e : (((Y / 2 ^ lo : Nat) : Int) * 2 ^ lo) = ((2 ^ lo * (Y / 2 ^ lo) : Nat) : Int) := by simp [Int.mul_comm]
  rw [e]
  generalize 2 ^ lo * (Y / 2 ^ lo) = p at *
  generalize Y % 2 ^ lo = r at *
  rw [wraps_u64 p (by omega) (by omega), wraps_u64 _ (by omega) (by omega)]
  omega

theorem LL_prefix (m : Nat → Int) (x : Nat → Nat) (k j : Nat) (h : k + 1 ≤ j) : ∃ rest, LL m x j = LL m x k ++ bitsOf (yy m x k) (wd m k) ++ rest := by
  obtain ⟨i, rfl⟩ : ∃ i, j = k + 1 + i := ⟨j - (k + 1), by omega⟩
  clear h
  induction i with
  | zero => exact ⟨[], by rw [Nat.add_zero, LL_succ]; simp⟩
  | succ i ih =>
    obtain ⟨rest, hr⟩ := ih
    exact ⟨rest ++ bitsOf (yy m x (k + 1 + i)) (wd m (k + 1 + i)), by rw [← Nat.add_assoc, LL_succ, hr]; simp⟩

/-- What the two Readers find at number k. -/
theorem read_facts (R A rest : List Bool) (Y W lo wl : Nat) (hwl : W = wl + lo) (hy : Y < 2 ^ W) (hR : R = A ++ bitsOf Y W ++ rest) :
    num ((R.drop A.length).take W) = Y ∧ num ((R.drop A.length).take wl) = Y / 2 ^ lo ∧ num ((R.drop (A.length + wl)).take lo) = Y % 2 ^ lo := by
  subst hR
  have h1 := part_take A (bitsOf Y W) rest 0 W (by simp)
  have h2 := part_take A (bitsOf Y W) rest 0 wl (by simp; omega)
  have h3 := part_take A (bitsOf Y W) rest wl lo (by simp; omega)
  rw [Nat.add_zero, List.drop_zero] at h1 h2
  refine ⟨?_, ?_, ?_⟩
  · rw [h1, List.take_of_length_le (by simp), num_bitsOf]; exact Nat.mod_eq_of_lt hy
  · rw [h2, take_bitsOf _ _ _ (by omega), num_bitsOf, show W - wl = lo from by omega]
    rw [hwl, Nat.pow_add] at hy
    exact Nat.mod_eq_of_lt (Nat.div_lt_of_lt_mul (by rw [Nat.mul_comm]; exact hy))
  · rw [h3, drop_bitsOf _ _ _ (by omega), show W - wl = lo from by omega, List.take_of_length_le (by simp), num_bitsOf]

theorem three_new (w : World) : let w0 := ((w.alloc (.cells Try.zeroCells27 27)).alloc (.cells Try.zeroCells27 27)).alloc (.cells Try.zeroCells27 27)
    Wr w0 (w.heap.size + 3) w.heap.size 0 [] 0 ∧ Wr w0 (w.heap.size + 3) (w.heap.size + 1) 0 [] 0 ∧ Wr w0 (w.heap.size + 3) (w.heap.size + 1 + 1) 0 [] 0 ∧ w.heap.size + 3 ≤ w0.heap.size ∧ Below w.heap.size w w0 := by
  intro w0
  have s1 : (w.alloc (.cells Try.zeroCells27 27)).heap.size = w.heap.size + 1 := by simp
  have s2 : ((w.alloc (.cells Try.zeroCells27 27)).alloc (.cells Try.zeroCells27 27)).heap.size = w.heap.size + 1 + 1 := by simp
  have h0 := heap_alloc_new w (.cells Try.zeroCells27 27)
  have h1 := heap_alloc_new (w.alloc (.cells Try.zeroCells27 27)) (.cells Try.zeroCells27 27)
  have h2 := heap_alloc_new ((w.alloc (.cells Try.zeroCells27 27)).alloc (.cells Try.zeroCells27 27)) (.cells Try.zeroCells27 27)
  rw [s1] at h1
  rw [s2] at h2
  refine ⟨wr_of (new_kept (new_kept h0 _) _), wr_of (new_kept h1 _), wr_of h2, ?_, ?_⟩
  · show _ ≤ (World.alloc _ _).heap.size; simp
  · exact (((Below.refl _ _).alloc (Nat.le_refl _) _).alloc (by simp) _).alloc (by simp; omega) _

set_option maxRecDepth 100000 in
set_option maxHeartbeats 4000000 in
theorem splits_any (a0 : Option Addr) (b off len cap : Nat) (d n m : Nat → Int) (x : Nat → Nat) (w : World) (hlen : len ≤ 9223372036854775807) (ha0 : 0 < len → a0 = some ⟨b, off, none⟩ ∧ b < w.heap.size) (hops : ∀ i, i < len → OpAt w b (off + i * 4) (d i) (n i) (m i) (x i)) :
    Calls Try.prog 8 #[.slice a0 len cap] w fun e w' => e = .returned (.bool true) ∧ Below w.heap.size w w' := by
  have HO : Hid (∀ i, i < len → OpAt w b (off + i * 4) (d i) (n i) (m i) (x i)) := hops
  have HA0 : Hid (0 < len → a0 = some ⟨b, off, none⟩ ∧ b < w.heap.size) := ha0
  clear hops ha0
  have F := three_new w
  go_enter Try.func8, Try.ntmps8
  go_wp2
  generalize ((w.alloc (.cells Try.zeroCells27 27)).alloc (.cells Try.zeroCells27 27)).alloc (.cells Try.zeroCells27 27) = w0 at *
  have F0 : Hid (Wr w0 (w.heap.size + 3) w.heap.size 0 [] 0 ∧ Wr w0 (w.heap.size + 3) (w.heap.size + 1) 0 [] 0 ∧ Wr w0 (w.heap.size + 3) (w.heap.size + 1 + 1) 0 [] 0 ∧ w.heap.size + 3 ≤ w0.heap.size ∧ Below w.heap.size w w0) := F
  clear F
  go_loopw [6, 7] (fun t6 t7 wr => ∃ (k q : Nat), k ≤ 100 ∧ q ≤ 6400 ∧ t6 = .int .i64 q ∧ t7 = .int .i64 k ∧ Hid (q = (LL m x k).length) ∧ Hid (k ≤ len) ∧
      Hid (Wr wr (w.heap.size + 3) w.heap.size 0 (LL m x k) 0 ∧ Wr wr (w.heap.size + 3) (w.heap.size + 1) 0 (LL m x k) 0 ∧ Wr wr (w.heap.size + 3) (w.heap.size + 1 + 1) 0 (LL m x k) 0 ∧ w.heap.size + 3 ≤ wr.heap.size ∧ Below w.heap.size w wr)) (fun _ t7 _ => 100 - (intOf t7).toNat)
  case atStart => exact ⟨0, 0, by omega, by omega, rfl, rfl, rfl, Nat.zero_le _, F0⟩
  case round =>
    obtain ⟨k, q, hk, hq, rfl, rfl, Hq, Hk, HW⟩ := hrel
    by_cases hlt : k < len ∧ k < 100
    · obtain ⟨hl1, hl2⟩ := hlt
      obtain ⟨ha0, hb⟩ := HA0.out (by omega)
      subst ha0
      obtain ⟨c0, c1, c2, c3, bd, bn, bx, bm⟩ := HO.out k hl1
      have ec : ∀ j, wr.cell? ⟨b, off + k * 4 + j, none⟩ = w.cell? ⟨b, off + k * 4 + j, none⟩ := fun j => HW.out.2.2.2.2.cell (p := ⟨b, off + k * 4 + j, none⟩) hb
      have e1 := (ec 1).trans c1
      have e2 := (ec 2).trans c2
      have e3 := (ec 3).trans c3
      clear ec c0 c1 c2 c3
      have hW := wd_le m k
      have hlo := lw_le n m k
      have hw1 := wd_cast m k
      have hl1' := lw_cast n m k
      have hy := yy_lt m x k
      have hyy : Hid (yy m x k = x k % 2 ^ wd m k) := rfl
      have HS : Hid (LL m x (k + 1) = LL m x k ++ bitsOf (yy m x k) (wd m k)) := LL_succ m x k
      have HLn := LL_len m x k
      have HQ := Hq.out
      generalize wd m k = W at *
      generalize lw n m k = lo at *
      generalize yy m x k = Y at *
      generalize x k = X at *
      generalize m k = mk at *
      generalize n k = nk at *
      generalize LL m x k = L at *
      generalize hL' : LL m x (k + 1) = L' at *
      have HL' : Hid (LL m x (k + 1) = L') := hL'
      clear hL'
      have Hw1 : Hid ((W : Int) = mk % 65) := hw1
      have Hl1 : Hid ((lo : Int) = nk % ((W : Int) + 1)) := hl1'
      have Hy : Hid (Y < 2 ^ W) := hy
      have HLl : Hid (L.length ≤ 64 * k) := HLn
      clear hw1 hl1' hy HLn Hq
      have HQ' : Hid (q = L.length) := HQ
      clear HQ
      go_wp2_with fail
      refine (within_any mk 65 _ (by omega) (by omega) bm.1 bm.2).mono ?_
      rintro e w1 ⟨rfl, rfl⟩
      rw [← Hw1.out]
      go_wp2_with fail
      refine (within_any nk ((W : Int) + 1) _ (by omega) (by omega) bn.1 bn.2).mono ?_
      rintro e w1 ⟨rfl, rfl⟩
      rw [← Hl1.out]
      by_cases hW64 : W < 64
      · obtain ⟨p2, hp2, hp0, hmod⟩ : ∃ p2 : Nat, IntKind.u64.wrap (2 ^ W) = (p2 : Int) ∧ 0 < p2 ∧ (X : Int) % (p2 : Int) = (Y : Int) := pow_facts X Y W hW64 hyy.out
        have hlo64 : lo < 64 := by omega
        have hYb : Y < 18446744073709551616 := by have h1 := Hy.out; have h2 : (2 : Nat) ^ W ≤ 2 ^ 64 := Nat.pow_le_pow_right (by omega) hW; omega
        obtain ⟨wl, hwl⟩ : ∃ wl : Nat, (W : Int) - (lo : Int) = (wl : Int) := ⟨W - lo, by omega⟩
        obtain ⟨hi, ⟨hhi, hhib⟩, Hhi, z, q2, ⟨hz, hzb⟩, Hz, hq2, hq0, Hjoin⟩ := split_facts L Y W lo wl (by omega) hW hlo64 hYb Hy.out
        go_wp2_with fail
        obtain ⟨V0, W0, X0, s0, B0⟩ := HW.out
        refine (wbits_any w.heap.size 0 (w.heap.size + 3) W Y w1 L V0 (by omega) s0 (by have := HLl.out; omega) hW (by omega) Hy.out).mono ?_
        rintro e w2 ⟨rfl, V1, O1⟩
        have W1 := W0.other O1 (by omega) (by omega)
        have X1 := X0.other O1 (by omega) (by omega)
        have s1 := Nat.le_trans s0 O1.size
        have B1 := B0.trans (O1.below (Nat.le_refl _) (by omega))
        clear V0 W0 X0 s0 B0 O1 HW
        go_wp2_with fail
        refine (wbits_any (w.heap.size + 1) 0 (w.heap.size + 3) wl hi w2 L W1 (by omega) s1 (by have := HLl.out; omega) (by omega) (by omega) Hhi.out).mono ?_
        rintro e w3 ⟨rfl, W2, O2⟩
        have V2 := V1.other O2 (by omega) (by omega)
        have X2 := X1.other O2 (by omega) (by omega)
        have s2 := Nat.le_trans s1 O2.size
        have B2 := B1.trans (O2.below (by omega : w.heap.size ≤ w.heap.size + 1) (by omega))
        clear V1 W1 X1 s1 B1 O2
        go_wp2_with fail
        refine (wbits_any (w.heap.size + 1) 0 (w.heap.size + 3) lo z w3 _ W2 (by omega) s2 (by have := HLl.out; simp; omega) (by omega) (by omega) Hz.out).mono ?_
        rintro e w4 ⟨rfl, W3, O3⟩
        have V3 := V2.other O3 (by omega) (by omega)
        have X3 := X2.other O3 (by omega) (by omega)
        have s3 := Nat.le_trans s2 O3.size
        have B3 := B2.trans (O3.below (by omega : w.heap.size ≤ w.heap.size + 1) (by omega))
        rw [Hjoin.out] at W3
        clear V2 W2 X2 s2 B2 O3
        have HI : Hid (Wr w4 (w.heap.size + 3) w.heap.size 0 (L ++ bitsOf Y W) 0 ∧ Wr w4 (w.heap.size + 3) (w.heap.size + 1) 0 (L ++ bitsOf Y W) 0 ∧ Wr w4 (w.heap.size + 3) (w.heap.size + 1 + 1) 0 L 0 ∧ w.heap.size + 3 ≤ w4.heap.size ∧ Below w.heap.size w w4) := ⟨V3, W3, X3, s3, B3⟩
        clear V3 W3 X3 s3 B3
        go_wp2_with fail
        go_loopw [11] (fun t11 wr => ∃ (j : Nat) (t : Int), t11 = .int .i64 t ∧ -1 ≤ t ∧ t ≤ 63 ∧ Hid (t = (j : Int) - 1 ∧ j ≤ W) ∧ Hid (Wr wr (w.heap.size + 3) w.heap.size 0 (L ++ bitsOf Y W) 0 ∧ Wr wr (w.heap.size + 3) (w.heap.size + 1) 0 (L ++ bitsOf Y W) 0 ∧ Wr wr (w.heap.size + 3) (w.heap.size + 1 + 1) 0 (L ++ bitsOf (Y / 2 ^ j) (W - j)) 0 ∧ w.heap.size + 3 ≤ wr.heap.size ∧ Below w.heap.size w wr)) (fun t11 _ => (intOf t11 + 1).toNat)
        case atStart => exact ⟨W, (W : Int) - 1, rfl, by omega, by omega, ⟨rfl, Nat.le_refl _⟩, ⟨HI.out.1, HI.out.2.1, by simpa [bitsOf] using HI.out.2.2.1, HI.out.2.2.2⟩⟩
        case round =>
          obtain ⟨j, t, rfl, ht1, ht2, Hj, HI5⟩ := hrel
          by_cases htn : t < 0
          · have hj0 : j = 0 := by have := Hj.out; omega
            subst hj0
            have HF : Hid (Wr wr (w.heap.size + 3) w.heap.size 0 L' 0 ∧ Wr wr (w.heap.size + 3) (w.heap.size + 1) 0 L' 0 ∧ Wr wr (w.heap.size + 3) (w.heap.size + 1 + 1) 0 L' 0 ∧ w.heap.size + 3 ≤ wr.heap.size ∧ Below w.heap.size w wr) := by
              show _ ∧ _ ∧ _ ∧ _ ∧ _
              rw [HS.out]
              exact ⟨HI5.out.1, HI5.out.2.1, by simpa using HI5.out.2.2.1, HI5.out.2.2.2⟩
            have HqL : Hid (q + W = L'.length) := by show _ = _; rw [HS.out, HQ'.out]; simp
            have hqW : q + W ≤ 6400 := by have h1 := HQ'.out; have h2 := HLl.out; omega
            clear HI5
            go_wp2_with fail
            refine ⟨⟨k + 1, q + W, by omega, hqW, by go_num, by go_num, by show _ = _; rw [HL'.out]; exact HqL.out, hl1, by rw [HL'.out]; exact HF⟩, by simp [intOf]; omega⟩
          · obtain ⟨j', rfl⟩ : ∃ j' : Nat, t = (j' : Int) := ⟨t.toNat, by omega⟩
            have hj0 : j = j' + 1 := by have := Hj.out; omega
            subst hj0
            have hjW := Hj.out.2
            obtain ⟨V5, W5, X5, s5, B5⟩ := HI5.out
            go_wp2_with fail
            refine (wbit_any (w.heap.size + 1 + 1) 0 (w.heap.size + 3) _ wr _ X5 (by omega) s5 (by have := HLl.out; simp; omega)).mono ?_
            rintro e w6 ⟨rfl, X6, O6⟩
            have V6 := V5.other O6 (by omega) (by omega)
            have W6 := W5.other O6 (by omega) (by omega)
            have s6 := Nat.le_trans s5 O6.size
            have B6 := B5.trans (O6.below (by omega : w.heap.size ≤ w.heap.size + 1 + 1) (by omega))
            rw [bit_next L Y W j' hjW] at X6
            have HI6 : Hid (Wr w6 (w.heap.size + 3) w.heap.size 0 (L ++ bitsOf Y W) 0 ∧ Wr w6 (w.heap.size + 3) (w.heap.size + 1) 0 (L ++ bitsOf Y W) 0 ∧ Wr w6 (w.heap.size + 3) (w.heap.size + 1 + 1) 0 (L ++ bitsOf (Y / 2 ^ j') (W - j')) 0 ∧ w.heap.size + 3 ≤ w6.heap.size ∧ Below w.heap.size w w6) := ⟨V6, W6, X6, s6, B6⟩
            clear V5 W5 X5 s5 B5 V6 W6 X6 s6 B6 O6 HI5
            go_wp2_with fail
            refine ⟨⟨j', (j' : Int) - 1, by go_num, by omega, by omega, ⟨rfl, by omega⟩, HI6⟩, by simp [intOf]⟩
      · have hXY : X = Y := by have h1 := hyy.out; rw [show W = 64 from by omega] at h1; omega
        have hYb : Y < 18446744073709551616 := by omega
        have hXYi : (X : Int) = (Y : Int) := by omega
        clear hXY
        by_cases hlo64 : lo < 64
        · obtain ⟨wl, hwl⟩ : ∃ wl : Nat, (W : Int) - (lo : Int) = (wl : Int) := ⟨W - lo, by omega⟩
          obtain ⟨hi, ⟨hhi, hhib⟩, Hhi, z, q2, ⟨hz, hzb⟩, Hz, hq2, hq0, Hjoin⟩ := split_facts L Y W lo wl (by omega) hW hlo64 hYb Hy.out
          go_wp2_with fail
          obtain ⟨V0, W0, X0, s0, B0⟩ := HW.out
          refine (wbits_any w.heap.size 0 (w.heap.size + 3) W Y w1 L V0 (by omega) s0 (by have := HLl.out; omega) hW (by omega) Hy.out).mono ?_
          rintro e w2 ⟨rfl, V1, O1⟩
          have W1 := W0.other O1 (by omega) (by omega)
          have X1 := X0.other O1 (by omega) (by omega)
          have s1 := Nat.le_trans s0 O1.size
          have B1 := B0.trans (O1.below (Nat.le_refl _) (by omega))
          clear V0 W0 X0 s0 B0 O1 HW
          go_wp2_with fail
          refine (wbits_any (w.heap.size + 1) 0 (w.heap.size + 3) wl hi w2 L W1 (by omega) s1 (by have := HLl.out; omega) (by omega) (by omega) Hhi.out).mono ?_
          rintro e w3 ⟨rfl, W2, O2⟩
          have V2 := V1.other O2 (by omega) (by omega)
          have X2 := X1.other O2 (by omega) (by omega)
          have s2 := Nat.le_trans s1 O2.size
          have B2 := B1.trans (O2.below (by omega : w.heap.size ≤ w.heap.size + 1) (by omega))
          clear V1 W1 X1 s1 B1 O2
          go_wp2_with fail
          refine (wbits_any (w.heap.size + 1) 0 (w.heap.size + 3) lo z w3 _ W2 (by omega) s2 (by have := HLl.out; simp; omega) (by omega) (by omega) Hz.out).mono ?_
          rintro e w4 ⟨rfl, W3, O3⟩
          have V3 := V2.other O3 (by omega) (by omega)
          have X3 := X2.other O3 (by omega) (by omega)
          have s3 := Nat.le_trans s2 O3.size
          have B3 := B2.trans (O3.below (by omega : w.heap.size ≤ w.heap.size + 1) (by omega))
          rw [Hjoin.out] at W3
          clear V2 W2 X2 s2 B2 O3
          have HI : Hid (Wr w4 (w.heap.size + 3) w.heap.size 0 (L ++ bitsOf Y W) 0 ∧ Wr w4 (w.heap.size + 3) (w.heap.size + 1) 0 (L ++ bitsOf Y W) 0 ∧ Wr w4 (w.heap.size + 3) (w.heap.size + 1 + 1) 0 L 0 ∧ w.heap.size + 3 ≤ w4.heap.size ∧ Below w.heap.size w w4) := ⟨V3, W3, X3, s3, B3⟩
          clear V3 W3 X3 s3 B3
          go_wp2_with fail
          go_loopw [11] (fun t11 wr => ∃ (j : Nat) (t : Int), t11 = .int .i64 t ∧ -1 ≤ t ∧ t ≤ 63 ∧ Hid (t = (j : Int) - 1 ∧ j ≤ W) ∧ Hid (Wr wr (w.heap.size + 3) w.heap.size 0 (L ++ bitsOf Y W) 0 ∧ Wr wr (w.heap.size + 3) (w.heap.size + 1) 0 (L ++ bitsOf Y W) 0 ∧ Wr wr (w.heap.size + 3) (w.heap.size + 1 + 1) 0 (L ++ bitsOf (Y / 2 ^ j) (W - j)) 0 ∧ w.heap.size + 3 ≤ wr.heap.size ∧ Below w.heap.size w wr)) (fun t11 _ => (intOf t11 + 1).toNat)
          case atStart => exact ⟨W, (W : Int) - 1, rfl, by omega, by omega, ⟨rfl, Nat.le_refl _⟩, ⟨HI.out.1, HI.out.2.1, by simpa [bitsOf] using HI.out.2.2.1, HI.out.2.2.2⟩⟩
          case round =>
            obtain ⟨j, t, rfl, ht1, ht2, Hj, HI5⟩ := hrel
            by_cases htn : t < 0
            · have hj0 : j = 0 := by have := Hj.out; omega
              subst hj0
              have HF : Hid (Wr wr (w.heap.size + 3) w.heap.size 0 L' 0 ∧ Wr wr (w.heap.size + 3) (w.heap.size + 1) 0 L' 0 ∧ Wr wr (w.heap.size + 3) (w.heap.size + 1 + 1) 0 L' 0 ∧ w.heap.size + 3 ≤ wr.heap.size ∧ Below w.heap.size w wr) := by
                show _ ∧ _ ∧ _ ∧ _ ∧ _
                rw [HS.out]
                exact ⟨HI5.out.1, HI5.out.2.1, by simpa using HI5.out.2.2.1, HI5.out.2.2.2⟩
              have HqL : Hid (q + W = L'.length) := by show _ = _; rw [HS.out, HQ'.out]; simp
              have hqW : q + W ≤ 6400 := by have h1 := HQ'.out; have h2 := HLl.out; omega
              clear HI5
              go_wp2_with fail
              refine ⟨⟨k + 1, q + W, by omega, hqW, by go_num, by go_num, by show _ = _; rw [HL'.out]; exact HqL.out, hl1, by rw [HL'.out]; exact HF⟩, by simp [intOf]; omega⟩
            · obtain ⟨j', rfl⟩ : ∃ j' : Nat, t = (j' : Int) := ⟨t.toNat, by omega⟩
              have hj0 : j = j' + 1 := by have := Hj.out; omega
              subst hj0
              have hjW := Hj.out.2
              obtain ⟨V5, W5, X5, s5, B5⟩ := HI5.out
              go_wp2_with fail
              refine (wbit_any (w.heap.size + 1 + 1) 0 (w.heap.size + 3) _ wr _ X5 (by omega) s5 (by have := HLl.out; simp; omega)).mono ?_
              rintro e w6 ⟨rfl, X6, O6⟩
              have V6 := V5.other O6 (by omega) (by omega)
              have W6 := W5.other O6 (by omega) (by omega)
              have s6 := Nat.le_trans s5 O6.size
              have B6 := B5.trans (O6.below (by omega : w.heap.size ≤ w.heap.size + 1 + 1) (by omega))
              rw [bit_next L Y W j' hjW] at X6
              have HI6 : Hid (Wr w6 (w.heap.size + 3) w.heap.size 0 (L ++ bitsOf Y W) 0 ∧ Wr w6 (w.heap.size + 3) (w.heap.size + 1) 0 (L ++ bitsOf Y W) 0 ∧ Wr w6 (w.heap.size + 3) (w.heap.size + 1 + 1) 0 (L ++ bitsOf (Y / 2 ^ j') (W - j')) 0 ∧ w.heap.size + 3 ≤ w6.heap.size ∧ Below w.heap.size w w6) := ⟨V6, W6, X6, s6, B6⟩
              clear V5 W5 X5 s5 B5 V6 W6 X6 s6 B6 O6 HI5
              go_wp2_with fail
              refine ⟨⟨j', (j' : Int) - 1, by go_num, by omega, by omega, ⟨rfl, by omega⟩, HI6⟩, by simp [intOf]⟩
        · go_wp2_with fail
          obtain ⟨V0, W0, X0, s0, B0⟩ := HW.out
          refine (wbits_any w.heap.size 0 (w.heap.size + 3) W Y w1 L V0 (by omega) s0 (by have := HLl.out; omega) hW (by omega) Hy.out).mono ?_
          rintro e w2 ⟨rfl, V1, O1⟩
          have W1 := W0.other O1 (by omega) (by omega)
          have X1 := X0.other O1 (by omega) (by omega)
          have s1 := Nat.le_trans s0 O1.size
          have B1 := B0.trans (O1.below (Nat.le_refl _) (by omega))
          clear V0 W0 X0 s0 B0 O1 HW
          go_wp2_with fail
          refine (wbits_any (w.heap.size + 1) 0 (w.heap.size + 3) 64 Y w2 L W1 (by omega) s1 (by have := HLl.out; omega) (by omega) (by omega) (by have := Hy.out; omega)).mono ?_
          rintro e w4 ⟨rfl, W3, O2⟩
          have V3 := V1.other O2 (by omega) (by omega)
          have X3 := X1.other O2 (by omega) (by omega)
          have s3 := Nat.le_trans s1 O2.size
          have B3 := B1.trans (O2.below (by omega : w.heap.size ≤ w.heap.size + 1) (by omega))
          rw [show bitsOf Y 64 = bitsOf Y W from by rw [show W = 64 from by omega]] at W3
          clear V1 W1 X1 s1 B1 O2
          have HI : Hid (Wr w4 (w.heap.size + 3) w.heap.size 0 (L ++ bitsOf Y W) 0 ∧ Wr w4 (w.heap.size + 3) (w.heap.size + 1) 0 (L ++ bitsOf Y W) 0 ∧ Wr w4 (w.heap.size + 3) (w.heap.size + 1 + 1) 0 L 0 ∧ w.heap.size + 3 ≤ w4.heap.size ∧ Below w.heap.size w w4) := ⟨V3, W3, X3, s3, B3⟩
          clear V3 W3 X3 s3 B3
          go_wp2_with fail
          go_loopw [11] (fun t11 wr => ∃ (j : Nat) (t : Int), t11 = .int .i64 t ∧ -1 ≤ t ∧ t ≤ 63 ∧ Hid (t = (j : Int) - 1 ∧ j ≤ W) ∧ Hid (Wr wr (w.heap.size + 3) w.heap.size 0 (L ++ bitsOf Y W) 0 ∧ Wr wr (w.heap.size + 3) (w.heap.size + 1) 0 (L ++ bitsOf Y W) 0 ∧ Wr wr (w.heap.size + 3) (w.heap.size + 1 + 1) 0 (L ++ bitsOf (Y / 2 ^ j) (W - j)) 0 ∧ w.heap.size + 3 ≤ wr.heap.size ∧ Below w.heap.size w wr)) (fun t11 _ => (intOf t11 + 1).toNat)
          case atStart => exact ⟨W, (W : Int) - 1, rfl, by omega, by omega, ⟨rfl, Nat.le_refl _⟩, ⟨HI.out.1, HI.out.2.1, by simpa [bitsOf] using HI.out.2.2.1, HI.out.2.2.2⟩⟩
          case round =>
            obtain ⟨j, t, rfl, ht1, ht2, Hj, HI5⟩ := hrel
            by_cases htn : t < 0
            · have hj0 : j = 0 := by have := Hj.out; omega
              subst hj0
              have HF : Hid (Wr wr (w.heap.size + 3) w.heap.size 0 L' 0 ∧ Wr wr (w.heap.size + 3) (w.heap.size + 1) 0 L' 0 ∧ Wr wr (w.heap.size + 3) (w.heap.size + 1 + 1) 0 L' 0 ∧ w.heap.size + 3 ≤ wr.heap.size ∧ Below w.heap.size w wr) := by
                show _ ∧ _ ∧ _ ∧ _ ∧ _
                rw [HS.out]
                exact ⟨HI5.out.1, HI5.out.2.1, by simpa using HI5.out.2.2.1, HI5.out.2.2.2⟩
              have HqL : Hid (q + W = L'.length) := by show _ = _; rw [HS.out, HQ'.out]; simp
              have hqW : q + W ≤ 6400 := by have h1 := HQ'.out; have h2 := HLl.out; omega
              clear HI5
              go_wp2_with fail
              refine ⟨⟨k + 1, q + W, by omega, hqW, by go_num, by go_num, by show _ = _; rw [HL'.out]; exact HqL.out, hl1, by rw [HL'.out]; exact HF⟩, by simp [intOf]; omega⟩
            · obtain ⟨j', rfl⟩ : ∃ j' : Nat, t = (j' : Int) := ⟨t.toNat, by omega⟩
              have hj0 : j = j' + 1 := by have := Hj.out; omega
              subst hj0
              have hjW := Hj.out.2
              obtain ⟨V5, W5, X5, s5, B5⟩ := HI5.out
              go_wp2_with fail
              refine (wbit_any (w.heap.size + 1 + 1) 0 (w.heap.size + 3) _ wr _ X5 (by omega) s5 (by have := HLl.out; simp; omega)).mono ?_
              rintro e w6 ⟨rfl, X6, O6⟩
              have V6 := V5.other O6 (by omega) (by omega)
              have W6 := W5.other O6 (by omega) (by omega)
              have s6 := Nat.le_trans s5 O6.size
              have B6 := B5.trans (O6.below (by omega : w.heap.size ≤ w.heap.size + 1 + 1) (by omega))
              rw [bit_next L Y W j' hjW] at X6
              have HI6 : Hid (Wr w6 (w.heap.size + 3) w.heap.size 0 (L ++ bitsOf Y W) 0 ∧ Wr w6 (w.heap.size + 3) (w.heap.size + 1) 0 (L ++ bitsOf Y W) 0 ∧ Wr w6 (w.heap.size + 3) (w.heap.size + 1 + 1) 0 (L ++ bitsOf (Y / 2 ^ j') (W - j')) 0 ∧ w.heap.size + 3 ≤ w6.heap.size ∧ Below w.heap.size w w6) := ⟨V6, W6, X6, s6, B6⟩
              clear V5 W5 X5 s5 B5 V6 W6 X6 s6 B6 O6 HI5
              go_wp2_with fail
              refine ⟨⟨j', (j' : Int) - 1, by go_num, by omega, by omega, ⟨rfl, by omega⟩, HI6⟩, by simp [intOf]⟩
    · have Hkf : Hid (k = min len 100) := by show _ = _; have := Hk.out; omega
      have HQ' : Hid (q = (LL m x k).length) := Hq
      have HLl : Hid ((LL m x k).length ≤ 64 * k) := LL_len m x k
      clear Hq Hk
      obtain ⟨bs, Hbs⟩ : ∃ bs, Hid (packed (LL m x k) = bs) := ⟨_, rfl⟩
      generalize hL : LL m x k = L at *
      have HL : Hid (LL m x k = L) := hL
      clear hL
      by_cases hl1 : k < len
      · have hl2 : ¬ k < 100 := by omega
        go_wp2_with fail
        obtain ⟨V0, W0, X0, s0, B0⟩ := HW.out
        clear HW
        refine (wdone_packed w.heap.size 0 (w.heap.size + 3) wr L V0 s0 (by have := HLl.out; omega) bs Hbs.out).mono ?_
        rintro e w1 ⟨rfl, G1, B1⟩
        have V1 := V0.below B1
        have W1 := W0.below B1
        have X1 := X0.below B1
        have s1 := Nat.le_trans s0 B1.size
        have z1 := size_lt_of_row G1
        have I1 := isBytes_row (cap := bs.length) G1
        have C1 := B0.trans (B1.mono (by omega : w.heap.size ≤ wr.heap.size))
        clear V0 W0 X0 B0 G1
        go_wp2_with fail
        refine (wdone_packed (w.heap.size + 1) 0 (w.heap.size + 3) w1 L W1 s1 (by have := HLl.out; omega) bs Hbs.out).mono ?_
        rintro e w2 ⟨rfl, G2, B2⟩
        have V2 := V1.below B2
        have X2 := X1.below B2
        have s2 := Nat.le_trans s1 B2.size
        have z2 := size_lt_of_row G2
        have I12 := isBytes_below I1 B2
        have I2 := isBytes_row (cap := bs.length) G2
        have C2 := C1.trans (B2.mono (by omega : w.heap.size ≤ w1.heap.size))
        clear V1 W1 X1 C1 I1 G2
        go_wp2_with fail
        refine (wdone_packed (w.heap.size + 1 + 1) 0 (w.heap.size + 3) w2 L X2 s2 (by have := HLl.out; omega) bs Hbs.out).mono ?_
        rintro e w3 ⟨rfl, G3, B3⟩
        have V3 := V2.below B3
        have s3 := Nat.le_trans s2 B3.size
        have z3 := size_lt_of_row G3
        have I13 := isBytes_below I12 B3
        have I23 := isBytes_below I2 B3
        have I3 := isBytes_row (cap := bs.length) G3
        have C3 := C2.trans (B3.mono (by omega : w.heap.size ≤ w2.heap.size))
        have cv1 := convert_bytes w3 _ _ I13
        have cv2 := convert_bytes w3 _ _ I23
        have cv3 := convert_bytes w3 _ _ I3
        have LV := V3.lenCell
        rw [← HQ'.out] at LV
        clear V2 X2 V3 C2 I12 I2 G3 I23 I3 B1 B2 B3
        go_wp2_with fail
        refine (num_any _ _).mono ?_
        rintro e w4 ⟨rfl, rfl⟩
        go_wp2_with fail
        refine (num_any _ _).mono ?_
        rintro e w4 ⟨rfl, rfl⟩
        go_wp2_with fail
        refine (num_any _ _).mono ?_
        rintro e w4 ⟨rfl, rfl⟩
        go_wp2_with fail
        refine (wlen_any w.heap.size 0 (q : Int) _ LV).mono ?_
        rintro e w5 ⟨rfl, rfl⟩
        go_wp2_with fail
        refine (works_any _).mono ?_
        rintro e w6 ⟨rfl, B6⟩
        have C6 := C3.trans (B6.mono (by omega : w.heap.size ≤ w5.heap.size))
        have I6 := isBytes_below I13 B6
        have s6 := Nat.le_trans s3 B6.size
        clear C3 I13 LV cv1 cv2 cv3 B6
        go_wp2_with fail
        refine (from_any w6 _ _ I6).mono ?_
        rintro e w7 ⟨rfl, hw7⟩
        have hbl : bs.length ≤ 1000000000000 := by rw [← Hbs.out, packed_length]; have := HLl.out; omega
        have R7 : Rd w7 w6.heap.size 0 (strOf bs) 0 0 := by rw [hw7]; exact rd_new w6 _ hbl
        have B7 : Below w6.heap.size w6 w7 := by rw [hw7]; exact (Below.refl _ _).alloc (Nat.le_refl _) _
        have I7 := isBytes_below I6 B7
        have C7 := C6.trans (B7.mono (by omega : w.heap.size ≤ w6.heap.size))
        have z7 : w6.heap.size < w7.heap.size := block_lt_of_cell R7.text
        clear hw7 I6 C6 B7
        go_wp2_with fail
        refine (from_any w7 _ _ I7).mono ?_
        rintro e w8 ⟨rfl, hw8⟩
        have S8 : Rd w8 w7.heap.size 0 (strOf bs) 0 0 := by rw [hw8]; exact rd_new w7 _ hbl
        have B8 : Below w7.heap.size w7 w8 := by rw [hw8]; exact (Below.refl _ _).alloc (Nat.le_refl _) _
        have R8 := R7.below B8 z7
        have C8 := C7.trans (B8.mono (by omega : w.heap.size ≤ w7.heap.size))
        have hsz : Hid ((strOf bs).size = (L.length + 7) / 8) := by show _ = _; rw [strOf_size, ← Hbs.out, packed_length]
        have hrb : Hid (rb (strOf bs) = L ++ List.replicate (8 * ((L.length + 7) / 8) - L.length) false) := by show _ = _; rw [← Hbs.out]; exact rb_packed L
        have hen : Hid (endE (strOf bs) L.length 0 = 0) := by show _ = _; rw [← Hbs.out]; exact end_packed L
        have hL0 : LL m x 0 = [] := rfl
        have HI : Hid (Rd w8 w6.heap.size 0 (strOf bs) (LL m x 0).length 0 ∧ Rd w8 w7.heap.size 0 (strOf bs) (LL m x 0).length 0 ∧ Below w.heap.size w w8) := ⟨R8, S8, C8⟩
        clear hw8 I7 C7 B8 S8 R8 R7 C8 hL0
        generalize strOf bs = s at *
        generalize w6.heap.size = g1 at *
        generalize hg2 : w7.heap.size = g2 at *
        have hg12 : g1 < g2 := z7
        have hgw : w.heap.size ≤ g1 := by omega
        clear hg2 z7 s0 s1 s2 s3 s6 z1 z2 z3
        go_wp2_with fail
        go_loopw [20] (fun t20 wr => ∃ k2 : Nat, k2 ≤ 100 ∧ t20 = .int .i64 k2 ∧ Hid (k2 ≤ k) ∧ Hid (Rd wr g1 0 s (LL m x k2).length 0 ∧ Rd wr g2 0 s (LL m x k2).length 0 ∧ Below w.heap.size w wr)) (fun t20 _ => 100 - (intOf t20).toNat)
        case atStart => exact ⟨0, by omega, rfl, Nat.zero_le _, HI⟩
        case round =>
          obtain ⟨k2, hk2, rfl, Hk2, HR⟩ := hrel
          by_cases hlt2 : k2 < k
          · have hl3 : k2 < len := by have := Hkf.out; omega
            have hl4 : k2 < 100 := by have := Hkf.out; omega
            obtain ⟨ha0, hb⟩ := HA0.out (by omega)
            subst ha0
            obtain ⟨c0, c1, c2, c3, bd, bn, bx, bm⟩ := HO.out k2 hl3
            have ec : ∀ j, wr.cell? ⟨b, off + k2 * 4 + j, none⟩ = w.cell? ⟨b, off + k2 * 4 + j, none⟩ := fun j => HR.out.2.2.cell (p := ⟨b, off + k2 * 4 + j, none⟩) hb
            have e1 := (ec 1).trans c1
            have e3 := (ec 3).trans c3
            clear ec c0 c1 c2 c3
            have hW := wd_le m k2
            have hlo := lw_le n m k2
            have hw1 := wd_cast m k2
            have hl1' := lw_cast n m k2
            have hy := yy_lt m x k2
            have hsucc := LL_succ m x k2
            obtain ⟨rest, hrest⟩ := LL_prefix m x k2 k (by omega)
            rw [HL.out] at hrest
            have hR0 : rb s = LL m x k2 ++ bitsOf (yy m x k2) (wd m k2) ++ (rest ++ List.replicate (8 * ((L.length + 7) / 8) - L.length) false) := by
              have h0 := hrb.out
              generalize List.replicate (8 * ((L.length + 7) / 8) - L.length) false = Z at h0 ⊢
              rw [h0, hrest]
              simp
            have hfit : (LL m x k2).length + wd m k2 ≤ 8 * s.size := by
              rw [hsz.out]
              have : L.length = (LL m x k2).length + wd m k2 + rest.length := by rw [hrest]; simp; omega
              omega
            obtain ⟨wl, hwl⟩ : ∃ wl : Nat, ((wd m k2 : Nat) : Int) - (lw n m k2 : Nat) = (wl : Int) := ⟨wd m k2 - lw n m k2, by omega⟩
            obtain ⟨f1, f2, f3⟩ := read_facts _ _ _ _ _ (lw n m k2) wl (by omega) hy hR0
            have hlenS : (LL m x (k2 + 1)).length = (LL m x k2).length + wd m k2 := by rw [hsucc]; simp
            have hsum := sum_back (yy m x k2) (wd m k2) (lw n m k2) hW hlo hy
            have hz64 : lw n m k2 = 64 → yy m x k2 % 2 ^ lw n m k2 = yy m x k2 := fun h => by rw [h]; exact Nat.mod_eq_of_lt (by have := hW; have h2 : (2 : Nat) ^ wd m k2 ≤ 2 ^ 64 := Nat.pow_le_pow_right (by omega) hW; omega)
            have hYb : yy m x k2 < 18446744073709551616 := by have h2 : (2 : Nat) ^ wd m k2 ≤ 2 ^ 64 := Nat.pow_le_pow_right (by omega) hW; omega
            have hhb : yy m x k2 / 2 ^ lw n m k2 < 18446744073709551616 := Nat.lt_of_le_of_lt (Nat.div_le_self _ _) hYb
            have hzb : yy m x k2 % 2 ^ lw n m k2 < 18446744073709551616 := Nat.lt_of_le_of_lt (Nat.mod_le _ _) hYb
            generalize hA : (LL m x (k2 + 1)).length = a' at *
            have HA : Hid ((LL m x (k2 + 1)).length = a') := hA
            clear hA hsucc hrest hR0
            generalize (LL m x k2).length = a at *
            generalize yy m x k2 % 2 ^ lw n m k2 = z at *
            generalize yy m x k2 / 2 ^ lw n m k2 = hi at *
            generalize wd m k2 = W at *
            generalize lw n m k2 = lo at *
            generalize yy m x k2 = Y at *
            generalize m k2 = mk at *
            generalize n k2 = nk at *
            have Hw1 : Hid ((W : Int) = mk % 65) := hw1
            have Hl1 : Hid ((lo : Int) = nk % ((W : Int) + 1)) := hl1'
            have HF : Hid (num (((rb s).drop a).take W) = Y ∧ num (((rb s).drop a).take wl) = hi ∧ num (((rb s).drop (a + wl)).take lo) = z) := ⟨f1, f2, f3⟩
            have HA2 : Hid (a' = a + W) := hlenS
            clear hw1 hl1' f1 f2 f3 hlenS hy
            obtain ⟨R0, S0, C0⟩ := HR.out
            clear HR
            go_wp2_with fail
            refine (within_any mk 65 _ (by omega) (by omega) bm.1 bm.2).mono ?_
            rintro e w9 ⟨rfl, rfl⟩
            rw [← Hw1.out]
            go_wp2_with fail
            refine (within_any nk ((W : Int) + 1) _ (by omega) (by omega) bn.1 bn.2).mono ?_
            rintro e w9 ⟨rfl, rfl⟩
            rw [← Hl1.out]
            go_wp2_with fail
            refine (rbits_ok g1 0 s a W w9 R0 hW hfit).mono ?_
            rintro e w10 ⟨rfl, R1, O1⟩
            rw [HF.out.1]
            have S1 := S0.other O1 (by omega)
            have C1' := C0.trans (O1.below hgw C0.size)
            clear R0 S0 C0 O1
            go_wp2_with fail
            refine (rbits_ok g2 0 s a wl w10 S1 (by omega) (by omega)).mono ?_
            rintro e w11 ⟨rfl, S2, O2⟩
            rw [HF.out.2.1]
            have R2 := R1.other O2 (by omega)
            have C2' := C1'.trans (O2.below (by omega : w.heap.size ≤ g2) C1'.size)
            clear R1 S1 C1' O2
            go_wp2_with fail
            refine (rbits_ok g2 0 s (a + wl) lo w11 S2 (by omega) (by omega)).mono ?_
            rintro e w12 ⟨rfl, S3, O3⟩
            rw [HF.out.2.2]
            have R3 := R2.other O3 (by omega)
            have C3' := C2'.trans (O3.below (by omega : w.heap.size ≤ g2) C2'.size)
            rw [show a + wl + lo = a + W from by omega] at S3
            clear R2 S2 C2' O3
            by_cases hlo64 : lo < 64
            · have hs2 := hsum hlo64
              go_wp2_with fail
              refine (rleft_any g1 0 s (a + W) 0 _ R3).mono ?_
              rintro e w13 ⟨rfl, m1, rfl⟩
              have R4 := R3.drewN m1
              have S4 := S3.drewN m1
              have C4 : Below w.heap.size w (w12.drewN m1) := ⟨C3'.os, C3'.tape, C3'.output, C3'.size, C3'.block⟩
              generalize w12.drewN m1 = w13 at *
              go_wp2_with fail
              refine (rleft_any g2 0 s (a + W) 0 _ S4).mono ?_
              rintro e w14 ⟨rfl, m2, rfl⟩
              have R5 := R4.drewN m2
              have S5 := S4.drewN m2
              have C5 : Below w.heap.size w (w13.drewN m2) := ⟨C4.os, C4.tape, C4.output, C4.size, C4.block⟩
              generalize w13.drewN m2 = w14 at *
              have HN : Hid (Rd w14 g1 0 s (LL m x (k2 + 1)).length 0 ∧ Rd w14 g2 0 s (LL m x (k2 + 1)).length 0 ∧ Below w.heap.size w w14) := by
                show _ ∧ _ ∧ _
                rw [HA.out, HA2.out]
                exact ⟨R5, S5, C5⟩
              clear R3 S3 C3' R4 S4 C4 R5 S5 C5
              go_wp2_with fail
              refine ⟨⟨k2 + 1, by omega, by go_num, by show _ ≤ _; omega, HN⟩, by simp [intOf]; omega⟩
            · have hlo' : lo = 64 := by omega
              have hz2 := hz64 hlo'
              go_wp2_with fail
              refine (rleft_any g1 0 s (a + W) 0 _ R3).mono ?_
              rintro e w13 ⟨rfl, m1, rfl⟩
              have R4 := R3.drewN m1
              have S4 := S3.drewN m1
              have C4 : Below w.heap.size w (w12.drewN m1) := ⟨C3'.os, C3'.tape, C3'.output, C3'.size, C3'.block⟩
              generalize w12.drewN m1 = w13 at *
              go_wp2_with fail
              refine (rleft_any g2 0 s (a + W) 0 _ S4).mono ?_
              rintro e w14 ⟨rfl, m2, rfl⟩
              have R5 := R4.drewN m2
              have S5 := S4.drewN m2
              have C5 : Below w.heap.size w (w13.drewN m2) := ⟨C4.os, C4.tape, C4.output, C4.size, C4.block⟩
              generalize w13.drewN m2 = w14 at *
              have HN : Hid (Rd w14 g1 0 s (LL m x (k2 + 1)).length 0 ∧ Rd w14 g2 0 s (LL m x (k2 + 1)).length 0 ∧ Below w.heap.size w w14) := by
                show _ ∧ _ ∧ _
                rw [HA.out, HA2.out]
                exact ⟨R5, S5, C5⟩
              clear R3 S3 C3' R4 S4 C4 R5 S5 C5
              go_wp2_with fail
              refine ⟨⟨k2 + 1, by omega, by go_num, by show _ ≤ _; omega, HN⟩, by simp [intOf]; omega⟩
          · have hke : k2 = k := by have := Hk2.out; omega
            subst hke
            rw [HL.out] at HR
            obtain ⟨R0, S0, C0⟩ := HR.out
            clear HR
            go_wp2_with fail
            refine (rend_any g1 0 s L.length 0 _ R0).mono ?_
            rintro e w15 ⟨rfl, m1, rfl⟩
            rw [hen.out]
            have S1 := S0.drewN m1
            have C1 : Below w.heap.size w (wr.drewN m1) := ⟨C0.os, C0.tape, C0.output, C0.size, C0.block⟩
            generalize wr.drewN m1 = w16 at *
            go_wp2_with fail
            refine (num_any _ _).mono ?_
            rintro e w17 ⟨rfl, rfl⟩
            go_wp2_with fail
            refine (rend_any g2 0 s L.length 0 _ S1).mono ?_
            rintro e w18 ⟨rfl, m2, rfl⟩
            rw [hen.out]
            have C2 : Below w.heap.size w (w17.drewN m2) := ⟨C1.os, C1.tape, C1.output, C1.size, C1.block⟩
            generalize w17.drewN m2 = w19 at *
            go_wp2_with fail
            refine (num_any _ _).mono ?_
            rintro e w20 ⟨rfl, rfl⟩
            go_wp2_with fail
            go_ret
            exact ⟨rfl, C2⟩
      · go_wp2_with fail
        obtain ⟨V0, W0, X0, s0, B0⟩ := HW.out
        clear HW
        refine (wdone_packed w.heap.size 0 (w.heap.size + 3) wr L V0 s0 (by have := HLl.out; omega) bs Hbs.out).mono ?_
        rintro e w1 ⟨rfl, G1, B1⟩
        have V1 := V0.below B1
        have W1 := W0.below B1
        have X1 := X0.below B1
        have s1 := Nat.le_trans s0 B1.size
        have z1 := size_lt_of_row G1
        have I1 := isBytes_row (cap := bs.length) G1
        have C1 := B0.trans (B1.mono (by omega : w.heap.size ≤ wr.heap.size))
        clear V0 W0 X0 B0 G1
        go_wp2_with fail
        refine (wdone_packed (w.heap.size + 1) 0 (w.heap.size + 3) w1 L W1 s1 (by have := HLl.out; omega) bs Hbs.out).mono ?_
        rintro e w2 ⟨rfl, G2, B2⟩
        have V2 := V1.below B2
        have X2 := X1.below B2
        have s2 := Nat.le_trans s1 B2.size
        have z2 := size_lt_of_row G2
        have I12 := isBytes_below I1 B2
        have I2 := isBytes_row (cap := bs.length) G2
        have C2 := C1.trans (B2.mono (by omega : w.heap.size ≤ w1.heap.size))
        clear V1 W1 X1 C1 I1 G2
        go_wp2_with fail
        refine (wdone_packed (w.heap.size + 1 + 1) 0 (w.heap.size + 3) w2 L X2 s2 (by have := HLl.out; omega) bs Hbs.out).mono ?_
        rintro e w3 ⟨rfl, G3, B3⟩
        have V3 := V2.below B3
        have s3 := Nat.le_trans s2 B3.size
        have z3 := size_lt_of_row G3
        have I13 := isBytes_below I12 B3
        have I23 := isBytes_below I2 B3
        have I3 := isBytes_row (cap := bs.length) G3
        have C3 := C2.trans (B3.mono (by omega : w.heap.size ≤ w2.heap.size))
        have cv1 := convert_bytes w3 _ _ I13
        have cv2 := convert_bytes w3 _ _ I23
        have cv3 := convert_bytes w3 _ _ I3
        have LV := V3.lenCell
        rw [← HQ'.out] at LV
        clear V2 X2 V3 C2 I12 I2 G3 I23 I3 B1 B2 B3
        go_wp2_with fail
        refine (num_any _ _).mono ?_
        rintro e w4 ⟨rfl, rfl⟩
        go_wp2_with fail
        refine (num_any _ _).mono ?_
        rintro e w4 ⟨rfl, rfl⟩
        go_wp2_with fail
        refine (num_any _ _).mono ?_
        rintro e w4 ⟨rfl, rfl⟩
        go_wp2_with fail
        refine (wlen_any w.heap.size 0 (q : Int) _ LV).mono ?_
        rintro e w5 ⟨rfl, rfl⟩
        go_wp2_with fail
        refine (works_any _).mono ?_
        rintro e w6 ⟨rfl, B6⟩
        have C6 := C3.trans (B6.mono (by omega : w.heap.size ≤ w5.heap.size))
        have I6 := isBytes_below I13 B6
        have s6 := Nat.le_trans s3 B6.size
        clear C3 I13 LV cv1 cv2 cv3 B6
        go_wp2_with fail
        refine (from_any w6 _ _ I6).mono ?_
        rintro e w7 ⟨rfl, hw7⟩
        have hbl : bs.length ≤ 1000000000000 := by rw [← Hbs.out, packed_length]; have := HLl.out; omega
        have R7 : Rd w7 w6.heap.size 0 (strOf bs) 0 0 := by rw [hw7]; exact rd_new w6 _ hbl
        have B7 : Below w6.heap.size w6 w7 := by rw [hw7]; exact (Below.refl _ _).alloc (Nat.le_refl _) _
        have I7 := isBytes_below I6 B7
        have C7 := C6.trans (B7.mono (by omega : w.heap.size ≤ w6.heap.size))
        have z7 : w6.heap.size < w7.heap.size := block_lt_of_cell R7.text
        clear hw7 I6 C6 B7
        go_wp2_with fail
        refine (from_any w7 _ _ I7).mono ?_
        rintro e w8 ⟨rfl, hw8⟩
        have S8 : Rd w8 w7.heap.size 0 (strOf bs) 0 0 := by rw [hw8]; exact rd_new w7 _ hbl
        have B8 : Below w7.heap.size w7 w8 := by rw [hw8]; exact (Below.refl _ _).alloc (Nat.le_refl _) _
        have R8 := R7.below B8 z7
        have C8 := C7.trans (B8.mono (by omega : w.heap.size ≤ w7.heap.size))
        have hsz : Hid ((strOf bs).size = (L.length + 7) / 8) := by show _ = _; rw [strOf_size, ← Hbs.out, packed_length]
        have hrb : Hid (rb (strOf bs) = L ++ List.replicate (8 * ((L.length + 7) / 8) - L.length) false) := by show _ = _; rw [← Hbs.out]; exact rb_packed L
        have hen : Hid (endE (strOf bs) L.length 0 = 0) := by show _ = _; rw [← Hbs.out]; exact end_packed L
        have hL0 : LL m x 0 = [] := rfl
        have HI : Hid (Rd w8 w6.heap.size 0 (strOf bs) (LL m x 0).length 0 ∧ Rd w8 w7.heap.size 0 (strOf bs) (LL m x 0).length 0 ∧ Below w.heap.size w w8) := ⟨R8, S8, C8⟩
        clear hw8 I7 C7 B8 S8 R8 R7 C8 hL0
        generalize strOf bs = s at *
        generalize w6.heap.size = g1 at *
        generalize hg2 : w7.heap.size = g2 at *
        have hg12 : g1 < g2 := z7
        have hgw : w.heap.size ≤ g1 := by omega
        clear hg2 z7 s0 s1 s2 s3 s6 z1 z2 z3
        go_wp2_with fail
        go_loopw [20] (fun t20 wr => ∃ k2 : Nat, k2 ≤ 100 ∧ t20 = .int .i64 k2 ∧ Hid (k2 ≤ k) ∧ Hid (Rd wr g1 0 s (LL m x k2).length 0 ∧ Rd wr g2 0 s (LL m x k2).length 0 ∧ Below w.heap.size w wr)) (fun t20 _ => 100 - (intOf t20).toNat)
        case atStart => exact ⟨0, by omega, rfl, Nat.zero_le _, HI⟩
        case round =>
          obtain ⟨k2, hk2, rfl, Hk2, HR⟩ := hrel
          by_cases hlt2 : k2 < k
          · have hl3 : k2 < len := by have := Hkf.out; omega
            have hl4 : k2 < 100 := by have := Hkf.out; omega
            obtain ⟨ha0, hb⟩ := HA0.out (by omega)
            subst ha0
            obtain ⟨c0, c1, c2, c3, bd, bn, bx, bm⟩ := HO.out k2 hl3
            have ec : ∀ j, wr.cell? ⟨b, off + k2 * 4 + j, none⟩ = w.cell? ⟨b, off + k2 * 4 + j, none⟩ := fun j => HR.out.2.2.cell (p := ⟨b, off + k2 * 4 + j, none⟩) hb
            have e1 := (ec 1).trans c1
            have e3 := (ec 3).trans c3
            clear ec c0 c1 c2 c3
            have hW := wd_le m k2
            have hlo := lw_le n m k2
            have hw1 := wd_cast m k2
            have hl1' := lw_cast n m k2
            have hy := yy_lt m x k2
            have hsucc := LL_succ m x k2
            obtain ⟨rest, hrest⟩ := LL_prefix m x k2 k (by omega)
            rw [HL.out] at hrest
            have hR0 : rb s = LL m x k2 ++ bitsOf (yy m x k2) (wd m k2) ++ (rest ++ List.replicate (8 * ((L.length + 7) / 8) - L.length) false) := by
              have h0 := hrb.out
              generalize List.replicate (8 * ((L.length + 7) / 8) - L.length) false = Z at h0 ⊢
              rw [h0, hrest]
              simp
            have hfit : (LL m x k2).length + wd m k2 ≤ 8 * s.size := by
              rw [hsz.out]
              have : L.length = (LL m x k2).length + wd m k2 + rest.length := by rw [hrest]; simp; omega
              omega
            obtain ⟨wl, hwl⟩ : ∃ wl : Nat, ((wd m k2 : Nat) : Int) - (lw n m k2 : Nat) = (wl : Int) := ⟨wd m k2 - lw n m k2, by omega⟩
            obtain ⟨f1, f2, f3⟩ := read_facts _ _ _ _ _ (lw n m k2) wl (by omega) hy hR0
            have hlenS : (LL m x (k2 + 1)).length = (LL m x k2).length + wd m k2 := by rw [hsucc]; simp
            have hsum := sum_back (yy m x k2) (wd m k2) (lw n m k2) hW hlo hy
            have hz64 : lw n m k2 = 64 → yy m x k2 % 2 ^ lw n m k2 = yy m x k2 := fun h => by rw [h]; exact Nat.mod_eq_of_lt (by have := hW; have h2 : (2 : Nat) ^ wd m k2 ≤ 2 ^ 64 := Nat.pow_le_pow_right (by omega) hW; omega)
            have hYb : yy m x k2 < 18446744073709551616 := by have h2 : (2 : Nat) ^ wd m k2 ≤ 2 ^ 64 := Nat.pow_le_pow_right (by omega) hW; omega
            have hhb : yy m x k2 / 2 ^ lw n m k2 < 18446744073709551616 := Nat.lt_of_le_of_lt (Nat.div_le_self _ _) hYb
            have hzb : yy m x k2 % 2 ^ lw n m k2 < 18446744073709551616 := Nat.lt_of_le_of_lt (Nat.mod_le _ _) hYb
            generalize hA : (LL m x (k2 + 1)).length = a' at *
            have HA : Hid ((LL m x (k2 + 1)).length = a') := hA
            clear hA hsucc hrest hR0
            generalize (LL m x k2).length = a at *
            generalize yy m x k2 % 2 ^ lw n m k2 = z at *
            generalize yy m x k2 / 2 ^ lw n m k2 = hi at *
            generalize wd m k2 = W at *
            generalize lw n m k2 = lo at *
            generalize yy m x k2 = Y at *
            generalize m k2 = mk at *
            generalize n k2 = nk at *
            have Hw1 : Hid ((W : Int) = mk % 65) := hw1
            have Hl1 : Hid ((lo : Int) = nk % ((W : Int) + 1)) := hl1'
            have HF : Hid (num (((rb s).drop a).take W) = Y ∧ num (((rb s).drop a).take wl) = hi ∧ num (((rb s).drop (a + wl)).take lo) = z) := ⟨f1, f2, f3⟩
            have HA2 : Hid (a' = a + W) := hlenS
            clear hw1 hl1' f1 f2 f3 hlenS hy
            obtain ⟨R0, S0, C0⟩ := HR.out
            clear HR
            go_wp2_with fail
            refine (within_any mk 65 _ (by omega) (by omega) bm.1 bm.2).mono ?_
            rintro e w9 ⟨rfl, rfl⟩
            rw [← Hw1.out]
            go_wp2_with fail
            refine (within_any nk ((W : Int) + 1) _ (by omega) (by omega) bn.1 bn.2).mono ?_
            rintro e w9 ⟨rfl, rfl⟩
            rw [← Hl1.out]
            go_wp2_with fail
            refine (rbits_ok g1 0 s a W w9 R0 hW hfit).mono ?_
            rintro e w10 ⟨rfl, R1, O1⟩
            rw [HF.out.1]
            have S1 := S0.other O1 (by omega)
            have C1' := C0.trans (O1.below hgw C0.size)
            clear R0 S0 C0 O1
            go_wp2_with fail
            refine (rbits_ok g2 0 s a wl w10 S1 (by omega) (by omega)).mono ?_
            rintro e w11 ⟨rfl, S2, O2⟩
            rw [HF.out.2.1]
            have R2 := R1.other O2 (by omega)
            have C2' := C1'.trans (O2.below (by omega : w.heap.size ≤ g2) C1'.size)
            clear R1 S1 C1' O2
            go_wp2_with fail
            refine (rbits_ok g2 0 s (a + wl) lo w11 S2 (by omega) (by omega)).mono ?_
            rintro e w12 ⟨rfl, S3, O3⟩
            rw [HF.out.2.2]
            have R3 := R2.other O3 (by omega)
            have C3' := C2'.trans (O3.below (by omega : w.heap.size ≤ g2) C2'.size)
            rw [show a + wl + lo = a + W from by omega] at S3
            clear R2 S2 C2' O3
            by_cases hlo64 : lo < 64
            · have hs2 := hsum hlo64
              go_wp2_with fail
              refine (rleft_any g1 0 s (a + W) 0 _ R3).mono ?_
              rintro e w13 ⟨rfl, m1, rfl⟩
              have R4 := R3.drewN m1
              have S4 := S3.drewN m1
              have C4 : Below w.heap.size w (w12.drewN m1) := ⟨C3'.os, C3'.tape, C3'.output, C3'.size, C3'.block⟩
              generalize w12.drewN m1 = w13 at *
              go_wp2_with fail
              refine (rleft_any g2 0 s (a + W) 0 _ S4).mono ?_
              rintro e w14 ⟨rfl, m2, rfl⟩
              have R5 := R4.drewN m2
              have S5 := S4.drewN m2
              have C5 : Below w.heap.size w (w13.drewN m2) := ⟨C4.os, C4.tape, C4.output, C4.size, C4.block⟩
              generalize w13.drewN m2 = w14 at *
              have HN : Hid (Rd w14 g1 0 s (LL m x (k2 + 1)).length 0 ∧ Rd w14 g2 0 s (LL m x (k2 + 1)).length 0 ∧ Below w.heap.size w w14) := by
                show _ ∧ _ ∧ _
                rw [HA.out, HA2.out]
                exact ⟨R5, S5, C5⟩
              clear R3 S3 C3' R4 S4 C4 R5 S5 C5
              go_wp2_with fail
              refine ⟨⟨k2 + 1, by omega, by go_num, by show _ ≤ _; omega, HN⟩, by simp [intOf]; omega⟩
            · have hlo' : lo = 64 := by omega
              have hz2 := hz64 hlo'
              go_wp2_with fail
              refine (rleft_any g1 0 s (a + W) 0 _ R3).mono ?_
              rintro e w13 ⟨rfl, m1, rfl⟩
              have R4 := R3.drewN m1
              have S4 := S3.drewN m1
              have C4 : Below w.heap.size w (w12.drewN m1) := ⟨C3'.os, C3'.tape, C3'.output, C3'.size, C3'.block⟩
              generalize w12.drewN m1 = w13 at *
              go_wp2_with fail
              refine (rleft_any g2 0 s (a + W) 0 _ S4).mono ?_
              rintro e w14 ⟨rfl, m2, rfl⟩
              have R5 := R4.drewN m2
              have S5 := S4.drewN m2
              have C5 : Below w.heap.size w (w13.drewN m2) := ⟨C4.os, C4.tape, C4.output, C4.size, C4.block⟩
              generalize w13.drewN m2 = w14 at *
              have HN : Hid (Rd w14 g1 0 s (LL m x (k2 + 1)).length 0 ∧ Rd w14 g2 0 s (LL m x (k2 + 1)).length 0 ∧ Below w.heap.size w w14) := by
                show _ ∧ _ ∧ _
                rw [HA.out, HA2.out]
                exact ⟨R5, S5, C5⟩
              clear R3 S3 C3' R4 S4 C4 R5 S5 C5
              go_wp2_with fail
              refine ⟨⟨k2 + 1, by omega, by go_num, by show _ ≤ _; omega, HN⟩, by simp [intOf]; omega⟩
          · have hke : k2 = k := by have := Hk2.out; omega
            subst hke
            rw [HL.out] at HR
            obtain ⟨R0, S0, C0⟩ := HR.out
            clear HR
            go_wp2_with fail
            refine (rend_any g1 0 s L.length 0 _ R0).mono ?_
            rintro e w15 ⟨rfl, m1, rfl⟩
            rw [hen.out]
            have S1 := S0.drewN m1
            have C1 : Below w.heap.size w (wr.drewN m1) := ⟨C0.os, C0.tape, C0.output, C0.size, C0.block⟩
            generalize wr.drewN m1 = w16 at *
            go_wp2_with fail
            refine (num_any _ _).mono ?_
            rintro e w17 ⟨rfl, rfl⟩
            go_wp2_with fail
            refine (rend_any g2 0 s L.length 0 _ S1).mono ?_
            rintro e w18 ⟨rfl, m2, rfl⟩
            rw [hen.out]
            have C2 : Below w.heap.size w (w17.drewN m2) := ⟨C1.os, C1.tape, C1.output, C1.size, C1.block⟩
            generalize w17.drewN m2 = w19 at *
            go_wp2_with fail
            refine (num_any _ _).mono ?_
            rintro e w20 ⟨rfl, rfl⟩
            go_wp2_with fail
            go_ret
            exact ⟨rfl, C2⟩

end Go.Proofs.Ytpiiagjfimdflaa

/- OfBytes. -/
import Derived.Test.YtfbkdjghbgdgpaaAN
import Derived.RegionTactic
import Derived.ChangeAlike
namespace Go.Proofs.Ytfbkdjghbgdgpaa
open Go.RowKit
open M
set_option linter.unusedVariables false
set_option linter.unusedSimpArgs false

/-- Bytes in memory, as they may come: a number's, the highest first. -/
def RowB (w : World) (v : Value) (L N : Nat) : Prop :=
  N < 256 ^ L ∧ ∃ ad cap, v = .slice ad L cap ∧ L ≤ cap ∧ (0 < L → ∃ g o, ad = some ⟨g, o, none⟩ ∧ g < w.heap.size ∧ ∀ j, j < L → w.cell? ⟨g, o + (L - 1 - j), none⟩ = some (.int .u8 (db N j : Nat)))

theorem byte_limb (N q r : Nat) (hr : r < 4) : dg (N % 256 ^ (4 * q + r + 1)) q = dg (N % 256 ^ (4 * q + r)) q + db N (4 * q + r) * 2 ^ (8 * r) ∧ dg (N % 256 ^ (4 * q + r)) q < 2 ^ (8 * r) ∧
    N % 256 ^ (4 * q + r + 1) < 4294967296 ^ (q + 1) ∧ ∀ j, j ≠ q → dg (N % 256 ^ (4 * q + r + 1)) j = dg (N % 256 ^ (4 * q + r)) j := by
  have hc := db_lt N (4 * q + r)
  have hX : N % 256 ^ (4 * q + r) < 4294967296 ^ q * 2 ^ (8 * r) := by rw [← bp_split]; exact Nat.mod_lt _ (bp_pos _)
  rw [bmod_succ]
  rw [bp_split] at *
  generalize N % (4294967296 ^ q * 2 ^ (8 * r)) = X at *
  generalize db N (4 * q + r) = c at *
  have hq : X / 4294967296 ^ q < 2 ^ (8 * r) := by rw [Nat.div_lt_iff_lt_mul (pw_pos q), Nat.mul_comm]; exact hX
  have hb : 2 ^ (8 * r) * 256 ≤ 4294967296 := by
    have h : r = 0 ∨ r = 1 ∨ r = 2 ∨ r = 3 := by omega
    rcases h with rfl | rfl | rfl | rfl <;> decide
  have hy : 2 ^ (8 * r) * c + 2 ^ (8 * r) ≤ 2 ^ (8 * r) * 256 := by
    have : 2 ^ (8 * r) * (c + 1) ≤ 2 ^ (8 * r) * 256 := Nat.mul_le_mul_left _ (by omega)
    rwa [Nat.mul_add, Nat.mul_one] at this
  rw [Nat.mul_assoc]
  have hXq : dg X q = X / 4294967296 ^ q := Nat.mod_eq_of_lt (by omega)
  have hlt : X + 4294967296 ^ q * (2 ^ (8 * r) * c) < 4294967296 ^ (q + 1) := by
    rw [pw_succ]
    have h1 : 4294967296 ^ q * (2 ^ (8 * r) * c) + 4294967296 ^ q * 2 ^ (8 * r) ≤ 4294967296 ^ q * 4294967296 := by rw [← Nat.mul_add]; exact Nat.mul_le_mul_left _ (by omega)
    omega
  refine ⟨?_, by rw [hXq]; exact hq, hlt, fun j hj => ?_⟩
  · rw [hXq, Nat.mul_comm c]
    show (X + 4294967296 ^ q * (2 ^ (8 * r) * c)) / 4294967296 ^ q % 4294967296 = _
    rw [carry_div, Nat.mod_eq_of_lt (by omega)]
  · rcases Nat.lt_or_ge j q with h | h
    · exact dg_low h
    · have hX2 : X < 4294967296 ^ (q + 1) := Nat.lt_of_le_of_lt (Nat.le_add_right _ _) hlt
      rw [dg_high hlt (by omega), dg_high hX2 (by omega)]

theorem Wk.byte {w : World} {g k N q r : Nat} (h : Wk w g 0 k (N % 256 ^ (4 * q + r))) (hr : r < 4) (hq : q < k) (y : Int) (hy : y = (dg (N % 256 ^ (4 * q + r + 1)) q : Nat)) :
    Wk (w.setCell ⟨g, q, none⟩ (.int .u32 y)) g 0 k (N % 256 ^ (4 * q + r + 1)) := by
  have hb := byte_limb N q r hr
  refine ⟨Nat.lt_of_lt_of_le hb.2.2.1 (Nat.pow_le_pow_right (by omega) (by omega)), fun j hj => ?_, fun j hj => by rw [frozen_setCell]; exact h.free j hj⟩
  rw [Nat.zero_add]
  by_cases e : j = q
  · subst e
    have := h.cell j hj
    rw [Nat.zero_add] at this
    rw [cell_setCell_eq _ _ _ _ _ this, hy]
  · rw [cell_setCell_ne _ _ _ _ _ e, hb.2.2.2 j e]
    have := h.cell j hj
    rwa [Nat.zero_add] at this

theorem or_byte (x c t : Nat) (hx : x < 2 ^ t) (hc : c < 256) (ht : t ≤ 24) : bits .or .u32 (x : Int) ((c : Int) * 2 ^ t % 4294967296) = ((x + c * 2 ^ t : Nat) : Int) := by
  have h1 : 2 ^ t ≤ 2 ^ 24 := Nat.pow_le_pow_right (by omega) ht
  have h2 : c * 2 ^ t ≤ 255 * 2 ^ 24 := Nat.mul_le_mul (by omega) h1
  have e : (c : Int) * 2 ^ t % 4294967296 = ((c * 2 ^ t : Nat) : Int) := by
    have e1 : (c : Int) * 2 ^ t = ((c * 2 ^ t : Nat) : Int) := by simp
    rw [e1]; omega
  rw [e, u32_or_nat _ _ (by omega) (by omega), Nat.or_comm, nat_join t (c * 2 ^ t) x (Nat.mul_mod_left _ _) hx, Nat.add_comm]

set_option maxRecDepth 100000 in
set_option maxHeartbeats 1000000 in
theorem OfBytes_own (v : Value) (L N : Nat) (w : World) (h : RowB w v L N) (hL : L ≤ 32768) (ht : 0 < L → db N (L - 1) ≠ 0) :
    Calls Try.prog 8 #[v] w fun e w' => ∃ r, e = .returned (.tuple #[r, .int .i64 0]) ∧ (∃ n, Own w' w.heap.size r n N ∧ Nrm n N ∧ Fits N) ∧ Below w.heap.size w w' := by
  obtain ⟨i5, hi5⟩ := info32
  have Hi := hide hi5
  clear hi5
  obtain ⟨hN, ad, cap, rfl, hc, hcell⟩ := h
  have HR := hide hcell
  have HT := hide ht
  obtain ⟨k, hk, hk'⟩ : ∃ k : Nat, k = (L + 3) / 4 ∧ ((L : Int) + 4 - 1).tdiv 4 = (k : Int) := ⟨(L + 3) / 4, rfl, by rw [show (L : Int) + 4 - 1 = ((L + 3 : Nat) : Int) from by omega]; rfl⟩
  have hk2 : ((L : Int) + 4 - 1) / 4 = (k : Int) := by omega
  have hLk : L ≤ 4 * k := by omega
  have hkb : k ≤ 8192 := by omega
  have HN : Hid (N % 256 ^ L = N ∧ Fits N) := by
    refine ⟨Nat.mod_eq_of_lt hN, fits_of hkb (Nat.lt_of_lt_of_le hN ?_)⟩
    rw [show (4294967296 : Nat) = 256 ^ 4 from by decide, ← Nat.pow_mul]
    exact Nat.pow_le_pow_right (by omega) (by omega)
  clear hcell ht hk hN
  have HS0 : Hid (Wk (w.alloc (.cells (madeCells #[Value.int .u32 0] k) 58)) w.heap.size 0 k (N % 256 ^ 0) ∧ Below w.heap.size w (w.alloc (.cells (madeCells #[Value.int .u32 0] k) 58))) :=
    ⟨by rw [Nat.pow_zero, Nat.mod_one]; exact wk_of_block (pw_pos _) (make_block w k), (Below.refl _ _).alloc (Nat.le_refl _) _⟩
  by_cases hL0 : L = 0
  · subst hL0
    obtain rfl : k = 0 := by omega
    go_enter Try.func8, Try.ntmps8
    go_wp2_with (at_make; refine wpList_make_row _ rfl _ _ _ rfl 58 i5 (.int .u32 0) Try.underlying27 Hi.out.1 Hi.out.2.1 Hi.out.2.2.1 rfl .i64 .i64 0 rfl rfl (by rw [Hi.out.2.2.2]; omega) (by omega) ?_)
    generalize w.alloc (.cells (madeCells #[Value.int .u32 0] 0) 58) = wa at *
    go_loopw [28] (fun t28 wr => t28 = .int .i64 0 ∧ Hid (Wk wr w.heap.size 0 0 (N % 256 ^ 0) ∧ Below w.heap.size w wr)) (fun t28 _ => 0)
    case atStart => exact ⟨rfl, HS0⟩
    case round =>
      obtain ⟨rfl, HM⟩ := hrel
      go_wp2_with fail
      refine (tell_any _ 0 N _ (by have := HM.out.1; rw [HN.out.1] at this; exact this.row (S := fun _ => True) (by omega) (Nat.le_refl _) trivial _ (fun _ => rfl))).mono ?_
      rintro e w3 ⟨u, c, rfl, ht, hb⟩
      have H3 : Hid (c = 0 ∧ (∃ n, Own w3 w.heap.size u n N ∧ Nrm n N ∧ Fits N) ∧ Below w.heap.size w w3) := by
        obtain ⟨h1, n, h2, h3⟩ := ht.ok HN.out.2
        exact ⟨h1, ⟨n, h2.mono HM.out.2.size, h3, HN.out.2⟩, HM.out.2.trans (hb.mono HM.out.2.size)⟩
      obtain rfl := H3.out.1
      clear ht hb
      go_wp2_with fail
      go_ret2
      exact ⟨u, rfl, H3.out.2⟩
  · obtain ⟨g, o, rfl, hg, hj⟩ := HR.out (by omega)
    have hL0' : (0 : Int) < (L : Int) := by omega
    have hLle : ¬ (32768 : Int) < (L : Int) := by omega
    have hx0 : w.cell? ⟨g, o, none⟩ = some (.int .u8 (db N (L - 1) : Nat)) := by have := hj (L - 1) (by omega); rwa [show o + (L - 1 - (L - 1)) = o from by omega] at this
    have hx1 : ¬ ((db N (L - 1) : Nat) : Int) = 0 := by have := HT.out (by omega); omega
    generalize db N (L - 1) = c0 at *
    go_enter Try.func8, Try.ntmps8
    go_wp2_with (at_make; refine wpList_make_row _ rfl _ _ _ rfl 58 i5 (.int .u32 0) Try.underlying27 Hi.out.1 Hi.out.2.1 Hi.out.2.2.1 rfl .i64 .i64 k rfl rfl (by rw [Hi.out.2.2.2]; omega) (by omega) ?_)
    generalize w.alloc (.cells (madeCells #[Value.int .u32 0] k) 58) = wa at *
    go_loopw [28] (fun t28 wr => ∃ i : Nat, i ≤ L ∧ t28 = .int .i64 i ∧ Hid (Wk wr w.heap.size 0 k (N % 256 ^ i) ∧ Below w.heap.size w wr)) (fun t28 _ => L - (intOf t28).toNat)
    case atStart => exact ⟨0, by omega, rfl, HS0⟩
    case round =>
      obtain ⟨i, hi, rfl, HM⟩ := hrel
      by_cases hlt : i < L
      · have hlt' : (i : Int) < (L : Int) := by omega
        obtain ⟨q, hq, hq'⟩ : ∃ q : Nat, q = i / 4 ∧ (i : Int).tdiv 4 = (q : Int) := ⟨i / 4, rfl, rfl⟩
        obtain ⟨r, hr, hr'⟩ : ∃ r : Nat, r = i % 4 ∧ (i : Int).tmod 4 = (r : Int) := ⟨i % 4, rfl, rfl⟩
        have hq2 : (i : Int) / 4 = (q : Int) := by omega
        have hr2 : (i : Int) % 4 = (r : Int) := by omega
        have hqk : q < k := by omega
        have hqk' : (q : Int) < (k : Int) := by omega
        have hr4 : r < 4 := by omega
        have Hiq : Hid (i = 4 * q + r) := (by omega : i = 4 * q + r)
        obtain ⟨t, ht, ht'⟩ : ∃ t : Nat, t = 8 * r ∧ (r : Int) * 8 = (t : Int) := ⟨8 * r, rfl, by omega⟩
        have ht32 : t < 32 := by omega
        have ht24 : t ≤ 24 := by omega
        obtain ⟨p, hp, hp'⟩ : ∃ p : Nat, p = L - 1 - i ∧ (L : Int) - 1 - (i : Int) = (p : Int) := ⟨L - 1 - i, rfl, by omega⟩
        have hpL : (p : Int) < (L : Int) := by omega
        have hy : wr.cell? ⟨g, o + p, none⟩ = some (.int .u8 (db N i : Nat)) := by rw [HM.out.2.cell (p := ⟨g, o + p, none⟩) hg, hp]; exact hj i hlt
        have hx := HM.out.1.cell q hqk
        have hfr := HM.out.1.free q hqk
        rw [Nat.zero_add] at hx hfr
        have HB := hide (byte_limb N q r hr4)
        rw [← Hiq.out] at HB
        have hxl : dg (N % 256 ^ i) q < 2 ^ t := by rw [ht]; exact HB.out.2.1
        have hcl := db_lt N i
        have Hs : Hid (dg (N % 256 ^ (i + 1)) q = dg (N % 256 ^ i) q + db N i * 2 ^ t) := by show _ = _; rw [ht]; exact HB.out.1
        clear hq hr ht hp HB
        generalize dg (N % 256 ^ i) q = x at *
        generalize db N i = c at *
        go_wp2_with fail
        go_region
        have hor := or_byte x c t hxl hcl ht24
        have H2 : Hid (Wk (wr.setCell ⟨w.heap.size, q, none⟩ (.int .u32 (bits .or .u32 (x : Int) ((c : Int) * 2 ^ t % 4294967296)))) w.heap.size 0 k (N % 256 ^ (i + 1)) ∧ Below w.heap.size w (wr.setCell ⟨w.heap.size, q, none⟩ (.int .u32 (bits .or .u32 (x : Int) ((c : Int) * 2 ^ t % 4294967296))))) := by
          refine ⟨?_, HM.out.2.setCell (Nat.le_refl _) _⟩
          have hW := HM.out.1
          rw [Hiq.out] at hW Hs ⊢
          exact hW.byte hr4 hqk _ (by rw [hor, Hs.out])
        generalize wr.setCell ⟨w.heap.size, q, none⟩ (.int .u32 (bits .or .u32 (x : Int) ((c : Int) * 2 ^ t % 4294967296))) = wn at *
        clear hor
        go_wp2_with fail
        go_roundw
        case rel => exact ⟨i + 1, by omega, by go_num, H2.out.1.drewN 1, below_drewN H2.out.2 1⟩
        case measure => simp [intOf]; omega
      · obtain rfl : i = L := by omega
        go_wp2_with fail
        refine (tell_any _ k N _ (by have := HM.out.1; rw [HN.out.1] at this; exact this.row (S := fun _ => True) (by omega) (Nat.le_refl _) trivial _ (fun _ => rfl))).mono ?_
        rintro e w3 ⟨u, c, rfl, ht, hb⟩
        have H3 : Hid (c = 0 ∧ (∃ n, Own w3 w.heap.size u n N ∧ Nrm n N ∧ Fits N) ∧ Below w.heap.size w w3) := by
          obtain ⟨h1, n, h2, h3⟩ := ht.ok HN.out.2
          exact ⟨h1, ⟨n, h2.mono HM.out.2.size, h3, HN.out.2⟩, HM.out.2.trans (hb.mono HM.out.2.size)⟩
        obtain rfl := H3.out.1
        clear ht hb
        go_wp2_with fail
        go_ret2
        exact ⟨u, rfl, H3.out.2⟩

theorem OfBytes_ok (v : Value) (L N : Nat) (w : World) (h : RowB w v L N) (hL : L ≤ 32768) (ht : 0 < L → db N (L - 1) ≠ 0) :
    Calls Try.prog 8 #[v] w fun e w' => ∃ r, e = .returned (.tuple #[r, .int .i64 0]) ∧ Num w' r N ∧ Below w.heap.size w w' :=
  (OfBytes_own v L N w h hL ht).mono fun e w' ⟨r, he, ⟨n, ho, hn, hf⟩, hb⟩ => ⟨r, he, ho.num hn hf, hb⟩

end Go.Proofs.Ytfbkdjghbgdgpaa

/- OfBytes: the errors, and the document's. -/
import Derived.Test.YtfbkdjghbgdgpaaBP
import Derived.Test.YtfbkdjghbgdgpaaAO
import Derived.BigRegion
namespace Go.Proofs.Ytfbkdjghbgdgpaa
open Go.RowKit
open M
set_option linter.unusedVariables false
set_option linter.unusedSimpArgs false

/-- A nought ahead. -/
theorem bytes_head {w : World} {v : Value} {L N : Nat} (h : RowB w v L N) (hL : 0 < L) : ∃ g o cap, v = .slice (some ⟨g, o, none⟩) L cap ∧ w.cell? ⟨g, o, none⟩ = some (.int .u8 (db N (L - 1) : Nat)) := by
  obtain ⟨_, ad, cap, rfl, _, hc⟩ := h
  obtain ⟨g, o, rfl, _, hj⟩ := hc hL
  exact ⟨g, o, cap, rfl, by have := hj (L - 1) (by omega); rwa [show o + (L - 1 - (L - 1)) = o from by omega] at this⟩

set_option maxRecDepth 100000 in
theorem OfBytes_zero (v : Value) (L N : Nat) (w : World) (h : RowB w v L N) (hL : 0 < L) (h0 : db N (L - 1) = 0) :
    Calls Try.prog 8 #[v] w fun e w' => e = .returned (.tuple #[.slice none 0 0, .int .i64 26]) ∧ w' = w := by
  obtain ⟨g, o, cap, rfl, hc⟩ := bytes_head h hL
  rw [h0] at hc
  clear h
  have hL' : (0 : Int) < (L : Int) := by omega
  go_enter Try.func8, Try.ntmps8
  go_wp2_with fail
  go_ret2
  exact ⟨rfl, rfl⟩

set_option maxRecDepth 100000 in
theorem rOfBytes_zero (v : Value) (L N : Nat) (w : World) (h : RowB w v L N) (hL : 0 < L) (h0 : db N (L - 1) = 0) :
    Calls Try.prog 9 #[v] w fun e w' => e = .returned (.tuple #[.slice none 0 0, .int .i64 26]) ∧ w' = w := by
  obtain ⟨g, o, cap, rfl, hc⟩ := bytes_head h hL
  rw [h0] at hc
  clear h
  have hL' : (0 : Int) < (L : Int) := by omega
  go_enter Try.func9, Try.ntmps9
  go_wp2_with fail
  go_ret2
  exact ⟨rfl, rfl⟩

set_option maxRecDepth 100000 in
theorem OfBytes_over (v : Value) (L N : Nat) (w : World) (h : RowB w v L N) (hL : 32768 < L) (hL2 : L ≤ 1000000) (h0 : db N (L - 1) ≠ 0) :
    Calls Try.prog 8 #[v] w fun e w' => e = .returned (.tuple #[.slice none 0 0, .int .i64 21]) ∧ w' = w := by
  obtain ⟨g, o, cap, rfl, hc⟩ := bytes_head h (by omega)
  have hx : ((db N (L - 1) : Int) == 0) = false := by simp; omega
  have hl := db_lt N (L - 1)
  generalize db N (L - 1) = c at *
  clear h h0
  have hL' : (0 : Int) < (L : Int) := by omega
  have hL1 : (32768 : Int) < (L : Int) := by omega
  go_enter Try.func8, Try.ntmps8
  go_wp2_with fail
  go_ret2
  exact ⟨rfl, rfl⟩

set_option maxRecDepth 100000 in
theorem rOfBytes_over (v : Value) (L N : Nat) (w : World) (h : RowB w v L N) (hL : 32768 < L) (hL2 : L ≤ 1000000) (h0 : db N (L - 1) ≠ 0) :
    Calls Try.prog 9 #[v] w fun e w' => e = .returned (.tuple #[.slice none 0 0, .int .i64 21]) ∧ w' = w := by
  obtain ⟨g, o, cap, rfl, hc⟩ := bytes_head h (by omega)
  have hx : ((db N (L - 1) : Int) == 0) = false := by simp; omega
  have hl := db_lt N (L - 1)
  generalize db N (L - 1) = c at *
  clear h h0
  have hL' : (0 : Int) < (L : Int) := by omega
  have hL1 : (32768 : Int) < (L : Int) := by omega
  go_enter Try.func9, Try.ntmps9
  go_wp2_with fail
  go_ret2
  exact ⟨rfl, rfl⟩

theorem add_byte (x c t : Nat) (ht : t ≤ 24) (h : x + c * 2 ^ t < 4294967296) : ((x : Int) + (c : Int) * (2 ^ t % 4294967296)) % 4294967296 = ((x + c * 2 ^ t : Nat) : Int) := by
  have h2 : 2 ^ t ≤ 2 ^ 24 := Nat.pow_le_pow_right (by omega) ht
  have e : (2 : Int) ^ t % 4294967296 = ((2 ^ t : Nat) : Int) := by
    rw [show (2 : Int) ^ t = ((2 ^ t : Nat) : Int) by simp]
    generalize 2 ^ t = y at *
    omega
  rw [e, ← Int.natCast_mul, ← Int.natCast_add]
  generalize x + c * 2 ^ t = z at *
  omega

set_option maxRecDepth 100000 in
set_option maxHeartbeats 4000000 in
theorem rOfBytes_own (v : Value) (L N : Nat) (w : World) (h : RowB w v L N) (hL : L ≤ 32768) (ht : 0 < L → db N (L - 1) ≠ 0) :
    Calls Try.prog 9 #[v] w fun e w' => ∃ r, e = .returned (.tuple #[r, .int .i64 0]) ∧ (∃ n, Own w' w.heap.size r n N ∧ Nrm n N ∧ n ≤ 8193) ∧ Below w.heap.size w w' := by
  obtain ⟨i5, hi5⟩ := info32
  have Hi := hide hi5
  clear hi5
  obtain ⟨hN, ad, cap, rfl, hc, hcell⟩ := h
  have HR := hide hcell
  have HT := hide ht
  obtain ⟨k, hk, hk1, hk2⟩ : ∃ k : Nat, k = L / 4 + 1 ∧ (L : Int).tdiv 4 + 1 = (k : Int) ∧ (L : Int) / 4 + 1 = (k : Int) := ⟨L / 4 + 1, rfl, by show ((L / 4 : Nat) : Int) + 1 = _; omega, by omega⟩
  have hLk : L < 4 * k := by omega
  have hkb : k ≤ 8193 := by omega
  have HN : Hid (N % 256 ^ L = N ∧ N < 4294967296 ^ k) := by
    refine ⟨Nat.mod_eq_of_lt hN, Nat.lt_of_lt_of_le hN ?_⟩
    rw [show (4294967296 : Nat) = 256 ^ 4 from by decide, ← Nat.pow_mul]
    exact Nat.pow_le_pow_right (by omega) (by omega)
  clear hcell ht hk hN
  have HS0 : Hid (Wk (w.alloc (.cells (madeCells #[Value.int .u32 0] k) 58)) w.heap.size 0 k (N % 256 ^ 0) ∧ Below w.heap.size w (w.alloc (.cells (madeCells #[Value.int .u32 0] k) 58))) :=
    ⟨by rw [Nat.pow_zero, Nat.mod_one]; exact wk_of_block (pw_pos _) (make_block w k), (Below.refl _ _).alloc (Nat.le_refl _) _⟩
  have HD : Hid (L = 0 ∨ (0 < L ∧ ∃ g o, ad = some ⟨g, o, none⟩ ∧ w.cell? ⟨g, o, none⟩ = some (.int .u8 (db N (L - 1) : Nat)))) := by
    rcases Nat.eq_zero_or_pos L with h0 | h0
    · exact .inl h0
    · obtain ⟨g, o, h1, _, hj⟩ := HR.out h0
      exact .inr ⟨h0, g, o, h1, by have := hj (L - 1) (by omega); rwa [show o + (L - 1 - (L - 1)) = o from by omega] at this⟩
  have hLle : ¬ (32768 : Int) < (L : Int) := by omega
  rcases HD.out with hL0 | ⟨hL0, g, o, rfl, hx0⟩
  · subst hL0
    obtain rfl : k = 1 := by omega
    clear HD
    go_enter Try.func9, Try.ntmps9
    go_wp2_with (at_make; refine wpList_make_row _ rfl _ _ _ rfl 58 i5 (.int .u32 0) Try.underlying27 Hi.out.1 Hi.out.2.1 Hi.out.2.2.1 rfl .i64 .i64 1 rfl rfl (by rw [Hi.out.2.2.2]; omega) (by omega) ?_)
    generalize w.alloc (.cells (madeCells #[Value.int .u32 0] 1) 58) = wa at *
    go_loopw [5] (fun t5 wr => t5 = .int .i64 0 ∧ Hid (Wk wr w.heap.size 0 1 (N % 256 ^ 0) ∧ Below w.heap.size w wr)) (fun t5 _ => 0)
    case atStart => exact ⟨rfl, HS0⟩
    case round =>
      obtain ⟨rfl, HM⟩ := hrel
      go_wp2_with fail
      refine (rtrim_any _ 1 N _ (by have := HM.out.1; rw [HN.out.1] at this; exact this.row (S := fun _ => True) (by omega) (Nat.le_refl _) trivial _ (fun _ => rfl)) (by omega)).mono ?_
      rintro e w3 ⟨u, rfl, n, ho, hn, hnk, hb⟩
      have H3 : Hid ((∃ n, Own w3 w.heap.size u n N ∧ Nrm n N ∧ n ≤ 8193) ∧ Below w.heap.size w w3) := ⟨⟨n, ho.mono HM.out.2.size, hn, by omega⟩, HM.out.2.trans (hb.mono HM.out.2.size)⟩
      clear ho hn hb
      go_wp2_with fail
      go_ret2
      exact ⟨u, rfl, H3.out⟩
  · have hL0' : (0 : Int) < (L : Int) := by omega
    have hx1 : ((db N (L - 1) : Int) == 0) = false := by have := HT.out hL0; simp; omega
    generalize db N (L - 1) = c0 at *
    clear HD
    go_enter Try.func9, Try.ntmps9
    go_wp2_with (at_make; refine wpList_make_row _ rfl _ _ _ rfl 58 i5 (.int .u32 0) Try.underlying27 Hi.out.1 Hi.out.2.1 Hi.out.2.2.1 rfl .i64 .i64 k rfl rfl (by rw [Hi.out.2.2.2]; omega) (by omega) ?_)
    generalize w.alloc (.cells (madeCells #[Value.int .u32 0] k) 58) = wa at *
    go_loopw [5] (fun t5 wr => ∃ i : Nat, i ≤ L ∧ t5 = .int .i64 i ∧ Hid (Wk wr w.heap.size 0 k (N % 256 ^ i) ∧ Below w.heap.size w wr)) (fun t5 _ => L - (intOf t5).toNat)
    case atStart => exact ⟨0, by omega, rfl, HS0⟩
    case round =>
      obtain ⟨i, hi, rfl, HM⟩ := hrel
      by_cases hlt : i < L
      · have hlt' : (i : Int) < (L : Int) := by omega
        obtain ⟨g2, o2, ha2, hg, hj⟩ := HR.out (by omega)
        obtain ⟨q, hq, hq'⟩ : ∃ q : Nat, q = i / 4 ∧ (i : Int).tdiv 4 = (q : Int) := ⟨i / 4, rfl, rfl⟩
        obtain ⟨r, hr, hr'⟩ : ∃ r : Nat, r = i % 4 ∧ (i : Int).tmod 4 = (r : Int) := ⟨i % 4, rfl, rfl⟩
        have hq2 : (i : Int) / 4 = (q : Int) := by omega
        have hr2 : (i : Int) % 4 = (r : Int) := by omega
        have hqk : q < k := by omega
        have hqk' : (q : Int) < (k : Int) := by omega
        have hr4 : r < 4 := by omega
        have Hiq : Hid (i = 4 * q + r) := (by omega : i = 4 * q + r)
        obtain ⟨t, ht, ht'⟩ : ∃ t : Nat, t = 8 * r ∧ 8 * (r : Int) = (t : Int) := ⟨8 * r, rfl, by omega⟩
        have ht32 : t < 32 := by omega
        have ht24 : t ≤ 24 := by omega
        obtain ⟨p, hp, hp'⟩ : ∃ p : Nat, p = L - 1 - i ∧ (L : Int) - 1 - (i : Int) = (p : Int) := ⟨L - 1 - i, rfl, by omega⟩
        have hpL : (p : Int) < (L : Int) := by omega
        simp only [Option.some.injEq, Addr.mk.injEq, and_true] at ha2
        obtain ⟨rfl, rfl⟩ := ha2
        have hy : wr.cell? ⟨g, o + p, none⟩ = some (.int .u8 (db N i : Nat)) := by rw [HM.out.2.cell (p := ⟨g, o + p, none⟩) hg, hp]; exact hj i hlt
        have hx := HM.out.1.cell q hqk
        have hfr := HM.out.1.free q hqk
        rw [Nat.zero_add] at hx hfr
        have HB := hide (byte_limb N q r hr4)
        rw [← Hiq.out] at HB
        have hxl : dg (N % 256 ^ i) q < 2 ^ t := by rw [ht]; exact HB.out.2.1
        have hcl := db_lt N i
        have Hs : Hid (dg (N % 256 ^ (i + 1)) q = dg (N % 256 ^ i) q + db N i * 2 ^ t) := by show _ = _; rw [ht]; exact HB.out.1
        have hsl := dg_lt (N % 256 ^ (i + 1)) q
        rw [Hs.out] at hsl
        clear hq hr ht hp HB
        generalize dg (N % 256 ^ i) q = x at *
        generalize db N i = c at *
        go_wp2_with fail
        go_region
        have hor := add_byte x c t ht24 hsl
        have H2 : Hid (Wk (wr.setCell ⟨w.heap.size, q, none⟩ (.int .u32 (((x : Int) + (c : Int) * (2 ^ t % 4294967296)) % 4294967296))) w.heap.size 0 k (N % 256 ^ (i + 1)) ∧ Below w.heap.size w (wr.setCell ⟨w.heap.size, q, none⟩ (.int .u32 (((x : Int) + (c : Int) * (2 ^ t % 4294967296)) % 4294967296)))) := by
          refine ⟨?_, HM.out.2.setCell (Nat.le_refl _) _⟩
          have hW := HM.out.1
          rw [Hiq.out] at hW Hs ⊢
          exact hW.byte hr4 hqk _ (by rw [hor, Hs.out])
        generalize wr.setCell ⟨w.heap.size, q, none⟩ (.int .u32 (((x : Int) + (c : Int) * (2 ^ t % 4294967296)) % 4294967296)) = wn at *
        clear hor
        go_wp2_with fail
        go_roundw
        case rel => exact ⟨i + 1, by omega, by go_num, H2.out.1.drewN 1, below_drewN H2.out.2 1⟩
        case measure => simp [intOf]; omega
      · obtain rfl : i = L := by omega
        go_wp2_with fail
        refine (rtrim_any _ k N _ (by have := HM.out.1; rw [HN.out.1] at this; exact this.row (S := fun _ => True) (by omega) (Nat.le_refl _) trivial _ (fun _ => rfl)) (by omega)).mono ?_
        rintro e w3 ⟨u, rfl, n, ho, hn, hnk, hb⟩
        have H3 : Hid ((∃ n, Own w3 w.heap.size u n N ∧ Nrm n N ∧ n ≤ 8193) ∧ Below w.heap.size w w3) := ⟨⟨n, ho.mono HM.out.2.size, hn, by omega⟩, HM.out.2.trans (hb.mono HM.out.2.size)⟩
        clear ho hn hb
        go_wp2_with fail
        go_ret2
        exact ⟨u, rfl, H3.out⟩

end Go.Proofs.Ytfbkdjghbgdgpaa

/- OfBytes. -/
import Derived.Test.YtmfimhpbdbbpoaaDoorT
import Derived.RegionTactic
import Derived.ChangeAlike
/- Bytes: a number's bytes, the highest first. -/
namespace Go.Proofs.YtmfimhpbdbbpoaaDoor
open Go.RowKit
open M
set_option linter.unusedVariables false
set_option linter.unusedSimpArgs false

/-- A number's byte, from below. -/
def db (N i : Nat) : Nat := N / 256 ^ i % 256
theorem db_lt (N i : Nat) : db N i < 256 := Nat.mod_lt _ (by omega)
theorem bp_pos (i : Nat) : 0 < 256 ^ i := Nat.pow_pos (by omega)

theorem bp_split (q r : Nat) : 256 ^ (4 * q + r) = 4294967296 ^ q * 2 ^ (8 * r) := by
  rw [Nat.pow_add, Nat.pow_mul, Nat.pow_mul]

theorem db_dg (N q r : Nat) (hr : r < 4) : dg N q / 2 ^ (8 * r) % 256 = db N (4 * q + r) := by
  unfold db dg
  rw [bp_split, ← Nat.div_div_eq_div_mul]
  generalize N / 4294967296 ^ q = M
  have h : r = 0 ∨ r = 1 ∨ r = 2 ∨ r = 3 := by omega
  rcases h with rfl | rfl | rfl | rfl <;> simp <;> omega

theorem bmod_succ (N i : Nat) : N % 256 ^ (i + 1) = N % 256 ^ i + 256 ^ i * db N i := Nat.mod_pow_succ

theorem db_ext {N N' : Nat} : ∀ {k : Nat}, (∀ j, j < k → db N j = db N' j) → N % 256 ^ k = N' % 256 ^ k
  | 0, _ => by simp [Nat.mod_one]
  | k + 1, h => by rw [bmod_succ, bmod_succ, db_ext fun j hj => h j (by omega), h k (by omega)]

/-- Behind i bytes of Bytes. -/
def ByteSt (w : World) (g L N i : Nat) (wr : World) : Prop :=
  (∀ j, j < L → wr.cell? ⟨g, L - 1 - j, none⟩ = some (.int .u8 ((if j < i then db N j else 0 : Nat) : Int)) ∧ wr.frozen? ⟨g, L - 1 - j, none⟩ = false) ∧ Below w.heap.size w wr ∧ g < wr.heap.size

theorem ByteSt.start (w : World) (L N : Nat) : ByteSt w w.heap.size L N 0 (w.alloc (.cells (madeCells #[Value.int .u8 0] L) 5)) := by
  have hg := heap_alloc_new w (.cells (madeCells #[Value.int .u8 0] L) 5)
  refine ⟨fun j hj => ⟨?_, frozen_of_row _ _ _ _ _ hg⟩, (Below.refl _ _).alloc (Nat.le_refl _) _, by simp⟩
  rw [cell_of_row _ _ (L - 1 - j) _ _ (0, 0) hg, ← Array.getElem?_toList, toList_madeCells_one, List.getElem?_replicate, if_pos (by omega), if_neg (by omega)]
  rfl

theorem ByteSt.step {w wr : World} {g L N i : Nat} (h : ByteSt w g L N i wr) (hi : i < L) (hg : w.heap.size ≤ g) (p : Nat) (hp : p = L - 1 - i) (y : Int) (hy : y = (db N i : Nat)) : ByteSt w g L N (i + 1) (wr.setCell ⟨g, p, none⟩ (.int .u8 y)) := by
  subst hp
  refine ⟨fun j hj => ⟨?_, by rw [frozen_setCell]; exact (h.1 j hj).2⟩, h.2.1.setCell hg _, by simp [World.setCell]; exact h.2.2⟩
  by_cases e : j = i
  · subst e
    rw [cell_setCell_eq wr _ _ _ _ (h.1 j hj).1, if_pos (by omega), hy]
  · rw [cell_setCell_ne _ _ _ _ _ (by omega)]
    rw [(h.1 j hj).1]
    by_cases e2 : j < i
    · rw [if_pos e2, if_pos (by omega)]
    · rw [if_neg e2, if_neg (by omega)]

/-- Bytes in memory: a number's, the highest first. -/
def BytesOf (w : World) (base : Nat) (v : Value) (L N : Nat) : Prop :=
  ∃ g, v = .slice (some ⟨g, 0, none⟩) L L ∧ base ≤ g ∧ g < w.heap.size ∧ ∀ j, j < L → w.cell? ⟨g, L - 1 - j, none⟩ = some (.int .u8 (db N j : Nat))

set_option maxRecDepth 100000 in
set_option maxHeartbeats 1000000 in
theorem Bytes_row {S : Nat → Prop} (v : Value) (k N : Nat) (w : World) (h : RowX S w v k N) (hn : Nrm k N) (hk : k ≤ 8192) :
    Calls Tryd.prog 19 #[v] w fun e w' => ∃ r, e = .returned r ∧ BytesOf w' w.heap.size r ((bitLen N + 7) / 8) N ∧ Below w.heap.size w w' := by
  obtain ⟨i8, hi8⟩ := info8
  have Hi := hide hi8
  clear hi8
  have HC := hide (check_ok v k N w h hn hk)
  have HL := hide (Len_row v k N w h hn hk)
  have hbl : bitLen N ≤ 32 * k := bitLen_le (by rw [Nat.pow_mul]; exact hn.1)
  obtain ⟨_, _, ad, cap, rfl, hc, hcell⟩ := Row.old h.row
  have HR := hide hcell
  clear hcell h hn
  obtain ⟨L, hL, hL'⟩ : ∃ L : Nat, L = (bitLen N + 7) / 8 ∧ (((bitLen N : Nat) : Int) + 7).tdiv 8 = (L : Int) := ⟨(bitLen N + 7) / 8, rfl, rfl⟩
  have hL2 : (((bitLen N : Nat) : Int) + 7) / 8 = (L : Int) := by omega
  have hLk : L ≤ 4 * k := by omega
  have HLb := hide hL
  clear hL
  generalize bitLen N = b at *
  have HS0 := hide (ByteSt.start w L N)
  go_enter Tryd.func19, Tryd.ntmps19
  go_wp2_with fail
  refine HC.out.mono ?_
  rintro e w1 ⟨rfl, hw1⟩
  subst hw1
  go_wp2_with fail
  refine HL.out.mono ?_
  rintro e w2 ⟨rfl, hw2⟩
  subst hw2
  have hbb : b ≤ 262144 := by omega
  have hLb : L ≤ 32768 := by omega
  go_wp2_with (at_make; refine wpList_make_row _ rfl _ _ _ rfl 5 i8 (.int .u8 0) Tryd.underlying46 Hi.out.1 Hi.out.2.1 Hi.out.2.2.1 rfl .i64 .i64 L rfl rfl (by rw [Hi.out.2.2.2]; omega) (by omega) ?_)
  generalize w2.alloc (.cells (madeCells #[Value.int .u8 0] L) 5) = wa at *
  go_loopw [15] (fun t15 wr => ∃ i : Nat, i ≤ L ∧ t15 = .int .i64 i ∧ Hid (ByteSt w2 w2.heap.size L N i wr)) (fun t15 _ => L - (intOf t15).toNat)
  case atStart => exact ⟨0, by omega, rfl, HS0⟩
  case round =>
    obtain ⟨i, hi, rfl, HM⟩ := hrel
    by_cases hlt : i < L
    · have hlt' : (i : Int) < (L : Int) := by omega
      obtain ⟨q, hq, hq'⟩ : ∃ q : Nat, q = i / 4 ∧ (i : Int).tdiv 4 = (q : Int) := ⟨i / 4, rfl, rfl⟩
      obtain ⟨r, hr, hr'⟩ : ∃ r : Nat, r = i % 4 ∧ (i : Int).tmod 4 = (r : Int) := ⟨i % 4, rfl, rfl⟩
      have hq2 : (i : Int) / 4 = (q : Int) := by omega
      have hr2 : (i : Int) % 4 = (r : Int) := by omega
      have hqk : q < k := by omega
      have hqk' : (q : Int) < (k : Int) := by omega
      have hr4 : r < 4 := by omega
      have hiq : i = 4 * q + r := by omega
      obtain ⟨t, ht, ht'⟩ : ∃ t : Nat, t = 8 * r ∧ (r : Int) * 8 = (t : Int) := ⟨8 * r, rfl, by omega⟩
      have ht32 : t < 32 := by omega
      obtain ⟨p, hp, hp'⟩ : ∃ p : Nat, p = L - 1 - i ∧ (L : Int) - 1 - (i : Int) = (p : Int) := ⟨L - 1 - i, rfl, by omega⟩
      have hpL : (p : Int) < (L : Int) := by omega
      obtain ⟨g, o, rfl, hg, hj⟩ := HR.out (by omega)
      have hx : wr.cell? ⟨g, o + q, none⟩ = some (.int .u32 (dg N q : Nat)) := by rw [HM.out.2.1.cell (p := ⟨g, o + q, none⟩) hg]; exact hj q hqk
      have hy := (HM.out.1 i hlt).1
      have hfr := (HM.out.1 i hlt).2
      rw [← hp] at hy hfr
      rw [if_neg (by omega)] at hy
      have Hs : Hid (dg N q / 2 ^ t % 256 = db N i) := by show _ = _; rw [ht, hiq]; exact db_dg N q r hr4
      have hxl := dg_lt N q
      have HP := hide hp
      clear hj hq hr ht hp hiq
      generalize dg N q = x at *
      go_wp2_with fail
      go_roundw
      case rel => exact ⟨i + 1, by omega, by go_num, HM.out.step hlt (Nat.le_refl _) p HP.out _ (by rw [← Hs.out]; simp)⟩
      case measure => simp [intOf]; omega
    · obtain rfl : i = L := by omega
      go_wp2_with fail
      go_ret
      refine ⟨_, rfl, ?_, HM.out.2.1⟩
      rw [← HLb.out]
      refine ⟨w2.heap.size, rfl, Nat.le_refl _, ?_, fun j hj => ?_⟩
      · exact HM.out.2.2
      · rw [(HM.out.1 j hj).1, if_pos hj]

end Go.Proofs.YtmfimhpbdbbpoaaDoor

namespace Go.Proofs.YtmfimhpbdbbpoaaDoor
open Go.RowKit
open M
set_option linter.unusedVariables false
set_option linter.unusedSimpArgs false

/-- Bytes in memory, as they may come: a number's, the highest first. -/
def RowB (w : World) (v : Value) (L N : Nat) : Prop :=
  N < 256 ^ L ∧ ∃ ad cap, v = .slice ad L cap ∧ L ≤ cap ∧ (0 < L → ∃ g o, ad = some ⟨g, o, none⟩ ∧ g < w.heap.size ∧ ∀ j, j < L → w.cell? ⟨g, o + (L - 1 - j), none⟩ = some (.int .u8 (db N j : Nat)))

theorem byte_limb (N q r : Nat) (hr : r < 4) : dg (N % 256 ^ (4 * q + r + 1)) q = dg (N % 256 ^ (4 * q + r)) q + db N (4 * q + r) * 2 ^ (8 * r) ∧ dg (N % 256 ^ (4 * q + r)) q < 2 ^ (8 * r) ∧
    N % 256 ^ (4 * q + r + 1) < 4294967296 ^ (q + 1) ∧ ∀ j, j ≠ q → dg (N % 256 ^ (4 * q + r + 1)) j = dg (N % 256 ^ (4 * q + r)) j := by
  have hc := db_lt N (4 * q + r)
  have hX : N % 256 ^ (4 * q + r) < 4294967296 ^ q * 2 ^ (8 * r) := by rw [← bp_split]; exact Nat.mod_lt _ (bp_pos _)
  rw [bmod_succ]
  rw [bp_split] at *
  generalize N % (4294967296 ^ q * 2 ^ (8 * r)) = X at *
  generalize db N (4 * q + r) = c at *
  have hq : X / 4294967296 ^ q < 2 ^ (8 * r) := by rw [Nat.div_lt_iff_lt_mul (pw_pos q), Nat.mul_comm]; exact hX
  have hb : 2 ^ (8 * r) * 256 ≤ 4294967296 := by
    have h : r = 0 ∨ r = 1 ∨ r = 2 ∨ r = 3 := by omega
    rcases h with rfl | rfl | rfl | rfl <;> decide
  have hy : 2 ^ (8 * r) * c + 2 ^ (8 * r) ≤ 2 ^ (8 * r) * 256 := by
    have : 2 ^ (8 * r) * (c + 1) ≤ 2 ^ (8 * r) * 256 := Nat.mul_le_mul_left _ (by omega)
    rwa [Nat.mul_add, Nat.mul_one] at this
  rw [Nat.mul_assoc]
  have hXq : dg X q = X / 4294967296 ^ q := Nat.mod_eq_of_lt (by omega)
  have hlt : X + 4294967296 ^ q * (2 ^ (8 * r) * c) < 4294967296 ^ (q + 1) := by
    rw [pw_succ]
    have h1 : 4294967296 ^ q * (2 ^ (8 * r) * c) + 4294967296 ^ q * 2 ^ (8 * r) ≤ 4294967296 ^ q * 4294967296 := by rw [← Nat.mul_add]; exact Nat.mul_le_mul_left _ (by omega)
    omega
  refine ⟨?_, by rw [hXq]; exact hq, hlt, fun j hj => ?_⟩
  · rw [hXq, Nat.mul_comm c]
    show (X + 4294967296 ^ q * (2 ^ (8 * r) * c)) / 4294967296 ^ q % 4294967296 = _
    rw [carry_div, Nat.mod_eq_of_lt (by omega)]
  · rcases Nat.lt_or_ge j q with h | h
    · exact dg_low h
    · have hX2 : X < 4294967296 ^ (q + 1) := Nat.lt_of_le_of_lt (Nat.le_add_right _ _) hlt
      rw [dg_high hlt (by omega), dg_high hX2 (by omega)]

theorem Wk.byte {w : World} {g k N q r : Nat} (h : Wk w g 0 k (N % 256 ^ (4 * q + r))) (hr : r < 4) (hq : q < k) (y : Int) (hy : y = (dg (N % 256 ^ (4 * q + r + 1)) q : Nat)) :
    Wk (w.setCell ⟨g, q, none⟩ (.int .u32 y)) g 0 k (N % 256 ^ (4 * q + r + 1)) := by
  have hb := byte_limb N q r hr
  refine ⟨Nat.lt_of_lt_of_le hb.2.2.1 (Nat.pow_le_pow_right (by omega) (by omega)), fun j hj => ?_, fun j hj => by rw [frozen_setCell]; exact h.free j hj⟩
  rw [Nat.zero_add]
  by_cases e : j = q
  · subst e
    have := h.cell j hj
    rw [Nat.zero_add] at this
    rw [cell_setCell_eq _ _ _ _ _ this, hy]
  · rw [cell_setCell_ne _ _ _ _ _ e, hb.2.2.2 j e]
    have := h.cell j hj
    rwa [Nat.zero_add] at this

theorem or_byte (x c t : Nat) (hx : x < 2 ^ t) (hc : c < 256) (ht : t ≤ 24) : bits .or .u32 (x : Int) ((c : Int) * 2 ^ t % 4294967296) = ((x + c * 2 ^ t : Nat) : Int) := by
  have h1 : 2 ^ t ≤ 2 ^ 24 := Nat.pow_le_pow_right (by omega) ht
  have h2 : c * 2 ^ t ≤ 255 * 2 ^ 24 := Nat.mul_le_mul (by omega) h1
  have e : (c : Int) * 2 ^ t % 4294967296 = ((c * 2 ^ t : Nat) : Int) := by
    have e1 : (c : Int) * 2 ^ t = ((c * 2 ^ t : Nat) : Int) := by simp
    rw [e1]; omega
  rw [e, u32_or_nat _ _ (by omega) (by omega), Nat.or_comm, nat_join t (c * 2 ^ t) x (Nat.mul_mod_left _ _) hx, Nat.add_comm]



end Go.Proofs.YtmfimhpbdbbpoaaDoor

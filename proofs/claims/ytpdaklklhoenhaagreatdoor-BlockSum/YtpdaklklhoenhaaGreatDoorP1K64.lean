/- The contract of a column's take (64 bits). -/
import Derived.Test.YtpdaklklhoenhaaGreatDoorP1E64
import Derived.Laws.BitsAllLaws
import Derived.Deep.Cut
/- The contract of a column's lay (64 bits). -/
namespace Go.Proofs.YtpdaklklhoenhaaGreatDoor
open Go.RowKit
open M
set_option linter.unusedVariables false
set_option linter.unusedSimpArgs false

/-- What a column's lay leaves. -/
def LayEnd64 (b c lo v p L N : Nat) (l : List Bool) (w : World) (e : Ending) (w' : World) : Prop :=
  e = .returned (.tuple #[]) ∧ Wr w' lo b 0 (l ++ xb 64 6 L N (v ^^^ p)) 0 ∧ Col64 w' c v (nxt 64 6 (L, N) (v ^^^ p)).1 (nxt 64 6 (L, N) (v ^^^ p)).2 ∧ Two64 b c w w'

theorem Col64.setAhead {w : World} {c p L N : Nat} (h : Col64 w c p L N) (v : Nat) : Col64 (w.setCell ⟨c, 0, none⟩ (.int .u64 (v : Int))) c v L N :=
  ⟨cell_setCell_eq _ _ _ _ _ h.ahead, by rw [cell_setCell_ne _ _ _ _ _ (by omega)]; exact h.lead, by rw [cell_setCell_ne _ _ _ _ _ (by omega)]; exact h.len, fun i => by rw [frozen_setCell]; exact h.fz i⟩
theorem Col64.setOld {w : World} {c p L N : Nat} (h : Col64 w c p L N) (L' N' : Nat) : Col64 ((w.setCell ⟨c, 1, none⟩ (.int .i64 (L' : Int))).setCell ⟨c, 2, none⟩ (.int .i64 (N' : Int))) c p L' N' :=
  ⟨by rw [cell_setCell_ne _ _ _ _ _ (by omega), cell_setCell_ne _ _ _ _ _ (by omega)]; exact h.ahead, by rw [cell_setCell_ne _ _ _ _ _ (by omega)]; exact cell_setCell_eq _ _ _ _ _ h.lead,
    cell_setCell_eq _ _ _ _ (.int .i64 (N : Int)) (by rw [cell_setCell_ne _ _ _ _ _ (by omega)]; exact h.len), fun i => by rw [frozen_setCell, frozen_setCell]; exact h.fz i⟩
theorem Col64.other {w w' : World} {c p L N b lo hi : Nat} (h : Col64 w c p L N) (ho : Only b lo hi w w') (hne : c ≠ b) : Col64 w' c p L N := by
  have e := ho.block c h.lt hne
  exact ⟨by rw [World.cell?_of_block (w := w) e]; exact h.ahead, by rw [World.cell?_of_block (w := w) e]; exact h.lead, by rw [World.cell?_of_block (w := w) e]; exact h.len,
    fun i => by rw [World.frozen?_of_block (w := w) (w' := w') (a := ⟨c, i, none⟩) e]; exact h.fz i⟩

theorem lay_step64 {b c lo v L N H : Nat} {l : List Bool} {w w4 x wz : World} (h : Wr w4 lo b 0 l 0 ∧ Col64 w4 c v L N ∧ Two64 b c w w4 ∧ lo ≤ w4.heap.size ∧ H < w4.heap.size) (hbz : Below x.heap.size x wz)
    (hx : Below w4.heap.size w4 x := by exact ⟨rfl, rfl, rfl, Nat.le_refl _, fun _ _ => rfl⟩) : Wr wz lo b 0 l 0 ∧ Col64 wz c v L N ∧ Two64 b c w wz ∧ lo ≤ wz.heap.size ∧ H < wz.heap.size := by
  have B : Below w4.heap.size w4 wz := hx.trans (hbz.mono hx.size)
  exact ⟨h.1.below B, h.2.1.below B h.2.1.lt, h.2.2.1.trans (Two64.ofBelow B), Nat.le_trans h.2.2.2.1 B.size, Nat.lt_of_lt_of_le h.2.2.2.2 B.size⟩

set_option maxRecDepth 100000 in
set_option maxHeartbeats 4000000 in
theorem lay64_any (b c lo v p L N : Nat) (w : World) (l : List Bool) (hW : Wr w lo b 0 l 0) (hb : b < lo) (hc : c < lo) (hbc : c ≠ b) (hlo : lo ≤ w.heap.size) (hlen : l.length < 100000000) (hC : Col64 w c p L N) (hw : L + N ≤ 64) (hv : v < 18446744073709551616) (hp : p < 18446744073709551616)
    (hT : Tab64 w) (hTb : 2 ≠ b) (hTc : 2 ≠ c) : Calls Tryz.prog 195 #[.pointer (some ⟨c, 0, none⟩), .pointer (some ⟨b, 0, none⟩), .int .u64 (v : Int)] w (LayEnd64 b c lo v p L N l w) := by
  obtain ⟨x, hxe⟩ : ∃ x, x = v ^^^ p := ⟨_, rfl⟩
  have hx : x < 18446744073709551616 := by rw [hxe]; exact xor_lt 64 v p hv hp
  have q1 : bits BinOp.xor IntKind.u64 (v : Int) (p : Int) = (x : Int) := by rw [hxe]; exact u64_xor_nat v p hv hp
  unfold LayEnd64
  rw [← hxe]
  clear hxe hv hp
  have c0 := hC.ahead
  have f0 := hC.fz 0
  have O0 : Only c 0 3 w (w.setCell ⟨c, 0, none⟩ (.int .u64 (v : Int))) := (Only.refl c 0 3 w).setCell 0 (by omega) (by omega) _
  have HM : Hid (Wr (w.setCell ⟨c, 0, none⟩ (.int .u64 (v : Int))) lo b 0 l 0 ∧ Col64 (w.setCell ⟨c, 0, none⟩ (.int .u64 (v : Int))) c v L N ∧ Two64 b c w (w.setCell ⟨c, 0, none⟩ (.int .u64 (v : Int)))) :=
    ⟨hW.other O0 (fun h => hbc h.symm) hc, hC.setAhead v, Two64.ofC O0⟩
  clear O0 hW hC
  have HX := hide hx
  have HL := hide hw
  have HLEN := hide hlen
  have HT := hide hT
  clear hx hw hlen hT
  by_cases x0 : x = 0
  · subst x0
    go_enter Tryz.func195, Tryz.ntmps195
    go_wp2_with fail
    generalize w.setCell ⟨c, 0, none⟩ (.int .u64 (v : Int)) = w0 at *
    refine (wbit_any b 0 lo false w0 l HM.out.1 hb (Nat.le_trans hlo HM.out.2.2.size) (by have := HLEN.out; omega)).mono ?_
    rintro e w1 ⟨rfl, W1, O1⟩
    go_wp2_with fail
    refine bodyPost_ret (results_none rfl _ _ _) rfl ?_
    exact ⟨rfl, W1, HM.out.2.1.other O1 hbc, HM.out.2.2.trans (Two64.ofB O1)⟩
  have x1 : ((x : Int) != 0) = true := by simp; omega
  have x2 : ((x : Int) == 0) = false := by simp; omega
  have HX0 := hide x0
  clear x0
  go_enter Tryz.func195, Tryz.ntmps195
  go_wp2_with fail
  generalize w.setCell ⟨c, 0, none⟩ (.int .u64 (v : Int)) = w0 at *
  clear c0 f0
  refine (wbit_any b 0 lo true w0 l HM.out.1 hb (Nat.le_trans hlo HM.out.2.2.size) (by have := HLEN.out; omega)).mono ?_
  rintro e w1 ⟨rfl, W1, O1⟩
  have HM1 : Hid (Wr w1 lo b 0 (l ++ [true]) 0 ∧ Col64 w1 c v L N ∧ Two64 b c w w1) := ⟨W1, HM.out.2.1.other O1 hbc, HM.out.2.2.trans (Two64.ofB O1)⟩
  clear W1 O1 HM
  go_wp2_with fail
  refine (pick64_any c v L N x w1 HM1.out.2.1 HL.out HX.out HX0.out (HM1.out.2.2.tab HT.out hTb hTc)).mono ?_
  rintro e w2 ⟨l', n', own, rfl, hb2, hP⟩
  have HP := hide hP
  clear hP
  have HM2 : Hid (Wr (w2.alloc (.cells #[.int .i64 (l' : Int), .int .i64 (n' : Int)] 225)) lo b 0 (l ++ [true]) 0 ∧ Col64 (w2.alloc (.cells #[.int .i64 (l' : Int), .int .i64 (n' : Int)] 225)) c v L N ∧ Two64 b c w (w2.alloc (.cells #[.int .i64 (l' : Int), .int .i64 (n' : Int)] 225)) ∧
      (w2.alloc (.cells #[.int .i64 (l' : Int), .int .i64 (n' : Int)] 225)).heap[w2.heap.size]? = some (.cells #[.int .i64 (l' : Int), .int .i64 (n' : Int)] 225 (0, 0)) ∧ lo ≤ w2.heap.size) := by
    have B : Below w1.heap.size w1 (w2.alloc (.cells #[.int .i64 (l' : Int), .int .i64 (n' : Int)] 225)) := hb2.alloc hb2.size _
    exact ⟨HM1.out.1.below B, HM1.out.2.1.below B HM1.out.2.1.lt, HM1.out.2.2.trans (Two64.ofBelow B), heap_alloc_new w2 _, Nat.le_trans hlo (Nat.le_trans HM1.out.2.2.size hb2.size)⟩
  clear hb2 HM1
  go_wp2_with fail
  obtain ⟨H, hH⟩ : ∃ H, w2.heap.size = H := ⟨_, rfl⟩
  rw [hH] at HM2 ⊢
  generalize w2.alloc (.cells #[.int .i64 (l' : Int), .int .i64 (n' : Int)] 225) = w3 at *
  clear hH
  cases own with
  | false =>
    have HS : Hid (sut 64 6 L N x ∧ l' = L ∧ n' = N) := by
      rcases HP.out with ⟨_, h1, h2, h3⟩ | ⟨h, _⟩
      · exact ⟨h1, h2, h3⟩
      · cases h
    clear HP
    refine (wbit_any b 0 lo false w3 _ HM2.out.1 hb (Nat.le_trans hlo HM2.out.2.2.1.size) (by have := HLEN.out; simp; omega)).mono ?_
    rintro e w4 ⟨rfl, W4, O4⟩
    have hHs : H < w3.heap.size := size_lt_of_row HM2.out.2.2.2.1
    have hHb : H ≠ b := by have := HM2.out.2.2.2.2; omega
    have HM4 : Hid (Wr w4 lo b 0 (l ++ [true] ++ [false]) 0 ∧ Col64 w4 c v L N ∧ Two64 b c w w4 ∧ lo ≤ w4.heap.size ∧ H < w4.heap.size) := ⟨W4, HM2.out.2.1.other O4 hbc, HM2.out.2.2.1.trans (Two64.ofB O4), Nat.le_trans HM2.out.2.2.2.2 (Nat.le_trans (Nat.le_of_lt hHs) O4.size), Nat.lt_of_lt_of_le hHs O4.size⟩
    have d0 : w4.cell? ⟨H, 0, none⟩ = some (.int .i64 (l' : Int)) := by rw [World.cell?_of_block (O4.block H hHs hHb), cell_of_row _ _ _ _ _ _ HM2.out.2.2.2.1]; rfl
    have d1 : w4.cell? ⟨H, 1, none⟩ = some (.int .i64 (n' : Int)) := by rw [World.cell?_of_block (O4.block H hHs hHb), cell_of_row _ _ _ _ _ _ HM2.out.2.2.2.1]; rfl
    clear W4 O4 HM2
    have HF : Hid (l' + n' ≤ 64 ∧ n' ≤ 64 ∧ x / 2 ^ bh64 l' n' < 2 ^ n' ∧ xb 64 6 L N x = [true, false] ++ bitsOf (x / 2 ^ bh64 l' n') n' ∧ nxt 64 6 (L, N) x = (L, N)) := by
      obtain ⟨hs, rfl, rfl⟩ := HS.out
      have h1 := HL.out
      exact ⟨h1, by omega, old_fits 64 6 l' n' x HX.out h1 hs, xb_old _ _ _ _ _ HX0.out hs, by unfold nxt; rw [if_pos (.inr hs)]⟩
    have HBH : Hid (∀ w, Calls Tryz.prog 214 #[.agg #[.int .i64 (l' : Int), .int .i64 (n' : Int)]] w fun e w' => e = .returned (.int .i64 (bh64 l' n' : Int)) ∧ Below w.heap.size w w') := fun w => behindN64_any l' n' w HF.out.1
    have sb64 : bh64 l' n' ≤ 64 := by unfold bh64; omega
    generalize bh64 l' n' = sb at *
    obtain ⟨y, hy⟩ : ∃ y : Nat, y = x / 2 ^ sb := ⟨_, rfl⟩
    have y1 : (x : Int) / 2 ^ sb = (y : Int) := by rw [hy]; simp
    rw [← hy] at HF
    have HLN : Hid ((l ++ [true] ++ [false]).length + n' < 1000000000000) := by
      have h1 := HLEN.out
      have h2 := HF.out.2.1
      show _ < _; simp; omega
    have y2 : IntKind.u64.wrap (y : Int) = (y : Int) := by
      have h1 := HX.out
      have h2 : y ≤ x := by rw [hy]; exact Nat.div_le_self _ _
      rw [IntKind.wrap_u64]; omega
    have y3 : IntKind.u64.wrap ((x : Int) / 2 ^ sb) = (y : Int) := by rw [y1, y2]
    have HYM : Hid (y < 18446744073709551616) := by
      have h1 := HX.out
      have h2 : y ≤ x := by rw [hy]; exact Nat.div_le_self _ _
      show y < _; omega
    clear hy hHs
    go_wp2_with fail
    go_region_held3 (fun w' => w'.cell? ⟨H, 0, none⟩ = some (.int .i64 (l' : Int)) ∧ w'.cell? ⟨H, 1, none⟩ = some (.int .i64 (n' : Int))) (first | exact ⟨e0, e1⟩ | exact ⟨d0, d1⟩)
      (first | (go_at_call 214; go_must (refine (HBH.out _).mono ?_); rintro _ wz ⟨rfl, hbz⟩; (have e0 : wz.cell? ⟨H, 0, none⟩ = some (.int .i64 (l' : Int)) := by rw [hbz.cell (p := ⟨H, 0, none⟩) (block_lt_of_cell d0)]; exact d0); (have e1 : wz.cell? ⟨H, 1, none⟩ = some (.int .i64 (n' : Int)) := by rw [hbz.cell (p := ⟨H, 1, none⟩) (block_lt_of_cell d1)]; exact d1); (have HMZ : Hid (Wr wz lo b 0 (l ++ [true] ++ [false]) 0 ∧ Col64 wz c v L N ∧ Two64 b c w wz ∧ lo ≤ wz.heap.size ∧ H < wz.heap.size) := lay_step64 HM4.out hbz); clear hbz) | (go_at_call 49; go_must (refine (wbits_any b 0 lo n' y _ _ HMZ.out.1 hb HMZ.out.2.2.2.1 HLN.out HF.out.2.1 HYM.out HF.out.2.2.1).mono ?_); rintro _ w5 ⟨rfl, W5, O5⟩; (have e0 : w5.cell? ⟨H, 0, none⟩ = some (.int .i64 (l' : Int)) := by rw [World.cell?_of_block (O5.block H HMZ.out.2.2.2.2 hHb)]; exact e0); (have e1 : w5.cell? ⟨H, 1, none⟩ = some (.int .i64 (n' : Int)) := by rw [World.cell?_of_block (O5.block H HMZ.out.2.2.2.2 hHb)]; exact e1)))
    go_wp2_with fail
    go_end0
    rw [HF.out.2.2.2.1, HF.out.2.2.2.2]
    refine ⟨rfl, ?_, HMZ.out.2.1.other O5 hbc, HMZ.out.2.2.1.trans (Two64.ofB O5)⟩
    have e : l ++ ([true, false] ++ bitsOf y n') = l ++ [true] ++ [false] ++ bitsOf y n' := by simp
    rw [e]; exact W5
  | true =>
    have HS : Hid (lo ≤ H ∧ ¬ sut 64 6 L N x ∧ l' = 64 - bitLen x ∧ 0 < n' ∧ n' = wl x ∧ l' < 64 ∧ n' ≤ 64) := by
      rcases HP.out with ⟨h, _⟩ | ⟨_, h1, h2, h3⟩
      · cases h
      · have q1 := bitLen_le x 64 HX.out
        have q2 := wl_pos x HX0.out (lt64 (W := 64) HX.out (by omega))
        have q3 := bitLen_pos x HX0.out
        have q4 : wl x = bitLen x - tz x := rfl
        exact ⟨HM2.out.2.2.2.2, h1, h2, by omega, h3, by omega, by omega⟩
    clear HP
    refine (wbit_any b 0 lo true w3 _ HM2.out.1 hb (Nat.le_trans hlo HM2.out.2.2.1.size) (by have := HLEN.out; simp; omega)).mono ?_
    rintro e w6 ⟨rfl, W6, O6⟩
    have hHs : H < w3.heap.size := size_lt_of_row HM2.out.2.2.2.1
    have hHb : H ≠ b := by have := HM2.out.2.2.2.2; omega
    obtain ⟨m, hm⟩ : ∃ m, m + 1 = n' := ⟨n' - 1, by have := HS.out.2.2.2.1; omega⟩
    have HM6 : Hid (Wr w6 lo b 0 (l ++ [true] ++ [true]) 0 ∧ Col64 w6 c v L N ∧ Two64 b c w w6 ∧ lo ≤ w6.heap.size ∧ H < w6.heap.size) := ⟨W6, HM2.out.2.1.other O6 hbc, HM2.out.2.2.1.trans (Two64.ofB O6), Nat.le_trans HM2.out.2.2.2.2 (Nat.le_trans (Nat.le_of_lt hHs) O6.size), Nat.lt_of_lt_of_le hHs O6.size⟩
    have d0 : w6.cell? ⟨H, 0, none⟩ = some (.int .i64 (l' : Int)) := by rw [World.cell?_of_block (O6.block H hHs hHb), cell_of_row _ _ _ _ _ _ HM2.out.2.2.2.1]; rfl
    have d1 : w6.cell? ⟨H, 1, none⟩ = some (.int .i64 (n' : Int)) := by rw [World.cell?_of_block (O6.block H hHs hHb), cell_of_row _ _ _ _ _ _ HM2.out.2.2.2.1]; rfl
    clear W6 O6 HM2
    have HM' := hide hm
    clear hm hHs
    go_wp2_with fail
    refine (layWin64_any l' n' m b lo w6 _ HM6.out.1 hb HM6.out.2.2.2.1 (by have := HLEN.out; simp; omega) (by have := HS.out.2.2.2; omega) (by have := HS.out.2.2.2; have := HM'.out; omega) HM'.out).mono ?_
    rintro e w7 ⟨rfl, W7, O7⟩
    have C7 := HM6.out.2.1.other O7 hbc
    have d0 : w7.cell? ⟨H, 0, none⟩ = some (.int .i64 (l' : Int)) := by rw [World.cell?_of_block (O7.block H HM6.out.2.2.2.2 hHb)]; exact d0
    have d1 : w7.cell? ⟨H, 1, none⟩ = some (.int .i64 (n' : Int)) := by rw [World.cell?_of_block (O7.block H HM6.out.2.2.2.2 hHb)]; exact d1
    have hHc : H ≠ c := by have := HS.out.1; omega
    have O8 : Only c 0 3 w7 ((w7.setCell ⟨c, 1, none⟩ (.int .i64 (l' : Int))).setCell ⟨c, 2, none⟩ (.int .i64 (n' : Int))) := ((Only.refl c 0 3 w7).setCell 1 (by omega) (by omega) _).setCell 2 (by omega) (by omega) _
    have hH7 : H < w7.heap.size := Nat.lt_of_lt_of_le HM6.out.2.2.2.2 O7.size
    have HM4 : Hid (Wr ((w7.setCell ⟨c, 1, none⟩ (.int .i64 (l' : Int))).setCell ⟨c, 2, none⟩ (.int .i64 (n' : Int))) lo b 0 (l ++ [true] ++ [true] ++ bitsOf l' 6 ++ bitsOf m 6) 0 ∧ Col64 ((w7.setCell ⟨c, 1, none⟩ (.int .i64 (l' : Int))).setCell ⟨c, 2, none⟩ (.int .i64 (n' : Int))) c v l' n' ∧ Two64 b c w ((w7.setCell ⟨c, 1, none⟩ (.int .i64 (l' : Int))).setCell ⟨c, 2, none⟩ (.int .i64 (n' : Int))) ∧ lo ≤ ((w7.setCell ⟨c, 1, none⟩ (.int .i64 (l' : Int))).setCell ⟨c, 2, none⟩ (.int .i64 (n' : Int))).heap.size ∧ H < ((w7.setCell ⟨c, 1, none⟩ (.int .i64 (l' : Int))).setCell ⟨c, 2, none⟩ (.int .i64 (n' : Int))).heap.size) :=
      ⟨W7.other O8 (fun h => hbc h.symm) hc, C7.setOld l' n', (HM6.out.2.2.1.trans (Two64.ofB O7)).trans (Two64.ofC O8), Nat.le_trans HM6.out.2.2.2.1 (Nat.le_trans O7.size O8.size), Nat.lt_of_lt_of_le hH7 O8.size⟩
    have HD : Hid (((w7.setCell ⟨c, 1, none⟩ (.int .i64 (l' : Int))).setCell ⟨c, 2, none⟩ (.int .i64 (n' : Int))).cell? ⟨H, 0, none⟩ = some (.int .i64 (l' : Int)) ∧ ((w7.setCell ⟨c, 1, none⟩ (.int .i64 (l' : Int))).setCell ⟨c, 2, none⟩ (.int .i64 (n' : Int))).cell? ⟨H, 1, none⟩ = some (.int .i64 (n' : Int))) :=
      ⟨by rw [World.cell?_of_block (O8.block H hH7 hHc)]; exact d0, by rw [World.cell?_of_block (O8.block H hH7 hHc)]; exact d1⟩
    have c1 := C7.lead
    have c2 := C7.len
    have f1 := C7.fz 1
    have f2 := C7.fz 2
    clear W7 O7 O8 HM6 C7 hH7 hHc
    go_wp2_with fail
    generalize (w7.setCell ⟨c, 1, none⟩ (.int .i64 (l' : Int))).setCell ⟨c, 2, none⟩ (.int .i64 (n' : Int)) = w4 at *
    clear c1 c2 f1 f2 d0 d1
    obtain ⟨d0, d1⟩ := HD.out
    have HF : Hid (l' + n' ≤ 64 ∧ n' ≤ 64 ∧ x / 2 ^ bh64 l' n' < 2 ^ n' ∧ xb 64 6 L N x = [true, true] ++ bitsOf l' 6 ++ bitsOf m 6 ++ bitsOf (x / 2 ^ bh64 l' n') n' ∧ nxt 64 6 (L, N) x = (l', n')) := by
      obtain ⟨hH, hs, hl, hn0, hn1, hl2, hn2⟩ := HS.out
      have hm := HM'.out
      have q : wl x = bitLen x - tz x := rfl
      have q1 := bitLen_le x 64 HX.out
      have q2 := tz_lt x HX0.out (lt64 (W := 64) HX.out (by omega))
      have q3 : bh64 l' n' = tz x := by unfold bh64; omega
      have q4 := new_fits x HX0.out (lt64 (W := 64) HX.out (by omega))
      have q5 := xb_new 64 6 L N x HX0.out hs
      have q6 : wl x = n' := by omega
      have q7 : wl x - 1 = m := by omega
      have q8 : 64 - bitLen x = l' := by omega
      rw [q3]
      rw [q7, q8, q6] at q5
      rw [q6] at q4
      exact ⟨by omega, by omega, q4, q5, by unfold nxt; rw [if_neg (fun h => h.elim HX0.out hs), q8, q6]⟩
    have HBH : Hid (∀ w, Calls Tryz.prog 214 #[.agg #[.int .i64 (l' : Int), .int .i64 (n' : Int)]] w fun e w' => e = .returned (.int .i64 (bh64 l' n' : Int)) ∧ Below w.heap.size w w') := fun w => behindN64_any l' n' w HF.out.1
    have sb64 : bh64 l' n' ≤ 64 := by unfold bh64; omega
    generalize bh64 l' n' = sb at *
    obtain ⟨y, hy⟩ : ∃ y : Nat, y = x / 2 ^ sb := ⟨_, rfl⟩
    have y1 : (x : Int) / 2 ^ sb = (y : Int) := by rw [hy]; simp
    rw [← hy] at HF
    have HLN : Hid ((l ++ [true] ++ [true] ++ bitsOf l' 6 ++ bitsOf m 6).length + n' < 1000000000000) := by
      have h1 := HLEN.out
      have h2 := HF.out.2.1
      show _ < _; simp; omega
    have y2 : IntKind.u64.wrap (y : Int) = (y : Int) := by
      have h1 := HX.out
      have h2 : y ≤ x := by rw [hy]; exact Nat.div_le_self _ _
      rw [IntKind.wrap_u64]; omega
    have y3 : IntKind.u64.wrap ((x : Int) / 2 ^ sb) = (y : Int) := by rw [y1, y2]
    have HYM : Hid (y < 18446744073709551616) := by
      have h1 := HX.out
      have h2 : y ≤ x := by rw [hy]; exact Nat.div_le_self _ _
      show y < _; omega
    clear hy
    go_region_held3 (fun w' => w'.cell? ⟨H, 0, none⟩ = some (.int .i64 (l' : Int)) ∧ w'.cell? ⟨H, 1, none⟩ = some (.int .i64 (n' : Int))) (first | exact ⟨e0, e1⟩ | exact ⟨d0, d1⟩)
      (first | (go_at_call 214; go_must (refine (HBH.out _).mono ?_); rintro _ wz ⟨rfl, hbz⟩; (have e0 : wz.cell? ⟨H, 0, none⟩ = some (.int .i64 (l' : Int)) := by rw [hbz.cell (p := ⟨H, 0, none⟩) (block_lt_of_cell d0)]; exact d0); (have e1 : wz.cell? ⟨H, 1, none⟩ = some (.int .i64 (n' : Int)) := by rw [hbz.cell (p := ⟨H, 1, none⟩) (block_lt_of_cell d1)]; exact d1); (have HMZ : Hid (Wr wz lo b 0 (l ++ [true] ++ [true] ++ bitsOf l' 6 ++ bitsOf m 6) 0 ∧ Col64 wz c v l' n' ∧ Two64 b c w wz ∧ lo ≤ wz.heap.size ∧ H < wz.heap.size) := lay_step64 HM4.out hbz); clear hbz) | (go_at_call 49; go_must (refine (wbits_any b 0 lo n' y _ _ HMZ.out.1 hb HMZ.out.2.2.2.1 HLN.out HF.out.2.1 HYM.out HF.out.2.2.1).mono ?_); rintro _ w5 ⟨rfl, W5, O5⟩; (have e0 : w5.cell? ⟨H, 0, none⟩ = some (.int .i64 (l' : Int)) := by rw [World.cell?_of_block (O5.block H HMZ.out.2.2.2.2 hHb)]; exact e0); (have e1 : w5.cell? ⟨H, 1, none⟩ = some (.int .i64 (n' : Int)) := by rw [World.cell?_of_block (O5.block H HMZ.out.2.2.2.2 hHb)]; exact e1)))
    go_wp2_with fail
    go_end0
    rw [HF.out.2.2.2.1, HF.out.2.2.2.2]
    refine ⟨rfl, ?_, HMZ.out.2.1.other O5 hbc, HMZ.out.2.2.1.trans (Two64.ofB O5)⟩
    have e : l ++ ([true, true] ++ bitsOf l' 6 ++ bitsOf m 6 ++ bitsOf y n') = l ++ [true] ++ [true] ++ bitsOf l' 6 ++ bitsOf m 6 ++ bitsOf y n' := by simp
    rw [e]; exact W5

end Go.Proofs.YtpdaklklhoenhaaGreatDoor

/- What a column's take reads, and that it is complete (64 bits). -/
namespace Go.Proofs.YtpdaklklhoenhaaGreatDoor
open Go.RowKit
open M
set_option linter.unusedVariables false
set_option linter.unusedSimpArgs false

/-- What takeWindow tells. -/
def TwEnd64 (w : World) (b : Nat) (s : ByteArray) (a : Nat) (e0 : Int) (e : Ending) (w' : World) : Prop :=
  ∃ (l n N a' : Nat) (e1 : Int), e = .returned (.agg #[.int .i64 (l : Int), .int .i64 (N : Int)]) ∧ n + 1 = N ∧ l < 64 ∧ n < 64 ∧ Tk w w' b 0 s a e0 a' e1 (bitsOf l 6 ++ bitsOf n 6)

set_option maxRecDepth 100000 in
set_option maxHeartbeats 1000000 in
theorem takeWindow64_any (b : Nat) (s : ByteArray) (a : Nat) (e0 : Int) (w : World) (h : Rd w b 0 s a e0) :
    Calls Tryz.prog 212 #[.pointer (some ⟨b, 0, none⟩)] w (TwEnd64 w b s a e0) := by
  have hbs : b < w.heap.size := block_lt_of_cell h.text
  have HM : Hid (Rd (w.alloc (.cells #[.int .i64 0, .int .i64 0] 225)) b 0 s a e0 ∧ Only b 0 3 w (w.alloc (.cells #[.int .i64 0, .int .i64 0] 225)) ∧
      (w.alloc (.cells #[.int .i64 0, .int .i64 0] 225)).heap[w.heap.size]? = some (.cells #[.int .i64 0, .int .i64 0] 225 (0, 0))) :=
    ⟨h.below ((Below.refl _ w).alloc (Nat.le_refl _) _) hbs, (Only.refl b 0 3 w).alloc hbs _, heap_alloc_new w _⟩
  have ha := hide h.le
  clear h
  go_enter Tryz.func212, Tryz.ntmps212
  go_wp2_with fail
  generalize w.alloc (.cells #[.int .i64 0, .int .i64 0] 225) = w0 at *
  refine (fieldWidth64_any _).mono ?_
  rintro e wy ⟨rfl, hwy⟩
  have hwy := hwy.symm
  subst hwy
  go_wp2_with fail
  refine (tk_bits b 0 s a 6 e0 _ HM.out.1 (by omega)).mono ?_
  rintro e w1 ⟨l, a1, e1, rfl, hl, T1⟩
  have hl' : l < 64 := hl
  have l1 : wrap64 (l : Int) = (l : Int) := by unfold wrap64; omega
  have l2 : IntKind.i64.wrap (l : Int) = (l : Int) := by rw [IntKind.wrap_i64]; omega
  go_wp2_with fail
  refine (fieldWidth64_any _).mono ?_
  rintro e wy ⟨rfl, hwy⟩
  have hwy := hwy.symm
  subst hwy
  go_wp2_with fail
  refine (tk_bits b 0 s a1 6 e1 _ T1.rd (by omega)).mono ?_
  rintro e w2 ⟨n, a2, e2, rfl, hn, T2⟩
  have hn' : n < 64 := hn
  obtain ⟨N, hN⟩ : ∃ N, n + 1 = N := ⟨_, rfl⟩
  have n1 : wrap64 (n : Int) = (n : Int) := by unfold wrap64; omega
  have n2 : IntKind.i64.wrap (n : Int) = (n : Int) := by rw [IntKind.wrap_i64]; omega
  have n3 : (n : Int) + 1 = (N : Int) := by omega
  have n4 : wrap64 (N : Int) = (N : Int) := by unfold wrap64; omega
  have O2 : Only b 0 3 w0 w2 := T1.only.trans T2.only
  have hs0 := size_lt_of_row HM.out.2.2
  have hGb : w.heap.size ≠ b := by omega
  have g0 : w2.cell? ⟨w.heap.size, 0, none⟩ = some (.int .i64 0) := by rw [World.cell?_of_block (O2.block w.heap.size hs0 hGb), cell_of_row _ _ _ _ _ _ HM.out.2.2]; rfl
  have g1 : w2.cell? ⟨w.heap.size, 1, none⟩ = some (.int .i64 0) := by rw [World.cell?_of_block (O2.block w.heap.size hs0 hGb), cell_of_row _ _ _ _ _ _ HM.out.2.2]; rfl
  have f0 : w2.frozen? ⟨w.heap.size, 0, none⟩ = false := by rw [World.frozen?_of_block (w := w0) (w' := w2) (a := ⟨w.heap.size, 0, none⟩) (O2.block w.heap.size hs0 hGb)]; exact frozen_of_row _ _ _ _ _ HM.out.2.2
  have f1 : w2.frozen? ⟨w.heap.size, 1, none⟩ = false := by rw [World.frozen?_of_block (w := w0) (w' := w2) (a := ⟨w.heap.size, 1, none⟩) (O2.block w.heap.size hs0 hGb)]; exact frozen_of_row _ _ _ _ _ HM.out.2.2
  have HTT := hide (T1.trans ha.out T2)
  have HN := hide (And.intro hN (And.intro hl' hn'))
  clear T1 T2 O2 hl hn hl' hn' hN
  go_wp2_with fail
  obtain ⟨r0, r1⟩ := set_two (v := .int .i64 (l : Int)) (v' := .int .i64 (N : Int)) g0 g1
  refine bodyPost_ret (v := .agg #[.int .i64 (l : Int), .int .i64 (N : Int)]) (by
    have r2 := cell_setCell_eq w2 w.heap.size 0 (.int .i64 (l : Int)) _ g0
    have r3 := cell_setCell_eq (w2.setCell ⟨w.heap.size, 0, none⟩ (.int .i64 (l : Int))) w.heap.size 1 (.int .i64 (N : Int)) (.int .i64 0) (by rw [cell_setCell_ne _ _ _ _ _ (by omega)]; exact g1)
    simp [results, Tryz.results212, go_sem, r0, r1, r2, r3]) rfl ?_
  refine ⟨l, n, N, a2, e2, rfl, HN.out.1, HN.out.2.1, HN.out.2.2, (HTT.out.rd.setOther' w.heap.size 0 hGb _).setOther' w.heap.size 1 hGb _, ?_, HTT.out.sound, HTT.out.full⟩
  exact ((HM.out.2.1.trans HTT.out.only).setOther' w.heap.size 0 (Nat.le_refl _) hGb _).setOther' w.heap.size 1 (Nat.le_refl _) hGb _

end Go.Proofs.YtpdaklklhoenhaaGreatDoor

namespace Go.Proofs.YtpdaklklhoenhaaGreatDoor
open Go.RowKit
open M
set_option linter.unusedVariables false
set_option linter.unusedSimpArgs false

theorem full_at64 {w w' : World} {b off : Nat} {s : ByteArray} {a a' : Nat} {e1 : Int} {laid X r : List Bool} (T : Tk w w' b off s a 0 a' e1 laid) (ha : a ≤ 8 * s.size) (h : (rb s).drop a = X ++ r) (hl : laid.length ≤ X.length) :
    e1 = 0 ∧ ∃ r', X ++ r = laid ++ r' := by
  have h1 := congrArg List.length h
  rw [List.length_drop, rb_length, List.length_append] at h1
  have e : e1 = 0 := by
    by_cases h0 : laid.length = 0
    · exact T.full rfl (by rw [rb_length]; omega)
    · exact T.full rfl (by rw [rb_length]; omega)
  exact ⟨e, _, by rw [← h]; exact take_eq_drop' _ _ _ _ (T.sound e).2⟩

theorem xb_first64 (W K L N y : Nat) (h0 : y ≠ 0) : ∃ t, xb W K L N y = true :: (!decide (sut W K L N y)) :: t := by
  by_cases h : sut W K L N y
  · rw [xb_old _ _ _ _ _ h0 h]; exact ⟨_, by simp [h]; rfl⟩
  · rw [xb_new _ _ _ _ _ h0 h]; exact ⟨_, by simp [h]; rfl⟩

/-- The first bit is a nought. -/
theorem zero_done64 {w w' : World} {b off : Nat} {s : ByteArray} {a a' : Nat} {e1 : Int} {L N y : Nat} {r : List Bool} (T : Tk w w' b off s a 0 a' e1 [false]) (ha : a ≤ 8 * s.size) (h : (rb s).drop a = xb 64 6 L N y ++ r) : e1 = 0 ∧ y = 0 := by
  by_cases h0 : y = 0
  · subst h0
    exact ⟨(full_at64 T ha h (by simp [xb_0])).1, rfl⟩
  · obtain ⟨t, ht⟩ := xb_first64 64 6 L N y h0
    obtain ⟨h1, r', h2⟩ := full_at64 T ha h (by rw [ht]; simp)
    rw [ht] at h2
    simp at h2

/-- A 1, then v. -/
theorem second_done64 {w w' : World} {b off : Nat} {s : ByteArray} {a a' : Nat} {e1 : Int} {L N y : Nat} {v : Bool} {r : List Bool} (hr : (rb s).drop a = true :: r) (T : Tk w w' b off s a 0 a' e1 [true, v]) (ha : a ≤ 8 * s.size) {r2 : List Bool} (h : (rb s).drop a = xb 64 6 L N y ++ r2) :
    e1 = 0 ∧ y ≠ 0 ∧ (v = true ↔ ¬ sut 64 6 L N y) := by
  have h0 : y ≠ 0 := by
    rintro rfl
    rw [h, xb_0] at hr
    simp at hr
  obtain ⟨t, ht⟩ := xb_first64 64 6 L N y h0
  obtain ⟨h1, r', h2⟩ := full_at64 T ha h (by rw [ht]; simp)
  rw [ht] at h2
  simp only [List.cons_append, List.nil_append, List.cons.injEq, true_and] at h2
  refine ⟨h1, h0, ?_⟩
  rw [← h2.1]
  by_cases hs : sut 64 6 L N y <;> simp [hs]

/-- In the old window. -/
theorem old_done64 {w w' : World} {b off : Nat} {s : ByteArray} {a a' : Nat} {e1 : Int} {L N y v : Nat} {r : List Bool} (T : Tk w w' b off s a 0 a' e1 ([true, false] ++ bitsOf v N)) (ha : a ≤ 8 * s.size) (hy : y < 18446744073709551616) (hw : L + N ≤ 64) (hv : v < 2 ^ N)
    (h0 : y ≠ 0) (hs : sut 64 6 L N y) (h : (rb s).drop a = xb 64 6 L N y ++ r) : e1 = 0 ∧ v * 2 ^ (64 - L - N) = y := by
  have h' := h
  rw [xb_old _ _ _ _ _ h0 hs] at h'
  obtain ⟨h1, r', h2⟩ := full_at64 T ha h' (by simp)
  refine ⟨h1, ?_⟩
  simp only [List.cons_append, List.nil_append, List.cons.injEq, true_and] at h2
  have h3 := (pbits_inj _ _ _ _ _ (old_fits 64 6 L N y hy hw hs) hv h2).1
  rw [← h3]
  exact cut_back y _ h0 (lt64 (W := 64) hy (by omega)) hs.2.2.1

/-- A window of its own. -/
theorem new_done64 {w w' : World} {b off : Nat} {s : ByteArray} {a a' : Nat} {e1 : Int} {L N y l n : Nat} {r : List Bool} (T : Tk w w' b off s a 0 a' e1 ([true, true] ++ (bitsOf l 6 ++ bitsOf n 6))) (ha : a ≤ 8 * s.size) (hy : y < 18446744073709551616) (hl : l < 64) (hn : n < 64)
    (h0 : y ≠ 0) (hs : ¬ sut 64 6 L N y) (h : (rb s).drop a = xb 64 6 L N y ++ r) : e1 = 0 ∧ l = 64 - bitLen y ∧ n + 1 = wl y := by
  have h' := h
  rw [xb_new _ _ _ _ _ h0 hs] at h'
  have hy6 := lt64 (W := 64) hy (by omega)
  have q1 := bitLen_le y 64 hy
  have q2 := bitLen_pos y h0
  have q3 := wl_pos y h0 hy6
  have q4 : wl y ≤ 64 := by unfold wl; omega
  obtain ⟨h1, r', h2⟩ := full_at64 T ha h' (by simp; omega)
  refine ⟨h1, ?_⟩
  simp only [List.cons_append, List.nil_append, List.cons.injEq, true_and, List.append_assoc] at h2
  obtain ⟨h3, h4⟩ := pbits_inj _ _ 6 _ _ (by omega) (by omega) h2
  obtain ⟨h5, h6⟩ := pbits_inj _ _ 6 _ _ (by omega) (by omega) h4
  omega

theorem own_done64 {w w' : World} {b off : Nat} {s : ByteArray} {a a' : Nat} {e1 : Int} {L N y l n v m : Nat} {r : List Bool} (T : Tk w w' b off s a 0 a' e1 ([true, true] ++ (bitsOf l 6 ++ bitsOf n 6) ++ bitsOf v m)) (ha : a ≤ 8 * s.size) (hy : y < 18446744073709551616) (hv : v < 2 ^ m)
    (h0 : y ≠ 0) (hs : ¬ sut 64 6 L N y) (h : (rb s).drop a = xb 64 6 L N y ++ r) (el : l = 64 - bitLen y) (en : n + 1 = wl y) (em : m = n + 1) : e1 = 0 ∧ v * 2 ^ (64 - l - m) = y := by
  have h' := h
  have hy6 := lt64 (W := 64) hy (by omega)
  have q1 := bitLen_le y 64 hy
  have q2 := tz_lt y h0 hy6
  have q3 : wl y = bitLen y - tz y := rfl
  have em' : wl y = m := by omega
  rw [xb_new _ _ _ _ _ h0 hs, show 64 - bitLen y = l from el.symm, show wl y - 1 = n from by omega, em'] at h'
  obtain ⟨h1, r', h2⟩ := full_at64 T ha h' (by simp)
  refine ⟨h1, ?_⟩
  simp only [List.cons_append, List.nil_append, List.cons.injEq, true_and, List.append_assoc, List.append_cancel_left_eq] at h2
  have h3 := (pbits_inj _ _ _ _ _ (by rw [← em']; exact new_fits y h0 hy6) hv h2).1
  rw [← h3, show 64 - l - m = tz y from by omega]
  exact cut_back y _ h0 hy6 (Nat.le_refl _)

/-- What a value that was read tells: in the old window. -/
theorem old_back64 (L N v : Nat) (hw : L + N ≤ 64) (hv : v < 2 ^ N) : v * 2 ^ (64 - L - N) < 18446744073709551616 ∧ v * 2 ^ (64 - L - N) / 2 ^ (64 - L - N) = v := by
  refine ⟨?_, Nat.mul_div_cancel _ (Nat.two_pow_pos _)⟩
  have h1 : v * 2 ^ (64 - L - N) < 2 ^ N * 2 ^ (64 - L - N) := (Nat.mul_lt_mul_right (Nat.two_pow_pos _)).2 hv
  rw [← Nat.pow_add] at h1
  exact Nat.lt_of_lt_of_le h1 (Nat.le_trans (Nat.pow_le_pow_right (by omega) (show N + (64 - L - N) ≤ 64 by omega)) (by decide))

theorem put_win64 {w1 w3 : World} {b : Nat} {s : ByteArray} {a1 a2 : Nat} {e2 : Int} {l : List Bool} {H : Nat} {u u' v v' : Value} (T : Tk w1 w3 b 0 s a1 0 a2 e2 l) (hH : w1.heap.size ≤ H) (hHb : H ≠ b) (hs : H < w3.heap.size)
    (g0 : w3.cell? ⟨H, 0, none⟩ = some u) (g1 : w3.cell? ⟨H, 1, none⟩ = some u') (hf : ∀ i, w3.frozen? ⟨H, i, none⟩ = false) :
    Tk w1 ((w3.setCell ⟨H, 0, none⟩ v).setCell ⟨H, 1, none⟩ v') b 0 s a1 0 a2 e2 l ∧ H < ((w3.setCell ⟨H, 0, none⟩ v).setCell ⟨H, 1, none⟩ v').heap.size ∧
      ((w3.setCell ⟨H, 0, none⟩ v).setCell ⟨H, 1, none⟩ v').cell? ⟨H, 0, none⟩ = some v ∧ ((w3.setCell ⟨H, 0, none⟩ v).setCell ⟨H, 1, none⟩ v').cell? ⟨H, 1, none⟩ = some v' ∧
      ∀ i, ((w3.setCell ⟨H, 0, none⟩ v).setCell ⟨H, 1, none⟩ v').frozen? ⟨H, i, none⟩ = false := by
  obtain ⟨r0, r1⟩ := set_two (v := v) (v' := v') g0 g1
  refine ⟨⟨(T.rd.setOther' H 0 hHb _).setOther' H 1 hHb _, (T.only.setOther' H 0 hH hHb _).setOther' H 1 hH hHb _, T.sound, T.full⟩, by simp [World.setCell]; exact hs, r0, r1, fun i => by rw [frozen_setCell, frozen_setCell]; exact hf i⟩

theorem cell_setOther64 (w : World) (g i c j : Nat) (v : Value) (h : g ≠ c) : (w.setCell ⟨g, i, none⟩ v).cell? ⟨c, j, none⟩ = w.cell? ⟨c, j, none⟩ :=
  World.cell?_of_block (Below.heap_setCell _ _ _ _ (fun e => h e.symm))

theorem Tk.more64 {w w' w2 : World} {b off : Nat} {s : ByteArray} {a a' : Nat} {e0 e1 : Int} {laid : List Bool} (T : Tk w w' b off s a e0 a' e1 laid) (hB : Below w'.heap.size w' w2) : Tk w w2 b off s a e0 a' e1 laid := by
  have hb : b < w'.heap.size := block_lt_of_cell T.rd.text
  refine ⟨T.rd.below hB hb, T.only.trans ⟨hB.os, hB.tape, hB.output, hB.size, fun k hk _ => hB.block k hk, fun j _ => World.cell?_of_block (hB.block b hb), fun j => World.frozen?_of_block (w := w') (w' := w2) (a := ⟨b, j, none⟩) (hB.block b hb)⟩, T.sound, T.full⟩
theorem wrap_nat64 {x : Nat} (h : x < 18446744073709551616) : IntKind.u64.wrap (x : Int) = (x : Int) := by rw [IntKind.wrap_u64]; omega
theorem wrap_val64 {v n : Nat} (h : v < 2 ^ n) (hn : n ≤ 64) : IntKind.u64.wrap (v : Int) = (v : Int) := wrap_nat64 (Nat.lt_of_lt_of_le h (Nat.le_trans (Nat.pow_le_pow_right (by omega) hn) (by decide)))

/-- What take tells. -/
def TakeEnd64 (w : World) (b c : Nat) (s : ByteArray) (a : Nat) (e0 : Int) (p L N : Nat) (e : Ending) (w' : World) : Prop :=
  ∃ (ok : Bool) (x a' : Nat) (e1 : Int), e = .returned (.bool ok) ∧ Rd w' b 0 s a' e1 ∧ Two64 b c w w' ∧ x < 18446744073709551616 ∧
    (ok = true → Col64 w' c (p ^^^ x) (nxt 64 6 (L, N) x).1 (nxt 64 6 (L, N) x).2 ∧ (e1 = 0 → e0 = 0 ∧ (rb s).take a' = (rb s).take a ++ xb 64 6 L N x)) ∧
    (e0 = 0 → ∀ y r, y < 18446744073709551616 → (rb s).drop a = xb 64 6 L N y ++ r → ok = true ∧ x = y ∧ e1 = 0)

end Go.Proofs.YtpdaklklhoenhaaGreatDoor

namespace Go.Proofs.YtpdaklklhoenhaaGreatDoor
open Go.RowKit
open M
set_option linter.unusedVariables false
set_option linter.unusedSimpArgs false

set_option maxRecDepth 100000 in
set_option maxHeartbeats 4000000 in
theorem take64_any (b c : Nat) (s : ByteArray) (a : Nat) (e0 : Int) (p L N : Nat) (w : World) (h : Rd w b 0 s a e0) (hC : Col64 w c p L N) (hbc : c ≠ b) (hw : L + N ≤ 64) (hp : p < 18446744073709551616)
    (hT : Tab64 w) (hTb : 2 ≠ b) (hTc : 2 ≠ c) : Calls Tryz.prog 184 #[.pointer (some ⟨c, 0, none⟩), .pointer (some ⟨b, 0, none⟩)] w (TakeEnd64 w b c s a e0 p L N) := by
  have ha := hide h.le
  have HC := hide hC
  have HT := hide hT
  have HL := hide hw
  have HP := hide hp
  clear hC hT hw hp
  go_enter Tryz.func184, Tryz.ntmps184
  go_wp2_with fail
  refine (tk_bit b 0 s a e0 w h).mono ?_
  rintro e w1 ⟨v1, a1, e1, rfl, T1, hv1⟩
  cases v1 with
  | false =>
    go_wp2_with fail
    go_ret
    refine ⟨true, 0, a1, e1, rfl, T1.rd, Two64.ofB T1.only, by omega, fun _ => ⟨?_, fun he => T1.sound he⟩, fun h0 y r hy hr => ?_⟩
    · rw [Nat.xor_zero]; exact HC.out.other T1.only hbc
    · subst h0
      obtain ⟨h1, h2⟩ := zero_done64 T1 ha.out hr
      exact ⟨rfl, h2.symm, h1⟩
  | true =>
    obtain rfl : e1 = 0 := hv1 rfl
    obtain rfl : e0 = 0 := (T1.sound rfl).1
    clear hv1 h
    have HC1 := hide (HC.out.other T1.only hbc)
    have c1 : w1.cell? ⟨c, 1, none⟩ = some (.int .i64 (L : Int)) := HC1.out.lead
    have c2 : w1.cell? ⟨c, 2, none⟩ = some (.int .i64 (N : Int)) := HC1.out.len
    have HT1 := hide T1
    clear T1
    have hb1 : Hid (b < w1.heap.size) := block_lt_of_cell HT1.out.rd.text
    have HR1 : Hid (Rd w1.drew b 0 s a1 0) := HT1.out.rd.below (w' := w1.drew) (B := w1.heap.size) ⟨rfl, rfl, rfl, Nat.le_refl _, fun _ _ => rfl⟩ hb1.out
    have HR2 : Hid (Rd (w1.drew.alloc (.cells #[.int .i64 0, .int .i64 0] 225)) b 0 s a1 0) := HR1.out.below (B := w1.drew.heap.size) ((Below.refl _ _).alloc (Nat.le_refl _) _) hb1.out
    go_upto_region 3 with fail
    go_cut [5, 6] from 13 (fun t5 t6 wc => ∃ (H : Nat) (v2 : Bool) (a2 : Nat) (e2 : Int), t5 = .pointer (some ⟨H, 0, none⟩) ∧ t6 = .bool v2 ∧ Hid (Tk w1 wc b 0 s a1 0 a2 e2 [v2] ∧ (v2 = true → e2 = 0) ∧ w1.heap.size ≤ H ∧ H < wc.heap.size ∧ wc.cell? ⟨H, 0, none⟩ = some (.int .i64 (L : Int)) ∧ wc.cell? ⟨H, 1, none⟩ = some (.int .i64 (N : Int)) ∧ (∀ i, wc.frozen? ⟨H, i, none⟩ = false)))
    case first =>
      refine wp_region_held_drew (S := fun w' => w'.cell? ⟨c, 1, none⟩ = some (.int .i64 (L : Int)) ∧ w'.cell? ⟨c, 2, none⟩ = some (.int .i64 (N : Int))) (by kernel_rfl) ⟨c1, c2⟩ (fun hHeld => ?_)
      refine wpAnyH_take (i := 0) (v := ?_) rfl (by kernel_rfl) (by kernel_rfl) (by kernel_rfl) (fun _ _ _ h => h) (Or.inl ⟨by rfl, ?_⟩) hHeld ?_
      rotate_left
      · (intro wq hSw; (try dsimp only at hSw); (try obtain ⟨s0, s1⟩ := hSw); (go_simp <;> with_reducible rfl))
      try simp only [Act.put, List.getElem_toArray, List.getElem_cons_zero, List.getElem_cons_succ, List.setIfInBounds_toArray, List.set_cons_zero, List.set_cons_succ]
      refine wpAnyH_take (i := 1) (v := ?_) rfl (by kernel_rfl) (by kernel_rfl) (by kernel_rfl) (fun _ _ _ h => h) (Or.inl ⟨by rfl, ?_⟩) hHeld ?_
      rotate_left
      · (intro wq hSw; (try dsimp only at hSw); (try obtain ⟨s0, s1⟩ := hSw); (go_simp <;> with_reducible rfl))
      try simp only [Act.put, List.getElem_toArray, List.getElem_cons_zero, List.getElem_cons_succ, List.setIfInBounds_toArray, List.set_cons_zero, List.set_cons_succ]
      refine wpAnyH_take (i := 2) (v := ?_) rfl (by kernel_rfl) (by kernel_rfl) (by kernel_rfl) (fun _ _ _ h => h) (Or.inl ⟨by rfl, ?_⟩) hHeld ?_
      rotate_left
      · (intro wq hSw; (try dsimp only at hSw); (try obtain ⟨s0, s1⟩ := hSw); (go_simp <;> with_reducible rfl))
      try simp only [Act.put, List.getElem_toArray, List.getElem_cons_zero, List.getElem_cons_succ, List.setIfInBounds_toArray, List.set_cons_zero, List.set_cons_succ]
      refine wpAnyH_take (i := 3) (v := ?_) rfl (by kernel_rfl) (by kernel_rfl) (by kernel_rfl) (fun _ _ _ h => h) (Or.inl ⟨by rfl, ?_⟩) hHeld ?_
      rotate_left
      · (intro wq hSw; (try dsimp only at hSw); (try obtain ⟨s0, s1⟩ := hSw); (go_simp <;> with_reducible rfl))
      try simp only [Act.put, List.getElem_toArray, List.getElem_cons_zero, List.getElem_cons_succ, List.setIfInBounds_toArray, List.set_cons_zero, List.set_cons_succ]
      refine wpAnyH_take (i := 4) (v := ?_) rfl (by kernel_rfl) (by kernel_rfl) (by kernel_rfl) (fun _ _ _ h => h) (Or.inl ⟨by rfl, ?_⟩) hHeld ?_
      rotate_left
      · (intro wq hSw; (try dsimp only at hSw); (try obtain ⟨s0, s1⟩ := hSw); (go_simp <;> with_reducible rfl))
      try simp only [Act.put, List.getElem_toArray, List.getElem_cons_zero, List.getElem_cons_succ, List.setIfInBounds_toArray, List.set_cons_zero, List.set_cons_succ]
      refine wpAnyH_ready (rs := [5, 6]) (by kernel_rfl) (by simp) ?_
      refine AllReadyH.cons rfl (fun K hK => ?_) (AllReadyH.cons rfl (fun K hK => ?_) AllReadyH.nil)
      · go_simp
        refine (tk_bit b 0 s a1 0 w1.drew HR1.out).mono ?_
        rintro e w2 ⟨v2, a2, e2, rfl, T2, hv2⟩
        have hce : c < w1.heap.size := HC1.out.lt
        have e1 : w2.cell? ⟨c, 1, none⟩ = some (.int .i64 (L : Int)) := by rw [World.cell?_of_block (T2.only.block c hce hbc)]; exact c1
        have e2' : w2.cell? ⟨c, 2, none⟩ = some (.int .i64 (N : Int)) := by rw [World.cell?_of_block (T2.only.block c hce hbc)]; exact c2
        go_wp2_with fail
        refine hK.out _ _ ⟨e1, e2'⟩ (fun hHeld => ?_)
        clear hK K
        try simp only [Act.put, List.getElem_toArray, List.getElem_cons_zero, List.getElem_cons_succ, List.setIfInBounds_toArray, List.set_cons_zero, List.set_cons_succ]
        refine wpAnyH_ready (rs := [6]) (by kernel_rfl) (by simp) ?_
        refine AllReadyH.cons rfl (fun K hK => ?_) AllReadyH.nil
        go_simp
        obtain ⟨H, hH⟩ : ∃ H, w2.heap.size = H := ⟨_, rfl⟩
        have hN := heap_alloc_new w2 (.cells #[.int .i64 0, .int .i64 0] 225)
        have B3 : Below w2.heap.size w2 (w2.alloc (.cells #[.int .i64 0, .int .i64 0] 225)) := (Below.refl _ _).alloc (Nat.le_refl _) _
        have hcs : c < w2.heap.size := Nat.lt_of_lt_of_le hce T2.only.size
        have x1 : (w2.alloc (.cells #[.int .i64 0, .int .i64 0] 225)).cell? ⟨c, 1, none⟩ = some (.int .i64 (L : Int)) := by rw [B3.cell (p := ⟨c, 1, none⟩) hcs]; exact e1
        have x2 : (w2.alloc (.cells #[.int .i64 0, .int .i64 0] 225)).cell? ⟨c, 2, none⟩ = some (.int .i64 (N : Int)) := by rw [B3.cell (p := ⟨c, 2, none⟩) hcs]; exact e2'
        have g0 : (w2.alloc (.cells #[.int .i64 0, .int .i64 0] 225)).cell? ⟨w2.heap.size, 0, none⟩ = some (.int .i64 0) := by rw [cell_of_row _ _ _ _ _ _ hN]; rfl
        have g1 : (w2.alloc (.cells #[.int .i64 0, .int .i64 0] 225)).cell? ⟨w2.heap.size, 1, none⟩ = some (.int .i64 0) := by rw [cell_of_row _ _ _ _ _ _ hN]; rfl
        have HTW : Hid (Tk w1 (w2.alloc (.cells #[.int .i64 0, .int .i64 0] 225)) b 0 s a1 0 a2 e2 [v2] ∧ w1.heap.size ≤ w2.heap.size ∧ w2.heap.size < (w2.alloc (.cells #[.int .i64 0, .int .i64 0] 225)).heap.size ∧ ∀ i, (w2.alloc (.cells #[.int .i64 0, .int .i64 0] 225)).frozen? ⟨w2.heap.size, i, none⟩ = false) :=
          ⟨⟨T2.rd.below B3 (Nat.lt_of_lt_of_le hb1.out T2.only.size), (((Only.refl b 0 3 w1).drew).trans T2.only).alloc (Nat.lt_of_lt_of_le hb1.out T2.only.size) _, T2.sound, T2.full⟩, T2.only.size, by simp, fun i => frozen_of_row _ _ _ _ _ hN⟩
        rw [hH] at g0 g1 HTW ⊢
        clear hN B3 T2
        generalize w2.alloc (.cells #[.int .i64 0, .int .i64 0] 225) = w3 at *
        have f0 := HTW.out.2.2.2 0
        have f1 := HTW.out.2.2.2 1
        refine hK.out _ _ ⟨x1, x2⟩ (fun hHeld => ?_)
        clear hK K hH
        have hH2 := HTW.out.2.1
        try simp only [Act.put, List.getElem_toArray, List.getElem_cons_zero, List.getElem_cons_succ, List.setIfInBounds_toArray, List.set_cons_zero, List.set_cons_succ]
        have hHb : H ≠ b := by have := hb1.out; omega
        have hHc : H ≠ c := by have := HC1.out.lt; omega
        have HPW := hide (put_win64 (v := .int .i64 (L : Int)) (v' := .int .i64 (N : Int)) HTW.out.1 HTW.out.2.1 hHb HTW.out.2.2.1 g0 g1 HTW.out.2.2.2)
        have k1 : ((w3.setCell ⟨H, 0, none⟩ (.int .i64 (L : Int))).setCell ⟨H, 1, none⟩ (.int .i64 (N : Int))).cell? ⟨c, 1, none⟩ = some (.int .i64 (L : Int)) := by rw [cell_setOther64 _ _ _ _ _ _ hHc, cell_setOther64 _ _ _ _ _ _ hHc]; exact x1
        have k2 : ((w3.setCell ⟨H, 0, none⟩ (.int .i64 (L : Int))).setCell ⟨H, 1, none⟩ (.int .i64 (N : Int))).cell? ⟨c, 2, none⟩ = some (.int .i64 (N : Int)) := by rw [cell_setOther64 _ _ _ _ _ _ hHc, cell_setOther64 _ _ _ _ _ _ hHc]; exact x2
        refine wpAnyH_ready (rs := [7]) (by kernel_rfl) (by simp) ?_
        refine AllReadyH.cons rfl (fun K hK => ?_) AllReadyH.nil
        go_simp
        refine hK.out _ _ ⟨k1, k2⟩ (fun hHeld => ?_)
        clear hK K
        try simp only [Act.put, List.getElem_toArray, List.getElem_cons_zero, List.getElem_cons_succ, List.setIfInBounds_toArray, List.set_cons_zero, List.set_cons_succ]
        refine wpAnyH_take (i := 8) (v := ?_) rfl (by kernel_rfl) (by kernel_rfl) (by kernel_rfl) (fun _ _ _ h => h) (Or.inl ⟨by rfl, ?_⟩) hHeld ?_
        rotate_left
        · (intro wq hSw; (try dsimp only at hSw); (try obtain ⟨s0, s1⟩ := hSw); (go_simp <;> with_reducible rfl))
        try simp only [Act.put, List.getElem_toArray, List.getElem_cons_zero, List.getElem_cons_succ, List.setIfInBounds_toArray, List.set_cons_zero, List.set_cons_succ]
        refine wpAnyH_done (by kernel_rfl) ?_ _
        go_wp2_with fail
        go_meet
        case rel => exact ⟨H, v2, a2, e2, rfl, rfl, HPW.out.1, hv2, HTW.out.2.1, HPW.out.2⟩
      · go_simp
        obtain ⟨H, hH⟩ : ∃ H, w1.heap.size = H := ⟨_, rfl⟩
        have hN : (w1.alloc (.cells #[.int .i64 0, .int .i64 0] 225)).drew.heap[w1.heap.size]? = some (.cells #[.int .i64 0, .int .i64 0] 225 (0, 0)) := heap_alloc_new w1 (.cells #[.int .i64 0, .int .i64 0] 225)
        have B3 : Below w1.heap.size w1 (w1.alloc (.cells #[.int .i64 0, .int .i64 0] 225)).drew := ((Below.refl _ _).alloc (Nat.le_refl _) _).drew
        have hcs : c < w1.heap.size := HC1.out.lt
        have y1 : (w1.alloc (.cells #[.int .i64 0, .int .i64 0] 225)).drew.cell? ⟨c, 1, none⟩ = some (.int .i64 (L : Int)) := by rw [B3.cell (p := ⟨c, 1, none⟩) hcs]; exact c1
        have y2 : (w1.alloc (.cells #[.int .i64 0, .int .i64 0] 225)).drew.cell? ⟨c, 2, none⟩ = some (.int .i64 (N : Int)) := by rw [B3.cell (p := ⟨c, 2, none⟩) hcs]; exact c2
        have R3 : Rd (w1.alloc (.cells #[.int .i64 0, .int .i64 0] 225)).drew b 0 s a1 0 := HT1.out.rd.below B3 hb1.out
        have O3 : Only b 0 3 w1 (w1.alloc (.cells #[.int .i64 0, .int .i64 0] 225)).drew := ((Only.refl b 0 3 w1).alloc hb1.out _).drew
        have hs3 : w1.heap.size < (w1.alloc (.cells #[.int .i64 0, .int .i64 0] 225)).drew.heap.size := size_lt_of_row hN
        rw [hH] at hN hs3 ⊢
        generalize (w1.alloc (.cells #[.int .i64 0, .int .i64 0] 225)).drew = wa at *
        refine hK.out _ _ ⟨y1, y2⟩ (fun hHeld => ?_)
        clear hK K
        try simp only [Act.put, List.getElem_toArray, List.getElem_cons_zero, List.getElem_cons_succ, List.setIfInBounds_toArray, List.set_cons_zero, List.set_cons_succ]
        refine wpAnyH_ready (rs := [5]) (by kernel_rfl) (by simp) ?_
        refine AllReadyH.cons rfl (fun K hK => ?_) AllReadyH.nil
        go_simp
        refine (tk_bit b 0 s a1 0 wa R3).mono ?_
        rintro e w3 ⟨v2, a2, e2, rfl, T2, hv2⟩
        have hca : c < wa.heap.size := Nat.lt_of_lt_of_le hcs O3.size
        have hHb0 : H ≠ b := by have := hb1.out; omega
        have x1 : w3.cell? ⟨c, 1, none⟩ = some (.int .i64 (L : Int)) := by rw [World.cell?_of_block (T2.only.block c hca hbc)]; exact y1
        have x2 : w3.cell? ⟨c, 2, none⟩ = some (.int .i64 (N : Int)) := by rw [World.cell?_of_block (T2.only.block c hca hbc)]; exact y2
        have eb := T2.only.block H hs3 hHb0
        have g0 : w3.cell? ⟨H, 0, none⟩ = some (.int .i64 0) := by rw [World.cell?_of_block eb, cell_of_row _ _ _ _ _ _ hN]; rfl
        have g1 : w3.cell? ⟨H, 1, none⟩ = some (.int .i64 0) := by rw [World.cell?_of_block eb, cell_of_row _ _ _ _ _ _ hN]; rfl
        have HTW : Hid (Tk w1 w3 b 0 s a1 0 a2 e2 [v2] ∧ w1.heap.size ≤ H ∧ H < w3.heap.size ∧ ∀ i, w3.frozen? ⟨H, i, none⟩ = false) :=
          ⟨⟨T2.rd, O3.trans T2.only, T2.sound, T2.full⟩, Nat.le_of_eq hH, Nat.lt_of_lt_of_le hs3 T2.only.size, fun i => by rw [World.frozen?_of_block (w := wa) (w' := w3) (a := ⟨H, i, none⟩) eb]; exact frozen_of_row _ _ _ _ _ hN⟩
        have f0 := HTW.out.2.2.2 0
        have f1 := HTW.out.2.2.2 1
        clear T2 hN eb R3 O3 B3
        go_wp2_with fail
        refine hK.out _ _ ⟨x1, x2⟩ (fun hHeld => ?_)
        clear hK K hs3 hHb0 hH
        have hH2 := HTW.out.2.1
        try simp only [Act.put, List.getElem_toArray, List.getElem_cons_zero, List.getElem_cons_succ, List.setIfInBounds_toArray, List.set_cons_zero, List.set_cons_succ]
        have hHb : H ≠ b := by have := hb1.out; omega
        have hHc : H ≠ c := by have := HC1.out.lt; omega
        have HPW := hide (put_win64 (v := .int .i64 (L : Int)) (v' := .int .i64 (N : Int)) HTW.out.1 HTW.out.2.1 hHb HTW.out.2.2.1 g0 g1 HTW.out.2.2.2)
        have k1 : ((w3.setCell ⟨H, 0, none⟩ (.int .i64 (L : Int))).setCell ⟨H, 1, none⟩ (.int .i64 (N : Int))).cell? ⟨c, 1, none⟩ = some (.int .i64 (L : Int)) := by rw [cell_setOther64 _ _ _ _ _ _ hHc, cell_setOther64 _ _ _ _ _ _ hHc]; exact x1
        have k2 : ((w3.setCell ⟨H, 0, none⟩ (.int .i64 (L : Int))).setCell ⟨H, 1, none⟩ (.int .i64 (N : Int))).cell? ⟨c, 2, none⟩ = some (.int .i64 (N : Int)) := by rw [cell_setOther64 _ _ _ _ _ _ hHc, cell_setOther64 _ _ _ _ _ _ hHc]; exact x2
        refine wpAnyH_ready (rs := [7]) (by kernel_rfl) (by simp) ?_
        refine AllReadyH.cons rfl (fun K hK => ?_) AllReadyH.nil
        go_simp
        refine hK.out _ _ ⟨k1, k2⟩ (fun hHeld => ?_)
        clear hK K
        try simp only [Act.put, List.getElem_toArray, List.getElem_cons_zero, List.getElem_cons_succ, List.setIfInBounds_toArray, List.set_cons_zero, List.set_cons_succ]
        refine wpAnyH_take (i := 8) (v := ?_) rfl (by kernel_rfl) (by kernel_rfl) (by kernel_rfl) (fun _ _ _ h => h) (Or.inl ⟨by rfl, ?_⟩) hHeld ?_
        rotate_left
        · (intro wq hSw; (try dsimp only at hSw); (try obtain ⟨s0, s1⟩ := hSw); (go_simp <;> with_reducible rfl))
        try simp only [Act.put, List.getElem_toArray, List.getElem_cons_zero, List.getElem_cons_succ, List.setIfInBounds_toArray, List.set_cons_zero, List.set_cons_succ]
        refine wpAnyH_done (by kernel_rfl) ?_ _
        go_wp2_with fail
        go_meet
        case rel => exact ⟨H, v2, a2, e2, rfl, rfl, HPW.out.1, hv2, HTW.out.2.1, HPW.out.2⟩
    case rest =>
      obtain ⟨H, v2, a2, e2, rfl, rfl, HI⟩ := hcut
      have hcH : c < w1.heap.size := HC1.out.lt
      have HH : Hid (H < wc.heap.size ∧ H ≠ b ∧ H ≠ c) := ⟨HI.out.2.2.2.1, by have := HI.out.2.2.1; have := hb1.out; omega, by have := HI.out.2.2.1; omega⟩
      have T12 := HT1.out.trans ha.out HI.out.1
      have d0 : wc.cell? ⟨H, 0, none⟩ = some (.int .i64 (L : Int)) := HI.out.2.2.2.2.1
      have d1 : wc.cell? ⟨H, 1, none⟩ = some (.int .i64 (N : Int)) := HI.out.2.2.2.2.2.1
      have HFZ := hide HI.out.2.2.2.2.2.2
      have HV2 := hide HI.out.2.1
      have HR0 : Hid (∃ r, (rb s).drop a = true :: r) := ⟨_, take_eq_drop' _ _ _ _ (HT1.out.sound rfl).2⟩
      have HHw : Hid (w.heap.size ≤ H) := Nat.le_trans HT1.out.only.size HI.out.2.2.1
      clear HI hcH c1 c2 HR1 HR2 HC1 HT1 hb1
      cases v2 with
      | false =>
        have HTv : Hid (Tk w wc b 0 s a 0 a2 e2 ([true] ++ [false])) := T12
        have HT12 := hide T12
        clear T12
        by_cases hN0 : N = 0
        · subst hN0
          go_wp2_with fail
          refine (stands64_any L 0 wc HL.out).mono ?_
          rintro e w4 ⟨rfl, B4⟩
          have HB4 := hide B4
          clear B4
          go_wp2_with fail
          go_ret
          have T4 := HTv.out.more64 HB4.out
          refine ⟨false, 0, a2, e2, rfl, T4.rd, Two64.ofB T4.only, by omega, fun h => (by cases h), fun _ y r hy hr => ?_⟩
          exfalso
          obtain ⟨r1, hr1⟩ := HR0.out
          obtain ⟨h1, h2, h3⟩ := second_done64 hr1 HT12.out ha.out hr
          have hs : sut 64 6 L 0 y := Classical.not_not.1 (fun hn => by have := h3.2 hn; cases this)
          exact absurd hs.1 (by omega)
        have HWn : Hid (L + N ≤ 64 ∧ 0 < N) := ⟨HL.out, by omega⟩
        have HK : Hid (∀ y r, y < 18446744073709551616 → (rb s).drop a = xb 64 6 L N y ++ r → y ≠ 0 ∧ sut 64 6 L N y ∧ ∀ (v a5 : Nat) (e5 : Int) (w6 : World), v < 2 ^ N → Tk w w6 b 0 s a 0 a5 e5 ([true] ++ [false] ++ bitsOf v N) → e5 = 0 ∧ v * 2 ^ (64 - L - N) = y) := fun y r hy hr => by
          obtain ⟨r1, hr1⟩ := HR0.out
          obtain ⟨h1, h2, h3⟩ := second_done64 hr1 HT12.out ha.out hr
          have hs : sut 64 6 L N y := Classical.not_not.1 (fun hn => by have := h3.2 hn; cases this)
          exact ⟨h2, hs, fun v a5 e5 w6 hv T => old_done64 T ha.out hy HL.out hv h2 hs hr⟩
        obtain ⟨wv, hwv⟩ : ∃ wv, wv = wc := ⟨_, rfl⟩
        obtain ⟨aq, haq⟩ : ∃ aq, aq = a2 := ⟨_, rfl⟩
        obtain ⟨eq, heq⟩ : ∃ eq, eq = e2 := ⟨_, rfl⟩
        rw [← hwv, ← haq, ← heq] at HTv
        rw [← hwv] at d0 d1 HH ⊢
        clear hwv
        obtain ⟨hHs, hHb, hHc⟩ : H < wv.heap.size ∧ H ≠ b ∧ H ≠ c := HH.out
        have HSt : Hid (∀ w, Calls Tryz.prog 213 #[.agg #[.int .i64 (L : Int), .int .i64 (N : Int)]] w fun e w' => e = .returned (.bool true) ∧ Below w.heap.size w w') := fun w => by
          have := stands64_any L N w HWn.out.1
          rw [show decide (0 < N) = true from decide_eq_true HWn.out.2] at this
          exact this
        go_wp2_with fail
        refine (HSt.out _).mono ?_
        rintro e w4 ⟨rfl, B4⟩
        have T4 : Tk w w4 b 0 s a 0 aq eq ([true] ++ [false]) := HTv.out.more64 B4
        have d0 : w4.cell? ⟨H, 0, none⟩ = some (.int .i64 (L : Int)) := by rw [B4.cell (p := ⟨H, 0, none⟩) hHs]; exact d0
        have d1 : w4.cell? ⟨H, 1, none⟩ = some (.int .i64 (N : Int)) := by rw [B4.cell (p := ⟨H, 1, none⟩) hHs]; exact d1
        have hHs : H < w4.heap.size := Nat.lt_of_lt_of_le hHs B4.size
        have HT4 := hide T4
        clear B4 T4 HTv HSt
        go_wp2_with fail
        obtain ⟨sb, hsb⟩ : ∃ sb, bh64 L N = sb := ⟨_, rfl⟩
        have sbW : sb ≤ 64 := by rw [← hsb]; unfold bh64; omega
        have HBH : Hid (∀ w, Calls Tryz.prog 214 #[.agg #[.int .i64 (L : Int), .int .i64 (N : Int)]] w fun e w' => e = .returned (.int .i64 (sb : Int)) ∧ Below w.heap.size w w') := fun w => by rw [← hsb]; exact behindN64_any L N w HWn.out.1
        have HSB : Hid (sb = 64 - L - N) := by rw [← hsb]; rfl
        have hN : N ≤ 64 := by have := HWn.out.1; omega
        clear hsb
        have HR4 : Hid (Rd w4.drew b 0 s aq eq) := HT4.out.rd.below (w' := w4.drew) (B := w4.heap.size) ⟨rfl, rfl, rfl, Nat.le_refl _, fun _ _ => rfl⟩ (block_lt_of_cell HT4.out.rd.text)
        go_region_held3 (fun w' => w'.cell? ⟨H, 0, none⟩ = some (.int .i64 (L : Int)) ∧ w'.cell? ⟨H, 1, none⟩ = some (.int .i64 (N : Int))) (first | exact ⟨k0, k1⟩ | exact ⟨d0, d1⟩)
          (first | (go_at_call 214; go_must (refine (HBH.out _).mono ?_); rintro _ w6 ⟨rfl, B6⟩; (have k0 : w6.cell? ⟨H, 0, none⟩ = some (.int .i64 (L : Int)) := by rw [B6.cell (p := ⟨H, 0, none⟩) hH5.out]; exact k0); (have k1 : w6.cell? ⟨H, 1, none⟩ = some (.int .i64 (N : Int)) := by rw [B6.cell (p := ⟨H, 1, none⟩) hH5.out]; exact k1)) | (go_at_call 81; go_must (refine (tk_bits b 0 s aq N eq _ HR4.out hN).mono ?_); rintro _ w5 ⟨v, a5, e5, rfl, hv, T5⟩; (have k0 : w5.cell? ⟨H, 0, none⟩ = some (.int .i64 (L : Int)) := by rw [World.cell?_of_block (T5.only.block H hHs hHb)]; exact d0); (have k1 : w5.cell? ⟨H, 1, none⟩ = some (.int .i64 (N : Int)) := by rw [World.cell?_of_block (T5.only.block H hHs hHb)]; exact d1); (have hH5 : Hid (H < w5.heap.size) := Nat.lt_of_lt_of_le hHs T5.only.size); (have HV := hide hv); (clear hv); (have v1 : IntKind.u64.wrap (v : Int) = (v : Int) := wrap_val64 HV.out (by have := HWn.out.1; omega)); (obtain ⟨x, hx⟩ : ∃ x : Nat, v * 2 ^ sb = x := ⟨_, rfl⟩); (have hxx : (v : Int) * 2 ^ sb = (x : Int) := by rw [← hx]; simp); (have hxM : x < 18446744073709551616 := by rw [← hx, HSB.out]; exact (old_back64 L N v HWn.out.1 HV.out).1); (have v2 : IntKind.u64.wrap (x : Int) = (x : Int) := wrap_nat64 hxM); (have HXM := hide hxM); (have HX := hide hx); clear hx hxM))
        have HT6 : Hid (Tk w w6 b 0 s a 0 a5 e5 ([true] ++ [false] ++ bitsOf v N)) := ((HT4.out.more64 (w2 := w4.drew) ⟨rfl, rfl, rfl, Nat.le_refl _, fun _ _ => rfl⟩).trans ha.out T5).more64 B6
        have hH6 : H < w6.heap.size := Nat.lt_of_lt_of_le hH5.out B6.size
        have HC6 : Hid (Col64 w6 c p L N) := HC.out.other HT6.out.only hbc
        have HB6 : Hid (Tab64 w6) := (Two64.ofB (c := c) HT6.out.only).tab HT.out hTb hTc
        clear T5 B6 HT4 HR4 HBH hH5 d0 d1
        by_cases hx0 : x = 0
        · subst hx0
          go_wp2_with fail
          go_ret
          refine ⟨false, 0, a5, e5, rfl, HT6.out.rd, Two64.ofB HT6.out.only, by omega, fun h => (by cases h), fun _ y r hy hr => ?_⟩
          exfalso
          obtain ⟨q1, q2, q3⟩ := HK.out y r hy hr
          have q4 := q3 v a5 e5 w6 HV.out HT6.out
          have q5 := HX.out
          rw [HSB.out] at q5
          exact q1 (q4.2.symm.trans q5)
        have x2 : ((x : Int) == 0) = false := by simp; omega
        have HX0 := hide hx0
        clear hx0
        go_wp2_with fail
        refine (pick64_any c p L N x w6 HC6.out HL.out HXM.out HX0.out HB6.out).mono ?_
        rintro e w7 ⟨l', n', own', rfl, B7, hP⟩
        have HPk := hide hP
        clear hP
        have hN8 := heap_alloc_new w7 (.cells #[.int .i64 (l' : Int), .int .i64 (n' : Int)] 225)
        have B8 : Below w6.heap.size w6 (w7.alloc (.cells #[.int .i64 (l' : Int), .int .i64 (n' : Int)] 225)) := B7.alloc B7.size _
        have HT8 : Hid (Tk w (w7.alloc (.cells #[.int .i64 (l' : Int), .int .i64 (n' : Int)] 225)) b 0 s a 0 a5 e5 ([true] ++ [false] ++ bitsOf v N) ∧ Col64 (w7.alloc (.cells #[.int .i64 (l' : Int), .int .i64 (n' : Int)] 225)) c p L N) := ⟨HT6.out.more64 B8, HC6.out.below B8 HC6.out.lt⟩
        have k0 : (w7.alloc (.cells #[.int .i64 (l' : Int), .int .i64 (n' : Int)] 225)).cell? ⟨H, 0, none⟩ = some (.int .i64 (L : Int)) := by rw [B8.cell (p := ⟨H, 0, none⟩) hH6]; exact k0
        have k1 : (w7.alloc (.cells #[.int .i64 (l' : Int), .int .i64 (n' : Int)] 225)).cell? ⟨H, 1, none⟩ = some (.int .i64 (N : Int)) := by rw [B8.cell (p := ⟨H, 1, none⟩) hH6]; exact k1
        have HK8 : Hid ((w7.alloc (.cells #[.int .i64 (l' : Int), .int .i64 (n' : Int)] 225)).cell? ⟨w7.heap.size, 0, none⟩ = some (.int .i64 (l' : Int)) ∧ (w7.alloc (.cells #[.int .i64 (l' : Int), .int .i64 (n' : Int)] 225)).cell? ⟨w7.heap.size, 1, none⟩ = some (.int .i64 (n' : Int))) := ⟨by rw [cell_of_row _ _ _ _ _ _ hN8]; rfl, by rw [cell_of_row _ _ _ _ _ _ hN8]; rfl⟩
        clear hN8 B8 HT6 HC6 HB6 hH6
        go_upto_region 12 with fail
        generalize w7.alloc (.cells #[.int .i64 (l' : Int), .int .i64 (n' : Int)] 225) = w8 at *
        obtain ⟨m0, m1⟩ := HK8.out
        have HNG : Hid (¬ (L = l' ∧ N = n' ∧ own' = false) → ∀ y r, y < 18446744073709551616 → (rb s).drop a = xb 64 6 L N y ++ r → False) := fun hne y r hy hr => by
          obtain ⟨q1, q2, q3⟩ := HK.out y r hy hr
          have q4 := q3 v a5 e5 _ HV.out HT8.out.1
          have q5 : x = y := by rw [← HX.out, HSB.out]; exact q4.2
          subst q5
          exact hne (HPk.out.elim (fun h => ⟨h.2.2.1.symm, h.2.2.2.symm, h.1⟩) (fun h => absurd q2 h.2.1))
        have HBAD : Hid (¬ (L = l' ∧ N = n' ∧ own' = false) → TakeEnd64 w b c s a 0 p L N (.returned (.bool false)) w8) := fun hne =>
          ⟨false, 0, a5, e5, rfl, HT8.out.1.rd, Two64.ofB HT8.out.1.only, by omega, fun h => (by cases h), fun _ y r hy hr => (HNG.out hne y r hy hr).elim⟩
        by_cases hE1 : L = l'
        · by_cases hE2 : N = n'
          · by_cases hE3 : own' = false
            · have c0 := HT8.out.2.ahead
              have c1 := HT8.out.2.lead
              have c2 := HT8.out.2.len
              have f0 := HT8.out.2.fz 0
              have f1 := HT8.out.2.fz 1
              have f2 := HT8.out.2.fz 2
              subst hE1
              subst hE2
              subst hE3
              obtain ⟨q, hq⟩ : ∃ q : Nat, q = p ^^^ x := ⟨_, rfl⟩
              have q1 : bits BinOp.xor IntKind.u64 (p : Int) (x : Int) = (q : Int) := by rw [hq]; exact u64_xor_nat p x HP.out HXM.out
              have HQ := hide hq
              clear hq
              go_wp2_with fail
              go_ret
              have O9 : Only c 0 3 w8 (((w8.setCell ⟨c, 0, none⟩ (.int .u64 (q : Int))).setCell ⟨c, 1, none⟩ (.int .i64 (L : Int))).setCell ⟨c, 2, none⟩ (.int .i64 (N : Int))) := (((Only.refl c 0 3 w8).setCell 0 (by omega) (by omega) _).setCell 1 (by omega) (by omega) _).setCell 2 (by omega) (by omega) _
              have hbc' : b ≠ c := fun h => hbc h.symm
              obtain ⟨z1, z2⟩ : nxt 64 6 (L, N) x = (L, N) ∧ xb 64 6 L N x = [true] ++ [false] ++ bitsOf v N := by
                rcases HPk.out with ⟨_, h1, _⟩ | ⟨h, _⟩
                · refine ⟨by unfold nxt; rw [if_pos (.inr h1)], ?_⟩
                  rw [xb_old _ _ _ _ _ HX0.out h1, ← HX.out, HSB.out, (old_back64 L N v HWn.out.1 HV.out).2]; rfl
                · cases h
              refine ⟨true, x, a5, e5, rfl, HT8.out.1.rd.other O9 hbc', (Two64.ofB HT8.out.1.only).trans (Two64.ofC O9), HXM.out, fun _ => ⟨?_, fun he => ?_⟩, fun _ y r hy hr => ?_⟩
              · rw [z1, ← HQ.out]; exact (HT8.out.2.setAhead q).setOld L N
              · rw [z2]; exact HT8.out.1.sound he
              · obtain ⟨q1, q2, q3⟩ := HK.out y r hy hr
                have q4 := q3 v a5 e5 _ HV.out HT8.out.1
                exact ⟨rfl, by rw [← HX.out, HSB.out]; exact q4.2, q4.1⟩
            · obtain rfl : own' = true := by cases own' <;> simp at hE3 ⊢
              subst hE1
              subst hE2
              go_wp2_with fail
              go_ret
              exact HBAD.out (fun h => hE3 h.2.2)
          · have b2 : ((N : Int) == (n' : Int)) = false := by simp; omega
            subst hE1
            go_wp2_with fail
            go_ret
            exact HBAD.out (fun h => hE2 h.2.1)
        · have b1 : ((L : Int) == (l' : Int)) = false := by simp; omega
          go_wp2_with fail
          go_ret
          exact HBAD.out (fun h => hE1 h.1)
      | true =>
        obtain rfl : e2 = 0 := HV2.out rfl
        have HT12 := hide T12
        have f0 := HFZ.out 0
        have f1 := HFZ.out 1
        clear T12
        go_wp2_with fail
        refine (takeWindow64_any b s a2 0 wc HT12.out.rd).mono ?_
        rintro e w3 ⟨l, n, NN, a3, e3, rfl, hN, hl, hn, T3⟩
        obtain ⟨hHs, hHb, hHc⟩ : H < wc.heap.size ∧ H ≠ b ∧ H ≠ c := HH.out
        have eb := T3.only.block H hHs hHb
        have d0 : w3.cell? ⟨H, 0, none⟩ = some (.int .i64 (L : Int)) := by rw [World.cell?_of_block eb]; exact d0
        have d1 : w3.cell? ⟨H, 1, none⟩ = some (.int .i64 (N : Int)) := by rw [World.cell?_of_block eb]; exact d1
        have hfz : ∀ i, w3.frozen? ⟨H, i, none⟩ = false := fun i => by rw [World.frozen?_of_block (w := wc) (w' := w3) (a := ⟨H, i, none⟩) eb]; exact HFZ.out i
        have f0 := hfz 0
        have f1 := hfz 1
        have HPW := hide (put_win64 (v := .int .i64 (l : Int)) (v' := .int .i64 (NN : Int)) (HT12.out.trans ha.out T3) HHw.out hHb (Nat.lt_of_lt_of_le hHs T3.only.size) d0 d1 hfz)
        have HLN := hide (And.intro hN (And.intro hl hn))
        clear T3 eb hfz hN hl hn HH HFZ
        go_upto_region 6 with fail
        generalize (w3.setCell ⟨H, 0, none⟩ (.int .i64 (l : Int))).setCell ⟨H, 1, none⟩ (.int .i64 (NN : Int)) = wv at *
        clear d0 d1 f0 f1 hHs
        obtain ⟨d0, d1⟩ : wv.cell? ⟨H, 0, none⟩ = some (.int .i64 (l : Int)) ∧ wv.cell? ⟨H, 1, none⟩ = some (.int .i64 (NN : Int)) := ⟨HPW.out.2.2.1, HPW.out.2.2.2.1⟩
        have HH : Hid (H < wv.heap.size ∧ H ≠ b ∧ H ≠ c) := ⟨HPW.out.2.1, hHb, hHc⟩
        have HTv : Hid (Tk w wv b 0 s a 0 a3 e3 ([true, true] ++ (bitsOf l 6 ++ bitsOf n 6))) := HPW.out.1
        have HTv0 := hide HTv.out
        clear HPW hHb hHc
        by_cases hst : 64 < l + NN
        · go_wp2_with fail
          refine (stands64_bad l NN wv (by have := HLN.out; omega) (by have := HLN.out; omega) hst (by have := HLN.out; omega)).mono ?_
          rintro e w4 ⟨rfl, B4⟩
          have HB4 := hide B4
          have HST := hide hst
          clear B4 hst
          go_wp2_with fail
          go_ret
          have T4 := HTv.out.more64 HB4.out
          refine ⟨false, 0, a3, e3, rfl, T4.rd, Two64.ofB T4.only, by omega, fun h => (by cases h), fun _ y r hy hr => ?_⟩
          exfalso
          obtain ⟨r1, hr1⟩ := HR0.out
          obtain ⟨h1, h2, h3⟩ := second_done64 hr1 HT12.out ha.out hr
          have hs : ¬ sut 64 6 L N y := h3.1 rfl
          obtain ⟨h4, h5, h6⟩ := new_done64 HTv0.out ha.out hy HLN.out.2.1 HLN.out.2.2 h2 hs hr
          have q1 := bitLen_le y 64 hy
          have q2 : wl y = bitLen y - tz y := rfl
          have q3 := HLN.out.1
          have q4 := HST.out
          omega
        have HWn : Hid (l + NN ≤ 64 ∧ 0 < NN) := ⟨by omega, by have := HLN.out.1; omega⟩
        have HK : Hid (∀ y r, y < 18446744073709551616 → (rb s).drop a = xb 64 6 L N y ++ r → y ≠ 0 ∧ (¬ sut 64 6 L N y ∧ l = 64 - bitLen y ∧ NN = wl y) ∧ ∀ (v a5 : Nat) (e5 : Int) (w6 : World), v < 2 ^ NN → Tk w w6 b 0 s a 0 a5 e5 ([true, true] ++ (bitsOf l 6 ++ bitsOf n 6) ++ bitsOf v NN) → e5 = 0 ∧ v * 2 ^ (64 - l - NN) = y) := fun y r hy hr => by
          obtain ⟨r1, hr1⟩ := HR0.out
          obtain ⟨h1, h2, h3⟩ := second_done64 hr1 HT12.out ha.out hr
          have hs : ¬ sut 64 6 L N y := h3.1 rfl
          obtain ⟨h4, h5, h6⟩ := new_done64 HTv0.out ha.out hy HLN.out.2.1 HLN.out.2.2 h2 hs hr
          exact ⟨h2, ⟨hs, h5, HLN.out.1.symm.trans h6⟩, fun v a5 e5 w6 hv T => own_done64 T ha.out hy hv h2 hs hr h5 h6 HLN.out.1.symm⟩
        obtain ⟨aq, haq⟩ : ∃ aq, aq = a3 := ⟨_, rfl⟩
        obtain ⟨eq, heq⟩ : ∃ eq, eq = e3 := ⟨_, rfl⟩
        rw [← haq, ← heq] at HTv
        clear hst
        obtain ⟨hHs, hHb, hHc⟩ : H < wv.heap.size ∧ H ≠ b ∧ H ≠ c := HH.out
        have HSt : Hid (∀ w, Calls Tryz.prog 213 #[.agg #[.int .i64 (l : Int), .int .i64 (NN : Int)]] w fun e w' => e = .returned (.bool true) ∧ Below w.heap.size w w') := fun w => by
          have := stands64_any l NN w HWn.out.1
          rw [show decide (0 < NN) = true from decide_eq_true HWn.out.2] at this
          exact this
        go_wp2_with fail
        refine (HSt.out _).mono ?_
        rintro e w4 ⟨rfl, B4⟩
        have T4 : Tk w w4 b 0 s a 0 aq eq ([true, true] ++ (bitsOf l 6 ++ bitsOf n 6)) := HTv.out.more64 B4
        have d0 : w4.cell? ⟨H, 0, none⟩ = some (.int .i64 (l : Int)) := by rw [B4.cell (p := ⟨H, 0, none⟩) hHs]; exact d0
        have d1 : w4.cell? ⟨H, 1, none⟩ = some (.int .i64 (NN : Int)) := by rw [B4.cell (p := ⟨H, 1, none⟩) hHs]; exact d1
        have hHs : H < w4.heap.size := Nat.lt_of_lt_of_le hHs B4.size
        have HT4 := hide T4
        clear B4 T4 HTv HSt
        go_wp2_with fail
        obtain ⟨sb, hsb⟩ : ∃ sb, bh64 l NN = sb := ⟨_, rfl⟩
        have sbW : sb ≤ 64 := by rw [← hsb]; unfold bh64; omega
        have HBH : Hid (∀ w, Calls Tryz.prog 214 #[.agg #[.int .i64 (l : Int), .int .i64 (NN : Int)]] w fun e w' => e = .returned (.int .i64 (sb : Int)) ∧ Below w.heap.size w w') := fun w => by rw [← hsb]; exact behindN64_any l NN w HWn.out.1
        have HSB : Hid (sb = 64 - l - NN) := by rw [← hsb]; rfl
        have hNN : NN ≤ 64 := by have := HWn.out.1; omega
        clear hsb
        have HR4 : Hid (Rd w4.drew b 0 s aq eq) := HT4.out.rd.below (w' := w4.drew) (B := w4.heap.size) ⟨rfl, rfl, rfl, Nat.le_refl _, fun _ _ => rfl⟩ (block_lt_of_cell HT4.out.rd.text)
        go_region_held3 (fun w' => w'.cell? ⟨H, 0, none⟩ = some (.int .i64 (l : Int)) ∧ w'.cell? ⟨H, 1, none⟩ = some (.int .i64 (NN : Int))) (first | exact ⟨k0, k1⟩ | exact ⟨d0, d1⟩)
          (first | (go_at_call 214; go_must (refine (HBH.out _).mono ?_); rintro _ w6 ⟨rfl, B6⟩; (have k0 : w6.cell? ⟨H, 0, none⟩ = some (.int .i64 (l : Int)) := by rw [B6.cell (p := ⟨H, 0, none⟩) hH5.out]; exact k0); (have k1 : w6.cell? ⟨H, 1, none⟩ = some (.int .i64 (NN : Int)) := by rw [B6.cell (p := ⟨H, 1, none⟩) hH5.out]; exact k1)) | (go_at_call 81; go_must (refine (tk_bits b 0 s aq NN eq _ HR4.out hNN).mono ?_); rintro _ w5 ⟨v, a5, e5, rfl, hv, T5⟩; (have k0 : w5.cell? ⟨H, 0, none⟩ = some (.int .i64 (l : Int)) := by rw [World.cell?_of_block (T5.only.block H hHs hHb)]; exact d0); (have k1 : w5.cell? ⟨H, 1, none⟩ = some (.int .i64 (NN : Int)) := by rw [World.cell?_of_block (T5.only.block H hHs hHb)]; exact d1); (have hH5 : Hid (H < w5.heap.size) := Nat.lt_of_lt_of_le hHs T5.only.size); (have HV := hide hv); (clear hv); (have v1 : IntKind.u64.wrap (v : Int) = (v : Int) := wrap_val64 HV.out (by have := HWn.out.1; omega)); (obtain ⟨x, hx⟩ : ∃ x : Nat, v * 2 ^ sb = x := ⟨_, rfl⟩); (have hxx : (v : Int) * 2 ^ sb = (x : Int) := by rw [← hx]; simp); (have hxM : x < 18446744073709551616 := by rw [← hx, HSB.out]; exact (old_back64 l NN v HWn.out.1 HV.out).1); (have v2 : IntKind.u64.wrap (x : Int) = (x : Int) := wrap_nat64 hxM); (have HXM := hide hxM); (have HX := hide hx); clear hx hxM))
        have HT6 : Hid (Tk w w6 b 0 s a 0 a5 e5 ([true, true] ++ (bitsOf l 6 ++ bitsOf n 6) ++ bitsOf v NN)) := ((HT4.out.more64 (w2 := w4.drew) ⟨rfl, rfl, rfl, Nat.le_refl _, fun _ _ => rfl⟩).trans ha.out T5).more64 B6
        have hH6 : H < w6.heap.size := Nat.lt_of_lt_of_le hH5.out B6.size
        have HC6 : Hid (Col64 w6 c p L N) := HC.out.other HT6.out.only hbc
        have HB6 : Hid (Tab64 w6) := (Two64.ofB (c := c) HT6.out.only).tab HT.out hTb hTc
        clear T5 B6 HT4 HR4 HBH hH5 d0 d1
        by_cases hx0 : x = 0
        · subst hx0
          go_wp2_with fail
          go_ret
          refine ⟨false, 0, a5, e5, rfl, HT6.out.rd, Two64.ofB HT6.out.only, by omega, fun h => (by cases h), fun _ y r hy hr => ?_⟩
          exfalso
          obtain ⟨q1, q2, q3⟩ := HK.out y r hy hr
          have q4 := q3 v a5 e5 w6 HV.out HT6.out
          have q5 := HX.out
          rw [HSB.out] at q5
          exact q1 (q4.2.symm.trans q5)
        have x2 : ((x : Int) == 0) = false := by simp; omega
        have HX0 := hide hx0
        clear hx0
        go_wp2_with fail
        refine (pick64_any c p L N x w6 HC6.out HL.out HXM.out HX0.out HB6.out).mono ?_
        rintro e w7 ⟨l', n', own', rfl, B7, hP⟩
        have HPk := hide hP
        clear hP
        have hN8 := heap_alloc_new w7 (.cells #[.int .i64 (l' : Int), .int .i64 (n' : Int)] 225)
        have B8 : Below w6.heap.size w6 (w7.alloc (.cells #[.int .i64 (l' : Int), .int .i64 (n' : Int)] 225)) := B7.alloc B7.size _
        have HT8 : Hid (Tk w (w7.alloc (.cells #[.int .i64 (l' : Int), .int .i64 (n' : Int)] 225)) b 0 s a 0 a5 e5 ([true, true] ++ (bitsOf l 6 ++ bitsOf n 6) ++ bitsOf v NN) ∧ Col64 (w7.alloc (.cells #[.int .i64 (l' : Int), .int .i64 (n' : Int)] 225)) c p L N) := ⟨HT6.out.more64 B8, HC6.out.below B8 HC6.out.lt⟩
        have k0 : (w7.alloc (.cells #[.int .i64 (l' : Int), .int .i64 (n' : Int)] 225)).cell? ⟨H, 0, none⟩ = some (.int .i64 (l : Int)) := by rw [B8.cell (p := ⟨H, 0, none⟩) hH6]; exact k0
        have k1 : (w7.alloc (.cells #[.int .i64 (l' : Int), .int .i64 (n' : Int)] 225)).cell? ⟨H, 1, none⟩ = some (.int .i64 (NN : Int)) := by rw [B8.cell (p := ⟨H, 1, none⟩) hH6]; exact k1
        have HK8 : Hid ((w7.alloc (.cells #[.int .i64 (l' : Int), .int .i64 (n' : Int)] 225)).cell? ⟨w7.heap.size, 0, none⟩ = some (.int .i64 (l' : Int)) ∧ (w7.alloc (.cells #[.int .i64 (l' : Int), .int .i64 (n' : Int)] 225)).cell? ⟨w7.heap.size, 1, none⟩ = some (.int .i64 (n' : Int))) := ⟨by rw [cell_of_row _ _ _ _ _ _ hN8]; rfl, by rw [cell_of_row _ _ _ _ _ _ hN8]; rfl⟩
        clear hN8 B8 HT6 HC6 HB6 hH6
        go_upto_region 12 with fail
        generalize w7.alloc (.cells #[.int .i64 (l' : Int), .int .i64 (n' : Int)] 225) = w8 at *
        obtain ⟨m0, m1⟩ := HK8.out
        have HNG : Hid (¬ (l = l' ∧ NN = n' ∧ own' = true) → ∀ y r, y < 18446744073709551616 → (rb s).drop a = xb 64 6 L N y ++ r → False) := fun hne y r hy hr => by
          obtain ⟨q1, q2, q3⟩ := HK.out y r hy hr
          have q4 := q3 v a5 e5 _ HV.out HT8.out.1
          have q5 : x = y := by rw [← HX.out, HSB.out]; exact q4.2
          subst q5
          exact hne (HPk.out.elim (fun h => absurd h.2.1 q2.1) (fun h => ⟨by rw [h.2.2.1]; exact q2.2.1, by rw [h.2.2.2]; exact q2.2.2, h.1⟩))
        have HBAD : Hid (¬ (l = l' ∧ NN = n' ∧ own' = true) → TakeEnd64 w b c s a 0 p L N (.returned (.bool false)) w8) := fun hne =>
          ⟨false, 0, a5, e5, rfl, HT8.out.1.rd, Two64.ofB HT8.out.1.only, by omega, fun h => (by cases h), fun _ y r hy hr => (HNG.out hne y r hy hr).elim⟩
        by_cases hE1 : l = l'
        · by_cases hE2 : NN = n'
          · by_cases hE3 : own' = true
            · have c0 := HT8.out.2.ahead
              have c1 := HT8.out.2.lead
              have c2 := HT8.out.2.len
              have f0 := HT8.out.2.fz 0
              have f1 := HT8.out.2.fz 1
              have f2 := HT8.out.2.fz 2
              subst hE1
              subst hE2
              subst hE3
              obtain ⟨q, hq⟩ : ∃ q : Nat, q = p ^^^ x := ⟨_, rfl⟩
              have q1 : bits BinOp.xor IntKind.u64 (p : Int) (x : Int) = (q : Int) := by rw [hq]; exact u64_xor_nat p x HP.out HXM.out
              have HQ := hide hq
              clear hq
              go_wp2_with fail
              go_ret
              have O9 : Only c 0 3 w8 (((w8.setCell ⟨c, 0, none⟩ (.int .u64 (q : Int))).setCell ⟨c, 1, none⟩ (.int .i64 (l : Int))).setCell ⟨c, 2, none⟩ (.int .i64 (NN : Int))) := (((Only.refl c 0 3 w8).setCell 0 (by omega) (by omega) _).setCell 1 (by omega) (by omega) _).setCell 2 (by omega) (by omega) _
              have hbc' : b ≠ c := fun h => hbc h.symm
              obtain ⟨z1, z2⟩ : nxt 64 6 (L, N) x = (l, NN) ∧ xb 64 6 L N x = [true, true] ++ (bitsOf l 6 ++ bitsOf n 6) ++ bitsOf v NN := by
                rcases HPk.out with ⟨h, _⟩ | ⟨_, h1, h2, h3⟩
                · cases h
                · have q1 := bitLen_le x 64 HXM.out
                  have q2 := tz_lt x HX0.out (lt64 (W := 64) HXM.out (by omega))
                  have q3 : wl x = bitLen x - tz x := rfl
                  have q4 := HLN.out.1
                  have q5 := HSB.out
                  have q6 := HWn.out.1
                  have q7 : tz x = 64 - l - NN := by omega
                  refine ⟨by unfold nxt; rw [if_neg (fun h => h.elim HX0.out h1), ← h2, ← h3], ?_⟩
                  rw [xb_new _ _ _ _ _ HX0.out h1, ← h2, ← h3, show NN - 1 = n from by omega, q7]
                  have q8 : x / 2 ^ (64 - l - NN) = v := by rw [← HX.out, HSB.out]; exact (old_back64 l NN v HWn.out.1 HV.out).2
                  rw [q8]; simp
              refine ⟨true, x, a5, e5, rfl, HT8.out.1.rd.other O9 hbc', (Two64.ofB HT8.out.1.only).trans (Two64.ofC O9), HXM.out, fun _ => ⟨?_, fun he => ?_⟩, fun _ y r hy hr => ?_⟩
              · rw [z1, ← HQ.out]; exact (HT8.out.2.setAhead q).setOld l NN
              · rw [z2]; exact HT8.out.1.sound he
              · obtain ⟨q1, q2, q3⟩ := HK.out y r hy hr
                have q4 := q3 v a5 e5 _ HV.out HT8.out.1
                exact ⟨rfl, by rw [← HX.out, HSB.out]; exact q4.2, q4.1⟩
            · obtain rfl : own' = false := by cases own' <;> simp at hE3 ⊢
              subst hE1
              subst hE2
              go_wp2_with fail
              go_ret
              exact HBAD.out (fun h => hE3 h.2.2)
          · have b2 : ((NN : Int) == (n' : Int)) = false := by simp; omega
            subst hE1
            go_wp2_with fail
            go_ret
            exact HBAD.out (fun h => hE2 h.2.1)
        · have b1 : ((l : Int) == (l' : Int)) = false := by simp; omega
          go_wp2_with fail
          go_ret
          exact HBAD.out (fun h => hE1 h.1)

end Go.Proofs.YtpdaklklhoenhaaGreatDoor

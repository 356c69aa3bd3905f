/- The contracts of code's wide, signed, expected (32 bits). -/
import Derived.Test.YtleffbpjjbiobaaGreatDoorP1E32
import Derived.Laws.BitsAllLaws
import Derived.Deep.Cut
import Derived.Test.YtleffbpjjbiobaaGreatDoorP1B32
import Derived.BigQuiet
/- The contract of a column's lay (32 bits). -/
namespace Go.Proofs.YtleffbpjjbiobaaGreatDoor
open Go.RowKit
open M
set_option linter.unusedVariables false
set_option linter.unusedSimpArgs false

/-- What a column's lay leaves. -/
def LayEnd32 (b c lo v p L N : Nat) (l : List Bool) (w : World) (e : Ending) (w' : World) : Prop :=
  e = .returned (.tuple #[]) ∧ Wr w' lo b 0 (l ++ xb 32 5 L N (v ^^^ p)) 0 ∧ Col32 w' c v (nxt 32 5 (L, N) (v ^^^ p)).1 (nxt 32 5 (L, N) (v ^^^ p)).2 ∧ Two32 b c w w'

theorem Col32.setAhead {w : World} {c p L N : Nat} (h : Col32 w c p L N) (v : Nat) : Col32 (w.setCell ⟨c, 0, none⟩ (.int .u32 (v : Int))) c v L N :=
  ⟨cell_setCell_eq _ _ _ _ _ h.ahead, by rw [cell_setCell_ne _ _ _ _ _ (by omega)]; exact h.lead, by rw [cell_setCell_ne _ _ _ _ _ (by omega)]; exact h.len, fun i => by rw [frozen_setCell]; exact h.fz i⟩
theorem Col32.setOld {w : World} {c p L N : Nat} (h : Col32 w c p L N) (L' N' : Nat) : Col32 ((w.setCell ⟨c, 1, none⟩ (.int .i64 (L' : Int))).setCell ⟨c, 2, none⟩ (.int .i64 (N' : Int))) c p L' N' :=
  ⟨by rw [cell_setCell_ne _ _ _ _ _ (by omega), cell_setCell_ne _ _ _ _ _ (by omega)]; exact h.ahead, by rw [cell_setCell_ne _ _ _ _ _ (by omega)]; exact cell_setCell_eq _ _ _ _ _ h.lead,
    cell_setCell_eq _ _ _ _ (.int .i64 (N : Int)) (by rw [cell_setCell_ne _ _ _ _ _ (by omega)]; exact h.len), fun i => by rw [frozen_setCell, frozen_setCell]; exact h.fz i⟩
theorem Col32.other {w w' : World} {c p L N b lo hi : Nat} (h : Col32 w c p L N) (ho : Only b lo hi w w') (hne : c ≠ b) : Col32 w' c p L N := by
  have e := ho.block c h.lt hne
  exact ⟨by rw [World.cell?_of_block (w := w) e]; exact h.ahead, by rw [World.cell?_of_block (w := w) e]; exact h.lead, by rw [World.cell?_of_block (w := w) e]; exact h.len,
    fun i => by rw [World.frozen?_of_block (w := w) (w' := w') (a := ⟨c, i, none⟩) e]; exact h.fz i⟩

theorem lay_step32 {b c lo v L N H : Nat} {l : List Bool} {w w4 x wz : World} (h : Wr w4 lo b 0 l 0 ∧ Col32 w4 c v L N ∧ Two32 b c w w4 ∧ lo ≤ w4.heap.size ∧ H < w4.heap.size) (hbz : Below x.heap.size x wz)
    (hx : Below w4.heap.size w4 x := by exact ⟨rfl, rfl, rfl, Nat.le_refl _, fun _ _ => rfl⟩) : Wr wz lo b 0 l 0 ∧ Col32 wz c v L N ∧ Two32 b c w wz ∧ lo ≤ wz.heap.size ∧ H < wz.heap.size := by
  have B : Below w4.heap.size w4 wz := hx.trans (hbz.mono hx.size)
  exact ⟨h.1.below B, h.2.1.below B h.2.1.lt, h.2.2.1.trans (Two32.ofBelow B), Nat.le_trans h.2.2.2.1 B.size, Nat.lt_of_lt_of_le h.2.2.2.2 B.size⟩

set_option maxRecDepth 100000 in
set_option maxHeartbeats 4000000 in
theorem lay32_any (b c lo v p L N : Nat) (w : World) (l : List Bool) (hW : Wr w lo b 0 l 0) (hb : b < lo) (hc : c < lo) (hbc : c ≠ b) (hlo : lo ≤ w.heap.size) (hlen : l.length < 100000000) (hC : Col32 w c p L N) (hw : L + N ≤ 32) (hv : v < 4294967296) (hp : p < 4294967296)
    (hT : Tab64 w) (hTb : 1 ≠ b) (hTc : 1 ≠ c) : Calls Tryz.prog 131 #[.pointer (some ⟨c, 0, none⟩), .pointer (some ⟨b, 0, none⟩), .int .u32 (v : Int)] w (LayEnd32 b c lo v p L N l w) := by
  obtain ⟨x, hxe⟩ : ∃ x, x = v ^^^ p := ⟨_, rfl⟩
  have hx : x < 4294967296 := by rw [hxe]; exact xor_lt 32 v p hv hp
  have q1 : bits BinOp.xor IntKind.u32 (v : Int) (p : Int) = (x : Int) := by rw [hxe]; exact u32_xor_nat v p hv hp
  unfold LayEnd32
  rw [← hxe]
  clear hxe hv hp
  have c0 := hC.ahead
  have f0 := hC.fz 0
  have O0 : Only c 0 3 w (w.setCell ⟨c, 0, none⟩ (.int .u32 (v : Int))) := (Only.refl c 0 3 w).setCell 0 (by omega) (by omega) _
  have HM : Hid (Wr (w.setCell ⟨c, 0, none⟩ (.int .u32 (v : Int))) lo b 0 l 0 ∧ Col32 (w.setCell ⟨c, 0, none⟩ (.int .u32 (v : Int))) c v L N ∧ Two32 b c w (w.setCell ⟨c, 0, none⟩ (.int .u32 (v : Int)))) :=
    ⟨hW.other O0 (fun h => hbc h.symm) hc, hC.setAhead v, Two32.ofC O0⟩
  clear O0 hW hC
  have HX := hide hx
  have HL := hide hw
  have HLEN := hide hlen
  have HT := hide hT
  clear hx hw hlen hT
  by_cases x0 : x = 0
  · subst x0
    go_enter Tryz.func131, Tryz.ntmps131
    go_wp2_with fail
    generalize w.setCell ⟨c, 0, none⟩ (.int .u32 (v : Int)) = w0 at *
    refine (wbit_any b 0 lo false w0 l HM.out.1 hb (Nat.le_trans hlo HM.out.2.2.size) (by have := HLEN.out; omega)).mono ?_
    rintro e w1 ⟨rfl, W1, O1⟩
    go_wp2_with fail
    refine bodyPost_ret (results_none rfl _ _ _) rfl ?_
    exact ⟨rfl, W1, HM.out.2.1.other O1 hbc, HM.out.2.2.trans (Two32.ofB O1)⟩
  have x1 : ((x : Int) != 0) = true := by simp; omega
  have x2 : ((x : Int) == 0) = false := by simp; omega
  have HX0 := hide x0
  clear x0
  go_enter Tryz.func131, Tryz.ntmps131
  go_wp2_with fail
  generalize w.setCell ⟨c, 0, none⟩ (.int .u32 (v : Int)) = w0 at *
  clear c0 f0
  refine (wbit_any b 0 lo true w0 l HM.out.1 hb (Nat.le_trans hlo HM.out.2.2.size) (by have := HLEN.out; omega)).mono ?_
  rintro e w1 ⟨rfl, W1, O1⟩
  have HM1 : Hid (Wr w1 lo b 0 (l ++ [true]) 0 ∧ Col32 w1 c v L N ∧ Two32 b c w w1) := ⟨W1, HM.out.2.1.other O1 hbc, HM.out.2.2.trans (Two32.ofB O1)⟩
  clear W1 O1 HM
  go_wp2_with fail
  refine (pick32_any c v L N x w1 HM1.out.2.1 HL.out HX.out HX0.out (HM1.out.2.2.tab HT.out hTb hTc)).mono ?_
  rintro e w2 ⟨l', n', own, rfl, hb2, hP⟩
  have HP := hide hP
  clear hP
  have HM2 : Hid (Wr (w2.alloc (.cells #[.int .i64 (l' : Int), .int .i64 (n' : Int)] 162)) lo b 0 (l ++ [true]) 0 ∧ Col32 (w2.alloc (.cells #[.int .i64 (l' : Int), .int .i64 (n' : Int)] 162)) c v L N ∧ Two32 b c w (w2.alloc (.cells #[.int .i64 (l' : Int), .int .i64 (n' : Int)] 162)) ∧
      (w2.alloc (.cells #[.int .i64 (l' : Int), .int .i64 (n' : Int)] 162)).heap[w2.heap.size]? = some (.cells #[.int .i64 (l' : Int), .int .i64 (n' : Int)] 162 (0, 0)) ∧ lo ≤ w2.heap.size) := by
    have B : Below w1.heap.size w1 (w2.alloc (.cells #[.int .i64 (l' : Int), .int .i64 (n' : Int)] 162)) := hb2.alloc hb2.size _
    exact ⟨HM1.out.1.below B, HM1.out.2.1.below B HM1.out.2.1.lt, HM1.out.2.2.trans (Two32.ofBelow B), heap_alloc_new w2 _, Nat.le_trans hlo (Nat.le_trans HM1.out.2.2.size hb2.size)⟩
  clear hb2 HM1
  go_wp2_with fail
  obtain ⟨H, hH⟩ : ∃ H, w2.heap.size = H := ⟨_, rfl⟩
  rw [hH] at HM2 ⊢
  generalize w2.alloc (.cells #[.int .i64 (l' : Int), .int .i64 (n' : Int)] 162) = w3 at *
  clear hH
  cases own with
  | false =>
    have HS : Hid (sut 32 5 L N x ∧ l' = L ∧ n' = N) := by
      rcases HP.out with ⟨_, h1, h2, h3⟩ | ⟨h, _⟩
      · exact ⟨h1, h2, h3⟩
      · cases h
    clear HP
    refine (wbit_any b 0 lo false w3 _ HM2.out.1 hb (Nat.le_trans hlo HM2.out.2.2.1.size) (by have := HLEN.out; simp; omega)).mono ?_
    rintro e w4 ⟨rfl, W4, O4⟩
    have hHs : H < w3.heap.size := size_lt_of_row HM2.out.2.2.2.1
    have hHb : H ≠ b := by have := HM2.out.2.2.2.2; omega
    have HM4 : Hid (Wr w4 lo b 0 (l ++ [true] ++ [false]) 0 ∧ Col32 w4 c v L N ∧ Two32 b c w w4 ∧ lo ≤ w4.heap.size ∧ H < w4.heap.size) := ⟨W4, HM2.out.2.1.other O4 hbc, HM2.out.2.2.1.trans (Two32.ofB O4), Nat.le_trans HM2.out.2.2.2.2 (Nat.le_trans (Nat.le_of_lt hHs) O4.size), Nat.lt_of_lt_of_le hHs O4.size⟩
    have d0 : w4.cell? ⟨H, 0, none⟩ = some (.int .i64 (l' : Int)) := by rw [World.cell?_of_block (O4.block H hHs hHb), cell_of_row _ _ _ _ _ _ HM2.out.2.2.2.1]; rfl
    have d1 : w4.cell? ⟨H, 1, none⟩ = some (.int .i64 (n' : Int)) := by rw [World.cell?_of_block (O4.block H hHs hHb), cell_of_row _ _ _ _ _ _ HM2.out.2.2.2.1]; rfl
    clear W4 O4 HM2
    have HF : Hid (l' + n' ≤ 32 ∧ n' ≤ 64 ∧ x / 2 ^ bh32 l' n' < 2 ^ n' ∧ xb 32 5 L N x = [true, false] ++ bitsOf (x / 2 ^ bh32 l' n') n' ∧ nxt 32 5 (L, N) x = (L, N)) := by
      obtain ⟨hs, rfl, rfl⟩ := HS.out
      have h1 := HL.out
      exact ⟨h1, by omega, old_fits 32 5 l' n' x HX.out h1 hs, xb_old _ _ _ _ _ HX0.out hs, by unfold nxt; rw [if_pos (.inr hs)]⟩
    have HBH : Hid (∀ w, Calls Tryz.prog 156 #[.agg #[.int .i64 (l' : Int), .int .i64 (n' : Int)]] w fun e w' => e = .returned (.int .i64 (bh32 l' n' : Int)) ∧ Below w.heap.size w w') := fun w => behindN32_any l' n' w HF.out.1
    have sb64 : bh32 l' n' ≤ 32 := by unfold bh32; omega
    generalize bh32 l' n' = sb at *
    obtain ⟨y, hy⟩ : ∃ y : Nat, y = x / 2 ^ sb := ⟨_, rfl⟩
    have y1 : (x : Int) / 2 ^ sb = (y : Int) := by rw [hy]; simp
    rw [← hy] at HF
    have HLN : Hid ((l ++ [true] ++ [false]).length + n' < 1000000000000) := by
      have h1 := HLEN.out
      have h2 := HF.out.2.1
      show _ < _; simp; omega
    have y2 : IntKind.u64.wrap (y : Int) = (y : Int) := by
      have h1 := HX.out
      have h2 : y ≤ x := by rw [hy]; exact Nat.div_le_self _ _
      rw [IntKind.wrap_u64]; omega
    have y3 : IntKind.u64.wrap ((x : Int) / 2 ^ sb) = (y : Int) := by rw [y1, y2]
    have HYM : Hid (y < 18446744073709551616) := by
      have h1 := HX.out
      have h2 : y ≤ x := by rw [hy]; exact Nat.div_le_self _ _
      show y < _; omega
    clear hy hHs
    go_wp2_with fail
    go_region_held3 (fun w' => w'.cell? ⟨H, 0, none⟩ = some (.int .i64 (l' : Int)) ∧ w'.cell? ⟨H, 1, none⟩ = some (.int .i64 (n' : Int))) (first | exact ⟨e0, e1⟩ | exact ⟨d0, d1⟩)
      (first | (go_at_call 156; go_must (refine (HBH.out _).mono ?_); rintro _ wz ⟨rfl, hbz⟩; (have e0 : wz.cell? ⟨H, 0, none⟩ = some (.int .i64 (l' : Int)) := by rw [hbz.cell (p := ⟨H, 0, none⟩) (block_lt_of_cell d0)]; exact d0); (have e1 : wz.cell? ⟨H, 1, none⟩ = some (.int .i64 (n' : Int)) := by rw [hbz.cell (p := ⟨H, 1, none⟩) (block_lt_of_cell d1)]; exact d1); (have HMZ : Hid (Wr wz lo b 0 (l ++ [true] ++ [false]) 0 ∧ Col32 wz c v L N ∧ Two32 b c w wz ∧ lo ≤ wz.heap.size ∧ H < wz.heap.size) := lay_step32 HM4.out hbz); clear hbz) | (go_at_call 90; go_must (refine (wbits_any b 0 lo n' y _ _ HMZ.out.1 hb HMZ.out.2.2.2.1 HLN.out HF.out.2.1 HYM.out HF.out.2.2.1).mono ?_); rintro _ w5 ⟨rfl, W5, O5⟩; (have e0 : w5.cell? ⟨H, 0, none⟩ = some (.int .i64 (l' : Int)) := by rw [World.cell?_of_block (O5.block H HMZ.out.2.2.2.2 hHb)]; exact e0); (have e1 : w5.cell? ⟨H, 1, none⟩ = some (.int .i64 (n' : Int)) := by rw [World.cell?_of_block (O5.block H HMZ.out.2.2.2.2 hHb)]; exact e1)))
    go_wp2_with fail
    go_end0
    rw [HF.out.2.2.2.1, HF.out.2.2.2.2]
    refine ⟨rfl, ?_, HMZ.out.2.1.other O5 hbc, HMZ.out.2.2.1.trans (Two32.ofB O5)⟩
    have e : l ++ ([true, false] ++ bitsOf y n') = l ++ [true] ++ [false] ++ bitsOf y n' := by simp
    rw [e]; exact W5
  | true =>
    have HS : Hid (lo ≤ H ∧ ¬ sut 32 5 L N x ∧ l' = 32 - bitLen x ∧ 0 < n' ∧ n' = wl x ∧ l' < 32 ∧ n' ≤ 32) := by
      rcases HP.out with ⟨h, _⟩ | ⟨_, h1, h2, h3⟩
      · cases h
      · have q1 := bitLen_le x 32 HX.out
        have q2 := wl_pos x HX0.out (lt64 (W := 32) HX.out (by omega))
        have q3 := bitLen_pos x HX0.out
        have q4 : wl x = bitLen x - tz x := rfl
        exact ⟨HM2.out.2.2.2.2, h1, h2, by omega, h3, by omega, by omega⟩
    clear HP
    refine (wbit_any b 0 lo true w3 _ HM2.out.1 hb (Nat.le_trans hlo HM2.out.2.2.1.size) (by have := HLEN.out; simp; omega)).mono ?_
    rintro e w6 ⟨rfl, W6, O6⟩
    have hHs : H < w3.heap.size := size_lt_of_row HM2.out.2.2.2.1
    have hHb : H ≠ b := by have := HM2.out.2.2.2.2; omega
    obtain ⟨m, hm⟩ : ∃ m, m + 1 = n' := ⟨n' - 1, by have := HS.out.2.2.2.1; omega⟩
    have HM6 : Hid (Wr w6 lo b 0 (l ++ [true] ++ [true]) 0 ∧ Col32 w6 c v L N ∧ Two32 b c w w6 ∧ lo ≤ w6.heap.size ∧ H < w6.heap.size) := ⟨W6, HM2.out.2.1.other O6 hbc, HM2.out.2.2.1.trans (Two32.ofB O6), Nat.le_trans HM2.out.2.2.2.2 (Nat.le_trans (Nat.le_of_lt hHs) O6.size), Nat.lt_of_lt_of_le hHs O6.size⟩
    have d0 : w6.cell? ⟨H, 0, none⟩ = some (.int .i64 (l' : Int)) := by rw [World.cell?_of_block (O6.block H hHs hHb), cell_of_row _ _ _ _ _ _ HM2.out.2.2.2.1]; rfl
    have d1 : w6.cell? ⟨H, 1, none⟩ = some (.int .i64 (n' : Int)) := by rw [World.cell?_of_block (O6.block H hHs hHb), cell_of_row _ _ _ _ _ _ HM2.out.2.2.2.1]; rfl
    clear W6 O6 HM2
    have HM' := hide hm
    clear hm hHs
    go_wp2_with fail
    refine (layWin32_any l' n' m b lo w6 _ HM6.out.1 hb HM6.out.2.2.2.1 (by have := HLEN.out; simp; omega) (by have := HS.out.2.2.2; omega) (by have := HS.out.2.2.2; have := HM'.out; omega) HM'.out).mono ?_
    rintro e w7 ⟨rfl, W7, O7⟩
    have C7 := HM6.out.2.1.other O7 hbc
    have d0 : w7.cell? ⟨H, 0, none⟩ = some (.int .i64 (l' : Int)) := by rw [World.cell?_of_block (O7.block H HM6.out.2.2.2.2 hHb)]; exact d0
    have d1 : w7.cell? ⟨H, 1, none⟩ = some (.int .i64 (n' : Int)) := by rw [World.cell?_of_block (O7.block H HM6.out.2.2.2.2 hHb)]; exact d1
    have hHc : H ≠ c := by have := HS.out.1; omega
    have O8 : Only c 0 3 w7 ((w7.setCell ⟨c, 1, none⟩ (.int .i64 (l' : Int))).setCell ⟨c, 2, none⟩ (.int .i64 (n' : Int))) := ((Only.refl c 0 3 w7).setCell 1 (by omega) (by omega) _).setCell 2 (by omega) (by omega) _
    have hH7 : H < w7.heap.size := Nat.lt_of_lt_of_le HM6.out.2.2.2.2 O7.size
    have HM4 : Hid (Wr ((w7.setCell ⟨c, 1, none⟩ (.int .i64 (l' : Int))).setCell ⟨c, 2, none⟩ (.int .i64 (n' : Int))) lo b 0 (l ++ [true] ++ [true] ++ bitsOf l' 5 ++ bitsOf m 5) 0 ∧ Col32 ((w7.setCell ⟨c, 1, none⟩ (.int .i64 (l' : Int))).setCell ⟨c, 2, none⟩ (.int .i64 (n' : Int))) c v l' n' ∧ Two32 b c w ((w7.setCell ⟨c, 1, none⟩ (.int .i64 (l' : Int))).setCell ⟨c, 2, none⟩ (.int .i64 (n' : Int))) ∧ lo ≤ ((w7.setCell ⟨c, 1, none⟩ (.int .i64 (l' : Int))).setCell ⟨c, 2, none⟩ (.int .i64 (n' : Int))).heap.size ∧ H < ((w7.setCell ⟨c, 1, none⟩ (.int .i64 (l' : Int))).setCell ⟨c, 2, none⟩ (.int .i64 (n' : Int))).heap.size) :=
      ⟨W7.other O8 (fun h => hbc h.symm) hc, C7.setOld l' n', (HM6.out.2.2.1.trans (Two32.ofB O7)).trans (Two32.ofC O8), Nat.le_trans HM6.out.2.2.2.1 (Nat.le_trans O7.size O8.size), Nat.lt_of_lt_of_le hH7 O8.size⟩
    have HD : Hid (((w7.setCell ⟨c, 1, none⟩ (.int .i64 (l' : Int))).setCell ⟨c, 2, none⟩ (.int .i64 (n' : Int))).cell? ⟨H, 0, none⟩ = some (.int .i64 (l' : Int)) ∧ ((w7.setCell ⟨c, 1, none⟩ (.int .i64 (l' : Int))).setCell ⟨c, 2, none⟩ (.int .i64 (n' : Int))).cell? ⟨H, 1, none⟩ = some (.int .i64 (n' : Int))) :=
      ⟨by rw [World.cell?_of_block (O8.block H hH7 hHc)]; exact d0, by rw [World.cell?_of_block (O8.block H hH7 hHc)]; exact d1⟩
    have c1 := C7.lead
    have c2 := C7.len
    have f1 := C7.fz 1
    have f2 := C7.fz 2
    clear W7 O7 O8 HM6 C7 hH7 hHc
    go_wp2_with fail
    generalize (w7.setCell ⟨c, 1, none⟩ (.int .i64 (l' : Int))).setCell ⟨c, 2, none⟩ (.int .i64 (n' : Int)) = w4 at *
    clear c1 c2 f1 f2 d0 d1
    obtain ⟨d0, d1⟩ := HD.out
    have HF : Hid (l' + n' ≤ 32 ∧ n' ≤ 64 ∧ x / 2 ^ bh32 l' n' < 2 ^ n' ∧ xb 32 5 L N x = [true, true] ++ bitsOf l' 5 ++ bitsOf m 5 ++ bitsOf (x / 2 ^ bh32 l' n') n' ∧ nxt 32 5 (L, N) x = (l', n')) := by
      obtain ⟨hH, hs, hl, hn0, hn1, hl2, hn2⟩ := HS.out
      have hm := HM'.out
      have q : wl x = bitLen x - tz x := rfl
      have q1 := bitLen_le x 32 HX.out
      have q2 := tz_lt x HX0.out (lt64 (W := 32) HX.out (by omega))
      have q3 : bh32 l' n' = tz x := by unfold bh32; omega
      have q4 := new_fits x HX0.out (lt64 (W := 32) HX.out (by omega))
      have q5 := xb_new 32 5 L N x HX0.out hs
      have q6 : wl x = n' := by omega
      have q7 : wl x - 1 = m := by omega
      have q8 : 32 - bitLen x = l' := by omega
      rw [q3]
      rw [q7, q8, q6] at q5
      rw [q6] at q4
      exact ⟨by omega, by omega, q4, q5, by unfold nxt; rw [if_neg (fun h => h.elim HX0.out hs), q8, q6]⟩
    have HBH : Hid (∀ w, Calls Tryz.prog 156 #[.agg #[.int .i64 (l' : Int), .int .i64 (n' : Int)]] w fun e w' => e = .returned (.int .i64 (bh32 l' n' : Int)) ∧ Below w.heap.size w w') := fun w => behindN32_any l' n' w HF.out.1
    have sb64 : bh32 l' n' ≤ 32 := by unfold bh32; omega
    generalize bh32 l' n' = sb at *
    obtain ⟨y, hy⟩ : ∃ y : Nat, y = x / 2 ^ sb := ⟨_, rfl⟩
    have y1 : (x : Int) / 2 ^ sb = (y : Int) := by rw [hy]; simp
    rw [← hy] at HF
    have HLN : Hid ((l ++ [true] ++ [true] ++ bitsOf l' 5 ++ bitsOf m 5).length + n' < 1000000000000) := by
      have h1 := HLEN.out
      have h2 := HF.out.2.1
      show _ < _; simp; omega
    have y2 : IntKind.u64.wrap (y : Int) = (y : Int) := by
      have h1 := HX.out
      have h2 : y ≤ x := by rw [hy]; exact Nat.div_le_self _ _
      rw [IntKind.wrap_u64]; omega
    have y3 : IntKind.u64.wrap ((x : Int) / 2 ^ sb) = (y : Int) := by rw [y1, y2]
    have HYM : Hid (y < 18446744073709551616) := by
      have h1 := HX.out
      have h2 : y ≤ x := by rw [hy]; exact Nat.div_le_self _ _
      show y < _; omega
    clear hy
    go_region_held3 (fun w' => w'.cell? ⟨H, 0, none⟩ = some (.int .i64 (l' : Int)) ∧ w'.cell? ⟨H, 1, none⟩ = some (.int .i64 (n' : Int))) (first | exact ⟨e0, e1⟩ | exact ⟨d0, d1⟩)
      (first | (go_at_call 156; go_must (refine (HBH.out _).mono ?_); rintro _ wz ⟨rfl, hbz⟩; (have e0 : wz.cell? ⟨H, 0, none⟩ = some (.int .i64 (l' : Int)) := by rw [hbz.cell (p := ⟨H, 0, none⟩) (block_lt_of_cell d0)]; exact d0); (have e1 : wz.cell? ⟨H, 1, none⟩ = some (.int .i64 (n' : Int)) := by rw [hbz.cell (p := ⟨H, 1, none⟩) (block_lt_of_cell d1)]; exact d1); (have HMZ : Hid (Wr wz lo b 0 (l ++ [true] ++ [true] ++ bitsOf l' 5 ++ bitsOf m 5) 0 ∧ Col32 wz c v l' n' ∧ Two32 b c w wz ∧ lo ≤ wz.heap.size ∧ H < wz.heap.size) := lay_step32 HM4.out hbz); clear hbz) | (go_at_call 90; go_must (refine (wbits_any b 0 lo n' y _ _ HMZ.out.1 hb HMZ.out.2.2.2.1 HLN.out HF.out.2.1 HYM.out HF.out.2.2.1).mono ?_); rintro _ w5 ⟨rfl, W5, O5⟩; (have e0 : w5.cell? ⟨H, 0, none⟩ = some (.int .i64 (l' : Int)) := by rw [World.cell?_of_block (O5.block H HMZ.out.2.2.2.2 hHb)]; exact e0); (have e1 : w5.cell? ⟨H, 1, none⟩ = some (.int .i64 (n' : Int)) := by rw [World.cell?_of_block (O5.block H HMZ.out.2.2.2.2 hHb)]; exact e1)))
    go_wp2_with fail
    go_end0
    rw [HF.out.2.2.2.1, HF.out.2.2.2.2]
    refine ⟨rfl, ?_, HMZ.out.2.1.other O5 hbc, HMZ.out.2.2.1.trans (Two32.ofB O5)⟩
    have e : l ++ ([true, true] ++ bitsOf l' 5 ++ bitsOf m 5 ++ bitsOf y n') = l ++ [true] ++ [true] ++ bitsOf l' 5 ++ bitsOf m 5 ++ bitsOf y n' := by simp
    rw [e]; exact W5

end Go.Proofs.YtleffbpjjbiobaaGreatDoor

/- The contract of Pack (32 bits). -/
namespace Go.Proofs.YtleffbpjjbiobaaGreatDoor
open Go.RowKit
open M
set_option linter.unusedVariables false
set_option linter.unusedSimpArgs false

/-- The slice at p of n values of 32 bits holds f. -/
def URow32 (w : World) (p : Option Addr) (n : Nat) (f : Nat → Nat) : Prop :=
  0 < n → ∃ b o, p = some ⟨b, o, none⟩ ∧ ∀ i, i < n → w.cell? ⟨b, o + i, none⟩ = some (.int .u32 (f i : Int))

theorem URow32.below {w w' : World} {p : Option Addr} {n : Nat} {f : Nat → Nat} (h : URow32 w p n f) (hB : Below w.heap.size w w') : URow32 w' p n f := fun h0 => by
  obtain ⟨b, o, hp, hc⟩ := h h0
  exact ⟨b, o, hp, fun i hi => by rw [hB.cell (p := ⟨b, o + i, none⟩) (block_lt_of_cell (hc i hi))]; exact hc i hi⟩
theorem URow32.drewN {w : World} {p : Option Addr} {n : Nat} {f : Nat → Nat} (h : URow32 w p n f) (m : Nat) : URow32 (w.drewN m) p n f := h
theorem URow32.take {w : World} {p : Option Addr} {n m : Nat} {f : Nat → Nat} (h : URow32 w p n f) (hm : m ≤ n) : URow32 w p m f := fun h0 => by
  obtain ⟨b, o, hp, hc⟩ := h (by omega)
  exact ⟨b, o, hp, fun i hi => hc i (by omega)⟩
theorem URow32.nil (w : World) (p : Option Addr) (f : Nat → Nat) : URow32 w p 0 f := fun h => by omega
theorem URow32.congr {w : World} {p : Option Addr} {n : Nat} {f g : Nat → Nat} (h : URow32 w p n f) (e : ∀ i, i < n → f i = g i) : URow32 w p n g := fun h0 => by
  obtain ⟨b, o, hp, hc⟩ := h h0
  exact ⟨b, o, hp, fun i hi => by rw [hc i hi, e i hi]⟩

theorem Wr.rebase32 {w : World} {lo lo' b off : Nat} {l : List Bool} {e : Int} (h : Wr w lo b off l e) (hl : l.length < 960) : Wr w lo' b off l e := by
  obtain ⟨p, h1, h2⟩ := h
  have e0 : l.length / 960 = 0 := by omega
  refine ⟨p, h1, ?_⟩
  rw [e0] at h2 ⊢
  exact h2

/-- What layAll leaves. -/
def AllEnd32 (b : Nat) (f : Nat → Nat) (n : Nat) (w : World) (e : Ending) (w' : World) : Prop :=
  e = .returned (.tuple #[]) ∧ ∃ lo, b < lo ∧ lo ≤ w'.heap.size ∧ Wr w' lo b 0 (cbn 32 5 f n) 0 ∧ Below b w w'

set_option maxRecDepth 100000 in
set_option maxHeartbeats 4000000 in
theorem layAll32_any (b : Nat) (p : Option Addr) (n cap : Nat) (f : Nat → Nat) (w : World) (h : URow32 w p n f) (hpb : ∀ a, p = some a → 0 < n → a.block < b) (hn : n ≤ 4096) (hcap : n ≤ cap) (hf : ∀ i, i < n → f i < 4294967296)
    (hW : Wr w (b + 1) b 0 [] 0) (hb : b < w.heap.size) (hT : Tab64 w) (hTb : 1 < b) :
    Calls Tryz.prog 97 #[.pointer (some ⟨b, 0, none⟩), .slice p n cap] w (AllEnd32 b f n w) := by
  have HW := hide hW
  have HF := hide hf
  have HT := hide hT
  clear hW hf hT
  by_cases h0 : n = 0
  · subst h0
    go_enter Tryz.func97, Tryz.ntmps97
    go_wp2_with fail
    refine bodyPost_ret (results_none rfl _ _ _) rfl ?_
    exact ⟨rfl, b + 1, by omega, by omega, HW.out, Below.refl _ _⟩
  obtain ⟨rb0, ro, rfl, hc⟩ := h (by omega)
  have hrb : rb0 < b := hpb _ rfl (by omega)
  have c0 : w.cell? ⟨rb0, ro, none⟩ = some (.int .u32 (f 0 : Int)) := hc 0 (by omega)
  have HC := hide hc
  clear hc h hpb
  have hne : ((n : Int) == 0) = false := by rw [beq_eq_false_iff_ne]; omega
  have hn0 : 0 < n := by omega
  obtain ⟨v0, hv0⟩ : ∃ v0, f 0 = v0 := ⟨_, rfl⟩
  have hvM : v0 < 4294967296 := by rw [← hv0]; exact HF.out 0 (by omega)
  rw [hv0] at c0
  have r0 : IntKind.u64.wrap (v0 : Int) = (v0 : Int) := by rw [IntKind.wrap_u64]; omega
  have HV := hide hvM
  have HV0 := hide hv0
  clear hvM hv0
  have HWd : Hid (Wr w.drew (b + 1) b 0 [] 0) := HW.out.below (w' := w.drew) ⟨rfl, rfl, rfl, Nat.le_refl _, fun _ _ => rfl⟩
  go_enter Tryz.func97, Tryz.ntmps97
  go_wp2_with fail
  go_region_held3 (fun w' => w'.cell? ⟨rb0, ro, none⟩ = some (.int .u32 (v0 : Int))) (first | exact c0' | exact c0)
    (first | (go_at_call 117; go_must (refine (width32_any _).mono ?_); rintro _ wy ⟨rfl, rfl⟩) | (go_at_call 90; go_must (refine (wbits_any b 0 (b + 1) 32 v0 _ _ HWd.out (by omega) (show b + 1 ≤ w.drew.heap.size from hb) (by simp) (by omega) (by have := HV.out; omega) (by have := HV.out; omega)).mono ?_); rintro _ w1 ⟨rfl, W1, O1⟩; (have c0' : w1.cell? ⟨rb0, ro, none⟩ = some (.int .u32 (v0 : Int)) := by rw [World.cell?_of_block (O1.block rb0 (Nat.lt_trans hrb hb) (by omega))]; exact c0)))
  have HM1 : Hid (Wr w1 (b + 1) b 0 (bitsOf v0 32) 0 ∧ Only b 0 123 w w1) := ⟨W1, ((Only.refl b 0 123 w).drew).trans O1⟩
  clear W1 O1 c0 HWd
  have HM2 : Hid (Wr (w1.alloc (.cells #[.int .u32 (v0 : Int), .int .i64 0, .int .i64 0] 164)) (w1.heap.size + 1) b 0 (cbn 32 5 f 1) 0 ∧ Col32 (w1.alloc (.cells #[.int .u32 (v0 : Int), .int .i64 0, .int .i64 0] 164)) w1.heap.size (f 0) (win 32 5 f 0).1 (win 32 5 f 0).2 ∧
      Below b w (w1.alloc (.cells #[.int .u32 (v0 : Int), .int .i64 0, .int .i64 0] 164)) ∧ w1.heap.size + 1 ≤ (w1.alloc (.cells #[.int .u32 (v0 : Int), .int .i64 0, .int .i64 0] 164)).heap.size ∧ b < w1.heap.size) := by
    have hs := HM1.out.2.size
    have hN := heap_alloc_new w1 (.cells #[.int .u32 (v0 : Int), .int .i64 0, .int .i64 0] 164)
    refine ⟨?_, ⟨?_, ?_, ?_, fun i => frozen_of_row _ _ _ _ _ hN⟩, (HM1.out.2.below (Nat.le_refl _) (Nat.le_of_lt hb)).alloc (by omega) _, by simp, by omega⟩
    · rw [cbn_one, HV0.out]
      exact ((HM1.out.1.below (w' := w1.alloc _) ((Below.refl _ w1).alloc (Nat.le_refl _) _))).rebase32 (by simp)
    · rw [cell_of_row _ _ _ _ _ _ hN, HV0.out]; rfl
    · rw [cell_of_row _ _ _ _ _ _ hN]; rfl
    · rw [cell_of_row _ _ _ _ _ _ hN]; rfl
  by_cases hc1 : cap = 1
  · obtain rfl : n = 1 := by omega
    subst hc1
    go_wp2_with fail
    generalize w1.alloc (.cells #[.int .u32 (v0 : Int), .int .i64 0, .int .i64 0] 164) = w2 at *
    go_loopw [24] (fun t23 wr => t23 = .int .i64 0 ∧ Hid (wr = w2)) (fun _ _ => 0)
    case atStart => exact ⟨rfl, rfl⟩
    case round =>
      obtain ⟨rfl, hI⟩ := hrel
      go_wp2_with fail
      go_end0
      rw [hI.out]
      exact ⟨rfl, w1.heap.size + 1, by have := HM2.out; omega, HM2.out.2.2.2.1, HM2.out.1, HM2.out.2.2.1⟩
  obtain ⟨n1, hn1⟩ : ∃ n1, n - 1 = n1 := ⟨_, rfl⟩
  go_wp2_with fail
  obtain ⟨c, hcw⟩ : ∃ c, w1.heap.size = c := ⟨_, rfl⟩
  rw [hcw] at HM2 ⊢
  generalize w1.alloc (.cells #[.int .u32 (v0 : Int), .int .i64 0, .int .i64 0] 164) = w2 at *
  clear hcw HV HV0
  go_loopw [24] (fun t23 wr => ∃ k : Nat, t23 = .int .i64 (k : Int) ∧ Hid (k < n ∧ Wr wr (c + 1) b 0 (cbn 32 5 f (k + 1)) 0 ∧ Col32 wr c (f k) (win 32 5 f k).1 (win 32 5 f k).2 ∧ Two32 b c w2 wr)) (fun t23 _ => n1 - (intOf t23).toNat)
  case atStart => exact ⟨0, rfl, hn0, HM2.out.1, HM2.out.2.1, Two32.ofBelow (Below.refl _ _)⟩
  case round =>
    obtain ⟨k, rfl, hI⟩ := hrel
    by_cases hlt : k < n1
    · obtain ⟨v, hv⟩ : ∃ v, f (k + 1) = v := ⟨_, rfl⟩
      have c1 : wr.cell? ⟨rb0, ro + 1 + k, none⟩ = some (.int .u32 (v : Int)) := by
        have e1 := HM2.out.2.2.1.cell (p := ⟨rb0, ro + 1 + k, none⟩) hrb
        have hs : rb0 < w2.heap.size := by have := HM2.out; omega
        have e2 := hI.out.2.2.2.block rb0 hs (by omega) (by have := HM2.out; omega)
        rw [World.cell?_of_block (w := w2) e2, e1, ← hv, show ro + 1 + k = ro + (k + 1) from by omega]
        exact HC.out (k + 1) (by omega)
      have HV := hide hv
      clear hv
      go_wp2_with fail
      refine (lay32_any b c (c + 1) v (f k) (win 32 5 f k).1 (win 32 5 f k).2 wr _ hI.out.2.1 (by have := HM2.out; omega) (by omega) (by have := HM2.out; omega) (Nat.le_trans HM2.out.2.2.2.1 hI.out.2.2.2.size) (by have := cbn_length 32 5 f (by omega) k (fun i hi => HF.out i (by omega)); omega) hI.out.2.2.1
        (win_win 32 5 f (by omega) k (fun j hj => HF.out j (by omega))) (by rw [← HV.out]; exact HF.out _ (by omega)) (HF.out _ (by omega)) ?_ (by omega) (by have := HM2.out; omega)).mono ?_
      · exact hI.out.2.2.2.tab (HT.out.below' HM2.out.2.2.1 hTb) (by omega) (by have := HM2.out; omega)
      rintro e w3 ⟨rfl, W3, C3, T3⟩
      go_wp2_with fail
      go_roundw
      case rel =>
        refine ⟨k + 1, by simp, by show k + 1 < n; omega, ?_, ?_, hI.out.2.2.2.trans T3⟩
        · rw [cbn_step]; unfold xbf; rw [HV.out]; exact W3
        · simp only [win]; rw [HV.out]; exact C3
      case measure => simp [intOf]; omega
    · go_wp2_with fail
      go_end0
      obtain rfl : n = k + 1 := by have := hI.out.1; omega
      exact ⟨rfl, c + 1, by have := HM2.out; omega, Nat.le_trans HM2.out.2.2.2.1 hI.out.2.2.2.size, hI.out.2.1, HM2.out.2.2.1.trans (hI.out.2.2.2.below (Nat.le_refl _) (by have := HM2.out; omega) (by have := HM2.out; omega))⟩

end Go.Proofs.YtleffbpjjbiobaaGreatDoor

namespace Go.Proofs.YtleffbpjjbiobaaGreatDoor
open Go.RowKit
open M
set_option linter.unusedVariables false
set_option linter.unusedSimpArgs false

/-- What Pack tells. -/
def PackEnd32 (f : Nat → Nat) (n : Nat) (w : World) (e : Ending) (w' : World) : Prop :=
  ∃ (g L : Nat), L = (packed (cbn 32 5 f n)).length ∧ w.heap.size ≤ g ∧ e = .returned (.tuple #[.slice (some ⟨g, 0, none⟩) L L, .int .i64 0]) ∧
    w'.heap[g]? = some (.cells (bytesV (packed (cbn 32 5 f n))).toArray 5 (0, 0)) ∧ Below w.heap.size w w'

set_option maxRecDepth 100000 in
set_option maxHeartbeats 1000000 in
theorem pack32_ok (p : Option Addr) (n cap : Nat) (f : Nat → Nat) (w : World) (h : URow32 w p n f) (hn : n ≤ 4096) (hcap : n ≤ cap) (hf : ∀ i, i < n → f i < 4294967296) (hT : Tab64 w) :
    Calls Tryz.prog 58 #[.slice p n cap] w (PackEnd32 f n w) := by
  have H := hide h
  have HF := hide hf
  have HTs : 1 < w.heap.size := block_lt_of_cell (hT 0 (by omega))
  obtain ⟨g, hg⟩ : ∃ g, g = w.heap.size := ⟨_, rfl⟩
  obtain ⟨W1, hW1⟩ : ∃ W1, W1 = w.alloc (.cells zW 125) := ⟨_, rfl⟩
  have HM : Hid (Wr W1 (g + 1) g 0 [] 0 ∧ g < W1.heap.size ∧ Below w.heap.size w W1 ∧ Tab64 W1 ∧ URow32 W1 p n f) := by
    have B1 : Below w.heap.size w W1 := by rw [hW1]; exact (Below.refl _ w).alloc (Nat.le_refl _) _
    refine ⟨?_, by rw [hW1, hg]; simp, B1, hT.below B1, h.below B1⟩
    rw [hg, hW1]; exact wr_of (heap_alloc_new w _)
  have HP : Hid (∀ a, p = some a → 0 < n → a.block < g) := fun a ha h0 => by
    obtain ⟨b, o, hp, hc⟩ := H.out h0
    rw [hp] at ha
    simp only [Option.some.injEq] at ha
    rw [← ha, hg]
    exact block_lt_of_cell (hc 0 h0)
  have HG := hide hg
  clear h hf hT
  go_enter Tryz.func58, Tryz.ntmps58
  go_upto_region 3 with fail
  refine wp_region_list ?_
  refine wpList_build rfl 125 #[] rfl (by kernel_rfl) ?_
  simp only [Array.map_empty]
  rw [zW_built]
  refine Go.Great.wpList_boxTo rfl 125 (.tmp 8) rfl (some 9) rfl g hg.symm zW rfl ?_
  rw [← hW1]
  clear hW1 hg
  go_wp2_with fail
  refine (layAll32_any g p n cap f W1 HM.out.2.2.2.2 HP.out hn hcap HF.out HM.out.1 HM.out.2.1 HM.out.2.2.2.1 (by rw [HG.out]; exact HTs)).mono ?_
  rintro e w2 ⟨rfl, lo, hlo1, hlo2, W2, B2⟩
  have hl := cbn_length' 32 5 f n (by omega) HF.out
  have HL := hide hl
  clear hl
  go_wp2_with fail
  refine (wdone_packed g 0 lo w2 _ W2 hlo2 (by have := HL.out; omega) _ rfl).mono ?_
  rintro e w3 ⟨rfl, G3, B3⟩
  go_wp2_with fail
  go_ret2
  have e3 := HM.out.2.2.1
  have e4 := HG.out
  refine ⟨w2.heap.size, ((cbn 32 5 f n).length + 7) / 8, (packed_length _).symm, ?_, rfl, G3, ?_⟩
  · have := B2.size; have := e3.size; omega
  · rw [e4] at B2
    exact (e3.trans B2).trans (B3.mono (by have := B2.size; have := e3.size; omega))

theorem pack32_many (p : Option Addr) (n cap : Nat) (w : World) (hn : 4096 < n) :
    Calls Tryz.prog 58 #[.slice p n cap] w fun e w' => e = .returned (.tuple #[.slice none 0 0, .int .i64 70]) ∧ w' = w := by
  go_enter Tryz.func58, Tryz.ntmps58
  go_wp2_with fail
  go_ret2
  exact ⟨rfl, rfl⟩

end Go.Proofs.YtleffbpjjbiobaaGreatDoor

namespace Go.Proofs.YtleffbpjjbiobaaGreatDoor
open Go.RowKit
open M
set_option linter.unusedVariables false
set_option linter.unusedSimpArgs false

theorem cwide32_any (w : World) : Calls Tryz.prog 134 #[] w fun e w' => e = .returned (.bool false) ∧ w' = w := by
  go_enter Tryz.func134, Tryz.ntmps134
  go_wp2_with fail
  refine (cwidth32_any _).mono ?_
  rintro e w1 ⟨rfl, rfl⟩
  go_wp2_with fail
  go_ret
  exact ⟨rfl, rfl⟩

theorem signed32_any (x : Nat) (w : World) (hx : x < 4294967296) : Calls Tryz.prog 100 #[.int .u32 x] w fun e w' => e = .returned (.int .i64 (sgW 2147483648 4294967296 x)) ∧ w' = w := by
  have r0 : IntKind.i32.wrap (x : Int) = sgW 2147483648 4294967296 x := by rw [IntKind.wrap_i32]; unfold sgW; split <;> omega
  have r1 : IntKind.i64.wrap (sgW 2147483648 4294967296 x) = sgW 2147483648 4294967296 x := by rw [IntKind.wrap_i64]; unfold sgW; split <;> omega
  go_enter Tryz.func100, Tryz.ntmps100
  go_wp2_with fail
  refine (cwide32_any _).mono ?_
  rintro e w1 ⟨rfl, rfl⟩
  go_wp2_with fail
  go_ret
  exact ⟨rfl, rfl⟩

theorem expected32_any (p : Option Addr) (n cap : Nat) (f : Nat → Nat) (w : World) (h : URow32 w p n f) (hn : n ≤ 4096) (hcap : n ≤ cap) (hf : ∀ i, i < n → f i < 4294967296) :
    Calls Tryz.prog 80 #[.slice p n cap] w fun e w' => e = .returned (.int .u32 (exS 4294967296 f n : Nat)) ∧ ∃ m, w' = w.drewN m := by
  match n with
  | 0 =>
    go_enter Tryz.func80, Tryz.ntmps80
    go_wp2_with fail
    go_ret
    exact ⟨rfl, 0, rfl⟩
  | 1 =>
    obtain ⟨b, o, rfl, hc⟩ := h (by omega)
    have c0 : w.cell? ⟨b, o, none⟩ = some (.int .u32 (f 0 : Int)) := hc 0 (by omega)
    have q0 : (((1 : Nat) : Int) == 0) = false := by decide
    have q1 : (((1 : Nat) : Int) == 1) = true := by decide
    go_enter Tryz.func80, Tryz.ntmps80
    go_wp2_with fail
    go_ret
    exact ⟨rfl, 0, rfl⟩
  | k + 2 =>
    obtain ⟨b, o, rfl, hc⟩ := h (by omega)
    obtain ⟨x, hx⟩ : ∃ x, f (k + 1) = x := ⟨_, rfl⟩
    obtain ⟨y, hy⟩ : ∃ y, f k = y := ⟨_, rfl⟩
    have c1 : w.cell? ⟨b, o + (k + 1), none⟩ = some (.int .u32 (x : Int)) := by rw [← hx]; exact hc (k + 1) (by omega)
    have c0 : w.cell? ⟨b, o + k, none⟩ = some (.int .u32 (y : Int)) := by rw [← hy]; exact hc k (by omega)
    have hxM : x < 4294967296 := by rw [← hx]; exact hf _ (by omega)
    have hyM : y < 4294967296 := by rw [← hy]; exact hf _ (by omega)
    have e1 : exS 4294967296 f (k + 2) = (2 * x + 4294967296 - y) % 4294967296 := by rw [exS, hx, hy]
    have e2 : IntKind.u32.wrap (IntKind.u32.wrap (2 * (x : Int)) - (y : Int)) = (((2 * x + 4294967296 - y) % 4294967296 : Nat) : Int) := by
      rw [IntKind.wrap_u32, IntKind.wrap_u32]; omega
    have n0 : (((k : Int) + 2) == 0) = false := by rw [beq_eq_false_iff_ne]; omega
    have n1 : (((k : Int) + 2) == 1) = false := by rw [beq_eq_false_iff_ne]; omega
    rw [e1]
    have HX := hide (And.intro hx hy)
    clear e1 hx hy hc h hf
    go_enter Tryz.func80, Tryz.ntmps80
    go_wp2_with fail
    go_quiet (fail)
    go_wp2_with fail
    go_ret
    exact ⟨by first | (rw [Int.natCast_emod]; rfl) | rfl | (rw [← e2]; rfl), _, rfl⟩

end Go.Proofs.YtleffbpjjbiobaaGreatDoor

/- mix: the number that a row makes of two. -/
import Derived.Test.YtfbkdjghbgdgpabBA
import Derived.Test.YtfbkdjghbgdgpabG
namespace Go.Proofs.Ytfbkdjghbgdgpab
open Go.RowKit
open M
set_option linter.unusedVariables false
set_option linter.unusedSimpArgs false

set_option maxRecDepth 100000 in
set_option maxHeartbeats 2000000 in
theorem mix_any {S S' : Nat → Prop} (v u : Value) (k X m Y P : Nat) (fu fv : Int) (w : World) (h : RowX S w v k X) (h' : RowX S' w u m Y) (hO : Opp fu fv) (hP : fu * X + fv * Y = P) (hPk : P < 4294967296 ^ k) :
    Calls Try.prog 57 #[v, u, .agg #[.int .i64 fu, .int .i64 fv]] w fun e w' => ∃ r, e = .returned r ∧ ∃ n, RowX (w.heap.size ≤ ·) w' r n P ∧ Nrm n P ∧ n ≤ k ∧ Below w.heap.size w w' := by
  obtain ⟨i5, hi5⟩ := info32
  have Hi := hide hi5
  clear hi5
  have HO := hide hO
  have HP := hide hP
  have HPk := hide hPk
  clear hO hP hPk
  obtain ⟨hN, hk, ad, cap, rfl, hc, hcell⟩ := Row.old h.row
  have HX : Hid (RowX (· < w.heap.size) w (.slice ad k cap) k X) := ⟨hN, hk, ad, cap, rfl, hc, hcell⟩
  have HY := hide (Row.old h'.row)
  clear hcell hN h h'
  go_enter Try.func57, Try.ntmps57
  go_wp2_with (at_make; refine wpList_make_row _ rfl _ _ _ rfl 52 i5 (.int .u32 0) Try.underlying26 Hi.out.1 Hi.out.2.1 Hi.out.2.2.1 rfl .i64 .i64 k rfl rfl (by rw [Hi.out.2.2.2]; omega) (by omega) ?_)
  have HF : Hid (Wk ((w.alloc (.cells #[.int .i64 fu, .int .i64 fv] 85)).alloc (.cells (madeCells #[Value.int .u32 0] k) 52)) (w.heap.size + 1) 0 k 0 ∧ Below w.heap.size w ((w.alloc (.cells #[.int .i64 fu, .int .i64 fv] 85)).alloc (.cells (madeCells #[Value.int .u32 0] k) 52)) ∧
      ((w.alloc (.cells #[.int .i64 fu, .int .i64 fv] 85)).alloc (.cells (madeCells #[Value.int .u32 0] k) 52)).cell? ⟨w.heap.size, 0, none⟩ = some (.int .i64 fu) ∧ ((w.alloc (.cells #[.int .i64 fu, .int .i64 fv] 85)).alloc (.cells (madeCells #[Value.int .u32 0] k) 52)).cell? ⟨w.heap.size, 1, none⟩ = some (.int .i64 fv) ∧
      w.heap.size + 1 < ((w.alloc (.cells #[.int .i64 fu, .int .i64 fv] 85)).alloc (.cells (madeCells #[Value.int .u32 0] k) 52)).heap.size) := by
    have hs : (w.alloc (.cells #[.int .i64 fu, .int .i64 fv] 85)).heap.size = w.heap.size + 1 := by simp
    refine ⟨?_, ((Below.refl _ _).alloc (Nat.le_refl _) _).alloc (by rw [hs]; omega) _, by simp, by simp, by simp⟩
    rw [← hs]
    exact wk_of_block (pw_pos _) (make_block _ k)
  generalize (w.alloc (.cells #[.int .i64 fu, .int .i64 fv] 85)).alloc (.cells (madeCells #[Value.int .u32 0] k) 52) = wa at *
  go_loopw [8, 15] (fun t8 t15 wr => ∃ i : Nat, i ≤ k ∧ t8 = .int .i64 (mxC fu fv X Y i) ∧ t15 = .int .i64 i ∧ Hid (Mid wr (w.heap.size + 1) 0 k i 0 P ∧ Only (w.heap.size + 1) 0 k wa wr)) (fun _ t15 _ => k - (intOf t15).toNat)
  case atStart => exact ⟨0, by omega, by rw [mxC_zero], rfl, HF.out.1.mid _, Only.refl _ _ _ _⟩
  case round =>
    obtain ⟨i, hi, rfl, rfl, HM⟩ := hrel
    have HBl : Hid (Below w.heap.size w wr) := HF.out.2.1.trans (HM.out.2.below (by omega) (by have := HF.out.2.2.2.2; omega))
    by_cases hlt : i < k
    · have hlt' : (i : Int) < (k : Int) := by omega
      have HR := hide (HY.out.belowB HBl.out)
      obtain ⟨_, _, ad3, cap3, hv3, _, hcell3⟩ := HX.out.belowB HBl.out
      obtain ⟨g3, o3, ha3, _, hj3⟩ := hcell3 (by omega)
      simp only [Value.slice.injEq] at hv3
      rw [← hv3.1] at ha3
      subst ha3
      have hx := hj3 i hlt
      have h0 : wr.cell? ⟨w.heap.size, 0, none⟩ = some (.int .i64 fu) := (World.cell?_of_block (w := wa) (HM.out.2.block w.heap.size (by have := HF.out.2.2.2.2; omega) (by omega))).trans HF.out.2.2.1
      have h1 : wr.cell? ⟨w.heap.size, 1, none⟩ = some (.int .i64 fv) := (World.cell?_of_block (w := wa) (HM.out.2.block w.heap.size (by have := HF.out.2.2.2.2; omega) (by omega))).trans HF.out.2.2.2.1
      have hwk := HM.out.1.hi i (Nat.le_refl _) hlt
      have hf := HM.out.1.free i hlt
      rw [Nat.zero_add] at hwk hf
      have hxl := dg_le X i
      have hyl := dg_le Y i
      have Hs := hide (mx_step fu fv X Y P i HP.out)
      have hr := mx_room HO.out (dg X i) (dg Y i) hxl hyl _ (mxC_le HO.out X Y i)
      have HL : Hid (∀ n, Calls Try.prog 62 #[u, .int .i64 i] (wr.drewN n) fun e w' => e = .returned (.int .u64 (dg Y i : Nat)) ∧ w' = wr.drewN n) := fun n => limbAt_any u m Y i _ (HR.out.drewN n) (by omega)
      clear hj3 hcell3 hv3
      generalize dg X i = x at *
      generalize dg Y i = y at *
      generalize mxC fu fv X Y i = c at *
      obtain ⟨p, hp⟩ : ∃ p, fu * (x : Int) = p := ⟨_, rfl⟩
      obtain ⟨q, hq⟩ : ∃ q, fv * (y : Int) = q := ⟨_, rfl⟩
      rw [hp, hq] at hr Hs
      obtain ⟨⟨hr1, hr2⟩, ⟨hr3, hr4⟩, ⟨hr5, hr6⟩, hr7, hr8⟩ := hr
      go_wp2_with fail
      go_quiet ((go_at_call 62; exact Calls.quiet_of_same (HL.out _)))
      go_wp2_with fail
      go_roundw
      case rel =>
        refine ⟨i + 1, by omega, by rw [Hs.out.2], by go_num, ?_⟩
        rw [show (⟨w.heap.size + 1, i, none⟩ : Addr) = ⟨w.heap.size + 1, 0 + i, none⟩ from by rw [Nat.zero_add]]
        exact ⟨(HM.out.1.drewN nq).step hlt _ Hs.out.1, (HM.out.2.drewN nq).setCell _ (by omega) (by omega) _⟩
      case measure => simp [intOf]; omega
    · obtain rfl : i = k := by omega
      have HW : Hid (RowX (w.heap.size ≤ ·) wr (.slice (some ⟨w.heap.size + 1, 0, none⟩) i i) i P ∧ Below w.heap.size w wr) :=
        ⟨(HM.out.1.wk HPk.out).row hk (Nat.le_refl _) (by omega) _ (fun _ => rfl), HBl.out⟩
      generalize mxC fu fv X Y i = c at *
      go_wp2_with fail
      refine (trim_any _ i P wr HW.out.1).mono ?_
      rintro e w3 ⟨r, rfl, n, hrow, hnrm, hnk, rfl⟩
      have HZ := hide (And.intro hrow (And.intro hnrm hnk))
      clear hrow hnrm hnk
      go_wp2_with fail
      go_ret
      exact ⟨r, rfl, n, HZ.out.1, HZ.out.2.1, HZ.out.2.2, HW.out.2⟩

end Go.Proofs.Ytfbkdjghbgdgpab

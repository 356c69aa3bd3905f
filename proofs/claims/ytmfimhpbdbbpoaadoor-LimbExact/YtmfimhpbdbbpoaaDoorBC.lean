/- size, rowsOf. -/
import Derived.Test.YtmfimhpbdbbpoaaDoorBB
import Derived.BigRegion
namespace Go.Proofs.YtmfimhpbdbbpoaaDoor
open Go.RowKit
open M
set_option linter.unusedVariables false
set_option linter.unusedSimpArgs false

set_option maxRecDepth 100000 in
set_option maxHeartbeats 1000000 in
theorem size_pos (d : Nat) (w : World) (h : d < 4611686018427387904) :
    Calls Tryd.prog 100 #[.int .i64 d] w fun e w' => e = .returned (.int .i64 d) ∧ w' = w := by
  by_cases h0 : d = 0
  · subst h0
    go_enter Tryd.func100, Tryd.ntmps100
    go_wp2_with fail
    go_ret
    exact ⟨rfl, rfl⟩
  · have h1 : ¬ (d : Int) < -(d : Int) := by omega
    go_enter Tryd.func100, Tryd.ntmps100
    go_wp2_with fail
    go_ret
    exact ⟨rfl, rfl⟩

set_option maxRecDepth 100000 in
set_option maxHeartbeats 1000000 in
theorem size_neg (n : Int) (d : Nat) (w : World) (h : d < 4611686018427387904) (hd : 0 < d) (hn : n = -(d : Int)) :
    Calls Tryd.prog 100 #[.int .i64 n] w fun e w' => e = .returned (.int .i64 d) ∧ w' = w := by
  have hn2 : -n = (d : Int) := by omega
  have h1 : n < (d : Int) := by omega
  have h2 : -9223372036854775808 < n := by omega
  have h3 : n < 0 := by omega
  clear hn
  go_enter Tryd.func100, Tryd.ntmps100
  go_wp2_with fail
  go_ret
  exact ⟨rfl, rfl⟩

theorem size_abs (n : Int) (d : Nat) (w : World) (h : d < 4611686018427387904) (hn : n = d ∨ n = -(d : Int)) :
    Calls Tryd.prog 100 #[.int .i64 n] w fun e w' => e = .returned (.int .i64 d) ∧ w' = w := by
  rcases hn with rfl | hn
  · exact size_pos d w h
  · by_cases hd : d = 0
    · subst hd; simp at hn; subst hn; exact size_pos 0 w h
    · exact size_neg n d w h (by omega) hn

/-- The three rows in memory. -/
structure Trio (n : Nat) (w : World) (fu fv su sv nu nv : Int) : Prop where
  c0 : w.cell? ⟨n, 0, none⟩ = some (.int .i64 fu)
  c1 : w.cell? ⟨n, 1, none⟩ = some (.int .i64 fv)
  c2 : w.cell? ⟨n + 1, 0, none⟩ = some (.int .i64 su)
  c3 : w.cell? ⟨n + 1, 1, none⟩ = some (.int .i64 sv)
  c4 : w.cell? ⟨n + 1 + 1, 0, none⟩ = some (.int .i64 nu)
  c5 : w.cell? ⟨n + 1 + 1, 1, none⟩ = some (.int .i64 nv)
  f0 : w.frozen? ⟨n, 0, none⟩ = false
  f1 : w.frozen? ⟨n, 1, none⟩ = false
  f2 : w.frozen? ⟨n + 1, 0, none⟩ = false
  f3 : w.frozen? ⟨n + 1, 1, none⟩ = false
  f4 : w.frozen? ⟨n + 1 + 1, 0, none⟩ = false
  f5 : w.frozen? ⟨n + 1 + 1, 1, none⟩ = false

theorem Trio.drewN {n : Nat} {w : World} {fu fv su sv nu nv : Int} (h : Trio n w fu fv su sv nu nv) (m : Nat) : Trio n (w.drewN m) fu fv su sv nu nv :=
  ⟨h.c0, h.c1, h.c2, h.c3, h.c4, h.c5, h.f0, h.f1, h.f2, h.f3, h.f4, h.f5⟩

theorem Trio.drew {n : Nat} {w : World} {fu fv su sv nu nv : Int} (h : Trio n w fu fv su sv nu nv) : Trio n w.drew fu fv su sv nu nv :=
  ⟨h.c0, h.c1, h.c2, h.c3, h.c4, h.c5, h.f0, h.f1, h.f2, h.f3, h.f4, h.f5⟩

theorem Trio.set {n : Nat} {w : World} {fu fv su sv nu nv : Int} (h : Trio n w fu fv su sv nu nv) (n1 n2 : Int) :
    Trio n ((((((w.setCell ⟨n, 0, none⟩ (.int .i64 su)).setCell ⟨n, 1, none⟩ (.int .i64 sv)).setCell ⟨n + 1, 0, none⟩ (.int .i64 nu)).setCell ⟨n + 1, 1, none⟩ (.int .i64 nv)).setCell ⟨n + 1 + 1, 0, none⟩ (.int .i64 n1)).setCell ⟨n + 1 + 1, 1, none⟩ (.int .i64 n2)) su sv nu nv n1 n2 := by
  obtain ⟨c0, c1, c2, c3, c4, c5, f0, f1, f2, f3, f4, f5⟩ := h
  have e1 : n ≠ n + 1 := by omega
  have e2 : n ≠ n + 1 + 1 := by omega
  have e3 : n + 1 ≠ n + 1 + 1 := by omega
  have e4 : n + 1 ≠ n := by omega
  have e5 : n + 1 + 1 ≠ n := by omega
  have e6 : n + 1 + 1 ≠ n + 1 := by omega
  refine ⟨?_, ?_, ?_, ?_, ?_, ?_, ?_, ?_, ?_, ?_, ?_, ?_⟩
  · rw [cell_other _ _ _ _ _ _ e2, cell_other _ _ _ _ _ _ e2, cell_other _ _ _ _ _ _ e1, cell_other _ _ _ _ _ _ e1, cell_setCell_ne _ _ _ _ _ (by omega)]
    exact cell_setCell_eq _ _ _ _ _ c0
  · rw [cell_other _ _ _ _ _ _ e2, cell_other _ _ _ _ _ _ e2, cell_other _ _ _ _ _ _ e1, cell_other _ _ _ _ _ _ e1]
    exact cell_setCell_eq _ _ _ _ _ ((cell_setCell_ne _ _ _ _ _ (by omega)).trans c1)
  · rw [cell_other _ _ _ _ _ _ e3, cell_other _ _ _ _ _ _ e3, cell_setCell_ne _ _ _ _ _ (by omega)]
    exact cell_setCell_eq _ _ _ _ _ ((cell_other _ _ _ _ _ _ e4).trans ((cell_other _ _ _ _ _ _ e4).trans c2))
  · rw [cell_other _ _ _ _ _ _ e3, cell_other _ _ _ _ _ _ e3]
    exact cell_setCell_eq _ _ _ _ _ ((cell_setCell_ne _ _ _ _ _ (by omega)).trans ((cell_other _ _ _ _ _ _ e4).trans ((cell_other _ _ _ _ _ _ e4).trans c3)))
  · rw [cell_setCell_ne _ _ _ _ _ (by omega)]
    exact cell_setCell_eq _ _ _ _ _ ((cell_other _ _ _ _ _ _ e6).trans ((cell_other _ _ _ _ _ _ e6).trans ((cell_other _ _ _ _ _ _ e5).trans ((cell_other _ _ _ _ _ _ e5).trans c4))))
  · exact cell_setCell_eq _ _ _ _ _ ((cell_setCell_ne _ _ _ _ _ (by omega)).trans ((cell_other _ _ _ _ _ _ e6).trans ((cell_other _ _ _ _ _ _ e6).trans ((cell_other _ _ _ _ _ _ e5).trans ((cell_other _ _ _ _ _ _ e5).trans c5)))))
  all_goals simp only [frozen_setCell]; assumption

/-- The two rows that are told. -/
structure Duo (n : Nat) (w : World) (fu fv su sv : Int) : Prop where
  c0 : w.cell? ⟨n, 0, none⟩ = some (.int .i64 fu)
  c1 : w.cell? ⟨n, 1, none⟩ = some (.int .i64 fv)
  c2 : w.cell? ⟨n + 1, 0, none⟩ = some (.int .i64 su)
  c3 : w.cell? ⟨n + 1, 1, none⟩ = some (.int .i64 sv)

theorem Trio.put {n : Nat} {w : World} {fu fv su sv nu nv : Int} (h : Trio n w fu fv su sv nu nv) :
    Duo n ((((w.setCell ⟨n, 0, none⟩ (.int .i64 fu)).setCell ⟨n, 1, none⟩ (.int .i64 fv)).setCell ⟨n + 1, 0, none⟩ (.int .i64 su)).setCell ⟨n + 1, 1, none⟩ (.int .i64 sv)) fu fv su sv := by
  obtain ⟨c0, c1, c2, c3, c4, c5, f0, f1, f2, f3, f4, f5⟩ := h
  have e1 : n ≠ n + 1 := by omega
  have e4 : n + 1 ≠ n := by omega
  refine ⟨?_, ?_, ?_, ?_⟩
  · rw [cell_other _ _ _ _ _ _ e1, cell_other _ _ _ _ _ _ e1, cell_setCell_ne _ _ _ _ _ (by omega)]
    exact cell_setCell_eq _ _ _ _ _ c0
  · rw [cell_other _ _ _ _ _ _ e1, cell_other _ _ _ _ _ _ e1]
    exact cell_setCell_eq _ _ _ _ _ ((cell_setCell_ne _ _ _ _ _ (by omega)).trans c1)
  · rw [cell_setCell_ne _ _ _ _ _ (by omega)]
    exact cell_setCell_eq _ _ _ _ _ ((cell_other _ _ _ _ _ _ e4).trans ((cell_other _ _ _ _ _ _ e4).trans c2))
  · exact cell_setCell_eq _ _ _ _ _ ((cell_setCell_ne _ _ _ _ _ (by omega)).trans ((cell_other _ _ _ _ _ _ e4).trans ((cell_other _ _ _ _ _ _ e4).trans c3)))

theorem Duo.drew {n : Nat} {w : World} {fu fv su sv : Int} (h : Duo n w fu fv su sv) : Duo n w.drew fu fv su sv := ⟨h.c0, h.c1, h.c2, h.c3⟩

theorem Lem.below_x {X Y K : Nat} {sg : Int} {a b c d x y : Nat} (h : Lem X Y K sg a b c d x y) (hx : 0 < x) : d ≤ X / K := by
  rw [h.hx]
  have := Nat.le_mul_of_pos_right d hx
  omega

theorem row_next {sg su sv nu nv p1 p2 n1 n2 : Int} {a b c d q : Nat} (hs : sg = 1 ∨ sg = -1) (h1 : su = sg * a) (h2 : sv = -sg * b) (h3 : nu = -sg * c) (h4 : nv = sg * d)
    (hp1 : (q : Int) * nu = p1) (hp2 : (q : Int) * nv = p2) (hn1 : su - p1 = n1) (hn2 : sv - p2 = n2) (hc : a + q * c < 4611686018427387904) (hd : b + q * d < 4611686018427387904) :
    n1 = sg * ((a + q * c : Nat) : Int) ∧ n2 = -sg * ((b + q * d : Nat) : Int) ∧ (-4611686018427387904 < p1 ∧ p1 < 4611686018427387904) ∧ (-4611686018427387904 < p2 ∧ p2 < 4611686018427387904) ∧ (-4611686018427387904 < n1 ∧ n1 < 4611686018427387904) ∧ (-4611686018427387904 < n2 ∧ n2 < 4611686018427387904) := by
  have e1 : ((q * c : Nat) : Int) = (q : Int) * (c : Int) := by simp
  have e2 : ((q * d : Nat) : Int) = (q : Int) * (d : Int) := by simp
  generalize q * c = qc at *
  generalize q * d = qd at *
  rcases hs with rfl | rfl <;> simp only [Int.one_mul, Int.neg_one_mul, Int.neg_neg, Int.neg_mul] at h1 h2 h3 h4 ⊢ <;> subst h1 h2 h3 h4 <;> simp only [Int.mul_neg, ← e1, ← e2] at hp1 hp2 <;> omega

set_option maxRecDepth 100000 in
set_option maxHeartbeats 2000000 in
theorem rowsOf_any (X Y K : Nat) (w : World) (hK : 0 < K) (hX : X / K < 4611686018427387904) (hYX : Y ≤ X) :
    Calls Tryd.prog 94 #[.int .i64 (X / K : Nat), .int .i64 (Y / K : Nat)] w fun e w' => ∃ fu fv su sv : Int, e = .returned (.tuple #[.agg #[.int .i64 fu, .int .i64 fv], .agg #[.int .i64 su, .int .i64 sv]]) ∧ (fv = 0 ∨ Good X Y fu fv su sv) ∧ Below w.heap.size w w' := by
  have HS := hide (Lem.start (X := X) (Y := Y) hK)
  have HX := hide hX
  have hy : Y / K ≤ X / K := Nat.div_le_div_right hYX
  have hx : Hid (∃ x0, X / K = x0) := ⟨_, rfl⟩
  generalize hx0 : X / K = x0 at *
  generalize hy0 : Y / K = y0 at *
  have Hxy := hide (And.intro hx0 hy0)
  clear hx0 hy0 hx
  go_enter Tryd.func94, Tryd.ntmps94
  go_wp2_with fail
  have HT : Hid (Trio w.heap.size (((w.alloc (.cells #[.int .i64 0, .int .i64 0] 100)).alloc (.cells #[.int .i64 1, .int .i64 0] 100)).alloc (.cells #[.int .i64 0, .int .i64 1] 100)) 0 0 1 0 0 1 ∧ Below w.heap.size w (((w.alloc (.cells #[.int .i64 0, .int .i64 0] 100)).alloc (.cells #[.int .i64 1, .int .i64 0] 100)).alloc (.cells #[.int .i64 0, .int .i64 1] 100))) := by
    refine ⟨?_, (((Below.refl _ _).alloc (Nat.le_refl _) _).alloc (by simp) _).alloc (by simp; omega) _⟩
    refine ⟨?_, ?_, ?_, ?_, ?_, ?_, ?_, ?_, ?_, ?_, ?_, ?_⟩ <;> (go_simp; try rfl)
  generalize ((w.alloc (.cells #[.int .i64 0, .int .i64 0] 100)).alloc (.cells #[.int .i64 1, .int .i64 0] 100)).alloc (.cells #[.int .i64 0, .int .i64 1] 100) = wa at *
  go_loopw [0, 1] (fun t0 t1 wr => ∃ (sg : Int) (a b c d x y : Nat) (fu fv su sv nu nv : Int), t0 = .int .i64 x ∧ t1 = .int .i64 y ∧ x < 4611686018427387904 ∧ y ≤ x ∧ d < 4611686018427387904 ∧ Hid (Lem X Y K sg a b c d x y ∧ Trio w.heap.size wr fu fv su sv nu nv ∧ su = sg * a ∧ sv = -sg * b ∧ nu = -sg * c ∧ nv = sg * d ∧ (fv = 0 ∨ Good X Y fu fv su sv) ∧ Below w.heap.size w wr)) (fun _ t1 _ => (intOf t1).toNat)
  case atStart => exact ⟨1, 1, 0, 0, 1, x0, y0, 0, 0, 1, 0, 0, 1, rfl, rfl, hX, hy, by omega, HS.out, HT.out.1, by simp, by simp, by simp, by simp, .inl rfl, HT.out.2⟩
  case round =>
    obtain ⟨sg, a, b, c, d, x, y, fu, fv, su, sv, nu, nv, rfl, rfl, hxl, hyx, hdl, HM⟩ := hrel
    have hbd : b < 4611686018427387904 ∧ d < 4611686018427387904 ∧ 1 ≤ d := by have := HM.out.1.bd; have := HM.out.1.dpos; omega
    have HSz : Hid ((∀ w, Calls Tryd.prog 100 #[.int .i64 nv] w fun e w' => e = .returned (.int .i64 d) ∧ w' = w) ∧ (∀ w, Calls Tryd.prog 100 #[.int .i64 sv] w fun e w' => e = .returned (.int .i64 b) ∧ w' = w)) := by
      have hs := HM.out.1.sgn
      refine ⟨fun w => size_abs nv d w hbd.2.1 ?_, fun w => size_abs sv b w hbd.1 ?_⟩
      · rw [HM.out.2.2.2.2.2.1]; rcases hs with rfl | rfl <;> simp
      · rw [HM.out.2.2.2.1]; rcases hs with rfl | rfl <;> simp
    have c0 := HM.out.2.1.c0
    have c1 := HM.out.2.1.c1
    have c2 := HM.out.2.1.c2
    have c3 := HM.out.2.1.c3
    have c4 := HM.out.2.1.c4
    have c5 := HM.out.2.1.c5
    have f0 := HM.out.2.1.f0
    have f1 := HM.out.2.1.f1
    have f2 := HM.out.2.1.f2
    have f3 := HM.out.2.1.f3
    have f4 := HM.out.2.1.f4
    have f5 := HM.out.2.1.f5
    by_cases h1 : d ≤ y
    · have h1' : (d : Int) ≤ (y : Int) := by omega
      by_cases h2 : y + (b + d) ≤ x
      · have h2' : (b : Int) + (d : Int) ≤ (x : Int) - (y : Int) := by omega
        go_wp2_with fail
        go_quiet ((go_at_call 100; first | exact Calls.quiet_of_same (HSz.out.1 _) | exact Calls.quiet_of_same (HSz.out.2 _)))
        have HN := hide (HM.out.1.next h1 h2)
        have HG : Hid (sv = 0 ∨ Good X Y su sv nu nv) := by
          by_cases hb : b = 0
          · left; rw [HM.out.2.2.2.1, hb]; simp
          · right
            rw [HM.out.2.2.1, HM.out.2.2.2.1, HM.out.2.2.2.2.1, HM.out.2.2.2.2.2.1]
            exact HM.out.1.good h1 h2 (by rw [Hxy.out.1]; exact HX.out) hb
        have hdn := HN.out.below_x (by omega)
        rw [Hxy.out.1] at hdn
        have HT2 : Hid (Trio w.heap.size (wr.drewN nq) fu fv su sv nu nv ∧ Below w.heap.size w (wr.drewN nq)) := ⟨HM.out.2.1.drewN nq, below_drewN HM.out.2.2.2.2.2.2.2 nq⟩
        have hyp : 0 < y := by omega
        obtain ⟨q, hq, hq1, hq2⟩ : ∃ q : Nat, x / y = q ∧ (x : Int) / (y : Int) = (q : Int) ∧ (x : Int).tdiv (y : Int) = (q : Int) := ⟨x / y, rfl, by simp, by rw [Int.tdiv_eq_ediv_of_nonneg (by omega)]; simp⟩
        obtain ⟨r, hr, hr1, hr2⟩ : ∃ r : Nat, x % y = r ∧ (x : Int) % (y : Int) = (r : Int) ∧ (x : Int).tmod (y : Int) = (r : Int) := ⟨x % y, rfl, by simp, by rw [Int.tmod_eq_emod_of_nonneg (by omega)]; simp⟩
        have hql : q ≤ x := by rw [← hq]; exact Nat.div_le_self _ _
        have hrl : r < y := by rw [← hr]; exact Nat.mod_lt _ hyp
        rw [hq, hr] at HN
        rw [hq] at hdn
        have hy0' : ¬ (y : Int) = 0 := by omega
        obtain ⟨p1, hp1⟩ : ∃ p, (q : Int) * nu = p := ⟨_, rfl⟩
        obtain ⟨p2, hp2⟩ : ∃ p, (q : Int) * nv = p := ⟨_, rfl⟩
        obtain ⟨n1, hn1⟩ : ∃ p, su - p1 = p := ⟨_, rfl⟩
        obtain ⟨n2, hn2⟩ : ∃ p, sv - p2 = p := ⟨_, rfl⟩
        have Hn : Hid (n1 = sg * ((a + q * c : Nat) : Int) ∧ n2 = -sg * ((b + q * d : Nat) : Int) ∧ (-4611686018427387904 < p1 ∧ p1 < 4611686018427387904) ∧ (-4611686018427387904 < p2 ∧ p2 < 4611686018427387904) ∧ (-4611686018427387904 < n1 ∧ n1 < 4611686018427387904) ∧ (-4611686018427387904 < n2 ∧ n2 < 4611686018427387904)) :=
          row_next HM.out.1.sgn HM.out.2.2.1 HM.out.2.2.2.1 HM.out.2.2.2.2.1 HM.out.2.2.2.2.2.1 hp1 hp2 hn1 hn2 (by have := HN.out.cd; omega) (by omega)
        obtain ⟨hb1, hb2⟩ := Hn.out.2.2.1
        obtain ⟨hb3, hb4⟩ := Hn.out.2.2.2.1
        obtain ⟨hb5, hb6⟩ := Hn.out.2.2.2.2.1
        obtain ⟨hb7, hb8⟩ := Hn.out.2.2.2.2.2
        clear c0 c1 c2 c3 c4 c5 f0 f1 f2 f3 f4 f5
        generalize wr.drewN nq = wq at *
        have c0 := HT2.out.1.c0
        have c1 := HT2.out.1.c1
        have c2 := HT2.out.1.c2
        have c3 := HT2.out.1.c3
        have c4 := HT2.out.1.c4
        have c5 := HT2.out.1.c5
        have f0 := HT2.out.1.f0
        have f1 := HT2.out.1.f1
        have f2 := HT2.out.1.f2
        have f3 := HT2.out.1.f3
        have f4 := HT2.out.1.f4
        have f5 := HT2.out.1.f5
        clear hq hr
        go_wp2_with fail
        go_quiet (fail)
        go_wp2_with fail
        have HT3 : Hid (Trio w.heap.size (wq.drewN nq) fu fv su sv nu nv ∧ Below w.heap.size w (wq.drewN nq)) := ⟨HT2.out.1.drewN nq, below_drewN HT2.out.2 nq⟩
        clear c0 c1 c2 c3 c4 c5 f0 f1 f2 f3 f4 f5
        generalize wq.drewN nq = ws at *
        have c0 := HT3.out.1.c0
        have c1 := HT3.out.1.c1
        have c2 := HT3.out.1.c2
        have c3 := HT3.out.1.c3
        have c4 := HT3.out.1.c4
        have c5 := HT3.out.1.c5
        have f0 := HT3.out.1.f0
        have f1 := HT3.out.1.f1
        have f2 := HT3.out.1.f2
        have f3 := HT3.out.1.f3
        have f4 := HT3.out.1.f4
        have f5 := HT3.out.1.f5
        go_region
        go_wp2_with fail
        go_roundw
        case rel =>
          exact ⟨-sg, c, d, a + q * c, b + q * d, y, r, su, sv, nu, nv, n1, n2, rfl, rfl, by omega, by omega, by omega, HN.out, (HT3.out.1.set n1 n2).drew, by rw [HM.out.2.2.2.2.1], by rw [HM.out.2.2.2.2.2.1, Int.neg_neg], by rw [Hn.out.1, Int.neg_neg], Hn.out.2.1, HG.out,
            (((((((HT3.out.2.setCell (Nat.le_refl _) _).setCell (Nat.le_refl _) _).setCell (by simp) _).setCell (by simp) _).setCell (by simp; omega) _).setCell (by simp; omega) _)).drew⟩
        case measure => simp [intOf]; omega
      · have h2' : ¬ (b : Int) + (d : Int) ≤ (x : Int) - (y : Int) := by omega
        go_wp2_with fail
        go_quiet ((go_at_call 100; first | exact Calls.quiet_of_same (HSz.out.1 _) | exact Calls.quiet_of_same (HSz.out.2 _)))
        go_wp2_with fail
        have HT2 : Hid (Trio w.heap.size (wr.drewN nq) fu fv su sv nu nv ∧ Below w.heap.size w (wr.drewN nq)) := ⟨HM.out.2.1.drewN nq, below_drewN HM.out.2.2.2.2.2.2.2 nq⟩
        clear c0 c1 c2 c3 c4 c5 f0 f1 f2 f3 f4 f5
        generalize wr.drewN nq = ws at *
        have c0 := HT2.out.1.c0
        have c1 := HT2.out.1.c1
        have c2 := HT2.out.1.c2
        have c3 := HT2.out.1.c3
        have c4 := HT2.out.1.c4
        have c5 := HT2.out.1.c5
        have f0 := HT2.out.1.f0
        have f1 := HT2.out.1.f1
        have f2 := HT2.out.1.f2
        have f3 := HT2.out.1.f3
        have f4 := HT2.out.1.f4
        have f5 := HT2.out.1.f5
        go_region
        go_wp2_with fail
        have HE : Hid (Duo w.heap.size (((((ws.setCell ⟨w.heap.size, 0, none⟩ (.int .i64 fu)).setCell ⟨w.heap.size, 1, none⟩ (.int .i64 fv)).setCell ⟨w.heap.size + 1, 0, none⟩ (.int .i64 su)).setCell ⟨w.heap.size + 1, 1, none⟩ (.int .i64 sv)).drew) fu fv su sv ∧ Below w.heap.size w (((((ws.setCell ⟨w.heap.size, 0, none⟩ (.int .i64 fu)).setCell ⟨w.heap.size, 1, none⟩ (.int .i64 fv)).setCell ⟨w.heap.size + 1, 0, none⟩ (.int .i64 su)).setCell ⟨w.heap.size + 1, 1, none⟩ (.int .i64 sv)).drew)) :=
          ⟨HT2.out.1.put.drew, ((((HT2.out.2.setCell (Nat.le_refl _) _).setCell (Nat.le_refl _) _).setCell (by simp) _).setCell (by simp) _).drew⟩
        clear c0 c1 c2 c3 c4 c5 f0 f1 f2 f3 f4 f5
        generalize ((((ws.setCell ⟨w.heap.size, 0, none⟩ (.int .i64 fu)).setCell ⟨w.heap.size, 1, none⟩ (.int .i64 fv)).setCell ⟨w.heap.size + 1, 0, none⟩ (.int .i64 su)).setCell ⟨w.heap.size + 1, 1, none⟩ (.int .i64 sv)).drew = wz at *
        obtain ⟨c0, c1, c2, c3⟩ := HE.out.1
        refine bodyPost_ret (v := .tuple #[.agg #[.int .i64 fu, .int .i64 fv], .agg #[.int .i64 su, .int .i64 sv]]) (by simp [results, Tryd.results94, go_sem, c0, c1, c2, c3]) rfl ⟨fu, fv, su, sv, rfl, HM.out.2.2.2.2.2.2.1, HE.out.2⟩
    · have h1' : ¬ (d : Int) ≤ (y : Int) := by omega
      go_wp2_with fail
      go_quiet ((go_at_call 100; first | exact Calls.quiet_of_same (HSz.out.1 _) | exact Calls.quiet_of_same (HSz.out.2 _)))
      go_wp2_with fail
      have HT2 : Hid (Trio w.heap.size (wr.drewN nq) fu fv su sv nu nv ∧ Below w.heap.size w (wr.drewN nq)) := ⟨HM.out.2.1.drewN nq, below_drewN HM.out.2.2.2.2.2.2.2 nq⟩
      clear c0 c1 c2 c3 c4 c5 f0 f1 f2 f3 f4 f5
      generalize wr.drewN nq = ws at *
      have c0 := HT2.out.1.c0
      have c1 := HT2.out.1.c1
      have c2 := HT2.out.1.c2
      have c3 := HT2.out.1.c3
      have c4 := HT2.out.1.c4
      have c5 := HT2.out.1.c5
      have f0 := HT2.out.1.f0
      have f1 := HT2.out.1.f1
      have f2 := HT2.out.1.f2
      have f3 := HT2.out.1.f3
      have f4 := HT2.out.1.f4
      have f5 := HT2.out.1.f5
      go_region
      go_wp2_with fail
      have HE : Hid (Duo w.heap.size (((((ws.setCell ⟨w.heap.size, 0, none⟩ (.int .i64 fu)).setCell ⟨w.heap.size, 1, none⟩ (.int .i64 fv)).setCell ⟨w.heap.size + 1, 0, none⟩ (.int .i64 su)).setCell ⟨w.heap.size + 1, 1, none⟩ (.int .i64 sv)).drew) fu fv su sv ∧ Below w.heap.size w (((((ws.setCell ⟨w.heap.size, 0, none⟩ (.int .i64 fu)).setCell ⟨w.heap.size, 1, none⟩ (.int .i64 fv)).setCell ⟨w.heap.size + 1, 0, none⟩ (.int .i64 su)).setCell ⟨w.heap.size + 1, 1, none⟩ (.int .i64 sv)).drew)) :=
        ⟨HT2.out.1.put.drew, ((((HT2.out.2.setCell (Nat.le_refl _) _).setCell (Nat.le_refl _) _).setCell (by simp) _).setCell (by simp) _).drew⟩
      clear c0 c1 c2 c3 c4 c5 f0 f1 f2 f3 f4 f5
      generalize ((((ws.setCell ⟨w.heap.size, 0, none⟩ (.int .i64 fu)).setCell ⟨w.heap.size, 1, none⟩ (.int .i64 fv)).setCell ⟨w.heap.size + 1, 0, none⟩ (.int .i64 su)).setCell ⟨w.heap.size + 1, 1, none⟩ (.int .i64 sv)).drew = wz at *
      obtain ⟨c0, c1, c2, c3⟩ := HE.out.1
      refine bodyPost_ret (v := .tuple #[.agg #[.int .i64 fu, .int .i64 fv], .agg #[.int .i64 su, .int .i64 sv]]) (by simp [results, Tryd.results94, go_sem, c0, c1, c2, c3]) rfl ⟨fu, fv, su, sv, rfl, HM.out.2.2.2.2.2.2.1, HE.out.2⟩

end Go.Proofs.YtmfimhpbdbbpoaaDoor

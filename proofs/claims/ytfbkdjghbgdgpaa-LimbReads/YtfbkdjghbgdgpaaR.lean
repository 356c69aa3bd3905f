/- The laws' helpers: ok, add, sub, mul, EqNat, eq. -/
import Derived.Test.YtfbkdjghbgdgpaaQ
namespace Go.Proofs.Ytfbkdjghbgdgpaa
open Go.RowKit
open M
set_option linter.unusedVariables false
set_option linter.unusedSimpArgs false

set_option maxRecDepth 100000 in
theorem ok_any {v : Value} {N : Nat} {w : World} (h : Num w v N) :
    Calls Try.prog 37 #[v, .int .i64 0] w fun e w' => e = .returned (.tuple #[v, .bool true]) ∧ w' = w := by
  obtain ⟨k, h1, h2, h3⟩ := h
  have HC := hide (check_ok v k N w h1 h2 h3)
  clear h1 h2
  go_enter Try.func37, Try.ntmps37
  go_wp2_with fail
  refine (num_any 0 w).mono ?_
  rintro e w1 ⟨rfl, rfl⟩
  go_wp2_with fail
  refine HC.out.mono ?_
  rintro e w2 ⟨rfl, rfl⟩
  go_wp2_with fail
  refine (num_any 0 _).mono ?_
  rintro e w3 ⟨rfl, rfl⟩
  go_wp2_with fail
  go_ret2
  exact ⟨rfl, rfl⟩

set_option maxRecDepth 100000 in
theorem add_num {v u : Value} {A C : Nat} {w : World} (h : Num w v A) (h' : Num w u C) (hf : Fits (A + C)) :
    Calls Try.prog 17 #[v, u] w fun e w' => ∃ r, e = .returned r ∧ Num w' r (A + C) ∧ Below w.heap.size w w' := by
  have H := hide (And.intro h h')
  have HF := hide hf
  clear h h' hf
  go_enter Try.func17, Try.ntmps17
  go_wp2_with fail
  refine (Add_ok H.out.1 H.out.2).mono ?_
  rintro e w1 ⟨r, c, rfl, ht, hb⟩
  obtain ⟨rfl, n, ho, hn⟩ := ht.ok HF.out
  have H1 := hide (And.intro (ho.num hn HF.out) hb)
  clear ht ho hn hb
  go_wp2_with fail
  refine (ok_any H1.out.1).mono ?_
  rintro e w2 ⟨rfl, rfl⟩
  go_wp2_with fail
  go_ret
  exact ⟨r, rfl, H1.out⟩

set_option maxRecDepth 100000 in
theorem sub_num {v u : Value} {A C : Nat} {w : World} (h : Num w v A) (h' : Num w u C) (hle : C ≤ A) :
    Calls Try.prog 18 #[v, u] w fun e w' => ∃ r, e = .returned r ∧ Num w' r (A - C) ∧ Below w.heap.size w w' := by
  have H := hide (And.intro h h')
  have HF : Hid (Fits (A - C)) := h.fits.le (Nat.sub_le _ _)
  clear h h'
  go_enter Try.func18, Try.ntmps18
  go_wp2_with fail
  refine (Sub_ok H.out.1 H.out.2 hle).mono ?_
  rintro e w1 ⟨r, c, rfl, ht, hb⟩
  obtain ⟨rfl, n, ho, hn⟩ := ht.ok HF.out
  have H1 := hide (And.intro (ho.num hn HF.out) hb)
  clear ht ho hn hb
  go_wp2_with fail
  refine (ok_any H1.out.1).mono ?_
  rintro e w2 ⟨rfl, rfl⟩
  go_wp2_with fail
  go_ret
  exact ⟨r, rfl, H1.out⟩

set_option maxRecDepth 100000 in
theorem mul_num {v u : Value} {A C : Nat} {w : World} (h : Num w v A) (h' : Num w u C) (hf : Fits (A * C)) :
    Calls Try.prog 19 #[v, u] w fun e w' => ∃ r, e = .returned r ∧ Num w' r (A * C) ∧ Below w.heap.size w w' := by
  have H := hide (And.intro h h')
  have HF := hide hf
  clear h h' hf
  go_enter Try.func19, Try.ntmps19
  go_wp2_with fail
  refine (Mul_ok H.out.1 H.out.2).mono ?_
  rintro e w1 ⟨r, c, rfl, ht, hb⟩
  obtain ⟨rfl, n, ho, hn⟩ := ht.ok HF.out
  have H1 := hide (And.intro (ho.num hn HF.out) hb)
  clear ht ho hn hb
  go_wp2_with fail
  refine (ok_any H1.out.1).mono ?_
  rintro e w2 ⟨rfl, rfl⟩
  go_wp2_with fail
  go_ret
  exact ⟨r, rfl, H1.out⟩

set_option maxRecDepth 100000 in
set_option maxHeartbeats 1000000 in
theorem eqNat_any {S S' : Nat → Prop} (v u : Value) (k A m C : Nat) (w : World) (h : RowX S w v k A) (h' : RowX S' w u m C) :
    Calls Try.prog 28 #[v, u] w fun e w' => e = .returned (.bool (decide (k = m ∧ A = C))) ∧ ∃ n, w' = w.drewN n := by
  have HA := hide h.1
  have HC := hide h'.1
  obtain ⟨hN, hk, ad, cap, rfl, hc, hcell⟩ := h
  obtain ⟨hN', hk', ad', cap', rfl, hc', hcell'⟩ := h'
  by_cases hkm : k = m
  · subst hkm
    have H1 := hide hcell
    have H2 := hide hcell'
    clear hN hN' hcell hcell'
    go_enter Try.func28, Try.ntmps28
    go_wp2_with fail
    go_loopw [5] (fun t5 wr => ∃ i : Nat, i ≤ k ∧ t5 = .int .i64 i ∧ Hid ((∀ j, j < i → dg A j = dg C j) ∧ ∃ n, wr = w.drewN n)) (fun t5 _ => k - (intOf t5).toNat)
    case atStart => exact ⟨0, by omega, rfl, fun j hj => by omega, 0, rfl⟩
    case round =>
      obtain ⟨i, hi, rfl, HI⟩ := hrel
      by_cases hlt : i < k
      · have hlt' : (i : Int) < (k : Int) := by omega
        obtain ⟨g, o, rfl, _, hc1⟩ := H1.out (by omega)
        obtain ⟨g', o', rfl, _, hc2⟩ := H2.out (by omega)
        have hx : wr.cell? ⟨g, o + i, none⟩ = some (.int .u32 (dg A i : Nat)) := by obtain ⟨n, rfl⟩ := HI.out.2; exact hc1 i hlt
        have hy : wr.cell? ⟨g', o' + i, none⟩ = some (.int .u32 (dg C i : Nat)) := by obtain ⟨n, rfl⟩ := HI.out.2; exact hc2 i hlt
        have HX : Hid (dg A i = dg C i → ∀ j, j < i + 1 → dg A j = dg C j) := fun e j hj => by
          by_cases ej : j = i
          · subst ej; exact e
          · exact HI.out.1 j (by omega)
        have HY : Hid (dg A i ≠ dg C i → ¬ (k = k ∧ A = C)) := fun h e => h (by rw [e.2])
        clear hc1 hc2
        generalize dg A i = x at *
        generalize dg C i = y at *
        by_cases hxy : x = y
        · subst hxy
          have HQ := hide (HX.out rfl)
          clear HX HY
          go_wp2_with fail
          go_quiet (fail)
          go_wp2_with fail
          refine ⟨⟨i + 1, by omega, by go_num, HQ.out, ?_⟩, by simp [intOf]; omega⟩
          obtain ⟨n, rfl⟩ := HI.out.2
          exact ⟨n + nq, World.drewN_drewN _ _ _⟩
        · have hne : ((x : Int) == (y : Int)) = false := by rw [beq_eq_false_iff_ne]; omega
          have hne2 : ((x : Int) != (y : Int)) = true := by rw [bne_iff_ne]; omega
          have HQ := hide (HY.out hxy)
          clear HX HY
          go_wp2_with fail
          go_quiet (fail)
          go_wp2_with fail
          go_ret
          refine ⟨by rw [decide_eq_false HQ.out]; rfl, ?_⟩
          obtain ⟨n, rfl⟩ := HI.out.2
          exact ⟨n + nq, World.drewN_drewN _ _ _⟩
      · have HQ : Hid (A = C) := ext HA.out HC.out (fun j hj => HI.out.1 j (by omega))
        go_wp2_with fail
        go_ret
        have e := HQ.out
        exact ⟨by simp [e], HI.out.2⟩
  · have hne : ((k : Int) == (m : Int)) = false := by rw [beq_eq_false_iff_ne]; omega
    have hne2 : ((k : Int) != (m : Int)) = true := by rw [bne_iff_ne]; omega
    have HQ : Hid (¬ (k = m ∧ A = C)) := fun e => hkm e.1
    clear hcell hcell' hN hN'
    go_enter Try.func28, Try.ntmps28
    go_wp2_with fail
    go_ret
    exact ⟨by rw [decide_eq_false HQ.out]; rfl, 0, rfl⟩

set_option maxRecDepth 100000 in
set_option maxHeartbeats 1000000 in
theorem eq_num {v u : Value} {A C : Nat} {w : World} (h : Num w v A) (h' : Num w u C) :
    Calls Try.prog 16 #[v, u] w fun e w' => e = .returned (.bool (decide (A = C))) ∧ Below w.heap.size w w' := by
  have HH := hide (And.intro h h')
  obtain ⟨k, h1, h2, h3⟩ := h
  obtain ⟨m, g1, g2, g3⟩ := h'
  have HE := hide (eqNat_any v u k A m C w h1 g1)
  have HN := hide (And.intro h2 g2)
  have HR := hide h1
  by_cases hAC : A = C
  · subst hAC
    obtain rfl : m = k := g2.uniq h2
    have hd : (decide (m = m ∧ A = A)) = true := by simp
    rw [hd] at HE
    rw [decide_eq_true rfl]
    obtain ⟨_, _, ad, cap, rfl, _, hcell⟩ := h1
    have Hcell := hide hcell
    clear g1 h2 g2 hcell hd
    by_cases hm0 : m = 0
    · subst hm0
      go_enter Try.func16, Try.ntmps16
      go_wp2_with fail
      refine HE.out.mono ?_
      rintro e w1 ⟨rfl, n1, rfl⟩
      have hb1 : Hid (Below w.heap.size w (w.drewN n1)) := below_drewN (Below.refl _ _) n1
      have HC := hide (Cmp_ok (HH.out.1.below hb1.out) (HH.out.2.below hb1.out))
      rw [cmpI_eq] at HC
      generalize w.drewN n1 = w1 at *
      go_wp2_with fail
      refine HC.out.mono ?_
      rintro e w2 ⟨rfl, n2, rfl⟩
      go_wp2_with fail
      go_ret
      exact ⟨rfl, below_drewN hb1.out n2⟩
    · obtain ⟨j, rfl⟩ : ∃ j, m = j + 1 := ⟨m - 1, by omega⟩
      obtain ⟨g, o, rfl, _, hj⟩ := Hcell.out (by omega)
      have hx := hj j (by omega)
      have hx0 : dg A j ≠ 0 := HN.out.1.top
      have hjz : (((j + 1 : Nat) : Int) == 0) = false := by rw [beq_eq_false_iff_ne]; omega
      clear hj hm0
      generalize dg A j = x at *
      have hx1 : ((x : Int) == 0) = false := by rw [beq_eq_false_iff_ne]; omega
      have hx2 : ((x : Int) != 0) = true := by rw [bne_iff_ne]; omega
      clear hx0
      go_enter Try.func16, Try.ntmps16
      go_wp2_with fail
      refine HE.out.mono ?_
      rintro e w1 ⟨rfl, n1, rfl⟩
      have hb1 : Hid (Below w.heap.size w (w.drewN n1)) := below_drewN (Below.refl _ _) n1
      have HC := hide (Cmp_ok (HH.out.1.below hb1.out) (HH.out.2.below hb1.out))
      rw [cmpI_eq] at HC
      have hxd : (w.drewN n1).cell? ⟨g, o + j, none⟩ = some (.int .u32 (x : Nat)) := hx
      generalize w.drewN n1 = w1 at *
      go_wp2_with fail
      refine HC.out.mono ?_
      rintro e w2 ⟨rfl, n2, rfl⟩
      go_wp2_with fail
      go_ret
      exact ⟨rfl, below_drewN hb1.out n2⟩
  · have hd : (decide (k = m ∧ A = C)) = false := decide_eq_false (fun e => hAC e.2)
    rw [hd] at HE
    rw [decide_eq_false hAC]
    clear h1 g1 h2 g2 hd
    go_enter Try.func16, Try.ntmps16
    go_wp2_with fail
    refine HE.out.mono ?_
    rintro e w1 ⟨rfl, n1, rfl⟩
    go_wp2_with fail
    go_ret
    exact ⟨rfl, below_drewN (Below.refl _ _) n1⟩

end Go.Proofs.Ytfbkdjghbgdgpaa

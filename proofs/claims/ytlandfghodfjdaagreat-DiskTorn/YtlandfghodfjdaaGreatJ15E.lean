/- The law's tells: the walk. -/
import Derived.Test.YtlandfghodfjdaaGreatJ15D
import Derived.Test.YtlandfghodfjdaaGreatJ12Z
namespace Go.Proofs.YtlandfghodfjdaaGreat
open Go.RowKit
set_option linter.unusedVariables false
set_option linter.unusedSimpArgs false

/-- The cells that a round reads. -/
def Ycells (w' : World) (g o gn i : Nat) (nm : ByteArray) (pu : Option Addr) (N ku : Nat) : Prop := w'.cell? ⟨g, o + i * 2, none⟩ = some (.string nm) ∧ w'.cell? ⟨g, o + i * 2 + 1, none⟩ = some (.slice pu N ku) ∧ w'.cell? ⟨gn, i, none⟩ = some (.string nm)

theorem te_start {B : Nat} {w : World} {S : DS} {v : Value} {ys : List Value} {ns : List ByteArray} (hD : Dk B w 0 S) (hoff : S.off = false) (fin : ∀ y ∈ S.ps.con, okN y.1) (got : FilesGot w v S ys ns) (ap : ∀ k, v.ownBlock = some k → Qo w S k) :
    Calls Tryz.prog 39 #[.pointer (some ⟨S.d, 0, none⟩)] w fun e w2 => ∃ p c, e = .returned (.tuple #[.slice p ns.length c, .int .i64 0]) ∧ TeSt B w w2 S v ys ns w.heap.size (.slice p ns.length c) :=
  (namesOf_any w hD hoff (names_max fin)).mono (by
    rintro e w2 ⟨vn, ns', rfl, ⟨hp, hi⟩, hrow, hap, h1, h2⟩
    have e1 : ns' = ns := order_uniq (hp.trans got.2.2.2.1.symm) hi got.2.2.2.2
    subst e1
    have hs : ∃ p c, vn = .slice p ns'.length c := by
      rcases hrow.2 with ⟨e2, e3⟩ | ⟨g, cap, cur, e2, _⟩
      · exact ⟨none, 0, by rw [e2, e3]⟩
      · exact ⟨_, _, e2⟩
    obtain ⟨p, c, rfl⟩ := hs
    have hrG := got.2.1.fr (w' := w2) (Q' := Qo w2 S) fun k hk => ⟨(hk.fr h2).2, (hk.fr h2).1⟩
    exact ⟨p, c, rfl, h1, hoff, fin, h2, ⟨got.1.kept fun k hk => ((ap k hk).fr h2).2, hrG, hrG.toR, got.2.2.2⟩, fun k hk => ((ap k hk).fr h2).1, hrow, fun k hk => ⟨(hrow.lt k hk).2, hap k hk⟩⟩)

set_option maxRecDepth 100000 in
set_option maxHeartbeats 8000000 in
theorem tells_any {B : Nat} (w : World) (S : DS) (pv : Option Addr) (n cv : Nat) (ys : List Value) (ns : List ByteArray) (hD : Dk B w 0 S) (hoff : S.off = false) (fin : ∀ y ∈ S.ps.con, okN y.1) (got : FilesGot w (.slice pv n cv) S ys ns) (ap : ∀ k, (Value.slice pv n cv).ownBlock = some k → Qo w S k) (hn : n = ns.length) :
    Calls Tryz.prog 17 #[.pointer (some ⟨S.d, 0, none⟩), .slice pv n cv] w fun e w' => e = .returned (.bool true) ∧ Dk B w' 0 S ∧ Fr w (Fp S) w' (Fp S) := by
  have HN : Hid (ns.length = n) := hn.symm
  have hn3 : n ≤ 256 := by
    have h1 := got.2.2.2.1.length_eq
    rw [List.length_map] at h1
    have := hD.ct
    omega
  have HST : Hid (Calls Tryz.prog 39 #[.pointer (some ⟨S.d, 0, none⟩)] w fun e w2 => ∃ p c, e = .returned (.tuple #[.slice p n c, .int .i64 0]) ∧ TeSt B w w2 S (.slice pv n cv) ys ns w.heap.size (.slice p n c)) := by
    have := te_start hD hoff fin got ap
    rw [← hn] at this
    exact this
  clear hD hoff fin got ap hn
  go_enter Tryz.func17, Tryz.ntmps17
  go_wp2_with (first
    | (go_at_call 7; refine (num10_any _ _).mono ?_; rintro e wn ⟨rfl, hwn⟩; have hwn2 := hwn.symm; subst hwn2)
    | (go_at_call 39; refine HST.out.mono ?_; rintro e w2 ⟨pn, cn0, rfl, h1⟩; have HT0 := hide h1; clear h1 HST))
  go_loopw [7] (fun ti wr => ∃ (i : Nat), ti = .int .i64 (i : Int) ∧ i ≤ n ∧ Hid (TeSt B w wr S (.slice pv n cv) ys ns w.heap.size (.slice pn n cn0))) (fun ti _ => n - (intOf ti).toNat)
  case atStart => exact ⟨0, rfl, Nat.zero_le _, HT0.out⟩
  case round =>
    obtain ⟨i, rfl, hi, HT⟩ := hrel
    by_cases hlt : i < n
    · have hlt' : (i : Int) < (n : Int) := by omega
      obtain ⟨x, hx, hok, hsu, hlen, ⟨g, o, cc, ev, pu, ku, hC⟩, ⟨gn, cn, en, hCN⟩⟩ := HT.out.at_ (by rw [HN.out]; exact hlt)
      simp only [Value.slice.injEq] at ev en
      obtain ⟨rfl, -, rfl⟩ := ev
      obtain ⟨rfl, -, rfl⟩ := en
      obtain ⟨N, hN⟩ : ∃ N, x.bs.length = N := ⟨_, rfl⟩
      obtain ⟨nm, hnm⟩ : ∃ nm, x.nm = nm := ⟨_, rfl⟩
      obtain ⟨su, hsue⟩ : ∃ su, x.su = su := ⟨_, rfl⟩
      obtain ⟨bs, hbs⟩ : ∃ bs, x.bs = bs := ⟨_, rfl⟩
      rw [hbs] at hN hC hsu hlen
      rw [hnm] at hC hCN hok
      rw [hsue] at hsu
      rw [hN] at hC hsu hlen
      have HR : Hid (∀ w1, TeSt B w w1 S (.slice (some ⟨g, o, none⟩) n cv) ys ns w.heap.size (.slice (some ⟨gn, 0, none⟩) n cn0) → Calls Tryz.prog 27 #[.pointer (some ⟨S.d, 0, none⟩), .string nm] w1 fun e w2 => ∃ p c, e = .returned (.tuple #[.slice p N c, .int .i64 0]) ∧ TeSt B w w2 S (.slice (some ⟨g, o, none⟩) n cv) ys ns w.heap.size (.slice (some ⟨gn, 0, none⟩) n cn0) ∧ BSt w2 S p N c bs) := fun w1 h1 => by
        have := h1.read hx (by rw [hnm]; exact hok)
        rw [hnm, hbs, hN] at this
        exact this
      have HS : Hid (∀ w1 pb nb cb bb, TeSt B w w1 S (.slice (some ⟨g, o, none⟩) n cv) ys ns w.heap.size (.slice (some ⟨gn, 0, none⟩) n cn0) → BSt w1 S pb nb cb bb → Calls Tryz.prog 40 #[.pointer (some ⟨S.d, 0, none⟩), .string nm] w1 fun e w2 => e = .returned (.tuple #[.int .i64 (N : Int), .int .i64 0]) ∧ TeSt B w w2 S (.slice (some ⟨g, o, none⟩) n cv) ys ns w.heap.size (.slice (some ⟨gn, 0, none⟩) n cn0) ∧ BSt w2 S pb nb cb bb) := fun w1 pb nb cb bb h1 h2 => by
        have := h1.size hx (by rw [hnm]; exact hok) h2
        rw [hnm, hbs, hN] at this
        exact this
      obtain ⟨q, hq⟩ : ∃ q, N / 3 = q := ⟨_, rfl⟩
      have hqm : q ≤ N := by omega
      have hdv : Int.tdiv (N : Int) 3 = (q : Int) := by rw [← hq, Int.tdiv_eq_ediv_of_nonneg (by omega)]; omega
      have hdv2 : (N : Int) / 3 = (q : Int) := by omega
      have HA : Hid (∀ w1 pb nb cb bb, TeSt B w w1 S (.slice (some ⟨g, o, none⟩) n cv) ys ns w.heap.size (.slice (some ⟨gn, 0, none⟩) n cn0) → BSt w1 S pb nb cb bb → Calls Tryz.prog 41 #[.pointer (some ⟨S.d, 0, none⟩), .string nm, .int .i64 (q : Int), .int .i64 ((N : Int) - (q : Int))] w1 fun e w2 => ∃ p c, e = .returned (.tuple #[.slice p (N - q) c, .int .i64 0]) ∧ TeSt B w w2 S (.slice (some ⟨g, o, none⟩) n cv) ys ns w.heap.size (.slice (some ⟨gn, 0, none⟩) n cn0) ∧ BSt w2 S pb nb cb bb ∧ BSt w2 S p (N - q) c (bs.drop q)) := fun w1 pb nb cb bb h1 h2 => by
        have := h1.readAt hx (k := q) (m := N - q) (by rw [hnm]; exact hok) (by rw [hbs, hN]; omega) h2
        rw [hnm, hbs, show ((N - q : Nat) : Int) = (N : Int) - (q : Int) by omega] at this
        exact this
      have HU : Hid (∀ w1 pb nb cb bb pc nc kc cs, TeSt B w w1 S (.slice (some ⟨g, o, none⟩) n cv) ys ns w.heap.size (.slice (some ⟨gn, 0, none⟩) n cn0) → BSt w1 S pb nb cb bb → BSt w1 S pc nc kc cs → Calls Tryz.prog 42 #[.pointer (some ⟨S.d, 0, none⟩), .string nm] w1 fun e w2 => e = .returned (.tuple #[.int .i64 (su : Int), .int .i64 0]) ∧ TeSt B w w2 S (.slice (some ⟨g, o, none⟩) n cv) ys ns w.heap.size (.slice (some ⟨gn, 0, none⟩) n cn0) ∧ BSt w2 S pb nb cb bb ∧ BSt w2 S pc nc kc cs) := fun w1 pb nb cb bb pc nc kc cs h1 h2 h3 => by
        have := h1.sure hx (by rw [hnm]; exact hok) h2 h3
        rw [hnm, hsue] at this
        exact this
      have HC := hide hC
      have HCN := hide hCN
      have HBL := hide hN
      have s1 : ¬ (su : Int) < 0 := by omega
      have s2 : ¬ (N : Int) < (su : Int) := by omega
      clear hC hCN hN hnm hsue hbs hx hok hsu hq
      have z1 : wr.cell? ⟨g, o + i * 2, none⟩ = some (.string nm) := (HC.out wr HT.out).1
      go_upto_region 6 with (first
        | (go_at_call 27; refine (HR.out _ HT.out).mono ?_; rintro e wa ⟨pb, cb, rfl, h1, h2⟩; have HTa := hide h1; have HBa := hide h2; have y1wa : wa.cell? ⟨g, o + i * 2, none⟩ = some (.string nm) := (HC.out wa h1).1; have y2wa : wa.cell? ⟨g, o + i * 2 + 1, none⟩ = some (.slice pu N ku) := (HC.out wa h1).2.1; have y3wa : wa.cell? ⟨gn, i, none⟩ = some (.string nm) := HCN.out wa h1; clear h1 h2 z1)
        | (go_at_call 40; refine (HS.out _ _ _ _ _ HTa.out HBa.out).mono ?_; rintro e wb ⟨rfl, h1, h2⟩; have HTb := hide h1; have HBb := hide h2; have y1wb : wb.cell? ⟨g, o + i * 2, none⟩ = some (.string nm) := (HC.out wb h1).1; have y2wb : wb.cell? ⟨g, o + i * 2 + 1, none⟩ = some (.slice pu N ku) := (HC.out wb h1).2.1; have y3wb : wb.cell? ⟨gn, i, none⟩ = some (.string nm) := HCN.out wb h1; clear h1 h2 y1wa y2wa y3wa)
        | (simp only [hdv])
        | (go_at_call 41; refine (HA.out _ _ _ _ _ HTb.out HBb.out).mono ?_; rintro e wc ⟨pc, kc, rfl, h1, h2, h3⟩; have HTc := hide h1; have HBc := hide h2; have HCc := hide h3; have y1wc : wc.cell? ⟨g, o + i * 2, none⟩ = some (.string nm) := (HC.out wc h1).1; have y2wc : wc.cell? ⟨g, o + i * 2 + 1, none⟩ = some (.slice pu N ku) := (HC.out wc h1).2.1; have y3wc : wc.cell? ⟨gn, i, none⟩ = some (.string nm) := HCN.out wc h1; clear h1 h2 h3 y1wb y2wb y3wb)
        | (go_at_call 42; refine (HU.out _ _ _ _ _ _ _ _ _ HTc.out HBc.out HCc.out).mono ?_; rintro e wd ⟨rfl, h1, h2, h3⟩; have HTd := hide h1; have HBd := hide h2; have HCd := hide h3; have y1wd : wd.cell? ⟨g, o + i * 2, none⟩ = some (.string nm) := (HC.out wd h1).1; have y2wd : wd.cell? ⟨g, o + i * 2 + 1, none⟩ = some (.slice pu N ku) := (HC.out wd h1).2.1; have y3wd : wd.cell? ⟨gn, i, none⟩ = some (.string nm) := HCN.out wd h1; clear h1 h2 h3 y1wc y2wc y3wc))
      obtain ⟨pL, hsL, hcL, _⟩ := cy_from HBd.out.1 q hqm (by omega)
      have hsL' : ∀ w', (Instr.sliceAt 33 (.slice pb N cb) (some (.int .i64 (q : Int))) none none).run Tryz.prog w' = .ok (.slice pL (N - q) (cb - q)) w' := fun w' => by rw [run_sliceAt_slice (P := Tryz.prog) (t := 33) (h := Tryz.underlying33)]; exact hsL w'
      have HE1 : Hid (∀ w', Below wd.heap.size wd w' → Calls Tryz.prog 38 #[.slice pb N cb, .slice pu N ku] w' fun e w2 => e = .returned (.bool true) ∧ Below wd.heap.size wd w2) := fun w' hw => (eq_same _ _ bs w' (isBy_below HBd.out.1.1 hw) (isBy_below (HC.out wd HTd.out).2.2 hw) (by rw [HBL.out]; omega)).mono (by rintro e w2 ⟨rfl, M, rfl⟩; exact ⟨rfl, below_drewN hw M⟩)
      have HE2 : Hid (∀ w', Below wd.heap.size wd w' → Calls Tryz.prog 38 #[.slice pc (N - q) kc, .slice pL (N - q) (cb - q)] w' fun e w2 => e = .returned (.bool true) ∧ Below wd.heap.size wd w2) := fun w' hw => (eq_same _ _ (bs.drop q) w' (isBy_below HCd.out.1.1 hw) (isBy_below hcL.1 hw) (by rw [List.length_drop, HBL.out]; omega)).mono (by rintro e w2 ⟨rfl, M, rfl⟩; exact ⟨rfl, below_drewN hw M⟩)
      clear hcL hdv hdv2 HR HS HA HU HTa HTb HTc HBa HBb HBc
      have HY0 : Hid (Ycells wd.drew g o gn i nm pu N ku) := ⟨y1wd, y2wd, y3wd⟩
      have HYB : Hid (∀ w', Below wd.heap.size wd w' → Ycells w' g o gn i nm pu N ku) := fun w' hb => ⟨(HC.out w' (HTd.out.below hb)).1, (HC.out w' (HTd.out.below hb)).2.1, HCN.out w' (HTd.out.below hb)⟩
      refine wp_region_held_drew (S := fun w' => w'.cell? ⟨g, o + i * 2, none⟩ = some (.string nm) ∧ w'.cell? ⟨g, o + i * 2 + 1, none⟩ = some (.slice pu N ku) ∧ w'.cell? ⟨gn, i, none⟩ = some (.string nm)) (by kernel_rfl) HY0.out (fun hHeld => ?_)
      refine wpAnyH_take (i := 0) (v := ?_) rfl (by kernel_rfl) (by kernel_rfl) (by kernel_rfl) (fun _ _ _ h => h) (Or.inl ⟨by rfl, ?_⟩) hHeld ?_
      rotate_left
      · (intro wq hSw; (try dsimp only at hSw); (try obtain ⟨q0, q1, q2⟩ := hSw); (go_simp <;> with_reducible rfl))
      try simp only [Act.put, List.getElem_toArray, List.getElem_cons_zero, List.getElem_cons_succ, List.setIfInBounds_toArray, List.set_cons_zero, List.set_cons_succ]
      refine wpAnyH_ready (rs := [1]) (by kernel_rfl) (by simp) ?_
      refine AllReadyH.cons rfl (fun K hK => ?_) AllReadyH.nil
      go_simp
      refine (num10_any _ _).mono ?_
      rintro _ _ ⟨rfl, rfl⟩
      refine hK.out _ _ (HY0.out) (fun hHeld => ?_)
      clear hK K
      try simp only [Act.put, List.getElem_toArray, List.getElem_cons_zero, List.getElem_cons_succ, List.setIfInBounds_toArray, List.set_cons_zero, List.set_cons_succ]
      refine wpAnyH_take (i := 2) (v := ?_) rfl (by kernel_rfl) (by kernel_rfl) (by kernel_rfl) (fun _ _ _ h => h) (Or.inl ⟨by rfl, ?_⟩) hHeld ?_
      rotate_left
      · (intro wq hSw; (try dsimp only at hSw); (try obtain ⟨q0, q1, q2⟩ := hSw); (go_simp <;> with_reducible rfl))
      try simp only [Act.put, List.getElem_toArray, List.getElem_cons_zero, List.getElem_cons_succ, List.setIfInBounds_toArray, List.set_cons_zero, List.set_cons_succ]
      refine wpAnyH_take (i := 3) (v := ?_) rfl (by kernel_rfl) (by kernel_rfl) (by kernel_rfl) (fun _ _ _ h => h) (Or.inl ⟨by rfl, ?_⟩) hHeld ?_
      rotate_left
      · (intro wq hSw; (try dsimp only at hSw); (try obtain ⟨q0, q1, q2⟩ := hSw); (go_simp <;> with_reducible rfl))
      try simp only [Act.put, List.getElem_toArray, List.getElem_cons_zero, List.getElem_cons_succ, List.setIfInBounds_toArray, List.set_cons_zero, List.set_cons_succ]
      refine wpAnyH_take (i := 4) (v := ?_) rfl (by kernel_rfl) (by kernel_rfl) (by kernel_rfl) (fun _ _ _ h => h) (Or.inl ⟨by rfl, ?_⟩) hHeld ?_
      rotate_left
      · (intro wq hSw; (try dsimp only at hSw); (try obtain ⟨q0, q1, q2⟩ := hSw); (go_simp <;> with_reducible rfl))
      try simp only [Act.put, List.getElem_toArray, List.getElem_cons_zero, List.getElem_cons_succ, List.setIfInBounds_toArray, List.set_cons_zero, List.set_cons_succ]
      refine wpAnyH_ready (rs := [5]) (by kernel_rfl) (by simp) ?_
      refine AllReadyH.cons rfl (fun K hK => ?_) AllReadyH.nil
      go_simp
      refine (num10_any _ _).mono ?_
      rintro _ _ ⟨rfl, rfl⟩
      refine hK.out _ _ (HY0.out) (fun hHeld => ?_)
      clear hK K
      try simp only [Act.put, List.getElem_toArray, List.getElem_cons_zero, List.getElem_cons_succ, List.setIfInBounds_toArray, List.set_cons_zero, List.set_cons_succ]
      refine wpAnyH_take (i := 6) (v := ?_) rfl (by kernel_rfl) (by kernel_rfl) (by kernel_rfl) (fun _ _ _ h => h) (Or.inl ⟨by rfl, ?_⟩) hHeld ?_
      rotate_left
      · (intro wq hSw; (try dsimp only at hSw); (try obtain ⟨q0, q1, q2⟩ := hSw); (go_simp <;> with_reducible rfl))
      try simp only [Act.put, List.getElem_toArray, List.getElem_cons_zero, List.getElem_cons_succ, List.setIfInBounds_toArray, List.set_cons_zero, List.set_cons_succ]
      refine wpAnyH_take (i := 7) (v := ?_) rfl (by kernel_rfl) (by kernel_rfl) (by kernel_rfl) (fun _ _ _ h => h) (Or.inl ⟨by rfl, ?_⟩) hHeld ?_
      rotate_left
      · (intro wq hSw; (try dsimp only at hSw); (try obtain ⟨q0, q1, q2⟩ := hSw); (go_simp <;> with_reducible rfl))
      try simp only [Act.put, List.getElem_toArray, List.getElem_cons_zero, List.getElem_cons_succ, List.setIfInBounds_toArray, List.set_cons_zero, List.set_cons_succ]
      refine wpAnyH_take (i := 8) (v := ?_) rfl (by kernel_rfl) (by kernel_rfl) (by kernel_rfl) (fun _ _ _ h => h) (Or.inl ⟨by rfl, ?_⟩) hHeld ?_
      rotate_left
      · (intro wq hSw; (try dsimp only at hSw); (try obtain ⟨q0, q1, q2⟩ := hSw); (go_simp <;> with_reducible rfl))
      try simp only [Act.put, List.getElem_toArray, List.getElem_cons_zero, List.getElem_cons_succ, List.setIfInBounds_toArray, List.set_cons_zero, List.set_cons_succ]
      refine wpAnyH_take (i := 9) (v := ?_) rfl (by kernel_rfl) (by kernel_rfl) (by kernel_rfl) (fun _ _ _ h => h) (Or.inl ⟨by rfl, ?_⟩) hHeld ?_
      rotate_left
      · (intro wq hSw; (try dsimp only at hSw); (try obtain ⟨q0, q1, q2⟩ := hSw); (go_simp <;> with_reducible rfl))
      try simp only [Act.put, List.getElem_toArray, List.getElem_cons_zero, List.getElem_cons_succ, List.setIfInBounds_toArray, List.set_cons_zero, List.set_cons_succ]
      refine wpAnyH_ready (rs := [10]) (by kernel_rfl) (by simp) ?_
      refine AllReadyH.cons rfl (fun K hK => ?_) AllReadyH.nil
      go_simp
      refine (num10_any _ _).mono ?_
      rintro _ _ ⟨rfl, rfl⟩
      refine hK.out _ _ (HY0.out) (fun hHeld => ?_)
      clear hK K
      try simp only [Act.put, List.getElem_toArray, List.getElem_cons_zero, List.getElem_cons_succ, List.setIfInBounds_toArray, List.set_cons_zero, List.set_cons_succ]
      refine wpAnyH_take (i := 11) (v := ?_) rfl (by kernel_rfl) (by kernel_rfl) (by kernel_rfl) (fun _ _ _ h => h) (Or.inl ⟨by rfl, ?_⟩) hHeld ?_
      rotate_left
      · (intro wq hSw; (try dsimp only at hSw); (try obtain ⟨q0, q1, q2⟩ := hSw); (go_simp <;> with_reducible rfl))
      try simp only [Act.put, List.getElem_toArray, List.getElem_cons_zero, List.getElem_cons_succ, List.setIfInBounds_toArray, List.set_cons_zero, List.set_cons_succ]
      refine wpAnyH_take (i := 12) (v := ?_) rfl (by kernel_rfl) (by kernel_rfl) (by kernel_rfl) (fun _ _ _ h => h) (Or.inl ⟨by rfl, ?_⟩) hHeld ?_
      rotate_left
      · (intro wq hSw; (try dsimp only at hSw); (try obtain ⟨q0, q1, q2⟩ := hSw); (go_simp <;> with_reducible rfl))
      try simp only [Act.put, List.getElem_toArray, List.getElem_cons_zero, List.getElem_cons_succ, List.setIfInBounds_toArray, List.set_cons_zero, List.set_cons_succ]
      refine wpAnyH_take (i := 13) (v := ?_) rfl (by kernel_rfl) (by kernel_rfl) (by kernel_rfl) (fun _ _ _ h => h) (Or.inl ⟨by rfl, ?_⟩) hHeld ?_
      rotate_left
      · (intro wq hSw; (try dsimp only at hSw); (try obtain ⟨q0, q1, q2⟩ := hSw); (go_simp <;> with_reducible rfl))
      try simp only [Act.put, List.getElem_toArray, List.getElem_cons_zero, List.getElem_cons_succ, List.setIfInBounds_toArray, List.set_cons_zero, List.set_cons_succ]
      refine wpAnyH_take (i := 14) (v := ?_) rfl (by kernel_rfl) (by kernel_rfl) (by kernel_rfl) (fun _ _ _ h => h) (Or.inl ⟨by rfl, ?_⟩) hHeld ?_
      rotate_left
      · (intro wq hSw; (try dsimp only at hSw); (try obtain ⟨q0, q1, q2⟩ := hSw); (go_simp <;> with_reducible rfl))
      try simp only [Act.put, List.getElem_toArray, List.getElem_cons_zero, List.getElem_cons_succ, List.setIfInBounds_toArray, List.set_cons_zero, List.set_cons_succ]
      refine wpAnyH_ready (rs := [15]) (by kernel_rfl) (by simp) ?_
      refine AllReadyH.cons rfl (fun K hK => ?_) AllReadyH.nil
      go_simp
      refine (num10_any _ _).mono ?_
      rintro _ _ ⟨rfl, rfl⟩
      refine hK.out _ _ (HY0.out) (fun hHeld => ?_)
      clear hK K
      try simp only [Act.put, List.getElem_toArray, List.getElem_cons_zero, List.getElem_cons_succ, List.setIfInBounds_toArray, List.set_cons_zero, List.set_cons_succ]
      refine wpAnyH_take (i := 16) (v := ?_) rfl (by kernel_rfl) (by kernel_rfl) (by kernel_rfl) (fun _ _ _ h => h) (Or.inl ⟨by rfl, ?_⟩) hHeld ?_
      rotate_left
      · (intro wq hSw; (try dsimp only at hSw); (try obtain ⟨q0, q1, q2⟩ := hSw); (go_simp <;> with_reducible rfl))
      try simp only [Act.put, List.getElem_toArray, List.getElem_cons_zero, List.getElem_cons_succ, List.setIfInBounds_toArray, List.set_cons_zero, List.set_cons_succ]
      refine wpAnyH_take (i := 17) (v := ?_) rfl (by kernel_rfl) (by kernel_rfl) (by kernel_rfl) (fun _ _ _ h => h) (Or.inl ⟨by rfl, ?_⟩) hHeld ?_
      rotate_left
      · (intro wq hSw; (try dsimp only at hSw); (try obtain ⟨q0, q1, q2⟩ := hSw); (go_simp <;> with_reducible rfl))
      try simp only [Act.put, List.getElem_toArray, List.getElem_cons_zero, List.getElem_cons_succ, List.setIfInBounds_toArray, List.set_cons_zero, List.set_cons_succ]
      refine wpAnyH_take (i := 18) (v := ?_) rfl (by kernel_rfl) (by kernel_rfl) (by kernel_rfl) (fun _ _ _ h => h) (Or.inl ⟨by rfl, ?_⟩) hHeld ?_
      rotate_left
      · (intro wq hSw; (try dsimp only at hSw); (try obtain ⟨q0, q1, q2⟩ := hSw); (go_simp <;> with_reducible rfl))
      try simp only [Act.put, List.getElem_toArray, List.getElem_cons_zero, List.getElem_cons_succ, List.setIfInBounds_toArray, List.set_cons_zero, List.set_cons_succ]
      refine wpAnyH_take (i := 19) (v := ?_) rfl (by kernel_rfl) (by kernel_rfl) (by kernel_rfl) (fun _ _ _ h => h) (Or.inl ⟨by rfl, ?_⟩) hHeld ?_
      rotate_left
      · (intro wq hSw; (try dsimp only at hSw); (try obtain ⟨q0, q1, q2⟩ := hSw); (go_simp <;> with_reducible rfl))
      try simp only [Act.put, List.getElem_toArray, List.getElem_cons_zero, List.getElem_cons_succ, List.setIfInBounds_toArray, List.set_cons_zero, List.set_cons_succ]
      refine wpAnyH_take (i := 20) (v := ?_) rfl (by kernel_rfl) (by kernel_rfl) (by kernel_rfl) (fun _ _ _ h => h) (Or.inl ⟨by rfl, ?_⟩) hHeld ?_
      rotate_left
      · (intro wq hSw; (try dsimp only at hSw); (try obtain ⟨q0, q1, q2⟩ := hSw); (go_simp <;> with_reducible rfl))
      try simp only [Act.put, List.getElem_toArray, List.getElem_cons_zero, List.getElem_cons_succ, List.setIfInBounds_toArray, List.set_cons_zero, List.set_cons_succ]
      refine wpAnyH_take (i := 21) (v := ?_) rfl (by kernel_rfl) (by kernel_rfl) (by kernel_rfl) (fun _ _ _ h => h) (Or.inl ⟨by rfl, ?_⟩) hHeld ?_
      rotate_left
      · (intro wq hSw; (try dsimp only at hSw); (try obtain ⟨q0, q1, q2⟩ := hSw); (go_simp <;> with_reducible rfl))
      try simp only [Act.put, List.getElem_toArray, List.getElem_cons_zero, List.getElem_cons_succ, List.setIfInBounds_toArray, List.set_cons_zero, List.set_cons_succ]
      refine wpAnyH_take (i := 22) (v := ?_) rfl (by kernel_rfl) (by kernel_rfl) (by kernel_rfl) (fun _ _ _ h => h) (Or.inl ⟨by rfl, ?_⟩) hHeld ?_
      rotate_left
      · (intro wq hSw; (try dsimp only at hSw); (try obtain ⟨q0, q1, q2⟩ := hSw); (go_simp <;> with_reducible rfl))
      try simp only [Act.put, List.getElem_toArray, List.getElem_cons_zero, List.getElem_cons_succ, List.setIfInBounds_toArray, List.set_cons_zero, List.set_cons_succ]
      refine wpAnyH_take (i := 23) (v := ?_) rfl (by kernel_rfl) (by kernel_rfl) (by kernel_rfl) (fun _ _ _ h => h) (Or.inl ⟨by rfl, ?_⟩) hHeld ?_
      rotate_left
      · (intro wq hSw; (try dsimp only at hSw); (try obtain ⟨q0, q1, q2⟩ := hSw); (go_simp <;> with_reducible rfl))
      try simp only [Act.put, List.getElem_toArray, List.getElem_cons_zero, List.getElem_cons_succ, List.setIfInBounds_toArray, List.set_cons_zero, List.set_cons_succ]
      refine wpAnyH_take (i := 24) (v := ?_) rfl (by kernel_rfl) (by kernel_rfl) (by kernel_rfl) (fun _ _ _ h => h) (Or.inl ⟨by rfl, ?_⟩) hHeld ?_
      rotate_left
      · (intro wq hSw; (try dsimp only at hSw); (try obtain ⟨q0, q1, q2⟩ := hSw); (go_simp <;> with_reducible rfl))
      try simp only [Act.put, List.getElem_toArray, List.getElem_cons_zero, List.getElem_cons_succ, List.setIfInBounds_toArray, List.set_cons_zero, List.set_cons_succ]
      refine wpAnyH_take (i := 25) (v := ?_) rfl (by kernel_rfl) (by kernel_rfl) (by kernel_rfl) (fun _ _ _ h => h) (Or.inl ⟨by rfl, ?_⟩) hHeld ?_
      rotate_left
      · (intro wq hSw; (try dsimp only at hSw); (try obtain ⟨q0, q1, q2⟩ := hSw); (go_simp <;> with_reducible rfl))
      try simp only [Act.put, List.getElem_toArray, List.getElem_cons_zero, List.getElem_cons_succ, List.setIfInBounds_toArray, List.set_cons_zero, List.set_cons_succ]
      refine wpAnyH_take (i := 26) (v := ?_) rfl (by kernel_rfl) (by kernel_rfl) (by kernel_rfl) (fun _ _ _ h => h) (Or.inl ⟨by rfl, ?_⟩) hHeld ?_
      rotate_left
      · (intro wq hSw; (try dsimp only at hSw); (try obtain ⟨q0, q1, q2⟩ := hSw); (go_simp <;> with_reducible rfl))
      try simp only [Act.put, List.getElem_toArray, List.getElem_cons_zero, List.getElem_cons_succ, List.setIfInBounds_toArray, List.set_cons_zero, List.set_cons_succ]
      refine wpAnyH_take (i := 27) (v := ?_) rfl (by kernel_rfl) (by kernel_rfl) (by kernel_rfl) (fun _ _ _ h => h) (Or.inl ⟨by rfl, ?_⟩) hHeld ?_
      rotate_left
      · (intro wq hSw; (try dsimp only at hSw); (try obtain ⟨q0, q1, q2⟩ := hSw); (go_simp <;> with_reducible rfl))
      try simp only [Act.put, List.getElem_toArray, List.getElem_cons_zero, List.getElem_cons_succ, List.setIfInBounds_toArray, List.set_cons_zero, List.set_cons_succ]
      refine wpAnyH_take (i := 28) (v := ?_) rfl (by kernel_rfl) (by kernel_rfl) (by kernel_rfl) (fun _ _ _ h => h) (Or.inl ⟨by rfl, ?_⟩) hHeld ?_
      rotate_left
      · (intro wq hSw; (try dsimp only at hSw); (try obtain ⟨q0, q1, q2⟩ := hSw); (go_simp <;> with_reducible rfl))
      try simp only [Act.put, List.getElem_toArray, List.getElem_cons_zero, List.getElem_cons_succ, List.setIfInBounds_toArray, List.set_cons_zero, List.set_cons_succ]
      refine wpAnyH_take (i := 29) (v := ?_) rfl (by kernel_rfl) (by kernel_rfl) (by kernel_rfl) (fun _ _ _ h => h) (Or.inl ⟨by rfl, ?_⟩) hHeld ?_
      rotate_left
      · (intro wq hSw; (try dsimp only at hSw); (try obtain ⟨q0, q1, q2⟩ := hSw); (go_simp <;> with_reducible rfl))
      try simp only [Act.put, List.getElem_toArray, List.getElem_cons_zero, List.getElem_cons_succ, List.setIfInBounds_toArray, List.set_cons_zero, List.set_cons_succ]
      refine wpAnyH_take (i := 30) (v := ?_) rfl (by kernel_rfl) (by kernel_rfl) (by kernel_rfl) (fun _ _ _ h => h) (Or.inl ⟨by rfl, ?_⟩) hHeld ?_
      rotate_left
      · (intro wq hSw; (try dsimp only at hSw); (try obtain ⟨q0, q1, q2⟩ := hSw); (go_simp <;> with_reducible rfl))
      try simp only [Act.put, List.getElem_toArray, List.getElem_cons_zero, List.getElem_cons_succ, List.setIfInBounds_toArray, List.set_cons_zero, List.set_cons_succ]
      refine wpAnyH_take (i := 31) (v := ?_) rfl (by kernel_rfl) (by kernel_rfl) (by kernel_rfl) (fun _ _ _ h => h) (Or.inl ⟨by rfl, ?_⟩) hHeld ?_
      rotate_left
      · (intro wq hSw; (try dsimp only at hSw); (try obtain ⟨q0, q1, q2⟩ := hSw); (go_simp <;> with_reducible rfl))
      try simp only [Act.put, List.getElem_toArray, List.getElem_cons_zero, List.getElem_cons_succ, List.setIfInBounds_toArray, List.set_cons_zero, List.set_cons_succ]
      refine wpAnyH_take (i := 32) (v := ?_) rfl (by kernel_rfl) (by kernel_rfl) (by kernel_rfl) (fun _ _ _ h => h) (Or.inl ⟨by rfl, ?_⟩) hHeld ?_
      rotate_left
      · (intro wq hSw; (try dsimp only at hSw); (try obtain ⟨q0, q1, q2⟩ := hSw); (go_simp <;> with_reducible rfl))
      try simp only [Act.put, List.getElem_toArray, List.getElem_cons_zero, List.getElem_cons_succ, List.setIfInBounds_toArray, List.set_cons_zero, List.set_cons_succ]
      refine wpAnyH_take (i := 33) (v := ?_) rfl (by kernel_rfl) (by kernel_rfl) (by kernel_rfl) (fun _ _ _ h => h) (Or.inl ⟨by rfl, ?_⟩) hHeld ?_
      rotate_left
      · (intro wq hSw; (try dsimp only at hSw); (try obtain ⟨q0, q1, q2⟩ := hSw); (go_simp <;> with_reducible rfl))
      try simp only [Act.put, List.getElem_toArray, List.getElem_cons_zero, List.getElem_cons_succ, List.setIfInBounds_toArray, List.set_cons_zero, List.set_cons_succ]
      refine wpAnyH_take (i := 34) (v := ?_) rfl (by kernel_rfl) (by kernel_rfl) (by kernel_rfl) (fun _ _ _ h => h) (Or.inl ⟨by rfl, ?_⟩) hHeld ?_
      rotate_left
      · (intro wq hSw; (try dsimp only at hSw); (try obtain ⟨q0, q1, q2⟩ := hSw); (go_simp <;> with_reducible rfl))
      try simp only [Act.put, List.getElem_toArray, List.getElem_cons_zero, List.getElem_cons_succ, List.setIfInBounds_toArray, List.set_cons_zero, List.set_cons_succ]
      refine wpAnyH_take (i := 35) (v := ?_) rfl (by kernel_rfl) (by kernel_rfl) (by kernel_rfl) (fun _ _ _ h => h) (Or.inl ⟨by rfl, ?_⟩) hHeld ?_
      rotate_left
      · (intro wq hSw; (try dsimp only at hSw); (try obtain ⟨q0, q1, q2⟩ := hSw); (go_simp <;> with_reducible rfl))
      try simp only [Act.put, List.getElem_toArray, List.getElem_cons_zero, List.getElem_cons_succ, List.setIfInBounds_toArray, List.set_cons_zero, List.set_cons_succ]
      refine wpAnyH_take (i := 36) (v := ?_) rfl (by kernel_rfl) (by kernel_rfl) (by kernel_rfl) (fun _ _ _ h => h) (Or.inl ⟨by rfl, ?_⟩) hHeld ?_
      rotate_left
      · (intro wq hSw; (try dsimp only at hSw); (try obtain ⟨q0, q1, q2⟩ := hSw); (go_simp <;> with_reducible rfl))
      try simp only [Act.put, List.getElem_toArray, List.getElem_cons_zero, List.getElem_cons_succ, List.setIfInBounds_toArray, List.set_cons_zero, List.set_cons_succ]
      refine wpAnyH_ready (rs := [37]) (by kernel_rfl) (by simp) ?_
      refine AllReadyH.cons rfl (fun K hK => ?_) AllReadyH.nil
      go_simp
      refine (HE1.out _ (below_drew wd)).mono ?_
      rintro _ we ⟨rfl, h1⟩
      have HB1 := hide h1
      clear h1 HE1
      refine hK.out _ _ (HYB.out we HB1.out) (fun hHeld => ?_)
      clear hK K
      try simp only [Act.put, List.getElem_toArray, List.getElem_cons_zero, List.getElem_cons_succ, List.setIfInBounds_toArray, List.set_cons_zero, List.set_cons_succ]
      refine wpAnyH_take (i := 38) (v := ?_) rfl (by kernel_rfl) (by kernel_rfl) (by kernel_rfl) (fun _ _ _ h => h) (Or.inl ⟨by rfl, ?_⟩) hHeld ?_
      rotate_left
      · (intro wq hSw; (try dsimp only at hSw); (try obtain ⟨q0, q1, q2⟩ := hSw); (go_simp <;> with_reducible rfl))
      try simp only [Act.put, List.getElem_toArray, List.getElem_cons_zero, List.getElem_cons_succ, List.setIfInBounds_toArray, List.set_cons_zero, List.set_cons_succ]
      refine wpAnyH_take (i := 39) (v := ?_) rfl (by kernel_rfl) (by kernel_rfl) (by kernel_rfl) (fun _ _ _ h => h) (Or.inl ⟨by rfl, ?_⟩) hHeld ?_
      rotate_left
      · (intro wq hSw; (try dsimp only at hSw); (try obtain ⟨q0, q1, q2⟩ := hSw); (go_simp <;> with_reducible rfl))
      try simp only [Act.put, List.getElem_toArray, List.getElem_cons_zero, List.getElem_cons_succ, List.setIfInBounds_toArray, List.set_cons_zero, List.set_cons_succ]
      refine wpAnyH_take (i := 40) (v := ?_) rfl (by kernel_rfl) (by kernel_rfl) (by kernel_rfl) (fun _ _ _ h => h) (Or.inl ⟨by rfl, ?_⟩) hHeld ?_
      rotate_left
      · (intro wq hSw; (try dsimp only at hSw); (try obtain ⟨q0, q1, q2⟩ := hSw); (go_simp <;> with_reducible rfl))
      try simp only [Act.put, List.getElem_toArray, List.getElem_cons_zero, List.getElem_cons_succ, List.setIfInBounds_toArray, List.set_cons_zero, List.set_cons_succ]
      refine wpAnyH_take (i := 41) (v := ?_) rfl (by kernel_rfl) (by kernel_rfl) (by kernel_rfl) (fun _ _ _ h => h) (Or.inl ⟨by rfl, ?_⟩) hHeld ?_
      rotate_left
      · (intro wq hSw; (try dsimp only at hSw); (try obtain ⟨q0, q1, q2⟩ := hSw); (go_simp <;> with_reducible rfl))
      try simp only [Act.put, List.getElem_toArray, List.getElem_cons_zero, List.getElem_cons_succ, List.setIfInBounds_toArray, List.set_cons_zero, List.set_cons_succ]
      refine wpAnyH_take (i := 42) (v := ?_) rfl (by kernel_rfl) (by kernel_rfl) (by kernel_rfl) (fun _ _ _ h => h) (Or.inl ⟨by rfl, ?_⟩) hHeld ?_
      rotate_left
      · (intro wq hSw; (try dsimp only at hSw); (try obtain ⟨q0, q1, q2⟩ := hSw); (go_simp <;> with_reducible rfl))
      try simp only [Act.put, List.getElem_toArray, List.getElem_cons_zero, List.getElem_cons_succ, List.setIfInBounds_toArray, List.set_cons_zero, List.set_cons_succ]
      refine wpAnyH_take (i := 43) (v := ?_) rfl (by kernel_rfl) (by kernel_rfl) (by kernel_rfl) (fun _ _ _ h => h) (Or.inl ⟨by rfl, ?_⟩) hHeld ?_
      rotate_left
      · (intro wq hSw; (try dsimp only at hSw); (try obtain ⟨q0, q1, q2⟩ := hSw); (go_simp <;> with_reducible rfl))
      try simp only [Act.put, List.getElem_toArray, List.getElem_cons_zero, List.getElem_cons_succ, List.setIfInBounds_toArray, List.set_cons_zero, List.set_cons_succ]
      refine wpAnyH_take (i := 44) (v := ?_) rfl (by kernel_rfl) (by kernel_rfl) (by kernel_rfl) (fun _ _ _ h => h) (Or.inl ⟨by rfl, ?_⟩) hHeld ?_
      rotate_left
      · (intro wq hSw; (try dsimp only at hSw); (try obtain ⟨q0, q1, q2⟩ := hSw); (go_simp <;> with_reducible rfl))
      try simp only [Act.put, List.getElem_toArray, List.getElem_cons_zero, List.getElem_cons_succ, List.setIfInBounds_toArray, List.set_cons_zero, List.set_cons_succ]
      refine wpAnyH_take (i := 45) (v := ?_) rfl (by kernel_rfl) (by kernel_rfl) (by kernel_rfl) (fun _ _ _ h => h) (Or.inl ⟨by rfl, ?_⟩) hHeld ?_
      rotate_left
      · (intro wq hSw; (try dsimp only at hSw); (try obtain ⟨q0, q1, q2⟩ := hSw); (go_simp <;> with_reducible rfl))
      try simp only [Act.put, List.getElem_toArray, List.getElem_cons_zero, List.getElem_cons_succ, List.setIfInBounds_toArray, List.set_cons_zero, List.set_cons_succ]
      refine wpAnyH_take (i := 46) (v := ?_) rfl (by kernel_rfl) (by kernel_rfl) (by kernel_rfl) (fun _ _ _ h => h) (Or.inl ⟨by rfl, ?_⟩) hHeld ?_
      rotate_left
      · (intro wq hSw; (try dsimp only at hSw); (try obtain ⟨q0, q1, q2⟩ := hSw); (go_simp <;> with_reducible rfl))
      try simp only [Act.put, List.getElem_toArray, List.getElem_cons_zero, List.getElem_cons_succ, List.setIfInBounds_toArray, List.set_cons_zero, List.set_cons_succ]
      refine wpAnyH_take (i := 47) (v := ?_) rfl (by kernel_rfl) (by kernel_rfl) (by kernel_rfl) (fun _ _ _ h => h) (Or.inl ⟨by rfl, ?_⟩) hHeld ?_
      rotate_left
      · (intro wq hSw; (try dsimp only at hSw); (try obtain ⟨q0, q1, q2⟩ := hSw); (go_simp <;> with_reducible rfl))
      try simp only [Act.put, List.getElem_toArray, List.getElem_cons_zero, List.getElem_cons_succ, List.setIfInBounds_toArray, List.set_cons_zero, List.set_cons_succ]
      refine wpAnyH_take (i := 48) (v := ?_) rfl (by kernel_rfl) (by kernel_rfl) (by kernel_rfl) (fun _ _ _ h => h) (Or.inl ⟨by rfl, ?_⟩) hHeld ?_
      rotate_left
      · (intro wq hSw; (try dsimp only at hSw); (try obtain ⟨q0, q1, q2⟩ := hSw); (go_simp <;> with_reducible rfl))
      try simp only [Act.put, List.getElem_toArray, List.getElem_cons_zero, List.getElem_cons_succ, List.setIfInBounds_toArray, List.set_cons_zero, List.set_cons_succ]
      refine wpAnyH_take (i := 49) (v := ?_) rfl (by kernel_rfl) (by kernel_rfl) (by kernel_rfl) (fun _ _ _ h => h) (Or.inl ⟨by rfl, ?_⟩) hHeld ?_
      rotate_left
      · (intro wq hSw; (try dsimp only at hSw); (try obtain ⟨q0, q1, q2⟩ := hSw); (go_simp <;> with_reducible rfl))
      try simp only [Act.put, List.getElem_toArray, List.getElem_cons_zero, List.getElem_cons_succ, List.setIfInBounds_toArray, List.set_cons_zero, List.set_cons_succ]
      refine wpAnyH_take (i := 50) (v := ?_) rfl (by kernel_rfl) (by kernel_rfl) (by kernel_rfl) (fun _ _ _ h => h) (Or.inl ⟨by rfl, ?_⟩) hHeld ?_
      rotate_left
      · (intro wq hSw; (try dsimp only at hSw); (try obtain ⟨q0, q1, q2⟩ := hSw); (try simp only [hsL, hsL']); (go_simp <;> with_reducible rfl))
      try simp only [Act.put, List.getElem_toArray, List.getElem_cons_zero, List.getElem_cons_succ, List.setIfInBounds_toArray, List.set_cons_zero, List.set_cons_succ]
      refine wpAnyH_ready (rs := [51]) (by kernel_rfl) (by simp) ?_
      refine AllReadyH.cons rfl (fun K hK => ?_) AllReadyH.nil
      go_simp
      refine (HE2.out _ HB1.out).mono ?_
      rintro _ wf ⟨rfl, h1⟩
      have HB2 := hide h1
      clear h1 HE2
      refine hK.out _ _ (HYB.out wf HB2.out) (fun hHeld => ?_)
      clear hK K
      try simp only [Act.put, List.getElem_toArray, List.getElem_cons_zero, List.getElem_cons_succ, List.setIfInBounds_toArray, List.set_cons_zero, List.set_cons_succ]
      refine wpAnyH_take (i := 52) (v := ?_) rfl (by kernel_rfl) (by kernel_rfl) (by kernel_rfl) (fun _ _ _ h => h) (Or.inl ⟨by rfl, ?_⟩) hHeld ?_
      rotate_left
      · (intro wq hSw; (try dsimp only at hSw); (try obtain ⟨q0, q1, q2⟩ := hSw); (go_simp <;> with_reducible rfl))
      try simp only [Act.put, List.getElem_toArray, List.getElem_cons_zero, List.getElem_cons_succ, List.setIfInBounds_toArray, List.set_cons_zero, List.set_cons_succ]
      refine wpAnyH_take (i := 53) (v := ?_) rfl (by kernel_rfl) (by kernel_rfl) (by kernel_rfl) (fun _ _ _ h => h) (Or.inl ⟨by rfl, ?_⟩) hHeld ?_
      rotate_left
      · (intro wq hSw; (try dsimp only at hSw); (try obtain ⟨q0, q1, q2⟩ := hSw); (go_simp <;> with_reducible rfl))
      try simp only [Act.put, List.getElem_toArray, List.getElem_cons_zero, List.getElem_cons_succ, List.setIfInBounds_toArray, List.set_cons_zero, List.set_cons_succ]
      refine wpAnyH_take (i := 54) (v := ?_) rfl (by kernel_rfl) (by kernel_rfl) (by kernel_rfl) (fun _ _ _ h => h) (Or.inl ⟨by rfl, ?_⟩) hHeld ?_
      rotate_left
      · (intro wq hSw; (try dsimp only at hSw); (try obtain ⟨q0, q1, q2⟩ := hSw); (go_simp <;> with_reducible rfl))
      try simp only [Act.put, List.getElem_toArray, List.getElem_cons_zero, List.getElem_cons_succ, List.setIfInBounds_toArray, List.set_cons_zero, List.set_cons_succ]
      refine wpAnyH_take (i := 55) (v := ?_) rfl (by kernel_rfl) (by kernel_rfl) (by kernel_rfl) (fun _ _ _ h => h) (Or.inl ⟨by rfl, ?_⟩) hHeld ?_
      rotate_left
      · (intro wq hSw; (try dsimp only at hSw); (try obtain ⟨q0, q1, q2⟩ := hSw); (go_simp <;> with_reducible rfl))
      try simp only [Act.put, List.getElem_toArray, List.getElem_cons_zero, List.getElem_cons_succ, List.setIfInBounds_toArray, List.set_cons_zero, List.set_cons_succ]
      refine wpAnyH_take (i := 56) (v := ?_) rfl (by kernel_rfl) (by kernel_rfl) (by kernel_rfl) (fun _ _ _ h => h) (Or.inl ⟨by rfl, ?_⟩) hHeld ?_
      rotate_left
      · (intro wq hSw; (try dsimp only at hSw); (try obtain ⟨q0, q1, q2⟩ := hSw); (go_simp <;> with_reducible rfl))
      try simp only [Act.put, List.getElem_toArray, List.getElem_cons_zero, List.getElem_cons_succ, List.setIfInBounds_toArray, List.set_cons_zero, List.set_cons_succ]
      refine wpAnyH_take (i := 57) (v := ?_) rfl (by kernel_rfl) (by kernel_rfl) (by kernel_rfl) (fun _ _ _ h => h) (Or.inl ⟨by rfl, ?_⟩) hHeld ?_
      rotate_left
      · (intro wq hSw; (try dsimp only at hSw); (try obtain ⟨q0, q1, q2⟩ := hSw); (go_simp <;> with_reducible rfl))
      try simp only [Act.put, List.getElem_toArray, List.getElem_cons_zero, List.getElem_cons_succ, List.setIfInBounds_toArray, List.set_cons_zero, List.set_cons_succ]
      refine wpAnyH_take (i := 58) (v := ?_) rfl (by kernel_rfl) (by kernel_rfl) (by kernel_rfl) (fun _ _ _ h => h) (Or.inl ⟨by rfl, ?_⟩) hHeld ?_
      rotate_left
      · (intro wq hSw; (try dsimp only at hSw); (try obtain ⟨q0, q1, q2⟩ := hSw); (go_simp <;> with_reducible rfl))
      try simp only [Act.put, List.getElem_toArray, List.getElem_cons_zero, List.getElem_cons_succ, List.setIfInBounds_toArray, List.set_cons_zero, List.set_cons_succ]
      refine wpAnyH_take (i := 59) (v := ?_) rfl (by kernel_rfl) (by kernel_rfl) (by kernel_rfl) (fun _ _ _ h => h) (Or.inl ⟨by rfl, ?_⟩) hHeld ?_
      rotate_left
      · (intro wq hSw; (try dsimp only at hSw); (try obtain ⟨q0, q1, q2⟩ := hSw); (go_simp <;> with_reducible rfl))
      try simp only [Act.put, List.getElem_toArray, List.getElem_cons_zero, List.getElem_cons_succ, List.setIfInBounds_toArray, List.set_cons_zero, List.set_cons_succ]
      refine wpAnyH_take (i := 60) (v := ?_) rfl (by kernel_rfl) (by kernel_rfl) (by kernel_rfl) (fun _ _ _ h => h) (Or.inl ⟨by rfl, ?_⟩) hHeld ?_
      rotate_left
      · (intro wq hSw; (try dsimp only at hSw); (try obtain ⟨q0, q1, q2⟩ := hSw); (go_simp <;> with_reducible rfl))
      try simp only [Act.put, List.getElem_toArray, List.getElem_cons_zero, List.getElem_cons_succ, List.setIfInBounds_toArray, List.set_cons_zero, List.set_cons_succ]
      refine wpAnyH_take (i := 61) (v := ?_) rfl (by kernel_rfl) (by kernel_rfl) (by kernel_rfl) (fun _ _ _ h => h) (Or.inl ⟨by rfl, ?_⟩) hHeld ?_
      rotate_left
      · (intro wq hSw; (try dsimp only at hSw); (try obtain ⟨q0, q1, q2⟩ := hSw); (go_simp <;> with_reducible rfl))
      try simp only [Act.put, List.getElem_toArray, List.getElem_cons_zero, List.getElem_cons_succ, List.setIfInBounds_toArray, List.set_cons_zero, List.set_cons_succ]
      refine wpAnyH_take (i := 62) (v := ?_) rfl (by kernel_rfl) (by kernel_rfl) (by kernel_rfl) (fun _ _ _ h => h) (Or.inl ⟨by rfl, ?_⟩) hHeld ?_
      rotate_left
      · (intro wq hSw; (try dsimp only at hSw); (try obtain ⟨q0, q1, q2⟩ := hSw); (go_simp <;> with_reducible rfl))
      try simp only [Act.put, List.getElem_toArray, List.getElem_cons_zero, List.getElem_cons_succ, List.setIfInBounds_toArray, List.set_cons_zero, List.set_cons_succ]
      refine wpAnyH_done (by kernel_rfl) ?_ _
      go_wp2_with fail
      go_roundw
      case rel => exact ⟨i + 1, by simp, by omega, HTd.out.below HB2.out⟩
      case measure => simp [intOf]; omega
    · have hlt' : ¬ (i : Int) < (n : Int) := by omega
      go_wp2_with fail
      go_ret
      exact ⟨rfl, HT.out.dk, HT.out.fr⟩

end Go.Proofs.YtlandfghodfjdaaGreat

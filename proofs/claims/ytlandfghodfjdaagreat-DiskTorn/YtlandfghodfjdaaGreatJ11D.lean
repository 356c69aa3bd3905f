/- Sync, Cut, whatever is armed; Arm, Off, On. -/
import Derived.Test.YtlandfghodfjdaaGreatJ11B
/- Append, whatever is armed. -/
namespace Go.Proofs.YtlandfghodfjdaaGreat
open Go.RowKit
open Go.MuLone (lock_free unlock_deferred run_callFunc_enter)
set_option linter.unusedVariables false
set_option linter.unusedSimpArgs false

/-- What the writes do, with so many bytes kept. -/
def appF (nm : ByteArray) (bs : List Nat) : Int → Con → Con := fun kp c => Con.app c nm (bs.take kp.toNat)
def syncF (nm : ByteArray) : Int → Con → Con := fun _ c => Con.upd c nm fun q => (q.1, q.1.length)
def cutF (nm : ByteArray) (n : Nat) : Int → Con → Con := fun _ c => Con.upd c nm fun q => (q.1.take n, min q.2 n)

theorem isBy_pre {w : World} {p : Option Addr} {n c : Nat} {bs : List Nat} (h : IsBy w (.slice p n c) bs) (hn : n = bs.length) (k : Nat) (hk : k ≤ n) : IsBy w (.slice p k c) (bs.take k) := by
  obtain ⟨p', cap, e, h1⟩ := by_slice h
  simp only [Value.slice.injEq] at e
  obtain ⟨rfl, _, rfl⟩ := e
  have hl : (bs.take k).length = k := by rw [List.length_take]; omega
  by_cases h0 : k = 0
  · subst h0
    cases p with
    | none =>
      rcases h with (⟨e, _⟩ | ⟨g, o, cap, e, _⟩) | ⟨ad, cap, e, _⟩
      · simp only [Value.slice.injEq] at e
        obtain ⟨_, _, rfl⟩ := e
        exact .inl (.inl ⟨rfl, by simp⟩)
      · simp at e
      · simp at e
    | some ad => exact .inr ⟨ad, c, rfl, by simp⟩
  · obtain ⟨b, o, e1, _⟩ := h1 0 (by omega)
    subst e1
    refine .inl (.inr ⟨b, o, c, by rw [hl], fun i hi => ?_⟩)
    rw [hl] at hi
    obtain ⟨b', o', e2, hc⟩ := h1 i (by omega)
    simp only [Option.some.injEq, Addr.mk.injEq] at e2
    obtain ⟨rfl, rfl, _⟩ := e2
    rw [hc]
    have e : (bs.take k).getD i 0 = bs.getD i 0 := by simp only [List.getD_eq_getElem?_getD]; rw [List.getElem?_take, if_pos (by omega)]
    rw [e]

set_option maxRecDepth 100000 in
set_option maxHeartbeats 1000000 in
theorem appendG_any {B : Nat} {S : DS} {lk : Int} (w : World) (h : Dk B w lk S) (kp : Int) (hk0 : 0 < kp) (hk1 : kp ≤ 9223372036854775807) (nm : ByteArray) (hs : nm.size ≤ 1000) (hc : (∃ x ∈ S.L, x.nm = nm) ∨ ((∀ x ∈ S.L, x.nm ≠ nm) ∧ S.L.length < 256)) (p : Option Addr) (n cb : Nat) (bs : List Nat) (hnb : n = bs.length) (hn0 : n ≤ 1000000000) (hnc : n ≤ cb) (hp : p = none → cb = 0) (hb : IsBy w (.slice p n cb) bs) (hbb : ∀ n ∈ bs, n < 256) (hr : tot S.L + bs.length ≤ S.room) (g1 g2 g3 : Nat) (n1 : ¬ Fp S g1) (n2 : ¬ Fp S g2) (n3 : ¬ Fp S g3)
    (c1 : w.cell? ⟨g1, 0, none⟩ = some (.pointer (some ⟨S.d, 0, none⟩))) (c2 : w.cell? ⟨g2, 0, none⟩ = some (.string nm)) (c3 : w.cell? ⟨g3, 0, none⟩ = some (.slice p n cb)) :
    Calls Tryz.prog 50 #[.int .i64 kp, .pointer (some ⟨g1, 0, none⟩), .pointer (some ⟨g2, 0, none⟩), .pointer (some ⟨g3, 0, none⟩)] w fun e w' => e = .returned (.tuple #[]) ∧ ∃ S' : DS, S'.d = S.d ∧ S'.ps = { S.ps with con := Con.app S.ps.con nm (bs.take kp.toNat) } ∧ Dk B w' lk S' ∧ Fr w (Fp S) w' (Fp S') := by
  obtain ⟨m, hm⟩ : ∃ m, m = min kp.toNat n := ⟨_, rfl⟩
  have hml : (bs.take kp.toNat).length = m := by rw [List.length_take]; omega
  have hmt : bs.take kp.toNat = bs.take m := by rw [hm]; exact (List.take_eq_take_iff).2 (by omega)
  have HL : Hid (Calls Tryz.prog 45 #[.pointer (some ⟨S.d, 0, none⟩), .string nm, .slice p m cb] w.drew fun e w' => e = .returned (.tuple #[]) ∧ ∃ S' : DS, S'.d = S.d ∧ S'.ps = { S.ps with con := Con.app S.ps.con nm (bs.take kp.toNat) } ∧ Dk B w' lk S' ∧ Fr w.drew (Fp S) w' (Fp S')) := lay_any w.drew h.drew nm hs hc (.slice p m cb) (bs.take kp.toNat) (by rw [hmt]; exact isBy_pre (isBy_heap hb rfl) hnb m (by omega)) (fun n hn => hbb n (List.mem_of_mem_take hn)) (by rw [hml]; omega)
  have d1 : w.drew.cell? ⟨g1, 0, none⟩ = some (.pointer (some ⟨S.d, 0, none⟩)) := c1
  have d2 : w.drew.cell? ⟨g2, 0, none⟩ = some (.string nm) := c2
  have d3 : w.drew.cell? ⟨g3, 0, none⟩ = some (.slice p n cb) := c3
  have hmc : m ≤ cb := by omega
  have hmn : m ≤ n := by omega
  have hmi : (if (n : Int) < kp then (n : Int) else kp) = (m : Int) ∧ min kp (n : Int) = (m : Int) := by constructor; (split <;> omega); omega
  clear h hb hbb hr hc hnb hml hmt hm
  go_enter Tryz.func50, Tryz.ntmps50
  rcases p with _ | ad
  · obtain rfl := hp rfl
    obtain rfl : n = 0 := by omega
    obtain rfl : m = 0 := by omega
    have hmin : min kp (0 : Int) = 0 := hmi.2
    have hif : (if ((0 : Nat) : Int) < kp then ((0 : Nat) : Int) else kp) = 0 := hmi.1
    have hif1 : (if (0 : Int) < kp then (0 : Int) else kp) = 0 := hmi.1
    clear hmi
    refine wp_region_held_drew (S := fun w' => w'.cell? ⟨g1, 0, none⟩ = some (.pointer (some ⟨S.d, 0, none⟩)) ∧ w'.cell? ⟨g2, 0, none⟩ = some (.string nm) ∧ w'.cell? ⟨g3, 0, none⟩ = some (.slice none 0 0)) (by kernel_rfl) ⟨d1, d2, d3⟩ (fun hHeld => ?_)
    refine wpAnyH_take (i := 0) (v := ?_) rfl (by kernel_rfl) (by kernel_rfl) (by kernel_rfl) (fun _ _ _ h => h) (Or.inl ⟨by rfl, ?_⟩) hHeld ?_
    rotate_left
    · (intro wq hSw; (try dsimp only at hSw); (try obtain ⟨s0, s1, s2⟩ := hSw); (go_simp <;> with_reducible rfl))
    try simp only [Act.put, List.getElem_toArray, List.getElem_cons_zero, List.getElem_cons_succ, List.setIfInBounds_toArray, List.set_cons_zero, List.set_cons_succ]
    refine wpAnyH_take (i := 1) (v := ?_) rfl (by kernel_rfl) (by kernel_rfl) (by kernel_rfl) (fun _ _ _ h => h) (Or.inl ⟨by rfl, ?_⟩) hHeld ?_
    rotate_left
    · (intro wq hSw; (try dsimp only at hSw); (try obtain ⟨s0, s1, s2⟩ := hSw); (go_simp <;> with_reducible rfl))
    try simp only [Act.put, List.getElem_toArray, List.getElem_cons_zero, List.getElem_cons_succ, List.setIfInBounds_toArray, List.set_cons_zero, List.set_cons_succ]
    refine wpAnyH_take (i := 2) (v := ?_) rfl (by kernel_rfl) (by kernel_rfl) (by kernel_rfl) (fun _ _ _ h => h) (Or.inl ⟨by rfl, ?_⟩) hHeld ?_
    rotate_left
    · (intro wq hSw; (try dsimp only at hSw); (try obtain ⟨s0, s1, s2⟩ := hSw); (go_simp <;> with_reducible rfl))
    try simp only [Act.put, List.getElem_toArray, List.getElem_cons_zero, List.getElem_cons_succ, List.setIfInBounds_toArray, List.set_cons_zero, List.set_cons_succ]
    refine wpAnyH_take (i := 3) (v := ?_) rfl (by kernel_rfl) (by kernel_rfl) (by kernel_rfl) (fun _ _ _ h => h) (Or.inl ⟨by rfl, ?_⟩) hHeld ?_
    rotate_left
    · (intro wq hSw; (try dsimp only at hSw); (try obtain ⟨s0, s1, s2⟩ := hSw); (go_simp <;> with_reducible rfl))
    try simp only [Act.put, List.getElem_toArray, List.getElem_cons_zero, List.getElem_cons_succ, List.setIfInBounds_toArray, List.set_cons_zero, List.set_cons_succ]
    refine wpAnyH_take (i := 4) (v := ?_) rfl (by kernel_rfl) (by kernel_rfl) (by kernel_rfl) (fun _ _ _ h => h) (Or.inl ⟨by rfl, ?_⟩) hHeld ?_
    rotate_left
    · (intro wq hSw; (try dsimp only at hSw); (try obtain ⟨s0, s1, s2⟩ := hSw); (go_simp <;> with_reducible rfl))
    try simp only [Act.put, List.getElem_toArray, List.getElem_cons_zero, List.getElem_cons_succ, List.setIfInBounds_toArray, List.set_cons_zero, List.set_cons_succ]
    refine wpAnyH_take (i := 5) (v := ?_) rfl (by kernel_rfl) (by kernel_rfl) (by kernel_rfl) (fun _ _ _ h => h) (Or.inl ⟨by rfl, ?_⟩) hHeld ?_
    rotate_left
    · (intro wq hSw; (try dsimp only at hSw); (try obtain ⟨s0, s1, s2⟩ := hSw); (go_simp <;> with_reducible rfl))
    try simp only [Act.put, List.getElem_toArray, List.getElem_cons_zero, List.getElem_cons_succ, List.setIfInBounds_toArray, List.set_cons_zero, List.set_cons_succ]
    refine wpAnyH_take (i := 6) (v := ?_) rfl (by kernel_rfl) (by kernel_rfl) (by kernel_rfl) (fun _ _ _ h => h) (Or.inl ⟨by rfl, ?_⟩) hHeld ?_
    rotate_left
    · (intro wq hSw; (try dsimp only at hSw); (try obtain ⟨s0, s1, s2⟩ := hSw); (go_simp <;> with_reducible rfl))
    try simp only [Act.put, List.getElem_toArray, List.getElem_cons_zero, List.getElem_cons_succ, List.setIfInBounds_toArray, List.set_cons_zero, List.set_cons_succ]
    refine wpAnyH_take (i := 7) (v := ?_) rfl (by kernel_rfl) (by kernel_rfl) (by kernel_rfl) (fun _ _ _ h => h) (Or.inl ⟨by rfl, ?_⟩) hHeld ?_
    rotate_left
    · (intro wq hSw; (try dsimp only at hSw); (try obtain ⟨s0, s1, s2⟩ := hSw); (go_simp <;> with_reducible rfl))
    try simp only [Act.put, List.getElem_toArray, List.getElem_cons_zero, List.getElem_cons_succ, List.setIfInBounds_toArray, List.set_cons_zero, List.set_cons_succ]
    refine wpAnyH_ready (rs := [8]) (by kernel_rfl) (by simp) ?_
    refine AllReadyH.cons rfl (fun K hK => ?_) AllReadyH.nil
    go_simp
    refine HL.out.mono ?_
    rintro _ w1 ⟨rfl, hR⟩
    have HR2 := hide hR
    clear hR
    refine hK.out _ _ (by obtain ⟨S1, e1, e2, e3, e4⟩ := HR2.out; exact ⟨e4.cell n1 d1, e4.cell n2 d2, e4.cell n3 d3⟩) (fun hHeld => ?_)
    clear hK K
    try simp only [Act.put, List.getElem_toArray, List.getElem_cons_zero, List.getElem_cons_succ, List.setIfInBounds_toArray, List.set_cons_zero, List.set_cons_succ]
    refine wpAnyH_done (by kernel_rfl) ?_ _
    go_end0
    obtain ⟨S', e1, e2, e3, e4⟩ := HR2.out
    exact ⟨rfl, S', e1, e2, e3, e4.drew⟩
  · have hnc' : (m : Int) ≤ (cb : Int) := by omega
    have hmin := hmi.2
    have hif := hmi.1
    clear hmi
    refine wp_region_held_drew (S := fun w' => w'.cell? ⟨g1, 0, none⟩ = some (.pointer (some ⟨S.d, 0, none⟩)) ∧ w'.cell? ⟨g2, 0, none⟩ = some (.string nm) ∧ w'.cell? ⟨g3, 0, none⟩ = some (.slice (some ad) n cb)) (by kernel_rfl) ⟨d1, d2, d3⟩ (fun hHeld => ?_)
    refine wpAnyH_take (i := 0) (v := ?_) rfl (by kernel_rfl) (by kernel_rfl) (by kernel_rfl) (fun _ _ _ h => h) (Or.inl ⟨by rfl, ?_⟩) hHeld ?_
    rotate_left
    · (intro wq hSw; (try dsimp only at hSw); (try obtain ⟨s0, s1, s2⟩ := hSw); (go_simp <;> with_reducible rfl))
    try simp only [Act.put, List.getElem_toArray, List.getElem_cons_zero, List.getElem_cons_succ, List.setIfInBounds_toArray, List.set_cons_zero, List.set_cons_succ]
    refine wpAnyH_take (i := 1) (v := ?_) rfl (by kernel_rfl) (by kernel_rfl) (by kernel_rfl) (fun _ _ _ h => h) (Or.inl ⟨by rfl, ?_⟩) hHeld ?_
    rotate_left
    · (intro wq hSw; (try dsimp only at hSw); (try obtain ⟨s0, s1, s2⟩ := hSw); (go_simp <;> with_reducible rfl))
    try simp only [Act.put, List.getElem_toArray, List.getElem_cons_zero, List.getElem_cons_succ, List.setIfInBounds_toArray, List.set_cons_zero, List.set_cons_succ]
    refine wpAnyH_take (i := 2) (v := ?_) rfl (by kernel_rfl) (by kernel_rfl) (by kernel_rfl) (fun _ _ _ h => h) (Or.inl ⟨by rfl, ?_⟩) hHeld ?_
    rotate_left
    · (intro wq hSw; (try dsimp only at hSw); (try obtain ⟨s0, s1, s2⟩ := hSw); (go_simp <;> with_reducible rfl))
    try simp only [Act.put, List.getElem_toArray, List.getElem_cons_zero, List.getElem_cons_succ, List.setIfInBounds_toArray, List.set_cons_zero, List.set_cons_succ]
    refine wpAnyH_take (i := 3) (v := ?_) rfl (by kernel_rfl) (by kernel_rfl) (by kernel_rfl) (fun _ _ _ h => h) (Or.inl ⟨by rfl, ?_⟩) hHeld ?_
    rotate_left
    · (intro wq hSw; (try dsimp only at hSw); (try obtain ⟨s0, s1, s2⟩ := hSw); (go_simp <;> with_reducible rfl))
    try simp only [Act.put, List.getElem_toArray, List.getElem_cons_zero, List.getElem_cons_succ, List.setIfInBounds_toArray, List.set_cons_zero, List.set_cons_succ]
    refine wpAnyH_take (i := 4) (v := ?_) rfl (by kernel_rfl) (by kernel_rfl) (by kernel_rfl) (fun _ _ _ h => h) (Or.inl ⟨by rfl, ?_⟩) hHeld ?_
    rotate_left
    · (intro wq hSw; (try dsimp only at hSw); (try obtain ⟨s0, s1, s2⟩ := hSw); (go_simp <;> with_reducible rfl))
    try simp only [Act.put, List.getElem_toArray, List.getElem_cons_zero, List.getElem_cons_succ, List.setIfInBounds_toArray, List.set_cons_zero, List.set_cons_succ]
    refine wpAnyH_take (i := 5) (v := ?_) rfl (by kernel_rfl) (by kernel_rfl) (by kernel_rfl) (fun _ _ _ h => h) (Or.inl ⟨by rfl, ?_⟩) hHeld ?_
    rotate_left
    · (intro wq hSw; (try dsimp only at hSw); (try obtain ⟨s0, s1, s2⟩ := hSw); (go_simp <;> with_reducible rfl))
    try simp only [Act.put, List.getElem_toArray, List.getElem_cons_zero, List.getElem_cons_succ, List.setIfInBounds_toArray, List.set_cons_zero, List.set_cons_succ]
    refine wpAnyH_take (i := 6) (v := ?_) rfl (by kernel_rfl) (by kernel_rfl) (by kernel_rfl) (fun _ _ _ h => h) (Or.inl ⟨by rfl, ?_⟩) hHeld ?_
    rotate_left
    · (intro wq hSw; (try dsimp only at hSw); (try obtain ⟨s0, s1, s2⟩ := hSw); (go_simp <;> with_reducible rfl))
    try simp only [Act.put, List.getElem_toArray, List.getElem_cons_zero, List.getElem_cons_succ, List.setIfInBounds_toArray, List.set_cons_zero, List.set_cons_succ]
    refine wpAnyH_take (i := 7) (v := ?_) rfl (by kernel_rfl) (by kernel_rfl) (by kernel_rfl) (fun _ _ _ h => h) (Or.inl ⟨by rfl, ?_⟩) hHeld ?_
    rotate_left
    · (intro wq hSw; (try dsimp only at hSw); (try obtain ⟨s0, s1, s2⟩ := hSw); (go_simp <;> with_reducible rfl))
    try simp only [Act.put, List.getElem_toArray, List.getElem_cons_zero, List.getElem_cons_succ, List.setIfInBounds_toArray, List.set_cons_zero, List.set_cons_succ]
    refine wpAnyH_ready (rs := [8]) (by kernel_rfl) (by simp) ?_
    refine AllReadyH.cons rfl (fun K hK => ?_) AllReadyH.nil
    go_simp
    refine HL.out.mono ?_
    rintro _ w1 ⟨rfl, hR⟩
    have HR2 := hide hR
    clear hR
    refine hK.out _ _ (by obtain ⟨S1, e1, e2, e3, e4⟩ := HR2.out; exact ⟨e4.cell n1 d1, e4.cell n2 d2, e4.cell n3 d3⟩) (fun hHeld => ?_)
    clear hK K
    try simp only [Act.put, List.getElem_toArray, List.getElem_cons_zero, List.getElem_cons_succ, List.setIfInBounds_toArray, List.set_cons_zero, List.set_cons_succ]
    refine wpAnyH_done (by kernel_rfl) ?_ _
    go_end0
    obtain ⟨S', e1, e2, e3, e4⟩ := HR2.out
    exact ⟨rfl, S', e1, e2, e3, e4.drew⟩

/-- Append of bytes that have room, by a disk that is on whatever is armed. -/
theorem append_any {B : Nat} {S : DS} (w : World) (h : Dk B w 0 S) (hoff : S.off = false) (hA : S.ps.arms) (hwr : S.wr ≤ 1000000000) (nm : ByteArray) (hs : okN nm) (hc : (∃ x ∈ S.L, x.nm = nm) ∨ ((∀ x ∈ S.L, x.nm ≠ nm) ∧ S.L.length < 256)) (p : Option Addr) (n cb : Nat) (bs : List Nat) (hnb : n = bs.length) (hnc : n ≤ cb) (hp : p = none → cb = 0) (hb : IsBy w (.slice p n cb) bs) (hfb : ∀ k, (Value.slice p n cb).ownBlock = some k → ¬ Fp S k) (hbb : ∀ n ∈ bs, n < 256) (hr : tot S.L + bs.length ≤ S.room) :
    Calls Tryz.prog 24 #[.pointer (some ⟨S.d, 0, none⟩), .string nm, .slice p n cb] w fun e w' => e = .returned (.int .i64 S.ps.code) ∧ ∃ S' : DS, S'.d = S.d ∧ S'.ps = S.ps.wrote (appF nm bs) ∧ Dk B w' 0 S' ∧ Fr w (Fp S) w' (Fp S') := by
  have hmf : ∀ (fn : Fn) (first cap : Array Value) (w : World), (Instr.makeFunc fn first cap).run Tryz.prog w = .ok (.func fn first cap) w := fun _ _ _ _ => rfl
  have HE := hide (enter_append h nm p n cb bs hb hfb)
  have HS := hide hs
  have HC := hide hc
  have HW : Hid (∀ w4, (Dk B w4 1 S ∧ Fr w (Fp S) w4 (Fp S) ∧ IsBy w4 (.slice p n cb) bs ∧ (w4.cell? ⟨w.heap.size, 0, none⟩ = some (.pointer (some ⟨S.d, 0, none⟩)) ∧ w4.cell? ⟨w.heap.size + 1, 0, none⟩ = some (.string nm) ∧ w4.cell? ⟨w.heap.size + 2, 0, none⟩ = some (.slice p n cb))) → Calls Tryz.prog 49 #[.pointer (some ⟨S.d, 0, none⟩), .func (.func 50) #[] #[.pointer (some ⟨w.heap.size, 0, none⟩), .pointer (some ⟨w.heap.size + 1, 0, none⟩), .pointer (some ⟨w.heap.size + 2, 0, none⟩)]] w4 fun e w' => e = .returned (.int .i64 S.ps.code) ∧ ∃ S' : DS, S'.d = S.d ∧ S'.ps = S.ps.wrote (appF nm bs) ∧ Dk B w' 1 S' ∧ Fr w (Fp S) w' (Fp S')) := fun w4 H4 => by
    have hn := fun k (hk : w.heap.size ≤ k) => fp_new h k hk
    refine (write_any (f := appF nm bs) H4.1 hA hwr (fun args w => run_callFunc_enter Tryz.func50 (by kernel_rfl) rfl args w) (fun kp a b w1 k1 k2 k3 k4 => ?_)).mono ?_
    · exact appendG_any (S := { S with ain := a, wr := b }) w1 k3 kp k1 k2 nm (by have := hs.2.1; omega) hc p n cb bs hnb (by have := h.rm; omega) hnc hp (k4.isBy hfb H4.2.2.1) hbb hr w.heap.size (w.heap.size + 1) (w.heap.size + 2) (hn _ (Nat.le_refl _)) (hn _ (by omega)) (hn _ (by omega)) (k4.cell (a := ⟨w.heap.size, 0, none⟩) (hn _ (Nat.le_refl _)) H4.2.2.2.1) (k4.cell (a := ⟨w.heap.size + 1, 0, none⟩) (hn (w.heap.size + 1) (by omega)) H4.2.2.2.2.1) (k4.cell (a := ⟨w.heap.size + 2, 0, none⟩) (hn (w.heap.size + 2) (by omega)) H4.2.2.2.2.2)
    · rintro e w' ⟨rfl, S', e1, e2, e3, e4⟩
      exact ⟨rfl, S', e1, e2, e3, H4.2.1.trans e4⟩
  have HFT : Hid (∀ w3, Dk B w3 1 S → Calls Tryz.prog 44 #[.pointer (some ⟨S.d, 0, none⟩), .string nm, .int .i64 (n : Int)] w3 fun e w' => e = .returned (.bool true) ∧ Below w3.heap.size w3 w') := fun w3 h3 => fits_ok w3 h3 nm n hc (by omega)
  have l1 := HE.out.1
  have l2 := HE.out.2.1
  clear h hs hb hbb hr hc hnb hp hnc hfb
  go_enter_defers Tryz.func24, Tryz.ntmps24
  go_wp2_with (first
    | (go_at_call 28; refine (lock_free muLib ⟨S.d, 0, none⟩ _ l1 l2).mono ?_; rintro e w2 ⟨rfl, hw2⟩; have H2 : Hid (Dk B w2 1 S ∧ Fr w (Fp S) w2 (Fp S) ∧ IsBy w2 (.slice p n cb) bs ∧ (w2.cell? ⟨w.heap.size, 0, none⟩ = some (.pointer (some ⟨S.d, 0, none⟩)) ∧ w2.cell? ⟨w.heap.size + 1, 0, none⟩ = some (.string nm) ∧ w2.cell? ⟨w.heap.size + 2, 0, none⟩ = some (.slice p n cb))) := (by rw [hw2]; exact HE.out.2.2); obtain ⟨_, _, _, b1, b2, b3⟩ := H2.out; clear hw2 l1 l2)
    | (go_at_call 48; refine (refusal_ok _ (H2.out.1.below ((Below.refl _ _).alloc (Nat.le_refl _) _)) hoff nm HS.out _ (by simp)).mono ?_; rintro e w3 ⟨rfl, hw3⟩; have H3 : Hid (Dk B w3 1 S ∧ Fr w (Fp S) w3 (Fp S) ∧ IsBy w3 (.slice p n cb) bs ∧ (w3.cell? ⟨w.heap.size, 0, none⟩ = some (.pointer (some ⟨S.d, 0, none⟩)) ∧ w3.cell? ⟨w.heap.size + 1, 0, none⟩ = some (.string nm) ∧ w3.cell? ⟨w.heap.size + 2, 0, none⟩ = some (.slice p n cb))) := (by rw [hw3]; exact st_below H2.out ((Below.refl _ _).alloc (Nat.le_refl _) _)); obtain ⟨_, _, _, b4, b5, b6⟩ := H3.out; clear hw3)
    | (go_at_call 44; refine (HFT.out _ H3.out.1).mono ?_; rintro e w4 ⟨rfl, hB4⟩; have H4 : Hid (Dk B w4 1 S ∧ Fr w (Fp S) w4 (Fp S) ∧ IsBy w4 (.slice p n cb) bs ∧ (w4.cell? ⟨w.heap.size, 0, none⟩ = some (.pointer (some ⟨S.d, 0, none⟩)) ∧ w4.cell? ⟨w.heap.size + 1, 0, none⟩ = some (.string nm) ∧ w4.cell? ⟨w.heap.size + 2, 0, none⟩ = some (.slice p n cb))) := st_below H3.out hB4; obtain ⟨_, _, _, b7, b8, b9⟩ := H4.out; clear hB4)
    | (go_at_call 49; refine (HW.out _ H4.out).mono ?_; rintro e w5 ⟨rfl, hR⟩; have H5 := hide hR; clear hR))
  obtain ⟨S5, e1, e2, e3, e4⟩ := H5.out
  have HZ := hide (door_of e3 e1)
  refine leaves_cons (f := 29) (args := #[.pointer (some ⟨S.d, 0, none⟩)]) (by simp) (by simp [go_sem]) ?_
  refine (unlock_deferred muLib ⟨S.d, 0, none⟩ .returning _ ?_ ?_).mono ?_
  · exact HZ.out.1
  · exact HZ.out.2.1
  rintro e u' w'' ⟨rfl, rfl, rfl⟩
  exact ⟨_, results_tmp rfl _ _ _, rfl, S5, e1, e2, HZ.out.2.2.1, e4.trans HZ.out.2.2.2⟩

end Go.Proofs.YtlandfghodfjdaaGreat

namespace Go.Proofs.YtlandfghodfjdaaGreat
open Go.RowKit
open Go.MuLone (lock_free unlock_deferred run_callFunc_enter)
set_option linter.unusedVariables false
set_option linter.unusedSimpArgs false

set_option maxRecDepth 100000 in
theorem syncG_any {B : Nat} {S : DS} {lk : Int} (w : World) (h : Dk B w lk S) (x : Fi) (hx : x ∈ S.L) (kp : Int) (g : Nat) (c : w.cell? ⟨g, 0, none⟩ = some (.pointer (some ⟨x.f, 0, none⟩))) :
    Calls Tryz.prog 52 #[.int .i64 kp, .pointer (some ⟨g, 0, none⟩)] w fun e w' => e = .returned (.tuple #[]) ∧ ∃ S' : DS, S'.d = S.d ∧ S'.ps = { S.ps with con := Con.upd S.ps.con x.nm (fun q => (q.1, q.1.length)) } ∧ Dk B w' lk S' ∧ Fr w (Fp S) w' (Fp S') := by
  have HS := hide (settle_any w h x hx)
  clear h
  go_enter Tryz.func52, Tryz.ntmps52
  go_wp2_with (go_at_call 53; refine HS.out.mono ?_; rintro e w' ⟨rfl, hR⟩; have H5 := hide hR; clear hR)
  go_end0
  exact ⟨rfl, H5.out⟩

set_option maxRecDepth 100000 in
theorem syncW_any {B : Nat} {S : DS} (w : World) (h : Dk B w 0 S) (hoff : S.off = false) (hA : S.ps.arms) (hwr : S.wr ≤ 1000000000) (x : Fi) (hx : x ∈ S.L) (hs : okN x.nm) :
    Calls Tryz.prog 25 #[.pointer (some ⟨S.d, 0, none⟩), .string x.nm] w fun e w' => e = .returned (.int .i64 S.ps.code) ∧ ∃ S' : DS, S'.d = S.d ∧ S'.ps = S.ps.wrote (syncF x.nm) ∧ Dk B w' 0 S' ∧ Fr w (Fp S) w' (Fp S') := by
  have hmf : ∀ (fn : Fn) (first cap : Array Value) (w : World), (Instr.makeFunc fn first cap).run Tryz.prog w = .ok (.func fn first cap) w := fun _ _ _ _ => rfl
  have l1 := h.cell 0 (.int .i32 0) rfl
  have l2 := frozen_of h.dk 0
  have HE : Hid (Dk B (w.setCell ⟨S.d, 0, none⟩ (.int .i32 1)) 1 S ∧ Fr w (Fp S) (w.setCell ⟨S.d, 0, none⟩ (.int .i32 1)) (Fp S)) := ⟨h.setLock 1, Fr.setCell (.inl rfl) _⟩
  have HFI : Hid (∀ w2, Dk B w2 1 S → Calls Tryz.prog 51 #[.pointer (some ⟨S.d, 0, none⟩), .string x.nm] w2 fun e w' => e = .returned (.tuple #[.pointer (some ⟨x.f, 0, none⟩), .int .i64 0]) ∧ Below w2.heap.size w2 w') := fun w2 h2 => find_ok w2 h2 hoff x hx hs
  have HW : Hid (∀ w3, (Dk B w3 1 S ∧ Fr w (Fp S) w3 (Fp S)) → Calls Tryz.prog 49 #[.pointer (some ⟨S.d, 0, none⟩), .func (.func 52) #[] #[.pointer (some ⟨w3.heap.size, 0, none⟩)]] (w3.alloc (.cells #[.pointer (some ⟨x.f, 0, none⟩)] 80)) fun e w' => e = .returned (.int .i64 S.ps.code) ∧ ∃ S' : DS, S'.d = S.d ∧ S'.ps = S.ps.wrote (syncF x.nm) ∧ Dk B w' 1 S' ∧ Fr w (Fp S) w' (Fp S')) := fun w3 H3 => by
    have hb : Below w3.heap.size w3 (w3.alloc (.cells #[.pointer (some ⟨x.f, 0, none⟩)] 80)) := (Below.refl _ _).alloc (Nat.le_refl _) _
    have h4 := H3.1.below hb
    refine (write_any (f := syncF x.nm) h4 hA hwr (fun args w => run_callFunc_enter Tryz.func52 (by kernel_rfl) rfl args w) (fun kp a b w1 k1 k2 k3 k4 => ?_)).mono ?_
    · exact syncG_any (S := { S with ain := a, wr := b }) w1 k3 x hx kp w3.heap.size (k4.cell (a := ⟨w3.heap.size, 0, none⟩) (fp_new H3.1 _ (Nat.le_refl _)) (by simp))
    · rintro e w' ⟨rfl, S', e1, e2, e3, e4⟩
      exact ⟨rfl, S', e1, e2, e3, (H3.2.trans (Fr.of_below hb)).trans e4⟩
  clear h hs
  go_enter_defers Tryz.func25, Tryz.ntmps25
  go_wp2_with (first | (go_at_call 28; refine (lock_free muLib ⟨S.d, 0, none⟩ _ l1 l2).mono ?_; rintro e w2 ⟨rfl, hw2⟩; have H2 : Hid (Dk B w2 1 S ∧ Fr w (Fp S) w2 (Fp S)) := (by rw [hw2]; exact HE.out); clear hw2 l1 l2) | (go_at_call 51; refine (HFI.out _ H2.out.1).mono ?_; rintro e w3 ⟨rfl, hB3⟩; have H3 : Hid (Dk B w3 1 S ∧ Fr w (Fp S) w3 (Fp S)) := ⟨H2.out.1.below hB3, H2.out.2.trans (Fr.of_below hB3)⟩; clear hB3) | (go_at_call 49; refine (HW.out _ H3.out).mono ?_; rintro e w5 ⟨rfl, hR⟩; have H5 := hide hR; clear hR))
  obtain ⟨S5, e1, e2, e3, e4⟩ := H5.out
  have HZ := hide (door_of e3 e1)
  refine leaves_cons (f := 29) (args := #[.pointer (some ⟨S.d, 0, none⟩)]) (by simp) (by simp [go_sem]) ?_
  refine (unlock_deferred muLib ⟨S.d, 0, none⟩ .returning _ ?_ ?_).mono ?_
  · exact HZ.out.1
  · exact HZ.out.2.1
  rintro e u' w'' ⟨rfl, rfl, rfl⟩
  exact ⟨_, results_tmp rfl _ _ _, rfl, S5, e1, e2, HZ.out.2.2.1, e4.trans HZ.out.2.2.2⟩

set_option maxRecDepth 100000 in
theorem cutG_any {B : Nat} {S : DS} {lk : Int} (w : World) (h : Dk B w lk S) (x : Fi) (hx : x ∈ S.L) (n : Nat) (hn : n ≤ x.bs.length) (kp : Int) (g g2 : Nat) (c : w.cell? ⟨g, 0, none⟩ = some (.pointer (some ⟨x.f, 0, none⟩))) (c2 : w.cell? ⟨g2, 0, none⟩ = some (.int .i64 (n : Int))) :
    Calls Tryz.prog 58 #[.int .i64 kp, .pointer (some ⟨g, 0, none⟩), .pointer (some ⟨g2, 0, none⟩)] w fun e w' => e = .returned (.tuple #[]) ∧ ∃ S' : DS, S'.d = S.d ∧ S'.ps = { S.ps with con := Con.upd S.ps.con x.nm (fun q => (q.1.take n, min q.2 n)) } ∧ Dk B w' lk S' ∧ Fr w (Fp S) w' (Fp S') := by
  have HS := hide (fcut_any w h x hx n hn)
  clear h
  go_enter Tryz.func58, Tryz.ntmps58
  go_wp2_with (go_at_call 59; refine HS.out.mono ?_; rintro e w' ⟨rfl, hR⟩; have H5 := hide hR; clear hR)
  go_end0
  exact ⟨rfl, H5.out⟩

set_option maxRecDepth 100000 in
set_option maxHeartbeats 1000000 in
theorem cutW_any {B : Nat} {S : DS} (w : World) (h : Dk B w 0 S) (hoff : S.off = false) (hA : S.ps.arms) (hwr : S.wr ≤ 1000000000) (x : Fi) (hx : x ∈ S.L) (hs : okN x.nm) (n : Nat) (hn : n ≤ x.bs.length) :
    Calls Tryz.prog 33 #[.pointer (some ⟨S.d, 0, none⟩), .string x.nm, .int .i64 (n : Int)] w fun e w' => e = .returned (.int .i64 S.ps.code) ∧ ∃ S' : DS, S'.d = S.d ∧ S'.ps = S.ps.wrote (cutF x.nm n) ∧ Dk B w' 0 S' ∧ Fr w (Fp S) w' (Fp S') := by
  have hmf : ∀ (fn : Fn) (first cap : Array Value) (w : World), (Instr.makeFunc fn first cap).run Tryz.prog w = .ok (.func fn first cap) w := fun _ _ _ _ => rfl
  have hb0 : Below w.heap.size w (w.alloc (.cells #[.int .i64 (n : Int)] 3)) := (Below.refl _ _).alloc (Nat.le_refl _) _
  have h0 := h.below hb0
  have l1 := h0.cell 0 (.int .i32 0) rfl
  have l2 := frozen_of h0.dk 0
  have HN : Hid (¬ Fp S w.heap.size) := fp_new h _ (Nat.le_refl _)
  have hf0 : Fr w (Fp S) ((w.alloc (.cells #[.int .i64 (n : Int)] 3)).setCell ⟨S.d, 0, none⟩ (.int .i32 1)) (Fp S) := (Fr.of_below hb0).trans (Fr.setCell (.inl rfl) _)
  have HE : Hid (Dk B ((w.alloc (.cells #[.int .i64 (n : Int)] 3)).setCell ⟨S.d, 0, none⟩ (.int .i32 1)) 1 S ∧ Fr w (Fp S) ((w.alloc (.cells #[.int .i64 (n : Int)] 3)).setCell ⟨S.d, 0, none⟩ (.int .i32 1)) (Fp S) ∧ ((w.alloc (.cells #[.int .i64 (n : Int)] 3)).setCell ⟨S.d, 0, none⟩ (.int .i32 1)).cell? ⟨w.heap.size, 0, none⟩ = some (.int .i64 (n : Int))) := ⟨h0.setLock 1, hf0, (Fr.setCell (w := w.alloc (.cells #[.int .i64 (n : Int)] 3)) (F := Fp S) (a := ⟨S.d, 0, none⟩) (.inl rfl) _).cell (a := ⟨w.heap.size, 0, none⟩) HN.out (by simp)⟩
  have HFI : Hid (∀ w2, Dk B w2 1 S → Calls Tryz.prog 51 #[.pointer (some ⟨S.d, 0, none⟩), .string x.nm] w2 fun e w' => e = .returned (.tuple #[.pointer (some ⟨x.f, 0, none⟩), .int .i64 0]) ∧ Below w2.heap.size w2 w') := fun w2 h2 => find_ok w2 h2 hoff x hx hs
  have HW : Hid (∀ w3, (Dk B w3 1 S ∧ Fr w (Fp S) w3 (Fp S) ∧ w3.cell? ⟨w.heap.size, 0, none⟩ = some (.int .i64 (n : Int))) → Calls Tryz.prog 49 #[.pointer (some ⟨S.d, 0, none⟩), .func (.func 58) #[] #[.pointer (some ⟨w3.heap.size, 0, none⟩), .pointer (some ⟨w.heap.size, 0, none⟩)]] (w3.alloc (.cells #[.pointer (some ⟨x.f, 0, none⟩)] 80)).drew fun e w' => e = .returned (.int .i64 S.ps.code) ∧ ∃ S' : DS, S'.d = S.d ∧ S'.ps = S.ps.wrote (cutF x.nm n) ∧ Dk B w' 1 S' ∧ Fr w (Fp S) w' (Fp S')) := fun w3 H3 => by
    have hb : Below w3.heap.size w3 (w3.alloc (.cells #[.pointer (some ⟨x.f, 0, none⟩)] 80)).drew := ((Below.refl _ _).alloc (Nat.le_refl _) _).drew
    have h4 := H3.1.below hb
    refine (write_any (f := cutF x.nm n) h4 hA hwr (fun args w => run_callFunc_enter Tryz.func58 (by kernel_rfl) rfl args w) (fun kp a b w1 k1 k2 k3 k4 => ?_)).mono ?_
    · exact cutG_any (S := { S with ain := a, wr := b }) w1 k3 x hx n hn kp w3.heap.size w.heap.size (k4.cell (a := ⟨w3.heap.size, 0, none⟩) (fp_new H3.1 _ (Nat.le_refl _)) (by show (w3.alloc _).cell? _ = _; simp)) (k4.cell (a := ⟨w.heap.size, 0, none⟩) HN.out (by rw [hb.cell (p := ⟨w.heap.size, 0, none⟩) (World.block_lt_of_cell? _ _ H3.2.2)]; exact H3.2.2))
    · rintro e w' ⟨rfl, S', e1, e2, e3, e4⟩
      exact ⟨rfl, S', e1, e2, e3, (H3.2.1.trans (Fr.of_below hb)).trans e4⟩
  have HX := hide hx
  obtain ⟨nb, hnb⟩ : ∃ nb, x.bs.length = nb := ⟨_, rfl⟩
  obtain ⟨p, cap, hv⟩ := h.fslice hx
  rw [hnb] at hv hn
  have HV := hide hv
  have hn1 : ¬ (n : Int) < 0 := by omega
  have hn2 : ¬ (nb : Int) < (n : Int) := by omega
  clear h hs h0 hf0 hb0 hv hx hnb
  go_enter_defers Tryz.func33, Tryz.ntmps33
  go_upto_region 6 with (first | (go_at_call 28; refine (lock_free muLib ⟨S.d, 0, none⟩ _ l1 l2).mono ?_; rintro e w2 ⟨rfl, hw2⟩; have H2 : Hid (Dk B w2 1 S ∧ Fr w (Fp S) w2 (Fp S) ∧ w2.cell? ⟨w.heap.size, 0, none⟩ = some (.int .i64 (n : Int))) := (by rw [hw2]; exact HE.out); clear hw2 l1 l2) | (go_at_call 51; refine (HFI.out _ H2.out.1).mono ?_; rintro e w3 ⟨rfl, hB3⟩; have H3 : Hid (Dk B w3 1 S ∧ Fr w (Fp S) w3 (Fp S) ∧ w3.cell? ⟨w.heap.size, 0, none⟩ = some (.int .i64 (n : Int))) := ⟨H2.out.1.below hB3, H2.out.2.1.trans (Fr.of_below hB3), (by rw [hB3.cell (p := ⟨w.heap.size, 0, none⟩) (World.block_lt_of_cell? _ _ H2.out.2.2)]; exact H2.out.2.2)⟩; clear hB3))
  have hba : Below w3.heap.size w3 (w3.alloc (.cells #[.pointer (some ⟨x.f, 0, none⟩)] 80)).drew := ((Below.refl _ _).alloc (Nat.le_refl _) _).drew
  have q1 : (w3.alloc (.cells #[.pointer (some ⟨x.f, 0, none⟩)] 80)).drew.cell? ⟨w.heap.size, 0, none⟩ = some (.int .i64 (n : Int)) := by rw [hba.cell (p := ⟨w.heap.size, 0, none⟩) (World.block_lt_of_cell? _ _ H3.out.2.2)]; exact H3.out.2.2
  have q2 : (w3.alloc (.cells #[.pointer (some ⟨x.f, 0, none⟩)] 80)).drew.cell? ⟨w3.heap.size, 0, none⟩ = some (.pointer (some ⟨x.f, 0, none⟩)) := by show (w3.alloc _).cell? _ = _; simp
  have q3 : (w3.alloc (.cells #[.pointer (some ⟨x.f, 0, none⟩)] 80)).drew.cell? ⟨x.f, 0, none⟩ = some (.slice p nb cap) := by rw [← HV.out]; exact (H3.out.1.below hba).fcell HX.out
  clear hba
  refine wp_region_noPanic ?_
  refine wp_region_held_drew (S := fun w' => w'.cell? ⟨w.heap.size, 0, none⟩ = some (.int .i64 (n : Int)) ∧ w'.cell? ⟨w3.heap.size, 0, none⟩ = some (.pointer (some ⟨x.f, 0, none⟩)) ∧ w'.cell? ⟨x.f, 0, none⟩ = some (.slice p nb cap)) (by kernel_rfl) ⟨q1, q2, q3⟩ (fun hHeld => ?_)
  refine wpAnyH_take (i := 0) (v := ?_) rfl (by kernel_rfl) (by kernel_rfl) (by kernel_rfl) (fun _ _ _ h => h) (Or.inl ⟨by rfl, ?_⟩) hHeld ?_
  rotate_left
  · (intro wq hSw; (try dsimp only at hSw); (try obtain ⟨s0, s1, s2⟩ := hSw); (go_simp <;> with_reducible rfl))
  try simp only [Act.put, List.getElem_toArray, List.getElem_cons_zero, List.getElem_cons_succ, List.setIfInBounds_toArray, List.set_cons_zero, List.set_cons_succ]
  refine wpAnyH_take (i := 1) (v := ?_) rfl (by kernel_rfl) (by kernel_rfl) (by kernel_rfl) (fun _ _ _ h => h) (Or.inl ⟨by rfl, ?_⟩) hHeld ?_
  rotate_left
  · (intro wq hSw; (try dsimp only at hSw); (try obtain ⟨s0, s1, s2⟩ := hSw); (go_simp <;> with_reducible rfl))
  try simp only [Act.put, List.getElem_toArray, List.getElem_cons_zero, List.getElem_cons_succ, List.setIfInBounds_toArray, List.set_cons_zero, List.set_cons_succ]
  refine wpAnyH_take (i := 2) (v := ?_) rfl (by kernel_rfl) (by kernel_rfl) (by kernel_rfl) (fun _ _ _ h => h) (Or.inl ⟨by rfl, ?_⟩) hHeld ?_
  rotate_left
  · (intro wq hSw; (try dsimp only at hSw); (try obtain ⟨s0, s1, s2⟩ := hSw); (go_simp <;> with_reducible rfl))
  try simp only [Act.put, List.getElem_toArray, List.getElem_cons_zero, List.getElem_cons_succ, List.setIfInBounds_toArray, List.set_cons_zero, List.set_cons_succ]
  refine wpAnyH_take (i := 3) (v := ?_) rfl (by kernel_rfl) (by kernel_rfl) (by kernel_rfl) (fun _ _ _ h => h) (Or.inl ⟨by rfl, ?_⟩) hHeld ?_
  rotate_left
  · (intro wq hSw; (try dsimp only at hSw); (try obtain ⟨s0, s1, s2⟩ := hSw); (go_simp <;> with_reducible rfl))
  try simp only [Act.put, List.getElem_toArray, List.getElem_cons_zero, List.getElem_cons_succ, List.setIfInBounds_toArray, List.set_cons_zero, List.set_cons_succ]
  refine wpAnyH_take (i := 4) (v := ?_) rfl (by kernel_rfl) (by kernel_rfl) (by kernel_rfl) (fun _ _ _ h => h) (Or.inl ⟨by rfl, ?_⟩) hHeld ?_
  rotate_left
  · (intro wq hSw; (try dsimp only at hSw); (try obtain ⟨s0, s1, s2⟩ := hSw); (go_simp <;> with_reducible rfl))
  try simp only [Act.put, List.getElem_toArray, List.getElem_cons_zero, List.getElem_cons_succ, List.setIfInBounds_toArray, List.set_cons_zero, List.set_cons_succ]
  refine wpAnyH_take (i := 5) (v := ?_) rfl (by kernel_rfl) (by kernel_rfl) (by kernel_rfl) (fun _ _ _ h => h) (Or.inl ⟨by rfl, ?_⟩) hHeld ?_
  rotate_left
  · (intro wq hSw; (try dsimp only at hSw); (try obtain ⟨s0, s1, s2⟩ := hSw); (go_simp <;> with_reducible rfl))
  try simp only [Act.put, List.getElem_toArray, List.getElem_cons_zero, List.getElem_cons_succ, List.setIfInBounds_toArray, List.set_cons_zero, List.set_cons_succ]
  refine wpAnyH_take (i := 6) (v := ?_) rfl (by kernel_rfl) (by kernel_rfl) (by kernel_rfl) (fun _ _ _ h => h) (Or.inl ⟨by rfl, ?_⟩) hHeld ?_
  rotate_left
  · (intro wq hSw; (try dsimp only at hSw); (try obtain ⟨s0, s1, s2⟩ := hSw); (go_simp <;> with_reducible rfl))
  try simp only [Act.put, List.getElem_toArray, List.getElem_cons_zero, List.getElem_cons_succ, List.setIfInBounds_toArray, List.set_cons_zero, List.set_cons_succ]
  refine wpAnyH_take (i := 7) (v := ?_) rfl (by kernel_rfl) (by kernel_rfl) (by kernel_rfl) (fun _ _ _ h => h) (Or.inl ⟨by rfl, ?_⟩) hHeld ?_
  rotate_left
  · (intro wq hSw; (try dsimp only at hSw); (try obtain ⟨s0, s1, s2⟩ := hSw); (go_simp <;> with_reducible rfl))
  try simp only [Act.put, List.getElem_toArray, List.getElem_cons_zero, List.getElem_cons_succ, List.setIfInBounds_toArray, List.set_cons_zero, List.set_cons_succ]
  refine wpAnyH_take (i := 8) (v := ?_) rfl (by kernel_rfl) (by kernel_rfl) (by kernel_rfl) (fun _ _ _ h => h) (Or.inl ⟨by rfl, ?_⟩) hHeld ?_
  rotate_left
  · (intro wq hSw; (try dsimp only at hSw); (try obtain ⟨s0, s1, s2⟩ := hSw); (go_simp <;> with_reducible rfl))
  try simp only [Act.put, List.getElem_toArray, List.getElem_cons_zero, List.getElem_cons_succ, List.setIfInBounds_toArray, List.set_cons_zero, List.set_cons_succ]
  refine wpAnyH_take (i := 9) (v := ?_) rfl (by kernel_rfl) (by kernel_rfl) (by kernel_rfl) (fun _ _ _ h => h) (Or.inl ⟨by rfl, ?_⟩) hHeld ?_
  rotate_left
  · (intro wq hSw; (try dsimp only at hSw); (try obtain ⟨s0, s1, s2⟩ := hSw); (go_simp <;> with_reducible rfl))
  try simp only [Act.put, List.getElem_toArray, List.getElem_cons_zero, List.getElem_cons_succ, List.setIfInBounds_toArray, List.set_cons_zero, List.set_cons_succ]
  refine wpAnyH_take (i := 10) (v := ?_) rfl (by kernel_rfl) (by kernel_rfl) (by kernel_rfl) (fun _ _ _ h => h) (Or.inl ⟨by rfl, ?_⟩) hHeld ?_
  rotate_left
  · (intro wq hSw; (try dsimp only at hSw); (try obtain ⟨s0, s1, s2⟩ := hSw); (go_simp <;> with_reducible rfl))
  try simp only [Act.put, List.getElem_toArray, List.getElem_cons_zero, List.getElem_cons_succ, List.setIfInBounds_toArray, List.set_cons_zero, List.set_cons_succ]
  refine wpAnyH_done (by kernel_rfl) ?_ _
  refine NoPanic.normal ?_
  go_wp2_with (go_at_call 49; refine (HW.out _ H3.out).mono ?_; rintro e w5 ⟨rfl, hR⟩; have H5 := hide hR; clear hR)
  obtain ⟨S5, e1, e2, e3, e4⟩ := H5.out
  have HZ := hide (door_of e3 e1)
  refine leaves_cons (f := 29) (args := #[.pointer (some ⟨S.d, 0, none⟩)]) (by simp) (by simp [go_sem]) ?_
  refine (unlock_deferred muLib ⟨S.d, 0, none⟩ .returning _ ?_ ?_).mono ?_
  · exact HZ.out.1
  · exact HZ.out.2.1
  rintro e u' w'' ⟨rfl, rfl, rfl⟩
  exact ⟨_, results_tmp rfl _ _ _, rfl, S5, e1, e2, HZ.out.2.2.1, e4.trans HZ.out.2.2.2⟩

set_option maxRecDepth 100000 in
theorem off_any {B : Nat} {S : DS} (w : World) (h : Dk B w 0 S) : Calls Tryz.prog 19 #[.pointer (some ⟨S.d, 0, none⟩)] w fun e w' => e = .returned (.bool S.off) ∧ Dk B w' 0 S ∧ Fr w (Fp S) w' (Fp S) := by
  have l1 := h.cell 0 (.int .i32 0) rfl
  have l2 := frozen_of h.dk 0
  have HE : Hid (Dk B (w.setCell ⟨S.d, 0, none⟩ (.int .i32 1)) 1 S ∧ Fr w (Fp S) (w.setCell ⟨S.d, 0, none⟩ (.int .i32 1)) (Fp S)) := ⟨h.setLock 1, Fr.setCell (.inl rfl) _⟩
  clear h
  go_enter_defers Tryz.func19, Tryz.ntmps19
  go_wp2_with (go_at_call 28; refine (lock_free muLib ⟨S.d, 0, none⟩ _ l1 l2).mono ?_; rintro e w2 ⟨rfl, hw2⟩; have H2 : Hid (Dk B w2 1 S ∧ Fr w (Fp S) w2 (Fp S)) := (by rw [hw2]; exact HE.out); have c4 := H2.out.1.cell 4 (.bool S.off) rfl; clear hw2 l1 l2)
  have HZ := hide (door_of H2.out.1 rfl)
  refine leaves_cons (f := 29) (args := #[.pointer (some ⟨S.d, 0, none⟩)]) (by simp) (by simp [go_sem]) ?_
  refine (unlock_deferred muLib ⟨S.d, 0, none⟩ .returning _ ?_ ?_).mono ?_
  · exact HZ.out.1
  · exact HZ.out.2.1
  rintro e u' w'' ⟨rfl, rfl, rfl⟩
  exact ⟨_, results_tmp rfl _ _ _, rfl, HZ.out.2.2.1, H2.out.2.trans HZ.out.2.2.2⟩

theorem Dk.armed {B : Nat} {w : World} {lk : Int} {S : DS} (h : Dk B w lk S) (a : Nat) (x y : Int) : Dk B (((w.setCell ⟨S.d, 5, none⟩ (.int .i64 (a : Int))).setCell ⟨S.d, 6, none⟩ (.int .i64 x)).setCell ⟨S.d, 7, none⟩ (.int .i64 y)) lk { S with ain := a, keep := x, lose := y } ∧ Fr w (Fp S) (((w.setCell ⟨S.d, 5, none⟩ (.int .i64 (a : Int))).setCell ⟨S.d, 6, none⟩ (.int .i64 x)).setCell ⟨S.d, 7, none⟩ (.int .i64 y)) (Fp S) := by
  refine ⟨h.set (S' := { S with ain := a, keep := x, lose := y }) ?_ (fun k hk => ?_) rfl, ((Fr.setCell (.inl rfl) _).trans (Fr.setCell (.inl rfl) _)).trans (Fr.setCell (.inl rfl) _)⟩
  · rw [heap_set_at (heap_set_at (heap_set_at h.dk _) _)]; rfl
  · rw [Below.heap_setCell _ _ _ _ hk, Below.heap_setCell _ _ _ _ hk, Below.heap_setCell _ _ _ _ hk]

set_option maxRecDepth 100000 in
theorem arm_any {B : Nat} {S : DS} (w : World) (h : Dk B w 0 S) (n x y : Int) : Calls Tryz.prog 20 #[.pointer (some ⟨S.d, 0, none⟩), .int .i64 n, .int .i64 x, .int .i64 y] w fun e w' => e = .returned (.tuple #[]) ∧ Dk B w' 0 { S with ain := n.toNat, keep := x, lose := y } ∧ Fr w (Fp S) w' (Fp S) := by
  have l1 := h.cell 0 (.int .i32 0) rfl
  have l2 := frozen_of h.dk 0
  have HE : Hid (Dk B (w.setCell ⟨S.d, 0, none⟩ (.int .i32 1)) 1 S ∧ Fr w (Fp S) (w.setCell ⟨S.d, 0, none⟩ (.int .i32 1)) (Fp S)) := ⟨h.setLock 1, Fr.setCell (.inl rfl) _⟩
  clear h
  have e1 : max n 0 = ((n.toNat : Nat) : Int) := by omega
  have e1' : (if n < 0 then 0 else n) = ((n.toNat : Nat) : Int) := by split <;> omega
  have e1a : (if 0 < n then n else 0) = ((n.toNat : Nat) : Int) := by split <;> omega
  obtain ⟨a, ha⟩ : ∃ a, n.toNat = a := ⟨_, rfl⟩
  rw [ha] at e1 e1' e1a ⊢
  clear ha
  go_enter_defers Tryz.func20, Tryz.ntmps20
  go_wp2_with (go_at_call 28; refine (lock_free muLib ⟨S.d, 0, none⟩ _ l1 l2).mono ?_; rintro e w2 ⟨rfl, hw2⟩; have H2 : Hid (Dk B w2 1 S ∧ Fr w (Fp S) w2 (Fp S)) := (by rw [hw2]; exact HE.out); have c5 := H2.out.1.cell 5 _ rfl; have c6 := H2.out.1.cell 6 _ rfl; have c7 := H2.out.1.cell 7 _ rfl; have f5 := frozen_of H2.out.1.dk 5; have f6 := frozen_of H2.out.1.dk 6; have f7 := frozen_of H2.out.1.dk 7; clear hw2 l1 l2)
  have HA := hide (H2.out.1.armed a x y)
  have HZ := hide (door_of HA.out.1 rfl)
  refine leaves_cons (f := 29) (args := #[.pointer (some ⟨S.d, 0, none⟩)]) (by simp) (by simp [go_sem]) ?_
  refine (unlock_deferred muLib ⟨S.d, 0, none⟩ .returning _ ?_ ?_).mono ?_
  · exact HZ.out.1
  · exact HZ.out.2.1
  rintro e u' w'' ⟨rfl, rfl, rfl⟩
  exact ⟨_, results_none rfl _ _ _, rfl, HZ.out.2.2.1, (H2.out.2.trans HA.out.2).trans HZ.out.2.2.2⟩

theorem Dk.setOff {B : Nat} {w : World} {lk : Int} {S : DS} (h : Dk B w lk S) (b : Bool) : Dk B (w.setCell ⟨S.d, 4, none⟩ (.bool b)) lk { S with off := b } :=
  h.set (S' := { S with off := b }) (by rw [heap_set_at h.dk]; rfl) (fun k hk => Below.heap_setCell _ _ _ _ hk) rfl

set_option maxRecDepth 100000 in
theorem on_off {B : Nat} {S : DS} (w : World) (h : Dk B w 0 S) (hoff : S.off = true) : Calls Tryz.prog 26 #[.pointer (some ⟨S.d, 0, none⟩)] w fun e w' => e = .returned (.tuple #[]) ∧ ∃ S' : DS, S'.d = S.d ∧ S'.ps = { S.ps with con := Con.each S.ps.con sureF, off := false } ∧ Dk B w' 0 S' ∧ Fr w (Fp S) w' (Fp S') := by
  have l1 := h.cell 0 (.int .i32 0) rfl
  have l2 := frozen_of h.dk 0
  have HE : Hid (Dk B (w.setCell ⟨S.d, 0, none⟩ (.int .i32 1)) 1 S ∧ Fr w (Fp S) (w.setCell ⟨S.d, 0, none⟩ (.int .i32 1)) (Fp S)) := ⟨h.setLock 1, Fr.setCell (.inl rfl) _⟩
  clear h
  have HS : Hid (∀ w2, Dk B w2 1 S → Calls Tryz.prog 46 #[.pointer (some ⟨S.d, 0, none⟩)] (w2.setCell ⟨S.d, 4, none⟩ (.bool false)) fun e w' => e = .returned (.tuple #[]) ∧ ∃ S' : DS, S'.d = S.d ∧ S'.ps = { S.ps with con := Con.each S.ps.con sureF, off := false } ∧ Dk B w' 1 S' ∧ Fr w2 (Fp S) w' (Fp S')) := fun w2 h2 => by
    refine (dsettle_any (S := { S with off := false }) _ (h2.setOff false)).mono ?_
    rintro e w' ⟨rfl, S', e1, e2, e3, e4⟩
    exact ⟨rfl, S', e1, e2, e3, (Fr.setCell (w := w2) (F := Fp S) (a := ⟨S.d, 4, none⟩) (.inl rfl) _).trans e4⟩
  go_enter_defers Tryz.func26, Tryz.ntmps26
  go_wp2_with (first | (go_at_call 28; refine (lock_free muLib ⟨S.d, 0, none⟩ _ l1 l2).mono ?_; rintro e w2 ⟨rfl, hw2⟩; have H2 : Hid (Dk B w2 1 S ∧ Fr w (Fp S) w2 (Fp S)) := (by rw [hw2]; exact HE.out); have c4 : w2.cell? ⟨S.d, 4, none⟩ = some (.bool true) := (by rw [← hoff]; exact H2.out.1.cell 4 (.bool S.off) rfl); have f4 := frozen_of H2.out.1.dk 4; clear hw2 l1 l2) | (go_at_call 46; refine (HS.out _ H2.out.1).mono ?_; rintro e w5 ⟨rfl, hR⟩; have H5 := hide hR; clear hR))
  obtain ⟨S5, e1, e2, e3, e4⟩ := H5.out
  have HZ := hide (door_of e3 e1)
  refine leaves_cons (f := 29) (args := #[.pointer (some ⟨S.d, 0, none⟩)]) (by simp) (by simp [go_sem]) ?_
  refine (unlock_deferred muLib ⟨S.d, 0, none⟩ .returning _ ?_ ?_).mono ?_
  · exact HZ.out.1
  · exact HZ.out.2.1
  rintro e u' w'' ⟨rfl, rfl, rfl⟩
  exact ⟨_, results_none rfl _ _ _, rfl, S5, e1, e2, HZ.out.2.2.1, H2.out.2.trans (e4.trans HZ.out.2.2.2)⟩

set_option maxRecDepth 100000 in
theorem on_on {B : Nat} {S : DS} (w : World) (h : Dk B w 0 S) (hoff : S.off = false) : Calls Tryz.prog 26 #[.pointer (some ⟨S.d, 0, none⟩)] w fun e w' => e = .returned (.tuple #[]) ∧ Dk B w' 0 S ∧ Fr w (Fp S) w' (Fp S) := by
  have l1 := h.cell 0 (.int .i32 0) rfl
  have l2 := frozen_of h.dk 0
  have HE : Hid (Dk B (w.setCell ⟨S.d, 0, none⟩ (.int .i32 1)) 1 S ∧ Fr w (Fp S) (w.setCell ⟨S.d, 0, none⟩ (.int .i32 1)) (Fp S)) := ⟨h.setLock 1, Fr.setCell (.inl rfl) _⟩
  clear h
  go_enter_defers Tryz.func26, Tryz.ntmps26
  go_wp2_with (go_at_call 28; refine (lock_free muLib ⟨S.d, 0, none⟩ _ l1 l2).mono ?_; rintro e w2 ⟨rfl, hw2⟩; have H2 : Hid (Dk B w2 1 S ∧ Fr w (Fp S) w2 (Fp S)) := (by rw [hw2]; exact HE.out); have c4 : w2.cell? ⟨S.d, 4, none⟩ = some (.bool false) := (by rw [← hoff]; exact H2.out.1.cell 4 (.bool S.off) rfl); clear hw2 l1 l2)
  have HZ := hide (door_of H2.out.1 rfl)
  refine leaves_cons (f := 29) (args := #[.pointer (some ⟨S.d, 0, none⟩)]) (by simp) (by simp [go_sem]) ?_
  refine (unlock_deferred muLib ⟨S.d, 0, none⟩ .returning _ ?_ ?_).mono ?_
  · exact HZ.out.1
  · exact HZ.out.2.1
  rintro e u' w'' ⟨rfl, rfl, rfl⟩
  exact ⟨_, results_none rfl _ _ _, rfl, HZ.out.2.2.1, H2.out.2.trans HZ.out.2.2.2⟩

end Go.Proofs.YtlandfghodfjdaaGreat

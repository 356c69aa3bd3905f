/- The power goes: what each file loses; what becomes sure. -/
import Derived.Test.YtlandfghodfjdaaGreatJ1K
import Derived.Deep.RegionWith
namespace Go.Proofs.YtlandfghodfjdaaGreat
open Go.RowKit
open Go.MuLone (lock_free unlock_deferred run_callFunc_enter)
set_option linter.unusedVariables false
set_option linter.unusedSimpArgs false

/-- The same disk, its map and its map's entries; only what the files hold may differ. -/
def Sk (S S' : DS) : Prop := S'.d = S.d ∧ S'.m = S.m ∧ S'.clock = S.clock ∧ S'.L.map Fi.ent = S.L.map Fi.ent

theorem Sk.refl (S : DS) : Sk S S := ⟨rfl, rfl, rfl, rfl⟩
theorem Sk.trans {S S' S'' : DS} (h : Sk S S') (k : Sk S' S'') : Sk S S'' := ⟨k.1.trans h.1, k.2.1.trans h.2.1, k.2.2.1.trans h.2.2.1, k.2.2.2.trans h.2.2.2⟩

/-- How much a file has left when the power goes. -/
def leftF (lose : Int) (q : List Nat × Nat) : Nat := max q.2 (q.1.length - lose.toNat)
def lostF (lose : Int) (q : List Nat × Nat) : List Nat × Nat := (q.1.take (leftF lose q), min q.2 (leftF lose q))
def sureF (q : List Nat × Nat) : List Nat × Nat := (q.1, q.1.length)
def Con.each (c : Con) (f : List Nat × Nat → List Nat × Nat) : Con := c.map fun y => (y.1, f y.2)

/-- A file's cells are set in place, its bytes' beginning kept. -/
theorem Dk.inPlaceE {B : Nat} {w w' : World} {lk : Int} {S : DS} (h : Dk B w lk S) {x : Fi} (hx : x ∈ S.L) (v2 : Value) (k su2 : Nat) (hkl : k ≤ x.bs.length) (hs : su2 ≤ k)
    (hf : w'.heap[x.f]? = some (.cells #[v2, .int .i64 (su2 : Int)] 79 (0, 0))) (ho : ∀ k, k ≠ x.f → w'.heap[k]? = w.heap[k]?) (hw : w'.os = w.os ∧ w'.tape = w.tape ∧ w'.output = w.output ∧ w'.heap.size = w.heap.size)
    (hv : v2.ownBlock = x.v.ownBlock) (hown : w.ownsRow B 5 1 v2 k (bytesV (x.bs.take k))) :
    ∃ S' : DS, Sk S S' ∧ S'.ps = { S.ps with con := Con.upd S.ps.con x.nm fun _ => (x.bs.take k, su2) } ∧ Dk B w' lk S' ∧ Fr w (Fp S) w' (Fp S') := by
  have hvf : x.v.ownBlock ≠ some x.f := fun e => by
    rcases (h.ow x hx).2 with ⟨e1, _⟩ | ⟨g', cap, cur, e1, _, hh, _⟩
    · rw [e1] at e; simp [Value.ownBlock] at e
    · rw [e1] at e; simp [Value.ownBlock] at e; subst e; rw [h.fl x hx] at hh; simp at hh
  have hlen : (x.bs.take k).length = k := by simp; omega
  refine ⟨{ S with L := updF S.L x.nm fun y => { y with v := v2, bs := x.bs.take k, su := su2 } }, ⟨rfl, rfl, rfl, updF_map _ _ _ _ fun y _ => rfl⟩, ps_upd x.nm v2 (x.bs.take k) su2, h.upd hx v2 (x.bs.take k) su2 hf ?_ (fun k _ h1 _ => ho k h1) (fun g hg => .inl (by rw [← hv]; exact hg)) ?_ ?_ ?_, hw.1, hw.2.1, hw.2.2.1, Nat.le_of_eq hw.2.2.2.symm, fun k hk hn => ⟨fun hf' => ?_, ho k (fun e => hn (.inr (.inr ⟨x, hx, .inl e⟩)))⟩⟩
  · rw [hlen]
    exact ownsRow_keep hown fun g hg => ho g (fun e => hvf (by rw [← hv, hg, e]))
  · intro n hn
    exact h.by_ x hx n (List.mem_of_mem_take hn)
  · rw [hlen]; exact hs
  · have := Con.tot_upd (con_nodup h) (con_mem hx) (x.bs.take k) su2
    have h4 := h.rm
    rw [tot_con] at h4
    have e : S.ps.con = S.L.map Fi.con := rfl
    rw [hlen] at this
    rw [e] at this ⊢
    omega
  · rcases fp_upd h.nd hx v2 _ _ hf' with hf' | hf'
    · exact hn hf'
    · exact hn (.inr (.inr ⟨x, hx, .inr (by rw [← hv]; exact hf')⟩))

set_option maxRecDepth 100000 in
theorem settleE_any {B : Nat} {S : DS} {lk : Int} (w : World) (h : Dk B w lk S) (x : Fi) (hx : x ∈ S.L) :
    Calls Tryz.prog 53 #[.pointer (some ⟨x.f, 0, none⟩)] w fun e w' => e = .returned (.tuple #[]) ∧ ∃ S' : DS, Sk S S' ∧ S'.ps = { S.ps with con := Con.upd S.ps.con x.nm (fun q => (q.1, q.1.length)) } ∧ Dk B w' lk S' ∧ Fr w (Fp S) w' (Fp S') := by
  obtain ⟨p, cap, hv⟩ := h.fslice hx
  have c0 : w.cell? ⟨x.f, 0, none⟩ = some (.slice p x.bs.length cap) := by rw [← hv]; exact h.fcell hx
  have c1 := h.scell hx
  have f1 := frozen_of (h.fl x hx) 1
  have H := hide h
  clear h hv
  go_enter Tryz.func53, Tryz.ntmps53
  go_wp2
  go_end0
  have hh := H.out
  have := hh.inPlaceE (w' := w.setCell ⟨x.f, 1, none⟩ (.int .i64 (x.bs.length : Int))) hx x.v x.bs.length x.bs.length (Nat.le_refl _) (Nat.le_refl _) (by rw [heap_set_at (hh.fl x hx)]; rfl) (fun k hk => Below.heap_setCell _ _ _ _ hk) ⟨rfl, rfl, rfl, by simp [World.setCell]⟩ rfl (by rw [List.take_length]; exact hh.ow x hx)
  rw [List.take_length, Con.upd_at (con_nodup hh) (con_mem hx) (fun q => (q.1, q.1.length))] at this
  exact ⟨rfl, this⟩

set_option maxRecDepth 100000 in
theorem fcutE_any {B : Nat} {S : DS} {lk : Int} (w : World) (h : Dk B w lk S) (x : Fi) (hx : x ∈ S.L) (n : Nat) (hn : n ≤ x.bs.length) :
    Calls Tryz.prog 59 #[.pointer (some ⟨x.f, 0, none⟩), .int .i64 (n : Int)] w fun e w' => e = .returned (.tuple #[]) ∧ ∃ S' : DS, Sk S S' ∧ S'.ps = { S.ps with con := Con.upd S.ps.con x.nm (fun q => (q.1.take n, min q.2 n)) } ∧ Dk B w' lk S' ∧ Fr w (Fp S) w' (Fp S') := by
  have hw0 := h.ow x hx
  have hcut : ∃ p cap, x.v = .slice p x.bs.length cap ∧ x.bs.length ≤ cap ∧ w.ownsRow B 5 1 (.slice p n cap) n (bytesV (x.bs.take n)) := by
    rcases hw0.2 with ⟨e1, e2⟩ | ⟨g, cap, cur, e1, e3, e4, e5, e6, e7, e8⟩
    · have hn0 : n = 0 := by omega
      refine ⟨none, 0, by rw [e1, e2], by omega, by simp [bytesV]; omega, .inl ⟨by rw [hn0], hn0⟩⟩
    · refine ⟨some ⟨g, 0, none⟩, cap, e1, e5, by simp [bytesV]; omega, .inr ⟨g, cap, cur, rfl, e3, e4, by omega, e6, e7, ?_⟩⟩
      rw [Nat.mul_one] at e8 ⊢
      have : (cur.toList.take x.bs.length).take n = (bytesV x.bs).take n := by rw [e8]
      rw [List.take_take, Nat.min_eq_left hn] at this
      rw [this]; unfold bytesV; rw [List.map_take]
  obtain ⟨p, cap, hv, hcap, hown⟩ := hcut
  have c0 : w.cell? ⟨x.f, 0, none⟩ = some (.slice p x.bs.length cap) := by rw [← hv]; exact h.fcell hx
  have c1 := h.scell hx
  have f0 := frozen_of (h.fl x hx) 0
  have f1 := frozen_of (h.fl x hx) 1
  have hsz : x.su ≤ 1000000000 := by
    have := h.su x hx
    have h4 := h.rm
    have := Con.tot_upd (con_nodup h) (con_mem hx) [] 0
    rw [tot_con] at h4
    have e : S.ps.con = S.L.map Fi.con := rfl
    rw [e] at this; simp at this; omega
  have hmin : min (x.su : Int) (n : Int) = ((min x.su n : Nat) : Int) := by omega
  have hmin2 : (if (n : Int) < (x.su : Int) then (n : Int) else (x.su : Int)) = ((min x.su n : Nat) : Int) := by split <;> omega
  have hnc : (n : Int) ≤ (cap : Int) := by omega
  have c1' : (w.setCell ⟨x.f, 0, none⟩ (.slice p n cap)).cell? ⟨x.f, 1, none⟩ = some (.int .i64 (x.su : Int)) := by rw [cell_setCell_ne _ _ _ _ _ (by decide)]; exact c1
  have H := hide h
  have HV := hide hv
  have HO := hide hown
  clear h hv hw0 hown
  have HFIN : Hid ((fun w' => ∃ S' : DS, Sk S S' ∧ S'.ps = { S.ps with con := Con.upd S.ps.con x.nm (fun q => (q.1.take n, min q.2 n)) } ∧ Dk B w' lk S' ∧ Fr w (Fp S) w' (Fp S')) ((w.setCell ⟨x.f, 0, none⟩ (.slice p n cap)).setCell ⟨x.f, 1, none⟩ (.int .i64 ((min x.su n : Nat) : Int)))) := by
    have hh := H.out
    have h0 : (w.setCell ⟨x.f, 0, none⟩ (.slice p n cap)).heap[x.f]? = some (.cells #[.slice p n cap, .int .i64 (x.su : Int)] 79 (0, 0)) := by rw [heap_set_at (hh.fl x hx)]; rfl
    have := hh.inPlaceE (w' := (w.setCell ⟨x.f, 0, none⟩ (.slice p n cap)).setCell ⟨x.f, 1, none⟩ (.int .i64 ((min x.su n : Nat) : Int))) hx (.slice p n cap) n (min x.su n) hn (Nat.min_le_right _ _) (by rw [heap_set_at h0]; rfl) (fun k hk => by rw [Below.heap_setCell _ _ _ _ hk, Below.heap_setCell _ _ _ _ hk]) ⟨rfl, rfl, rfl, by simp [World.setCell]⟩ (by rw [HV.out]; cases p <;> rfl) HO.out
    rw [Con.upd_at (con_nodup hh) (con_mem hx) (fun q => (q.1.take n, min q.2 n))] at this
    exact this
  have HP : Hid (p = none → cap = 0 ∧ n = 0 ∧ x.bs.length = 0) := fun e => by
    rcases (H.out.ow x hx).2 with ⟨e3, e4⟩ | ⟨g, cap', cur, e1, _⟩
    · rw [HV.out] at e3; simp at e3; omega
    · rw [HV.out, e] at e1; simp at e1
  obtain ⟨mn, hmn⟩ : ∃ mn, min x.su n = mn := ⟨_, rfl⟩
  rw [hmn] at hmin hmin2 HFIN
  clear hmn
  obtain ⟨nb, hnb⟩ : ∃ nb, x.bs.length = nb := ⟨_, rfl⟩
  rw [hnb] at c0 hcap hn HP
  clear HO HV H hnb
  rcases p with _ | ad
  · obtain ⟨rfl, rfl, rfl⟩ := HP.out rfl
    have hmin3 : min (x.su : Int) 0 = (mn : Int) := hmin
    go_enter Tryz.func59, Tryz.ntmps59
    go_wp2
    go_end0
    exact ⟨rfl, by simpa using HFIN.out⟩
  · go_enter Tryz.func59, Tryz.ntmps59
    go_wp2
    go_end0
    exact ⟨rfl, HFIN.out⟩

set_option maxRecDepth 100000 in
set_option maxHeartbeats 2000000 in
theorem flose_any {B : Nat} {S : DS} {lk : Int} (w : World) (h : Dk B w lk S) (x : Fi) (hx : x ∈ S.L) (lose : Int) (h1 : -9223372036854775808 ≤ lose) (h2 : lose ≤ 9223372036854775807) :
    Calls Tryz.prog 80 #[.pointer (some ⟨x.f, 0, none⟩), .int .i64 lose] w fun e w' => e = .returned (.tuple #[]) ∧ ∃ S' : DS, Sk S S' ∧ S'.ps = { S.ps with con := Con.upd S.ps.con x.nm (lostF lose) } ∧ Dk B w' lk S' ∧ Fr w (Fp S) w' (Fp S') := by
  obtain ⟨p, cap, hv⟩ := h.fslice hx
  have c0 : w.drew.cell? ⟨x.f, 0, none⟩ = some (.slice p x.bs.length cap) := by rw [← hv]; exact h.fcell hx
  have c1 : w.drew.cell? ⟨x.f, 1, none⟩ = some (.int .i64 (x.su : Int)) := h.scell hx
  have hsz : x.su ≤ x.bs.length ∧ x.bs.length ≤ 1000000000 := by
    have h3 := h.su x hx
    have h4 := h.rm
    have := Con.tot_upd (con_nodup h) (con_mem hx) [] 0
    rw [tot_con] at h4
    have e : S.ps.con = S.L.map Fi.con := rfl
    rw [e] at this; simp at this; omega
  obtain ⟨n, hn⟩ : ∃ n, n = leftF lose (x.bs, x.su) := ⟨_, rfl⟩
  have hn' : n = max x.su (x.bs.length - lose.toNat) := hn
  have HC : Hid (Calls Tryz.prog 59 #[.pointer (some ⟨x.f, 0, none⟩), .int .i64 (n : Int)] w.drew fun e w' => e = .returned (.tuple #[]) ∧ ∃ S' : DS, Sk S S' ∧ S'.ps = { S.ps with con := Con.upd S.ps.con x.nm (lostF lose) } ∧ Dk B w' lk S' ∧ Fr w (Fp S) w' (Fp S')) := by
    refine (fcutE_any w.drew h.drew x hx n (by omega)).mono ?_
    rintro e w' ⟨rfl, S', e1, e2, e3, e4⟩
    refine ⟨rfl, S', e1, ?_, e3, e4.drew⟩
    rw [e2]
    congr 1
    rw [← Con.upd_at (con_nodup h) (con_mem hx) (fun q => (q.1.take n, min q.2 n)), ← Con.upd_at (con_nodup h) (con_mem hx) (lostF lose)]
    unfold lostF
    rw [← hn]
  obtain ⟨nb, hnb⟩ : ∃ nb, x.bs.length = nb := ⟨_, rfl⟩
  rw [hnb] at c0 hsz hn'
  obtain ⟨ml, hml⟩ : ∃ ml : Int, ml = max lose 0 := ⟨_, rfl⟩
  have e1 : max lose 0 = ml := hml.symm
  have e1' : (if lose < 0 then 0 else lose) = ml := by rw [hml]; split <;> omega
  have e1a : (if 0 < lose then lose else 0) = ml := by rw [hml]; split <;> omega
  have e2 : wrap64 ((nb : Int) - ml) = (nb : Int) - ml := by unfold wrap64; omega
  have e2w : IntKind.i64.wrap ((nb : Int) - ml) = (nb : Int) - ml := by rw [IntKind.wrap_i64]; omega
  have e3 : max (x.su : Int) ((nb : Int) - ml) = (n : Int) := by omega
  have e3' : (if (x.su : Int) < (nb : Int) - ml then (nb : Int) - ml else (x.su : Int)) = (n : Int) := by split <;> omega
  have e3a : (if (nb : Int) - ml < (x.su : Int) then (x.su : Int) else (nb : Int) - ml) = (n : Int) := by split <;> omega
  clear h hv hn hn' hnb hml
  go_enter Tryz.func80, Tryz.ntmps80
  refine wp_region_held_drew (S := fun _ => True) (by kernel_rfl) trivial (fun hHeld => ?_)
  refine wpAnyH_take (i := 0) (v := ?_) rfl (by kernel_rfl) (by kernel_rfl) (by kernel_rfl) (fun _ _ _ h => h) (Or.inl ⟨by rfl, ?_⟩) hHeld ?_
  rotate_left
  · (intro wq hSw; (try dsimp only at hSw); (try obtain _ := hSw); (go_simp <;> with_reducible rfl))
  try simp only [Act.put, List.getElem_toArray, List.getElem_cons_zero, List.getElem_cons_succ, List.setIfInBounds_toArray, List.set_cons_zero, List.set_cons_succ]
  refine wpAnyH_take (i := 1) (v := ?_) rfl (by kernel_rfl) (by kernel_rfl) (by kernel_rfl) (fun _ _ _ h => h) (Or.inl ⟨by rfl, ?_⟩) hHeld ?_
  rotate_left
  · (intro wq hSw; (try dsimp only at hSw); (try obtain _ := hSw); (go_simp <;> with_reducible rfl))
  try simp only [Act.put, List.getElem_toArray, List.getElem_cons_zero, List.getElem_cons_succ, List.setIfInBounds_toArray, List.set_cons_zero, List.set_cons_succ]
  refine wpAnyH_take (i := 2) (v := ?_) rfl (by kernel_rfl) (by kernel_rfl) (by kernel_rfl) (fun _ _ _ h => h) (Or.inl ⟨by rfl, ?_⟩) hHeld ?_
  rotate_left
  · (intro wq hSw; (try dsimp only at hSw); (try obtain _ := hSw); (go_simp <;> with_reducible rfl))
  try simp only [Act.put, List.getElem_toArray, List.getElem_cons_zero, List.getElem_cons_succ, List.setIfInBounds_toArray, List.set_cons_zero, List.set_cons_succ]
  refine wpAnyH_take (i := 3) (v := ?_) rfl (by kernel_rfl) (by kernel_rfl) (by kernel_rfl) (fun _ _ _ h => h) (Or.inl ⟨by rfl, ?_⟩) hHeld ?_
  rotate_left
  · (intro wq hSw; (try dsimp only at hSw); (try obtain _ := hSw); (go_simp <;> with_reducible rfl))
  try simp only [Act.put, List.getElem_toArray, List.getElem_cons_zero, List.getElem_cons_succ, List.setIfInBounds_toArray, List.set_cons_zero, List.set_cons_succ]
  refine wpAnyH_take (i := 5) (v := ?_) rfl (by kernel_rfl) (by kernel_rfl) (by kernel_rfl) (fun _ _ _ h => h) (Or.inl ⟨by rfl, ?_⟩) hHeld ?_
  rotate_left
  · (intro wq hSw; (try dsimp only at hSw); (try obtain _ := hSw); (go_simp <;> with_reducible rfl))
  try simp only [Act.put, List.getElem_toArray, List.getElem_cons_zero, List.getElem_cons_succ, List.setIfInBounds_toArray, List.set_cons_zero, List.set_cons_succ]
  refine wpAnyH_take (i := 6) (v := ?_) rfl (by kernel_rfl) (by kernel_rfl) (by kernel_rfl) (fun _ _ _ h => h) (Or.inl ⟨by rfl, ?_⟩) hHeld ?_
  rotate_left
  · (intro wq hSw; (try dsimp only at hSw); (try obtain _ := hSw); (go_simp <;> with_reducible rfl))
  try simp only [Act.put, List.getElem_toArray, List.getElem_cons_zero, List.getElem_cons_succ, List.setIfInBounds_toArray, List.set_cons_zero, List.set_cons_succ]
  refine wpAnyH_take (i := 7) (v := ?_) rfl (by kernel_rfl) (by kernel_rfl) (by kernel_rfl) (fun _ _ _ h => h) (Or.inl ⟨by rfl, ?_⟩) hHeld ?_
  rotate_left
  · (intro wq hSw; (try dsimp only at hSw); (try obtain _ := hSw); (go_simp <;> with_reducible rfl))
  try simp only [Act.put, List.getElem_toArray, List.getElem_cons_zero, List.getElem_cons_succ, List.setIfInBounds_toArray, List.set_cons_zero, List.set_cons_succ]
  refine wpAnyH_take (i := 10) (v := ?_) rfl (by kernel_rfl) (by kernel_rfl) (by kernel_rfl) (fun _ _ _ h => h) (Or.inl ⟨by rfl, ?_⟩) hHeld ?_
  rotate_left
  · (intro wq hSw; (try dsimp only at hSw); (try obtain _ := hSw); (go_simp <;> with_reducible rfl))
  try simp only [Act.put, List.getElem_toArray, List.getElem_cons_zero, List.getElem_cons_succ, List.setIfInBounds_toArray, List.set_cons_zero, List.set_cons_succ]
  refine wpAnyH_take (i := 11) (v := ?_) rfl (by kernel_rfl) (by kernel_rfl) (by kernel_rfl) (fun _ _ _ h => h) (Or.inl ⟨by rfl, ?_⟩) hHeld ?_
  rotate_left
  · (intro wq hSw; (try dsimp only at hSw); (try obtain _ := hSw); (go_simp <;> with_reducible rfl))
  try simp only [Act.put, List.getElem_toArray, List.getElem_cons_zero, List.getElem_cons_succ, List.setIfInBounds_toArray, List.set_cons_zero, List.set_cons_succ]
  refine wpAnyH_ready (rs := [4, 8]) (by kernel_rfl) (by simp) ?_
  refine AllReadyH.cons rfl (fun K hK => ?_) (AllReadyH.cons rfl (fun K hK => ?_) AllReadyH.nil)
  · go_simp
    refine hK.out _ _ trivial (fun hHeld => ?_)
    clear hK K
    try simp only [Act.put, List.getElem_toArray, List.getElem_cons_zero, List.getElem_cons_succ, List.setIfInBounds_toArray, List.set_cons_zero, List.set_cons_succ]
    refine wpAnyH_ready (rs := [8]) (by kernel_rfl) (by simp) ?_
    refine AllReadyH.cons rfl (fun K hK => ?_) AllReadyH.nil
    go_simp
    refine hK.out _ _ trivial (fun hHeld => ?_)
    clear hK K
    try simp only [Act.put, List.getElem_toArray, List.getElem_cons_zero, List.getElem_cons_succ, List.setIfInBounds_toArray, List.set_cons_zero, List.set_cons_succ]
    refine wpAnyH_take (i := 9) (v := ?_) rfl (by kernel_rfl) (by kernel_rfl) (by kernel_rfl) (fun _ _ _ h => h) (Or.inl ⟨by rfl, ?_⟩) hHeld ?_
    rotate_left
    · (intro wq hSw; (try dsimp only at hSw); (try obtain _ := hSw); (go_simp <;> with_reducible rfl))
    try simp only [Act.put, List.getElem_toArray, List.getElem_cons_zero, List.getElem_cons_succ, List.setIfInBounds_toArray, List.set_cons_zero, List.set_cons_succ]
    refine wpAnyH_take (i := 12) (v := ?_) rfl (by kernel_rfl) (by kernel_rfl) (by kernel_rfl) (fun _ _ _ h => h) (Or.inl ⟨by rfl, ?_⟩) hHeld ?_
    rotate_left
    · (intro wq hSw; (try dsimp only at hSw); (try obtain _ := hSw); (go_simp <;> with_reducible rfl))
    try simp only [Act.put, List.getElem_toArray, List.getElem_cons_zero, List.getElem_cons_succ, List.setIfInBounds_toArray, List.set_cons_zero, List.set_cons_succ]
    refine wpAnyH_take (i := 13) (v := ?_) rfl (by kernel_rfl) (by kernel_rfl) (by kernel_rfl) (fun _ _ _ h => h) (Or.inl ⟨by rfl, ?_⟩) hHeld ?_
    rotate_left
    · (intro wq hSw; (try dsimp only at hSw); (try obtain _ := hSw); (go_simp <;> with_reducible rfl))
    try simp only [Act.put, List.getElem_toArray, List.getElem_cons_zero, List.getElem_cons_succ, List.setIfInBounds_toArray, List.set_cons_zero, List.set_cons_succ]
    refine wpAnyH_ready (rs := [14]) (by kernel_rfl) (by simp) ?_
    refine AllReadyH.cons rfl (fun K hK => ?_) AllReadyH.nil
    go_simp

    refine HC.out.mono ?_
    rintro e w' ⟨rfl, hR⟩
    have H5 := hide hR
    clear hR
    refine hK.out _ _ trivial (fun hHeld => ?_)
    clear hK K
    try simp only [Act.put, List.getElem_toArray, List.getElem_cons_zero, List.getElem_cons_succ, List.setIfInBounds_toArray, List.set_cons_zero, List.set_cons_succ]
    refine wpAnyH_done (by kernel_rfl) ?_ _
    go_end0
    exact ⟨rfl, H5.out⟩
  · go_simp
    refine hK.out _ _ trivial (fun hHeld => ?_)
    clear hK K
    try simp only [Act.put, List.getElem_toArray, List.getElem_cons_zero, List.getElem_cons_succ, List.setIfInBounds_toArray, List.set_cons_zero, List.set_cons_succ]
    refine wpAnyH_take (i := 9) (v := ?_) rfl (by kernel_rfl) (by kernel_rfl) (by kernel_rfl) (fun _ _ _ h => h) (Or.inl ⟨by rfl, ?_⟩) hHeld ?_
    rotate_left
    · (intro wq hSw; (try dsimp only at hSw); (try obtain _ := hSw); (go_simp <;> with_reducible rfl))
    try simp only [Act.put, List.getElem_toArray, List.getElem_cons_zero, List.getElem_cons_succ, List.setIfInBounds_toArray, List.set_cons_zero, List.set_cons_succ]
    refine wpAnyH_take (i := 12) (v := ?_) rfl (by kernel_rfl) (by kernel_rfl) (by kernel_rfl) (fun _ _ _ h => h) (Or.inl ⟨by rfl, ?_⟩) hHeld ?_
    rotate_left
    · (intro wq hSw; (try dsimp only at hSw); (try obtain _ := hSw); (go_simp <;> with_reducible rfl))
    try simp only [Act.put, List.getElem_toArray, List.getElem_cons_zero, List.getElem_cons_succ, List.setIfInBounds_toArray, List.set_cons_zero, List.set_cons_succ]
    refine wpAnyH_ready (rs := [4]) (by kernel_rfl) (by simp) ?_
    refine AllReadyH.cons rfl (fun K hK => ?_) AllReadyH.nil
    go_simp
    refine hK.out _ _ trivial (fun hHeld => ?_)
    clear hK K
    try simp only [Act.put, List.getElem_toArray, List.getElem_cons_zero, List.getElem_cons_succ, List.setIfInBounds_toArray, List.set_cons_zero, List.set_cons_succ]
    refine wpAnyH_take (i := 13) (v := ?_) rfl (by kernel_rfl) (by kernel_rfl) (by kernel_rfl) (fun _ _ _ h => h) (Or.inl ⟨by rfl, ?_⟩) hHeld ?_
    rotate_left
    · (intro wq hSw; (try dsimp only at hSw); (try obtain _ := hSw); (go_simp <;> with_reducible rfl))
    try simp only [Act.put, List.getElem_toArray, List.getElem_cons_zero, List.getElem_cons_succ, List.setIfInBounds_toArray, List.set_cons_zero, List.set_cons_succ]
    refine wpAnyH_ready (rs := [14]) (by kernel_rfl) (by simp) ?_
    refine AllReadyH.cons rfl (fun K hK => ?_) AllReadyH.nil
    go_simp

    refine HC.out.mono ?_
    rintro e w' ⟨rfl, hR⟩
    have H5 := hide hR
    clear hR
    refine hK.out _ _ trivial (fun hHeld => ?_)
    clear hK K
    try simp only [Act.put, List.getElem_toArray, List.getElem_cons_zero, List.getElem_cons_succ, List.setIfInBounds_toArray, List.set_cons_zero, List.set_cons_succ]
    refine wpAnyH_done (by kernel_rfl) ?_ _
    go_end0
    exact ⟨rfl, H5.out⟩

end Go.Proofs.YtlandfghodfjdaaGreat

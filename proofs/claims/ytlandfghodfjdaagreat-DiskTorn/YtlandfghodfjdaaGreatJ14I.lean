/- How many bytes files have, as the law's size tells it; its sums. -/
import Derived.Test.YtlandfghodfjdaaGreatJ14A
import Derived.Test.YtlandfghodfjdaaGreatJ13E
/- Load: whatever comes. -/
namespace Go.Proofs.YtlandfghodfjdaaGreat
open Go.RowKit
set_option linter.unusedVariables false
set_option linter.unusedSimpArgs false

/-- How many bytes files have. -/
def totB : List (ByteArray × List Nat) → Nat
  | [] => 0
  | x :: l => x.2.length + totB l
theorem totB_app : ∀ a b : List (ByteArray × List Nat), totB (a ++ b) = totB a + totB b
  | [], b => by simp [totB]
  | x :: a, b => by simp only [List.cons_append, totB, totB_app a b]; omega

/-- May these be loaded? -/
def LoadOk (fs : List (ByteArray × List Nat)) (room : Nat) : Prop := (∀ x ∈ fs, okN x.1) ∧ (fs.map (·.1)).Nodup ∧ fs.length ≤ 256 ∧ totB fs ≤ room

def con0 (fs : List (ByteArray × List Nat)) : Con := fs.map fun x => (x.1, x.2, 0)
def con1 (fs : List (ByteArray × List Nat)) : Con := fs.map fun x => (x.1, x.2, x.2.length)

theorem tot_con0 (fs : List (ByteArray × List Nat)) : Con.tot (con0 fs) = totB fs := by
  induction fs with
  | nil => rfl
  | cons x l ih => show x.2.length + Con.tot (con0 l) = _; rw [ih]; rfl

/-- While files are loaded. -/
structure LdI (w wr : World) (d room k : Nat) (fs : List (ByteArray × List Nat)) (S : DS) : Prop where
  dk : Dk w.heap.size wr 0 S
  dd : S.d = d
  ps : S.ps = { con := con0 (fs.take k), room := room, off := false, ain := 0, keep := 0, lose := 0, wr := 0 }
  ok : ∀ x ∈ fs.take k, okN x.1
  bel : Below w.heap.size w wr

theorem LdI.below {w wr w2 : World} {d room k : Nat} {fs : List (ByteArray × List Nat)} {S : DS} (h : LdI w wr d room k fs S) (hb : Below wr.heap.size wr w2) : LdI w w2 d room k fs S :=
  ⟨h.dk.below hb, h.dd, h.ps, h.ok, h.bel.trans (hb.mono h.bel.size)⟩

theorem LdI.con {w wr : World} {d room k : Nat} {fs : List (ByteArray × List Nat)} {S : DS} (h : LdI w wr d room k fs S) : S.ps.con = con0 (fs.take k) := by rw [h.ps]
theorem LdI.room {w wr : World} {d room k : Nat} {fs : List (ByteArray × List Nat)} {S : DS} (h : LdI w wr d room k fs S) : S.room = room := congrArg PS.room h.ps
theorem LdI.tot {w wr : World} {d room k : Nat} {fs : List (ByteArray × List Nat)} {S : DS} (h : LdI w wr d room k fs S) : _root_.Go.Proofs.YtlandfghodfjdaaGreat.tot S.L = totB (fs.take k) := by rw [tot_con, show S.L.map Fi.con = S.ps.con from rfl, h.con, tot_con0]
theorem LdI.len {w wr : World} {d room k : Nat} {fs : List (ByteArray × List Nat)} {S : DS} (h : LdI w wr d room k fs S) (hk : k ≤ fs.length) : S.L.length = k := by
  have h1 : S.ps.con.length = S.L.length := by unfold DS.ps; simp
  rw [← h1, h.con]; unfold con0; simp; omega
theorem LdI.nms {w wr : World} {d room k : Nat} {fs : List (ByteArray × List Nat)} {S : DS} (h : LdI w wr d room k fs S) : S.L.map (·.nm) = (fs.take k).map (·.1) := by rw [← con_names, h.con]; unfold con0; rw [List.map_map]; rfl

theorem take_cut {fs : List (ByteArray × List Nat)} {k : Nat} (hk : k < fs.length) : fs = fs.take k ++ fs.getD k (.empty, []) :: fs.drop (k + 1) := by
  conv => lhs; rw [← List.take_append_drop k fs, List.drop_eq_getElem_cons hk]
  simp [List.getD, List.getElem?_eq_getElem hk]

theorem not_name {fs : List (ByteArray × List Nat)} {k room : Nat} (hk : k < fs.length) (h : ¬ okN (fs.getD k (.empty, [])).1) : ¬ LoadOk fs room := fun e => h (e.1 _ (by simp [List.getD, List.getElem?_eq_getElem hk]))

theorem not_twice {w wr : World} {d room k : Nat} {fs : List (ByteArray × List Nat)} {S : DS} (h : LdI w wr d room k fs S) (hk : k < fs.length) (hx : ∃ x ∈ S.L, x.nm = (fs.getD k (.empty, [])).1) : ¬ LoadOk fs room := fun e => by
  have h1 := e.2.1
  rw [take_cut hk, List.map_append, List.map_cons] at h1
  obtain ⟨x, hx, e2⟩ := hx
  have h2 : x.nm ∈ (fs.take k).map (·.1) := by rw [← h.nms]; exact List.mem_map.2 ⟨x, hx, rfl⟩
  rw [e2] at h2
  exact (List.nodup_append.1 h1).2.2 _ h2 _ (by simp) rfl

theorem not_fits {w wr : World} {d room k : Nat} {fs : List (ByteArray × List Nat)} {S : DS} (h : LdI w wr d room k fs S) (hk : k < fs.length) (hf : ¬ (((∃ x ∈ S.L, x.nm = (fs.getD k (.empty, [])).1) ∨ S.L.length < 256) ∧ (fs.getD k (.empty, [])).2.length + tot S.L ≤ S.room)) : ¬ LoadOk fs room := fun e => by
  refine hf ⟨.inr ?_, ?_⟩
  · rw [h.len (Nat.le_of_lt hk)]; have := e.2.2.1; omega
  · have h1 := e.2.2.2
    rw [take_cut hk, totB_app] at h1
    rw [h.tot, h.room]
    simp only [totB] at h1
    omega

theorem LdI.more {w wr w2 : World} {d room k : Nat} {fs : List (ByteArray × List Nat)} {S S' : DS} (h : LdI w wr d room k fs S) (hk : k < fs.length) (hok : okN (fs.getD k (.empty, [])).1) (hx : ∀ x ∈ S.L, x.nm ≠ (fs.getD k (.empty, [])).1) (hd : S'.d = S.d) (hp : S'.ps = { S.ps with con := Con.app S.ps.con (fs.getD k (.empty, [])).1 (fs.getD k (.empty, [])).2 }) (hD : Dk w.heap.size w2 0 S') (hf : Fr wr (Fp S) w2 (Fp S')) : LdI w w2 d room (k + 1) fs S' := by
  have ht : fs.take (k + 1) = fs.take k ++ [fs.getD k (.empty, [])] := by
    rw [List.take_add_one, List.getElem?_eq_getElem hk]; simp [List.getD, List.getElem?_eq_getElem hk]
  refine ⟨hD, hd.trans h.dd, ?_, fun x hx => ?_, h.bel.trans (hf.below h.dk.fpB h.bel.size)⟩
  · have hn : ∀ y ∈ S.ps.con, y.1 ≠ (fs.getD k (.empty, [])).1 := fun y hy => by
      obtain ⟨x, hx', rfl⟩ := List.mem_map.1 hy
      exact hx x hx'
    rw [hp, ← Con.app_new hn, h.con, ht, h.ps]
    unfold con0
    rw [List.map_append]
    rfl
  · rw [ht] at hx
    rcases List.mem_append.1 hx with hx | hx
    · exact h.ok x hx
    · rw [List.mem_singleton.1 hx]; exact hok

theorem each_con0 (fs : List (ByteArray × List Nat)) : Con.each (con0 fs) sureF = con1 fs := by
  unfold Con.each con0 con1
  rw [List.map_map]
  rfl

theorem new_bad (w : World) (room : Int) (h : ¬ (1 ≤ room ∧ room ≤ 268435456)) :
    Calls Tryz.prog 6 #[.int .i64 room] w fun e w' => e = .returned (.tuple #[.pointer none, .int .i64 100]) ∧ w' = w := by
  by_cases h1 : room < 1
  · go_enter Tryz.func6, Tryz.ntmps6
    go_wp2
    go_ret2
    exact ⟨rfl, rfl⟩
  · have h2 : 268435456 < room := by omega
    go_enter Tryz.func6, Tryz.ntmps6
    go_wp2
    go_ret2
    exact ⟨rfl, rfl⟩

theorem load_bad (w : World) (v : Value) (room : Int) (h : ¬ (1 ≤ room ∧ room ≤ 268435456)) :
    Calls Tryz.prog 18 #[v, .int .i64 room] w fun e w' => e = .returned (.tuple #[.pointer none, .int .i64 100]) ∧ w' = w := by
  have HN := hide (new_bad w room h)
  clear h
  go_enter Tryz.func18, Tryz.ntmps18
  go_wp2_with (go_at_call 6; refine HN.out.mono ?_; rintro e w2 ⟨rfl, hw⟩; have hw2 := hw.symm; subst hw2)
  go_ret2
  exact ⟨rfl, rfl⟩

/-- What Load tells where the room is one. -/
def LoadE (w : World) (fs : List (ByteArray × List Nat)) (room : Nat) (e : Ending) (w' : World) : Prop :=
  (¬ LoadOk fs room ∧ e = .returned (.tuple #[.pointer none, .int .i64 106]) ∧ Below w.heap.size w w') ∨
  (LoadOk fs room ∧ ∃ S : DS, e = .returned (.tuple #[.pointer (some ⟨S.d, 0, none⟩), .int .i64 0]) ∧ Dk w.heap.size w' 0 S ∧ S.ps = { con := con1 fs, room := room, off := false, ain := 0, keep := 0, lose := 0, wr := 0 } ∧ Below w.heap.size w w')

set_option maxRecDepth 100000 in
set_option maxHeartbeats 8000000 in
theorem load_room (w : World) (v : Value) (vals : List Value) (fs : List (ByteArray × List Nat)) (hR : FilesR w v vals fs) (hl : fs.length ≤ 140737488355328) (hf : ∀ i, i < fs.length → (fs.getD i (.empty, [])).1.size ≤ 140737488355328 ∧ ByIn w (vals.getD i (.slice none 0 0)) (fs.getD i (.empty, [])).2) (room : Nat) (h1 : 1 ≤ room) (h2 : room ≤ 268435456) :
    Calls Tryz.prog 18 #[v, .int .i64 (room : Int)] w fun e w' => LoadE w fs room e w' := by
  obtain ⟨n, hn⟩ : ∃ n, fs.length = n := ⟨_, rfl⟩
  obtain ⟨hv, pv, cv, rfl, hc⟩ := hR
  have HV := hide hv
  have HC := hide hc
  have HN := hide hn
  have HFS := hide hf
  rw [hn] at hl ⊢
  clear hv hc hn hf
  have HNW := hide (new_ok w w.heap.size (Nat.le_refl _) room h1 h2)
  go_enter Tryz.func18, Tryz.ntmps18
  go_upto_block 0 with (go_at_call 6; refine HNW.out.mono ?_; rintro e w1 ⟨S, rfl, e1, e2, e3, e4⟩; obtain ⟨d, hd⟩ : ∃ d, S.d = d := ⟨_, rfl⟩; have H1 : Hid (LdI w w1 d room 0 fs S) := ⟨e1, hd, by rw [e2]; rfl, by simp, e3⟩; rw [hd]; clear e1 e2 e3 e4 hd HNW)
  go_wp2_with fail
  go_loopw [20] (fun t20 wr => ∃ k : Nat, t20 = .int .i64 (k : Int) ∧ k ≤ n ∧ Hid (∃ S, LdI w wr d room k fs S)) (fun t20 _ => n - (intOf t20).toNat)
  case atStart => exact ⟨0, rfl, Nat.zero_le _, S, H1.out⟩
  case round =>
    clear H1
    obtain ⟨k, rfl, hk, HI⟩ := hrel
    by_cases hlt : k < n
    · have hlt' : (k : Int) < (n : Int) := by omega
      obtain ⟨S, hS⟩ := HI.out
      have HK : Hid (k < fs.length) := by show _ < _; rw [HN.out]; exact hlt
      obtain ⟨hsz, pb, nb, cb, hvk, hn47, hncb, hpc, hib, hnb, hb256⟩ := HFS.out k HK.out
      obtain ⟨g, o, rfl, k1, k2⟩ := HC.out k HK.out
      rw [hvk] at k2
      obtain ⟨x, hx⟩ : ∃ x, fs.getD k (.empty, []) = x := ⟨_, rfl⟩
      have HX := hide hx
      rw [hx] at hsz k1 hib hnb hb256
      obtain ⟨nm, bs⟩ := x
      have hib2 := isBy_below hib hS.bel
      have k1' := hS.bel.cell (p := ⟨g, o + k * 2, none⟩) (World.block_lt_of_cell? _ _ k1)
      have k2' := hS.bel.cell (p := ⟨g, o + k * 2 + 1, none⟩) (World.block_lt_of_cell? _ _ k2)
      have c1 : wr.cell? ⟨g, o + k * 2, none⟩ = some (.string nm) := k1'.trans k1
      have c2 : wr.cell? ⟨g, o + k * 2 + 1, none⟩ = some (.slice pb nb cb) := k2'.trans k2
      have hB0 : Below wr.heap.size wr (wr.alloc (.cells #[.string nm, .slice pb nb cb] 74)) := (Below.refl _ _).alloc (Nat.le_refl _) _
      have HO : Hid ((wr.alloc (.cells #[.string nm, .slice pb nb cb] 74)).heap[wr.heap.size]? = some (.cells #[.string nm, .slice pb nb cb] 74 (0, 0))) := heap_alloc_new _ _
      have HF := hide (hS.below hB0)
      have HBY : Hid (IsBy (wr.alloc (.cells #[.string nm, .slice pb nb cb] 74)) (.slice pb nb cb) bs ∧ nb = bs.length ∧ ∀ n ∈ bs, n < 256) := ⟨isBy_below hib2 hB0, hnb, hb256⟩
      have HMB : Hid (∀ w, Calls Tryz.prog 43 #[.string nm] w fun e w' => MayE nm e ∧ w' = w) := fun w => mayBe_any nm w hsz
      have HBE := hide (hS.bel.trans (hB0.mono hS.bel.size))
      clear hvk k1 k2 k1' k2' hib hib2 hnb hb256 hS hB0 hx HI hncb hpc
      go_upto_region 7 with fail
      obtain ⟨wf, hwf⟩ : ∃ wf, wr.alloc (.cells #[.string nm, .slice pb nb cb] 74) = wf := ⟨_, rfl⟩
      rw [hwf] at HO HF HBY HBE ⊢
      have HWL : Hid (wr.heap.size < wf.heap.size) := heap_lt HO.out
      clear hwf c1 c2
      by_cases hok : okN nm
      · by_cases hxe : ∃ x ∈ S.L, x.nm = nm
        · have HNO : Hid (¬ LoadOk fs room) := not_twice HF.out HK.out (by rw [HX.out]; exact hxe)
          obtain ⟨y, hxm, rfl⟩ := hxe
          have q0 : wf.drew.cell? ⟨wr.heap.size, 0, none⟩ = some (.string y.nm) := cell_of_row _ _ _ _ _ _ HO.out
          have q1 : wf.drew.cell? ⟨wr.heap.size, 1, none⟩ = some (.slice pb nb cb) := cell_of_row _ _ _ _ _ _ HO.out
          have q2 : wf.drew.cell? ⟨d, 3, none⟩ = some (.map (some S.m)) := by have := HF.out.dk.drew.cell 3 (.map (some S.m)) rfl; rw [HF.out.dd] at this; exact this
          have q3 : (Instr.lookup 57 (.map (some S.m)) (.string y.nm) false).run Tryz.prog wf.drew = .ok (.pointer (some ⟨y.f, 0, none⟩)) wf.drew := HF.out.dk.drew.look hxm

          refine wp_region_held_drew (S := fun w' => w'.cell? ⟨wr.heap.size, 0, none⟩ = some (.string y.nm) ∧ w'.cell? ⟨wr.heap.size, 1, none⟩ = some (.slice pb nb cb) ∧ w'.cell? ⟨d, 3, none⟩ = some (.map (some S.m)) ∧ (Instr.lookup 57 (.map (some S.m)) (.string y.nm) false).run Tryz.prog w' = .ok (.pointer (some ⟨y.f, 0, none⟩)) w') (by kernel_rfl) ⟨q0, q1, q2, q3⟩ (fun hHeld => ?_)
          refine wpAnyH_take (i := 0) (v := ?_) rfl (by kernel_rfl) (by kernel_rfl) (by kernel_rfl) (fun _ _ _ h => h) (Or.inl ⟨by rfl, ?_⟩) hHeld ?_
          rotate_left
          · (intro wq hSw; (try dsimp only at hSw); (try obtain ⟨s0, s1, s2, s3⟩ := hSw); (go_simp <;> with_reducible rfl))
          try simp only [Act.put, List.getElem_toArray, List.getElem_cons_zero, List.getElem_cons_succ, List.setIfInBounds_toArray, List.set_cons_zero, List.set_cons_succ]
          refine wpAnyH_take (i := 1) (v := ?_) rfl (by kernel_rfl) (by kernel_rfl) (by kernel_rfl) (fun _ _ _ h => h) (Or.inl ⟨by rfl, ?_⟩) hHeld ?_
          rotate_left
          · (intro wq hSw; (try dsimp only at hSw); (try obtain ⟨s0, s1, s2, s3⟩ := hSw); (go_simp <;> with_reducible rfl))
          try simp only [Act.put, List.getElem_toArray, List.getElem_cons_zero, List.getElem_cons_succ, List.setIfInBounds_toArray, List.set_cons_zero, List.set_cons_succ]
          refine wpAnyH_ready (rs := [2]) (by kernel_rfl) (by simp) ?_
          refine AllReadyH.cons rfl (fun K hK => ?_) AllReadyH.nil
          go_simp
          refine (HMB.out wf.drew).mono ?_
          rintro _ w5 ⟨⟨bm, rfl, hbm⟩, hw5⟩
          have hw6 := hw5.symm
          subst hw6
          have hbt : bm = true := hbm.2 hok
          subst hbt
          clear hbm HMB
          refine hK.out _ _ ⟨q0, q1, q2, q3⟩ (fun hHeld => ?_)
          clear hK K
          try simp only [Act.put, List.getElem_toArray, List.getElem_cons_zero, List.getElem_cons_succ, List.setIfInBounds_toArray, List.set_cons_zero, List.set_cons_succ]
          refine wpAnyH_take (i := 3) (v := ?_) rfl (by kernel_rfl) (by kernel_rfl) (by kernel_rfl) (fun _ _ _ h => h) (Or.inl ⟨by rfl, ?_⟩) hHeld ?_
          rotate_left
          · (intro wq hSw; (try dsimp only at hSw); (try obtain ⟨s0, s1, s2, s3⟩ := hSw); (go_simp <;> with_reducible rfl))
          try simp only [Act.put, List.getElem_toArray, List.getElem_cons_zero, List.getElem_cons_succ, List.setIfInBounds_toArray, List.set_cons_zero, List.set_cons_succ]
          refine wpAnyH_take (i := 4) (v := ?_) rfl (by kernel_rfl) (by kernel_rfl) (by kernel_rfl) (fun _ _ _ h => h) (Or.inl ⟨by rfl, ?_⟩) hHeld ?_
          rotate_left
          · (intro wq hSw; (try dsimp only at hSw); (try obtain ⟨s0, s1, s2, s3⟩ := hSw); (go_simp <;> with_reducible rfl))
          try simp only [Act.put, List.getElem_toArray, List.getElem_cons_zero, List.getElem_cons_succ, List.setIfInBounds_toArray, List.set_cons_zero, List.set_cons_succ]
          refine wpAnyH_take (i := 5) (v := ?_) rfl (by kernel_rfl) (by kernel_rfl) (by kernel_rfl) (fun _ _ _ h => h) (Or.inl ⟨by rfl, ?_⟩) hHeld ?_
          rotate_left
          · (intro wq hSw; (try dsimp only at hSw); (try obtain ⟨s0, s1, s2, s3⟩ := hSw); (go_simp <;> with_reducible rfl))
          try simp only [Act.put, List.getElem_toArray, List.getElem_cons_zero, List.getElem_cons_succ, List.setIfInBounds_toArray, List.set_cons_zero, List.set_cons_succ]
          refine wpAnyH_take (i := 6) (v := ?_) rfl (by kernel_rfl) (by kernel_rfl) (by kernel_rfl) (fun _ _ _ h => h) (Or.inl ⟨by rfl, ?_⟩) hHeld ?_
          rotate_left
          · (intro wq hSw; (try dsimp only at hSw); (try obtain ⟨s0, s1, s2, s3⟩ := hSw); (go_simp <;> with_reducible rfl))
          try simp only [Act.put, List.getElem_toArray, List.getElem_cons_zero, List.getElem_cons_succ, List.setIfInBounds_toArray, List.set_cons_zero, List.set_cons_succ]
          refine wpAnyH_take (i := 7) (v := ?_) rfl (by kernel_rfl) (by kernel_rfl) (by kernel_rfl) (fun _ _ _ h => h) (Or.inl ⟨by rfl, ?_⟩) hHeld ?_
          rotate_left
          · (intro wq hSw; (try dsimp only at hSw); (try obtain ⟨s0, s1, s2, s3⟩ := hSw); (go_simp <;> with_reducible rfl))
          try simp only [Act.put, List.getElem_toArray, List.getElem_cons_zero, List.getElem_cons_succ, List.setIfInBounds_toArray, List.set_cons_zero, List.set_cons_succ]
          refine wpAnyH_take (i := 8) (v := ?_) rfl (by kernel_rfl) (by kernel_rfl) (by kernel_rfl) (fun _ _ _ h => h) (Or.inl ⟨by rfl, ?_⟩) hHeld ?_
          rotate_left
          · (intro wq hSw; (try dsimp only at hSw); (try obtain ⟨s0, s1, s2, s3⟩ := hSw); (go_simp <;> with_reducible rfl))
          try simp only [Act.put, List.getElem_toArray, List.getElem_cons_zero, List.getElem_cons_succ, List.setIfInBounds_toArray, List.set_cons_zero, List.set_cons_succ]
          refine wpAnyH_take (i := 9) (v := ?_) rfl (by kernel_rfl) (by kernel_rfl) (by kernel_rfl) (fun _ _ _ h => h) (Or.inl ⟨by rfl, ?_⟩) hHeld ?_
          rotate_left
          · (intro wq hSw; (try dsimp only at hSw); (try obtain ⟨s0, s1, s2, s3⟩ := hSw); (go_simp <;> with_reducible rfl))
          try simp only [Act.put, List.getElem_toArray, List.getElem_cons_zero, List.getElem_cons_succ, List.setIfInBounds_toArray, List.set_cons_zero, List.set_cons_succ]
          refine wpAnyH_take (i := 10) (v := ?_) rfl (by kernel_rfl) (by kernel_rfl) (by kernel_rfl) (fun _ _ _ h => h) (Or.inl ⟨by rfl, ?_⟩) hHeld ?_
          rotate_left
          · (intro wq hSw; (try dsimp only at hSw); (try obtain ⟨s0, s1, s2, s3⟩ := hSw); (go_simp <;> with_reducible rfl))
          try simp only [Act.put, List.getElem_toArray, List.getElem_cons_zero, List.getElem_cons_succ, List.setIfInBounds_toArray, List.set_cons_zero, List.set_cons_succ]
          refine wpAnyH_take (i := 11) (v := ?_) rfl (by kernel_rfl) (by kernel_rfl) (by kernel_rfl) (fun _ _ _ h => h) (Or.inl ⟨by rfl, ?_⟩) hHeld ?_
          rotate_left
          · (intro wq hSw; (try dsimp only at hSw); (try obtain ⟨s0, s1, s2, s3⟩ := hSw); (go_simp <;> with_reducible rfl))
          try simp only [Act.put, List.getElem_toArray, List.getElem_cons_zero, List.getElem_cons_succ, List.setIfInBounds_toArray, List.set_cons_zero, List.set_cons_succ]
          refine wpAnyH_take (i := 12) (v := ?_) rfl (by kernel_rfl) (by kernel_rfl) (by kernel_rfl) (fun _ _ _ h => h) (Or.inl ⟨by rfl, ?_⟩) hHeld ?_
          rotate_left
          · (intro wq hSw; (try dsimp only at hSw); (try obtain ⟨s0, s1, s2, s3⟩ := hSw); (go_simp <;> with_reducible rfl))
          try simp only [Act.put, List.getElem_toArray, List.getElem_cons_zero, List.getElem_cons_succ, List.setIfInBounds_toArray, List.set_cons_zero, List.set_cons_succ]
          refine wpAnyH_take (i := 13) (v := ?_) rfl (by kernel_rfl) (by kernel_rfl) (by kernel_rfl) (fun _ _ _ h => h) (Or.inl ⟨by rfl, ?_⟩) hHeld ?_
          rotate_left
          · (intro wq hSw; (try dsimp only at hSw); (try obtain ⟨s0, s1, s2, s3⟩ := hSw); (go_simp <;> with_reducible rfl))
          try simp only [Act.put, List.getElem_toArray, List.getElem_cons_zero, List.getElem_cons_succ, List.setIfInBounds_toArray, List.set_cons_zero, List.set_cons_succ]
          refine wpAnyH_take (i := 14) (v := ?_) rfl (by kernel_rfl) (by kernel_rfl) (by kernel_rfl) (fun _ _ _ h => h) (Or.inl ⟨by rfl, ?_⟩) hHeld ?_
          rotate_left
          · (intro wq hSw; (try dsimp only at hSw); (try obtain ⟨s0, s1, s2, s3⟩ := hSw); (go_simp <;> with_reducible rfl))
          try simp only [Act.put, List.getElem_toArray, List.getElem_cons_zero, List.getElem_cons_succ, List.setIfInBounds_toArray, List.set_cons_zero, List.set_cons_succ]
          refine wpAnyH_take (i := 15) (v := undef) rfl (by kernel_rfl) (by kernel_rfl) (by kernel_rfl) (fun _ _ _ h => h) (Or.inr ⟨by rfl, rfl⟩) hHeld ?_
          try simp only [Act.put, List.getElem_toArray, List.getElem_cons_zero, List.getElem_cons_succ, List.setIfInBounds_toArray, List.set_cons_zero, List.set_cons_succ]
          refine wpAnyH_take (i := 16) (v := undef) rfl (by kernel_rfl) (by kernel_rfl) (by kernel_rfl) (fun _ _ _ h => h) (Or.inr ⟨by rfl, rfl⟩) hHeld ?_
          try simp only [Act.put, List.getElem_toArray, List.getElem_cons_zero, List.getElem_cons_succ, List.setIfInBounds_toArray, List.set_cons_zero, List.set_cons_succ]
          refine wpAnyH_take (i := 17) (v := undef) rfl (by kernel_rfl) (by kernel_rfl) (by kernel_rfl) (fun _ _ _ h => h) (Or.inr ⟨by rfl, rfl⟩) hHeld ?_
          try simp only [Act.put, List.getElem_toArray, List.getElem_cons_zero, List.getElem_cons_succ, List.setIfInBounds_toArray, List.set_cons_zero, List.set_cons_succ]
          refine wpAnyH_take (i := 18) (v := undef) rfl (by kernel_rfl) (by kernel_rfl) (by kernel_rfl) (fun _ _ _ h => h) (Or.inr ⟨by rfl, rfl⟩) hHeld ?_
          try simp only [Act.put, List.getElem_toArray, List.getElem_cons_zero, List.getElem_cons_succ, List.setIfInBounds_toArray, List.set_cons_zero, List.set_cons_succ]
          refine wpAnyH_take (i := 19) (v := undef) rfl (by kernel_rfl) (by kernel_rfl) (by kernel_rfl) (fun _ _ _ h => h) (Or.inr ⟨by rfl, rfl⟩) hHeld ?_
          try simp only [Act.put, List.getElem_toArray, List.getElem_cons_zero, List.getElem_cons_succ, List.setIfInBounds_toArray, List.set_cons_zero, List.set_cons_succ]
          refine wpAnyH_take (i := 20) (v := undef) rfl (by kernel_rfl) (by kernel_rfl) (by kernel_rfl) (fun _ _ _ h => h) (Or.inr ⟨by rfl, rfl⟩) hHeld ?_
          try simp only [Act.put, List.getElem_toArray, List.getElem_cons_zero, List.getElem_cons_succ, List.setIfInBounds_toArray, List.set_cons_zero, List.set_cons_succ]
          refine wpAnyH_take (i := 21) (v := undef) rfl (by kernel_rfl) (by kernel_rfl) (by kernel_rfl) (fun _ _ _ h => h) (Or.inr ⟨by rfl, rfl⟩) hHeld ?_
          try simp only [Act.put, List.getElem_toArray, List.getElem_cons_zero, List.getElem_cons_succ, List.setIfInBounds_toArray, List.set_cons_zero, List.set_cons_succ]
          refine wpAnyH_take (i := 22) (v := undef) rfl (by kernel_rfl) (by kernel_rfl) (by kernel_rfl) (fun _ _ _ h => h) (Or.inr ⟨by rfl, rfl⟩) hHeld ?_
          try simp only [Act.put, List.getElem_toArray, List.getElem_cons_zero, List.getElem_cons_succ, List.setIfInBounds_toArray, List.set_cons_zero, List.set_cons_succ]
          refine wpAnyH_take (i := 23) (v := ?_) rfl (by kernel_rfl) (by kernel_rfl) (by kernel_rfl) (fun _ _ _ h => h) (Or.inl ⟨by rfl, ?_⟩) hHeld ?_
          rotate_left
          · (intro wq hSw; (try dsimp only at hSw); (try obtain ⟨s0, s1, s2, s3⟩ := hSw); (go_simp <;> with_reducible rfl))
          try simp only [Act.put, List.getElem_toArray, List.getElem_cons_zero, List.getElem_cons_succ, List.setIfInBounds_toArray, List.set_cons_zero, List.set_cons_succ]
          refine wpAnyH_done (by kernel_rfl) ?_ _
          clear q0 q1 q2 q3 HX
          go_wp2_with fail
          go_ret2
          exact .inl ⟨HNO.out, rfl, ⟨HBE.out.os, HBE.out.tape, HBE.out.output, HBE.out.size, HBE.out.block⟩⟩
        · have hxm : ∀ x ∈ S.L, x.nm ≠ nm := fun x h e => hxe ⟨x, h, e⟩
          have HFT : Hid (∀ w2, w2.heap = wf.heap → Calls Tryz.prog 44 #[.pointer (some ⟨d, 0, none⟩), .string nm, .int .i64 (nb : Int)] w2 fun e w' => FitE S nm nb e ∧ Below w2.heap.size w2 w') := fun w2 h2 => by
            rw [← HF.out.dd]
            exact fits_any w2 (HF.out.dk.keep fun k _ => by rw [h2]) nm nb hn47
          by_cases hfi : ((∃ x ∈ S.L, x.nm = nm) ∨ S.L.length < 256) ∧ nb + tot S.L ≤ S.room
          · have HFI := hide hfi
            clear hfi
            have q0 : wf.drew.cell? ⟨wr.heap.size, 0, none⟩ = some (.string nm) := cell_of_row _ _ _ _ _ _ HO.out
            have q1 : wf.drew.cell? ⟨wr.heap.size, 1, none⟩ = some (.slice pb nb cb) := cell_of_row _ _ _ _ _ _ HO.out
            have q2 : wf.drew.cell? ⟨d, 3, none⟩ = some (.map (some S.m)) := by have := HF.out.dk.drew.cell 3 (.map (some S.m)) rfl; rw [HF.out.dd] at this; exact this
            have q3 : (Instr.lookup 57 (.map (some S.m)) (.string nm) false).run Tryz.prog wf.drew = .ok (.pointer none) wf.drew := HF.out.dk.drew.lookNo hxm

            refine wp_region_held_drew (S := fun w' => w'.cell? ⟨wr.heap.size, 0, none⟩ = some (.string nm) ∧ w'.cell? ⟨wr.heap.size, 1, none⟩ = some (.slice pb nb cb) ∧ w'.cell? ⟨d, 3, none⟩ = some (.map (some S.m)) ∧ (Instr.lookup 57 (.map (some S.m)) (.string nm) false).run Tryz.prog w' = .ok (.pointer none) w') (by kernel_rfl) ⟨q0, q1, q2, q3⟩ (fun hHeld => ?_)
            refine wpAnyH_take (i := 0) (v := ?_) rfl (by kernel_rfl) (by kernel_rfl) (by kernel_rfl) (fun _ _ _ h => h) (Or.inl ⟨by rfl, ?_⟩) hHeld ?_
            rotate_left
            · (intro wq hSw; (try dsimp only at hSw); (try obtain ⟨s0, s1, s2, s3⟩ := hSw); (go_simp <;> with_reducible rfl))
            try simp only [Act.put, List.getElem_toArray, List.getElem_cons_zero, List.getElem_cons_succ, List.setIfInBounds_toArray, List.set_cons_zero, List.set_cons_succ]
            refine wpAnyH_take (i := 1) (v := ?_) rfl (by kernel_rfl) (by kernel_rfl) (by kernel_rfl) (fun _ _ _ h => h) (Or.inl ⟨by rfl, ?_⟩) hHeld ?_
            rotate_left
            · (intro wq hSw; (try dsimp only at hSw); (try obtain ⟨s0, s1, s2, s3⟩ := hSw); (go_simp <;> with_reducible rfl))
            try simp only [Act.put, List.getElem_toArray, List.getElem_cons_zero, List.getElem_cons_succ, List.setIfInBounds_toArray, List.set_cons_zero, List.set_cons_succ]
            refine wpAnyH_ready (rs := [2]) (by kernel_rfl) (by simp) ?_
            refine AllReadyH.cons rfl (fun K hK => ?_) AllReadyH.nil
            go_simp
            refine (HMB.out wf.drew).mono ?_
            rintro _ w5 ⟨⟨bm, rfl, hbm⟩, hw5⟩
            have hw6 := hw5.symm
            subst hw6
            have hbt : bm = true := hbm.2 hok
            subst hbt
            clear hbm HMB
            refine hK.out _ _ ⟨q0, q1, q2, q3⟩ (fun hHeld => ?_)
            clear hK K
            try simp only [Act.put, List.getElem_toArray, List.getElem_cons_zero, List.getElem_cons_succ, List.setIfInBounds_toArray, List.set_cons_zero, List.set_cons_succ]
            refine wpAnyH_take (i := 3) (v := ?_) rfl (by kernel_rfl) (by kernel_rfl) (by kernel_rfl) (fun _ _ _ h => h) (Or.inl ⟨by rfl, ?_⟩) hHeld ?_
            rotate_left
            · (intro wq hSw; (try dsimp only at hSw); (try obtain ⟨s0, s1, s2, s3⟩ := hSw); (go_simp <;> with_reducible rfl))
            try simp only [Act.put, List.getElem_toArray, List.getElem_cons_zero, List.getElem_cons_succ, List.setIfInBounds_toArray, List.set_cons_zero, List.set_cons_succ]
            refine wpAnyH_take (i := 4) (v := ?_) rfl (by kernel_rfl) (by kernel_rfl) (by kernel_rfl) (fun _ _ _ h => h) (Or.inl ⟨by rfl, ?_⟩) hHeld ?_
            rotate_left
            · (intro wq hSw; (try dsimp only at hSw); (try obtain ⟨s0, s1, s2, s3⟩ := hSw); (go_simp <;> with_reducible rfl))
            try simp only [Act.put, List.getElem_toArray, List.getElem_cons_zero, List.getElem_cons_succ, List.setIfInBounds_toArray, List.set_cons_zero, List.set_cons_succ]
            refine wpAnyH_take (i := 5) (v := ?_) rfl (by kernel_rfl) (by kernel_rfl) (by kernel_rfl) (fun _ _ _ h => h) (Or.inl ⟨by rfl, ?_⟩) hHeld ?_
            rotate_left
            · (intro wq hSw; (try dsimp only at hSw); (try obtain ⟨s0, s1, s2, s3⟩ := hSw); (go_simp <;> with_reducible rfl))
            try simp only [Act.put, List.getElem_toArray, List.getElem_cons_zero, List.getElem_cons_succ, List.setIfInBounds_toArray, List.set_cons_zero, List.set_cons_succ]
            refine wpAnyH_take (i := 6) (v := ?_) rfl (by kernel_rfl) (by kernel_rfl) (by kernel_rfl) (fun _ _ _ h => h) (Or.inl ⟨by rfl, ?_⟩) hHeld ?_
            rotate_left
            · (intro wq hSw; (try dsimp only at hSw); (try obtain ⟨s0, s1, s2, s3⟩ := hSw); (go_simp <;> with_reducible rfl))
            try simp only [Act.put, List.getElem_toArray, List.getElem_cons_zero, List.getElem_cons_succ, List.setIfInBounds_toArray, List.set_cons_zero, List.set_cons_succ]
            refine wpAnyH_take (i := 7) (v := ?_) rfl (by kernel_rfl) (by kernel_rfl) (by kernel_rfl) (fun _ _ _ h => h) (Or.inl ⟨by rfl, ?_⟩) hHeld ?_
            rotate_left
            · (intro wq hSw; (try dsimp only at hSw); (try obtain ⟨s0, s1, s2, s3⟩ := hSw); (go_simp <;> with_reducible rfl))
            try simp only [Act.put, List.getElem_toArray, List.getElem_cons_zero, List.getElem_cons_succ, List.setIfInBounds_toArray, List.set_cons_zero, List.set_cons_succ]
            refine wpAnyH_take (i := 8) (v := ?_) rfl (by kernel_rfl) (by kernel_rfl) (by kernel_rfl) (fun _ _ _ h => h) (Or.inl ⟨by rfl, ?_⟩) hHeld ?_
            rotate_left
            · (intro wq hSw; (try dsimp only at hSw); (try obtain ⟨s0, s1, s2, s3⟩ := hSw); (go_simp <;> with_reducible rfl))
            try simp only [Act.put, List.getElem_toArray, List.getElem_cons_zero, List.getElem_cons_succ, List.setIfInBounds_toArray, List.set_cons_zero, List.set_cons_succ]
            refine wpAnyH_take (i := 9) (v := ?_) rfl (by kernel_rfl) (by kernel_rfl) (by kernel_rfl) (fun _ _ _ h => h) (Or.inl ⟨by rfl, ?_⟩) hHeld ?_
            rotate_left
            · (intro wq hSw; (try dsimp only at hSw); (try obtain ⟨s0, s1, s2, s3⟩ := hSw); (go_simp <;> with_reducible rfl))
            try simp only [Act.put, List.getElem_toArray, List.getElem_cons_zero, List.getElem_cons_succ, List.setIfInBounds_toArray, List.set_cons_zero, List.set_cons_succ]
            refine wpAnyH_take (i := 10) (v := ?_) rfl (by kernel_rfl) (by kernel_rfl) (by kernel_rfl) (fun _ _ _ h => h) (Or.inl ⟨by rfl, ?_⟩) hHeld ?_
            rotate_left
            · (intro wq hSw; (try dsimp only at hSw); (try obtain ⟨s0, s1, s2, s3⟩ := hSw); (go_simp <;> with_reducible rfl))
            try simp only [Act.put, List.getElem_toArray, List.getElem_cons_zero, List.getElem_cons_succ, List.setIfInBounds_toArray, List.set_cons_zero, List.set_cons_succ]
            refine wpAnyH_take (i := 11) (v := ?_) rfl (by kernel_rfl) (by kernel_rfl) (by kernel_rfl) (fun _ _ _ h => h) (Or.inl ⟨by rfl, ?_⟩) hHeld ?_
            rotate_left
            · (intro wq hSw; (try dsimp only at hSw); (try obtain ⟨s0, s1, s2, s3⟩ := hSw); (go_simp <;> with_reducible rfl))
            try simp only [Act.put, List.getElem_toArray, List.getElem_cons_zero, List.getElem_cons_succ, List.setIfInBounds_toArray, List.set_cons_zero, List.set_cons_succ]
            refine wpAnyH_take (i := 12) (v := ?_) rfl (by kernel_rfl) (by kernel_rfl) (by kernel_rfl) (fun _ _ _ h => h) (Or.inl ⟨by rfl, ?_⟩) hHeld ?_
            rotate_left
            · (intro wq hSw; (try dsimp only at hSw); (try obtain ⟨s0, s1, s2, s3⟩ := hSw); (go_simp <;> with_reducible rfl))
            try simp only [Act.put, List.getElem_toArray, List.getElem_cons_zero, List.getElem_cons_succ, List.setIfInBounds_toArray, List.set_cons_zero, List.set_cons_succ]
            refine wpAnyH_take (i := 13) (v := ?_) rfl (by kernel_rfl) (by kernel_rfl) (by kernel_rfl) (fun _ _ _ h => h) (Or.inl ⟨by rfl, ?_⟩) hHeld ?_
            rotate_left
            · (intro wq hSw; (try dsimp only at hSw); (try obtain ⟨s0, s1, s2, s3⟩ := hSw); (go_simp <;> with_reducible rfl))
            try simp only [Act.put, List.getElem_toArray, List.getElem_cons_zero, List.getElem_cons_succ, List.setIfInBounds_toArray, List.set_cons_zero, List.set_cons_succ]
            refine wpAnyH_take (i := 14) (v := ?_) rfl (by kernel_rfl) (by kernel_rfl) (by kernel_rfl) (fun _ _ _ h => h) (Or.inl ⟨by rfl, ?_⟩) hHeld ?_
            rotate_left
            · (intro wq hSw; (try dsimp only at hSw); (try obtain ⟨s0, s1, s2, s3⟩ := hSw); (go_simp <;> with_reducible rfl))
            try simp only [Act.put, List.getElem_toArray, List.getElem_cons_zero, List.getElem_cons_succ, List.setIfInBounds_toArray, List.set_cons_zero, List.set_cons_succ]
            refine wpAnyH_take (i := 15) (v := ?_) rfl (by kernel_rfl) (by kernel_rfl) (by kernel_rfl) (fun _ _ _ h => h) (Or.inl ⟨by rfl, ?_⟩) hHeld ?_
            rotate_left
            · (intro wq hSw; (try dsimp only at hSw); (try obtain ⟨s0, s1, s2, s3⟩ := hSw); (go_simp <;> with_reducible rfl))
            try simp only [Act.put, List.getElem_toArray, List.getElem_cons_zero, List.getElem_cons_succ, List.setIfInBounds_toArray, List.set_cons_zero, List.set_cons_succ]
            refine wpAnyH_take (i := 16) (v := ?_) rfl (by kernel_rfl) (by kernel_rfl) (by kernel_rfl) (fun _ _ _ h => h) (Or.inl ⟨by rfl, ?_⟩) hHeld ?_
            rotate_left
            · (intro wq hSw; (try dsimp only at hSw); (try obtain ⟨s0, s1, s2, s3⟩ := hSw); (go_simp <;> with_reducible rfl))
            try simp only [Act.put, List.getElem_toArray, List.getElem_cons_zero, List.getElem_cons_succ, List.setIfInBounds_toArray, List.set_cons_zero, List.set_cons_succ]
            refine wpAnyH_take (i := 17) (v := ?_) rfl (by kernel_rfl) (by kernel_rfl) (by kernel_rfl) (fun _ _ _ h => h) (Or.inl ⟨by rfl, ?_⟩) hHeld ?_
            rotate_left
            · (intro wq hSw; (try dsimp only at hSw); (try obtain ⟨s0, s1, s2, s3⟩ := hSw); (go_simp <;> with_reducible rfl))
            try simp only [Act.put, List.getElem_toArray, List.getElem_cons_zero, List.getElem_cons_succ, List.setIfInBounds_toArray, List.set_cons_zero, List.set_cons_succ]
            refine wpAnyH_take (i := 18) (v := ?_) rfl (by kernel_rfl) (by kernel_rfl) (by kernel_rfl) (fun _ _ _ h => h) (Or.inl ⟨by rfl, ?_⟩) hHeld ?_
            rotate_left
            · (intro wq hSw; (try dsimp only at hSw); (try obtain ⟨s0, s1, s2, s3⟩ := hSw); (go_simp <;> with_reducible rfl))
            try simp only [Act.put, List.getElem_toArray, List.getElem_cons_zero, List.getElem_cons_succ, List.setIfInBounds_toArray, List.set_cons_zero, List.set_cons_succ]
            refine wpAnyH_take (i := 19) (v := ?_) rfl (by kernel_rfl) (by kernel_rfl) (by kernel_rfl) (fun _ _ _ h => h) (Or.inl ⟨by rfl, ?_⟩) hHeld ?_
            rotate_left
            · (intro wq hSw; (try dsimp only at hSw); (try obtain ⟨s0, s1, s2, s3⟩ := hSw); (go_simp <;> with_reducible rfl))
            try simp only [Act.put, List.getElem_toArray, List.getElem_cons_zero, List.getElem_cons_succ, List.setIfInBounds_toArray, List.set_cons_zero, List.set_cons_succ]
            refine wpAnyH_take (i := 20) (v := ?_) rfl (by kernel_rfl) (by kernel_rfl) (by kernel_rfl) (fun _ _ _ h => h) (Or.inl ⟨by rfl, ?_⟩) hHeld ?_
            rotate_left
            · (intro wq hSw; (try dsimp only at hSw); (try obtain ⟨s0, s1, s2, s3⟩ := hSw); (go_simp <;> with_reducible rfl))
            try simp only [Act.put, List.getElem_toArray, List.getElem_cons_zero, List.getElem_cons_succ, List.setIfInBounds_toArray, List.set_cons_zero, List.set_cons_succ]
            refine wpAnyH_ready (rs := [21]) (by kernel_rfl) (by simp) ?_
            refine AllReadyH.cons rfl (fun K hK => ?_) AllReadyH.nil
            go_simp
            refine (HFT.out wf.drew rfl).mono ?_
            rintro _ w7 ⟨⟨bf, rfl, hbf⟩, hB7⟩
            have hbt : bf = true := by
              exact hbf.2 HFI.out
            subst hbt
            have HB7 : Hid (Below wf.heap.size wf w7) := ⟨hB7.os, hB7.tape, hB7.output, hB7.size, hB7.block⟩
            have r0 : w7.cell? ⟨wr.heap.size, 0, none⟩ = some (.string nm) := cell_bel HB7.out (a := ⟨wr.heap.size, 0, none⟩) q0
            have r1 : w7.cell? ⟨wr.heap.size, 1, none⟩ = some (.slice pb nb cb) := cell_bel HB7.out (a := ⟨wr.heap.size, 1, none⟩) q1
            have HF7 := hide (HF.out.below HB7.out)
            have r2 : w7.cell? ⟨d, 3, none⟩ = some (.map (some S.m)) := by have := HF7.out.dk.cell 3 (.map (some S.m)) rfl; rw [HF7.out.dd] at this; exact this
            have r3 : (Instr.lookup 57 (.map (some S.m)) (.string nm) false).run Tryz.prog w7 = .ok (.pointer none) w7 := HF7.out.dk.lookNo hxm
            clear hB7 hbf
            refine hK.out _ _ ⟨r0, r1, r2, r3⟩ (fun hHeld => ?_)
            clear hK K
            try simp only [Act.put, List.getElem_toArray, List.getElem_cons_zero, List.getElem_cons_succ, List.setIfInBounds_toArray, List.set_cons_zero, List.set_cons_succ]
            refine wpAnyH_take (i := 22) (v := ?_) rfl (by kernel_rfl) (by kernel_rfl) (by kernel_rfl) (fun _ _ _ h => h) (Or.inl ⟨by rfl, ?_⟩) hHeld ?_
            rotate_left
            · (intro wq hSw; (try dsimp only at hSw); (try obtain ⟨s0, s1, s2, s3⟩ := hSw); (go_simp <;> with_reducible rfl))
            try simp only [Act.put, List.getElem_toArray, List.getElem_cons_zero, List.getElem_cons_succ, List.setIfInBounds_toArray, List.set_cons_zero, List.set_cons_succ]
            refine wpAnyH_take (i := 23) (v := ?_) rfl (by kernel_rfl) (by kernel_rfl) (by kernel_rfl) (fun _ _ _ h => h) (Or.inl ⟨by rfl, ?_⟩) hHeld ?_
            rotate_left
            · (intro wq hSw; (try dsimp only at hSw); (try obtain ⟨s0, s1, s2, s3⟩ := hSw); (go_simp <;> with_reducible rfl))
            try simp only [Act.put, List.getElem_toArray, List.getElem_cons_zero, List.getElem_cons_succ, List.setIfInBounds_toArray, List.set_cons_zero, List.set_cons_succ]
            refine wpAnyH_done (by kernel_rfl) ?_ _
            have HBY7 : Hid (IsBy w7 (.slice pb nb cb) bs) := isBy_below HBY.out.1 HB7.out
            have HLY : Hid (Calls Tryz.prog 45 #[.pointer (some ⟨d, 0, none⟩), .string nm, .slice pb nb cb] w7 fun e w' => e = .returned (.tuple #[]) ∧ ∃ S', LdI w w' d room (k + 1) fs S') := by
              have hd0 := HF7.out.dd
              rw [← hd0]
              refine (lay_any w7 HF7.out.dk nm (Nat.le_trans hok.2.1 (by decide)) (.inr ⟨hxm, HFI.out.1.resolve_left hxe⟩) _ bs HBY7.out HBY.out.2.2 (by rw [← HBY.out.2.1]; have := HFI.out.2; omega)).mono ?_
              rintro e w' ⟨rfl, S', a1, a2, a3, a4⟩
              refine ⟨rfl, S', ?_⟩
              have := HF7.out.more HK.out (by rw [HX.out]; exact hok) (by rw [HX.out]; exact hxm) a1 (by rw [HX.out]; exact a2) a3 a4
              rw [hd0]; exact this
            clear q0 q1 q2 q3 r2 r3 hok hxe hxm HFT HBY HBY7 HF HF7
            go_wp2_with (go_at_call 45; refine HLY.out.mono ?_; rintro e w8 ⟨rfl, hS8⟩; have HS8 := hide hS8; clear hS8 HLY)
            go_roundw
            case rel => exact ⟨k + 1, by simp, by omega, HS8.out⟩
            case measure => simp [intOf]; omega
          · have HFI := hide hfi
            have HNO : Hid (¬ LoadOk fs room) := not_fits HF.out HK.out (by rw [HX.out]; rw [← HBY.out.2.1]; exact hfi)
            clear hfi
            have q0 : wf.drew.cell? ⟨wr.heap.size, 0, none⟩ = some (.string nm) := cell_of_row _ _ _ _ _ _ HO.out
            have q1 : wf.drew.cell? ⟨wr.heap.size, 1, none⟩ = some (.slice pb nb cb) := cell_of_row _ _ _ _ _ _ HO.out
            have q2 : wf.drew.cell? ⟨d, 3, none⟩ = some (.map (some S.m)) := by have := HF.out.dk.drew.cell 3 (.map (some S.m)) rfl; rw [HF.out.dd] at this; exact this
            have q3 : (Instr.lookup 57 (.map (some S.m)) (.string nm) false).run Tryz.prog wf.drew = .ok (.pointer none) wf.drew := HF.out.dk.drew.lookNo hxm

            refine wp_region_held_drew (S := fun w' => w'.cell? ⟨wr.heap.size, 0, none⟩ = some (.string nm) ∧ w'.cell? ⟨wr.heap.size, 1, none⟩ = some (.slice pb nb cb) ∧ w'.cell? ⟨d, 3, none⟩ = some (.map (some S.m)) ∧ (Instr.lookup 57 (.map (some S.m)) (.string nm) false).run Tryz.prog w' = .ok (.pointer none) w') (by kernel_rfl) ⟨q0, q1, q2, q3⟩ (fun hHeld => ?_)
            refine wpAnyH_take (i := 0) (v := ?_) rfl (by kernel_rfl) (by kernel_rfl) (by kernel_rfl) (fun _ _ _ h => h) (Or.inl ⟨by rfl, ?_⟩) hHeld ?_
            rotate_left
            · (intro wq hSw; (try dsimp only at hSw); (try obtain ⟨s0, s1, s2, s3⟩ := hSw); (go_simp <;> with_reducible rfl))
            try simp only [Act.put, List.getElem_toArray, List.getElem_cons_zero, List.getElem_cons_succ, List.setIfInBounds_toArray, List.set_cons_zero, List.set_cons_succ]
            refine wpAnyH_take (i := 1) (v := ?_) rfl (by kernel_rfl) (by kernel_rfl) (by kernel_rfl) (fun _ _ _ h => h) (Or.inl ⟨by rfl, ?_⟩) hHeld ?_
            rotate_left
            · (intro wq hSw; (try dsimp only at hSw); (try obtain ⟨s0, s1, s2, s3⟩ := hSw); (go_simp <;> with_reducible rfl))
            try simp only [Act.put, List.getElem_toArray, List.getElem_cons_zero, List.getElem_cons_succ, List.setIfInBounds_toArray, List.set_cons_zero, List.set_cons_succ]
            refine wpAnyH_ready (rs := [2]) (by kernel_rfl) (by simp) ?_
            refine AllReadyH.cons rfl (fun K hK => ?_) AllReadyH.nil
            go_simp
            refine (HMB.out wf.drew).mono ?_
            rintro _ w5 ⟨⟨bm, rfl, hbm⟩, hw5⟩
            have hw6 := hw5.symm
            subst hw6
            have hbt : bm = true := hbm.2 hok
            subst hbt
            clear hbm HMB
            refine hK.out _ _ ⟨q0, q1, q2, q3⟩ (fun hHeld => ?_)
            clear hK K
            try simp only [Act.put, List.getElem_toArray, List.getElem_cons_zero, List.getElem_cons_succ, List.setIfInBounds_toArray, List.set_cons_zero, List.set_cons_succ]
            refine wpAnyH_take (i := 3) (v := ?_) rfl (by kernel_rfl) (by kernel_rfl) (by kernel_rfl) (fun _ _ _ h => h) (Or.inl ⟨by rfl, ?_⟩) hHeld ?_
            rotate_left
            · (intro wq hSw; (try dsimp only at hSw); (try obtain ⟨s0, s1, s2, s3⟩ := hSw); (go_simp <;> with_reducible rfl))
            try simp only [Act.put, List.getElem_toArray, List.getElem_cons_zero, List.getElem_cons_succ, List.setIfInBounds_toArray, List.set_cons_zero, List.set_cons_succ]
            refine wpAnyH_take (i := 4) (v := ?_) rfl (by kernel_rfl) (by kernel_rfl) (by kernel_rfl) (fun _ _ _ h => h) (Or.inl ⟨by rfl, ?_⟩) hHeld ?_
            rotate_left
            · (intro wq hSw; (try dsimp only at hSw); (try obtain ⟨s0, s1, s2, s3⟩ := hSw); (go_simp <;> with_reducible rfl))
            try simp only [Act.put, List.getElem_toArray, List.getElem_cons_zero, List.getElem_cons_succ, List.setIfInBounds_toArray, List.set_cons_zero, List.set_cons_succ]
            refine wpAnyH_take (i := 5) (v := ?_) rfl (by kernel_rfl) (by kernel_rfl) (by kernel_rfl) (fun _ _ _ h => h) (Or.inl ⟨by rfl, ?_⟩) hHeld ?_
            rotate_left
            · (intro wq hSw; (try dsimp only at hSw); (try obtain ⟨s0, s1, s2, s3⟩ := hSw); (go_simp <;> with_reducible rfl))
            try simp only [Act.put, List.getElem_toArray, List.getElem_cons_zero, List.getElem_cons_succ, List.setIfInBounds_toArray, List.set_cons_zero, List.set_cons_succ]
            refine wpAnyH_take (i := 6) (v := ?_) rfl (by kernel_rfl) (by kernel_rfl) (by kernel_rfl) (fun _ _ _ h => h) (Or.inl ⟨by rfl, ?_⟩) hHeld ?_
            rotate_left
            · (intro wq hSw; (try dsimp only at hSw); (try obtain ⟨s0, s1, s2, s3⟩ := hSw); (go_simp <;> with_reducible rfl))
            try simp only [Act.put, List.getElem_toArray, List.getElem_cons_zero, List.getElem_cons_succ, List.setIfInBounds_toArray, List.set_cons_zero, List.set_cons_succ]
            refine wpAnyH_take (i := 7) (v := ?_) rfl (by kernel_rfl) (by kernel_rfl) (by kernel_rfl) (fun _ _ _ h => h) (Or.inl ⟨by rfl, ?_⟩) hHeld ?_
            rotate_left
            · (intro wq hSw; (try dsimp only at hSw); (try obtain ⟨s0, s1, s2, s3⟩ := hSw); (go_simp <;> with_reducible rfl))
            try simp only [Act.put, List.getElem_toArray, List.getElem_cons_zero, List.getElem_cons_succ, List.setIfInBounds_toArray, List.set_cons_zero, List.set_cons_succ]
            refine wpAnyH_take (i := 8) (v := ?_) rfl (by kernel_rfl) (by kernel_rfl) (by kernel_rfl) (fun _ _ _ h => h) (Or.inl ⟨by rfl, ?_⟩) hHeld ?_
            rotate_left
            · (intro wq hSw; (try dsimp only at hSw); (try obtain ⟨s0, s1, s2, s3⟩ := hSw); (go_simp <;> with_reducible rfl))
            try simp only [Act.put, List.getElem_toArray, List.getElem_cons_zero, List.getElem_cons_succ, List.setIfInBounds_toArray, List.set_cons_zero, List.set_cons_succ]
            refine wpAnyH_take (i := 9) (v := ?_) rfl (by kernel_rfl) (by kernel_rfl) (by kernel_rfl) (fun _ _ _ h => h) (Or.inl ⟨by rfl, ?_⟩) hHeld ?_
            rotate_left
            · (intro wq hSw; (try dsimp only at hSw); (try obtain ⟨s0, s1, s2, s3⟩ := hSw); (go_simp <;> with_reducible rfl))
            try simp only [Act.put, List.getElem_toArray, List.getElem_cons_zero, List.getElem_cons_succ, List.setIfInBounds_toArray, List.set_cons_zero, List.set_cons_succ]
            refine wpAnyH_take (i := 10) (v := ?_) rfl (by kernel_rfl) (by kernel_rfl) (by kernel_rfl) (fun _ _ _ h => h) (Or.inl ⟨by rfl, ?_⟩) hHeld ?_
            rotate_left
            · (intro wq hSw; (try dsimp only at hSw); (try obtain ⟨s0, s1, s2, s3⟩ := hSw); (go_simp <;> with_reducible rfl))
            try simp only [Act.put, List.getElem_toArray, List.getElem_cons_zero, List.getElem_cons_succ, List.setIfInBounds_toArray, List.set_cons_zero, List.set_cons_succ]
            refine wpAnyH_take (i := 11) (v := ?_) rfl (by kernel_rfl) (by kernel_rfl) (by kernel_rfl) (fun _ _ _ h => h) (Or.inl ⟨by rfl, ?_⟩) hHeld ?_
            rotate_left
            · (intro wq hSw; (try dsimp only at hSw); (try obtain ⟨s0, s1, s2, s3⟩ := hSw); (go_simp <;> with_reducible rfl))
            try simp only [Act.put, List.getElem_toArray, List.getElem_cons_zero, List.getElem_cons_succ, List.setIfInBounds_toArray, List.set_cons_zero, List.set_cons_succ]
            refine wpAnyH_take (i := 12) (v := ?_) rfl (by kernel_rfl) (by kernel_rfl) (by kernel_rfl) (fun _ _ _ h => h) (Or.inl ⟨by rfl, ?_⟩) hHeld ?_
            rotate_left
            · (intro wq hSw; (try dsimp only at hSw); (try obtain ⟨s0, s1, s2, s3⟩ := hSw); (go_simp <;> with_reducible rfl))
            try simp only [Act.put, List.getElem_toArray, List.getElem_cons_zero, List.getElem_cons_succ, List.setIfInBounds_toArray, List.set_cons_zero, List.set_cons_succ]
            refine wpAnyH_take (i := 13) (v := ?_) rfl (by kernel_rfl) (by kernel_rfl) (by kernel_rfl) (fun _ _ _ h => h) (Or.inl ⟨by rfl, ?_⟩) hHeld ?_
            rotate_left
            · (intro wq hSw; (try dsimp only at hSw); (try obtain ⟨s0, s1, s2, s3⟩ := hSw); (go_simp <;> with_reducible rfl))
            try simp only [Act.put, List.getElem_toArray, List.getElem_cons_zero, List.getElem_cons_succ, List.setIfInBounds_toArray, List.set_cons_zero, List.set_cons_succ]
            refine wpAnyH_take (i := 14) (v := ?_) rfl (by kernel_rfl) (by kernel_rfl) (by kernel_rfl) (fun _ _ _ h => h) (Or.inl ⟨by rfl, ?_⟩) hHeld ?_
            rotate_left
            · (intro wq hSw; (try dsimp only at hSw); (try obtain ⟨s0, s1, s2, s3⟩ := hSw); (go_simp <;> with_reducible rfl))
            try simp only [Act.put, List.getElem_toArray, List.getElem_cons_zero, List.getElem_cons_succ, List.setIfInBounds_toArray, List.set_cons_zero, List.set_cons_succ]
            refine wpAnyH_take (i := 15) (v := ?_) rfl (by kernel_rfl) (by kernel_rfl) (by kernel_rfl) (fun _ _ _ h => h) (Or.inl ⟨by rfl, ?_⟩) hHeld ?_
            rotate_left
            · (intro wq hSw; (try dsimp only at hSw); (try obtain ⟨s0, s1, s2, s3⟩ := hSw); (go_simp <;> with_reducible rfl))
            try simp only [Act.put, List.getElem_toArray, List.getElem_cons_zero, List.getElem_cons_succ, List.setIfInBounds_toArray, List.set_cons_zero, List.set_cons_succ]
            refine wpAnyH_take (i := 16) (v := ?_) rfl (by kernel_rfl) (by kernel_rfl) (by kernel_rfl) (fun _ _ _ h => h) (Or.inl ⟨by rfl, ?_⟩) hHeld ?_
            rotate_left
            · (intro wq hSw; (try dsimp only at hSw); (try obtain ⟨s0, s1, s2, s3⟩ := hSw); (go_simp <;> with_reducible rfl))
            try simp only [Act.put, List.getElem_toArray, List.getElem_cons_zero, List.getElem_cons_succ, List.setIfInBounds_toArray, List.set_cons_zero, List.set_cons_succ]
            refine wpAnyH_take (i := 17) (v := ?_) rfl (by kernel_rfl) (by kernel_rfl) (by kernel_rfl) (fun _ _ _ h => h) (Or.inl ⟨by rfl, ?_⟩) hHeld ?_
            rotate_left
            · (intro wq hSw; (try dsimp only at hSw); (try obtain ⟨s0, s1, s2, s3⟩ := hSw); (go_simp <;> with_reducible rfl))
            try simp only [Act.put, List.getElem_toArray, List.getElem_cons_zero, List.getElem_cons_succ, List.setIfInBounds_toArray, List.set_cons_zero, List.set_cons_succ]
            refine wpAnyH_take (i := 18) (v := ?_) rfl (by kernel_rfl) (by kernel_rfl) (by kernel_rfl) (fun _ _ _ h => h) (Or.inl ⟨by rfl, ?_⟩) hHeld ?_
            rotate_left
            · (intro wq hSw; (try dsimp only at hSw); (try obtain ⟨s0, s1, s2, s3⟩ := hSw); (go_simp <;> with_reducible rfl))
            try simp only [Act.put, List.getElem_toArray, List.getElem_cons_zero, List.getElem_cons_succ, List.setIfInBounds_toArray, List.set_cons_zero, List.set_cons_succ]
            refine wpAnyH_take (i := 19) (v := ?_) rfl (by kernel_rfl) (by kernel_rfl) (by kernel_rfl) (fun _ _ _ h => h) (Or.inl ⟨by rfl, ?_⟩) hHeld ?_
            rotate_left
            · (intro wq hSw; (try dsimp only at hSw); (try obtain ⟨s0, s1, s2, s3⟩ := hSw); (go_simp <;> with_reducible rfl))
            try simp only [Act.put, List.getElem_toArray, List.getElem_cons_zero, List.getElem_cons_succ, List.setIfInBounds_toArray, List.set_cons_zero, List.set_cons_succ]
            refine wpAnyH_take (i := 20) (v := ?_) rfl (by kernel_rfl) (by kernel_rfl) (by kernel_rfl) (fun _ _ _ h => h) (Or.inl ⟨by rfl, ?_⟩) hHeld ?_
            rotate_left
            · (intro wq hSw; (try dsimp only at hSw); (try obtain ⟨s0, s1, s2, s3⟩ := hSw); (go_simp <;> with_reducible rfl))
            try simp only [Act.put, List.getElem_toArray, List.getElem_cons_zero, List.getElem_cons_succ, List.setIfInBounds_toArray, List.set_cons_zero, List.set_cons_succ]
            refine wpAnyH_ready (rs := [21]) (by kernel_rfl) (by simp) ?_
            refine AllReadyH.cons rfl (fun K hK => ?_) AllReadyH.nil
            go_simp
            refine (HFT.out wf.drew rfl).mono ?_
            rintro _ w7 ⟨⟨bf, rfl, hbf⟩, hB7⟩
            have hbt : bf = false := by
              cases bf with | false => rfl | true => exact absurd (hbf.1 rfl) HFI.out
            subst hbt
            have HB7 : Hid (Below wf.heap.size wf w7) := ⟨hB7.os, hB7.tape, hB7.output, hB7.size, hB7.block⟩
            have r0 : w7.cell? ⟨wr.heap.size, 0, none⟩ = some (.string nm) := cell_bel HB7.out (a := ⟨wr.heap.size, 0, none⟩) q0
            have r1 : w7.cell? ⟨wr.heap.size, 1, none⟩ = some (.slice pb nb cb) := cell_bel HB7.out (a := ⟨wr.heap.size, 1, none⟩) q1
            have HF7 := hide (HF.out.below HB7.out)
            have r2 : w7.cell? ⟨d, 3, none⟩ = some (.map (some S.m)) := by have := HF7.out.dk.cell 3 (.map (some S.m)) rfl; rw [HF7.out.dd] at this; exact this
            have r3 : (Instr.lookup 57 (.map (some S.m)) (.string nm) false).run Tryz.prog w7 = .ok (.pointer none) w7 := HF7.out.dk.lookNo hxm
            clear hB7 hbf
            refine hK.out _ _ ⟨r0, r1, r2, r3⟩ (fun hHeld => ?_)
            clear hK K
            try simp only [Act.put, List.getElem_toArray, List.getElem_cons_zero, List.getElem_cons_succ, List.setIfInBounds_toArray, List.set_cons_zero, List.set_cons_succ]
            refine wpAnyH_take (i := 22) (v := ?_) rfl (by kernel_rfl) (by kernel_rfl) (by kernel_rfl) (fun _ _ _ h => h) (Or.inl ⟨by rfl, ?_⟩) hHeld ?_
            rotate_left
            · (intro wq hSw; (try dsimp only at hSw); (try obtain ⟨s0, s1, s2, s3⟩ := hSw); (go_simp <;> with_reducible rfl))
            try simp only [Act.put, List.getElem_toArray, List.getElem_cons_zero, List.getElem_cons_succ, List.setIfInBounds_toArray, List.set_cons_zero, List.set_cons_succ]
            refine wpAnyH_take (i := 23) (v := ?_) rfl (by kernel_rfl) (by kernel_rfl) (by kernel_rfl) (fun _ _ _ h => h) (Or.inl ⟨by rfl, ?_⟩) hHeld ?_
            rotate_left
            · (intro wq hSw; (try dsimp only at hSw); (try obtain ⟨s0, s1, s2, s3⟩ := hSw); (go_simp <;> with_reducible rfl))
            try simp only [Act.put, List.getElem_toArray, List.getElem_cons_zero, List.getElem_cons_succ, List.setIfInBounds_toArray, List.set_cons_zero, List.set_cons_succ]
            refine wpAnyH_done (by kernel_rfl) ?_ _
            clear q0 q1 q2 q3 r0 r1 r2 r3 HX
            go_wp2_with fail
            go_ret2
            exact .inl ⟨HNO.out, rfl, HBE.out.trans (HB7.out.mono HBE.out.size)⟩
      · have HNO : Hid (¬ LoadOk fs room) := not_name HK.out (by rw [HX.out]; exact hok)
        obtain ⟨vl, hvl⟩ : ∃ vl : Option Addr, (Instr.lookup 57 (.map (some S.m)) (.string nm) false).run Tryz.prog wf.drew = .ok (.pointer vl) wf.drew := by
          by_cases hxe : ∃ x ∈ S.L, x.nm = nm
          · obtain ⟨y, hy, rfl⟩ := hxe
            exact ⟨_, HF.out.dk.drew.look hy⟩
          · exact ⟨none, HF.out.dk.drew.lookNo fun x h e => hxe ⟨x, h, e⟩⟩
        have q0 : wf.drew.cell? ⟨wr.heap.size, 0, none⟩ = some (.string nm) := cell_of_row _ _ _ _ _ _ HO.out
        have q1 : wf.drew.cell? ⟨wr.heap.size, 1, none⟩ = some (.slice pb nb cb) := cell_of_row _ _ _ _ _ _ HO.out
        have q2 : wf.drew.cell? ⟨d, 3, none⟩ = some (.map (some S.m)) := by have := HF.out.dk.drew.cell 3 (.map (some S.m)) rfl; rw [HF.out.dd] at this; exact this
        have q3 : (Instr.lookup 57 (.map (some S.m)) (.string nm) false).run Tryz.prog wf.drew = .ok (.pointer vl) wf.drew := hvl

        refine wp_region_held_drew (S := fun w' => w'.cell? ⟨wr.heap.size, 0, none⟩ = some (.string nm) ∧ w'.cell? ⟨wr.heap.size, 1, none⟩ = some (.slice pb nb cb) ∧ w'.cell? ⟨d, 3, none⟩ = some (.map (some S.m)) ∧ (Instr.lookup 57 (.map (some S.m)) (.string nm) false).run Tryz.prog w' = .ok (.pointer vl) w') (by kernel_rfl) ⟨q0, q1, q2, q3⟩ (fun hHeld => ?_)
        refine wpAnyH_take (i := 0) (v := ?_) rfl (by kernel_rfl) (by kernel_rfl) (by kernel_rfl) (fun _ _ _ h => h) (Or.inl ⟨by rfl, ?_⟩) hHeld ?_
        rotate_left
        · (intro wq hSw; (try dsimp only at hSw); (try obtain ⟨s0, s1, s2, s3⟩ := hSw); (go_simp <;> with_reducible rfl))
        try simp only [Act.put, List.getElem_toArray, List.getElem_cons_zero, List.getElem_cons_succ, List.setIfInBounds_toArray, List.set_cons_zero, List.set_cons_succ]
        refine wpAnyH_take (i := 1) (v := ?_) rfl (by kernel_rfl) (by kernel_rfl) (by kernel_rfl) (fun _ _ _ h => h) (Or.inl ⟨by rfl, ?_⟩) hHeld ?_
        rotate_left
        · (intro wq hSw; (try dsimp only at hSw); (try obtain ⟨s0, s1, s2, s3⟩ := hSw); (go_simp <;> with_reducible rfl))
        try simp only [Act.put, List.getElem_toArray, List.getElem_cons_zero, List.getElem_cons_succ, List.setIfInBounds_toArray, List.set_cons_zero, List.set_cons_succ]
        refine wpAnyH_ready (rs := [2]) (by kernel_rfl) (by simp) ?_
        refine AllReadyH.cons rfl (fun K hK => ?_) AllReadyH.nil
        go_simp
        refine (HMB.out wf.drew).mono ?_
        rintro _ w5 ⟨⟨bm, rfl, hbm⟩, hw5⟩
        have hw6 := hw5.symm
        subst hw6
        have hbt : bm = false := by
          cases bm with
          | false => rfl
          | true => exact absurd (hbm.1 rfl) hok
        subst hbt
        clear hbm HMB
        refine hK.out _ _ ⟨q0, q1, q2, q3⟩ (fun hHeld => ?_)
        clear hK K
        try simp only [Act.put, List.getElem_toArray, List.getElem_cons_zero, List.getElem_cons_succ, List.setIfInBounds_toArray, List.set_cons_zero, List.set_cons_succ]
        refine wpAnyH_take (i := 3) (v := ?_) rfl (by kernel_rfl) (by kernel_rfl) (by kernel_rfl) (fun _ _ _ h => h) (Or.inl ⟨by rfl, ?_⟩) hHeld ?_
        rotate_left
        · (intro wq hSw; (try dsimp only at hSw); (try obtain ⟨s0, s1, s2, s3⟩ := hSw); (go_simp <;> with_reducible rfl))
        try simp only [Act.put, List.getElem_toArray, List.getElem_cons_zero, List.getElem_cons_succ, List.setIfInBounds_toArray, List.set_cons_zero, List.set_cons_succ]
        refine wpAnyH_take (i := 4) (v := ?_) rfl (by kernel_rfl) (by kernel_rfl) (by kernel_rfl) (fun _ _ _ h => h) (Or.inl ⟨by rfl, ?_⟩) hHeld ?_
        rotate_left
        · (intro wq hSw; (try dsimp only at hSw); (try obtain ⟨s0, s1, s2, s3⟩ := hSw); (go_simp <;> with_reducible rfl))
        try simp only [Act.put, List.getElem_toArray, List.getElem_cons_zero, List.getElem_cons_succ, List.setIfInBounds_toArray, List.set_cons_zero, List.set_cons_succ]
        refine wpAnyH_take (i := 5) (v := undef) rfl (by kernel_rfl) (by kernel_rfl) (by kernel_rfl) (fun _ _ _ h => h) (Or.inr ⟨by rfl, rfl⟩) hHeld ?_
        try simp only [Act.put, List.getElem_toArray, List.getElem_cons_zero, List.getElem_cons_succ, List.setIfInBounds_toArray, List.set_cons_zero, List.set_cons_succ]
        refine wpAnyH_take (i := 6) (v := undef) rfl (by kernel_rfl) (by kernel_rfl) (by kernel_rfl) (fun _ _ _ h => h) (Or.inr ⟨by rfl, rfl⟩) hHeld ?_
        try simp only [Act.put, List.getElem_toArray, List.getElem_cons_zero, List.getElem_cons_succ, List.setIfInBounds_toArray, List.set_cons_zero, List.set_cons_succ]
        refine wpAnyH_take (i := 7) (v := undef) rfl (by kernel_rfl) (by kernel_rfl) (by kernel_rfl) (fun _ _ _ h => h) (Or.inr ⟨by rfl, rfl⟩) hHeld ?_
        try simp only [Act.put, List.getElem_toArray, List.getElem_cons_zero, List.getElem_cons_succ, List.setIfInBounds_toArray, List.set_cons_zero, List.set_cons_succ]
        refine wpAnyH_take (i := 8) (v := undef) rfl (by kernel_rfl) (by kernel_rfl) (by kernel_rfl) (fun _ _ _ h => h) (Or.inr ⟨by rfl, rfl⟩) hHeld ?_
        try simp only [Act.put, List.getElem_toArray, List.getElem_cons_zero, List.getElem_cons_succ, List.setIfInBounds_toArray, List.set_cons_zero, List.set_cons_succ]
        refine wpAnyH_take (i := 9) (v := undef) rfl (by kernel_rfl) (by kernel_rfl) (by kernel_rfl) (fun _ _ _ h => h) (Or.inr ⟨by rfl, rfl⟩) hHeld ?_
        try simp only [Act.put, List.getElem_toArray, List.getElem_cons_zero, List.getElem_cons_succ, List.setIfInBounds_toArray, List.set_cons_zero, List.set_cons_succ]
        refine wpAnyH_take (i := 10) (v := undef) rfl (by kernel_rfl) (by kernel_rfl) (by kernel_rfl) (fun _ _ _ h => h) (Or.inr ⟨by rfl, rfl⟩) hHeld ?_
        try simp only [Act.put, List.getElem_toArray, List.getElem_cons_zero, List.getElem_cons_succ, List.setIfInBounds_toArray, List.set_cons_zero, List.set_cons_succ]
        refine wpAnyH_take (i := 11) (v := undef) rfl (by kernel_rfl) (by kernel_rfl) (by kernel_rfl) (fun _ _ _ h => h) (Or.inr ⟨by rfl, rfl⟩) hHeld ?_
        try simp only [Act.put, List.getElem_toArray, List.getElem_cons_zero, List.getElem_cons_succ, List.setIfInBounds_toArray, List.set_cons_zero, List.set_cons_succ]
        refine wpAnyH_take (i := 12) (v := undef) rfl (by kernel_rfl) (by kernel_rfl) (by kernel_rfl) (fun _ _ _ h => h) (Or.inr ⟨by rfl, rfl⟩) hHeld ?_
        try simp only [Act.put, List.getElem_toArray, List.getElem_cons_zero, List.getElem_cons_succ, List.setIfInBounds_toArray, List.set_cons_zero, List.set_cons_succ]
        refine wpAnyH_take (i := 13) (v := ?_) rfl (by kernel_rfl) (by kernel_rfl) (by kernel_rfl) (fun _ _ _ h => h) (Or.inl ⟨by rfl, ?_⟩) hHeld ?_
        rotate_left
        · (intro wq hSw; (try dsimp only at hSw); (try obtain ⟨s0, s1, s2, s3⟩ := hSw); (go_simp <;> with_reducible rfl))
        try simp only [Act.put, List.getElem_toArray, List.getElem_cons_zero, List.getElem_cons_succ, List.setIfInBounds_toArray, List.set_cons_zero, List.set_cons_succ]
        refine wpAnyH_take (i := 14) (v := ?_) rfl (by kernel_rfl) (by kernel_rfl) (by kernel_rfl) (fun _ _ _ h => h) (Or.inl ⟨by rfl, ?_⟩) hHeld ?_
        rotate_left
        · (intro wq hSw; (try dsimp only at hSw); (try obtain ⟨s0, s1, s2, s3⟩ := hSw); (go_simp <;> with_reducible rfl))
        try simp only [Act.put, List.getElem_toArray, List.getElem_cons_zero, List.getElem_cons_succ, List.setIfInBounds_toArray, List.set_cons_zero, List.set_cons_succ]
        refine wpAnyH_take (i := 15) (v := undef) rfl (by kernel_rfl) (by kernel_rfl) (by kernel_rfl) (fun _ _ _ h => h) (Or.inr ⟨by rfl, rfl⟩) hHeld ?_
        try simp only [Act.put, List.getElem_toArray, List.getElem_cons_zero, List.getElem_cons_succ, List.setIfInBounds_toArray, List.set_cons_zero, List.set_cons_succ]
        refine wpAnyH_take (i := 16) (v := undef) rfl (by kernel_rfl) (by kernel_rfl) (by kernel_rfl) (fun _ _ _ h => h) (Or.inr ⟨by rfl, rfl⟩) hHeld ?_
        try simp only [Act.put, List.getElem_toArray, List.getElem_cons_zero, List.getElem_cons_succ, List.setIfInBounds_toArray, List.set_cons_zero, List.set_cons_succ]
        refine wpAnyH_take (i := 17) (v := undef) rfl (by kernel_rfl) (by kernel_rfl) (by kernel_rfl) (fun _ _ _ h => h) (Or.inr ⟨by rfl, rfl⟩) hHeld ?_
        try simp only [Act.put, List.getElem_toArray, List.getElem_cons_zero, List.getElem_cons_succ, List.setIfInBounds_toArray, List.set_cons_zero, List.set_cons_succ]
        refine wpAnyH_take (i := 18) (v := undef) rfl (by kernel_rfl) (by kernel_rfl) (by kernel_rfl) (fun _ _ _ h => h) (Or.inr ⟨by rfl, rfl⟩) hHeld ?_
        try simp only [Act.put, List.getElem_toArray, List.getElem_cons_zero, List.getElem_cons_succ, List.setIfInBounds_toArray, List.set_cons_zero, List.set_cons_succ]
        refine wpAnyH_take (i := 19) (v := undef) rfl (by kernel_rfl) (by kernel_rfl) (by kernel_rfl) (fun _ _ _ h => h) (Or.inr ⟨by rfl, rfl⟩) hHeld ?_
        try simp only [Act.put, List.getElem_toArray, List.getElem_cons_zero, List.getElem_cons_succ, List.setIfInBounds_toArray, List.set_cons_zero, List.set_cons_succ]
        refine wpAnyH_take (i := 20) (v := undef) rfl (by kernel_rfl) (by kernel_rfl) (by kernel_rfl) (fun _ _ _ h => h) (Or.inr ⟨by rfl, rfl⟩) hHeld ?_
        try simp only [Act.put, List.getElem_toArray, List.getElem_cons_zero, List.getElem_cons_succ, List.setIfInBounds_toArray, List.set_cons_zero, List.set_cons_succ]
        refine wpAnyH_take (i := 21) (v := undef) rfl (by kernel_rfl) (by kernel_rfl) (by kernel_rfl) (fun _ _ _ h => h) (Or.inr ⟨by rfl, rfl⟩) hHeld ?_
        try simp only [Act.put, List.getElem_toArray, List.getElem_cons_zero, List.getElem_cons_succ, List.setIfInBounds_toArray, List.set_cons_zero, List.set_cons_succ]
        refine wpAnyH_take (i := 22) (v := undef) rfl (by kernel_rfl) (by kernel_rfl) (by kernel_rfl) (fun _ _ _ h => h) (Or.inr ⟨by rfl, rfl⟩) hHeld ?_
        try simp only [Act.put, List.getElem_toArray, List.getElem_cons_zero, List.getElem_cons_succ, List.setIfInBounds_toArray, List.set_cons_zero, List.set_cons_succ]
        refine wpAnyH_take (i := 23) (v := ?_) rfl (by kernel_rfl) (by kernel_rfl) (by kernel_rfl) (fun _ _ _ h => h) (Or.inl ⟨by rfl, ?_⟩) hHeld ?_
        rotate_left
        · (intro wq hSw; (try dsimp only at hSw); (try obtain ⟨s0, s1, s2, s3⟩ := hSw); (go_simp <;> with_reducible rfl))
        try simp only [Act.put, List.getElem_toArray, List.getElem_cons_zero, List.getElem_cons_succ, List.setIfInBounds_toArray, List.set_cons_zero, List.set_cons_succ]
        refine wpAnyH_done (by kernel_rfl) ?_ _
        clear q0 q1 q2 q3 hvl HX
        go_wp2_with fail
        go_ret2
        exact .inl ⟨HNO.out, rfl, ⟨HBE.out.os, HBE.out.tape, HBE.out.output, HBE.out.size, HBE.out.block⟩⟩
    · have hlt' : ¬ (k : Int) < (n : Int) := by omega
      obtain ⟨S, hS⟩ := HI.out
      have hkn : fs.take k = fs := List.take_of_length_le (by rw [HN.out]; omega)
      have HOK : Hid (LoadOk fs room) := by
        have a0 := hS.ok
        have a1 := hS.nms
        have a2 := hS.tot
        have a3 := hS.dk.rm
        have a4 := hS.dk.nd
        have a5 := hS.len (by rw [HN.out]; exact hk)
        have a6 := hS.dk.ct
        rw [hS.room] at a3
        rw [hkn] at a0 a1 a2
        rw [a1] at a4
        exact ⟨a0, a4, by rw [HN.out]; omega, by omega⟩
      have HST : Hid (Calls Tryz.prog 46 #[.pointer (some ⟨d, 0, none⟩)] wr fun e w' => e = .returned (.tuple #[]) ∧ ∃ S', S'.d = d ∧ Dk w.heap.size w' 0 S' ∧ S'.ps = { con := con1 fs, room := room, off := false, ain := 0, keep := 0, lose := 0, wr := 0 } ∧ Below w.heap.size w w') := by
        have hd0 := hS.dd
        rw [← hd0]
        refine (dsettle_any wr hS.dk).mono ?_
        rintro e w' ⟨rfl, S', a1, a2, a3, a4⟩
        refine ⟨rfl, S', a1, a3, ?_, hS.bel.trans (a4.below hS.dk.fpB hS.bel.size)⟩
        rw [a2, hS.ps, hkn, each_con0]
      clear hS hkn HI
      go_wp2_with (go_at_call 46; refine HST.out.mono ?_; rintro e w8 ⟨rfl, S8, b1, b2, b3, b4⟩; have HS8 := hide (And.intro b1 (And.intro b2 (And.intro b3 b4))); clear b1 b2 b3 b4 HST)
      go_ret2
      exact .inr ⟨HOK.out, S8, by rw [HS8.out.1]; rfl, HS8.out.2⟩

end Go.Proofs.YtlandfghodfjdaaGreat

namespace Go.Proofs.YtlandfghodfjdaaGreat
open Go.RowKit
set_option linter.unusedVariables false
set_option linter.unusedSimpArgs false

set_option maxRecDepth 100000 in
set_option maxHeartbeats 2000000 in
theorem size10_tot (dw on : Int) (nm tt : ByteArray) (pb : Option Addr) (nb cb : Nat) (n kp ls : Int) (fl : Value) (vals : List Value) (fs : List (ByteArray × List Nat)) (w : World) (h : FilesR w fl vals fs) (hl : fs.length ≤ 281474976710656)
    (hb : nb ≤ 281474976710656) (h1 : nm.size ≤ 281474976710656) (h2 : tt.size ≤ 281474976710656) (hf : ∀ i, i < fs.length → (fs.getD i (.empty, [])).1.size ≤ 281474976710656 ∧ ∃ p k c, vals.getD i (.slice none 0 0) = .slice p k c ∧ k ≤ 281474976710656 ∧ k = (fs.getD i (.empty, [])).2.length) :
    Calls Tryz.prog 9 #[opV dw on nm tt (.slice pb nb cb) n kp ls fl] w fun e w' => (∃ r : Nat, e = .returned (.int .i64 (r : Int)) ∧ (r ≤ 524288 → totB fs ≤ r) ∧ r ≤ 1000000000000000) ∧ Below w.heap.size w w' := by
  obtain ⟨p, c, hfl⟩ : ∃ p c, fl = .slice p fs.length c := by obtain ⟨_, p, c, e, _⟩ := h; exact ⟨p, c, e⟩
  subst hfl
  have HC := hide h
  have HF := hide hf
  obtain ⟨m, hn⟩ : ∃ m, fs.length = m := ⟨_, rfl⟩
  have HL := hide hn
  rw [hn] at hl ⊢
  clear h hn hf
  unfold opV
  go_enter Tryz.func9, Tryz.ntmps9
  go_wp2_with fail
  have hbw : Below w.heap.size w (w.alloc (.cells #[.int .i64 dw, .int .i64 on, .string nm, .string tt, .slice pb nb cb, .int .i64 n, .int .i64 kp, .int .i64 ls, .slice p m c] 36)) := (Below.refl _ _).alloc (Nat.le_refl _) _
  have HO := hide (heap_alloc_new w (.cells #[.int .i64 dw, .int .i64 on, .string nm, .string tt, .slice pb nb cb, .int .i64 n, .int .i64 kp, .int .i64 ls, .slice p m c] 36))
  have HBW := hide hbw
  obtain ⟨wa, hwa⟩ : ∃ wa, w.alloc (.cells #[.int .i64 dw, .int .i64 on, .string nm, .string tt, .slice pb nb cb, .int .i64 n, .int .i64 kp, .int .i64 ls, .slice p m c] 36) = wa := ⟨_, rfl⟩
  rw [hwa] at HO HBW ⊢
  have HA : Hid (FilesR wa (.slice p fs.length c) vals fs) := HC.out.below HBW.out
  obtain ⟨s0, hs0⟩ : ∃ s0 : Nat, nb + nm.size + tt.size = s0 := ⟨_, rfl⟩
  have hs1 : (nb : Int) + (nm.size : Int) + (tt.size : Int) = (s0 : Int) := by omega
  have hs2 : s0 ≤ 844424930131968 := by omega
  rw [hs1]
  have HS0 := hide hs0
  clear hwa hbw HC hs0 hs1
  go_loopw [3, 4] (fun t3 t4 wr => ∃ (r k N : Nat), t3 = .int .i64 (r : Int) ∧ t4 = .int .i64 (k : Int) ∧ wr = wa.drewN N ∧ k ≤ m ∧ (s0 ≤ r ∧ Hid (totB (fs.take k) ≤ r)) ∧ r ≤ 1000000000000000) (fun _ t4 _ => m - (intOf t4).toNat)
  case atStart => exact ⟨s0, 0, 0, rfl, rfl, rfl, Nat.zero_le _, ⟨Nat.le_refl _, by show totB [] ≤ _; simp [totB]⟩, by omega⟩
  case round =>
    obtain ⟨r, k, N, rfl, rfl, rfl, hk, ⟨hr1, HTB⟩, hr2⟩ := hrel
    have lf : (wa.drewN N).cell? ⟨w.heap.size, 8, none⟩ = some (.slice p m c) := cell_of_row _ _ _ _ _ _ HO.out
    have HB2 : Hid (Below w.heap.size w (wa.drewN N)) := ⟨HBW.out.os, HBW.out.tape, HBW.out.output, HBW.out.size, HBW.out.block⟩
    by_cases hlt : k < m
    · have hlt' : (k : Int) < (m : Int) := by omega
      by_cases hm : r ≤ 524288
      · have hm' : (r : Int) ≤ 524288 := by omega
        obtain ⟨hv, p', c', e', hcc⟩ := HA.out
        obtain ⟨g, o, hp, k1, k2⟩ := hcc k (by rw [HL.out]; exact hlt)
        simp only [Value.slice.injEq] at e'
        obtain ⟨rfl, -, rfl⟩ := e'
        subst hp
        obtain ⟨f1, px, nx, cx, f2, f3, f4⟩ := HF.out k (by rw [HL.out]; exact hlt)
        have HTN : Hid (totB (fs.take (k + 1)) = totB (fs.take k) + nx) := by
          have hk' : k < fs.length := by rw [HL.out]; exact hlt
          show _ = _
          rw [List.take_add_one, List.getElem?_eq_getElem hk', totB_app, f4]
          simp [totB, List.getD, List.getElem?_eq_getElem hk']
        clear f4
        rw [f2] at k2
        obtain ⟨x, hx⟩ : ∃ x, (fs.getD k (.empty, [])).1 = x := ⟨_, rfl⟩
        rw [hx] at k1 f1
        have l1 : (wa.drewN N).cell? ⟨g, o + k * 2, none⟩ = some (.string x) := k1
        have l2 : (wa.drewN N).cell? ⟨g, o + k * 2 + 1, none⟩ = some (.slice px nx cx) := k2
        obtain ⟨wn, hwn⟩ : ∃ wn, wa.drewN N = wn := ⟨_, rfl⟩
        rw [hwn] at l1 l2 lf ⊢
        have HWN := hide hwn
        clear hwn k1 k2 hx f2 hcc hv HB2
        go_wp2_with fail
        go_quiet (fail)
        have HD : Hid (∃ N', wn.drewN nq = wa.drewN N') := ⟨N + nq, by rw [← HWN.out]; exact World.drewN_drewN _ _ _⟩
        go_wp2_with fail
        go_roundw
        case rel => obtain ⟨N', h'⟩ := HD.out; exact ⟨r + nx + x.size + 100, k + 1, N', by simp, by simp, h', by omega, ⟨by omega, by have h1 := HTN.out; have h2 := HTB.out; show _ ≤ _; omega⟩, by omega⟩
        case measure => simp [intOf]; omega
      · have hm' : ¬ (r : Int) ≤ 524288 := by omega
        go_wp2_with fail
        go_ret
        exact ⟨⟨r, rfl, fun h => absurd h hm, hr2⟩, HB2.out⟩
    · have HTK : Hid (totB (fs.take k) = totB fs) := by show _ = _; rw [List.take_of_length_le (by rw [HL.out]; omega)]
      have hlt' : ¬ (k : Int) < (m : Int) := by omega
      go_wp2_with fail
      go_ret
      exact ⟨⟨r, rfl, fun _ => by rw [← HTK.out]; exact HTB.out, hr2⟩, HB2.out⟩

set_option maxRecDepth 100000 in
set_option maxHeartbeats 2000000 in
theorem sums_any (v : Value) (vals : List Value) (fs : List (ByteArray × List Nat)) (w : World) (h : FilesR w v vals fs) (hl : fs.length ≤ 1000000) (hf : ∀ i, i < fs.length → ∃ p k c, vals.getD i (.slice none 0 0) = .slice p k c ∧ k = (fs.getD i (.empty, [])).2.length) (ht : totB fs ≤ 1000000000000) :
    Calls Tryz.prog 16 #[v] w fun e w' => e = .returned (.int .i64 (totB fs : Nat)) ∧ ∃ N, w' = w.drewN N := by
  obtain ⟨hv, p, c, rfl, hc⟩ := h
  have HC := hide hc
  have HF := hide hf
  obtain ⟨n, hn⟩ : ∃ n, fs.length = n := ⟨_, rfl⟩
  have HL := hide hn
  rw [hn] at hl ⊢
  have HLE : Hid (∀ k, totB (fs.take k) ≤ totB fs) := fun k => by
    conv => rhs; rw [← List.take_append_drop k fs, totB_app]
    omega
  clear hv hc hf hn
  go_enter Tryz.func16, Tryz.ntmps16
  go_wp2_with fail
  go_loopw [3, 4] (fun t3 t4 wr => ∃ (r k N : Nat), t3 = .int .i64 (r : Int) ∧ t4 = .int .i64 (k : Int) ∧ wr = w.drewN N ∧ k ≤ n ∧ r ≤ 1000000000000 ∧ Hid (r = totB (fs.take k))) (fun _ t4 _ => n - (intOf t4).toNat)
  case atStart => exact ⟨0, 0, 0, rfl, rfl, rfl, Nat.zero_le _, Nat.zero_le _, rfl⟩
  case round =>
    obtain ⟨r, k, N, rfl, rfl, rfl, hk, hr, HR⟩ := hrel
    by_cases hlt : k < n
    · have hlt' : (k : Int) < (n : Int) := by omega
      obtain ⟨g, o, rfl, k1, k2⟩ := HC.out k (by rw [HL.out]; exact hlt)
      obtain ⟨px, nx, cx, f2, f3⟩ := HF.out k (by rw [HL.out]; exact hlt)
      rw [f2] at k2
      have l2 : (w.drewN N).cell? ⟨g, o + k * 2 + 1, none⟩ = some (.slice px nx cx) := k2
      have hk' : k < fs.length := by rw [HL.out]; exact hlt
      have HTN : Hid (r + nx = totB (fs.take (k + 1))) := by
        show _ = _
        rw [List.take_add_one, List.getElem?_eq_getElem hk', totB_app, f3, HR.out]
        simp [totB, List.getD, List.getElem?_eq_getElem hk']
      have hb : r + nx ≤ 1000000000000 := by have h1 := HTN.out; have h2 := HLE.out (k + 1); omega
      obtain ⟨wn, hwn⟩ : ∃ wn, w.drewN N = wn := ⟨_, rfl⟩
      rw [hwn] at l2 ⊢
      have HWN := hide hwn
      clear hwn k1 k2 f2 f3 hk'
      go_wp2_with fail
      go_roundw
      case rel => exact ⟨r + nx, k + 1, N, by simp, by simp, HWN.out.symm, by omega, hb, HTN.out⟩
      case measure => simp [intOf]; omega
    · have hlt' : ¬ (k : Int) < (n : Int) := by omega
      have HE : Hid (r = totB fs) := by have h := HR.out; rw [List.take_of_length_le (by rw [HL.out]; omega)] at h; exact h
      go_wp2_with fail
      go_ret
      exact ⟨by rw [HE.out]; rfl, N, rfl⟩

end Go.Proofs.YtlandfghodfjdaaGreat

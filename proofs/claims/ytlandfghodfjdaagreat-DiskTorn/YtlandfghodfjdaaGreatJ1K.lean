/- Sync, Cut. -/
import Derived.Test.YtlandfghodfjdaaGreatJ1J
import Derived.Deep.CutBlock
import Derived.Deep.DeepCutAuto
import Derived.Deep.CutRange
import Derived.Deep.RegionHeld3
namespace Go.Proofs.YtlandfghodfjdaaGreat
open Go.RowKit
open Go.MuLone (lock_free unlock_deferred run_callFunc_enter)
set_option linter.unusedVariables false
set_option linter.unusedSimpArgs false

/-- A file's cells are set in place, its bytes' beginning kept. -/
theorem Dk.inPlace {B : Nat} {w w' : World} {lk : Int} {S : DS} (h : Dk B w lk S) {x : Fi} (hx : x ∈ S.L) (v2 : Value) (k su2 : Nat) (hkl : k ≤ x.bs.length) (hs : su2 ≤ k)
    (hf : w'.heap[x.f]? = some (.cells #[v2, .int .i64 (su2 : Int)] 79 (0, 0))) (ho : ∀ k, k ≠ x.f → w'.heap[k]? = w.heap[k]?) (hw : w'.os = w.os ∧ w'.tape = w.tape ∧ w'.output = w.output ∧ w'.heap.size = w.heap.size)
    (hv : v2.ownBlock = x.v.ownBlock) (hown : w.ownsRow B 5 1 v2 k (bytesV (x.bs.take k))) :
    ∃ S' : DS, S'.d = S.d ∧ S'.ps = { S.ps with con := Con.upd S.ps.con x.nm fun _ => (x.bs.take k, su2) } ∧ Dk B w' lk S' ∧ Fr w (Fp S) w' (Fp S') := by
  have hvf : x.v.ownBlock ≠ some x.f := fun e => by
    rcases (h.ow x hx).2 with ⟨e1, _⟩ | ⟨g', cap, cur, e1, _, hh, _⟩
    · rw [e1] at e; simp [Value.ownBlock] at e
    · rw [e1] at e; simp [Value.ownBlock] at e; subst e; rw [h.fl x hx] at hh; simp at hh
  have hlen : (x.bs.take k).length = k := by simp; omega
  refine ⟨{ S with L := updF S.L x.nm fun y => { y with v := v2, bs := x.bs.take k, su := su2 } }, rfl, ps_upd x.nm v2 (x.bs.take k) su2, h.upd hx v2 (x.bs.take k) su2 hf ?_ (fun k _ h1 _ => ho k h1) (fun g hg => .inl (by rw [← hv]; exact hg)) ?_ ?_ ?_, hw.1, hw.2.1, hw.2.2.1, Nat.le_of_eq hw.2.2.2.symm, fun k hk hn => ⟨fun hf' => ?_, ho k (fun e => hn (.inr (.inr ⟨x, hx, .inl e⟩)))⟩⟩
  · rw [hlen]
    exact ownsRow_keep hown fun g hg => ho g (fun e => hvf (by rw [← hv, hg, e]))
  · intro n hn
    exact h.by_ x hx n (List.mem_of_mem_take hn)
  · rw [hlen]; exact hs
  · have := Con.tot_upd (con_nodup h) (con_mem hx) (x.bs.take k) su2
    have h4 := h.rm
    rw [tot_con] at h4
    have e : S.ps.con = S.L.map Fi.con := rfl
    rw [hlen] at this
    rw [e] at this ⊢
    omega
  · rcases fp_upd h.nd hx v2 _ _ hf' with hf' | hf'
    · exact hn hf'
    · exact hn (.inr (.inr ⟨x, hx, .inr (by rw [← hv]; exact hf')⟩))

set_option maxRecDepth 100000 in
theorem settle_any {B : Nat} {S : DS} {lk : Int} (w : World) (h : Dk B w lk S) (x : Fi) (hx : x ∈ S.L) :
    Calls Tryz.prog 53 #[.pointer (some ⟨x.f, 0, none⟩)] w fun e w' => e = .returned (.tuple #[]) ∧ ∃ S' : DS, S'.d = S.d ∧ S'.ps = { S.ps with con := Con.upd S.ps.con x.nm (fun q => (q.1, q.1.length)) } ∧ Dk B w' lk S' ∧ Fr w (Fp S) w' (Fp S') := by
  obtain ⟨p, cap, hv⟩ := h.fslice hx
  have c0 : w.cell? ⟨x.f, 0, none⟩ = some (.slice p x.bs.length cap) := by rw [← hv]; exact h.fcell hx
  have c1 := h.scell hx
  have f1 := frozen_of (h.fl x hx) 1
  have H := hide h
  clear h hv
  go_enter Tryz.func53, Tryz.ntmps53
  go_wp2
  go_end0
  have hh := H.out
  have := hh.inPlace (w' := w.setCell ⟨x.f, 1, none⟩ (.int .i64 (x.bs.length : Int))) hx x.v x.bs.length x.bs.length (Nat.le_refl _) (Nat.le_refl _) (by rw [heap_set_at (hh.fl x hx)]; rfl) (fun k hk => Below.heap_setCell _ _ _ _ hk) ⟨rfl, rfl, rfl, by simp [World.setCell]⟩ rfl (by rw [List.take_length]; exact hh.ow x hx)
  rw [List.take_length, Con.upd_at (con_nodup hh) (con_mem hx) (fun q => (q.1, q.1.length))] at this
  exact ⟨rfl, this⟩

set_option maxRecDepth 100000 in
theorem syncC_any {B : Nat} {S : DS} {lk : Int} (w : World) (h : Dk B w lk S) (x : Fi) (hx : x ∈ S.L) (g : Nat) (c : w.cell? ⟨g, 0, none⟩ = some (.pointer (some ⟨x.f, 0, none⟩))) :
    Calls Tryz.prog 52 #[.int .i64 9223372036854775807, .pointer (some ⟨g, 0, none⟩)] w fun e w' => e = .returned (.tuple #[]) ∧ ∃ S' : DS, S'.d = S.d ∧ S'.ps = { S.ps with con := Con.upd S.ps.con x.nm (fun q => (q.1, q.1.length)) } ∧ Dk B w' lk S' ∧ Fr w (Fp S) w' (Fp S') := by
  have HS := hide (settle_any w h x hx)
  clear h
  go_enter Tryz.func52, Tryz.ntmps52
  go_wp2_with (go_at_call 53; refine HS.out.mono ?_; rintro e w' ⟨rfl, hR⟩; have H5 := hide hR; clear hR)
  go_end0
  exact ⟨rfl, H5.out⟩

set_option maxRecDepth 100000 in
theorem sync_ok {B : Nat} {S : DS} (w : World) (h : Dk B w 0 S) (hoff : S.off = false) (harm : S.ain = 0) (hwr : S.wr ≤ 1000000000) (x : Fi) (hx : x ∈ S.L) (hs : okN x.nm) :
    Calls Tryz.prog 25 #[.pointer (some ⟨S.d, 0, none⟩), .string x.nm] w fun e w' => e = .returned (.int .i64 0) ∧ ∃ S' : DS, S'.d = S.d ∧ S'.ps = { S.ps with con := Con.upd S.ps.con x.nm (fun q => (q.1, q.1.length)), wr := S.ps.wr + 1 } ∧ Dk B w' 0 S' ∧ Fr w (Fp S) w' (Fp S') := by
  have hmf : ∀ (fn : Fn) (first cap : Array Value) (w : World), (Instr.makeFunc fn first cap).run Tryz.prog w = .ok (.func fn first cap) w := fun _ _ _ _ => rfl
  have l1 := h.cell 0 (.int .i32 0) rfl
  have l2 := frozen_of h.dk 0
  have HE : Hid (Dk B (w.setCell ⟨S.d, 0, none⟩ (.int .i32 1)) 1 S ∧ Fr w (Fp S) (w.setCell ⟨S.d, 0, none⟩ (.int .i32 1)) (Fp S)) := ⟨h.setLock 1, Fr.setCell (.inl rfl) _⟩
  have HFI : Hid (∀ w2, Dk B w2 1 S → Calls Tryz.prog 51 #[.pointer (some ⟨S.d, 0, none⟩), .string x.nm] w2 fun e w' => e = .returned (.tuple #[.pointer (some ⟨x.f, 0, none⟩), .int .i64 0]) ∧ Below w2.heap.size w2 w') := fun w2 h2 => find_ok w2 h2 hoff x hx hs
  have HW : Hid (∀ w3, (Dk B w3 1 S ∧ Fr w (Fp S) w3 (Fp S)) → Calls Tryz.prog 49 #[.pointer (some ⟨S.d, 0, none⟩), .func (.func 52) #[] #[.pointer (some ⟨w3.heap.size, 0, none⟩)]] (w3.alloc (.cells #[.pointer (some ⟨x.f, 0, none⟩)] 80)) fun e w' => e = .returned (.int .i64 0) ∧ ∃ S' : DS, S'.d = S.d ∧ S'.ps = { S.ps with con := Con.upd S.ps.con x.nm (fun q => (q.1, q.1.length)), wr := S.ps.wr + 1 } ∧ Dk B w' 1 S' ∧ Fr w (Fp S) w' (Fp S')) := fun w3 H3 => by
    have hb : Below w3.heap.size w3 (w3.alloc (.cells #[.pointer (some ⟨x.f, 0, none⟩)] 80)) := (Below.refl _ _).alloc (Nat.le_refl _) _
    have h4 := H3.1.below hb
    refine write_ok _ h4 harm hwr _ _ _ (fun args w => run_callFunc_enter Tryz.func52 (by kernel_rfl) rfl args w) ?_
    have h5 := h4.setWr (S.wr + 1)
    have hf5 : Fr (w3.alloc (.cells #[.pointer (some ⟨x.f, 0, none⟩)] 80)) (Fp S) ((w3.alloc (.cells #[.pointer (some ⟨x.f, 0, none⟩)] 80)).setCell ⟨S.d, 8, none⟩ (.int .i64 ((S.wr : Int) + 1))) (Fp S) := Fr.setCell (.inl rfl) _
    refine (syncC_any (S := { S with wr := S.wr + 1 }) _ h5 x hx w3.heap.size (hf5.cell (fp_new H3.1 _ (Nat.le_refl _)) (by simp))).mono ?_
    rintro e w' ⟨rfl, S', e1, e2, e3, e4⟩
    exact ⟨rfl, S', e1, e2, e3, (H3.2.trans (Fr.of_below hb)).trans (hf5.trans e4)⟩
  clear h hs
  go_enter_defers Tryz.func25, Tryz.ntmps25
  go_wp2_with (first | (go_at_call 28; refine (lock_free muLib ⟨S.d, 0, none⟩ _ l1 l2).mono ?_; rintro e w2 ⟨rfl, hw2⟩; have H2 : Hid (Dk B w2 1 S ∧ Fr w (Fp S) w2 (Fp S)) := (by rw [hw2]; exact HE.out); clear hw2 l1 l2) | (go_at_call 51; refine (HFI.out _ H2.out.1).mono ?_; rintro e w3 ⟨rfl, hB3⟩; have H3 : Hid (Dk B w3 1 S ∧ Fr w (Fp S) w3 (Fp S)) := ⟨H2.out.1.below hB3, H2.out.2.trans (Fr.of_below hB3)⟩; clear hB3) | (go_at_call 49; refine (HW.out _ H3.out).mono ?_; rintro e w5 ⟨rfl, hR⟩; have H5 := hide hR; clear hR))
  obtain ⟨S5, e1, e2, e3, e4⟩ := H5.out
  have HZ := hide (door_of e3 e1)
  refine leaves_cons (f := 29) (args := #[.pointer (some ⟨S.d, 0, none⟩)]) (by simp) (by simp [go_sem]) ?_
  refine (unlock_deferred muLib ⟨S.d, 0, none⟩ .returning _ ?_ ?_).mono ?_
  · exact HZ.out.1
  · exact HZ.out.2.1
  rintro e u' w'' ⟨rfl, rfl, rfl⟩
  exact ⟨_, results_tmp rfl _ _ _, rfl, S5, e1, e2, HZ.out.2.2.1, e4.trans HZ.out.2.2.2⟩

set_option maxRecDepth 100000 in
theorem fcut_any {B : Nat} {S : DS} {lk : Int} (w : World) (h : Dk B w lk S) (x : Fi) (hx : x ∈ S.L) (n : Nat) (hn : n ≤ x.bs.length) :
    Calls Tryz.prog 59 #[.pointer (some ⟨x.f, 0, none⟩), .int .i64 (n : Int)] w fun e w' => e = .returned (.tuple #[]) ∧ ∃ S' : DS, S'.d = S.d ∧ S'.ps = { S.ps with con := Con.upd S.ps.con x.nm (fun q => (q.1.take n, min q.2 n)) } ∧ Dk B w' lk S' ∧ Fr w (Fp S) w' (Fp S') := by
  have hw0 := h.ow x hx
  have hcut : ∃ p cap, x.v = .slice p x.bs.length cap ∧ x.bs.length ≤ cap ∧ w.ownsRow B 5 1 (.slice p n cap) n (bytesV (x.bs.take n)) := by
    rcases hw0.2 with ⟨e1, e2⟩ | ⟨g, cap, cur, e1, e3, e4, e5, e6, e7, e8⟩
    · have hn0 : n = 0 := by omega
      refine ⟨none, 0, by rw [e1, e2], by omega, by simp [bytesV]; omega, .inl ⟨by rw [hn0], hn0⟩⟩
    · refine ⟨some ⟨g, 0, none⟩, cap, e1, e5, by simp [bytesV]; omega, .inr ⟨g, cap, cur, rfl, e3, e4, by omega, e6, e7, ?_⟩⟩
      rw [Nat.mul_one] at e8 ⊢
      have : (cur.toList.take x.bs.length).take n = (bytesV x.bs).take n := by rw [e8]
      rw [List.take_take, Nat.min_eq_left hn] at this
      rw [this]; unfold bytesV; rw [List.map_take]
  obtain ⟨p, cap, hv, hcap, hown⟩ := hcut
  have c0 : w.cell? ⟨x.f, 0, none⟩ = some (.slice p x.bs.length cap) := by rw [← hv]; exact h.fcell hx
  have c1 := h.scell hx
  have f0 := frozen_of (h.fl x hx) 0
  have f1 := frozen_of (h.fl x hx) 1
  have hsz : x.su ≤ 1000000000 := by
    have := h.su x hx
    have h4 := h.rm
    have := Con.tot_upd (con_nodup h) (con_mem hx) [] 0
    rw [tot_con] at h4
    have e : S.ps.con = S.L.map Fi.con := rfl
    rw [e] at this; simp at this; omega
  have hmin : min (x.su : Int) (n : Int) = ((min x.su n : Nat) : Int) := by omega
  have hmin2 : (if (n : Int) < (x.su : Int) then (n : Int) else (x.su : Int)) = ((min x.su n : Nat) : Int) := by split <;> omega
  have hnc : (n : Int) ≤ (cap : Int) := by omega
  have c1' : (w.setCell ⟨x.f, 0, none⟩ (.slice p n cap)).cell? ⟨x.f, 1, none⟩ = some (.int .i64 (x.su : Int)) := by rw [cell_setCell_ne _ _ _ _ _ (by decide)]; exact c1
  have H := hide h
  have HV := hide hv
  have HO := hide hown
  clear h hv hw0 hown
  have HFIN : Hid ((fun w' => ∃ S' : DS, S'.d = S.d ∧ S'.ps = { S.ps with con := Con.upd S.ps.con x.nm (fun q => (q.1.take n, min q.2 n)) } ∧ Dk B w' lk S' ∧ Fr w (Fp S) w' (Fp S')) ((w.setCell ⟨x.f, 0, none⟩ (.slice p n cap)).setCell ⟨x.f, 1, none⟩ (.int .i64 ((min x.su n : Nat) : Int)))) := by
    have hh := H.out
    have h0 : (w.setCell ⟨x.f, 0, none⟩ (.slice p n cap)).heap[x.f]? = some (.cells #[.slice p n cap, .int .i64 (x.su : Int)] 79 (0, 0)) := by rw [heap_set_at (hh.fl x hx)]; rfl
    have := hh.inPlace (w' := (w.setCell ⟨x.f, 0, none⟩ (.slice p n cap)).setCell ⟨x.f, 1, none⟩ (.int .i64 ((min x.su n : Nat) : Int))) hx (.slice p n cap) n (min x.su n) hn (Nat.min_le_right _ _) (by rw [heap_set_at h0]; rfl) (fun k hk => by rw [Below.heap_setCell _ _ _ _ hk, Below.heap_setCell _ _ _ _ hk]) ⟨rfl, rfl, rfl, by simp [World.setCell]⟩ (by rw [HV.out]; cases p <;> rfl) HO.out
    rw [Con.upd_at (con_nodup hh) (con_mem hx) (fun q => (q.1.take n, min q.2 n))] at this
    exact this
  have HP : Hid (p = none → cap = 0 ∧ n = 0 ∧ x.bs.length = 0) := fun e => by
    rcases (H.out.ow x hx).2 with ⟨e3, e4⟩ | ⟨g, cap', cur, e1, _⟩
    · rw [HV.out] at e3; simp at e3; omega
    · rw [HV.out, e] at e1; simp at e1
  obtain ⟨mn, hmn⟩ : ∃ mn, min x.su n = mn := ⟨_, rfl⟩
  rw [hmn] at hmin hmin2 HFIN
  clear hmn
  obtain ⟨nb, hnb⟩ : ∃ nb, x.bs.length = nb := ⟨_, rfl⟩
  rw [hnb] at c0 hcap hn HP
  clear HO HV H hnb
  rcases p with _ | ad
  · obtain ⟨rfl, rfl, rfl⟩ := HP.out rfl
    have hmin3 : min (x.su : Int) 0 = (mn : Int) := hmin
    go_enter Tryz.func59, Tryz.ntmps59
    go_wp2
    go_end0
    exact ⟨rfl, by simpa using HFIN.out⟩
  · go_enter Tryz.func59, Tryz.ntmps59
    go_wp2
    go_end0
    exact ⟨rfl, HFIN.out⟩

set_option maxRecDepth 100000 in
theorem cutC_any {B : Nat} {S : DS} {lk : Int} (w : World) (h : Dk B w lk S) (x : Fi) (hx : x ∈ S.L) (n : Nat) (hn : n ≤ x.bs.length) (g g2 : Nat) (c : w.cell? ⟨g, 0, none⟩ = some (.pointer (some ⟨x.f, 0, none⟩))) (c2 : w.cell? ⟨g2, 0, none⟩ = some (.int .i64 (n : Int))) :
    Calls Tryz.prog 58 #[.int .i64 9223372036854775807, .pointer (some ⟨g, 0, none⟩), .pointer (some ⟨g2, 0, none⟩)] w fun e w' => e = .returned (.tuple #[]) ∧ ∃ S' : DS, S'.d = S.d ∧ S'.ps = { S.ps with con := Con.upd S.ps.con x.nm (fun q => (q.1.take n, min q.2 n)) } ∧ Dk B w' lk S' ∧ Fr w (Fp S) w' (Fp S') := by
  have HS := hide (fcut_any w h x hx n hn)
  clear h
  go_enter Tryz.func58, Tryz.ntmps58
  go_wp2_with (go_at_call 59; refine HS.out.mono ?_; rintro e w' ⟨rfl, hR⟩; have H5 := hide hR; clear hR)
  go_end0
  exact ⟨rfl, H5.out⟩

set_option maxRecDepth 100000 in
set_option maxHeartbeats 1000000 in
theorem cut_ok {B : Nat} {S : DS} (w : World) (h : Dk B w 0 S) (hoff : S.off = false) (harm : S.ain = 0) (hwr : S.wr ≤ 1000000000) (x : Fi) (hx : x ∈ S.L) (hs : okN x.nm) (n : Nat) (hn : n ≤ x.bs.length) :
    Calls Tryz.prog 33 #[.pointer (some ⟨S.d, 0, none⟩), .string x.nm, .int .i64 (n : Int)] w fun e w' => e = .returned (.int .i64 0) ∧ ∃ S' : DS, S'.d = S.d ∧ S'.ps = { S.ps with con := Con.upd S.ps.con x.nm (fun q => (q.1.take n, min q.2 n)), wr := S.ps.wr + 1 } ∧ Dk B w' 0 S' ∧ Fr w (Fp S) w' (Fp S') := by
  have hmf : ∀ (fn : Fn) (first cap : Array Value) (w : World), (Instr.makeFunc fn first cap).run Tryz.prog w = .ok (.func fn first cap) w := fun _ _ _ _ => rfl
  have hb0 : Below w.heap.size w (w.alloc (.cells #[.int .i64 (n : Int)] 3)) := (Below.refl _ _).alloc (Nat.le_refl _) _
  have h0 := h.below hb0
  have l1 := h0.cell 0 (.int .i32 0) rfl
  have l2 := frozen_of h0.dk 0
  have HN : Hid (¬ Fp S w.heap.size) := fp_new h _ (Nat.le_refl _)
  have hf0 : Fr w (Fp S) ((w.alloc (.cells #[.int .i64 (n : Int)] 3)).setCell ⟨S.d, 0, none⟩ (.int .i32 1)) (Fp S) := (Fr.of_below hb0).trans (Fr.setCell (.inl rfl) _)
  have HE : Hid (Dk B ((w.alloc (.cells #[.int .i64 (n : Int)] 3)).setCell ⟨S.d, 0, none⟩ (.int .i32 1)) 1 S ∧ Fr w (Fp S) ((w.alloc (.cells #[.int .i64 (n : Int)] 3)).setCell ⟨S.d, 0, none⟩ (.int .i32 1)) (Fp S) ∧ ((w.alloc (.cells #[.int .i64 (n : Int)] 3)).setCell ⟨S.d, 0, none⟩ (.int .i32 1)).cell? ⟨w.heap.size, 0, none⟩ = some (.int .i64 (n : Int))) := ⟨h0.setLock 1, hf0, (Fr.setCell (w := w.alloc (.cells #[.int .i64 (n : Int)] 3)) (F := Fp S) (a := ⟨S.d, 0, none⟩) (.inl rfl) _).cell (a := ⟨w.heap.size, 0, none⟩) HN.out (by simp)⟩
  have HFI : Hid (∀ w2, Dk B w2 1 S → Calls Tryz.prog 51 #[.pointer (some ⟨S.d, 0, none⟩), .string x.nm] w2 fun e w' => e = .returned (.tuple #[.pointer (some ⟨x.f, 0, none⟩), .int .i64 0]) ∧ Below w2.heap.size w2 w') := fun w2 h2 => find_ok w2 h2 hoff x hx hs
  have HW : Hid (∀ w3, (Dk B w3 1 S ∧ Fr w (Fp S) w3 (Fp S) ∧ w3.cell? ⟨w.heap.size, 0, none⟩ = some (.int .i64 (n : Int))) → Calls Tryz.prog 49 #[.pointer (some ⟨S.d, 0, none⟩), .func (.func 58) #[] #[.pointer (some ⟨w3.heap.size, 0, none⟩), .pointer (some ⟨w.heap.size, 0, none⟩)]] (w3.alloc (.cells #[.pointer (some ⟨x.f, 0, none⟩)] 80)).drew fun e w' => e = .returned (.int .i64 0) ∧ ∃ S' : DS, S'.d = S.d ∧ S'.ps = { S.ps with con := Con.upd S.ps.con x.nm (fun q => (q.1.take n, min q.2 n)), wr := S.ps.wr + 1 } ∧ Dk B w' 1 S' ∧ Fr w (Fp S) w' (Fp S')) := fun w3 H3 => by
    have hb : Below w3.heap.size w3 (w3.alloc (.cells #[.pointer (some ⟨x.f, 0, none⟩)] 80)).drew := ((Below.refl _ _).alloc (Nat.le_refl _) _).drew
    have h4 := H3.1.below hb
    refine write_ok _ h4 harm hwr _ _ _ (fun args w => run_callFunc_enter Tryz.func58 (by kernel_rfl) rfl args w) ?_
    have h5 := h4.setWr (S.wr + 1)
    have hf5 : Fr (w3.alloc (.cells #[.pointer (some ⟨x.f, 0, none⟩)] 80)).drew (Fp S) ((w3.alloc (.cells #[.pointer (some ⟨x.f, 0, none⟩)] 80)).drew.setCell ⟨S.d, 8, none⟩ (.int .i64 ((S.wr : Int) + 1))) (Fp S) := Fr.setCell (.inl rfl) _
    refine (cutC_any (S := { S with wr := S.wr + 1 }) _ h5 x hx n hn w3.heap.size w.heap.size (hf5.cell (fp_new H3.1 _ (Nat.le_refl _)) (by show (w3.alloc _).cell? _ = _; simp)) (hf5.cell (a := ⟨w.heap.size, 0, none⟩) HN.out (by rw [hb.cell (p := ⟨w.heap.size, 0, none⟩) (World.block_lt_of_cell? _ _ H3.2.2)]; exact H3.2.2))).mono ?_
    rintro e w' ⟨rfl, S', e1, e2, e3, e4⟩
    exact ⟨rfl, S', e1, e2, e3, (H3.2.1.trans (Fr.of_below hb)).trans (hf5.trans e4)⟩
  have HX := hide hx
  obtain ⟨nb, hnb⟩ : ∃ nb, x.bs.length = nb := ⟨_, rfl⟩
  obtain ⟨p, cap, hv⟩ := h.fslice hx
  rw [hnb] at hv hn
  have HV := hide hv
  have hn1 : ¬ (n : Int) < 0 := by omega
  have hn2 : ¬ (nb : Int) < (n : Int) := by omega
  clear h hs h0 hf0 hb0 hv hx hnb
  go_enter_defers Tryz.func33, Tryz.ntmps33
  go_upto_region 6 with (first | (go_at_call 28; refine (lock_free muLib ⟨S.d, 0, none⟩ _ l1 l2).mono ?_; rintro e w2 ⟨rfl, hw2⟩; have H2 : Hid (Dk B w2 1 S ∧ Fr w (Fp S) w2 (Fp S) ∧ w2.cell? ⟨w.heap.size, 0, none⟩ = some (.int .i64 (n : Int))) := (by rw [hw2]; exact HE.out); clear hw2 l1 l2) | (go_at_call 51; refine (HFI.out _ H2.out.1).mono ?_; rintro e w3 ⟨rfl, hB3⟩; have H3 : Hid (Dk B w3 1 S ∧ Fr w (Fp S) w3 (Fp S) ∧ w3.cell? ⟨w.heap.size, 0, none⟩ = some (.int .i64 (n : Int))) := ⟨H2.out.1.below hB3, H2.out.2.1.trans (Fr.of_below hB3), (by rw [hB3.cell (p := ⟨w.heap.size, 0, none⟩) (World.block_lt_of_cell? _ _ H2.out.2.2)]; exact H2.out.2.2)⟩; clear hB3))
  have hba : Below w3.heap.size w3 (w3.alloc (.cells #[.pointer (some ⟨x.f, 0, none⟩)] 80)).drew := ((Below.refl _ _).alloc (Nat.le_refl _) _).drew
  have q1 : (w3.alloc (.cells #[.pointer (some ⟨x.f, 0, none⟩)] 80)).drew.cell? ⟨w.heap.size, 0, none⟩ = some (.int .i64 (n : Int)) := by rw [hba.cell (p := ⟨w.heap.size, 0, none⟩) (World.block_lt_of_cell? _ _ H3.out.2.2)]; exact H3.out.2.2
  have q2 : (w3.alloc (.cells #[.pointer (some ⟨x.f, 0, none⟩)] 80)).drew.cell? ⟨w3.heap.size, 0, none⟩ = some (.pointer (some ⟨x.f, 0, none⟩)) := by show (w3.alloc _).cell? _ = _; simp
  have q3 : (w3.alloc (.cells #[.pointer (some ⟨x.f, 0, none⟩)] 80)).drew.cell? ⟨x.f, 0, none⟩ = some (.slice p nb cap) := by rw [← HV.out]; exact (H3.out.1.below hba).fcell HX.out
  clear hba
  refine wp_region_noPanic ?_
  refine wp_region_held_drew (S := fun w' => w'.cell? ⟨w.heap.size, 0, none⟩ = some (.int .i64 (n : Int)) ∧ w'.cell? ⟨w3.heap.size, 0, none⟩ = some (.pointer (some ⟨x.f, 0, none⟩)) ∧ w'.cell? ⟨x.f, 0, none⟩ = some (.slice p nb cap)) (by kernel_rfl) ⟨q1, q2, q3⟩ (fun hHeld => ?_)
  refine wpAnyH_take (i := 0) (v := ?_) rfl (by kernel_rfl) (by kernel_rfl) (by kernel_rfl) (fun _ _ _ h => h) (Or.inl ⟨by rfl, ?_⟩) hHeld ?_
  rotate_left
  · (intro wq hSw; (try dsimp only at hSw); (try obtain ⟨s0, s1, s2⟩ := hSw); (go_simp <;> with_reducible rfl))
  try simp only [Act.put, List.getElem_toArray, List.getElem_cons_zero, List.getElem_cons_succ, List.setIfInBounds_toArray, List.set_cons_zero, List.set_cons_succ]
  refine wpAnyH_take (i := 1) (v := ?_) rfl (by kernel_rfl) (by kernel_rfl) (by kernel_rfl) (fun _ _ _ h => h) (Or.inl ⟨by rfl, ?_⟩) hHeld ?_
  rotate_left
  · (intro wq hSw; (try dsimp only at hSw); (try obtain ⟨s0, s1, s2⟩ := hSw); (go_simp <;> with_reducible rfl))
  try simp only [Act.put, List.getElem_toArray, List.getElem_cons_zero, List.getElem_cons_succ, List.setIfInBounds_toArray, List.set_cons_zero, List.set_cons_succ]
  refine wpAnyH_take (i := 2) (v := ?_) rfl (by kernel_rfl) (by kernel_rfl) (by kernel_rfl) (fun _ _ _ h => h) (Or.inl ⟨by rfl, ?_⟩) hHeld ?_
  rotate_left
  · (intro wq hSw; (try dsimp only at hSw); (try obtain ⟨s0, s1, s2⟩ := hSw); (go_simp <;> with_reducible rfl))
  try simp only [Act.put, List.getElem_toArray, List.getElem_cons_zero, List.getElem_cons_succ, List.setIfInBounds_toArray, List.set_cons_zero, List.set_cons_succ]
  refine wpAnyH_take (i := 3) (v := ?_) rfl (by kernel_rfl) (by kernel_rfl) (by kernel_rfl) (fun _ _ _ h => h) (Or.inl ⟨by rfl, ?_⟩) hHeld ?_
  rotate_left
  · (intro wq hSw; (try dsimp only at hSw); (try obtain ⟨s0, s1, s2⟩ := hSw); (go_simp <;> with_reducible rfl))
  try simp only [Act.put, List.getElem_toArray, List.getElem_cons_zero, List.getElem_cons_succ, List.setIfInBounds_toArray, List.set_cons_zero, List.set_cons_succ]
  refine wpAnyH_take (i := 4) (v := ?_) rfl (by kernel_rfl) (by kernel_rfl) (by kernel_rfl) (fun _ _ _ h => h) (Or.inl ⟨by rfl, ?_⟩) hHeld ?_
  rotate_left
  · (intro wq hSw; (try dsimp only at hSw); (try obtain ⟨s0, s1, s2⟩ := hSw); (go_simp <;> with_reducible rfl))
  try simp only [Act.put, List.getElem_toArray, List.getElem_cons_zero, List.getElem_cons_succ, List.setIfInBounds_toArray, List.set_cons_zero, List.set_cons_succ]
  refine wpAnyH_take (i := 5) (v := ?_) rfl (by kernel_rfl) (by kernel_rfl) (by kernel_rfl) (fun _ _ _ h => h) (Or.inl ⟨by rfl, ?_⟩) hHeld ?_
  rotate_left
  · (intro wq hSw; (try dsimp only at hSw); (try obtain ⟨s0, s1, s2⟩ := hSw); (go_simp <;> with_reducible rfl))
  try simp only [Act.put, List.getElem_toArray, List.getElem_cons_zero, List.getElem_cons_succ, List.setIfInBounds_toArray, List.set_cons_zero, List.set_cons_succ]
  refine wpAnyH_take (i := 6) (v := ?_) rfl (by kernel_rfl) (by kernel_rfl) (by kernel_rfl) (fun _ _ _ h => h) (Or.inl ⟨by rfl, ?_⟩) hHeld ?_
  rotate_left
  · (intro wq hSw; (try dsimp only at hSw); (try obtain ⟨s0, s1, s2⟩ := hSw); (go_simp <;> with_reducible rfl))
  try simp only [Act.put, List.getElem_toArray, List.getElem_cons_zero, List.getElem_cons_succ, List.setIfInBounds_toArray, List.set_cons_zero, List.set_cons_succ]
  refine wpAnyH_take (i := 7) (v := ?_) rfl (by kernel_rfl) (by kernel_rfl) (by kernel_rfl) (fun _ _ _ h => h) (Or.inl ⟨by rfl, ?_⟩) hHeld ?_
  rotate_left
  · (intro wq hSw; (try dsimp only at hSw); (try obtain ⟨s0, s1, s2⟩ := hSw); (go_simp <;> with_reducible rfl))
  try simp only [Act.put, List.getElem_toArray, List.getElem_cons_zero, List.getElem_cons_succ, List.setIfInBounds_toArray, List.set_cons_zero, List.set_cons_succ]
  refine wpAnyH_take (i := 8) (v := ?_) rfl (by kernel_rfl) (by kernel_rfl) (by kernel_rfl) (fun _ _ _ h => h) (Or.inl ⟨by rfl, ?_⟩) hHeld ?_
  rotate_left
  · (intro wq hSw; (try dsimp only at hSw); (try obtain ⟨s0, s1, s2⟩ := hSw); (go_simp <;> with_reducible rfl))
  try simp only [Act.put, List.getElem_toArray, List.getElem_cons_zero, List.getElem_cons_succ, List.setIfInBounds_toArray, List.set_cons_zero, List.set_cons_succ]
  refine wpAnyH_take (i := 9) (v := ?_) rfl (by kernel_rfl) (by kernel_rfl) (by kernel_rfl) (fun _ _ _ h => h) (Or.inl ⟨by rfl, ?_⟩) hHeld ?_
  rotate_left
  · (intro wq hSw; (try dsimp only at hSw); (try obtain ⟨s0, s1, s2⟩ := hSw); (go_simp <;> with_reducible rfl))
  try simp only [Act.put, List.getElem_toArray, List.getElem_cons_zero, List.getElem_cons_succ, List.setIfInBounds_toArray, List.set_cons_zero, List.set_cons_succ]
  refine wpAnyH_take (i := 10) (v := ?_) rfl (by kernel_rfl) (by kernel_rfl) (by kernel_rfl) (fun _ _ _ h => h) (Or.inl ⟨by rfl, ?_⟩) hHeld ?_
  rotate_left
  · (intro wq hSw; (try dsimp only at hSw); (try obtain ⟨s0, s1, s2⟩ := hSw); (go_simp <;> with_reducible rfl))
  try simp only [Act.put, List.getElem_toArray, List.getElem_cons_zero, List.getElem_cons_succ, List.setIfInBounds_toArray, List.set_cons_zero, List.set_cons_succ]
  refine wpAnyH_done (by kernel_rfl) ?_ _
  refine NoPanic.normal ?_
  go_wp2_with (go_at_call 49; refine (HW.out _ H3.out).mono ?_; rintro e w5 ⟨rfl, hR⟩; have H5 := hide hR; clear hR)
  obtain ⟨S5, e1, e2, e3, e4⟩ := H5.out
  have HZ := hide (door_of e3 e1)
  refine leaves_cons (f := 29) (args := #[.pointer (some ⟨S.d, 0, none⟩)]) (by simp) (by simp [go_sem]) ?_
  refine (unlock_deferred muLib ⟨S.d, 0, none⟩ .returning _ ?_ ?_).mono ?_
  · exact HZ.out.1
  · exact HZ.out.2.1
  rintro e u' w'' ⟨rfl, rfl, rfl⟩
  exact ⟨_, results_tmp rfl _ _ _, rfl, S5, e1, e2, HZ.out.2.2.1, e4.trans HZ.out.2.2.2⟩

end Go.Proofs.YtlandfghodfjdaaGreat

/- The law's Book and its Late together: Settle. -/
import Derived.Test.YtnjcedlbdjidiaaGreatDoorKM
import Derived.Deep.RegionHeldLaw
import Derived.Test.YtnjcedlbdjidiaaGreatDoorKCB
/- The law's Late: Add. -/
namespace Go.Proofs.YtnjcedlbdjidiaaGreatDoor
open Go.RowKit
open M
open Go.Lib
set_option linter.unusedVariables false

theorem bytes_below (w : World) (s : ByteArray) : Below w.heap.size w (bytesWorld w 5 s) := by
  refine ⟨rfl, rfl, rfl, by rw [bytesWorld_size]; omega, fun k hk => bytesWorld_at_old w 5 s k hk⟩

/-- Behind Add. -/
def LatePost (w : World) (NL base : Nat) (rg rw_ : Option Nat) (G : List Got) (v : Value) (bs : List Nat) (w' : World) : Prop :=
  ∃ rg' rw' u, LateSt w' NL base rg' rw' (G ++ [⟨v, u, bs⟩]) ∧ RStep w rg rg' ∧ RStep w rw_ rw' ∧ (∃ k, u.ownBlock = some k ∧ w.heap.size ≤ k) ∧ Chg (fun k => k = NL ∨ rg = some k ∨ rw_ = some k) w w'

set_option maxRecDepth 100000 in
set_option maxHeartbeats 8000000 in
theorem lateAdd_any (NL base n : Nat) (rg rw_ : Option Nat) (G : List Got) (p : Option Addr) (x : Value) (bs : List Nat) (w : World) (h : LateSt w NL base rg rw_ G) (hn : n = bs.length) (hv : w.ownsRow base 5 1 (.slice p n n) n (bytesV bs)) (h256 : ∀ n ∈ bs, n < 256) (hbl : bs.length ≤ 50000)
    (hx : ∀ w', Chg (fun k => k = NL ∨ rg = some k ∨ rw_ = some k) w w' → IsBy w' x bs) (hbase : base ≤ w.heap.size) (hG : G.length ≤ 100000) :
    Calls Tryz.prog 20 #[.pointer (some ⟨NL, 0, none⟩), .slice p n n, x] w fun q w' => q = .returned (.tuple #[]) ∧ LatePost w NL base rg rw_ G (.slice p n n) bs w' := by
  obtain ⟨vg, a1, a2, a3⟩ := h.gots
  obtain ⟨vw, b1, b2, b3⟩ := h.wants
  have f0 := h.f0
  have f1 := h.f1
  obtain ⟨i29, h29⟩ := infoB
  have H29 : Hid (Tryz.prog.info? 59 = some i29 ∧ i29.zero = some (.slice none 0 0) ∧ i29.size = 1 ∧ i29.bytes = 24) := h29
  have nrg : rg ≠ some NL := fun hh => by have := (row_ge a2 (a3.trans hh)).1; have := h.lt; omega
  have nrw : rw_ ≠ some NL := fun hh => by have := (row_ge b2 (b3.trans hh)).1; have := h.lt; omega
  have Hn : Hid (rg ≠ some NL ∧ rw_ ≠ some NL ∧ vg.ownBlock = rg ∧ vw.ownBlock = rw_ ∧ NL < base) := ⟨nrg, nrw, a3, b3, h.lt⟩
  have HR1 : Hid (w.ownsRow base 59 1 vg G.length (G.map Got.v)) := a2
  have HR2 : Hid (w.ownsRow base 59 1 vw G.length (G.map Got.u)) := b2
  have Hh : Hid (LateSt w NL base rg rw_ G) := h
  have Hx : Hid (∀ w', Chg (fun k => k = NL ∨ rg = some k ∨ rw_ = some k) w w' → IsBy w' x bs) := hx
  have Hv : Hid (w.ownsRow base 5 1 (.slice p n n) n (bytesV bs)) := hv
  have HXb : Hid (G.length ≤ 100000000) := by show _ ≤ _; omega
  have HbC1 : Hid (base ≤ (w.alloc (.cells #[.slice p n n] 59)).heap.size) := by show _ ≤ _; simp; omega
  have H256 : Hid ((∀ n ∈ bs, n < 256) ∧ bs.length ≤ 50000 ∧ n = bs.length) := ⟨h256, hbl, hn⟩
  clear h a2 a3 b2 b3 h29 nrg nrw hx hv h256 hbl hn
  go_enter Tryz.func20, Tryz.ntmps20
  go_wp2_with (at_builtin; refine listsB rfl _ _ rfl (.slice p n n) rfl rfl (HR1.out.alloc _) ⟨w.heap.size, 0, none⟩ rfl (fun j u hj => cell_newB w _ 59 j u hj) HXb.out HbC1.out ?d6)
  case d6 =>
    show ∀ g cap w', _
    intro g1 cap1 wD o1 gr1 at1
    rw [Hn.out.2.2.1] at gr1 at1
    have C1 : Chg (fun k => rg = some k) w wD := (Chg.below ((Below.refl _ _).alloc (Nat.le_refl _) _)).trans' (Chg.grown gr1 fun g hg => hg)
    have c0D := cell_chg a1 C1 Hn.out.1
    have c1D := cell_chg b1 C1 Hn.out.1
    have fD : ∀ j, wD.frozen? ⟨NL, j, none⟩ = w.frozen? ⟨NL, j, none⟩ := fun j => World.frozen?_of_block (w := w) (a := ⟨NL, _, none⟩) (C1.block NL (block_lt_of_cell a1) Hn.out.1)
    have f0D := (fD 0).trans f0
    have f1D := (fD 1).trans f1
    have hkeep : ∀ k, rg = some k → rw_ ≠ some k := Hh.out.ne
    have q2D : wD.ownsRow base 59 1 vw G.length (G.map Got.u) := ownsRow_chg HR2.out C1 (fun g hg hh => hkeep g hh (Hn.out.2.2.2.1 ▸ hg))
    obtain ⟨vg', hvg'⟩ : ∃ vg', vg' = Value.slice (some ⟨g1, 0, none⟩) (G.length + 1) cap1 := ⟨_, rfl⟩
    obtain ⟨wE, hwE⟩ : ∃ wE, wE = wD.setCell ⟨NL, 0, none⟩ vg' := ⟨_, rfl⟩
    have CE : Chg (fun k => k = NL ∨ rg = some k ∨ rw_ = some k) w wE := (C1.mono fun k _ hk => .inr (.inl hk)).trans' (by rw [hwE]; exact Chg.set _ _ _ _ (.inl rfl))
    have oE : wE.ownsRow base 59 1 vg' (G.length + 1) (G.map Got.v ++ [.slice p n n]) := by rw [hwE]; exact ownsRow_setOther (hvg' ▸ o1) _ _ _ Hn.out.2.2.2.2
    have q2E : wE.ownsRow base 59 1 vw G.length (G.map Got.u) := by rw [hwE]; exact ownsRow_setOther q2D _ _ _ Hn.out.2.2.2.2
    have c0E : wE.cell? ⟨NL, 0, none⟩ = some vg' := by rw [hwE]; exact cell_setCell_eq _ _ _ _ _ c0D
    have c1E : wE.cell? ⟨NL, 1, none⟩ = some vw := by rw [hwE, cell_setCell_ne _ _ _ _ _ (by omega)]; exact c1D
    have f0E : wE.frozen? ⟨NL, 0, none⟩ = false := by rw [hwE, frozen_setCell]; exact f0D
    have f1E : wE.frozen? ⟨NL, 1, none⟩ = false := by rw [hwE, frozen_setCell]; exact f1D
    have hat1 : RStep w rg vg'.ownBlock := by
      rw [hvg']; rcases at1 with at1 | at1
      · exact .inl at1.symm
      · exact .inr ⟨g1, rfl, by rw [at1]; simp⟩
    have H1 : Hid (wE.ownsRow base 59 1 vg' (G.length + 1) (G.map Got.v ++ [.slice p n n]) ∧ wE.ownsRow base 59 1 vw G.length (G.map Got.u) ∧ Chg (fun k => k = NL ∨ rg = some k ∨ rw_ = some k) w wE ∧ RStep w rg vg'.ownBlock ∧ wE.cell? ⟨NL, 0, none⟩ = some vg' ∧ wE.frozen? ⟨NL, 0, none⟩ = false) := ⟨oE, q2E, CE, hat1, c0E, f0E⟩
    clear o1 gr1 at1 C1 fD q2D hkeep CE oE q2E hat1 c0E f0E HR1 HR2 c1D f1D
    have hIE := Hx.out wE H1.out.2.2.1
    obtain ⟨s, hs⟩ : ∃ s, s = strOf bs := ⟨_, rfl⟩
    have hcv : (convert 59 9 x).run Tryz.prog wE.drew = .ok (.string s) wE.drew := by rw [hs]; exact convert_by wE.drew x bs hIE
    obtain ⟨cu, hcu⟩ : ∃ cu, cu = grownCap wE.drew s.size 0 5 := ⟨_, rfl⟩
    obtain ⟨wb, hwb⟩ : ∃ wb, wb = bytesWorld wE.drew 5 s := ⟨_, rfl⟩
    have hcv2 : (convert 9 59 (.string s)).run Tryz.prog wE.drew = .ok (.slice (some ⟨wE.heap.size, 0, none⟩) s.size cu) wb := by rw [hcu, hwb]; exact Go.Lib.run_convert_string_bytes wE.drew 9 59 5 s Tryz.underlying9 Tryz.underlying59 Tryz.underlying5
    have Bb : Below wE.heap.size wE wb := by rw [hwb]; exact ⟨rfl, rfl, rfl, (bytes_below wE.drew s).size, (bytes_below wE.drew s).block⟩
    have zb : wb.heap.size = wE.heap.size + 1 := by rw [hwb]; exact bytesWorld_size wE.drew 5 s
    have hNLE : NL < wE.heap.size := block_lt_of_cell c1E
    have c1b : wb.cell? ⟨NL, 1, none⟩ = some vw := (Bb.cell (p := ⟨NL, 1, none⟩) hNLE).trans c1E
    have f1b : wb.frozen? ⟨NL, 1, none⟩ = false := (World.frozen?_of_block (w := wE) (a := ⟨NL, _, none⟩) (Bb.block NL hNLE)).trans f1E
    have hsz : s.size = n := by rw [hs, strOf_size, H256.out.2.2]
    have hub : ∀ i, i < bs.length → wb.cell? ⟨wE.heap.size, i, none⟩ = some (.int .u8 (bs.getD i 0 : Nat)) := fun i hi => by
      have h9 := bytesWorld_cell wE.drew 5 s i (by rw [hsz, H256.out.2.2]; exact hi)
      rw [hwb]
      have e9 : (s.data.toList.getD i 0).toNat = bs.getD i 0 := by
        have h10 := bytesN_strOf bs H256.out.1
        rw [← hs] at h10
        have h11 := congrArg (fun l => l.getD i 0) h10
        simp only [bytesN] at h11
        rw [← h11]
        simp only [List.getD_eq_getElem?_getD, List.getElem?_map]
        cases s.data.toList[i]? <;> rfl
      rw [← e9]; exact h9
    rw [hsz] at hcv2
    have c1a : (wb.alloc (.cells #[.slice (some ⟨wE.heap.size, 0, none⟩) n cu] 59)).cell? ⟨NL, 1, none⟩ = some vw := (World.cell?_of_block (w := wb) (Below.heap_alloc _ _ _ (show NL < wb.heap.size by omega))).trans c1b
    have Hrow : Hid ((wb.alloc (.cells #[.slice (some ⟨wE.heap.size, 0, none⟩) n cu] 59)).ownsRow base 59 1 vw G.length (G.map Got.u)) := by
      have r1 : wb.ownsRow base 59 1 vw G.length (G.map Got.u) := ownsRow_keep H1.out.2.1 (fun g hg => Bb.block g (H1.out.2.1.lt g hg).2)
      exact r1.alloc _
    have HbE1 : Hid (base ≤ (wb.alloc (.cells #[.slice (some ⟨wE.heap.size, 0, none⟩) n cu] 59)).heap.size) := by
      show _ ≤ _
      have := H1.out.2.2.1.size
      simp; omega
    have HFin : Hid (∀ g2 cap2 w3, w3.ownsRow base 59 1 (.slice (some ⟨g2, 0, none⟩) (G.length + 1) cap2) (G.length + 1) (G.map Got.u ++ [.slice (some ⟨wE.heap.size, 0, none⟩) n cu]) → (wb.alloc (.cells #[.slice (some ⟨wE.heap.size, 0, none⟩) n cu] 59)).grownBy w3 vw.ownBlock → (vw.ownBlock = some g2 ∨ g2 = wE.heap.size + 1 + 1) →
        LatePost w NL base rg rw_ G (.slice p n n) bs (w3.setCell ⟨NL, 1, none⟩ (.slice (some ⟨g2, 0, none⟩) (G.length + 1) cap2)) ∧ w3.cell? ⟨NL, 1, none⟩ = some vw ∧ w3.frozen? ⟨NL, 1, none⟩ = false) := fun g2 cap2 w3 o3 gr3 at3 => by
      rw [Hn.out.2.2.2.1] at gr3 at3
      have zE := H1.out.2.2.1.size
      have C3 : Chg (fun k => rw_ = some k) wE w3 := (Chg.below (Bb.trans (((Below.refl _ _).alloc (by omega) _)))).trans' (Chg.grown gr3 fun g hg => hg)
      have c1w := cell_chg c1E C3 Hn.out.2.1
      have f1w : w3.frozen? ⟨NL, 1, none⟩ = false := (World.frozen?_of_block (w := wE) (a := ⟨NL, _, none⟩) (C3.block NL hNLE Hn.out.2.1)).trans f1E
      refine ⟨?_, c1w, f1w⟩
      obtain ⟨vw', hvw'⟩ : ∃ vw', vw' = Value.slice (some ⟨g2, 0, none⟩) (G.length + 1) cap2 := ⟨_, rfl⟩
      rw [← hvw'] at o3 ⊢
      obtain ⟨w4, hw4⟩ : ∃ w4, w4 = w3.setCell ⟨NL, 1, none⟩ vw' := ⟨_, rfl⟩
      rw [← hw4]
      have C4 : Chg (fun k => k = NL) w3 w4 := by rw [hw4]; exact Chg.set _ _ _ _ rfl
      have nvg : ∀ k, vg'.ownBlock = some k → ¬ rw_ = some k := fun k hk hh => by
        rcases H1.out.2.2.2.1 with h9 | ⟨gg, h9, h10⟩
        · exact Hh.out.ne k (h9 ▸ hk) hh
        · rw [h9] at hk; simp only [Option.some.injEq] at hk; subst hk
          obtain ⟨vw0, b10, b20, b30⟩ := Hh.out.wants
          have := (row_ge b20 (b30.trans hh)).2; omega
      have oG4 : w4.ownsRow base 59 1 vg' (G.length + 1) (G.map Got.v ++ [.slice p n n]) := by
        have r1 := ownsRow_chg H1.out.1 C3 nvg
        exact ownsRow_chg r1 C4 (fun g hg hh => by have := (row_ge r1 hg).1; have := Hn.out.2.2.2.2; omega)
      have oW4 : w4.ownsRow base 59 1 vw' (G.length + 1) (G.map Got.u ++ [.slice (some ⟨wE.heap.size, 0, none⟩) n cu]) := ownsRow_chg o3 C4 (fun g hg hh => by have := (row_ge o3 hg).1; have := Hn.out.2.2.2.2; omega)
      have hstep : RStep w rw_ vw'.ownBlock := by
        rw [hvw']; rcases at3 with at3 | at3
        · exact .inl at3.symm
        · exact .inr ⟨g2, rfl, by omega⟩
      have C24 : Chg (fun k => k = NL ∨ rw_ = some k) wb w4 := by
        have r1 : Chg (fun k => k = NL ∨ rw_ = some k) wb w3 := (Chg.below ((Below.refl _ _).alloc (Nat.le_refl _) _)).trans' (Chg.grown gr3 fun g hg => .inr hg)
        exact r1.trans' (C4.mono fun k _ hk => .inl hk)
      have Call : Chg (fun k => k = NL ∨ rg = some k ∨ rw_ = some k) w w4 := (H1.out.2.2.1.trans' (Chg.below Bb)).trans' (C24.mono fun k _ hk => by rcases hk with hk | hk; exact .inl hk; exact .inr (.inr hk))
      have nrowd : ∀ {v : Value} {m : Nat} {xs : List Value}, w.ownsRow base 5 1 v m xs → ∀ k, v.ownBlock = some k → ¬ (k = NL ∨ rg = some k ∨ rw_ = some k) := fun hrow k hk hh => by
        obtain ⟨vg0, a10, a20, a30⟩ := Hh.out.gots
        obtain ⟨vw0, b10, b20, b30⟩ := Hh.out.wants
        rcases hh with hh | hh | hh
        · have := (row_ge hrow hk).1; have := Hn.out.2.2.2.2; omega
        · exact rows_ne hrow a20 (by decide) hk (a30.trans hh)
        · exact rows_ne hrow b20 (by decide) hk (b30.trans hh)
      refine ⟨vg'.ownBlock, vw'.ownBlock, .slice (some ⟨wE.heap.size, 0, none⟩) n cu, ⟨⟨vg', ?_, by simpa using oG4, rfl⟩, ⟨vw', ?_, by simpa using oW4, rfl⟩, ?_, ?_, fun g' hg' => ?_, fun k hk hh => ?_, Hn.out.2.2.2.2, fun h0 => by simp at h0⟩, H1.out.2.2.2.1, hstep, ⟨wE.heap.size, rfl, by omega⟩, Call⟩
      · rw [hw4, cell_setCell_ne _ _ _ _ _ (by omega)]; exact cell_chg H1.out.2.2.2.2.1 C3 Hn.out.2.1
      · rw [hw4]; exact cell_setCell_eq _ _ _ _ _ c1w
      · rw [hw4, frozen_setCell]; exact (World.frozen?_of_block (w := wE) (a := ⟨NL, _, none⟩) (C3.block NL hNLE Hn.out.2.1)).trans H1.out.2.2.2.2.2
      · rw [hw4, frozen_setCell]; exact f1w
      · simp only [List.mem_append, List.mem_singleton] at hg'
        rcases hg' with hg' | rfl
        · have hg9 := Hh.out.ok g' hg'
          have hGp : 0 < G.length := List.length_pos_of_mem hg'
          refine hg9.chg Call (nrowd hg9.got) (fun k hk h0 hh => ?_)
          obtain ⟨vg0, a10, a20, a30⟩ := Hh.out.gots
          obtain ⟨vw0, b10, b20, b30⟩ := Hh.out.wants
          obtain ⟨bb, cc, k1, k2, _⟩ := hg9.want
          rcases hh with hh | hh | hh
          · rw [k1] at hk; simp only [Value.ownBlock, Option.some.injEq] at hk; have := Hn.out.2.2.2.2; omega
          · refine hg9.apart h0 hk a20 (fun x hx a b => ?_) hGp (a30.trans hh)
            simp only [List.mem_map] at hx
            obtain ⟨e9, he9, rfl⟩ := hx
            obtain ⟨q9, hv9⟩ := (Hh.out.ok e9 he9).full
            rw [hv9]; simp
          · refine hg9.apart h0 hk b20 (fun x hx a b => ?_) hGp (b30.trans hh)
            simp only [List.mem_map] at hx
            obtain ⟨e9, he9, rfl⟩ := hx
            obtain ⟨_, _, hv9, _⟩ := (Hh.out.ok e9 he9).want
            rw [hv9]; simp
        · have hv' : w.ownsRow base 5 1 (.slice p n n) bs.length (bytesV bs) := Eq.subst (motive := fun m => w.ownsRow base 5 1 (.slice p n n) m (bytesV bs)) H256.out.2.2 Hv.out
          refine ⟨ownsRow_chg hv' Call (nrowd hv'), ⟨p, by show Value.slice p n n = .slice p bs.length bs.length; rw [← H256.out.2.2]⟩, ⟨wE.heap.size, cu, by show Value.slice (some ⟨wE.heap.size, 0, none⟩) n cu = .slice (some ⟨wE.heap.size, 0, none⟩) bs.length cu; rw [← H256.out.2.2], by omega, by have := C24.size; omega, fun i hi => cell_chg (hub i hi) C24 (fun hh => ?_)⟩, H256.out.1, H256.out.2.1⟩
          rcases hh with hh | hh
          · omega
          · obtain ⟨vw0, b10, b20, b30⟩ := Hh.out.wants
            have := (row_ge b20 (b30.trans hh)).2; omega
      · rcases hstep with h9 | ⟨gg, h9, h10⟩
        · exact nvg k hk (h9 ▸ hh)
        · have hgk : gg = k := by rw [h9] at hh; simpa using hh
          subst hgk
          have h11 := (H1.out.1.lt gg hk).2
          rcases at3 with at3 | at3
          · rw [hvw'] at hh; simp only [Value.ownBlock, Option.some.injEq] at hh
            subst hh
            obtain ⟨vw0, b10, b20, b30⟩ := Hh.out.wants
            have := (row_ge b20 (b30.trans at3)).2; omega
          · rw [hvw'] at hh; simp only [Value.ownBlock, Option.some.injEq] at hh; omega
    have hsb : Hid (base ≤ wE.heap.size) := by show _ ≤ _; have := H1.out.2.2.1.size; omega
    clear hub Bb hwb hcu hs hIE
    go_wp2_with fail
    rw [← hvg', ← hwE]
    clear hwE hvg'
    go_region_law (refine step_append_lies _ rfl _ _ _ rfl base 59 i29 (.slice none 0 0) 1 24 Tryz.underlying24 H29.out.1 H29.out.2.1 H29.out.2.2.1 H29.out.2.2.2 rfl (by decide) vw G.length (G.map Got.u) (by simp [Act.eval]) Hrow.out ⟨wb.heap.size, 0, none⟩ 1 1 [.slice (some ⟨wE.heap.size, 0, none⟩) n cu] (by simp [Act.eval]) rfl (by intro j u hj; exact cell_newB wb _ 59 j u hj) (by intro u hu; simp at hu; subst hu; rfl) (by decide) (by unfold maxLen; omega) (by omega) HbE1.out _ rfl ?_; intro g2 cap2 w3 o3 gr3 at3 lt3; obtain ⟨hF, hcb, hfb⟩ := HFin.out g2 cap2 w3 o3 gr3 (by simpa [zb] using at3); have HF : Hid _ := hF; clear o3 gr3 at3 lt3 hF)
    all_goals
      go_wp2_with fail
      go_end0
      exact ⟨rfl, HF.out⟩

end Go.Proofs.YtnjcedlbdjidiaaGreatDoor

/- The law's Late: same, Settle. -/
namespace Go.Proofs.YtnjcedlbdjidiaaGreatDoor
open Go.RowKit
open M
set_option linter.unusedVariables false

theorem isBytes_own {w : World} {base g n cap : Nat} {bs : List Nat} (h : w.ownsRow base 5 1 (.slice (some ⟨g, 0, none⟩) n cap) n (bytesV bs)) (hn : bs.length = n) : IsBytes w (.slice (some ⟨g, 0, none⟩) n cap) bs := by
  obtain ⟨h1, h2⟩ := h
  rcases h2 with ⟨h2, _⟩ | ⟨g', cap', cur, h0, h4, h5, h6, _, h7, h8⟩
  · simp at h2
  · simp only [Value.slice.injEq, Option.some.injEq, Addr.mk.injEq] at h0
    obtain ⟨⟨rfl, _⟩, _, rfl⟩ := h0
    refine .inr ⟨g, 0, cap, by rw [hn], fun i hi => ?_⟩
    rw [cell_of_row _ _ _ _ _ _ h5]
    have h9 := congrArg (fun l => l[i]?) h8
    rw [List.getElem?_take_of_lt (by omega)] at h9
    rw [Nat.zero_add]
    have h10 : cur[i]? = (bytesV bs)[i]? := by simpa using h9
    rw [h10]
    simp [bytesV, hi]

theorem by_of_row {w : World} {base n : Nat} {v : Value} {bs : List Nat} (h : w.ownsRow base 5 1 v n (bytesV bs)) : IsBy w v bs := by
  have hl : bs.length = n := by have := h.1; simpa using this
  rcases h.2 with ⟨rfl, rfl⟩ | ⟨g, cap, cur, rfl, _⟩
  · exact .inl (.inl ⟨rfl, List.length_eq_zero_iff.1 hl⟩)
  · exact .inl (isBytes_own h hl)

theorem GOk.by_got {w : World} {base : Nat} {g : Got} (h : GOk w base g) : IsBy w g.v g.bs := by_of_row h.got

theorem GOk.by_want {w : World} {base : Nat} {g : Got} (h : GOk w base g) : IsBy w g.u g.bs := by
  obtain ⟨b, cap, k1, _, _, k4⟩ := h.want
  rw [k1]
  exact .inl (.inr ⟨b, 0, cap, rfl, fun i hi => by rw [Nat.zero_add]; exact k4 i hi⟩)

theorem IsBy.drewN {w : World} {v : Value} {bs : List Nat} (h : IsBy w v bs) (m : Nat) : IsBy (w.drewN m) v bs := h

set_option maxRecDepth 100000 in
set_option maxHeartbeats 8000000 in
theorem lateSame_any (NL base : Nat) (rg rw_ : Option Nat) (G : List Got) (w : World) (h : LateSt w NL base rg rw_ G) (hG : G.length ≤ 100000) :
    Calls Tryz.prog 22 #[.pointer (some ⟨NL, 0, none⟩)] w fun q w' => q = .returned (.bool true) ∧ ∃ m, w' = w.drewN m := by
  obtain ⟨vg, a1, a2, _⟩ := h.gots
  obtain ⟨vw, b1, b2, _⟩ := h.wants
  obtain ⟨pg, cg, hvg, -⟩ := row_form a2
  obtain ⟨pw, cw, hvw, -⟩ := row_form b2
  have HOK : Hid (∀ g ∈ G, GOk w base g) := h.ok
  have HB : Hid (0 < G.length → ∃ b, pg = some ⟨b, 0, none⟩ ∧ ∀ (i : Nat) g, G[i]? = some g → w.cell? ⟨b, i, none⟩ = some g.v) := fun h0 => by
    obtain ⟨b, h1, _, _, h2⟩ := row_at a2 hvg h0
    exact ⟨b, h1, fun i g hg => h2 i g.v (by simp [hg])⟩
  have HM : Hid (0 < G.length → ∃ b, pw = some ⟨b, 0, none⟩ ∧ ∀ (i : Nat) g, G[i]? = some g → w.cell? ⟨b, i, none⟩ = some g.u) := fun h0 => by
    obtain ⟨b, h1, _, _, h2⟩ := row_at b2 hvw h0
    exact ⟨b, h1, fun i g hg => h2 i g.u (by simp [hg])⟩
  subst hvg
  subst hvw
  obtain ⟨nG, hnG⟩ : ∃ nG, nG = G.length := ⟨_, rfl⟩
  have HnG : Hid (nG = G.length) := hnG
  rw [← hnG] at a1 b1 hG
  clear h a2 b2 hnG
  go_enter Tryz.func22, Tryz.ntmps22
  go_wp2
  go_loopw [3] (fun t3 wr => ∃ k : Nat, k ≤ nG ∧ t3 = .int .i64 k ∧ Hid (∃ m, wr = w.drewN m)) (fun t3 _ => nG - (intOf t3).toNat)
  case atStart => exact ⟨0, by omega, rfl, ⟨0, rfl⟩⟩
  case round =>
    obtain ⟨k, hk, rfl, Hm⟩ := hrel
    have hcell : ∀ a, wr.cell? a = w.cell? a := fun a => by obtain ⟨m, rfl⟩ := Hm.out; rfl
    have a1' := (hcell ⟨NL, 0, none⟩).trans a1
    have b1' := (hcell ⟨NL, 1, none⟩).trans b1
    by_cases hlt : k < nG
    · have hkI : (k : Int) < (nG : Int) := by omega
      obtain ⟨g, hg⟩ : ∃ g, G[k]? = some g := ⟨G[k]'(by have := HnG.out; omega), List.getElem?_eq_getElem _⟩
      have hok := HOK.out g (List.mem_of_getElem? hg)
      obtain ⟨gb, rfl, hgb⟩ := HB.out (by have := HnG.out; omega)
      obtain ⟨gw, rfl, hgw⟩ := HM.out (by have := HnG.out; omega)
      have d1 := (hcell ⟨gb, k, none⟩).trans (hgb k g hg)
      have d2 := (hcell ⟨gw, k, none⟩).trans (hgw k g hg)
      have hcv1 : ∀ n, (convert 59 9 g.v).run Tryz.prog (wr.drewN n) = .ok (.string (strOf g.bs)) (wr.drewN n) := fun n => by
        obtain ⟨m, rfl⟩ := Hm.out
        exact convert_by _ _ _ (by rw [World.drewN_drewN]; exact hok.by_got.drewN _)
      have hcv2 : ∀ n, (convert 59 9 g.u).run Tryz.prog (wr.drewN n) = .ok (.string (strOf g.bs)) (wr.drewN n) := fun n => by
        obtain ⟨m, rfl⟩ := Hm.out
        exact convert_by _ _ _ (by rw [World.drewN_drewN]; exact hok.by_want.drewN _)
      clear hcell hok hgb hgw hg
      generalize strOf g.bs = s at *
      generalize g.v = gv at *
      generalize g.u = gu at *
      go_wp2_with fail
      go_quiet (fail)
      go_wp2_with fail
      go_roundw
      case rel =>
        refine ⟨k + 1, by omega, by go_num, ?_⟩
        obtain ⟨m, rfl⟩ := Hm.out
        exact ⟨m + nq, World.drewN_drewN _ _ _⟩
      case measure => simp [intOf]; omega
    · clear hcell
      go_wp2_with fail
      go_ret
      exact ⟨rfl, Hm.out⟩

end Go.Proofs.YtnjcedlbdjidiaaGreatDoor

namespace Go.Proofs.YtnjcedlbdjidiaaGreatDoor
open Go.RowKit
open M
set_option linter.unusedVariables false
set_option linter.unusedSimpArgs false

/-- A look at a Book of these kinds. -/
def LookOk (L : List Kd) : Prop := ∀ (NB base : Nat) (F : Nat → KV) (T D U : Nat) (w : World), BkSt L w NB base F T D U → (∀ K ∈ L, (F K.c).E.length + 96 * ((F K.c).E.length - (F K.c).A) ≤ 200000) → base ≤ w.heap.size → (∀ K ∈ L, Fresh (F K.c)) →
    Calls Tryz.prog 13 #[.pointer (some ⟨NB, 0, none⟩)] w fun q w' => q = .returned (.bool true) ∧ ∃ F', LookSt L w NB base F T U F' w'

/-- The Book and the Late. -/
structure BL (L : List Kd) (w : World) (NB NL base : Nat) (F : Nat → KV) (T D U : Nat) (rg rw_ : Option Nat) (G : List Got) : Prop where
  book : BkSt L w NB base F T D U
  late : LateSt w NL base rg rw_ G
  ne : NB ≠ NL
  fresh : ∀ K ∈ L, Fresh (F K.c)
  cnt : ∀ K ∈ L, (F K.c).E.length + 96 * ((F K.c).E.length - (F K.c).A) ≤ 97 * T
  tot : T + G.length ≤ 2000
  rows : ∀ K ∈ L, ∀ k, (F K.c).rb = some k → rg ≠ some k ∧ rw_ ≠ some k
  ge : ∀ g ∈ G, ∀ e ∈ (F 0).E, ∀ k, g.v.ownBlock = some k → e.v.ownBlock ≠ some k
  gg : ∀ (i j : Nat) (gi gj : Got), i < j → G[i]? = some gi → G[j]? = some gj → ∀ k, gi.v.ownBlock = some k → gj.v.ownBlock ≠ some k
  base_ : base ≤ w.heap.size

/-- What Settle may turn. -/
def SS (L : List Kd) (NB : Nat) (F : Nat → KV) (G : List Got) (k : Nat) : Prop := BkRows L NB F k ∨ ∃ g ∈ G, g.v.ownBlock = some k

/-- While the answers go into the Book: i of them are in it. -/
structure SetSt (L : List Kd) (w : World) (NB NL base : Nat) (F : Nat → KV) (T D : Nat) (G : List Got) (vg vw : Value) (Fi : Nat → KV) (Ui i : Nat) (wr : World) : Prop where
  book : BkSt L wr NB base Fi (T + i) D Ui
  from_ : ∀ e ∈ (Fi 0).E, e ∈ (F 0).E ∨ ∃ (j : Nat) (g : Got), j < i ∧ G[j]? = some g ∧ e.v = g.v
  oth : ∀ k, k ≠ 0 → Fi k = F k
  A : (Fi 0).A = (F 0).A
  cnt : ∀ K ∈ L, (Fi K.c).E.length + 96 * ((Fi K.c).E.length - (Fi K.c).A) ≤ 97 * (T + i)
  fresh : ∀ K ∈ L, Fresh (Fi K.c)
  s1 : RStep w (F 0).rb (Fi 0).rb
  s2 : RStep w (F 0).ro (Fi 0).ro
  chg : Chg (SS L NB F G) w wr
  left : ∀ (j : Nat) (g : Got), i ≤ j → G[j]? = some g → wr.ownsRow base 5 1 g.v g.bs.length (bytesV g.bs)
  c0 : wr.cell? ⟨NL, 0, none⟩ = some vg
  c1 : wr.cell? ⟨NL, 1, none⟩ = some vw
  f0 : wr.frozen? ⟨NL, 0, none⟩ = false
  f1 : wr.frozen? ⟨NL, 1, none⟩ = false
  row : wr.ownsRow base 59 1 vg G.length (G.map Got.v)

theorem SetSt.step {L : List Kd} (hL : KOk L) (hB : kB ∈ L) {w wr w1 : World} {NB NL base : Nat} {F : Nat → KV} {T D U : Nat} {rg rw_ : Option Nat} {G : List Got} {vg vw : Value} {Fi : Nat → KV} {Ui i : Nat} {g : Got} (hK : BL L w NB NL base F T D U rg rw_ G) (hvg : vg.ownBlock = rg)
    (h : SetSt L w NB NL base F T D G vg vw Fi Ui i wr) (hg : G[i]? = some g) (hP : AddPost kB wr NB base (Fi 0).rb (Fi 0).ro (Fi 0).E (Fi 0).A (T + i) D ⟨g.v, g.bs.length, T + i + 1⟩ w1) :
    ∃ Fj Uj, SetSt L w NB NL base F T D G vg vw Fj Uj (i + 1) w1 := by
  have hz := h.chg.size
  have hgm := List.mem_of_getElem? hg
  have hgok := hK.late.ok g hgm
  have hgi := h.left i g (Nat.le_refl _) hg
  have hst := h.book.st kB hB
  have hA : (Fi 0).A ≤ (Fi 0).E.length := hst.le.1
  obtain ⟨rb2, ro2, Ej, Uj, B1, hEj, t1, t2, C⟩ := h.book.taken hL (K := kB) hB (e := ⟨g.v, g.bs.length, T + i + 1⟩) hgi hP
  have hEj : Ej = (Fi 0).E ∨ Ej = (Fi 0).E ++ [⟨g.v, g.bs.length, T + i + 1⟩] := hEj
  have t1 : RStep wr (Fi 0).rb rb2 := t1
  have t2 : RStep wr (Fi 0).ro ro2 := t2
  have C : Chg (fun k => k = NB ∨ (Fi 0).rb = some k ∨ (Fi 0).ro = some k ∨ g.v.ownBlock = some k) wr w1 := C
  have B1 : BkSt L w1 NB base (upd Fi 0 ⟨rb2, ro2, Ej, (Fi 0).A⟩) (T + i + 1) D Uj := B1
  obtain ⟨vb, b1, b2, b3⟩ := hst.rows
  obtain ⟨vo, q1, q2, q3⟩ := hst.nums
  have b3 : vb.ownBlock = (Fi 0).rb := b3
  have q3 : vo.ownBlock = (Fi 0).ro := q3
  have hNB := hst.le.2.1
  have hNL := hK.late.lt
  have nNL : ¬ (NL = NB ∨ (Fi 0).rb = some NL ∨ (Fi 0).ro = some NL ∨ g.v.ownBlock = some NL) := fun hh => by
    rcases hh with hh | hh | hh | hh
    · exact hK.ne hh.symm
    · have := (row_ge b2 (b3.trans hh)).1; omega
    · have := (row_ge q2 (q3.trans hh)).1; omega
    · have := (row_ge hgi hh).1; omega
  have hcB : ∀ K ∈ L, K.c = 0 → K = kB := fun K hK' hc => hL.uniq K hK' kB hB hc
  refine ⟨_, Uj, B1, ?_, fun k hk => by rw [upd_ne _ _ hk]; exact h.oth k hk, by rw [upd_same]; exact h.A, ?_, ?_, by rw [upd_same]; exact h.s1.trans hz t1, by rw [upd_same]; exact h.s2.trans hz t2, ?_, ?_, cell_chg h.c0 C nNL, cell_chg h.c1 C nNL, ?_, ?_, ?_⟩
  · intro e he
    rw [upd_same] at he
    have he : e ∈ Ej := he
    rcases hEj with rfl | rfl
    · rcases h.from_ e he with h1 | ⟨j, g', h1, h2, h3⟩
      · exact .inl h1
      · exact .inr ⟨j, g', by omega, h2, h3⟩
    · simp only [List.mem_append, List.mem_singleton] at he
      rcases he with he | rfl
      · rcases h.from_ e he with h1 | ⟨j, g', h1, h2, h3⟩
        · exact .inl h1
        · exact .inr ⟨j, g', by omega, h2, h3⟩
      · exact .inr ⟨i, g, by omega, hg, rfl⟩
  · intro K hK'
    by_cases hc : K.c = 0
    · rw [hc, upd_same]
      have h9 := h.cnt K hK'
      rw [hc] at h9
      show Ej.length + 96 * (Ej.length - (Fi 0).A) ≤ _
      rcases hEj with rfl | rfl
      · omega
      · simp only [List.length_append, List.length_cons, List.length_nil]; omega
    · rw [upd_ne _ _ hc]
      have := h.cnt K hK'
      omega
  · intro K hK'
    by_cases hc : K.c = 0
    · rw [hc, upd_same]
      have h9 := h.fresh K hK'
      rw [hc] at h9
      rcases hEj with rfl | rfl
      · exact h9
      · intro k e hk he
        have hk : (Fi 0).A ≤ k := hk
        have he : ((Fi 0).E ++ [⟨g.v, g.bs.length, T + i + 1⟩])[k]? = some e := he
        by_cases hlt : k < (Fi 0).E.length
        · rw [List.getElem?_append_left hlt] at he; exact h9 k e hk he
        · rw [List.getElem?_append_right (by omega)] at he
          have h0 : k - (Fi 0).E.length = 0 := by
            rcases Nat.eq_zero_or_pos (k - (Fi 0).E.length) with h0 | h0
            · exact h0
            · rw [List.getElem?_eq_none (by simp; omega)] at he; cases he
          rw [h0] at he
          simp only [List.getElem?_cons_zero, Option.some.injEq] at he
          subst he
          exact ⟨hgok.short, hgok.full⟩
    · rw [upd_ne _ _ hc]; exact h.fresh K hK'
  · refine h.chg.trans (C.mono fun k _ hh => ?_)
    rcases hh with hh | hh | hh | hh
    · exact .inl (.inl (.inl hh))
    · rcases h.s1 with s1 | ⟨gg, s1, s3⟩
      · exact .inl (.inl (.inr ⟨kB, hB, .inl (s1 ▸ hh)⟩))
      · rw [s1] at hh; simp only [Option.some.injEq] at hh; subst hh; exact .inr s3
    · rcases h.s2 with s2 | ⟨gg, s2, s3⟩
      · exact .inl (.inl (.inr ⟨kB, hB, .inr (s2 ▸ hh)⟩))
      · rw [s2] at hh; simp only [Option.some.injEq] at hh; subst hh; exact .inr s3
    · exact .inl (.inr ⟨g, hgm, hh⟩)
  · intro j g' hj hg'
    have hrow := h.left j g' (by omega) hg'
    refine ownsRow_chg hrow C (fun k hk hh => ?_)
    rcases hh with hh | hh | hh | hh
    · have := (row_ge hrow hk).1; omega
    · exact rows_ne hrow b2 (by decide) hk (b3.trans hh)
    · exact rows_ne hrow q2 (by decide) hk (q3.trans hh)
    · exact hK.gg i j g g' (by omega) hg hg' k hh hk
  · exact (World.frozen?_of_block (w := wr) (a := ⟨NL, 0, none⟩) (C.block NL (block_lt_of_cell h.c0) nNL)).trans h.f0
  · exact (World.frozen?_of_block (w := wr) (a := ⟨NL, 1, none⟩) (C.block NL (block_lt_of_cell h.c0) nNL)).trans h.f1
  · refine ownsRow_chg h.row C (fun k hk hh => ?_)
    rcases hh with hh | hh | hh | hh
    · have := (row_ge h.row hk).1; omega
    · rcases h.s1 with s1 | ⟨gg, s1, s3⟩
      · exact (hK.rows kB hB k (s1 ▸ hh)).1 (hvg ▸ hk)
      · rw [s1] at hh; simp only [Option.some.injEq] at hh; subst hh
        obtain ⟨vg0, a10, a20, a30⟩ := hK.late.gots
        have := (row_ge a20 (a30.trans (hvg ▸ hk))).2; omega
    · exact rows_ne h.row q2 (by decide) hk (q3.trans hh)
    · exact rows_ne hgi h.row (by decide) hh hk

end Go.Proofs.YtnjcedlbdjidiaaGreatDoor

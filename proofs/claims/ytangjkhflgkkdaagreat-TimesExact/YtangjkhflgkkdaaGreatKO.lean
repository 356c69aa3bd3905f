/- The law's Late: Add. -/
import Derived.Test.YtangjkhflgkkdaaGreatKEB
import Derived.Test.YtangjkhflgkkdaaGreatT1H
import Derived.Lib.ConvBytes
import Derived.Deep.RegionHeldLaw
/- The law's Late: what it holds, Add. -/
namespace Go.Proofs.YtangjkhflgkkdaaGreat
open Go.RowKit
open M
set_option linter.unusedVariables false

/-- The block's first cell is no pointer. -/
def NP (w : World) (k : Nat) : Prop := ∀ p, w.cell? ⟨k, 0, none⟩ ≠ some (.pointer p)

theorem np_row {w : World} {base : Nat} {t : TypeId} {v : Value} {n : Nat} {xs : List Value} (h : w.ownsRow base t 1 v n xs) (hx : ∀ x ∈ xs, ∀ p, x ≠ .pointer p) (hn : 0 < n) {k : Nat} (hk : v.ownBlock = some k) : NP w k := by
  intro p hp
  obtain ⟨_, _, _, _, _, h4⟩ := row_form h
  have hl : 0 < xs.length := by have := h.1; omega
  have := (h4 k hk).2.2.2 0 xs[0] (by rw [List.getElem?_eq_getElem])
  rw [this] at hp
  exact hx _ (List.getElem_mem hl) p (by simpa using hp)

/-- An answer that is kept: what was got, what it must hold, its bytes. -/
structure Got where
  v : Value
  u : Value
  bs : List Nat

structure GOk (w : World) (base : Nat) (g : Got) : Prop where
  got : w.ownsRow base 5 1 g.v g.bs.length (bytesV g.bs)
  full : ∃ p, g.v = .slice p g.bs.length g.bs.length
  want : ∃ b cap, g.u = .slice (some ⟨b, 0, none⟩) g.bs.length cap ∧ base ≤ b ∧ b < w.heap.size ∧ ∀ i, i < g.bs.length → w.cell? ⟨b, i, none⟩ = some (.int .u8 (g.bs.getD i 0 : Nat))
  small : ∀ n ∈ g.bs, n < 256
  short : g.bs.length ≤ 50000

/-- The block of what it must hold. -/
def Got.ub (g : Got) : Option Nat := g.u.ownBlock

structure LateSt (w : World) (NL base : Nat) (rg rw_ : Option Nat) (G : List Got) : Prop where
  gots : ∃ vg, w.cell? ⟨NL, 0, none⟩ = some vg ∧ w.ownsRow base 57 1 vg G.length (G.map Got.v) ∧ vg.ownBlock = rg
  wants : ∃ vw, w.cell? ⟨NL, 1, none⟩ = some vw ∧ w.ownsRow base 57 1 vw G.length (G.map Got.u) ∧ vw.ownBlock = rw_
  f0 : w.frozen? ⟨NL, 0, none⟩ = false
  f1 : w.frozen? ⟨NL, 1, none⟩ = false
  ok : ∀ g ∈ G, GOk w base g
  ne : ∀ k, rg = some k → rw_ ≠ some k
  lt : NL < base
  nil : G = [] → rg = none ∧ rw_ = none

theorem GOk.chg {S : Nat → Prop} {w w' : World} {base : Nat} {g : Got} (h : GOk w base g) (hc : Chg S w w') (h1 : ∀ k, g.v.ownBlock = some k → ¬ S k) (h2 : ∀ k, g.u.ownBlock = some k → 0 < g.bs.length → ¬ S k) : GOk w' base g := by
  refine ⟨ownsRow_chg h.got hc h1, h.full, ?_, h.small, h.short⟩
  obtain ⟨b, cap, k1, k2, k3, k4⟩ := h.want
  exact ⟨b, cap, k1, k2, Nat.lt_of_lt_of_le k3 hc.size, fun i hi => cell_chg (k4 i hi) hc (h2 b (by rw [k1]; rfl) (by omega))⟩

theorem LateSt.chg {S : Nat → Prop} {w w' : World} {NL base : Nat} {rg rw_ : Option Nat} {G : List Got} (h : LateSt w NL base rg rw_ G) (hc : Chg S w w') (h1 : ¬ S NL) (h2 : ∀ k, rg = some k ∨ rw_ = some k → ¬ S k) (h3 : ∀ g ∈ G, ∀ k, g.v.ownBlock = some k → ¬ S k) (h4 : ∀ g ∈ G, ∀ k, g.u.ownBlock = some k → 0 < g.bs.length → ¬ S k) : LateSt w' NL base rg rw_ G := by
  obtain ⟨vg, a1, a2, a3⟩ := h.gots
  obtain ⟨vw, b1, b2, b3⟩ := h.wants
  have hl := block_lt_of_cell a1
  refine ⟨⟨vg, cell_chg a1 hc h1, ownsRow_chg a2 hc (fun g hg => h2 g (.inl (a3 ▸ hg))), a3⟩, ⟨vw, cell_chg b1 hc h1, ownsRow_chg b2 hc (fun g hg => h2 g (.inr (b3 ▸ hg))), b3⟩, ?_, ?_, fun g hg => (h.ok g hg).chg hc (h3 g hg) (h4 g hg), h.ne, h.lt, h.nil⟩
  · rw [World.frozen?_of_block (w := w) (w' := w') (a := ⟨NL, 0, none⟩) (hc.block NL hl h1)]; exact h.f0
  · rw [World.frozen?_of_block (w := w) (w' := w') (a := ⟨NL, 1, none⟩) (hc.block NL hl h1)]; exact h.f1

theorem LateSt.np {w : World} {NL base : Nat} {rg rw_ : Option Nat} {G : List Got} (h : LateSt w NL base rg rw_ G) {k : Nat} (hk : rg = some k ∨ rw_ = some k) : NP w k := by
  obtain ⟨vg, a1, a2, a3⟩ := h.gots
  obtain ⟨vw, b1, b2, b3⟩ := h.wants
  have hG : 0 < G.length := by
    rcases Nat.eq_zero_or_pos G.length with h0 | h0
    · have := h.nil (List.length_eq_zero_iff.1 h0)
      rcases hk with hk | hk <;> simp [this] at hk
    · exact h0
  rcases hk with hk | hk
  · refine np_row a2 (fun x hx p => ?_) hG (a3.trans hk)
    simp only [List.mem_map] at hx
    obtain ⟨e, he, rfl⟩ := hx
    obtain ⟨q, hv⟩ := (h.ok e he).full
    rw [hv]; simp
  · refine np_row b2 (fun x hx p => ?_) hG (b3.trans hk)
    simp only [List.mem_map] at hx
    obtain ⟨e, he, rfl⟩ := hx
    obtain ⟨_, _, hv, _⟩ := (h.ok e he).want
    rw [hv]; simp

/-- What it must hold lies apart from rows of slices. -/
theorem GOk.apart {w : World} {base : Nat} {g : Got} (h : GOk w base g) (h0 : 0 < g.bs.length) {k : Nat} (hk : g.u.ownBlock = some k) {b2 : Nat} {v : Value} {n : Nat} {xs : List Value} (hr : w.ownsRow b2 57 1 v n xs) (hx : ∀ x ∈ xs, ∀ a b, x ≠ .int a b) (hn : 0 < n) : v.ownBlock ≠ some k := by
  intro hh
  obtain ⟨b, cap, k1, k2, k3, k4⟩ := h.want
  have hb : b = k := by rw [k1] at hk; simpa [Value.ownBlock] using hk
  subst hb
  have c1 := k4 0 h0
  obtain ⟨_, _, _, _, _, h4⟩ := row_form hr
  have hl : 0 < xs.length := by have := hr.1; omega
  have c2 := (h4 b hh).2.2.2 0 xs[0] (by rw [List.getElem?_eq_getElem])
  rw [c1] at c2
  exact hx _ (List.getElem_mem hl) _ _ (by simpa using c2.symm)

end Go.Proofs.YtangjkhflgkkdaaGreat

namespace Go.Proofs.YtangjkhflgkkdaaGreat
open Go.RowKit
open M
open Go.Lib
set_option linter.unusedVariables false

theorem bytes_below (w : World) (s : ByteArray) : Below w.heap.size w (bytesWorld w 5 s) := by
  refine ⟨rfl, rfl, rfl, by rw [bytesWorld_size]; omega, fun k hk => bytesWorld_at_old w 5 s k hk⟩

/-- Behind Add. -/
def LatePost (w : World) (NL base : Nat) (rg rw_ : Option Nat) (G : List Got) (v : Value) (bs : List Nat) (w' : World) : Prop :=
  ∃ rg' rw' u, LateSt w' NL base rg' rw' (G ++ [⟨v, u, bs⟩]) ∧ RStep w rg rg' ∧ RStep w rw_ rw' ∧ (∃ k, u.ownBlock = some k ∧ w.heap.size ≤ k) ∧ Chg (fun k => k = NL ∨ rg = some k ∨ rw_ = some k) w w'

set_option maxRecDepth 100000 in
set_option maxHeartbeats 8000000 in
theorem lateAdd_any (NL base n : Nat) (rg rw_ : Option Nat) (G : List Got) (p : Option Addr) (x : Value) (bs : List Nat) (w : World) (h : LateSt w NL base rg rw_ G) (hn : n = bs.length) (hv : w.ownsRow base 5 1 (.slice p n n) n (bytesV bs)) (h256 : ∀ n ∈ bs, n < 256) (hbl : bs.length ≤ 50000)
    (hx : ∀ w', Chg (fun k => k = NL ∨ rg = some k ∨ rw_ = some k) w w' → IsBy w' x bs) (hbase : base ≤ w.heap.size) (hG : G.length ≤ 100000) :
    Calls Tryz.prog 18 #[.pointer (some ⟨NL, 0, none⟩), .slice p n n, x] w fun q w' => q = .returned (.tuple #[]) ∧ LatePost w NL base rg rw_ G (.slice p n n) bs w' := by
  obtain ⟨vg, a1, a2, a3⟩ := h.gots
  obtain ⟨vw, b1, b2, b3⟩ := h.wants
  have f0 := h.f0
  have f1 := h.f1
  obtain ⟨i29, h29⟩ := infoB
  have H29 : Hid (Tryz.prog.info? 57 = some i29 ∧ i29.zero = some (.slice none 0 0) ∧ i29.size = 1 ∧ i29.bytes = 24) := h29
  have nrg : rg ≠ some NL := fun hh => by have := (row_ge a2 (a3.trans hh)).1; have := h.lt; omega
  have nrw : rw_ ≠ some NL := fun hh => by have := (row_ge b2 (b3.trans hh)).1; have := h.lt; omega
  have Hn : Hid (rg ≠ some NL ∧ rw_ ≠ some NL ∧ vg.ownBlock = rg ∧ vw.ownBlock = rw_ ∧ NL < base) := ⟨nrg, nrw, a3, b3, h.lt⟩
  have HR1 : Hid (w.ownsRow base 57 1 vg G.length (G.map Got.v)) := a2
  have HR2 : Hid (w.ownsRow base 57 1 vw G.length (G.map Got.u)) := b2
  have Hh : Hid (LateSt w NL base rg rw_ G) := h
  have Hx : Hid (∀ w', Chg (fun k => k = NL ∨ rg = some k ∨ rw_ = some k) w w' → IsBy w' x bs) := hx
  have Hv : Hid (w.ownsRow base 5 1 (.slice p n n) n (bytesV bs)) := hv
  have HXb : Hid (G.length ≤ 100000000) := by show _ ≤ _; omega
  have HbC1 : Hid (base ≤ (w.alloc (.cells #[.slice p n n] 57)).heap.size) := by show _ ≤ _; simp; omega
  have H256 : Hid ((∀ n ∈ bs, n < 256) ∧ bs.length ≤ 50000 ∧ n = bs.length) := ⟨h256, hbl, hn⟩
  clear h a2 a3 b2 b3 h29 nrg nrw hx hv h256 hbl hn
  go_enter Tryz.func18, Tryz.ntmps18
  go_wp2_with (at_builtin; refine listsB rfl _ _ rfl (.slice p n n) rfl rfl (HR1.out.alloc _) ⟨w.heap.size, 0, none⟩ rfl (fun j u hj => cell_newB w _ 57 j u hj) HXb.out HbC1.out ?d6)
  case d6 =>
    show ∀ g cap w', _
    intro g1 cap1 wD o1 gr1 at1
    rw [Hn.out.2.2.1] at gr1 at1
    have C1 : Chg (fun k => rg = some k) w wD := (Chg.below ((Below.refl _ _).alloc (Nat.le_refl _) _)).trans' (Chg.grown gr1 fun g hg => hg)
    have c0D := cell_chg a1 C1 Hn.out.1
    have c1D := cell_chg b1 C1 Hn.out.1
    have fD : ∀ j, wD.frozen? ⟨NL, j, none⟩ = w.frozen? ⟨NL, j, none⟩ := fun j => World.frozen?_of_block (w := w) (a := ⟨NL, _, none⟩) (C1.block NL (block_lt_of_cell a1) Hn.out.1)
    have f0D := (fD 0).trans f0
    have f1D := (fD 1).trans f1
    have hkeep : ∀ k, rg = some k → rw_ ≠ some k := Hh.out.ne
    have q2D : wD.ownsRow base 57 1 vw G.length (G.map Got.u) := ownsRow_chg HR2.out C1 (fun g hg hh => hkeep g hh (Hn.out.2.2.2.1 ▸ hg))
    obtain ⟨vg', hvg'⟩ : ∃ vg', vg' = Value.slice (some ⟨g1, 0, none⟩) (G.length + 1) cap1 := ⟨_, rfl⟩
    obtain ⟨wE, hwE⟩ : ∃ wE, wE = wD.setCell ⟨NL, 0, none⟩ vg' := ⟨_, rfl⟩
    have CE : Chg (fun k => k = NL ∨ rg = some k ∨ rw_ = some k) w wE := (C1.mono fun k _ hk => .inr (.inl hk)).trans' (by rw [hwE]; exact Chg.set _ _ _ _ (.inl rfl))
    have oE : wE.ownsRow base 57 1 vg' (G.length + 1) (G.map Got.v ++ [.slice p n n]) := by rw [hwE]; exact ownsRow_setOther (hvg' ▸ o1) _ _ _ Hn.out.2.2.2.2
    have q2E : wE.ownsRow base 57 1 vw G.length (G.map Got.u) := by rw [hwE]; exact ownsRow_setOther q2D _ _ _ Hn.out.2.2.2.2
    have c0E : wE.cell? ⟨NL, 0, none⟩ = some vg' := by rw [hwE]; exact cell_setCell_eq _ _ _ _ _ c0D
    have c1E : wE.cell? ⟨NL, 1, none⟩ = some vw := by rw [hwE, cell_setCell_ne _ _ _ _ _ (by omega)]; exact c1D
    have f0E : wE.frozen? ⟨NL, 0, none⟩ = false := by rw [hwE, frozen_setCell]; exact f0D
    have f1E : wE.frozen? ⟨NL, 1, none⟩ = false := by rw [hwE, frozen_setCell]; exact f1D
    have hat1 : RStep w rg vg'.ownBlock := by
      rw [hvg']; rcases at1 with at1 | at1
      · exact .inl at1.symm
      · exact .inr ⟨g1, rfl, by rw [at1]; simp⟩
    have H1 : Hid (wE.ownsRow base 57 1 vg' (G.length + 1) (G.map Got.v ++ [.slice p n n]) ∧ wE.ownsRow base 57 1 vw G.length (G.map Got.u) ∧ Chg (fun k => k = NL ∨ rg = some k ∨ rw_ = some k) w wE ∧ RStep w rg vg'.ownBlock ∧ wE.cell? ⟨NL, 0, none⟩ = some vg' ∧ wE.frozen? ⟨NL, 0, none⟩ = false) := ⟨oE, q2E, CE, hat1, c0E, f0E⟩
    clear o1 gr1 at1 C1 fD q2D hkeep CE oE q2E hat1 c0E f0E HR1 HR2 c1D f1D
    have hIE := Hx.out wE H1.out.2.2.1
    obtain ⟨s, hs⟩ : ∃ s, s = strOf bs := ⟨_, rfl⟩
    have hcv : (convert 57 9 x).run Tryz.prog wE.drew = .ok (.string s) wE.drew := by rw [hs]; exact convert_by wE.drew x bs hIE
    obtain ⟨cu, hcu⟩ : ∃ cu, cu = grownCap wE.drew s.size 0 5 := ⟨_, rfl⟩
    obtain ⟨wb, hwb⟩ : ∃ wb, wb = bytesWorld wE.drew 5 s := ⟨_, rfl⟩
    have hcv2 : (convert 9 57 (.string s)).run Tryz.prog wE.drew = .ok (.slice (some ⟨wE.heap.size, 0, none⟩) s.size cu) wb := by rw [hcu, hwb]; exact Go.Lib.run_convert_string_bytes wE.drew 9 57 5 s Tryz.underlying9 Tryz.underlying57 Tryz.underlying5
    have Bb : Below wE.heap.size wE wb := by rw [hwb]; exact ⟨rfl, rfl, rfl, (bytes_below wE.drew s).size, (bytes_below wE.drew s).block⟩
    have zb : wb.heap.size = wE.heap.size + 1 := by rw [hwb]; exact bytesWorld_size wE.drew 5 s
    have hNLE : NL < wE.heap.size := block_lt_of_cell c1E
    have c1b : wb.cell? ⟨NL, 1, none⟩ = some vw := (Bb.cell (p := ⟨NL, 1, none⟩) hNLE).trans c1E
    have f1b : wb.frozen? ⟨NL, 1, none⟩ = false := (World.frozen?_of_block (w := wE) (a := ⟨NL, _, none⟩) (Bb.block NL hNLE)).trans f1E
    have hsz : s.size = n := by rw [hs, strOf_size, H256.out.2.2]
    have hub : ∀ i, i < bs.length → wb.cell? ⟨wE.heap.size, i, none⟩ = some (.int .u8 (bs.getD i 0 : Nat)) := fun i hi => by
      have h9 := bytesWorld_cell wE.drew 5 s i (by rw [hsz, H256.out.2.2]; exact hi)
      rw [hwb]
      have e9 : (s.data.toList.getD i 0).toNat = bs.getD i 0 := by
        have h10 := bytesN_strOf bs H256.out.1
        rw [← hs] at h10
        have h11 := congrArg (fun l => l.getD i 0) h10
        simp only [bytesN] at h11
        rw [← h11]
        simp only [List.getD_eq_getElem?_getD, List.getElem?_map]
        cases s.data.toList[i]? <;> rfl
      rw [← e9]; exact h9
    rw [hsz] at hcv2
    have c1a : (wb.alloc (.cells #[.slice (some ⟨wE.heap.size, 0, none⟩) n cu] 57)).cell? ⟨NL, 1, none⟩ = some vw := (World.cell?_of_block (w := wb) (Below.heap_alloc _ _ _ (show NL < wb.heap.size by omega))).trans c1b
    have Hrow : Hid ((wb.alloc (.cells #[.slice (some ⟨wE.heap.size, 0, none⟩) n cu] 57)).ownsRow base 57 1 vw G.length (G.map Got.u)) := by
      have r1 : wb.ownsRow base 57 1 vw G.length (G.map Got.u) := ownsRow_keep H1.out.2.1 (fun g hg => Bb.block g (H1.out.2.1.lt g hg).2)
      exact r1.alloc _
    have HbE1 : Hid (base ≤ (wb.alloc (.cells #[.slice (some ⟨wE.heap.size, 0, none⟩) n cu] 57)).heap.size) := by
      show _ ≤ _
      have := H1.out.2.2.1.size
      simp; omega
    have HFin : Hid (∀ g2 cap2 w3, w3.ownsRow base 57 1 (.slice (some ⟨g2, 0, none⟩) (G.length + 1) cap2) (G.length + 1) (G.map Got.u ++ [.slice (some ⟨wE.heap.size, 0, none⟩) n cu]) → (wb.alloc (.cells #[.slice (some ⟨wE.heap.size, 0, none⟩) n cu] 57)).grownBy w3 vw.ownBlock → (vw.ownBlock = some g2 ∨ g2 = wE.heap.size + 1 + 1) →
        LatePost w NL base rg rw_ G (.slice p n n) bs (w3.setCell ⟨NL, 1, none⟩ (.slice (some ⟨g2, 0, none⟩) (G.length + 1) cap2)) ∧ w3.cell? ⟨NL, 1, none⟩ = some vw ∧ w3.frozen? ⟨NL, 1, none⟩ = false) := fun g2 cap2 w3 o3 gr3 at3 => by
      rw [Hn.out.2.2.2.1] at gr3 at3
      have zE := H1.out.2.2.1.size
      have C3 : Chg (fun k => rw_ = some k) wE w3 := (Chg.below (Bb.trans (((Below.refl _ _).alloc (by omega) _)))).trans' (Chg.grown gr3 fun g hg => hg)
      have c1w := cell_chg c1E C3 Hn.out.2.1
      have f1w : w3.frozen? ⟨NL, 1, none⟩ = false := (World.frozen?_of_block (w := wE) (a := ⟨NL, _, none⟩) (C3.block NL hNLE Hn.out.2.1)).trans f1E
      refine ⟨?_, c1w, f1w⟩
      obtain ⟨vw', hvw'⟩ : ∃ vw', vw' = Value.slice (some ⟨g2, 0, none⟩) (G.length + 1) cap2 := ⟨_, rfl⟩
      rw [← hvw'] at o3 ⊢
      obtain ⟨w4, hw4⟩ : ∃ w4, w4 = w3.setCell ⟨NL, 1, none⟩ vw' := ⟨_, rfl⟩
      rw [← hw4]
      have C4 : Chg (fun k => k = NL) w3 w4 := by rw [hw4]; exact Chg.set _ _ _ _ rfl
      have nvg : ∀ k, vg'.ownBlock = some k → ¬ rw_ = some k := fun k hk hh => by
        rcases H1.out.2.2.2.1 with h9 | ⟨gg, h9, h10⟩
        · exact Hh.out.ne k (h9 ▸ hk) hh
        · rw [h9] at hk; simp only [Option.some.injEq] at hk; subst hk
          obtain ⟨vw0, b10, b20, b30⟩ := Hh.out.wants
          have := (row_ge b20 (b30.trans hh)).2; omega
      have oG4 : w4.ownsRow base 57 1 vg' (G.length + 1) (G.map Got.v ++ [.slice p n n]) := by
        have r1 := ownsRow_chg H1.out.1 C3 nvg
        exact ownsRow_chg r1 C4 (fun g hg hh => by have := (row_ge r1 hg).1; have := Hn.out.2.2.2.2; omega)
      have oW4 : w4.ownsRow base 57 1 vw' (G.length + 1) (G.map Got.u ++ [.slice (some ⟨wE.heap.size, 0, none⟩) n cu]) := ownsRow_chg o3 C4 (fun g hg hh => by have := (row_ge o3 hg).1; have := Hn.out.2.2.2.2; omega)
      have hstep : RStep w rw_ vw'.ownBlock := by
        rw [hvw']; rcases at3 with at3 | at3
        · exact .inl at3.symm
        · exact .inr ⟨g2, rfl, by omega⟩
      have C24 : Chg (fun k => k = NL ∨ rw_ = some k) wb w4 := by
        have r1 : Chg (fun k => k = NL ∨ rw_ = some k) wb w3 := (Chg.below ((Below.refl _ _).alloc (Nat.le_refl _) _)).trans' (Chg.grown gr3 fun g hg => .inr hg)
        exact r1.trans' (C4.mono fun k _ hk => .inl hk)
      have Call : Chg (fun k => k = NL ∨ rg = some k ∨ rw_ = some k) w w4 := (H1.out.2.2.1.trans' (Chg.below Bb)).trans' (C24.mono fun k _ hk => by rcases hk with hk | hk; exact .inl hk; exact .inr (.inr hk))
      have nrowd : ∀ {v : Value} {m : Nat} {xs : List Value}, w.ownsRow base 5 1 v m xs → ∀ k, v.ownBlock = some k → ¬ (k = NL ∨ rg = some k ∨ rw_ = some k) := fun hrow k hk hh => by
        obtain ⟨vg0, a10, a20, a30⟩ := Hh.out.gots
        obtain ⟨vw0, b10, b20, b30⟩ := Hh.out.wants
        rcases hh with hh | hh | hh
        · have := (row_ge hrow hk).1; have := Hn.out.2.2.2.2; omega
        · exact rows_ne hrow a20 (by decide) hk (a30.trans hh)
        · exact rows_ne hrow b20 (by decide) hk (b30.trans hh)
      refine ⟨vg'.ownBlock, vw'.ownBlock, .slice (some ⟨wE.heap.size, 0, none⟩) n cu, ⟨⟨vg', ?_, by simpa using oG4, rfl⟩, ⟨vw', ?_, by simpa using oW4, rfl⟩, ?_, ?_, fun g' hg' => ?_, fun k hk hh => ?_, Hn.out.2.2.2.2, fun h0 => by simp at h0⟩, H1.out.2.2.2.1, hstep, ⟨wE.heap.size, rfl, by omega⟩, Call⟩
      · rw [hw4, cell_setCell_ne _ _ _ _ _ (by omega)]; exact cell_chg H1.out.2.2.2.2.1 C3 Hn.out.2.1
      · rw [hw4]; exact cell_setCell_eq _ _ _ _ _ c1w
      · rw [hw4, frozen_setCell]; exact (World.frozen?_of_block (w := wE) (a := ⟨NL, _, none⟩) (C3.block NL hNLE Hn.out.2.1)).trans H1.out.2.2.2.2.2
      · rw [hw4, frozen_setCell]; exact f1w
      · simp only [List.mem_append, List.mem_singleton] at hg'
        rcases hg' with hg' | rfl
        · have hg9 := Hh.out.ok g' hg'
          have hGp : 0 < G.length := List.length_pos_of_mem hg'
          refine hg9.chg Call (nrowd hg9.got) (fun k hk h0 hh => ?_)
          obtain ⟨vg0, a10, a20, a30⟩ := Hh.out.gots
          obtain ⟨vw0, b10, b20, b30⟩ := Hh.out.wants
          obtain ⟨bb, cc, k1, k2, _⟩ := hg9.want
          rcases hh with hh | hh | hh
          · rw [k1] at hk; simp only [Value.ownBlock, Option.some.injEq] at hk; have := Hn.out.2.2.2.2; omega
          · refine hg9.apart h0 hk a20 (fun x hx a b => ?_) hGp (a30.trans hh)
            simp only [List.mem_map] at hx
            obtain ⟨e9, he9, rfl⟩ := hx
            obtain ⟨q9, hv9⟩ := (Hh.out.ok e9 he9).full
            rw [hv9]; simp
          · refine hg9.apart h0 hk b20 (fun x hx a b => ?_) hGp (b30.trans hh)
            simp only [List.mem_map] at hx
            obtain ⟨e9, he9, rfl⟩ := hx
            obtain ⟨_, _, hv9, _⟩ := (Hh.out.ok e9 he9).want
            rw [hv9]; simp
        · have hv' : w.ownsRow base 5 1 (.slice p n n) bs.length (bytesV bs) := Eq.subst (motive := fun m => w.ownsRow base 5 1 (.slice p n n) m (bytesV bs)) H256.out.2.2 Hv.out
          refine ⟨ownsRow_chg hv' Call (nrowd hv'), ⟨p, by show Value.slice p n n = .slice p bs.length bs.length; rw [← H256.out.2.2]⟩, ⟨wE.heap.size, cu, by show Value.slice (some ⟨wE.heap.size, 0, none⟩) n cu = .slice (some ⟨wE.heap.size, 0, none⟩) bs.length cu; rw [← H256.out.2.2], by omega, by have := C24.size; omega, fun i hi => cell_chg (hub i hi) C24 (fun hh => ?_)⟩, H256.out.1, H256.out.2.1⟩
          rcases hh with hh | hh
          · omega
          · obtain ⟨vw0, b10, b20, b30⟩ := Hh.out.wants
            have := (row_ge b20 (b30.trans hh)).2; omega
      · rcases hstep with h9 | ⟨gg, h9, h10⟩
        · exact nvg k hk (h9 ▸ hh)
        · have hgk : gg = k := by rw [h9] at hh; simpa using hh
          subst hgk
          have h11 := (H1.out.1.lt gg hk).2
          rcases at3 with at3 | at3
          · rw [hvw'] at hh; simp only [Value.ownBlock, Option.some.injEq] at hh
            subst hh
            obtain ⟨vw0, b10, b20, b30⟩ := Hh.out.wants
            have := (row_ge b20 (b30.trans at3)).2; omega
          · rw [hvw'] at hh; simp only [Value.ownBlock, Option.some.injEq] at hh; omega
    have hsb : Hid (base ≤ wE.heap.size) := by show _ ≤ _; have := H1.out.2.2.1.size; omega
    clear hub Bb hwb hcu hs hIE
    go_wp2_with fail
    rw [← hvg', ← hwE]
    clear hwE hvg'
    go_region_law (refine step_append_lies _ rfl _ _ _ rfl base 57 i29 (.slice none 0 0) 1 24 Tryz.underlying23 H29.out.1 H29.out.2.1 H29.out.2.2.1 H29.out.2.2.2 rfl (by decide) vw G.length (G.map Got.u) (by simp [Act.eval]) Hrow.out ⟨wb.heap.size, 0, none⟩ 1 1 [.slice (some ⟨wE.heap.size, 0, none⟩) n cu] (by simp [Act.eval]) rfl (by intro j u hj; exact cell_newB wb _ 57 j u hj) (by intro u hu; simp at hu; subst hu; rfl) (by decide) (by unfold maxLen; omega) (by omega) HbE1.out _ rfl ?_; intro g2 cap2 w3 o3 gr3 at3 lt3; obtain ⟨hF, hcb, hfb⟩ := HFin.out g2 cap2 w3 o3 gr3 (by simpa [zb] using at3); have HF : Hid _ := hF; clear o3 gr3 at3 lt3 hF)
    all_goals
      go_wp2_with fail
      go_end0
      exact ⟨rfl, HF.out⟩

end Go.Proofs.YtangjkhflgkkdaaGreat

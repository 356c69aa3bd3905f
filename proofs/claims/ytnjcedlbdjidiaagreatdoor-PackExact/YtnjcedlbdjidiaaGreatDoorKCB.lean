/- The Book takes a list of uint8s. -/
import Derived.Test.YtnjcedlbdjidiaaGreatDoorKN
/- The law's Book whole: its kinds side by side. -/
namespace Go.Proofs.YtnjcedlbdjidiaaGreatDoor
open Go.RowKit
open M
set_option linter.unusedVariables false

/-- What the Book holds of a kind. -/
structure KV where
  rb : Option Nat
  ro : Option Nat
  E : List Ent
  A : Nat

def upd (F : Nat → KV) (c : Nat) (v : KV) : Nat → KV := fun k => if k = c then v else F k
theorem upd_same (F : Nat → KV) (c : Nat) (v : KV) : upd F c v c = v := by simp [upd]
theorem upd_ne (F : Nat → KV) {c k : Nat} (v : KV) (h : k ≠ c) : upd F c v k = F k := by simp [upd, h]

/-- Kinds that lie side by side. -/
structure KOk (L : List Kd) : Prop where
  tl : ∀ K ∈ L, K.tl ≠ 3
  te : ∀ K ∈ L, K.te ≠ 3
  c : ∀ K ∈ L, K.c < 23
  uniq : ∀ K ∈ L, ∀ K' ∈ L, K.c = K'.c → K = K'
  el : ∀ K ∈ L, ∀ K' ∈ L, K.te ≠ K'.tl
  ll : ∀ K ∈ L, ∀ K' ∈ L, K.c ≠ K'.c → K.tl ≠ K'.tl ∧ K.te ≠ K'.te

/-- Is a kind among them? -/
def kin (L : List Kd) (k : Nat) : Bool := L.any fun K => K.c == k
theorem kin_of {L : List Kd} {K : Kd} (h : K ∈ L) : kin L K.c = true := by simp only [kin, List.any_eq_true]; exact ⟨K, h, by simp⟩

/-- The whole Book. -/
structure BkSt (L : List Kd) (w : World) (NB base : Nat) (F : Nat → KV) (T D U : Nat) : Prop where
  st : ∀ K ∈ L, KSt K w NB base (F K.c).rb (F K.c).ro (F K.c).E (F K.c).A
  nil : BookNil (kin L) w NB
  com : Com w NB T D U
  ne : ∀ K1 ∈ L, ∀ K2 ∈ L, K1.c ≠ K2.c → ∀ k, (F K1.c).ro = some k → (F K2.c).ro ≠ some k

/-- The Book's blocks. -/
def BkOwn (L : List Kd) (F : Nat → KV) (k : Nat) : Prop := ∃ K ∈ L, BkB (F K.c).rb (F K.c).ro (F K.c).E k

theorem BkSt.NBlt {L : List Kd} {w : World} {NB base : Nat} {F : Nat → KV} {T D U : Nat} (h : BkSt L w NB base F T D U) : NB < w.heap.size := block_lt_of_cell h.com.turn

/-- A block that a row of another element's type has is none of a kind's. -/
theorem KSt.apart {K : Kd} {w : World} {NB base : Nat} {rb ro : Option Nat} {E : List Ent} {A : Nat} (h : KSt K w NB base rb ro E A) {b : Nat} {t : TypeId} {v : Value} {n : Nat} {xs : List Value} (hv : w.ownsRow b t 1 v n xs) (h1 : t ≠ K.te) (h2 : t ≠ K.tl) (h3 : t ≠ 3) {k : Nat} (hk : v.ownBlock = some k) : ¬ BkB rb ro E k := by
  obtain ⟨vb, b1, b2, b3⟩ := h.rows
  obtain ⟨vo, o1, o2, o3⟩ := h.nums
  rintro (hh | hh | ⟨e, he, hh⟩)
  · exact rows_ne hv b2 h2 hk (b3.trans hh)
  · exact rows_ne hv o2 h3 hk (o3.trans hh)
  · exact rows_ne hv (h.ok e he).1 h1 hk hh

/-- Of two kinds the blocks are others'. -/
theorem BkSt.sep {L : List Kd} {w : World} {NB base : Nat} {F : Nat → KV} {T D U : Nat} (hL : KOk L) (h : BkSt L w NB base F T D U) {K K' : Kd} (hK : K ∈ L) (hK' : K' ∈ L) (hne : K'.c ≠ K.c) {k : Nat} (hk : BkB (F K'.c).rb (F K'.c).ro (F K'.c).E k) : ¬ (k = NB ∨ (F K.c).rb = some k ∨ (F K.c).ro = some k) := by
  have s := h.st K hK
  have s' := h.st K' hK'
  obtain ⟨vb, b1, b2, b3⟩ := s.rows
  obtain ⟨vo, o1, o2, o3⟩ := s.nums
  obtain ⟨vb', b1', b2', b3'⟩ := s'.rows
  obtain ⟨vo', o1', o2', o3'⟩ := s'.nums
  have hN := s'.le.2.1
  rintro (hh | hh | hh)
  · rcases hk with hk | hk | ⟨e, he, hk⟩
    · have := (row_ge b2' (b3'.trans hk)).1; omega
    · have := (row_ge o2' (o3'.trans hk)).1; omega
    · have := (row_ge (s'.ok e he).1 hk).1; omega
  · exact s'.apart b2 (Ne.symm (hL.el K' hK' K hK)) (hL.ll K hK K' hK' (Ne.symm hne)).1 (hL.tl K hK) (b3.trans hh) hk
  · rcases hk with hk | hk | ⟨e, he, hk⟩
    · exact rows_ne b2' o2 (hL.tl K' hK') (b3'.trans hk) (o3.trans hh)
    · exact h.ne K' hK' K hK hne k hk hh
    · exact rows_ne (s'.ok e he).1 o2 (hL.te K' hK') hk (o3.trans hh)

/-- One kind goes on, the others stay. -/
theorem BkSt.step {L : List Kd} (hL : KOk L) {w w' : World} {NB base : Nat} {F : Nat → KV} {T D U T' D' U' : Nat} (h : BkSt L w NB base F T D U) {K : Kd} (hK : K ∈ L) {v : KV} {P : Nat → Prop}
    (hs : KSt K w' NB base v.rb v.ro v.E v.A) (hc : Com w' NB T' D' U') (r2 : RStep w (F K.c).ro v.ro) (C : Chg (fun k => k = NB ∨ (F K.c).rb = some k ∨ (F K.c).ro = some k ∨ P k) w w')
    (hP : ∀ K' ∈ L, K'.c ≠ K.c → ∀ k, BkB (F K'.c).rb (F K'.c).ro (F K'.c).E k → ¬ P k)
    (cells : ∀ j, j < 69 → j ≠ 3 * K.c → j ≠ 3 * K.c + 1 → j ≠ 3 * K.c + 2 → w'.cell? ⟨NB, j, none⟩ = w.cell? ⟨NB, j, none⟩) (fz : NbFz NB w w') :
    BkSt L w' NB base (upd F K.c v) T' D' U' := by
  have hKc := hL.c K hK
  refine ⟨fun K' hK' => ?_, ⟨fun k hk hn => ?_, fun j hj => by rw [fz]; exact h.nil.fz j hj⟩, hc, fun K1 h1 K2 h2 hne k hk1 hk2 => ?_⟩
  · by_cases he : K'.c = K.c
    · have := hL.uniq K' hK' K hK he
      subst this
      rw [upd_same]; exact hs
    · rw [upd_ne _ _ he]
      have hc' := hL.c K' hK'
      refine (h.st K' hK').keep C (fun k hk hh => ?_) (fun i hi => ⟨cells _ (by omega) (by omega) (by omega) (by omega), fz _⟩)
      have s := h.sep hL hK hK' he hk
      rcases hh with hh | hh | hh | hh
      · exact s (.inl hh)
      · exact s (.inr (.inl hh))
      · exact s (.inr (.inr hh))
      · exact hP K' hK' he k hk hh
  · have hne : k ≠ K.c := fun e => by rw [e, kin_of hK] at hn; cases hn
    obtain ⟨n1, n2, n3⟩ := h.nil.nils k hk hn
    exact ⟨by rw [cells _ (by omega) (by omega) (by omega) (by omega)]; exact n1, by rw [cells _ (by omega) (by omega) (by omega) (by omega)]; exact n2, by rw [cells _ (by omega) (by omega) (by omega) (by omega)]; exact n3⟩
  · have lt : ∀ K' ∈ L, ∀ g, (F K'.c).ro = some g → g < w.heap.size := fun K' hK' g hg => by
      obtain ⟨vo, o1, o2, o3⟩ := (h.st K' hK').nums
      exact (row_ge o2 (o3.trans hg)).2
    by_cases e1 : K1.c = K.c
    · have e2 : K2.c ≠ K.c := fun e => hne (e1.trans e.symm)
      rw [e1, upd_same] at hk1
      rw [upd_ne _ _ e2] at hk2
      rcases r2 with r2 | ⟨g, r2, r3⟩
      · rw [r2] at hk1
        exact h.ne K2 h2 K hK e2 k hk2 hk1
      · rw [r2] at hk1
        have := lt K2 h2 k hk2
        simp only [Option.some.injEq] at hk1
        omega
    · rw [upd_ne _ _ e1] at hk1
      by_cases e2 : K2.c = K.c
      · rw [e2, upd_same] at hk2
        rcases r2 with r2 | ⟨g, r2, r3⟩
        · rw [r2] at hk2
          exact h.ne K1 h1 K hK e1 k hk1 hk2
        · rw [r2] at hk2
          have := lt K1 h1 k hk1
          simp only [Option.some.injEq] at hk2
          omega
      · rw [upd_ne _ _ e2] at hk2
        exact h.ne K1 h1 K2 h2 hne k hk1 hk2

/-- Something else changes. -/
theorem BkSt.chg {L : List Kd} {S : Nat → Prop} {w w' : World} {NB base : Nat} {F : Nat → KV} {T D U : Nat} (h : BkSt L w NB base F T D U) (hc : Chg S w w') (hs : ∀ k, BkOwn L F k → ¬ S k) (hN : ¬ S NB) : BkSt L w' NB base F T D U := by
  have e := hc.block NB h.NBlt hN
  have hcell : ∀ j, w'.cell? ⟨NB, j, none⟩ = w.cell? ⟨NB, j, none⟩ := fun j => World.cell?_of_block e
  refine ⟨fun K hK => (h.st K hK).chg hc (fun k hk => hs k ⟨K, hK, hk⟩) hN, ⟨fun k hk hn => ?_, fun j hj => by rw [World.frozen?_of_block (a := ⟨NB, j, none⟩) e]; exact h.nil.fz j hj⟩, h.com.chg hc hN, h.ne⟩
  obtain ⟨n1, n2, n3⟩ := h.nil.nils k hk hn
  exact ⟨(hcell _).trans n1, (hcell _).trans n2, (hcell _).trans n3⟩
theorem BkSt.drewN {L : List Kd} {w : World} {NB base : Nat} {F : Nat → KV} {T D U : Nat} (h : BkSt L w NB base F T D U) (m : Nat) : BkSt L (w.drewN m) NB base F T D U :=
  h.chg (Chg.drewN (S := fun _ => False) w m) (fun _ _ h => h) (fun h => h)

/-- A list of a kind is taken. -/
theorem BkSt.taken {L : List Kd} (hL : KOk L) {w w' : World} {NB base : Nat} {F : Nat → KV} {T D U : Nat} (h : BkSt L w NB base F T D U) {K : Kd} (hK : K ∈ L) {e : Ent} {xs : List Value} (hv : w.ownsRow base K.te 1 e.v e.n xs) (ha : AddPost K w NB base (F K.c).rb (F K.c).ro (F K.c).E (F K.c).A T D e w') :
    ∃ rb' ro' E' U', BkSt L w' NB base (upd F K.c ⟨rb', ro', E', (F K.c).A⟩) (T + 1) D U' ∧ (E' = (F K.c).E ∨ E' = (F K.c).E ++ [e]) ∧ RStep w (F K.c).rb rb' ∧ RStep w (F K.c).ro ro' ∧ Chg (fun k => k = NB ∨ (F K.c).rb = some k ∨ (F K.c).ro = some k ∨ e.v.ownBlock = some k) w w' := by
  obtain ⟨rb', ro', E', U', k1, k2, k3, k4, k5, k6, k7, k8⟩ := ha
  refine ⟨rb', ro', E', U', ?_, k3, k4, k5, k6⟩
  refine h.step hL hK (v := ⟨rb', ro', E', (F K.c).A⟩) k1 k2 k5 k6 (fun K' hK' hne k hk hh => ?_) (fun j hj h0 h1 h2 => k7 j h0 h1 (by omega) (by omega)) k8
  exact (h.st K' hK').apart hv (hL.ll K hK K' hK' (Ne.symm hne)).2 (hL.el K hK K' hK') (hL.te K hK) hh hk

/-- The lists of a kind have grown. -/
theorem BkSt.grown {L : List Kd} (hL : KOk L) {w w' : World} {NB base : Nat} {F : Nat → KV} {T D U q : Nat} (h : BkSt L w NB base F T D U) {K : Kd} (hK : K ∈ L) (ha : GrownPost K w NB base (F K.c).rb (F K.c).ro (F K.c).E (F K.c).A q w') :
    ∃ rb' ro' X, BkSt L w' NB base (upd F K.c ⟨rb', ro', (F K.c).E ++ X, ((F K.c).E ++ X).length⟩) T D U ∧ X.length ≤ q * ((F K.c).E.length - (F K.c).A) ∧ RStep w (F K.c).rb rb' ∧ RStep w (F K.c).ro ro' ∧ (∀ e ∈ X, ∀ g, e.v.ownBlock = some g → w.heap.size ≤ g) ∧ Chg (fun k => k = NB ∨ (F K.c).rb = some k ∨ (F K.c).ro = some k) w w' := by
  obtain ⟨rb', ro', X, k1, k2, k3, k4, k5, k6, k7, k8⟩ := ha
  have hKc := hL.c K hK
  refine ⟨rb', ro', X, ?_, k2, k3, k4, k5, k6⟩
  refine h.step hL hK (v := ⟨rb', ro', (F K.c).E ++ X, ((F K.c).E ++ X).length⟩) (P := fun _ => False) k1 (h.com.keep fun i h1 h2 => ⟨k7 i (by omega) (by omega) (by omega), k8 i⟩) k4 (k6.mono fun k _ hk => by rcases hk with hk | hk | hk; exact .inl hk; exact .inr (.inl hk); exact .inr (.inr (.inl hk))) (fun _ _ _ _ _ h => h) (fun j hj h0 h1 h2 => k7 j h0 h1 h2) k8

/-- All that is new has grown. -/
theorem BkSt.setD {L : List Kd} (hL : KOk L) {w : World} {NB base : Nat} {F : Nat → KV} {T D U : Nat} (h : BkSt L w NB base F T D U) : BkSt L (w.setCell ⟨NB, 70, none⟩ (.int .i64 (T : Int))) NB base F T T U := by
  refine ⟨fun K hK => (h.st K hK).setNB 70 _ (by have := hL.c K hK; omega), ⟨fun k hk hn => ?_, fun j hj => by rw [frozen_setCell]; exact h.nil.fz j hj⟩, h.com.setD, h.ne⟩
  obtain ⟨n1, n2, n3⟩ := h.nil.nils k hk hn
  exact ⟨by rw [cell_setCell_ne _ _ _ _ _ (by omega)]; exact n1, by rw [cell_setCell_ne _ _ _ _ _ (by omega)]; exact n2, by rw [cell_setCell_ne _ _ _ _ _ (by omega)]; exact n3⟩

/-- What is new is as long as it has room. -/
def Fresh (v : KV) : Prop := ∀ i e, v.A ≤ i → v.E[i]? = some e → e.n ≤ 50000 ∧ ∃ p, e.v = .slice p e.n e.n

/-- What a look at the Book may change: the Book, its rows. -/
def BkRows (L : List Kd) (NB : Nat) (F : Nat → KV) (k : Nat) : Prop := k = NB ∨ ∃ K ∈ L, (F K.c).rb = some k ∨ (F K.c).ro = some k

/-- Behind a look, or a growing: of each kind there is X more, each in a new block. -/
structure LookSt (L : List Kd) (w : World) (NB base : Nat) (F : Nat → KV) (T U : Nat) (F' : Nat → KV) (w' : World) : Prop where
  st : ∃ D, BkSt L w' NB base F' T D U
  E : ∀ K ∈ L, ∃ X, (F' K.c).E = (F K.c).E ++ X ∧ X.length ≤ 96 * ((F K.c).E.length - (F K.c).A) ∧ (∀ e ∈ X, ∀ g, e.v.ownBlock = some g → w.heap.size ≤ g) ∧ ((F' K.c).A = (F' K.c).E.length ∨ (X = [] ∧ (F' K.c).A = (F K.c).A))
  rb : ∀ K ∈ L, RStep w (F K.c).rb (F' K.c).rb
  ro : ∀ K ∈ L, RStep w (F K.c).ro (F' K.c).ro
  chg : Chg (BkRows L NB F) w w'

end Go.Proofs.YtnjcedlbdjidiaaGreatDoor

/- The law's Book whole: kind after kind has grown. -/
namespace Go.Proofs.YtnjcedlbdjidiaaGreatDoor
open Go.RowKit
open M
set_option linter.unusedVariables false

/-- The kinds of dn have grown. -/
structure GAcc (L : List Kd) (w : World) (NB base : Nat) (F : Nat → KV) (T D U : Nat) (dn : List Nat) (F' : Nat → KV) (w' : World) : Prop where
  st : BkSt L w' NB base F' T D U
  done : ∀ K ∈ L, K.c ∈ dn → ∃ X, (F' K.c).E = (F K.c).E ++ X ∧ X.length ≤ 96 * ((F K.c).E.length - (F K.c).A) ∧ (∀ e ∈ X, ∀ g, e.v.ownBlock = some g → w.heap.size ≤ g) ∧ (F' K.c).A = (F' K.c).E.length
  rest : ∀ K ∈ L, K.c ∉ dn → F' K.c = F K.c
  rb : ∀ K ∈ L, RStep w (F K.c).rb (F' K.c).rb
  ro : ∀ K ∈ L, RStep w (F K.c).ro (F' K.c).ro
  chg : Chg (BkRows L NB F) w w'

theorem GAcc.start {L : List Kd} {w : World} {NB base : Nat} {F : Nat → KV} {T D U : Nat} (h : BkSt L w NB base F T D U) : GAcc L w NB base F T D U [] F w :=
  ⟨h, fun K hK h0 => by simp at h0, fun _ _ _ => rfl, fun _ _ => .inl rfl, fun _ _ => .inl rfl, Chg.refl _ _⟩

theorem GAcc.step {L : List Kd} (hL : KOk L) {w w1 w2 : World} {NB base : Nat} {F F1 : Nat → KV} {T D U q : Nat} {dn : List Nat} (h : GAcc L w NB base F T D U dn F1 w1) {K : Kd} (hK : K ∈ L) (hn : K.c ∉ dn) (hq : q ≤ 96)
    (ha : GrownPost K w1 NB base (F1 K.c).rb (F1 K.c).ro (F1 K.c).E (F1 K.c).A q w2) : ∃ F2, GAcc L w NB base F T D U (K.c :: dn) F2 w2 := by
  obtain ⟨rb', ro', X, k1, k2, k3, k4, k5, k6⟩ := h.st.grown hL hK ha
  have e := h.rest K hK hn
  have hz := h.chg.size
  have hup : ∀ {r r' : Option Nat}, RStep w1 r r' → RStep w r r' := fun hr => by
    rcases hr with hr | ⟨g, hr, hg⟩
    · exact .inl hr
    · exact .inr ⟨g, hr, by omega⟩
  rw [e] at k2 k3 k4 k6
  refine ⟨_, k1, fun K' hK' hd => ?_, fun K' hK' hd => ?_, fun K' hK' => ?_, fun K' hK' => ?_, h.chg.trans' (k6.mono fun k _ hk => ?_)⟩
  · by_cases hc : K'.c = K.c
    · have := hL.uniq K' hK' K hK hc
      subst this
      rw [upd_same]
      refine ⟨X, by show (F1 K'.c).E ++ X = _; rw [e], Nat.le_trans k2 (Nat.mul_le_mul_right _ hq), fun e' he g hg => Nat.le_trans hz (k5 e' he g hg), rfl⟩
    · rw [upd_ne _ _ hc]
      refine h.done K' hK' ?_
      rcases List.mem_cons.1 hd with hd | hd
      · exact absurd hd hc
      · exact hd
  · rw [upd_ne _ _ (fun hc => hd (by rw [hc]; exact List.mem_cons_self ..))]
    exact h.rest K' hK' (fun hh => hd (List.mem_cons_of_mem _ hh))
  · by_cases hc : K'.c = K.c
    · rw [hc, upd_same]; exact hup k3
    · rw [upd_ne _ _ hc]; exact h.rb K' hK'
  · by_cases hc : K'.c = K.c
    · rw [hc, upd_same]; exact hup k4
    · rw [upd_ne _ _ hc]; exact h.ro K' hK'
  · rcases hk with hk | hk | hk
    · exact .inl hk
    · exact .inr ⟨K, hK, .inl hk⟩
    · exact .inr ⟨K, hK, .inr hk⟩

theorem GAcc.look {L : List Kd} (hL : KOk L) {w w' : World} {NB base : Nat} {F F' : Nat → KV} {T D U : Nat} {dn : List Nat} (h : GAcc L w NB base F T D U dn F' w') (hd : ∀ K ∈ L, K.c ∈ dn) : LookSt L w NB base F T U F' (w'.setCell ⟨NB, 70, none⟩ (.int .i64 (T : Int))) :=
  ⟨⟨T, h.st.setD hL⟩, fun K hK => by obtain ⟨X, h1, h2, h3, h4⟩ := h.done K hK (hd K hK); exact ⟨X, h1, h2, h3, .inl h4⟩, h.rb, h.ro, h.chg.trans' (Chg.set _ _ _ _ (.inl rfl))⟩

theorem LookSt.same {L : List Kd} {w : World} {NB base : Nat} {F : Nat → KV} {T D U : Nat} (h : BkSt L w NB base F T D U) : LookSt L w NB base F T U F w :=
  ⟨⟨D, h⟩, fun K hK => ⟨[], by simp, by simp, fun e he => by simp at he, .inr ⟨rfl, rfl⟩⟩, fun _ _ => .inl rfl, fun _ _ => .inl rfl, Chg.refl _ _⟩

theorem LookSt.drewN {L : List Kd} {w w' : World} {NB base : Nat} {F F' : Nat → KV} {T U : Nat} (h : LookSt L w NB base F T U F' w') (m : Nat) : LookSt L w NB base F T U F' (w'.drewN m) :=
  ⟨by obtain ⟨D, hD⟩ := h.st; exact ⟨D, hD.drewN m⟩, h.E, h.rb, h.ro, h.chg.trans' (Chg.drewN _ _)⟩

/-- Ahead of a look only the tape was drawn on. -/
theorem LookSt.undrew {L : List Kd} {w w' : World} {NB base : Nat} {F F' : Nat → KV} {T U m : Nat} (h : LookSt L (w.drewN m) NB base F T U F' w') : LookSt L w NB base F T U F' w' :=
  ⟨h.st, h.E, h.rb, h.ro, (Chg.drewN w m).trans' h.chg⟩

end Go.Proofs.YtnjcedlbdjidiaaGreatDoor

namespace Go.Proofs.YtnjcedlbdjidiaaGreatDoor
open Go.RowKit
open M
set_option linter.unusedVariables false
set_option linter.unusedSimpArgs false

/-- Lists of uint8s. -/
def kB : Kd := ⟨0, 5, 59, fun m k => .int .u8 ((mk m k : Nat) : Int)⟩

theorem infoB : ∃ i, Tryz.prog.info? 59 = some i ∧ i.zero = some (.slice none 0 0) ∧ i.size = 1 ∧ i.bytes = 24 := by
  have hz : (Tryz.prog.info? 59).bind (·.zero) = some (.slice none 0 0) := by kernel_rfl
  have hs : (Tryz.prog.info? 59).map (·.size) = some 1 := by kernel_rfl
  have hb : (Tryz.prog.info? 59).map (·.bytes) = some 24 := by kernel_rfl
  cases hi : Tryz.prog.info? 59 with
  | none => simp [hi] at hs
  | some i =>
    simp only [hi, Option.bind_some, Option.map_some, Option.some.injEq] at hz hs hb
    exact ⟨i, rfl, hz, hs, hb⟩

theorem at_any (m k : Nat) (w : World) (hm : m ≤ 1000000) (hk : k ≤ 1000000000) : Calls Tryz.prog 43 #[.int .i64 m, .int .i64 k] w fun e w' => e = .returned (.int .u8 (mk m k : Nat)) ∧ w' = w := by
  by_cases h : k % 2 = 0
  · have h' : ((k : Int) % 2 == 0) = true := by rw [beq_iff_eq]; omega
    have hE : Hid ((mk m k : Int) = 1 + (m : Int) % 251) := by show _ = _; unfold mk; rw [if_pos h]; omega
    go_enter Tryz.func43, Tryz.ntmps43
    go_wp2_with fail
    go_ret
    refine ⟨?_, rfl⟩
    rw [hE.out]
    rfl
  · have h' : ((k : Int) % 2 == 0) = false := by rw [beq_eq_false_iff_ne]; omega
    have hE : Hid ((mk m k : Int) = 1 + (7 * (m : Int) + (m : Int) / 251) % 251) := by show _ = _; unfold mk; rw [if_neg h]; omega
    go_enter Tryz.func43, Tryz.ntmps43
    go_wp2_with fail
    go_ret
    refine ⟨?_, rfl⟩
    rw [hE.out]
    rfl

set_option maxRecDepth 100000 in
set_option maxHeartbeats 8000000 in
theorem addB_any (NB base : Nat) (rb ro : Option Nat) (E : List Ent) (A T D U n : Nat) (p : Option Addr) (xs : List Value) (w : World) (h : KSt kB w NB base rb ro E A) (hC : Com w NB T D U) (hv : w.ownsRow base 5 1 (.slice p n n) n xs) (hn : n ≤ 50000) (hT : T < 1000000) (hE : E.length < 1000000) (hbase : base ≤ w.heap.size)
    (hap : ∀ e ∈ E, ∀ g, (Value.slice p n n).ownBlock = some g → e.v.ownBlock ≠ some g) :
    Calls Tryz.prog 23 #[.pointer (some ⟨NB, 0, none⟩), .slice p n n] w fun q w' => q = .returned (.tuple #[]) ∧ AddPost kB w NB base rb ro E A T D ⟨.slice p n n, n, T + 1⟩ w' := by
  have hbl : xs.length = n := by have := hv.1; simpa using this
  have c1 := hC.turn
  have f1 := hC.fz 69 (by omega) (by omega)
  obtain ⟨T1, hT1⟩ : ∃ T1 : Nat, (T : Int) + 1 = (T1 : Int) := ⟨T + 1, by omega⟩
  have HT1 : Hid (T1 = T + 1) := by show _ = _; omega
  obtain ⟨wA, hwA⟩ : ∃ wA, wA = w.setCell ⟨NB, 69, none⟩ (.int .i64 (T1 : Int)) := ⟨_, rfl⟩
  have HA : Hid (wA.ownsRow base 5 1 (.slice p n n) n xs) := by rw [hwA]; exact ownsRow_setOther hv _ _ _ h.le.2.1
  have HwA := hideB hwA
  have hcT : wA.cell? ⟨NB, 69, none⟩ = some (.int .i64 (T1 : Int)) := by rw [hwA]; exact cell_setCell_eq _ _ _ _ _ c1
  have HFU : Hid (∀ wr, wr.ownsRow base 5 1 (.slice p n n) n (kB.marks T1 n) → Chg (fun k => (Value.slice p n n).ownBlock = some k) wA wr → FullSt kB w NB base rb ro E A T1 D U n p wr) := fun wr h1 h2 =>
    FullSt.of h hC (by decide) (by decide) (by decide) (by have := HT1.out; omega) hv hap h1 (by rw [← hwA]; exact h2)
  have Hbl := hideB hbl
  have hT1b : T1 ≤ 1000000 := by have := HT1.out; omega
  clear h hC hv hap hbl
  go_enter Tryz.func23, Tryz.ntmps23
  go_wp2_with fail
  rw [← hwA]
  clear hwA c1 f1
  clear hcT
  go_loopw [5] (fun ti wr => ∃ i : Nat, i ≤ n ∧ ti = .int .i64 i ∧ Hid (wr.ownsRow base 5 1 (.slice p n n) n (kB.marks T1 i ++ xs.drop i) ∧ Chg (fun k => (Value.slice p n n).ownBlock = some k) wA wr)) (fun ti _ => n - (intOf ti).toNat)
  case atStart => exact ⟨0, by omega, rfl, ⟨by simpa [Kd.marks] using HA.out, Chg.refl _ _⟩⟩
  case round =>
    obtain ⟨i, hi, rfl, HS⟩ := hrel
    by_cases hlt : i < n
    · have hlt' : (i : Int) < (n : Int) := by omega
      obtain ⟨g, rfl, hg1, hg2, _⟩ := row_at HS.out.1 rfl (by omega)
      obtain ⟨⟨y, hc⟩, hf⟩ := row_store HS.out.1 i hlt
      have HN : Hid ((wr.setCell ⟨g, i, none⟩ (.int .u8 ((mk T1 i : Nat) : Int))).ownsRow base 5 1 (.slice (some ⟨g, 0, none⟩) n n) n (kB.marks T1 (i + 1) ++ xs.drop (i + 1)) ∧ Chg (fun k => (Value.slice (some ⟨g, 0, none⟩) n n).ownBlock = some k) wA (wr.setCell ⟨g, i, none⟩ (.int .u8 ((mk T1 i : Nat) : Int)))) := by
        have := fill_step (K := kB) HS.out.1 hlt Hbl.out
        
        exact ⟨this, HS.out.2.trans' (Chg.set _ _ _ _ rfl)⟩
      have HAt := hideB (at_any T1 i wr hT1b (by omega))
      clear HS
      generalize mk T1 i = yy at *
      go_wp2_with fail
      refine HAt.out.mono ?_
      rintro e w1 ⟨rfl, hw1⟩
      have hw1 := hw1.symm
      subst hw1
      go_wp2_with fail
      go_roundw
      case rel => exact ⟨i + 1, by omega, by simp, HN.out⟩
      case measure => simp [intOf]; omega
    · obtain rfl : n = i := by omega
      have hdrop : xs.drop n = [] := List.drop_eq_nil_of_le (by have := Hbl.out; omega)
      have vB : wr.ownsRow base 5 1 (.slice p n n) n (kB.marks T1 n) := by have := HS.out.1; rwa [hdrop, List.append_nil] at this
      have HF := hideB (HFU.out wr vB HS.out.2)
      have cU := HF.out.com.used
      have fU := HF.out.com.fz 71 (by omega) (by omega)
      have hUle := HF.out.com.le.2
      obtain ⟨xx, hxx⟩ : ∃ xx : Nat, (1200 : Int) + 3 * (n : Int) = (xx : Int) := ⟨1200 + 3 * n, by omega⟩
      have hxx2 : xx ≤ 100000000 := by omega
      clear HS hdrop vB HFU
      by_cases htight : 16777216 < U + xx
      · have HTi := hideB (tight_yes NB xx U wr cU htight (by omega))
        clear cU fU
        go_wp2_with fail
        refine HTi.out.mono ?_
        rintro e w1 ⟨rfl, hw1⟩
        have hw1 := hw1.symm
        subst hw1
        go_wp2_with fail
        refine bodyPost_ret (v := .tuple #[]) (results_none rfl _ _ _) rfl ⟨rfl, ?_⟩
        have := HF.out
        rw [HT1.out] at this
        exact this.no
      · have HTi := hideB (tight_no NB xx U wr cU fU (by omega))
        clear cU fU
        go_wp2_with fail
        refine HTi.out.mono ?_
        rintro e wC ⟨rfl, hwC⟩
        have HFC : Hid (FullSt kB w NB base rb ro E A T1 D (U + xx) n p wC) := by rw [hwC]; exact HF.out.setU (by decide) (U + xx) (by omega)
        obtain ⟨vb, b1, b2, b3⟩ := HFC.out.st.rows
        obtain ⟨vo, q1, q2, q3⟩ := HFC.out.st.nums
        have b1 : wC.cell? ⟨NB, 0, none⟩ = some vb := b1
        have q1 : wC.cell? ⟨NB, 1, none⟩ = some vo := q1
        have f0 : wC.frozen? ⟨NB, 0, none⟩ = false := HFC.out.st.fz 0 (by omega)
        have f1 : wC.frozen? ⟨NB, 1, none⟩ = false := HFC.out.st.fz 1 (by omega)
        have hbC : base ≤ wC.heap.size := Nat.le_trans hbase HFC.out.chg.size
        have hNb := HFC.out.st.le.2.1
        have Hn : Hid (rb ≠ some NB ∧ ro ≠ some NB ∧ vb.ownBlock = rb ∧ vo.ownBlock = ro ∧ NB < base) := ⟨fun hh => by have := (row_ge b2 (b3.trans hh)).1; omega, fun hh => by have := (row_ge q2 (q3.trans hh)).1; omega, b3, q3, hNb⟩
        have HR1 : Hid (wC.ownsRow base 59 1 vb E.length (E.map Ent.v)) := b2
        have HR2 : Hid (wC.ownsRow base 3 1 vo E.length (numsV E)) := q2
        obtain ⟨i29, h29⟩ := infoB
        obtain ⟨i3, h3⟩ := infoI
        have H29 := hideB h29
        have H3 := hideB h3
        clear hwC b2 b3 q2 q3 HF h29 h3 HTi
        go_wp2_with (at_builtin; refine wpList_append_lies _ rfl _ _ _ rfl base 59 i29 (.slice none 0 0) 1 24 Tryz.underlying24 H29.out.1 H29.out.2.1 H29.out.2.2.1 H29.out.2.2.2 rfl (by decide) vb E.length (E.map Ent.v) rfl (HR1.out.alloc _) ⟨wC.heap.size, 0, none⟩ 1 1 [.slice p n n] rfl rfl ?d2 ?d3 (by decide) ?d4 ?d5 ?d7 _ rfl ?d6)
        case d2 => intro j u hj; exact cell_newB wC _ 59 j u hj
        case d3 => intro u hu; simp at hu; subst hu; rfl
        case d4 => unfold maxLen; omega
        case d5 => omega
        case d7 => simp; omega
        case d6 =>
          intro g1 cap1 wD o1 gr1 at1 lt1
          rw [Hn.out.2.2.1] at gr1 at1
          have C1 : Chg (fun k => rb = some k) wC wD := (Chg.below ((Below.refl _ _).alloc (Nat.le_refl _) _)).trans' (Chg.grown gr1 fun g hg => hg)
          have c0D := cell_chg b1 C1 Hn.out.1
          have c1D := cell_chg q1 C1 Hn.out.1
          have fD : ∀ j, wD.frozen? ⟨NB, j, none⟩ = wC.frozen? ⟨NB, j, none⟩ := fun j => World.frozen?_of_block (w := wC) (a := ⟨NB, j, none⟩) (C1.block NB (block_lt_of_cell b1) Hn.out.1)
          have f0D := (fD 0).trans f0
          have f1D := (fD 1).trans f1
          have q2D : wD.ownsRow base 3 1 vo E.length (numsV E) := ownsRow_chg HR2.out C1 (fun g hg hh => rows_ne HR2.out HR1.out (by decide) hg (Hn.out.2.2.1.trans hh))
          have HR2E : Hid ((wD.setCell ⟨NB, 0, none⟩ (Value.slice (some ⟨g1, 0, none⟩) (E.length + 1) cap1)).ownsRow base 3 1 vo E.length (numsV E)) := ownsRow_setOther q2D _ _ _ Hn.out.2.2.2.2
          have zE : (wD.setCell ⟨NB, 0, none⟩ (Value.slice (some ⟨g1, 0, none⟩) (E.length + 1) cap1)).heap.size = wD.heap.size := by simp [World.setCell]
          have hbE : base ≤ wD.heap.size := Nat.le_trans hbC C1.size
          have H1 : Hid (wD.ownsRow base 59 1 (Value.slice (some ⟨g1, 0, none⟩) (E.length + 1) cap1) (E.length + 1) (E.map Ent.v ++ [.slice p n n]) ∧ (wC.alloc (.cells #[.slice p n n] 59)).grownBy wD rb ∧ (rb = (Value.slice (some ⟨g1, 0, none⟩) (E.length + 1) cap1).ownBlock ∨ (Value.slice (some ⟨g1, 0, none⟩) (E.length + 1) cap1).ownBlock = some (wC.heap.size + 1))) := ⟨o1, gr1, by rcases at1 with at1 | at1; exact .inl at1; right; rw [at1]; simp [Value.ownBlock]⟩
          have HcE : Hid ((wD.setCell ⟨NB, 0, none⟩ (Value.slice (some ⟨g1, 0, none⟩) (E.length + 1) cap1)).cell? ⟨NB, 1, none⟩ = some vo ∧ (wD.setCell ⟨NB, 0, none⟩ (Value.slice (some ⟨g1, 0, none⟩) (E.length + 1) cap1)).frozen? ⟨NB, 1, none⟩ = false) := ⟨by rw [cell_setCell_ne _ _ _ _ _ (by omega)]; exact c1D, by rw [frozen_setCell]; exact f1D⟩
          have c1E := HcE.out.1
          have f1E := HcE.out.2
          clear o1 gr1 at1 lt1 C1 fD q2D HR2
          go_wp2_with (at_builtin; refine wpList_append_lies _ rfl _ _ _ rfl base 3 i3 (.int .i64 0) 1 8 Tryz.underlying25 H3.out.1 H3.out.2.1 H3.out.2.2.1 H3.out.2.2.2 rfl (by decide) vo E.length (numsV E) rfl (HR2E.out.alloc _) ⟨wD.heap.size, 0, none⟩ 1 1 [.int .i64 T1] rfl rfl ?e2 ?e3 (by decide) ?e4 ?e5 ?e7 _ rfl ?e6)
          case e2 => intro j u hj; have h := cell_newB (wD.setCell ⟨NB, 0, none⟩ (Value.slice (some ⟨g1, 0, none⟩) (E.length + 1) cap1)) _ 3 j u hj; rw [zE] at h; exact h
          case e3 => intro u hu; simp at hu; subst hu; rfl
          case e4 => unfold maxLen; omega
          case e5 => omega
          case e7 => simp [zE]; omega
          case e6 =>
            intro g2 cap2 wF o2 gr2 at2 lt2
            rw [Hn.out.2.2.2.1] at gr2 at2
            have C3 : Chg (fun k => ro = some k) (wD.setCell ⟨NB, 0, none⟩ (Value.slice (some ⟨g1, 0, none⟩) (E.length + 1) cap1)) wF := (Chg.below ((Below.refl _ _).alloc (Nat.le_refl _) _)).trans' (Chg.grown gr2 fun g hg => hg)
            have c1F := cell_chg HcE.out.1 C3 Hn.out.2.1
            have f1F : wF.frozen? ⟨NB, 1, none⟩ = false := (World.frozen?_of_block (w := wD.setCell ⟨NB, 0, none⟩ (Value.slice (some ⟨g1, 0, none⟩) (E.length + 1) cap1)) (a := ⟨NB, 1, none⟩) (C3.block NB (block_lt_of_cell HcE.out.1) Hn.out.2.1)).trans HcE.out.2
            have HFF : Hid (AddPost kB w NB base rb ro E A T D ⟨.slice p n n, n, T + 1⟩ (wF.setCell ⟨NB, 1, none⟩ (.slice (some ⟨g2, 0, none⟩) (E.length + 1) cap2))) := by
              have hh := HFC.out
              rw [HT1.out] at hh o2
              exact hh.added (by decide) (by decide) (by decide) (by decide) (by omega) (by omega) H1.out.1 H1.out.2.1 H1.out.2.2 rfl o2 gr2 (by rcases at2 with at2 | at2; exact .inl at2; right; rw [at2]; simp [Value.ownBlock, zE]) rfl
            clear o2 gr2 at2 lt2 C3
            go_wp2_with fail
            go_end0
            exact ⟨rfl, HFF.out⟩

end Go.Proofs.YtnjcedlbdjidiaaGreatDoor

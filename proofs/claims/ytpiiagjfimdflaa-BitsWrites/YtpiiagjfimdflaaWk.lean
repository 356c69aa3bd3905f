/- The law's Book: growBytes, its states. -/
import Derived.Test.YtpiiagjfimdflaaWj
namespace Go.Proofs.Ytpiiagjfimdflaa
open Go.RowKit
open M
set_option linter.unusedVariables false

theorem row_cut {w : World} {base g n cap L : Nat} {xs : List Value} {v : Value} {k : Nat} {ys : List Value} (h : w.ownsRow base 5 1 (.slice (some ⟨g, 0, none⟩) n cap) n xs) (x : Value) (hL : n ≤ L) (hv : w.ownsRow base 5 1 v k ys) (hk : v.ownBlock = some g → k ≤ L) :
    (w.setCell ⟨g, L, none⟩ x).ownsRow base 5 1 v k ys := by
  by_cases hg : v.ownBlock = some g
  · have hkL := hk hg
    obtain ⟨h1, h2⟩ := hv
    refine ⟨h1, ?_⟩
    rcases h2 with h2 | ⟨g', cap', cur, rfl, h4, h5, h6, h6b, h7, h8⟩
    · exact .inl h2
    · simp only [Value.ownBlock, Option.some.injEq] at hg
      subst hg
      refine .inr ⟨g', cap', cur.setIfInBounds L x, rfl, h4, ?_, h6, h6b, by simpa using h7, ?_⟩
      · simp only [World.setCell, Array.getElem?_modify, h5]
        simp
      · rw [← h8]
        simp only [Array.toList_setIfInBounds]
        rw [List.take_set]
        rw [List.set_eq_of_length_le]
        simp; omega
  · exact ownsRow_keep hv (fun g' hg' => Below.heap_setCell _ _ _ _ (by show g' ≠ g; intro e; exact hg (e ▸ hg')))

/-- The next byte of a row that has room. -/
theorem row_next {w : World} {base g n cap : Nat} {xs : List Value} (h : w.ownsRow base 5 1 (.slice (some ⟨g, 0, none⟩) n cap) n xs) (x : Value) (hroom : n + 1 ≤ cap) :
    (w.setCell ⟨g, n, none⟩ x).ownsRow base 5 1 (.slice (some ⟨g, 0, none⟩) (n + 1) cap) (n + 1) (xs ++ [x]) ∧ (w.cell? ⟨g, n, none⟩).isSome = true ∧ w.frozen? ⟨g, n, none⟩ = false := by
  obtain ⟨h1, h2⟩ := h
  rcases h2 with ⟨h2, _⟩ | ⟨g', cap', cur, h0, h4, h5, h6, h6b, h7, h8⟩
  · simp at h2
  · simp only [Value.slice.injEq, Option.some.injEq, Addr.mk.injEq] at h0
    obtain ⟨⟨rfl, _⟩, _, rfl⟩ := h0
    refine ⟨⟨by simp at h1 ⊢; omega, .inr ⟨g, cap, cur.setIfInBounds n x, rfl, h4, ?_, hroom, h6b, by simpa using h7, ?_⟩⟩, ?_, frozen_of_row _ _ _ _ _ h5⟩
    · simp only [World.setCell, Array.getElem?_modify, h5]
      simp
    · have hn : n < cur.size := by omega
      simp only [Array.toList_setIfInBounds, Nat.mul_one] at h8 ⊢
      rw [List.take_add_one, List.take_set, List.set_eq_of_length_le (by simp; omega), h8]
      congr 1
      simp [hn]
    · rw [cell_of_row _ _ _ _ _ _ h5, Array.getElem?_eq_getElem (by omega)]; rfl

theorem BookSt.inside {w : World} {NB base : Nat} {rb ro : Option Nat} {E : List Ent} {A T D U : Nat} (h : BookSt w NB base rb ro E A T D U) {g L cap : Nat} {xs : List Value} (hv : w.ownsRow base 5 1 (.slice (some ⟨g, 0, none⟩) L cap) L xs) (hu : ∀ e ∈ E, e.v.ownBlock = some g → e.n ≤ L) (x : Value) :
    BookSt (w.setCell ⟨g, L, none⟩ x) NB base rb ro E A T D U := by
  obtain ⟨vb, b1, b2, b3⟩ := h.rows
  obtain ⟨vo, o1, o2, o3⟩ := h.marks
  have hC : Chg (fun k => k = g) w (w.setCell ⟨g, L, none⟩ x) := Chg.set _ _ _ _ rfl
  have hgb : base ≤ g := (row_ge hv rfl).1
  have hn : ¬ NB = g := by have := h.le.2.2.2.1; omega
  have hl := block_lt_of_cell h.at_
  refine ⟨⟨fun j h1 h2 h3 => cell_chg (h.nil.nils j h1 h2 h3) hC hn, fun j h1 h2 h3 => cell_chg (h.nil.ats j h1 h2 h3) hC hn, fun j hj => by rw [frozen_setCell]; exact h.nil.fz j hj⟩,
    ⟨vb, cell_chg b1 hC hn, ownsRow_chg b2 hC (fun g' hg hh => by subst hh; exact rows_ne hv b2 (by decide) rfl hg), b3⟩, ⟨vo, cell_chg o1 hC hn, ownsRow_chg o2 hC (fun g' hg hh => by subst hh; exact rows_ne hv o2 (by decide) rfl hg), o3⟩,
    cell_chg h.at_ hC hn, cell_chg h.turn hC hn, cell_chg h.done hC hn, cell_chg h.used hC hn, fun e he => ?_, h.le⟩
  obtain ⟨k1, k2, k3⟩ := h.ok e he
  exact ⟨row_cut hv x (Nat.le_refl _) k1 (hu e he), k2, k3⟩

/-- While the lists grow: c of them are done. -/
def GrowSt (w : World) (NB base : Nat) (rb ro : Option Nat) (E : List Ent) (A T D U : Nat) (c : Nat) (wr : World) : Prop :=
  ∃ rb' ro' X, BookSt wr NB base rb' ro' (E ++ X) A T D U ∧ X.length ≤ c ∧ RowStep w rb rb' ∧ RowStep w ro ro' ∧ (∀ e ∈ X, ∀ g, e.v.ownBlock = some g → w.heap.size ≤ g) ∧ Chg (fun k => k = NB ∨ rb = some k ∨ ro = some k) w wr

/-- While one list grows: v is as long as L; it has room only where no longer list lies. -/
def InSt (w : World) (NB base : Nat) (rb ro : Option Nat) (E : List Ent) (A T D U : Nat) (c m L : Nat) (v : Value) (wr : World) : Prop :=
  ∃ rb' ro' X, BookSt wr NB base rb' ro' (E ++ X) A T D U ∧ X.length ≤ c ∧ RowStep w rb rb' ∧ RowStep w ro ro' ∧ (∀ e ∈ X, ∀ g, e.v.ownBlock = some g → w.heap.size ≤ g) ∧ Chg (fun k => k = NB ∨ rb = some k ∨ ro = some k) w wr ∧
    wr.ownsRow base 5 1 v L (bytesV (marksOf m L)) ∧ ((∃ p, v = .slice p L L) ∨ ∀ g, v.ownBlock = some g → w.heap.size ≤ g ∧ ∀ e ∈ E ++ X, e.v.ownBlock = some g → e.n ≤ L)

/-- The same, where it lies apart. -/
def InR (w : World) (NB base : Nat) (rb ro : Option Nat) (E : List Ent) (A T D U : Nat) (c m L : Nat) (v : Value) (wr : World) : Prop :=
  ∃ rb' ro' X, BookSt wr NB base rb' ro' (E ++ X) A T D U ∧ X.length ≤ c ∧ RowStep w rb rb' ∧ RowStep w ro ro' ∧ (∀ e ∈ X, ∀ g, e.v.ownBlock = some g → w.heap.size ≤ g) ∧ Chg (fun k => k = NB ∨ rb = some k ∨ ro = some k) w wr ∧
    wr.ownsRow base 5 1 v L (bytesV (marksOf m L)) ∧ ∀ g, v.ownBlock = some g → w.heap.size ≤ g ∧ ∀ e ∈ E ++ X, e.v.ownBlock = some g → e.n ≤ L

theorem InR.st {w wr : World} {NB base : Nat} {rb ro : Option Nat} {E : List Ent} {A T D U c m L : Nat} {v : Value} (h : InR w NB base rb ro E A T D U c m L v wr) : InSt w NB base rb ro E A T D U c m L v wr := by
  obtain ⟨rb', ro', X, h1, h2, h3, h4, h5, h6, h7, h8⟩ := h
  exact ⟨rb', ro', X, h1, h2, h3, h4, h5, h6, h7, .inr h8⟩

theorem InSt.room {w wr : World} {NB base : Nat} {rb ro : Option Nat} {E : List Ent} {A T D U c m L g cap : Nat} {o : Obj} (h : InSt w NB base rb ro E A T D U c m L (.slice (some ⟨g, 0, none⟩) L cap) wr) (hroom : L + 1 ≤ cap) :
    InR w NB base rb ro E A T D U c m (L + 1) (.slice (some ⟨g, 0, none⟩) (L + 1) cap) ((wr.alloc o).setCell ⟨g, L, none⟩ (.int .u8 (mk m L : Nat))) := by
  obtain ⟨rb', ro', X, BS, hX, s1, s2, xn, C, hv, hu⟩ := h
  have hB : Below wr.heap.size wr (wr.alloc o) := (Below.refl _ _).alloc (Nat.le_refl _) _
  have BS1 : BookSt (wr.alloc o) NB base rb' ro' (E ++ X) A T D U := BS.chg (S := fun _ => False) (Chg.below hB) (fun _ _ h => h)
  have hv1 : (wr.alloc o).ownsRow base 5 1 (.slice (some ⟨g, 0, none⟩) L cap) L (bytesV (marksOf m L)) := hv.alloc _
  obtain ⟨hg1, hg2⟩ : w.heap.size ≤ g ∧ ∀ e ∈ E ++ X, e.v.ownBlock = some g → e.n ≤ L := by
    rcases hu with ⟨p, hp⟩ | hu
    · simp only [Value.slice.injEq] at hp; omega
    · exact hu g rfl
  refine ⟨rb', ro', X, BS1.inside hv1 hg2 _, hX, s1, s2, xn, ?_, ?_, fun g' hg' => ?_⟩
  · exact (C.trans' (Chg.below hB)).trans ((Chg.set _ _ _ _ (.inr hg1)))
  · have := (row_next hv1 (.int .u8 (mk m L : Nat)) hroom).1
    have e : bytesV (marksOf m (L + 1)) = bytesV (marksOf m L) ++ [.int .u8 (mk m L : Nat)] := by rw [marksOf_succ]; simp [bytesV]
    rw [e]; exact this
  · simp only [Value.ownBlock, Option.some.injEq] at hg'
    subst hg'
    exact ⟨hg1, fun e he hb => by have := hg2 e he hb; omega⟩

theorem InSt.full {w wr wN : World} {NB base : Nat} {rb ro : Option Nat} {E : List Ent} {A T D U c m L : Nat} {v v' : Value} {o : Obj} (h : InSt w NB base rb ro E A T D U c m L v wr) (hbase : base ≤ w.heap.size)
    (ho : wN.ownsRow (wr.heap.size + 1) 5 1 v' (L + 1) (bytesV (marksOf m L) ++ [.int .u8 (mk m L : Nat)])) (hg : (wr.alloc o).grownBy wN none) :
    InR w NB base rb ro E A T D U c m (L + 1) v' wN := by
  obtain ⟨rb', ro', X, BS, hX, s1, s2, xn, C, hv, hu⟩ := h
  have hB : Below wr.heap.size wr wN := ((Below.refl _ _).alloc (Nat.le_refl _) _).trans (grown_below hg (fun g hg => by simp at hg) (by simp))
  have hz := C.size
  have hzN : (wr.alloc o).heap.size = wr.heap.size + 1 := by simp
  refine ⟨rb', ro', X, BS.chg (S := fun _ => False) (Chg.below hB) (fun _ _ h => h), hX, s1, s2, xn, C.trans' (Chg.below hB), ?_, fun g' hg' => ?_⟩
  · have e : bytesV (marksOf m (L + 1)) = bytesV (marksOf m L) ++ [.int .u8 (mk m L : Nat)] := by rw [marksOf_succ]; simp [bytesV]
    rw [e]
    refine ⟨ho.1, ?_⟩
    rcases ho.2 with h2 | ⟨g', cap', cur, h0, h4, h5⟩
    · exact .inl h2
    · exact .inr ⟨g', cap', cur, h0, by omega, h5⟩
  · have hge := (ho.lt g' hg').1
    refine ⟨by omega, fun e he hb => ?_⟩
    have := ((BS.ok e he).1.lt g' hb).2
    omega

theorem InSt.more {w wr : World} {NB base : Nat} {rb ro : Option Nat} {E : List Ent} {A T D U c c' m L : Nat} {v : Value} (h : InSt w NB base rb ro E A T D U c m L v wr) (hc : c ≤ c') : InSt w NB base rb ro E A T D U c' m L v wr := by
  obtain ⟨rb', ro', X, BS, hX, r⟩ := h
  exact ⟨rb', ro', X, BS, by omega, r⟩

theorem InSt.out {w wr : World} {NB base : Nat} {rb ro : Option Nat} {E : List Ent} {A T D U c m L : Nat} {v : Value} (h : InSt w NB base rb ro E A T D U c m L v wr) : GrowSt w NB base rb ro E A T D U c wr := by
  obtain ⟨rb', ro', X, BS, hX, s1, s2, xn, C, _⟩ := h
  exact ⟨rb', ro', X, BS, hX, s1, s2, xn, C⟩

theorem InSt.add {w wC wD wE wF wG : World} {NB base : Nat} {rb ro rb' ro' : Option Nat} {E X : List Ent} {A T D U c m L : Nat} {v : Value} (BS : BookSt wC NB base rb' ro' (E ++ X) A T D U) (hX : X.length ≤ c) (s1 : RowStep w rb rb') (s2 : RowStep w ro ro') (xn : ∀ e ∈ X, ∀ g, e.v.ownBlock = some g → w.heap.size ≤ g) (C : Chg (fun k => k = NB ∨ rb = some k ∨ ro = some k) w wC)
    (hv : wC.ownsRow base 5 1 v L (bytesV (marksOf m L))) (hu : ∀ g, v.ownBlock = some g → w.heap.size ≤ g ∧ ∀ e ∈ E ++ X, e.v.ownBlock = some g → e.n ≤ L) (hL : L ≤ 100000) (hm : m ≤ 1000000) {vb' vo' : Value} {c1 c2 : Obj}
    (o1 : wD.ownsRow base 29 1 vb' ((E ++ X).length + 1) ((E ++ X).map Ent.v ++ [v])) (g1 : (wC.alloc c1).grownBy wD rb') (a1 : rb' = vb'.ownBlock ∨ vb'.ownBlock = some (wC.heap.size + 1)) (hE : wE = wD.setCell ⟨NB, 0, none⟩ vb')
    (o2 : wF.ownsRow base 3 1 vo' ((E ++ X).length + 1) (((E ++ X).map fun e => Value.int .i64 (e.m : Int)) ++ [.int .i64 (m : Int)])) (g2 : (wE.alloc c2).grownBy wF ro') (a2 : ro' = vo'.ownBlock ∨ vo'.ownBlock = some (wE.heap.size + 1)) (hG : wG = wF.setCell ⟨NB, 1, none⟩ vo') :
    InSt w NB base rb ro E A T D U (c + 1) m L v wG := by
  obtain ⟨k1, k2, k3, k4⟩ := BS.add ⟨v, L, m⟩ ⟨hv, hL, hm⟩ o1 g1 a1 hE o2 g2 a2 hG
  rw [List.append_assoc] at k1
  have hz := C.size
  refine ⟨_, _, X ++ [⟨v, L, m⟩], k1, by simp; omega, s1.trans hz k2, s2.trans hz k3, fun e he g hg => ?_, ?_, (k1.ok ⟨v, L, m⟩ (by simp)).1, .inr fun g hg => ⟨(hu g hg).1, fun e he hb => ?_⟩⟩
  · simp only [List.mem_append, List.mem_singleton] at he
    rcases he with he | rfl
    · exact xn e he g hg
    · exact (hu g hg).1
  · refine C.trans (k4.mono fun k hk hh => ?_)
    rcases hh with hh | hh | hh
    · exact .inl (.inl hh)
    · rcases s1 with s1 | ⟨g, s1, s3⟩
      · exact .inl (.inr (.inl (s1 ▸ hh)))
      · rw [s1] at hh; simp only [Option.some.injEq] at hh; subst hh; exact .inr s3
    · rcases s2 with s2 | ⟨g, s2, s3⟩
      · exact .inl (.inr (.inr (s2 ▸ hh)))
      · rw [s2] at hh; simp only [Option.some.injEq] at hh; subst hh; exact .inr s3
  · rw [← List.append_assoc] at he
    simp only [List.mem_append, List.mem_singleton] at he
    rcases he with he | rfl
    · exact (hu g hg).2 e (by simpa using he) hb
    · exact Nat.le_refl _

end Go.Proofs.Ytpiiagjfimdflaa

/- The law's Book: the lists that stay empty. -/
import Derived.Test.YtnjcedlbdjidiaaGreatDoorKA
import Derived.Deep.AppendLies
import Derived.Test.YtnjcedlbdjidiaaGreatDoorB1R
import Derived.ArgAppend
/- The Book's marks, its measure, types' sizes. -/
namespace Go.Proofs.YtnjcedlbdjidiaaGreatDoor
open Go.RowKit
open M
set_option linter.unusedVariables false
set_option linter.unusedSimpArgs false

theorem hideB {p : Prop} (h : p) : Hid p := h

/-- Byte k of the mark of list m. -/
def mk (m k : Nat) : Nat := if k % 2 = 0 then 1 + m % 251 else 1 + (7 * m + m / 251) % 251
theorem mk_lt (m k : Nat) : mk m k < 256 := by unfold mk; split <;> omega

theorem cell_newB (w : World) (v : Value) (t : TypeId) (j : Nat) (u : Value) (h : [v][j]? = some u) : (w.alloc (.cells #[v] t)).cell? ((⟨w.heap.size, 0, none⟩ : Addr).add j) = some u := by
  have hn := heap_alloc_new w (.cells #[v] t)
  rw [Addr.add_mid, Nat.zero_add, cell_of_row _ _ _ _ _ _ hn]
  cases j with
  | zero => simpa using h
  | succ j => simp at h

theorem tight_no (NB x U : Nat) (w : World) (hc : w.cell? ⟨NB, 71, none⟩ = some (.int .i64 U)) (hf : w.frozen? ⟨NB, 71, none⟩ = false) (hx : U + x ≤ 16777216) :
    Calls Tryz.prog 44 #[.pointer (some ⟨NB, 0, none⟩), .int .i64 x] w fun e w' => e = .returned (.bool false) ∧ w' = w.setCell ⟨NB, 71, none⟩ (.int .i64 ((U + x : Nat) : Int)) := by
  have h1 : ¬ (16777216 : Int) < (U : Int) + (x : Int) := by omega
  obtain ⟨V, hV⟩ : ∃ V : Nat, (U : Int) + (x : Int) = (V : Int) := ⟨U + x, by omega⟩
  have hV2 : ((U + x : Nat) : Int) = (V : Int) := by omega
  rw [hV2]
  rw [hV] at h1
  have h1' : ¬ 16777216 < V := by omega
  clear hV2 hx
  go_enter Tryz.func44, Tryz.ntmps44
  go_wp2_with (simp only [hV])
  go_ret
  exact ⟨rfl, rfl⟩

theorem tight_yes (NB x U : Nat) (w : World) (hc : w.cell? ⟨NB, 71, none⟩ = some (.int .i64 U)) (hx : 16777216 < U + x) (hx2 : U + x ≤ 1000000000000) :
    Calls Tryz.prog 44 #[.pointer (some ⟨NB, 0, none⟩), .int .i64 x] w fun e w' => e = .returned (.bool true) ∧ w' = w := by
  have h1 : (16777216 : Int) < (U : Int) + (x : Int) := by omega
  go_enter Tryz.func44, Tryz.ntmps44
  go_wp2
  go_ret
  exact ⟨rfl, rfl⟩

theorem infoI : ∃ i, Tryz.prog.info? 3 = some i ∧ i.zero = some (.int .i64 0) ∧ i.size = 1 ∧ i.bytes = 8 := by
  have hz : (Tryz.prog.info? 3).bind (·.zero) = some (.int .i64 0) := by kernel_rfl
  have hs : (Tryz.prog.info? 3).map (·.size) = some 1 := by kernel_rfl
  have hb : (Tryz.prog.info? 3).map (·.bytes) = some 8 := by kernel_rfl
  cases hi : Tryz.prog.info? 3 with
  | none => simp [hi] at hs
  | some i =>
    simp only [hi, Option.bind_some, Option.map_some, Option.some.injEq] at hz hs hb
    exact ⟨i, rfl, hz, hs, hb⟩

end Go.Proofs.YtnjcedlbdjidiaaGreatDoor

/- The law's Book, of any kind: while lists grow, the states. -/
namespace Go.Proofs.YtnjcedlbdjidiaaGreatDoor
open Go.RowKit
open M
set_option linter.unusedVariables false

theorem row_cut {w : World} {base g n cap L : Nat} {t : TypeId} {xs : List Value} {v : Value} {k : Nat} {ys : List Value} (h : w.ownsRow base t 1 (.slice (some ⟨g, 0, none⟩) n cap) n xs) (x : Value) (hL : n ≤ L) (hv : w.ownsRow base t 1 v k ys) (hk : v.ownBlock = some g → k ≤ L) :
    (w.setCell ⟨g, L, none⟩ x).ownsRow base t 1 v k ys := by
  by_cases hg : v.ownBlock = some g
  · have hkL := hk hg
    obtain ⟨h1, h2⟩ := hv
    refine ⟨h1, ?_⟩
    rcases h2 with h2 | ⟨g', cap', cur, rfl, h4, h5, h6, h6b, h7, h8⟩
    · exact .inl h2
    · simp only [Value.ownBlock, Option.some.injEq] at hg
      subst hg
      refine .inr ⟨g', cap', cur.setIfInBounds L x, rfl, h4, ?_, h6, h6b, by simpa using h7, ?_⟩
      · simp only [World.setCell, Array.getElem?_modify, h5]
        simp
      · rw [← h8]
        simp only [Array.toList_setIfInBounds]
        rw [List.take_set]
        rw [List.set_eq_of_length_le]
        simp; omega
  · exact ownsRow_keep hv (fun g' hg' => Below.heap_setCell _ _ _ _ (by show g' ≠ g; intro e; exact hg (e ▸ hg')))

/-- The next one of a row that has room. -/
theorem row_next {w : World} {base g n cap : Nat} {t : TypeId} {xs : List Value} (h : w.ownsRow base t 1 (.slice (some ⟨g, 0, none⟩) n cap) n xs) (x : Value) (hroom : n + 1 ≤ cap) :
    (w.setCell ⟨g, n, none⟩ x).ownsRow base t 1 (.slice (some ⟨g, 0, none⟩) (n + 1) cap) (n + 1) (xs ++ [x]) ∧ (w.cell? ⟨g, n, none⟩).isSome = true ∧ w.frozen? ⟨g, n, none⟩ = false := by
  obtain ⟨h1, h2⟩ := h
  rcases h2 with ⟨h2, _⟩ | ⟨g', cap', cur, h0, h4, h5, h6, h6b, h7, h8⟩
  · simp at h2
  · simp only [Value.slice.injEq, Option.some.injEq, Addr.mk.injEq] at h0
    obtain ⟨⟨rfl, _⟩, _, rfl⟩ := h0
    refine ⟨⟨by simp at h1 ⊢; omega, .inr ⟨g, cap, cur.setIfInBounds n x, rfl, h4, ?_, hroom, h6b, by simpa using h7, ?_⟩⟩, ?_, frozen_of_row _ _ _ _ _ h5⟩
    · simp only [World.setCell, Array.getElem?_modify, h5]
      simp
    · have hn : n < cur.size := by omega
      simp only [Array.toList_setIfInBounds, Nat.mul_one] at h8 ⊢
      rw [List.take_add_one, List.take_set, List.set_eq_of_length_le (by simp; omega), h8]
      congr 1
      simp [hn]
    · rw [cell_of_row _ _ _ _ _ _ h5, Array.getElem?_eq_getElem (by omega)]; rfl

theorem NbKeep.of {K : Kd} {S : Nat → Prop} {NB : Nat} {w w' : World} (hc : Chg S w w') (hl : NB < w.heap.size) (hs : ¬ S NB) : NbKeep K NB w w' ∧ NbFz NB w w' :=
  ⟨fun j _ _ => World.cell?_of_block (hc.block NB hl hs), fun j => World.frozen?_of_block (a := ⟨NB, j, none⟩) (hc.block NB hl hs)⟩
theorem NbKeep.trans {K : Kd} {NB : Nat} {u v w : World} (h : NbKeep K NB u v) (k : NbKeep K NB v w) : NbKeep K NB u w := fun j h0 h1 => (k j h0 h1).trans (h j h0 h1)
theorem NbFz.trans {NB : Nat} {u v w : World} (h : NbFz NB u v) (k : NbFz NB v w) : NbFz NB u w := fun j => (k j).trans (h j)

theorem KSt.NBlt {K : Kd} {w : World} {NB base : Nat} {rb ro : Option Nat} {E : List Ent} {A : Nat} (h : KSt K w NB base rb ro E A) : NB < w.heap.size := block_lt_of_cell h.at_

/-- Something else changes. -/
theorem KSt.chg {K : Kd} {S : Nat → Prop} {w w' : World} {NB base : Nat} {rb ro : Option Nat} {E : List Ent} {A : Nat} (h : KSt K w NB base rb ro E A) (hc : Chg S w w') (hs : ∀ k, BkB rb ro E k → ¬ S k) (hN : ¬ S NB) : KSt K w' NB base rb ro E A := by
  have e := hc.block NB h.NBlt hN
  exact h.keep hc hs fun i _ => ⟨World.cell?_of_block e, World.frozen?_of_block (a := ⟨NB, _, none⟩) e⟩

theorem KSt.inside {K : Kd} {w : World} {NB base : Nat} {rb ro : Option Nat} {E : List Ent} {A : Nat} (h : KSt K w NB base rb ro E A) (hK2 : K.te ≠ K.tl) (hK3 : K.te ≠ 3) {g L cap : Nat} {xs : List Value} (hv : w.ownsRow base K.te 1 (.slice (some ⟨g, 0, none⟩) L cap) L xs) (hu : ∀ e ∈ E, e.v.ownBlock = some g → e.n ≤ L) (x : Value) :
    KSt K (w.setCell ⟨g, L, none⟩ x) NB base rb ro E A := by
  obtain ⟨vb, b1, b2, b3⟩ := h.rows
  obtain ⟨vo, o1, o2, o3⟩ := h.nums
  have hC : Chg (fun k => k = g) w (w.setCell ⟨g, L, none⟩ x) := Chg.set _ _ _ _ rfl
  have hgb : base ≤ g := (row_ge hv rfl).1
  have hn : ¬ NB = g := by have := h.le.2.1; omega
  refine ⟨⟨vb, cell_chg b1 hC hn, ownsRow_chg b2 hC (fun g' hg hh => by subst hh; exact rows_ne hv b2 hK2 rfl hg), b3⟩, ⟨vo, cell_chg o1 hC hn, ownsRow_chg o2 hC (fun g' hg hh => by subst hh; exact rows_ne hv o2 hK3 rfl hg), o3⟩,
    cell_chg h.at_ hC hn, fun i hi => by rw [frozen_setCell]; exact h.fz i hi, fun e he => ?_, h.le⟩
  obtain ⟨k1, k2, k3⟩ := h.ok e he
  exact ⟨row_cut hv x (Nat.le_refl _) k1 (hu e he), k2, k3⟩

/-- While the lists of a kind grow: X are new ones. -/
structure GC (K : Kd) (w : World) (NB base : Nat) (rb ro : Option Nat) (E : List Ent) (A c : Nat) (rb' ro' : Option Nat) (X : List Ent) (wr : World) : Prop where
  st : KSt K wr NB base rb' ro' (E ++ X) A
  len : X.length ≤ c
  s1 : RStep w rb rb'
  s2 : RStep w ro ro'
  new : ∀ e ∈ X, ∀ g, e.v.ownBlock = some g → w.heap.size ≤ g
  chg : Chg (fun k => k = NB ∨ rb = some k ∨ ro = some k) w wr
  nbk : NbKeep K NB w wr
  nfz : NbFz NB w wr

theorem GC.start {K : Kd} {w : World} {NB base : Nat} {rb ro : Option Nat} {E : List Ent} {A c : Nat} (h : KSt K w NB base rb ro E A) : GC K w NB base rb ro E A c rb ro [] w :=
  ⟨by rw [List.append_nil]; exact h, by simp, .inl rfl, .inl rfl, fun e he => by simp at he, Chg.refl _ _, fun _ _ _ => rfl, fun _ => rfl⟩

def GrowSt (K : Kd) (w : World) (NB base : Nat) (rb ro : Option Nat) (E : List Ent) (A c : Nat) (wr : World) : Prop := ∃ rb' ro' X, GC K w NB base rb ro E A c rb' ro' X wr

/-- While one list grows: v is as long as L; it has room only where no longer list lies. -/
def InSt (K : Kd) (w : World) (NB base : Nat) (rb ro : Option Nat) (E : List Ent) (A c m L : Nat) (v : Value) (wr : World) : Prop :=
  ∃ rb' ro' X, GC K w NB base rb ro E A c rb' ro' X wr ∧ wr.ownsRow base K.te 1 v L (K.marks m L) ∧ ((∃ p, v = .slice p L L) ∨ ∀ g, v.ownBlock = some g → w.heap.size ≤ g ∧ ∀ e ∈ E ++ X, e.v.ownBlock = some g → e.n ≤ L)

/-- The same, where it lies apart. -/
def InR (K : Kd) (w : World) (NB base : Nat) (rb ro : Option Nat) (E : List Ent) (A c m L : Nat) (v : Value) (wr : World) : Prop :=
  ∃ rb' ro' X, GC K w NB base rb ro E A c rb' ro' X wr ∧ wr.ownsRow base K.te 1 v L (K.marks m L) ∧ ∀ g, v.ownBlock = some g → w.heap.size ≤ g ∧ ∀ e ∈ E ++ X, e.v.ownBlock = some g → e.n ≤ L

theorem InR.st {K : Kd} {w wr : World} {NB base : Nat} {rb ro : Option Nat} {E : List Ent} {A c m L : Nat} {v : Value} (h : InR K w NB base rb ro E A c m L v wr) : InSt K w NB base rb ro E A c m L v wr := by
  obtain ⟨rb', ro', X, h1, h7, h8⟩ := h
  exact ⟨rb', ro', X, h1, h7, .inr h8⟩

theorem GC.below {K : Kd} {w wr wN : World} {NB base : Nat} {rb ro rb' ro' : Option Nat} {E X : List Ent} {A c : Nat} (h : GC K w NB base rb ro E A c rb' ro' X wr) (hB : Below wr.heap.size wr wN) : GC K w NB base rb ro E A c rb' ro' X wN := by
  have hC : Chg (fun _ => False) wr wN := Chg.below hB
  obtain ⟨n1, n2⟩ := NbKeep.of (K := K) hC h.st.NBlt (fun h => h)
  exact ⟨h.st.chg hC (fun _ _ h => h) (fun h => h), h.len, h.s1, h.s2, h.new, h.chg.trans' (Chg.below hB), h.nbk.trans n1, h.nfz.trans n2⟩

theorem InSt.room {K : Kd} {w wr : World} {NB base : Nat} {rb ro : Option Nat} {E : List Ent} {A c m L g cap : Nat} {o : Obj} (hK2 : K.te ≠ K.tl) (hK3 : K.te ≠ 3) (h : InSt K w NB base rb ro E A c m L (.slice (some ⟨g, 0, none⟩) L cap) wr) (hroom : L + 1 ≤ cap) :
    InR K w NB base rb ro E A c m (L + 1) (.slice (some ⟨g, 0, none⟩) (L + 1) cap) ((wr.alloc o).setCell ⟨g, L, none⟩ (K.mv m L)) := by
  obtain ⟨rb', ro', X, G, hv, hu⟩ := h
  have hB : Below wr.heap.size wr (wr.alloc o) := (Below.refl _ _).alloc (Nat.le_refl _) _
  have G1 := G.below hB
  have hv1 : (wr.alloc o).ownsRow base K.te 1 (.slice (some ⟨g, 0, none⟩) L cap) L (K.marks m L) := hv.alloc _
  obtain ⟨hg1, hg2⟩ : w.heap.size ≤ g ∧ ∀ e ∈ E ++ X, e.v.ownBlock = some g → e.n ≤ L := by
    rcases hu with ⟨p, hp⟩ | hu
    · simp only [Value.slice.injEq] at hp; omega
    · exact hu g rfl
  have hgb : base ≤ g := (row_ge hv1 rfl).1
  have hNg : ¬ NB = g := by have := G.st.le.2.1; omega
  have hC : Chg (fun k => k = g) (wr.alloc o) ((wr.alloc o).setCell ⟨g, L, none⟩ (K.mv m L)) := Chg.set _ _ _ _ rfl
  obtain ⟨n1, n2⟩ := NbKeep.of (K := K) hC G1.st.NBlt hNg
  refine ⟨rb', ro', X, ⟨G1.st.inside hK2 hK3 hv1 hg2 _, G1.len, G1.s1, G1.s2, G1.new, ?_, G1.nbk.trans n1, G1.nfz.trans n2⟩, ?_, fun g' hg' => ?_⟩
  · exact G1.chg.trans (Chg.set _ _ _ _ (.inr hg1))
  · rw [Kd.marks_succ]; exact (row_next hv1 (K.mv m L) hroom).1
  · simp only [Value.ownBlock, Option.some.injEq] at hg'
    subst hg'
    exact ⟨hg1, fun e he hb => by have := hg2 e he hb; omega⟩

theorem InSt.full {K : Kd} {w wr wN : World} {NB base : Nat} {rb ro : Option Nat} {E : List Ent} {A c m L : Nat} {v v' : Value} {o : Obj} (h : InSt K w NB base rb ro E A c m L v wr) (hbase : base ≤ w.heap.size)
    (ho : wN.ownsRow (wr.heap.size + 1) K.te 1 v' (L + 1) (K.marks m L ++ [K.mv m L])) (hg : (wr.alloc o).grownBy wN none) :
    InR K w NB base rb ro E A c m (L + 1) v' wN := by
  obtain ⟨rb', ro', X, G, hv, hu⟩ := h
  have hB : Below wr.heap.size wr wN := ((Below.refl _ _).alloc (Nat.le_refl _) _).trans (grown_below hg (fun g hg => by simp at hg) (by simp))
  have hz := G.chg.size
  refine ⟨rb', ro', X, G.below hB, ?_, fun g' hg' => ?_⟩
  · rw [Kd.marks_succ]
    refine ⟨ho.1, ?_⟩
    rcases ho.2 with h2 | ⟨g', cap', cur, h0, h4, h5⟩
    · exact .inl h2
    · exact .inr ⟨g', cap', cur, h0, by omega, h5⟩
  · have hge := (ho.lt g' hg').1
    refine ⟨by omega, fun e he hb => ?_⟩
    have := ((G.st.ok e he).1.lt g' hb).2
    omega

theorem InSt.more {K : Kd} {w wr : World} {NB base : Nat} {rb ro : Option Nat} {E : List Ent} {A c c' m L : Nat} {v : Value} (h : InSt K w NB base rb ro E A c m L v wr) (hc : c ≤ c') : InSt K w NB base rb ro E A c' m L v wr := by
  obtain ⟨rb', ro', X, G, r⟩ := h
  exact ⟨rb', ro', X, ⟨G.st, by have := G.len; omega, G.s1, G.s2, G.new, G.chg, G.nbk, G.nfz⟩, r⟩

theorem InSt.out {K : Kd} {w wr : World} {NB base : Nat} {rb ro : Option Nat} {E : List Ent} {A c m L : Nat} {v : Value} (h : InSt K w NB base rb ro E A c m L v wr) : GrowSt K w NB base rb ro E A c wr := by
  obtain ⟨rb', ro', X, G, _⟩ := h
  exact ⟨rb', ro', X, G⟩

theorem InSt.add {K : Kd} {w wC wD wE wF wG : World} {NB base : Nat} {rb ro rb' ro' : Option Nat} {E X : List Ent} {A c m L : Nat} {v : Value} (hK1 : K.tl ≠ 3) (hK2 : K.te ≠ K.tl) (hK3 : K.te ≠ 3) (G : GC K w NB base rb ro E A c rb' ro' X wC)
    (hv : wC.ownsRow base K.te 1 v L (K.marks m L)) (hu : ∀ g, v.ownBlock = some g → w.heap.size ≤ g ∧ ∀ e ∈ E ++ X, e.v.ownBlock = some g → e.n ≤ L) (hL : L ≤ 100000) (hm : m ≤ 1000000) {vb' vo' : Value} {c1 c2 : Obj}
    (o1 : wD.ownsRow base K.tl 1 vb' ((E ++ X).length + 1) ((E ++ X).map Ent.v ++ [v])) (g1 : (wC.alloc c1).grownBy wD rb') (a1 : rb' = vb'.ownBlock ∨ vb'.ownBlock = some (wC.heap.size + 1)) (hE : wE = wD.setCell ⟨NB, 3 * K.c, none⟩ vb')
    (o2 : wF.ownsRow base 3 1 vo' ((E ++ X).length + 1) (numsV (E ++ X) ++ [.int .i64 (m : Int)])) (g2 : (wE.alloc c2).grownBy wF ro') (a2 : ro' = vo'.ownBlock ∨ vo'.ownBlock = some (wE.heap.size + 1)) (hG : wG = wF.setCell ⟨NB, 3 * K.c + 1, none⟩ vo') :
    InSt K w NB base rb ro E A (c + 1) m L v wG := by
  obtain ⟨k1, k2, k3, k4, k5, k6⟩ := G.st.add hK1 hK2 hK3 ⟨v, L, m⟩ ⟨hv, hL, hm⟩ o1 g1 a1 hE o2 g2 a2 hG
  rw [List.append_assoc] at k1
  have hz := G.chg.size
  have hX := G.len
  refine ⟨_, _, X ++ [⟨v, L, m⟩], ⟨k1, by simp; omega, G.s1.trans hz k2, G.s2.trans hz k3, fun e he g hg => ?_, ?_, G.nbk.trans k5, G.nfz.trans k6⟩, (k1.ok ⟨v, L, m⟩ (by simp)).1, .inr fun g hg => ⟨(hu g hg).1, fun e he hb => ?_⟩⟩
  · simp only [List.mem_append, List.mem_singleton] at he
    rcases he with he | rfl
    · exact G.new e he g hg
    · exact (hu g hg).1
  · refine G.chg.trans (k4.mono fun k hk hh => ?_)
    rcases hh with hh | hh | hh
    · exact .inl (.inl hh)
    · rcases G.s1 with s1 | ⟨g, s1, s3⟩
      · exact .inl (.inr (.inl (s1 ▸ hh)))
      · rw [s1] at hh; simp only [Option.some.injEq] at hh; subst hh; exact .inr s3
    · rcases G.s2 with s2 | ⟨g, s2, s3⟩
      · exact .inl (.inr (.inr (s2 ▸ hh)))
      · rw [s2] at hh; simp only [Option.some.injEq] at hh; subst hh; exact .inr s3
  · rw [← List.append_assoc] at he
    simp only [List.mem_append, List.mem_singleton] at he
    rcases he with he | rfl
    · exact (hu g hg).2 e (by simpa using he) hb
    · exact Nat.le_refl _

theorem KSt.setA {K : Kd} {w : World} {NB base : Nat} {rb ro : Option Nat} {E : List Ent} {A : Nat} (h : KSt K w NB base rb ro E A) (A' : Nat) (hA : A' ≤ E.length) : KSt K (w.setCell ⟨NB, 3 * K.c + 2, none⟩ (.int .i64 (A' : Int))) NB base rb ro E A' := by
  obtain ⟨vb, b1, b2, b3⟩ := h.rows
  obtain ⟨vo, o1, o2, o3⟩ := h.nums
  have hb := h.le.2.1
  exact ⟨⟨vb, by rw [cell_setCell_ne _ _ _ _ _ (by omega)]; exact b1, ownsRow_setOther b2 _ _ _ hb, b3⟩, ⟨vo, by rw [cell_setCell_ne _ _ _ _ _ (by omega)]; exact o1, ownsRow_setOther o2 _ _ _ hb, o3⟩, cell_setCell_eq _ _ _ _ _ h.at_, fun i hi => by rw [frozen_setCell]; exact h.fz i hi,
    fun e he => ⟨ownsRow_setOther (h.ok e he).1 _ _ _ hb, (h.ok e he).2⟩, hA, h.le.2⟩

/-- Behind a kind's growing: at most q new ones for each. -/
def GrownPost (K : Kd) (w : World) (NB base : Nat) (rb ro : Option Nat) (E : List Ent) (A q : Nat) (w' : World) : Prop :=
  ∃ rb' ro' X, KSt K w' NB base rb' ro' (E ++ X) (E ++ X).length ∧ X.length ≤ q * (E.length - A) ∧ RStep w rb rb' ∧ RStep w ro ro' ∧ (∀ e ∈ X, ∀ g, e.v.ownBlock = some g → w.heap.size ≤ g) ∧ Chg (fun k => k = NB ∨ rb = some k ∨ ro = some k) w w' ∧
    (∀ j, j ≠ 3 * K.c → j ≠ 3 * K.c + 1 → j ≠ 3 * K.c + 2 → w'.cell? ⟨NB, j, none⟩ = w.cell? ⟨NB, j, none⟩) ∧ NbFz NB w w'

theorem GC.done {K : Kd} {w wr : World} {NB base : Nat} {rb ro rb' ro' : Option Nat} {E X : List Ent} {A q : Nat} (h : GC K w NB base rb ro E A (q * (E.length - A)) rb' ro' X wr) : GrownPost K w NB base rb ro E A q (wr.setCell ⟨NB, 3 * K.c + 2, none⟩ (.int .i64 (((E ++ X).length : Nat) : Int))) :=
  ⟨rb', ro', X, h.st.setA _ (Nat.le_refl _), h.len, h.s1, h.s2, h.new, h.chg.trans' (Chg.set _ _ _ _ (.inl rfl)), fun j h0 h1 h2 => by rw [cell_setCell_ne _ _ _ _ _ h2]; exact h.nbk j h0 h1, fun j => by rw [frozen_setCell]; exact h.nfz j⟩

end Go.Proofs.YtnjcedlbdjidiaaGreatDoor

namespace Go.Proofs.YtnjcedlbdjidiaaGreatDoor
open Go.RowKit
open M
set_option linter.unusedVariables false

theorem setCell_same (w : World) (b i : Nat) (v : Value) (h : w.cell? ⟨b, i, none⟩ = some v) : w.setCell ⟨b, i, none⟩ v = w := by
  obtain ⟨heap, _⟩ := w
  simp only [World.setCell, World.cell?] at h ⊢
  congr 1
  apply Array.ext_getElem?
  intro k
  rw [Array.getElem?_modify]
  by_cases hk : b = k
  · subst hk
    rw [if_pos rfl]
    cases hb : heap[b]? with
    | none => rfl
    | some o =>
      rw [hb] at h
      cases o <;> simp at h ⊢
      rename_i c e f
      apply Array.ext_getElem?
      intro j
      rw [Array.getElem?_setIfInBounds]
      split
      · rename_i hj
        subst hj
        split
        · exact h.symm
        · rename_i hlt
          rw [Array.getElem?_eq_none (by omega)] at h; simp at h
      · rfl
  · rw [if_neg hk]

/-- The Book's lists of the kinds that are not K are nil. -/
structure BookNil (K : Nat → Bool) (w : World) (NB : Nat) : Prop where
  nils : ∀ k, k < 23 → K k = false → w.cell? ⟨NB, 3 * k, none⟩ = some (.slice none 0 0) ∧ w.cell? ⟨NB, 3 * k + 1, none⟩ = some (.slice none 0 0) ∧ w.cell? ⟨NB, 3 * k + 2, none⟩ = some (.int .i64 0)
  fz : ∀ j, j < 72 → w.frozen? ⟨NB, j, none⟩ = false

set_option maxRecDepth 100000 in
set_option maxHeartbeats 4000000 in
theorem kept_nil (K : Nat → Bool) (NB : Nat) (w : World) (h : BookNil K w NB) (k2 : K 2 = false) (k3 : K 3 = false) (k4 : K 4 = false) (k5 : K 5 = false) : Calls Tryz.prog 57 #[.pointer (some ⟨NB, 0, none⟩)] w fun e w' => e = .returned (.bool true) ∧ w' = w := by
  have c6 := (h.nils 2 (by omega) k2).1
  have c9 := (h.nils 3 (by omega) k3).1
  have c12 := (h.nils 4 (by omega) k4).1
  have c15 := (h.nils 5 (by omega) k5).1
  clear h k2 k3 k4 k5
  go_enter Tryz.func57, Tryz.ntmps57
  go_wp2
  go_loopw [3] (fun t wx => t = .int .i64 0 ∧ wx = w) (fun _ _ => 0)
  case atStart => exact ⟨rfl, rfl⟩
  case round =>
    obtain ⟨rfl, hw⟩ := hrel
    subst hw
    go_wp2_with fail
    go_loopw [5] (fun t wx => t = .int .i64 0 ∧ wx = wr) (fun _ _ => 0)
    case atStart => exact ⟨rfl, rfl⟩
    case round =>
      obtain ⟨rfl, hw⟩ := hrel
      subst hw
      go_wp2_with fail
      go_loopw [7] (fun t wx => t = .int .i64 0 ∧ wx = wr) (fun _ _ => 0)
      case atStart => exact ⟨rfl, rfl⟩
      case round =>
        obtain ⟨rfl, hw⟩ := hrel
        subst hw
        go_wp2_with fail
        go_loopw [9] (fun t wx => t = .int .i64 0 ∧ wx = wr) (fun _ _ => 0)
        case atStart => exact ⟨rfl, rfl⟩
        case round =>
          obtain ⟨rfl, hw⟩ := hrel
          subst hw
          go_wp2_with fail
          go_ret
          exact ⟨rfl, rfl⟩

set_option maxRecDepth 100000 in
set_option maxHeartbeats 4000000 in
theorem told_nil (K : Nat → Bool) (NB : Nat) (w : World) (h : BookNil K w NB) (k6 : K 6 = false) (k7 : K 7 = false) (k8 : K 8 = false) (k9 : K 9 = false) : Calls Tryz.prog 58 #[.pointer (some ⟨NB, 0, none⟩)] w fun e w' => e = .returned (.bool true) ∧ w' = w := by
  have c18 := (h.nils 6 (by omega) k6).1
  have c21 := (h.nils 7 (by omega) k7).1
  have c24 := (h.nils 8 (by omega) k8).1
  have c27 := (h.nils 9 (by omega) k9).1
  clear h k6 k7 k8 k9
  go_enter Tryz.func58, Tryz.ntmps58
  go_wp2
  go_loopw [3] (fun t wx => t = .int .i64 0 ∧ wx = w) (fun _ _ => 0)
  case atStart => exact ⟨rfl, rfl⟩
  case round =>
    obtain ⟨rfl, hw⟩ := hrel
    subst hw
    go_wp2_with fail
    go_loopw [5] (fun t wx => t = .int .i64 0 ∧ wx = wr) (fun _ _ => 0)
    case atStart => exact ⟨rfl, rfl⟩
    case round =>
      obtain ⟨rfl, hw⟩ := hrel
      subst hw
      go_wp2_with fail
      go_loopw [7] (fun t wx => t = .int .i64 0 ∧ wx = wr) (fun _ _ => 0)
      case atStart => exact ⟨rfl, rfl⟩
      case round =>
        obtain ⟨rfl, hw⟩ := hrel
        subst hw
        go_wp2_with fail
        go_loopw [9] (fun t wx => t = .int .i64 0 ∧ wx = wr) (fun _ _ => 0)
        case atStart => exact ⟨rfl, rfl⟩
        case round =>
          obtain ⟨rfl, hw⟩ := hrel
          subst hw
          go_wp2_with fail
          go_ret
          exact ⟨rfl, rfl⟩

set_option maxRecDepth 100000 in
set_option maxHeartbeats 4000000 in
theorem held_nil (K : Nat → Bool) (NB : Nat) (w : World) (h : BookNil K w NB) (k10 : K 10 = false) (k11 : K 11 = false) (k12 : K 12 = false) (k13 : K 13 = false) : Calls Tryz.prog 59 #[.pointer (some ⟨NB, 0, none⟩)] w fun e w' => e = .returned (.bool true) ∧ w' = w := by
  have c30 := (h.nils 10 (by omega) k10).1
  have c33 := (h.nils 11 (by omega) k11).1
  have c36 := (h.nils 12 (by omega) k12).1
  have c39 := (h.nils 13 (by omega) k13).1
  clear h k10 k11 k12 k13
  go_enter Tryz.func59, Tryz.ntmps59
  go_wp2
  go_loopw [3] (fun t wx => t = .int .i64 0 ∧ wx = w) (fun _ _ => 0)
  case atStart => exact ⟨rfl, rfl⟩
  case round =>
    obtain ⟨rfl, hw⟩ := hrel
    subst hw
    go_wp2_with fail
    go_loopw [5] (fun t wx => t = .int .i64 0 ∧ wx = wr) (fun _ _ => 0)
    case atStart => exact ⟨rfl, rfl⟩
    case round =>
      obtain ⟨rfl, hw⟩ := hrel
      subst hw
      go_wp2_with fail
      go_loopw [7] (fun t wx => t = .int .i64 0 ∧ wx = wr) (fun _ _ => 0)
      case atStart => exact ⟨rfl, rfl⟩
      case round =>
        obtain ⟨rfl, hw⟩ := hrel
        subst hw
        go_wp2_with fail
        go_loopw [11] (fun t wx => t = .int .i64 0 ∧ wx = wr) (fun _ _ => 0)
        case atStart => exact ⟨rfl, rfl⟩
        case round =>
          obtain ⟨rfl, hw⟩ := hrel
          subst hw
          go_wp2_with fail
          go_ret
          exact ⟨rfl, rfl⟩

set_option maxRecDepth 100000 in
set_option maxHeartbeats 4000000 in
theorem sent_nil (K : Nat → Bool) (NB : Nat) (w : World) (h : BookNil K w NB) (k14 : K 14 = false) (k15 : K 15 = false) (k16 : K 16 = false) (k17 : K 17 = false) : Calls Tryz.prog 60 #[.pointer (some ⟨NB, 0, none⟩)] w fun e w' => e = .returned (.bool true) ∧ w' = w := by
  have c42 := (h.nils 14 (by omega) k14).1
  have c45 := (h.nils 15 (by omega) k15).1
  have c48 := (h.nils 16 (by omega) k16).1
  have c51 := (h.nils 17 (by omega) k17).1
  clear h k14 k15 k16 k17
  go_enter Tryz.func60, Tryz.ntmps60
  go_wp2
  go_loopw [3] (fun t wx => t = .int .i64 0 ∧ wx = w) (fun _ _ => 0)
  case atStart => exact ⟨rfl, rfl⟩
  case round =>
    obtain ⟨rfl, hw⟩ := hrel
    subst hw
    go_wp2_with fail
    go_loopw [7] (fun t wx => t = .int .i64 0 ∧ wx = wr) (fun _ _ => 0)
    case atStart => exact ⟨rfl, rfl⟩
    case round =>
      obtain ⟨rfl, hw⟩ := hrel
      subst hw
      go_wp2_with fail
      go_loopw [11] (fun t wx => t = .int .i64 0 ∧ wx = wr) (fun _ _ => 0)
      case atStart => exact ⟨rfl, rfl⟩
      case round =>
        obtain ⟨rfl, hw⟩ := hrel
        subst hw
        go_wp2_with fail
        go_loopw [15] (fun t wx => t = .int .i64 0 ∧ wx = wr) (fun _ _ => 0)
        case atStart => exact ⟨rfl, rfl⟩
        case round =>
          obtain ⟨rfl, hw⟩ := hrel
          subst hw
          go_wp2_with fail
          go_ret
          exact ⟨rfl, rfl⟩

set_option maxRecDepth 100000 in
set_option maxHeartbeats 4000000 in
theorem given_nil (K : Nat → Bool) (NB : Nat) (w : World) (h : BookNil K w NB) (k18 : K 18 = false) (k19 : K 19 = false) (k20 : K 20 = false) (k21 : K 21 = false) : Calls Tryz.prog 61 #[.pointer (some ⟨NB, 0, none⟩)] w fun e w' => e = .returned (.bool true) ∧ w' = w := by
  have c54 := (h.nils 18 (by omega) k18).1
  have c57 := (h.nils 19 (by omega) k19).1
  have c60 := (h.nils 20 (by omega) k20).1
  have c63 := (h.nils 21 (by omega) k21).1
  clear h k18 k19 k20 k21
  go_enter Tryz.func61, Tryz.ntmps61
  go_wp2
  go_loopw [3] (fun t wx => t = .int .i64 0 ∧ wx = w) (fun _ _ => 0)
  case atStart => exact ⟨rfl, rfl⟩
  case round =>
    obtain ⟨rfl, hw⟩ := hrel
    subst hw
    go_wp2_with fail
    go_loopw [7] (fun t wx => t = .int .i64 0 ∧ wx = wr) (fun _ _ => 0)
    case atStart => exact ⟨rfl, rfl⟩
    case round =>
      obtain ⟨rfl, hw⟩ := hrel
      subst hw
      go_wp2_with fail
      go_loopw [11] (fun t wx => t = .int .i64 0 ∧ wx = wr) (fun _ _ => 0)
      case atStart => exact ⟨rfl, rfl⟩
      case round =>
        obtain ⟨rfl, hw⟩ := hrel
        subst hw
        go_wp2_with fail
        go_loopw [15] (fun t wx => t = .int .i64 0 ∧ wx = wr) (fun _ _ => 0)
        case atStart => exact ⟨rfl, rfl⟩
        case round =>
          obtain ⟨rfl, hw⟩ := hrel
          subst hw
          go_wp2_with fail
          go_ret
          exact ⟨rfl, rfl⟩

set_option maxRecDepth 100000 in
set_option maxHeartbeats 4000000 in
theorem seen_nil (K : Nat → Bool) (NB : Nat) (w : World) (h : BookNil K w NB) (k22 : K 22 = false) : Calls Tryz.prog 62 #[.pointer (some ⟨NB, 0, none⟩)] w fun e w' => e = .returned (.bool true) ∧ w' = w := by
  have c66 := (h.nils 22 (by omega) k22).1
  clear h k22
  go_enter Tryz.func62, Tryz.ntmps62
  go_wp2
  go_loopw [3] (fun t wx => t = .int .i64 0 ∧ wx = w) (fun _ _ => 0)
  case atStart => exact ⟨rfl, rfl⟩
  case round =>
    obtain ⟨rfl, hw⟩ := hrel
    subst hw
    go_wp2_with fail
    go_ret
    exact ⟨rfl, rfl⟩

set_option maxRecDepth 100000 in
set_option maxHeartbeats 4000000 in
theorem growRows_nil (K : Nat → Bool) (NB : Nat) (w : World) (h : BookNil K w NB) (hk : K 1 = false) : Calls Tryz.prog 64 #[.pointer (some ⟨NB, 0, none⟩)] w fun e w' => e = .returned (.tuple #[]) ∧ w' = w := by
  have c0 := (h.nils 1 (by omega) hk).1
  have c2 := (h.nils 1 (by omega) hk).2.2
  have f2 := h.fz 5 (by omega)
  clear h hk
  go_enter Tryz.func64, Tryz.ntmps64
  go_wp2
  go_loopw [3] (fun t wx => t = .int .i64 0 ∧ wx = w) (fun _ _ => 0)
  case atStart => exact ⟨rfl, rfl⟩
  case round =>
    obtain ⟨rfl, hw⟩ := hrel
    subst hw
    go_wp2_with fail
    go_end0
    exact ⟨rfl, setCell_same _ _ _ _ c2⟩

set_option maxRecDepth 100000 in
set_option maxHeartbeats 4000000 in
theorem growTexts_nil (K : Nat → Bool) (NB : Nat) (w : World) (h : BookNil K w NB) (hk : K 2 = false) : Calls Tryz.prog 65 #[.pointer (some ⟨NB, 0, none⟩)] w fun e w' => e = .returned (.tuple #[]) ∧ w' = w := by
  have c0 := (h.nils 2 (by omega) hk).1
  have c2 := (h.nils 2 (by omega) hk).2.2
  have f2 := h.fz 8 (by omega)
  clear h hk
  go_enter Tryz.func65, Tryz.ntmps65
  go_wp2
  go_loopw [3] (fun t wx => t = .int .i64 0 ∧ wx = w) (fun _ _ => 0)
  case atStart => exact ⟨rfl, rfl⟩
  case round =>
    obtain ⟨rfl, hw⟩ := hrel
    subst hw
    go_wp2_with fail
    go_end0
    exact ⟨rfl, setCell_same _ _ _ _ c2⟩

set_option maxRecDepth 100000 in
set_option maxHeartbeats 4000000 in
theorem growInts_nil (K : Nat → Bool) (NB : Nat) (w : World) (h : BookNil K w NB) (hk : K 3 = false) : Calls Tryz.prog 66 #[.pointer (some ⟨NB, 0, none⟩)] w fun e w' => e = .returned (.tuple #[]) ∧ w' = w := by
  have c0 := (h.nils 3 (by omega) hk).1
  have c2 := (h.nils 3 (by omega) hk).2.2
  have f2 := h.fz 11 (by omega)
  clear h hk
  go_enter Tryz.func66, Tryz.ntmps66
  go_wp2
  go_loopw [3] (fun t wx => t = .int .i64 0 ∧ wx = w) (fun _ _ => 0)
  case atStart => exact ⟨rfl, rfl⟩
  case round =>
    obtain ⟨rfl, hw⟩ := hrel
    subst hw
    go_wp2_with fail
    go_end0
    exact ⟨rfl, setCell_same _ _ _ _ c2⟩

set_option maxRecDepth 100000 in
set_option maxHeartbeats 4000000 in
theorem growWords_nil (K : Nat → Bool) (NB : Nat) (w : World) (h : BookNil K w NB) (hk : K 4 = false) : Calls Tryz.prog 67 #[.pointer (some ⟨NB, 0, none⟩)] w fun e w' => e = .returned (.tuple #[]) ∧ w' = w := by
  have c0 := (h.nils 4 (by omega) hk).1
  have c2 := (h.nils 4 (by omega) hk).2.2
  have f2 := h.fz 14 (by omega)
  clear h hk
  go_enter Tryz.func67, Tryz.ntmps67
  go_wp2
  go_loopw [3] (fun t wx => t = .int .i64 0 ∧ wx = w) (fun _ _ => 0)
  case atStart => exact ⟨rfl, rfl⟩
  case round =>
    obtain ⟨rfl, hw⟩ := hrel
    subst hw
    go_wp2_with fail
    go_end0
    exact ⟨rfl, setCell_same _ _ _ _ c2⟩

set_option maxRecDepth 100000 in
set_option maxHeartbeats 4000000 in
theorem growSmalls_nil (K : Nat → Bool) (NB : Nat) (w : World) (h : BookNil K w NB) (hk : K 5 = false) : Calls Tryz.prog 68 #[.pointer (some ⟨NB, 0, none⟩)] w fun e w' => e = .returned (.tuple #[]) ∧ w' = w := by
  have c0 := (h.nils 5 (by omega) hk).1
  have c2 := (h.nils 5 (by omega) hk).2.2
  have f2 := h.fz 17 (by omega)
  clear h hk
  go_enter Tryz.func68, Tryz.ntmps68
  go_wp2
  go_loopw [3] (fun t wx => t = .int .i64 0 ∧ wx = w) (fun _ _ => 0)
  case atStart => exact ⟨rfl, rfl⟩
  case round =>
    obtain ⟨rfl, hw⟩ := hrel
    subst hw
    go_wp2_with fail
    go_end0
    exact ⟨rfl, setCell_same _ _ _ _ c2⟩

set_option maxRecDepth 100000 in
set_option maxHeartbeats 4000000 in
theorem growTimes_nil (K : Nat → Bool) (NB : Nat) (w : World) (h : BookNil K w NB) (hk : K 6 = false) : Calls Tryz.prog 69 #[.pointer (some ⟨NB, 0, none⟩)] w fun e w' => e = .returned (.tuple #[]) ∧ w' = w := by
  have c0 := (h.nils 6 (by omega) hk).1
  have c2 := (h.nils 6 (by omega) hk).2.2
  have f2 := h.fz 20 (by omega)
  clear h hk
  go_enter Tryz.func69, Tryz.ntmps69
  go_wp2
  go_loopw [3] (fun t wx => t = .int .i64 0 ∧ wx = w) (fun _ _ => 0)
  case atStart => exact ⟨rfl, rfl⟩
  case round =>
    obtain ⟨rfl, hw⟩ := hrel
    subst hw
    go_wp2_with fail
    go_end0
    exact ⟨rfl, setCell_same _ _ _ _ c2⟩

set_option maxRecDepth 100000 in
set_option maxHeartbeats 4000000 in
theorem growPoints_nil (K : Nat → Bool) (NB : Nat) (w : World) (h : BookNil K w NB) (hk : K 7 = false) : Calls Tryz.prog 70 #[.pointer (some ⟨NB, 0, none⟩)] w fun e w' => e = .returned (.tuple #[]) ∧ w' = w := by
  have c0 := (h.nils 7 (by omega) hk).1
  have c2 := (h.nils 7 (by omega) hk).2.2
  have f2 := h.fz 23 (by omega)
  clear h hk
  go_enter Tryz.func70, Tryz.ntmps70
  go_wp2
  go_loopw [3] (fun t wx => t = .int .i64 0 ∧ wx = w) (fun _ _ => 0)
  case atStart => exact ⟨rfl, rfl⟩
  case round =>
    obtain ⟨rfl, hw⟩ := hrel
    subst hw
    go_wp2_with fail
    go_end0
    exact ⟨rfl, setCell_same _ _ _ _ c2⟩

set_option maxRecDepth 100000 in
set_option maxHeartbeats 4000000 in
theorem growSpans_nil (K : Nat → Bool) (NB : Nat) (w : World) (h : BookNil K w NB) (hk : K 8 = false) : Calls Tryz.prog 71 #[.pointer (some ⟨NB, 0, none⟩)] w fun e w' => e = .returned (.tuple #[]) ∧ w' = w := by
  have c0 := (h.nils 8 (by omega) hk).1
  have c2 := (h.nils 8 (by omega) hk).2.2
  have f2 := h.fz 26 (by omega)
  clear h hk
  go_enter Tryz.func71, Tryz.ntmps71
  go_wp2
  go_loopw [3] (fun t wx => t = .int .i64 0 ∧ wx = w) (fun _ _ => 0)
  case atStart => exact ⟨rfl, rfl⟩
  case round =>
    obtain ⟨rfl, hw⟩ := hrel
    subst hw
    go_wp2_with fail
    go_end0
    exact ⟨rfl, setCell_same _ _ _ _ c2⟩

set_option maxRecDepth 100000 in
set_option maxHeartbeats 4000000 in
theorem growLabels_nil (K : Nat → Bool) (NB : Nat) (w : World) (h : BookNil K w NB) (hk : K 9 = false) : Calls Tryz.prog 72 #[.pointer (some ⟨NB, 0, none⟩)] w fun e w' => e = .returned (.tuple #[]) ∧ w' = w := by
  have c0 := (h.nils 9 (by omega) hk).1
  have c2 := (h.nils 9 (by omega) hk).2.2
  have f2 := h.fz 29 (by omega)
  clear h hk
  go_enter Tryz.func72, Tryz.ntmps72
  go_wp2
  go_loopw [3] (fun t wx => t = .int .i64 0 ∧ wx = w) (fun _ _ => 0)
  case atStart => exact ⟨rfl, rfl⟩
  case round =>
    obtain ⟨rfl, hw⟩ := hrel
    subst hw
    go_wp2_with fail
    go_end0
    exact ⟨rfl, setCell_same _ _ _ _ c2⟩

set_option maxRecDepth 100000 in
set_option maxHeartbeats 4000000 in
theorem growSegments_nil (K : Nat → Bool) (NB : Nat) (w : World) (h : BookNil K w NB) (hk : K 10 = false) : Calls Tryz.prog 73 #[.pointer (some ⟨NB, 0, none⟩)] w fun e w' => e = .returned (.tuple #[]) ∧ w' = w := by
  have c0 := (h.nils 10 (by omega) hk).1
  have c2 := (h.nils 10 (by omega) hk).2.2
  have f2 := h.fz 32 (by omega)
  clear h hk
  go_enter Tryz.func73, Tryz.ntmps73
  go_wp2
  go_loopw [3] (fun t wx => t = .int .i64 0 ∧ wx = w) (fun _ _ => 0)
  case atStart => exact ⟨rfl, rfl⟩
  case round =>
    obtain ⟨rfl, hw⟩ := hrel
    subst hw
    go_wp2_with fail
    go_end0
    exact ⟨rfl, setCell_same _ _ _ _ c2⟩

set_option maxRecDepth 100000 in
set_option maxHeartbeats 4000000 in
theorem growParts_nil (K : Nat → Bool) (NB : Nat) (w : World) (h : BookNil K w NB) (hk : K 11 = false) : Calls Tryz.prog 74 #[.pointer (some ⟨NB, 0, none⟩)] w fun e w' => e = .returned (.tuple #[]) ∧ w' = w := by
  have c0 := (h.nils 11 (by omega) hk).1
  have c2 := (h.nils 11 (by omega) hk).2.2
  have f2 := h.fz 35 (by omega)
  clear h hk
  go_enter Tryz.func74, Tryz.ntmps74
  go_wp2
  go_loopw [3] (fun t wx => t = .int .i64 0 ∧ wx = w) (fun _ _ => 0)
  case atStart => exact ⟨rfl, rfl⟩
  case round =>
    obtain ⟨rfl, hw⟩ := hrel
    subst hw
    go_wp2_with fail
    go_end0
    exact ⟨rfl, setCell_same _ _ _ _ c2⟩

set_option maxRecDepth 100000 in
set_option maxHeartbeats 4000000 in
theorem growFiles_nil (K : Nat → Bool) (NB : Nat) (w : World) (h : BookNil K w NB) (hk : K 12 = false) : Calls Tryz.prog 75 #[.pointer (some ⟨NB, 0, none⟩)] w fun e w' => e = .returned (.tuple #[]) ∧ w' = w := by
  have c0 := (h.nils 12 (by omega) hk).1
  have c2 := (h.nils 12 (by omega) hk).2.2
  have f2 := h.fz 38 (by omega)
  clear h hk
  go_enter Tryz.func75, Tryz.ntmps75
  go_wp2
  go_loopw [3] (fun t wx => t = .int .i64 0 ∧ wx = w) (fun _ _ => 0)
  case atStart => exact ⟨rfl, rfl⟩
  case round =>
    obtain ⟨rfl, hw⟩ := hrel
    subst hw
    go_wp2_with fail
    go_end0
    exact ⟨rfl, setCell_same _ _ _ _ c2⟩

set_option maxRecDepth 100000 in
set_option maxHeartbeats 4000000 in
theorem growRuns_nil (K : Nat → Bool) (NB : Nat) (w : World) (h : BookNil K w NB) (hk : K 13 = false) : Calls Tryz.prog 76 #[.pointer (some ⟨NB, 0, none⟩)] w fun e w' => e = .returned (.tuple #[]) ∧ w' = w := by
  have c0 := (h.nils 13 (by omega) hk).1
  have c2 := (h.nils 13 (by omega) hk).2.2
  have f2 := h.fz 41 (by omega)
  clear h hk
  go_enter Tryz.func76, Tryz.ntmps76
  go_wp2
  go_loopw [3] (fun t wx => t = .int .i64 0 ∧ wx = w) (fun _ _ => 0)
  case atStart => exact ⟨rfl, rfl⟩
  case round =>
    obtain ⟨rfl, hw⟩ := hrel
    subst hw
    go_wp2_with fail
    go_end0
    exact ⟨rfl, setCell_same _ _ _ _ c2⟩

set_option maxRecDepth 100000 in
set_option maxHeartbeats 4000000 in
theorem growHelds_nil (K : Nat → Bool) (NB : Nat) (w : World) (h : BookNil K w NB) (hk : K 14 = false) : Calls Tryz.prog 77 #[.pointer (some ⟨NB, 0, none⟩)] w fun e w' => e = .returned (.tuple #[]) ∧ w' = w := by
  have c0 := (h.nils 14 (by omega) hk).1
  have c2 := (h.nils 14 (by omega) hk).2.2
  have f2 := h.fz 44 (by omega)
  clear h hk
  go_enter Tryz.func77, Tryz.ntmps77
  go_wp2
  go_loopw [3] (fun t wx => t = .int .i64 0 ∧ wx = w) (fun _ _ => 0)
  case atStart => exact ⟨rfl, rfl⟩
  case round =>
    obtain ⟨rfl, hw⟩ := hrel
    subst hw
    go_wp2_with fail
    go_end0
    exact ⟨rfl, setCell_same _ _ _ _ c2⟩

set_option maxRecDepth 100000 in
set_option maxHeartbeats 4000000 in
theorem growSeries_nil (K : Nat → Bool) (NB : Nat) (w : World) (h : BookNil K w NB) (hk : K 15 = false) : Calls Tryz.prog 78 #[.pointer (some ⟨NB, 0, none⟩)] w fun e w' => e = .returned (.tuple #[]) ∧ w' = w := by
  have c0 := (h.nils 15 (by omega) hk).1
  have c2 := (h.nils 15 (by omega) hk).2.2
  have f2 := h.fz 47 (by omega)
  clear h hk
  go_enter Tryz.func78, Tryz.ntmps78
  go_wp2
  go_loopw [3] (fun t wx => t = .int .i64 0 ∧ wx = w) (fun _ _ => 0)
  case atStart => exact ⟨rfl, rfl⟩
  case round =>
    obtain ⟨rfl, hw⟩ := hrel
    subst hw
    go_wp2_with fail
    go_end0
    exact ⟨rfl, setCell_same _ _ _ _ c2⟩

set_option maxRecDepth 100000 in
set_option maxHeartbeats 4000000 in
theorem growCells_nil (K : Nat → Bool) (NB : Nat) (w : World) (h : BookNil K w NB) (hk : K 16 = false) : Calls Tryz.prog 79 #[.pointer (some ⟨NB, 0, none⟩)] w fun e w' => e = .returned (.tuple #[]) ∧ w' = w := by
  have c0 := (h.nils 16 (by omega) hk).1
  have c2 := (h.nils 16 (by omega) hk).2.2
  have f2 := h.fz 50 (by omega)
  clear h hk
  go_enter Tryz.func79, Tryz.ntmps79
  go_wp2
  go_loopw [3] (fun t wx => t = .int .i64 0 ∧ wx = w) (fun _ _ => 0)
  case atStart => exact ⟨rfl, rfl⟩
  case round =>
    obtain ⟨rfl, hw⟩ := hrel
    subst hw
    go_wp2_with fail
    go_end0
    exact ⟨rfl, setCell_same _ _ _ _ c2⟩

set_option maxRecDepth 100000 in
set_option maxHeartbeats 4000000 in
theorem growCellses_nil (K : Nat → Bool) (NB : Nat) (w : World) (h : BookNil K w NB) (hk : K 17 = false) : Calls Tryz.prog 80 #[.pointer (some ⟨NB, 0, none⟩)] w fun e w' => e = .returned (.tuple #[]) ∧ w' = w := by
  have c0 := (h.nils 17 (by omega) hk).1
  have c2 := (h.nils 17 (by omega) hk).2.2
  have f2 := h.fz 53 (by omega)
  clear h hk
  go_enter Tryz.func80, Tryz.ntmps80
  go_wp2
  go_loopw [3] (fun t wx => t = .int .i64 0 ∧ wx = w) (fun _ _ => 0)
  case atStart => exact ⟨rfl, rfl⟩
  case round =>
    obtain ⟨rfl, hw⟩ := hrel
    subst hw
    go_wp2_with fail
    go_end0
    exact ⟨rfl, setCell_same _ _ _ _ c2⟩

set_option maxRecDepth 100000 in
set_option maxHeartbeats 4000000 in
theorem growMatches_nil (K : Nat → Bool) (NB : Nat) (w : World) (h : BookNil K w NB) (hk : K 18 = false) : Calls Tryz.prog 81 #[.pointer (some ⟨NB, 0, none⟩)] w fun e w' => e = .returned (.tuple #[]) ∧ w' = w := by
  have c0 := (h.nils 18 (by omega) hk).1
  have c2 := (h.nils 18 (by omega) hk).2.2
  have f2 := h.fz 56 (by omega)
  clear h hk
  go_enter Tryz.func81, Tryz.ntmps81
  go_wp2
  go_loopw [3] (fun t wx => t = .int .i64 0 ∧ wx = w) (fun _ _ => 0)
  case atStart => exact ⟨rfl, rfl⟩
  case round =>
    obtain ⟨rfl, hw⟩ := hrel
    subst hw
    go_wp2_with fail
    go_end0
    exact ⟨rfl, setCell_same _ _ _ _ c2⟩

set_option maxRecDepth 100000 in
set_option maxHeartbeats 4000000 in
theorem growNodes_nil (K : Nat → Bool) (NB : Nat) (w : World) (h : BookNil K w NB) (hk : K 19 = false) : Calls Tryz.prog 82 #[.pointer (some ⟨NB, 0, none⟩)] w fun e w' => e = .returned (.tuple #[]) ∧ w' = w := by
  have c0 := (h.nils 19 (by omega) hk).1
  have c2 := (h.nils 19 (by omega) hk).2.2
  have f2 := h.fz 59 (by omega)
  clear h hk
  go_enter Tryz.func82, Tryz.ntmps82
  go_wp2
  go_loopw [3] (fun t wx => t = .int .i64 0 ∧ wx = w) (fun _ _ => 0)
  case atStart => exact ⟨rfl, rfl⟩
  case round =>
    obtain ⟨rfl, hw⟩ := hrel
    subst hw
    go_wp2_with fail
    go_end0
    exact ⟨rfl, setCell_same _ _ _ _ c2⟩

set_option maxRecDepth 100000 in
set_option maxHeartbeats 4000000 in
theorem growInstrs_nil (K : Nat → Bool) (NB : Nat) (w : World) (h : BookNil K w NB) (hk : K 20 = false) : Calls Tryz.prog 83 #[.pointer (some ⟨NB, 0, none⟩)] w fun e w' => e = .returned (.tuple #[]) ∧ w' = w := by
  have c0 := (h.nils 20 (by omega) hk).1
  have c2 := (h.nils 20 (by omega) hk).2.2
  have f2 := h.fz 62 (by omega)
  clear h hk
  go_enter Tryz.func83, Tryz.ntmps83
  go_wp2
  go_loopw [3] (fun t wx => t = .int .i64 0 ∧ wx = w) (fun _ _ => 0)
  case atStart => exact ⟨rfl, rfl⟩
  case round =>
    obtain ⟨rfl, hw⟩ := hrel
    subst hw
    go_wp2_with fail
    go_end0
    exact ⟨rfl, setCell_same _ _ _ _ c2⟩

set_option maxRecDepth 100000 in
set_option maxHeartbeats 4000000 in
theorem growNeeds_nil (K : Nat → Bool) (NB : Nat) (w : World) (h : BookNil K w NB) (hk : K 21 = false) : Calls Tryz.prog 84 #[.pointer (some ⟨NB, 0, none⟩)] w fun e w' => e = .returned (.tuple #[]) ∧ w' = w := by
  have c0 := (h.nils 21 (by omega) hk).1
  have c2 := (h.nils 21 (by omega) hk).2.2
  have f2 := h.fz 65 (by omega)
  clear h hk
  go_enter Tryz.func84, Tryz.ntmps84
  go_wp2
  go_loopw [3] (fun t wx => t = .int .i64 0 ∧ wx = w) (fun _ _ => 0)
  case atStart => exact ⟨rfl, rfl⟩
  case round =>
    obtain ⟨rfl, hw⟩ := hrel
    subst hw
    go_wp2_with fail
    go_end0
    exact ⟨rfl, setCell_same _ _ _ _ c2⟩

set_option maxRecDepth 100000 in
set_option maxHeartbeats 4000000 in
theorem growWrites_nil (K : Nat → Bool) (NB : Nat) (w : World) (h : BookNil K w NB) (hk : K 22 = false) : Calls Tryz.prog 85 #[.pointer (some ⟨NB, 0, none⟩)] w fun e w' => e = .returned (.tuple #[]) ∧ w' = w := by
  have c0 := (h.nils 22 (by omega) hk).1
  have c2 := (h.nils 22 (by omega) hk).2.2
  have f2 := h.fz 68 (by omega)
  clear h hk
  go_enter Tryz.func85, Tryz.ntmps85
  go_wp2
  go_loopw [3] (fun t wx => t = .int .i64 0 ∧ wx = w) (fun _ _ => 0)
  case atStart => exact ⟨rfl, rfl⟩
  case round =>
    obtain ⟨rfl, hw⟩ := hrel
    subst hw
    go_wp2_with fail
    go_end0
    exact ⟨rfl, setCell_same _ _ _ _ c2⟩

end Go.Proofs.YtnjcedlbdjidiaaGreatDoor

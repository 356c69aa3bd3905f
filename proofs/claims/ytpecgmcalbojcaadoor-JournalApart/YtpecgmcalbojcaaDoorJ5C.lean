/- A round of JournalApart: four turns; rows as they come in. -/
import Derived.Test.YtpecgmcalbojcaaDoorJ5B
import Derived.Test.YtpecgmcalbojcaaDoorJ4G
namespace Go.Proofs.YtpecgmcalbojcaaDoor
open Go.RowKit
set_option linter.unusedVariables false
set_option linter.unusedSimpArgs false

theorem bodyB_min (q : Nat → List Nat) (n : Nat) : (bodyB ((List.range (min n 300)).map q)).length ≤ sumL q n := by
  rw [← bodyP_B]
  have h1 := bodyP_le q (min n 300) n (by omega)
  have h2 := body_sumL q n
  omega

/-- What size tells of a row that came in. -/
theorem rowFn_size {W : World} {p : Option Addr} {i : Nat} {rs : List (List Nat)} (h : RowFn W p i rs) : ∃ (b o : Nat) (pe : Option Addr) (ne ce : Nat), p = some ⟨b, o, none⟩ ∧ W.cell? ⟨b, o + i, none⟩ = some (.slice pe ne ce) ∧ ∀ wx, Below W.heap.size W wx →
    Calls Tryd.prog 16 #[.agg #[.int .i64 0, .int .i64 0, .string { data := #[] }, .slice pe ne ce, .slice none 0 0, .int .i64 0, .int .i64 0, .int .i64 0]] wx fun e w' => ∃ z : Nat, e = .returned (.int .i64 (z : Int)) ∧ ((bodyB rs).length ≤ z ∨ 262144 < z) ∧ z ≤ 281474976710656 ∧ Below wx.heap.size wx w' := by
  obtain ⟨b, o, pe, ne, ce, q, h1, h2, h3, h4, h5, rfl⟩ := h
  refine ⟨b, o, pe, ne, ce, h1, h2, fun wx hb => (size_any pe ne ce q wx (h4.below hb) (fun j hj => (h5 j hj).1) h3).mono ?_⟩
  rintro e w' ⟨z, rfl, hz, hz2, hB⟩
  refine ⟨z, rfl, ?_, hz2, hB⟩
  rcases hz with hz | hz
  · left; rw [hz]; exact bodyB_min q ne
  · right; exact hz

/-- The four logs within a round: the first s of them have had their turn; a block g of the law's own stays. -/
def Rd (W wx : World) (D Lb : Nat → Nat) (s : Nat) (G : Nat → List Nat → List Nat) (C : Nat → Nat → Nat) (bf0 : Nat → List Nat) (cf0 : Nat → Nat) (T V : Nat) (g : Nat) (X : Obj) : Prop :=
  ∃ P Fs bf cf, Ap W wx 4 D Lb P Fs bf cf ∧ (∀ a, a < 3 → Con.tot (P a).con ≤ T ∧ (P a).wr ≤ V) ∧ (∀ t, t < 4 → bf t = (if t < s then G t (bf0 t) else bf0 t) ∧ cf t = if t < s then C t (cf0 t) else cf0 t) ∧ wx.heap[g]? = some X ∧ (∀ a, a < 3 → ¬ Fs a g) ∧ ∀ t, t < 4 → g ≠ Lb t

theorem Rd.bel {W wx : World} {D Lb : Nat → Nat} {s : Nat} {G : Nat → List Nat → List Nat} {C : Nat → Nat → Nat} {bf0 : Nat → List Nat} {cf0 : Nat → Nat} {T V g : Nat} {X : Obj} (h : Rd W wx D Lb s G C bf0 cf0 T V g X) : Below W.heap.size W wx ∧ wx.heap[g]? = some X := by
  obtain ⟨P, Fs, bf, cf, h1, h2, h3, h4, h5⟩ := h
  exact ⟨h1.bel, h4⟩

theorem rd_turn {W wx : World} {D Lb : Nat → Nat} {s : Nat} {G : Nat → List Nat → List Nat} {C : Nat → Nat → Nat} {bf0 : Nat → List Nat} {cf0 : Nat → Nat} {T V g : Nat} {X : Obj} (h : Rd W wx D Lb s G C bf0 cf0 T V g X) (hs : s < 4) (hT : TabC W) (pA : Option Addr) (nA cA : Nat) (pB : Option Addr) (nB cB : Nat) (pC : Option Addr) (nC cC : Nat) (pr : Option Addr) (nr cr i : Nat) (rs : List (List Nat)) (z : Nat → Int) (hr : i < nr → RowFn W pr i rs) (hz : IntsFn W pC nC z) (hi : i ≤ 100) (hnr : nr ≤ 140737488355328) (hnC : nC ≤ 140737488355328) (hbody : (bodyB rs).length ≤ 65536) (hA : T + (recB rs).length ≤ 268435456) (hw : V ≤ 50000) (hct : cf0 s ≤ 50000)
    (hG : G s (bf0 s) = if clr z i (min nC 20) then headB else if i < nr then bf0 s ++ recB rs else bf0 s) (hC : C s (cf0 s) = if clr z i (min nC 20) then 0 else if i < nr then cf0 s + 1 else cf0 s) :
    Calls Tryd.prog 31 #[.agg #[.slice pA nA cA, .slice pB nB cB, .slice pC nC cC], .pointer (some ⟨Lb s, 0, none⟩), .slice pr nr cr, .int .i64 (i : Int)] wx fun e w' => e = .returned (.bool true) ∧ Rd W w' D Lb (s + 1) G C bf0 cf0 (T + (recB rs).length) (V + 22) g X := by
  obtain ⟨P, Fs, bf, cf, h1, h2, h3, h4, h5, h6⟩ := h
  have e1 : bf s = bf0 s := by have := (h3 s hs).1; rwa [if_neg (Nat.lt_irrefl _)] at this
  have e2 : cf s = cf0 s := by have := (h3 s hs).2; rwa [if_neg (Nat.lt_irrefl _)] at this
  have ho := h1.one s hs
  obtain ⟨t1, t2⟩ := h2 (dk s) (dk_lt hs)
  refine (turn_any ho (nf_ok s) hT pA nA cA pB nB cB pC nC cC pr nr cr i rs z hr hz hi hnr hnC hbody (by omega) (by omega) (by omega)).mono ?_
  rintro e w' ⟨rfl, p', F', k⟩
  rw [e1, e2, ← hG, ← hC] at k
  have hgb := k.fx.block g (heap_lt h4) (h5 _ (dk_lt hs))
  refine ⟨rfl, _, _, _, _, h1.step hs k, fun a ha => ?_, fun t ht => ?_, (hgb.2 (h6 s hs)).trans h4, fun a ha => ?_, h6⟩
  · by_cases ea : a = dk s
    · subst ea; rw [put_at]; have := k.tot; have := k.wr; exact ⟨by omega, by omega⟩
    · rw [put_ne _ ea]; have := h2 a ha; exact ⟨by omega, by omega⟩
  · by_cases e : t = s
    · subst e; rw [put_at, put_at, if_pos (Nat.lt_succ_self _), if_pos (Nat.lt_succ_self _)]; exact ⟨rfl, rfl⟩
    · rw [put_ne _ e, put_ne _ e]
      obtain ⟨a1, a2⟩ := h3 t ht
      by_cases hl : t < s
      · rw [if_pos hl] at a1 a2; rw [if_pos (by omega), if_pos (by omega)]; exact ⟨a1, a2⟩
      · rw [if_neg hl] at a1 a2; rw [if_neg (by omega), if_neg (by omega)]; exact ⟨a1, a2⟩
  · by_cases ea : a = dk s
    · subst ea; rw [put_at]; exact hgb.1
    · rw [put_ne _ ea]; exact h5 a ha

/-- What a turn of the t-th log makes of its bytes, of its count. -/
def GB (z : Nat → Int) (i nA nB nC : Nat) (ra rb : List (List Nat)) (t : Nat) (bs : List Nat) : List Nat := if t % 2 = 0 then (if clr z i (min nC 20) then headB else if i < nA then bs ++ recB ra else bs) else if i < nB then bs ++ recB rb else bs
def GC (z : Nat → Int) (i nA nB nC t ct : Nat) : Nat := if t % 2 = 0 then (if clr z i (min nC 20) then 0 else if i < nA then ct + 1 else ct) else if i < nB then ct + 1 else ct

/-- Between the rounds. -/
structure AS (W wx : World) (D Lb : Nat → Nat) (bf : Nat → List Nat) (cf : Nat → Nat) (L i : Nat) : Prop where
  rd : ∃ P Fs, Ap W wx 4 D Lb P Fs bf cf ∧ ∀ a, a < 3 → Con.tot (P a).con ≤ 100 + 40 * i + 2 * (65536 - L) ∧ (P a).wr ≤ 10 + 88 * i
  b1 : bf 0 = bf 2
  b2 : bf 1 = bf 3
  c1 : cf 0 = cf 2
  c2 : cf 1 = cf 3
  ct : ∀ t, t < 4 → cf t ≤ i
  l1 : L ≤ 65536
  i1 : i ≤ 40

theorem AS.below {W wx w' : World} {D Lb : Nat → Nat} {bf : Nat → List Nat} {cf : Nat → Nat} {L i : Nat} (h : AS W wx D Lb bf cf L i) (hb : Below wx.heap.size wx w') : AS W w' D Lb bf cf L i := by
  obtain ⟨P, Fs, h1, h2⟩ := h.rd
  exact { h with rd := ⟨P, Fs, h1.below hb, h2⟩ }
theorem AS.bel {W wx : World} {D Lb : Nat → Nat} {bf : Nat → List Nat} {cf : Nat → Nat} {L i : Nat} (h : AS W wx D Lb bf cf L i) : Below W.heap.size W wx := by
  obtain ⟨P, Fs, h1, h2⟩ := h.rd
  exact h1.bel

theorem AS.begin {W wx w' : World} {D Lb : Nat → Nat} {bf : Nat → List Nat} {cf : Nat → Nat} {L i : Nat} (h : AS W wx D Lb bf cf L i) (G : Nat → List Nat → List Nat) (C : Nat → Nat → Nat) (hb : Below wx.heap.size wx w') {g : Nat} {X : Obj} (hg : wx.heap.size ≤ g) (hX : w'.heap[g]? = some X) : Rd W w' D Lb 0 G C bf cf (100 + 40 * i + 2 * (65536 - L)) (10 + 88 * i) g X := by
  obtain ⟨P, Fs, h1, h2⟩ := h.rd
  exact ⟨P, Fs, bf, cf, h1.below hb, h2, fun t ht => by simp, hX, fun a ha e => by have := (h1.di a ha).lt g e; omega, fun t ht e => by have := heap_lt (h1.one t ht).lg; omega⟩

theorem AS.next {W w0 wx : World} {D Lb : Nat → Nat} {bf : Nat → List Nat} {cf : Nat → Nat} {L L' i : Nat} (h : AS W w0 D Lb bf cf L i) (hi : i < 40) (hL : L' ≤ L) {z : Nat → Int} {nA nB nC T g : Nat} {X : Obj} {ra rb : List (List Nat)} (hT : T ≤ 100 + 40 * (i + 1) + 2 * (65536 - L')) (k : Rd W wx D Lb 4 (GB z i nA nB nC ra rb) (GC z i nA nB nC) bf cf T (10 + 88 * i + 22 + 22 + 22 + 22) g X) :
    ∃ bf' cf', AS W wx D Lb bf' cf' L' (i + 1) := by
  obtain ⟨P, Fs, b, c, h1, h2, h3, h4⟩ := k
  have hg : ∀ t, t < 4 → b t = GB z i nA nB nC ra rb t (bf t) ∧ c t = GC z i nA nB nC t (cf t) := fun t ht => by have := h3 t ht; rw [if_pos ht, if_pos ht] at this; exact this
  refine ⟨b, c, ⟨P, Fs, h1, fun a ha => by have := h2 a ha; exact ⟨by omega, by omega⟩⟩, ?_, ?_, ?_, ?_, fun t ht => ?_, by have := h.l1; omega, by omega⟩
  · rw [(hg 0 (by omega)).1, (hg 2 (by omega)).1, h.b1]; rfl
  · rw [(hg 1 (by omega)).1, (hg 3 (by omega)).1, h.b2]; rfl
  · rw [(hg 0 (by omega)).2, (hg 2 (by omega)).2, h.c1]; rfl
  · rw [(hg 1 (by omega)).2, (hg 3 (by omega)).2, h.c2]; rfl
  · rw [(hg t ht).2]
    have := h.ct t ht
    unfold GC
    split <;> (try split) <;> (try split) <;> omega

/-- Rows and numbers that come in, as functions. -/
theorem rows_fn {W : World} {p : Option Addr} {n : Nat} (h : RowsIn W p n) : ∃ r : Nat → List (List Nat), ∀ i, (i < n → RowFn W p i (r i)) ∧ (¬ i < n → r i = []) := by
  have hc : ∀ i, ∃ rs : List (List Nat), (i < n → RowFn W p i rs) ∧ (¬ i < n → rs = []) := fun i => by
    by_cases hi : i < n
    · obtain ⟨b, o, pe, ne, ce, q, h1, h2, h3, h4, h5⟩ := h i hi
      exact ⟨_, fun _ => ⟨b, o, pe, ne, ce, q, h1, h2, h3, h4, h5, rfl⟩, fun e => absurd hi e⟩
    · exact ⟨[], fun e => absurd e hi, fun _ => rfl⟩
  exact Classical.axiomOfChoice hc
theorem ints_fn {W : World} {p : Option Addr} {n : Nat} (h : IntsIn W p n) : ∃ z : Nat → Int, IntsFn W p n z := by
  have hc : ∀ j, ∃ z : Int, j < n → ∃ b o, p = some ⟨b, o, none⟩ ∧ W.cell? ⟨b, o + j, none⟩ = some (.int .i64 z) := fun j => by
    by_cases hj : j < n
    · obtain ⟨b, o, z, h1, h2⟩ := h j hj
      exact ⟨z, fun _ => ⟨b, o, h1, h2⟩⟩
    · exact ⟨0, fun e => absurd e hj⟩
  exact Classical.axiomOfChoice hc
theorem RowsIn.below {W w' : World} {p : Option Addr} {n : Nat} (h : RowsIn W p n) (hb : Below W.heap.size W w') : RowsIn w' p n := fun i hi => by
  obtain ⟨b, o, pe, ne, ce, q, h1, h2, h3, h4, h5⟩ := h i hi
  exact ⟨b, o, pe, ne, ce, q, h1, by rw [hb.cell (p := ⟨b, o + i, none⟩) (World.block_lt_of_cell? _ _ h2)]; exact h2, h3, h4.below hb, h5⟩
theorem IntsIn.below {W w' : World} {p : Option Addr} {n : Nat} (h : IntsIn W p n) (hb : Below W.heap.size W w') : IntsIn w' p n := fun i hi => by
  obtain ⟨b, o, z, h1, h2⟩ := h i hi
  exact ⟨b, o, z, h1, by rw [hb.cell (p := ⟨b, o + i, none⟩) (World.block_lt_of_cell? _ _ h2)]; exact h2⟩

/-- The start: three disks, then four logs. -/
def P0 : PS := { con := [], room := 268435456, off := false, ain := 0, keep := 0, lose := 0, wr := 0 }
def D3 (d c b : Nat) (a : Nat) : Nat := if a = 0 then d else if a = 1 then c else b
def F3 (F1 F2 F3 : Nat → Prop) (a : Nat) : Nat → Prop := if a = 0 then F1 else if a = 1 then F2 else F3
def Opd (W w : World) (N : Nat) (D Lb : Nat → Nat) (bf : Nat → List Nat) (cf : Nat → Nat) : Prop := ∃ P Fs, Ap W w N D Lb P Fs bf cf ∧ Opn N P

theorem Opd.below {W w w' : World} {N : Nat} {D Lb : Nat → Nat} {bf : Nat → List Nat} {cf : Nat → Nat} (h : Opd W w N D Lb bf cf) (hb : Below w.heap.size w w') : Opd W w' N D Lb bf cf := by
  obtain ⟨P, Fs, h1, h2⟩ := h
  exact ⟨P, Fs, h1.below hb, h2⟩
theorem Opd.bel {W w : World} {N : Nat} {D Lb : Nat → Nat} {bf : Nat → List Nat} {cf : Nat → Nat} (h : Opd W w N D Lb bf cf) : Below W.heap.size W w := by
  obtain ⟨P, Fs, h1, h2⟩ := h
  exact h1.bel
theorem opd_start {W w : World} {d c b : Nat} {G1 G2 G3 : Nat → Prop} (h1 : Di W.heap.size w d P0 G1) (h2 : Di W.heap.size w c P0 G2) (h3 : Di W.heap.size w b P0 G3) (e12 : ∀ k, G1 k → ¬ G2 k) (e13 : ∀ k, G1 k → ¬ G3 k) (e23 : ∀ k, G2 k → ¬ G3 k) (hb : Below W.heap.size W w) : Opd W w 0 (D3 d c b) (fun _ => 0) (fun _ => []) (fun _ => 0) := by
  refine ⟨fun _ => P0, F3 G1 G2 G3, ⟨by omega, fun a ha => ?_, fun a ha => ⟨rfl, rfl, rfl⟩, fun t ht => by omega, fun x y k hx hy hxy => ?_, fun t a ht => by omega, fun s t hs => by omega, hb⟩, fun a ha => ⟨by simp [P0], by simp [P0, Con.tot], by simp [P0], fun t _ _ _ y hy => by simp [P0] at hy⟩⟩
  · have ha3 : a = 0 ∨ a = 1 ∨ a = 2 := by omega
    rcases ha3 with rfl | rfl | rfl
    · exact h1
    · exact h2
    · exact h3
  · have hx3 : x = 0 ∨ x = 1 ∨ x = 2 := by omega
    have hy3 : y = 0 ∨ y = 1 ∨ y = 2 := by omega
    rcases hx3 with rfl | rfl | rfl <;> rcases hy3 with rfl | rfl | rfl
    · exact absurd rfl hxy
    · exact e12 k
    · exact e13 k
    · exact fun h g => e12 k g h
    · exact absurd rfl hxy
    · exact e23 k
    · exact fun h g => e13 k g h
    · exact fun h g => e23 k g h
    · exact absurd rfl hxy
theorem op_open {W w : World} {N : Nat} {D Lb : Nat → Nat} {bf : Nat → List Nat} {cf : Nat → Nat} (h : Opd W w N D Lb bf cf) (hN : N < 4) :
    Calls Tryd.prog 12 #[.pointer (some ⟨D (dk N), 0, none⟩), .string (nf N)] w fun e w' => ∃ l, e = .returned (.tuple #[.pointer (some ⟨l, 0, none⟩), .slice none 0 0, .int .i64 0]) ∧ Opd W w' (N + 1) D (put Lb N l) (put bf N headB) (put cf N 0) := by
  obtain ⟨P, Fs, h1, h2⟩ := h
  refine (ap_open h1 h2 hN).mono ?_
  rintro e w' ⟨l, p', F', rfl, k1, k2⟩
  exact ⟨l, rfl, _, _, k1, k2⟩
theorem op_done {W w : World} {D Lb : Nat → Nat} (h : Opd W w 4 D Lb (put (put (put (put (fun _ => []) 0 headB) 1 headB) 2 headB) 3 headB) (put (put (put (put (fun _ => 0) 0 0) 1 0) 2 0) 3 0)) : ∃ bf cf, AS W w D Lb bf cf 65536 0 := by
  obtain ⟨P, Fs, h1, h2⟩ := h
  refine ⟨_, _, ⟨P, Fs, h1, fun a ha => by have := h2 a ha; exact ⟨by omega, by omega⟩⟩, rfl, rfl, rfl, rfl, fun t ht => ?_, by omega, by omega⟩
  have ht4 : t = 0 ∨ t = 1 ∨ t = 2 ∨ t = 3 := by omega
  rcases ht4 with rfl | rfl | rfl | rfl <;> decide

section
variable {W w : World} {d c b j k m n : Nat} {bf : Nat → List Nat} {cf : Nat → Nat}
theorem op_open0 {Lb : Nat → Nat} (h : Opd W w 0 (D3 d c b) Lb bf cf) : Calls Tryd.prog 12 #[.pointer (some ⟨d, 0, none⟩), .string { data := #[106] }] w fun e w' => ∃ l, e = .returned (.tuple #[.pointer (some ⟨l, 0, none⟩), .slice none 0 0, .int .i64 0]) ∧ Opd W w' 1 (D3 d c b) (put Lb 0 l) (put bf 0 headB) (put cf 0 0) := op_open h (by omega)
theorem op_open1 {Lb : Nat → Nat} (h : Opd W w 1 (D3 d c b) Lb bf cf) : Calls Tryd.prog 12 #[.pointer (some ⟨d, 0, none⟩), .string { data := #[107] }] w fun e w' => ∃ l, e = .returned (.tuple #[.pointer (some ⟨l, 0, none⟩), .slice none 0 0, .int .i64 0]) ∧ Opd W w' 2 (D3 d c b) (put Lb 1 l) (put bf 1 headB) (put cf 1 0) := op_open h (by omega)
theorem op_open2 {Lb : Nat → Nat} (h : Opd W w 2 (D3 d c b) Lb bf cf) : Calls Tryd.prog 12 #[.pointer (some ⟨c, 0, none⟩), .string { data := #[106] }] w fun e w' => ∃ l, e = .returned (.tuple #[.pointer (some ⟨l, 0, none⟩), .slice none 0 0, .int .i64 0]) ∧ Opd W w' 3 (D3 d c b) (put Lb 2 l) (put bf 2 headB) (put cf 2 0) := op_open h (by omega)
theorem op_open3 {Lb : Nat → Nat} (h : Opd W w 3 (D3 d c b) Lb bf cf) : Calls Tryd.prog 12 #[.pointer (some ⟨b, 0, none⟩), .string { data := #[107] }] w fun e w' => ∃ l, e = .returned (.tuple #[.pointer (some ⟨l, 0, none⟩), .slice none 0 0, .int .i64 0]) ∧ Opd W w' 4 (D3 d c b) (put Lb 3 l) (put bf 3 headB) (put cf 3 0) := op_open h (by omega)
end
def LB (j k m n : Nat) : Nat → Nat := put (put (put (put (fun _ => 0) 0 j) 1 k) 2 m) 3 n

/-- The end: the logs and what was read. -/
structure Rdn (W w : World) (D Lb : Nat → Nat) (bf : Nat → List Nat) (cf : Nat → Nat) (vs : List (Value × List Nat)) : Prop where
  ex : ∃ P Fs, Ap W w 4 D Lb P Fs bf cf ∧ ∀ x ∈ vs, Hv w Fs x.1 x.2
theorem Rdn.below {W w w' : World} {D Lb : Nat → Nat} {bf : Nat → List Nat} {cf : Nat → Nat} {vs : List (Value × List Nat)} (h : Rdn W w D Lb bf cf vs) (hb : Below w.heap.size w w') : Rdn W w' D Lb bf cf vs := by
  obtain ⟨P, Fs, h1, h2⟩ := h.ex
  exact ⟨P, Fs, h1.below hb, fun x hx => (h2 x hx).below hb⟩
theorem rdn_read {W w : World} {D Lb : Nat → Nat} {bf : Nat → List Nat} {cf : Nat → Nat} {vs : List (Value × List Nat)} (h : Rdn W w D Lb bf cf vs) {t : Nat} (ht : t < 4) : Calls Tryd.prog 24 #[.pointer (some ⟨D (dk t), 0, none⟩), .string (nf t)] w fun e w' => ∃ v, e = .returned (.tuple #[v, .int .i64 0]) ∧ Rdn W w' D Lb bf cf (vs ++ [(v, bf t)]) := by
  obtain ⟨P, Fs, h1, h2⟩ := h.ex
  refine (ap_read h1 ht).mono ?_
  rintro e w' ⟨v, rfl, k1, k2, k3⟩
  refine ⟨v, rfl, P, Fs, k1, fun x hx => ?_⟩
  rcases List.mem_append.1 hx with hx | hx
  · exact k3 _ _ (h2 x hx)
  · rw [List.mem_singleton.1 hx]; exact k2
section
variable {W w : World} {d c b : Nat} {Lb : Nat → Nat} {bf : Nat → List Nat} {cf : Nat → Nat} {vs : List (Value × List Nat)}
theorem rdn_read0 (h : Rdn W w (D3 d c b) Lb bf cf vs) : Calls Tryd.prog 24 #[.pointer (some ⟨d, 0, none⟩), .string { data := #[106] }] w fun e w' => ∃ v, e = .returned (.tuple #[v, .int .i64 0]) ∧ Rdn W w' (D3 d c b) Lb bf cf (vs ++ [(v, bf 0)]) := rdn_read h (t := 0) (by omega)
theorem rdn_read1 (h : Rdn W w (D3 d c b) Lb bf cf vs) : Calls Tryd.prog 24 #[.pointer (some ⟨d, 0, none⟩), .string { data := #[107] }] w fun e w' => ∃ v, e = .returned (.tuple #[v, .int .i64 0]) ∧ Rdn W w' (D3 d c b) Lb bf cf (vs ++ [(v, bf 1)]) := rdn_read h (t := 1) (by omega)
theorem rdn_read2 (h : Rdn W w (D3 d c b) Lb bf cf vs) : Calls Tryd.prog 24 #[.pointer (some ⟨c, 0, none⟩), .string { data := #[106] }] w fun e w' => ∃ v, e = .returned (.tuple #[v, .int .i64 0]) ∧ Rdn W w' (D3 d c b) Lb bf cf (vs ++ [(v, bf 2)]) := rdn_read h (t := 2) (by omega)
theorem rdn_read3 (h : Rdn W w (D3 d c b) Lb bf cf vs) : Calls Tryd.prog 24 #[.pointer (some ⟨b, 0, none⟩), .string { data := #[107] }] w fun e w' => ∃ v, e = .returned (.tuple #[v, .int .i64 0]) ∧ Rdn W w' (D3 d c b) Lb bf cf (vs ++ [(v, bf 3)]) := rdn_read h (t := 3) (by omega)
end
theorem Rdn.by_ {W w : World} {D Lb : Nat → Nat} {bf : Nat → List Nat} {cf : Nat → Nat} {vs : List (Value × List Nat)} (h : Rdn W w D Lb bf cf vs) {x : Value × List Nat} (hx : x ∈ vs) : IsBy w x.1 x.2 := by
  obtain ⟨P, Fs, h1, h2⟩ := h.ex
  exact (h2 x hx).1
theorem Rdn.lg {W w : World} {D Lb : Nat → Nat} {bf : Nat → List Nat} {cf : Nat → Nat} {vs : List (Value × List Nat)} (h : Rdn W w D Lb bf cf vs) {t : Nat} (ht : t < 4) : Lg w (Lb t) (D (dk t)) (nf t) (bf t).length (cf t) := by
  obtain ⟨P, Fs, h1, h2⟩ := h.ex
  exact (h1.one t ht).lg
theorem Rdn.bel {W w : World} {D Lb : Nat → Nat} {bf : Nat → List Nat} {cf : Nat → Nat} {vs : List (Value × List Nat)} (h : Rdn W w D Lb bf cf vs) : Below W.heap.size W w := by
  obtain ⟨P, Fs, h1, h2⟩ := h.ex
  exact h1.bel
theorem AS.rdn {W w : World} {D Lb : Nat → Nat} {bf : Nat → List Nat} {cf : Nat → Nat} {L i : Nat} (h : AS W w D Lb bf cf L i) : Rdn W w D Lb bf cf [] ∧ ∀ t, t < 4 → (bf t).length ≤ 268435456 := by
  obtain ⟨P, Fs, h1, h2⟩ := h.rd
  refine ⟨⟨P, Fs, h1, fun x hx => by simp at hx⟩, fun t ht => ?_⟩
  have h3 := con_tot_mem (h1.one t ht).mem
  have h4 := h2 (dk t) (dk_lt ht)
  have h5 := h.i1
  dsimp only at h3
  omega

end Go.Proofs.YtpecgmcalbojcaaDoor

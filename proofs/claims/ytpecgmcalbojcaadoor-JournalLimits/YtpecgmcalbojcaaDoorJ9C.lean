/- JournalLimits: the walk. -/
import Derived.Test.YtpecgmcalbojcaaDoorJ9B
namespace Go.Proofs.YtpecgmcalbojcaaDoor
open Go.RowKit
set_option linter.unusedVariables false
set_option linter.unusedSimpArgs false

def nmM : ByteArray := { data := #[109] }
theorem okM : okN nmM := ⟨by decide, by decide, fun i h => by
  have : i = 0 := by have : nmM.size = 1 := rfl; omega
  subst this
  show 0 ≤ firstIdx letters 109
  decide +kernel⟩
def kB : List Nat := [70, 65, 84, 72, 79, 77, 74, 49, 0, 64, 0, 1, 0, 0, 0, 0]
def mB : List Nat := [70, 65, 84, 72, 79, 77, 74, 49, 0, 64, 0, 0, 0, 0, 0, 0]
theorem kB_bad : tkRecs (kB.length + 1) (kB.drop 8) [] = none := by
  refine tkRecs_bad (by decide) ?_
  unfold recHead
  rw [if_neg (by decide), if_pos (by decide)]
theorem mB_cut : tkRecs (mB.length + 1) (mB.drop 8) [] = some ([], 8) := by
  have h : recHead (mB.drop 8) = .stop := by
    unfold recHead
    rw [if_neg (by decide), if_neg (by decide), if_pos (by decide)]
  exact tkRecs_stop (by decide) h
theorem con_app_new {c : Con} {nm : ByteArray} (h : ∀ y ∈ c, y.1 ≠ nm) (bs : List Nat) : Con.app c nm bs = c ++ [(nm, bs, 0)] := by
  unfold Con.app
  rw [if_neg fun e => ?_]
  obtain ⟨y, hy, e⟩ := List.any_eq_true.1 e
  exact h y hy (by simpa using e)

/-- A disk with few files. -/
structure Mf (W w : World) (d : Nat) (p : PS) (F : Nat → Prop) (V : Nat) : Prop where
  di : Di W.heap.size w d p F
  room : p.room = 268435456
  off : p.off = false
  ain : p.ain = 0
  wr : p.wr ≤ V
  bel : Below W.heap.size W w
  tot : Con.tot p.con ≤ 50000000 + 16 * V
  len : p.con.length ≤ V

section
variable {W w : World} {d : Nat} {p : PS} {F : Nat → Prop} {V : Nat}
theorem Mf.fr {w' : World} (h : Mf W w d p F V) (hd : Di W.heap.size w' d p F) (hf : Fr w F w' F) : Mf W w' d p F V := { h with di := hd, bel := bel_fr h.bel (Nat.le_refl _) hf h.di.ge }
theorem mf_name (h : Mf W w d p F V) : Calls Tryd.prog 12 #[.pointer (some ⟨d, 0, none⟩), .string { data := #[74] }] w fun e w' => e = .returned (.tuple #[.pointer none, .slice none 0 0, .int .i64 101]) ∧ Mf W w' d p F V := by
  refine (open_name w h.di h.off).mono ?_
  rintro e w' ⟨rfl, k1, k2⟩
  exact ⟨rfl, h.fr k1 k2⟩
theorem mf_appK (h : Mf W w d p F V) (hV : V ≤ 100) (hno : ∀ y ∈ p.con, y.1 ≠ nmK) : Calls Tryd.prog 28 #[.pointer (some ⟨d, 0, none⟩), .string { data := #[107] }, .slice (some ⟨w.heap.size, 0, none⟩) 16 16] (w.alloc (.cells #[.int .u8 70, .int .u8 65, .int .u8 84, .int .u8 72, .int .u8 79, .int .u8 77, .int .u8 74, .int .u8 49, .int .u8 0, .int .u8 64, .int .u8 0, .int .u8 1, .int .u8 0, .int .u8 0, .int .u8 0, .int .u8 0] 5)) fun e w' => e = .returned (.int .i64 0) ∧ ∃ p' F', Mf W w' d p' F' (V + 1) ∧ p'.con = p.con ++ [(nmK, kB, 0)] := by
  have hb : Below w.heap.size w (w.alloc (.cells #[.int .u8 70, .int .u8 65, .int .u8 84, .int .u8 72, .int .u8 79, .int .u8 77, .int .u8 74, .int .u8 49, .int .u8 0, .int .u8 64, .int .u8 0, .int .u8 1, .int .u8 0, .int .u8 0, .int .u8 0, .int .u8 0] 5)) := (Below.refl _ _).alloc (Nat.le_refl _) _
  have hby : IsBy (w.alloc (.cells #[.int .u8 70, .int .u8 65, .int .u8 84, .int .u8 72, .int .u8 79, .int .u8 77, .int .u8 74, .int .u8 49, .int .u8 0, .int .u8 64, .int .u8 0, .int .u8 1, .int .u8 0, .int .u8 0, .int .u8 0, .int .u8 0] 5)) (.slice (some ⟨w.heap.size, 0, none⟩) 16 16) kB := isBy_cells (bs := kB) (heap_alloc_new w _)
  have h1 := h.wr
  have h2 := h.tot
  have h3 := h.len
  refine (di_append _ (h.di.below hb) h.off h.ain (by omega) nmK okK (.inr ⟨hno, by omega⟩) (some ⟨w.heap.size, 0, none⟩) 16 16 kB rfl (Nat.le_refl _) (by simp) hby (fun k hk e => ?_) (by decide) (by rw [h.room]; show _ + 16 ≤ _; omega)).mono ?_
  · have ek : w.heap.size = k := by simpa [Value.ownBlock] using hk
    have := h.di.lt k e
    omega
  · rintro e w' ⟨rfl, F', k1, k2⟩
    have hb2 := h.bel.trans (hb.mono h.bel.size)
    have hc := con_app_new hno kB
    refine ⟨rfl, _, F', ⟨k1, h.room, h.off, h.ain, by dsimp only; omega, bel_fr hb2 (Nat.le_refl _) k2 (h.di.below hb).ge, ?_, ?_⟩, hc⟩
    · dsimp only; rw [hc, con_tot_app]; show _ + (16 + 0) ≤ _; omega
    · dsimp only; rw [hc, List.length_append, List.length_singleton]; omega

theorem mf_appM (h : Mf W w d p F V) (hV : V ≤ 100) (hno : ∀ y ∈ p.con, y.1 ≠ nmM) : Calls Tryd.prog 28 #[.pointer (some ⟨d, 0, none⟩), .string { data := #[109] }, .slice (some ⟨w.heap.size, 0, none⟩) 16 16] (w.alloc (.cells #[.int .u8 70, .int .u8 65, .int .u8 84, .int .u8 72, .int .u8 79, .int .u8 77, .int .u8 74, .int .u8 49, .int .u8 0, .int .u8 64, .int .u8 0, .int .u8 0, .int .u8 0, .int .u8 0, .int .u8 0, .int .u8 0] 5)) fun e w' => e = .returned (.int .i64 0) ∧ ∃ p' F', Mf W w' d p' F' (V + 1) ∧ p'.con = p.con ++ [(nmM, mB, 0)] := by
  have hb : Below w.heap.size w (w.alloc (.cells #[.int .u8 70, .int .u8 65, .int .u8 84, .int .u8 72, .int .u8 79, .int .u8 77, .int .u8 74, .int .u8 49, .int .u8 0, .int .u8 64, .int .u8 0, .int .u8 0, .int .u8 0, .int .u8 0, .int .u8 0, .int .u8 0] 5)) := (Below.refl _ _).alloc (Nat.le_refl _) _
  have hby : IsBy (w.alloc (.cells #[.int .u8 70, .int .u8 65, .int .u8 84, .int .u8 72, .int .u8 79, .int .u8 77, .int .u8 74, .int .u8 49, .int .u8 0, .int .u8 64, .int .u8 0, .int .u8 0, .int .u8 0, .int .u8 0, .int .u8 0, .int .u8 0] 5)) (.slice (some ⟨w.heap.size, 0, none⟩) 16 16) mB := isBy_cells (bs := mB) (heap_alloc_new w _)
  have h1 := h.wr
  have h2 := h.tot
  have h3 := h.len
  refine (di_append _ (h.di.below hb) h.off h.ain (by omega) nmM okM (.inr ⟨hno, by omega⟩) (some ⟨w.heap.size, 0, none⟩) 16 16 mB rfl (Nat.le_refl _) (by simp) hby (fun k hk e => ?_) (by decide) (by rw [h.room]; show _ + 16 ≤ _; omega)).mono ?_
  · have ek : w.heap.size = k := by simpa [Value.ownBlock] using hk
    have := h.di.lt k e
    omega
  · rintro e w' ⟨rfl, F', k1, k2⟩
    have hb2 := h.bel.trans (hb.mono h.bel.size)
    have hc := con_app_new hno mB
    refine ⟨rfl, _, F', ⟨k1, h.room, h.off, h.ain, by dsimp only; omega, bel_fr hb2 (Nat.le_refl _) k2 (h.di.below hb).ge, ?_, ?_⟩, hc⟩
    · dsimp only; rw [hc, con_tot_app]; show _ + (16 + 0) ≤ _; omega
    · dsimp only; rw [hc, List.length_append, List.length_singleton]; omega

theorem mf_openK (h : Mf W w d p F V) (hT : TabC W) (hm : (nmK, kB, 0) ∈ p.con) : Calls Tryd.prog 12 #[.pointer (some ⟨d, 0, none⟩), .string { data := #[107] }] w fun e w' => e = .returned (.tuple #[.pointer none, .slice none 0 0, .int .i64 111]) ∧ Mf W w' d p F V := by
  have hgl : 0 < W.heap.size := World.block_lt_of_cell? _ _ (hT 0 (by decide))
  have hTF : ¬ F 0 := fun e => by have := h.di.ge _ e; omega
  refine (open_bad8 w h.di nmK h.off okK kB 0 hm (by decide) (by decide) (.inr kB_bad) (hT.below h.bel) hTF).mono ?_
  rintro e w' ⟨rfl, k1, k2⟩
  exact ⟨rfl, h.fr k1 k2⟩
theorem mf_openM (h : Mf W w d p F V) (hV : V ≤ 100) (hT : TabC W) (hm : (nmM, mB, 0) ∈ p.con) : Calls Tryd.prog 12 #[.pointer (some ⟨d, 0, none⟩), .string { data := #[109] }] w fun e w' => ∃ (l : Nat) (q : Option Addr) (c : Nat), e = .returned (.tuple #[.pointer (some ⟨l, 0, none⟩), .slice q 0 c, .int .i64 0]) ∧ ∃ p' F', Di W.heap.size w' d p' F' ∧ p'.off = false ∧ Below W.heap.size W w' ∧ (nmM, mB.take 8, 0) ∈ p'.con := by
  have hgl : 0 < W.heap.size := World.block_lt_of_cell? _ _ (hT 0 (by decide))
  have hTF : ¬ F 0 := fun e => by have := h.di.ge _ e; omega
  have h1 := h.wr
  refine (open_cut w h.di nmM h.off h.ain (by omega) okM mB 0 hm (by decide) (by decide) (by decide) [] 8 8 mB_cut (by decide) (by decide) (hT.below h.bel) hTF).mono ?_
  rintro e w' ⟨l, v, F', rfl, k1, k2, k3, k4, k5, lo, k6, hi, k7, k8, k9⟩
  obtain ⟨q, c, hv, _⟩ := k8.a
  subst hv
  exact ⟨l, q, c, rfl, _, F', k1, h.off, bel_fr h.bel (Nat.le_refl _) k5 h.di.ge, con_upd_at hm (fun q => (q.1.take 8, min q.2 8))⟩
theorem mf_size (h : Di W.heap.size w d p F) (hoff : p.off = false) (hb : Below W.heap.size W w) (hm : (nmM, mB.take 8, 0) ∈ p.con) : Calls Tryd.prog 32 #[.pointer (some ⟨d, 0, none⟩), .string { data := #[109] }] w fun e w' => e = .returned (.tuple #[.int .i64 8, .int .i64 0]) ∧ Below W.heap.size W w' := by
  refine (di_size w h hoff nmM okM (mB.take 8) 0 hm).mono ?_
  rintro e w' ⟨rfl, k1, k2⟩
  exact ⟨rfl, bel_fr hb (Nat.le_refl _) k2 h.ge⟩
end

/-- What the law asks of the three records. -/
theorem got3 {w : World} {v : Value} {r1 : List Nat} {r2 : List (List Nat)} (h : RecA w v [[r1], r2, []]) : ∃ (g c g0 c0 : Nat) (pe : Option Addr) (ce : Nat) (p1 : Option Addr) (c1 : Nat) (p2 : Option Addr) (c2 : Nat), v = .slice (some ⟨g, 0, none⟩) 3 c ∧ w.cell? ⟨g, 0, none⟩ = some (.slice (some ⟨g0, 0, none⟩) 1 c0) ∧ w.cell? ⟨g0, 0, none⟩ = some (.slice pe r1.length ce) ∧ w.cell? ⟨g, 1, none⟩ = some (.slice p1 r2.length c1) ∧ w.cell? ⟨g, 2, none⟩ = some (.slice p2 0 c2) := by
  obtain ⟨p, c, rfl, hr⟩ := h
  obtain ⟨g, u0, e0, a0, b0⟩ := hr 0 (by show 0 < 3; decide)
  obtain ⟨g', u1, e1, a1, b1⟩ := hr 1 (by show 1 < 3; decide)
  obtain ⟨g'', u2, e2, a2, b2⟩ := hr 2 (by show 2 < 3; decide)
  subst e0
  simp only [Option.some.injEq, Addr.mk.injEq, and_true] at e1 e2
  subst e1
  subst e2
  obtain ⟨p0, c0, rfl, k0⟩ := b0
  obtain ⟨p1, c1, rfl, k1⟩ := b1
  obtain ⟨p2, c2, rfl, k2⟩ := b2
  obtain ⟨g0, u, e, a, b⟩ := k0 0 (by show 0 < 1; decide)
  subst e
  obtain ⟨pe, ce, rfl, _⟩ := by_slice b
  exact ⟨g, c, g0, c0, pe, ce, p1, c1, p2, c2, rfl, a0, a, a1, a2⟩

set_option maxRecDepth 100000 in
set_option maxHeartbeats 8000000 in
theorem journalLimits_any (w : World) (hT : TabC w) :
    Calls Tryd.prog 8 #[] w fun e w' => e = .returned (.bool true) ∧ Below w.heap.size w w' := by
  have HT := hide hT
  clear hT
  have HN1 := hide (di_new w w.heap.size (Nat.le_refl _) 268435456 (by decide) (by decide))
  obtain ⟨X1, hX1, HXa⟩ := mk_row 4194301 (by decide)
  obtain ⟨X2, hX2, HXb⟩ := make_rows 4097 (by decide)
  have HXX : Hid (Rws 4194301 X1 X2) := ⟨HXa, HXb⟩
  have hm1 : ∀ W : World, (Instr.makeSlice 40 (.int .i64 4194301) (.int .i64 4194301)).run Tryd.prog W = .ok (.slice (some ⟨W.heap.size, 0, none⟩) 4194301 4194301) (W.alloc X1) := hX1
  have hm2 : ∀ W : World, (Instr.makeSlice 37 (.int .i64 4097) (.int .i64 4097)).run Tryd.prog W = .ok (.slice (some ⟨W.heap.size, 0, none⟩) 4097 4097) (W.alloc X2) := hX2
  clear hX1 hX2 HXa HXb
  go_enter Tryd.func8, Tryd.ntmps8
  go_upto_region 7 with (first
    | (go_at_call 10; refine (num_any _ _).mono ?_; rintro e wn ⟨rfl, hwn⟩; have hwn2 := hwn.symm; subst hwn2)
    | (go_at_call 9; refine HN1.out.mono ?_; rintro e w1 ⟨d, F1, rfl, hD1, hB1, hG1⟩; have H1 : Hid (Di w.heap.size w1 d { con := [], room := 268435456, off := false, ain := 0, keep := 0, lose := 0, wr := 0 } F1 ∧ Below w.heap.size w w1) := ⟨hD1, hB1⟩; clear hD1 hB1 hG1 HN1)
    | (go_at_call 11; refine (works_any _ (HT.out.below H1.out.2)).mono ?_; rintro e w2 ⟨rfl, hB2⟩; have H2 : Hid (Di w.heap.size w2 d { con := [], room := 268435456, off := false, ain := 0, keep := 0, lose := 0, wr := 0 } F1 ∧ Below w.heap.size w w2) := ⟨H1.out.1.below hB2, H1.out.2.trans (hB2.mono H1.out.2.size)⟩; clear hB2 H1)
    | (go_at_call 12; refine (log_new w _ d F1 H2.out.1 H2.out.2).mono ?_; rintro e w3 ⟨l, p, F, rfl, hS, hp⟩; have HS : Hid (LogSt w w3 d l p F [] 8 ∧ p.wr = 2) := ⟨hS, hp⟩; clear hS hp H2))
  go_upto_region 9 with (first | simp only [hm1] | simp only [hm2])
  have hsz : (w3.alloc X1).heap.size = w3.heap.size + 1 := by simp
  have H4 : Hid (Lim w ((w3.alloc X1).alloc X2) d l p F [] 8 w3.heap.size (w3.heap.size + 1) X1 X2 ∧ p.wr = 2) := by
    have hb1 : Below w3.heap.size w3 (w3.alloc X1) := (Below.refl _ _).alloc (Nat.le_refl _) _
    have hb2 : Below w3.heap.size w3 ((w3.alloc X1).alloc X2) := hb1.alloc hb1.size _
    have hB := HS.out.1.bel.size
    have hl := heap_lt HS.out.1.lg
    refine ⟨⟨HS.out.1.below hb2, ⟨⟨hB, by simp; omega, fun e => by have := HS.out.1.di.lt _ e; omega, by omega⟩, new_kept (heap_alloc_new w3 X1) _⟩, ⟨⟨by omega, by simp, fun e => by have := HS.out.1.di.lt _ e; omega, by omega⟩, by have := heap_alloc_new (w3.alloc X1) X2; rw [hsz] at this; exact this⟩⟩, HS.out.2⟩
  obtain ⟨g2, hg2⟩ : ∃ g, w3.heap.size + 1 = g := ⟨_, rfl⟩
  rw [hg2] at H4
  obtain ⟨g1, hg1⟩ : ∃ g, w3.heap.size = g := ⟨_, rfl⟩
  rw [hg1] at H4
  first
    | rw [hg2, hg1]
    | (rw [hsz, hg2, hg1])
    | (simp only [hsz]; rw [hg2, hg1])
  clear hg1 hg2 hsz HS hm1 hm2
  generalize (w3.alloc X1).alloc X2 = w4 at *
  go_upto_region 12 with (first
    | (go_at_call 10; refine (num_any _ _).mono ?_; rintro e wn ⟨rfl, hwn⟩; have hwn2 := hwn.symm; subst hwn2)
    | (go_at_call 19; refine (log_writes H4.out.1.log).mono ?_; rintro e w5 ⟨rfl, k1, k2⟩; have H5 : Hid (Lim w w5 d l p F [] 8 g1 g2 X1 X2 ∧ p.wr = 2) := ⟨H4.out.1.fr k1 k2, H4.out.2⟩; clear k1 k2 H4)
    | (go_at_call 17; refine (lim_long1 H5.out.1 HXX.out (by omega) (by omega)).mono ?_; rintro e w6 ⟨rfl, k1⟩; have H6 : Hid (Lim w w6 d l p F [] 8 g1 g2 X1 X2 ∧ p.wr = 2) := ⟨k1, H5.out.2⟩; clear k1 H5)
    | (go_at_call 17; refine (lim_long2 H6.out.1 HXX.out).mono ?_; rintro e w7 ⟨rfl, k1⟩; have H7 : Hid (Lim w w7 d l p F [] 8 g1 g2 X1 X2 ∧ p.wr = 2) := ⟨k1, H6.out.2⟩; clear k1 H6)
    | (go_at_call 19; refine (log_writes H7.out.1.log).mono ?_; rintro e w8 ⟨rfl, k1, k2⟩; have H8 : Hid (Lim w w8 d l p F [] 8 g1 g2 X1 X2 ∧ p.wr = 2) := ⟨H7.out.1.fr k1 k2, H7.out.2⟩; clear k1 k2 H7)
    | (go_at_call 13; refine (lsize_any _ H8.out.1.log.lg).mono ?_; rintro e wn ⟨rfl, hwn⟩; have hwn2 := hwn.symm; subst hwn2))
  go_upto_region 14 with (first
    | (go_at_call 10; refine (num_any _ _).mono ?_; rintro e wn ⟨rfl, hwn⟩; have hwn2 := hwn.symm; subst hwn2)
    | (go_at_call 17; refine (lim_app1 H8.out.1 HXX.out HT.out 4194300 (by omega) (by omega) (by omega) (by have := H8.out.2; omega) (by simp)).mono ?_; rintro e w9 ⟨rfl, r1, p9, F9, hr1, k1, k2⟩; have HR1 := hide hr1; have H9 : Hid (Lim w w9 d l p9 F9 ([] ++ [[r1]]) (8 + (12 + 4194300)) g1 g2 X1 X2 ∧ p9.wr = 4) := ⟨k1, by rw [k2, H8.out.2]⟩; clear hr1 k1 k2 H8)
    | (go_at_call 17; refine (lim_app2 H9.out.1 HXX.out HT.out 4096 (by omega) (by omega) (by have := H9.out.2; omega) (by simp)).mono ?_; rintro e w10 ⟨rfl, r2, p10, F10, hr2, k1, k2⟩; have HR2 := hide hr2; have H10 : Hid (Lim w w10 d l p10 F10 ([] ++ [[r1]] ++ [r2]) (8 + (12 + 4194300) + (8 + 4 * 4096)) g1 g2 X1 X2 ∧ p10.wr = 6) := ⟨k1, by rw [k2, H9.out.2]⟩; clear hr2 k1 k2 H9)
    | (go_at_call 17; refine (lim_app3 H10.out.1 HT.out (by omega) (by have := H10.out.2; omega) (by simp)).mono ?_; rintro e w11 ⟨rfl, p11, F11, k1, k2⟩; have H11 : Hid (LogSt w w11 d l p11 F11 [[r1], r2, []] (8 + (12 + 4194300) + (8 + 4 * 4096) + 8) ∧ p11.wr = 8) := ⟨k1.log, by rw [k2, H10.out.2]⟩; clear k1 k2 H10))
  go_upto_region 15 with (go_at_call 12; refine (log_open H11.out.1 HT.out (by omega)).mono ?_; rintro e w12 ⟨l2, v, rfl, k1, k2, ⟨vals, k3⟩, k4, k5⟩; obtain ⟨gg, cg, g0, c0, pe, ce, q1, c1, q2, c2, hv, a0, a1, a2, a3⟩ := got3 k3.a; rw [HR1.out] at a1; rw [HR2.out] at a2; subst hv; have H12 : Hid (Mf w w12 d p11 F11 10 ∧ ∃ y, p11.con = [(nmJ, y)]) := ⟨⟨k1.di, k1.room, k1.off, k1.ain, by rw [H11.out.2]; omega, k1.bel, by rw [k1.con]; simp only [Con.tot]; rw [k1.alen]; omega, by rw [k1.con]; exact Nat.le_of_ble_eq_true rfl⟩, _, k1.con⟩; clear k1 k2 k3 k4 k5 H11)
  go_upto_region 17 with (go_at_call 10; refine (num_any _ _).mono ?_; rintro e wn ⟨rfl, hwn⟩; have hwn2 := hwn.symm; subst hwn2)
  clear a0 a1 a2 a3 HR1 HR2
  go_wp2_with (first
    | (go_at_call 10; refine (num_any _ _).mono ?_; rintro e wn ⟨rfl, hwn⟩; have hwn2 := hwn.symm; subst hwn2)
    | (go_at_call 12; refine (mf_name H12.out.1).mono ?_; rintro e w13 ⟨rfl, k1⟩; have H13 : Hid (Mf w w13 d p11 F11 10 ∧ ∃ y, p11.con = [(nmJ, y)]) := ⟨k1, H12.out.2⟩; clear k1 H12)
    | (go_at_call 28; refine (mf_appK H13.out.1 (by omega) (fun y hy => by obtain ⟨z, hz⟩ := H13.out.2; rw [hz] at hy; rw [List.mem_singleton.1 hy]; show nmJ ≠ nmK; decide)).mono ?_; rintro e w14 ⟨rfl, p14, F14, k1, k2⟩; have H14 : Hid (Mf w w14 d p14 F14 11 ∧ ∃ y, p14.con = [(nmJ, y), (nmK, kB, 0)]) := ⟨k1, by obtain ⟨z, hz⟩ := H13.out.2; exact ⟨z, by rw [k2, hz]; rfl⟩⟩; clear k1 k2 H13)
    | (go_at_call 12; refine (mf_openK H14.out.1 HT.out (by obtain ⟨z, hz⟩ := H14.out.2; rw [hz]; simp)).mono ?_; rintro e w15 ⟨rfl, k1⟩; have H15 : Hid (Mf w w15 d p14 F14 11 ∧ ∃ y, p14.con = [(nmJ, y), (nmK, kB, 0)]) := ⟨k1, H14.out.2⟩; clear k1 H14)
    | (go_at_call 28; refine (mf_appM H15.out.1 (by omega) (fun y hy => by obtain ⟨z, hz⟩ := H15.out.2; rw [hz] at hy; rcases List.mem_cons.1 hy with e | e; rw [e]; show nmJ ≠ nmM; decide; rw [List.mem_singleton.1 e]; show nmK ≠ nmM; decide)).mono ?_; rintro e w16 ⟨rfl, p16, F16, k1, k2⟩; have H16 : Hid (Mf w w16 d p16 F16 12 ∧ (nmM, mB, 0) ∈ p16.con) := ⟨k1, by rw [k2]; exact List.mem_append_right _ (List.mem_singleton.2 rfl)⟩; clear k1 k2 H15)
    | (go_at_call 12; refine (mf_openM H16.out.1 (by omega) HT.out H16.out.2).mono ?_; rintro e w17 ⟨lm, qm, cm, rfl, p17, F17, k1, k2, k3, k4⟩; have H17 := hide (And.intro k1 (And.intro k2 (And.intro k3 k4))); clear k1 k2 k3 k4 H16)
    | (go_at_call 32; refine (mf_size H17.out.1 H17.out.2.1 H17.out.2.2.1 H17.out.2.2.2).mono ?_; rintro e w18 ⟨rfl, k1⟩; have H18 := hide k1; clear k1 H17))
  go_ret
  exact ⟨rfl, H18.out⟩

end Go.Proofs.YtpecgmcalbojcaaDoor

/- The contracts of block.Sum and of the document's Sum. -/
import Derived.Test.YtpdaklklhoenhaaGreatDoorC6K
import Derived.Test.YtpdaklklhoenhaaGreatDoorB1R
import Derived.Test.YtpdaklklhoenhaaGreatDoorC1M
import Derived.Test.YtpdaklklhoenhaaGreatDoorP1K64
import Derived.Test.YtpdaklklhoenhaaGreatDoorFF
/- block: the size of a block by its head; partsOf. -/
namespace Go.Proofs.YtpdaklklhoenhaaGreatDoor
open Go.RowKit
open M
set_option linter.unusedVariables false
set_option linter.unusedSimpArgs false

/-- A head's cells. -/
def hdA (kind : Int) (n na : Nat) (fi la : Int) (le gr : Nat) (by_ : Int) (co ti va : Nat) : Array Value := #[.int .i64 kind, .int .i64 (n : Int), .int .i64 (na : Int), .int .i64 fi, .int .i64 la, .int .u64 (le : Int), .int .u64 (gr : Int), .int .i64 by_, .int .i64 (co : Int), .int .i64 (ti : Int), .int .i64 (va : Int)]
/-- A block's parts' cells. -/
def ptA (kind : Int) (n na : Nat) (fi la : Int) (le gr : Nat) (by_ : Int) (co ti va : Nat) (a b : Value) : Array Value := #[.int .i64 kind, .int .i64 (n : Int), .int .i64 (na : Int), .int .i64 fi, .int .i64 la, .int .u64 (le : Int), .int .u64 (gr : Int), .int .i64 by_, .int .i64 (co : Int), .int .i64 (ti : Int), .int .i64 (va : Int), a, b]
/-- No parts. -/
def ptZ : Array Value := #[.int .i64 0, .int .i64 0, .int .i64 0, .int .i64 0, .int .i64 0, .int .u64 0, .int .u64 0, .int .i64 0, .int .i64 0, .int .i64 0, .int .i64 0, .slice none 0 0, .slice none 0 0]

theorem size_any (kind n na fi la by_ co ti va : Int) (le gr : Int) (w : World) (h1 : 0 ≤ ti) (h2 : ti ≤ 4294967296) (h3 : 0 ≤ va) (h4 : va ≤ 4294967296) :
    Calls Tryz.prog 48 #[.agg #[.int .i64 kind, .int .i64 n, .int .i64 na, .int .i64 fi, .int .i64 la, .int .u64 le, .int .u64 gr, .int .i64 by_, .int .i64 co, .int .i64 ti, .int .i64 va]] w fun e w' => e = .returned (.int .i64 (ti + va + 55)) ∧ Below w.heap.size w w' := by
  have HB : Hid (Below w.heap.size w (w.alloc (.cells #[.int .i64 kind, .int .i64 n, .int .i64 na, .int .i64 fi, .int .i64 la, .int .u64 le, .int .u64 gr, .int .i64 by_, .int .i64 co, .int .i64 ti, .int .i64 va] 66))) := (Below.refl _ _).alloc (Nat.le_refl _) _
  have e1 : wrap64 (51 + ti) = 51 + ti := by unfold wrap64; omega
  have e2 : wrap64 (51 + ti + va) = 51 + ti + va := by unfold wrap64; omega
  have e3 : wrap64 (51 + ti + va + 4) = ti + va + 55 := by unfold wrap64; omega
  have f1 : IntKind.i64.wrap (51 + ti) = 51 + ti := by rw [IntKind.wrap_i64]; omega
  have f2 : IntKind.i64.wrap (51 + ti + va) = 51 + ti + va := by rw [IntKind.wrap_i64]; omega
  have f3 : IntKind.i64.wrap (51 + ti + va + 4) = ti + va + 55 := by rw [IntKind.wrap_i64]; omega
  clear h1 h2 h3 h4
  go_enter Tryz.func48, Tryz.ntmps48
  go_wp2_with fail
  go_ret
  exact ⟨by simp [e1, e2, e3, f1, f2, f3], HB.out⟩

theorem set_row13 (w : World) (g : Nat) (ty : TypeId) (z0 z1 z2 z3 z4 z5 z6 z7 z8 z9 z10 z11 z12 a0 a1 a2 a3 a4 a5 a6 a7 a8 a9 a10 a11 a12 : Value) (h : w.heap[g]? = some (.cells #[z0, z1, z2, z3, z4, z5, z6, z7, z8, z9, z10, z11, z12] ty (0, 0))) :
    (((((((((((((w.setCell ⟨g, 0, none⟩ a0).setCell ⟨g, 1, none⟩ a1).setCell ⟨g, 2, none⟩ a2).setCell ⟨g, 3, none⟩ a3).setCell ⟨g, 4, none⟩ a4).setCell ⟨g, 5, none⟩ a5).setCell ⟨g, 6, none⟩ a6).setCell ⟨g, 7, none⟩ a7).setCell ⟨g, 8, none⟩ a8).setCell ⟨g, 9, none⟩ a9).setCell ⟨g, 10, none⟩ a10).setCell ⟨g, 11, none⟩ a11).setCell ⟨g, 12, none⟩ a12).heap[g]? = some (.cells #[a0, a1, a2, a3, a4, a5, a6, a7, a8, a9, a10, a11, a12] ty (0, 0)) := by
  rw [heap_setCell_same _ _ _ _ _ _ (heap_setCell_same _ _ _ _ _ _ (heap_setCell_same _ _ _ _ _ _ (heap_setCell_same _ _ _ _ _ _ (heap_setCell_same _ _ _ _ _ _ (heap_setCell_same _ _ _ _ _ _ (heap_setCell_same _ _ _ _ _ _ (heap_setCell_same _ _ _ _ _ _ (heap_setCell_same _ _ _ _ _ _ (heap_setCell_same _ _ _ _ _ _ (heap_setCell_same _ _ _ _ _ _ (heap_setCell_same _ _ _ _ _ _ (heap_setCell_same _ _ _ _ _ _ h))))))))))))]; simp
theorem below_row13 {B : Nat} {w0 w : World} (h : Below B w0 w) (g : Nat) (a0 a1 a2 a3 a4 a5 a6 a7 a8 a9 a10 a11 a12 : Value) (hg : B ≤ g) : Below B w0 (((((((((((((w.setCell ⟨g, 0, none⟩ a0).setCell ⟨g, 1, none⟩ a1).setCell ⟨g, 2, none⟩ a2).setCell ⟨g, 3, none⟩ a3).setCell ⟨g, 4, none⟩ a4).setCell ⟨g, 5, none⟩ a5).setCell ⟨g, 6, none⟩ a6).setCell ⟨g, 7, none⟩ a7).setCell ⟨g, 8, none⟩ a8).setCell ⟨g, 9, none⟩ a9).setCell ⟨g, 10, none⟩ a10).setCell ⟨g, 11, none⟩ a11).setCell ⟨g, 12, none⟩ a12) :=
  below_set (below_set (below_set (below_set (below_set (below_set (below_set (below_set (below_set (below_set (below_set (below_set (below_set h _ _ _ hg) _ _ _ hg) _ _ _ hg) _ _ _ hg) _ _ _ hg) _ _ _ hg) _ _ _ hg) _ _ _ hg) _ _ _ hg) _ _ _ hg) _ _ _ hg) _ _ _ hg) _ _ _ hg

theorem set_row11 (w : World) (g : Nat) (ty : TypeId) (z0 z1 z2 z3 z4 z5 z6 z7 z8 z9 z10 a0 a1 a2 a3 a4 a5 a6 a7 a8 a9 a10 : Value) (h : w.heap[g]? = some (.cells #[z0, z1, z2, z3, z4, z5, z6, z7, z8, z9, z10] ty (0, 0))) :
    (((((((((((w.setCell ⟨g, 0, none⟩ a0).setCell ⟨g, 1, none⟩ a1).setCell ⟨g, 2, none⟩ a2).setCell ⟨g, 3, none⟩ a3).setCell ⟨g, 4, none⟩ a4).setCell ⟨g, 5, none⟩ a5).setCell ⟨g, 6, none⟩ a6).setCell ⟨g, 7, none⟩ a7).setCell ⟨g, 8, none⟩ a8).setCell ⟨g, 9, none⟩ a9).setCell ⟨g, 10, none⟩ a10).heap[g]? = some (.cells #[a0, a1, a2, a3, a4, a5, a6, a7, a8, a9, a10] ty (0, 0)) := by
  rw [heap_setCell_same _ _ _ _ _ _ (heap_setCell_same _ _ _ _ _ _ (heap_setCell_same _ _ _ _ _ _ (heap_setCell_same _ _ _ _ _ _ (heap_setCell_same _ _ _ _ _ _ (heap_setCell_same _ _ _ _ _ _ (heap_setCell_same _ _ _ _ _ _ (heap_setCell_same _ _ _ _ _ _ (heap_setCell_same _ _ _ _ _ _ (heap_setCell_same _ _ _ _ _ _ (heap_setCell_same _ _ _ _ _ _ h))))))))))]; simp
theorem below_row11 {B : Nat} {w0 w : World} (h : Below B w0 w) (g : Nat) (a0 a1 a2 a3 a4 a5 a6 a7 a8 a9 a10 : Value) (hg : B ≤ g) : Below B w0 (((((((((((w.setCell ⟨g, 0, none⟩ a0).setCell ⟨g, 1, none⟩ a1).setCell ⟨g, 2, none⟩ a2).setCell ⟨g, 3, none⟩ a3).setCell ⟨g, 4, none⟩ a4).setCell ⟨g, 5, none⟩ a5).setCell ⟨g, 6, none⟩ a6).setCell ⟨g, 7, none⟩ a7).setCell ⟨g, 8, none⟩ a8).setCell ⟨g, 9, none⟩ a9).setCell ⟨g, 10, none⟩ a10) :=
  below_set (below_set (below_set (below_set (below_set (below_set (below_set (below_set (below_set (below_set (below_set h _ _ _ hg) _ _ _ hg) _ _ _ hg) _ _ _ hg) _ _ _ hg) _ _ _ hg) _ _ _ hg) _ _ _ hg) _ _ _ hg) _ _ _ hg) _ _ _ hg

theorem isBy_other {w w' : World} {v : Value} {bs : List Nat} {g : Nat} {cs : Array Value} {ty : TypeId} (h : IsBy w v bs) (hg : w.heap[g]? = some (.cells cs ty (0, 0))) (hn : ∀ u ∈ cs.toList, ∀ x, u ≠ .int .u8 x) (hk : ∀ k, k ≠ g → w'.heap[k]? = w.heap[k]?) : IsBy w' v bs := by
  rcases h with (⟨h1, h2⟩ | ⟨g1, o, cap, h1, h2⟩) | ⟨ad, cap, h1, h2⟩
  · exact .inl (.inl ⟨h1, h2⟩)
  · refine .inl (.inr ⟨g1, o, cap, h1, fun i hi => ?_⟩)
    have hc := h2 i hi
    have hne : g1 ≠ g := fun e => by
      subst e
      rw [cell_of_row _ _ _ _ _ _ hg] at hc
      exact hn _ (by simpa using Array.mem_of_getElem? hc) _ rfl
    rw [World.cell?_of_block (w := w) (hk g1 hne)]; exact hc
  · exact .inr ⟨ad, cap, h1, h2⟩

theorem valIs_len (kind : Int) (n : Nat) (v : Nat → Nat) (k : Nat) (bs : List Nat) (hv : ∀ i, i < n → v i < 18446744073709551616) (h : ValIs kind n v k bs) : bs.length ≤ 8 * n ∧ 1 ≤ k ∧ k ≤ 6 := by
  unfold ValIs at h
  obtain ⟨b1, hb1⟩ := packIs_takes64 1 n v (by omega) (by omega) hv (by omega)
  have := h.least 1 b1 (by omega) (by omega) hb1
  rw [packIs_plain64 n _ b1 hb1] at this
  exact ⟨by omega, h.lo, h.hi⟩

theorem valIs_one (kind : Int) (n : Nat) (v : Nat → Nat) (k k' : Nat) (bs bs' : List Nat) (h : ValIs kind n v k bs) (h' : ValIs kind n v k' bs') : k = k' ∧ bs = bs' := by
  unfold ValIs at h h'
  have a := h.least k' bs' h'.lo h'.hi h'.is
  have b := h'.least k bs h.lo h.hi h.is
  obtain rfl : k = k' := by omega
  exact ⟨rfl, packIs_one64 _ _ _ _ _ h.is h'.is⟩

theorem tbn_bytes (t : Nat → Int) (n : Nat) : (packed (tbn t n)).length ≤ 9 * n := by
  have := tbn_length' t n
  rw [packed_length]; omega

/-- What partsOf tells of points that a block may have. -/
def PartsEnd (kind : Int) (n : Nat) (t : Nat → Int) (v : Nat → Nat) (w : World) (e : Ending) (w' : World) : Prop :=
  ∃ (co T V gt cv : Nat) (pv : Option Addr) (vb : List Nat), e = .returned (.tuple #[.agg (ptA kind n (nanN v n) (t 0) (t (n - 1)) (leV v n) (grV v n) ((T : Int) + (V : Int) + 55) co T V (.slice (some ⟨gt, 0, none⟩) T T) (.slice pv V cv)), .int .i64 0]) ∧
    T = (packed (tbn t n)).length ∧ w'.heap[gt]? = some (.cells (bytesV (packed (tbn t n))).toArray 5 (0, 0)) ∧ V = vb.length ∧ IsBy w' (.slice pv V cv) vb ∧ (∀ n ∈ vb, n < 256) ∧ ValIs kind n v co vb ∧ Below w.heap.size w w'

set_option maxRecDepth 100000 in
set_option maxHeartbeats 4000000 in
theorem partsOf_good (kind : Int) (p : Option Addr) (m cap : Nat) (t : Nat → Int) (v : Nat → Nat) (w : World) (h : PRow w p (m + 1) t v) (hG : Good kind (m + 1) t v) (ht : ∀ i, i < m + 1 → I64 (t i)) (hf : ∀ i, i < m + 1 → v i < 18446744073709551616) (hT : Tab64 w) :
    Calls Tryz.prog 28 #[.int .i64 kind, .slice p (m + 1) cap] w (PartsEnd kind (m + 1) t v w) := by
  have hn : m + 1 ≤ 4096 := hG.hi
  obtain ⟨g, hg⟩ : ∃ g, w.heap.size = g := ⟨_, rfl⟩
  obtain ⟨W1, hW1⟩ : ∃ W1, w.alloc (.cells #[.int .i64 0, .int .i64 0, .int .i64 0, .int .i64 0, .int .i64 0, .int .u64 0, .int .u64 0, .int .i64 0, .int .i64 0, .int .i64 0, .int .i64 0, .slice none 0 0, .slice none 0 0] 68) = W1 := ⟨_, rfl⟩
  have HR1 : Hid (W1.heap[g]? = some (.cells #[.int .i64 0, .int .i64 0, .int .i64 0, .int .i64 0, .int .i64 0, .int .u64 0, .int .u64 0, .int .i64 0, .int .i64 0, .int .i64 0, .int .i64 0, .slice none 0 0, .slice none 0 0] 68 (0, 0)) ∧ Below g w W1 ∧ g < W1.heap.size) := by rw [← hW1, ← hg]; exact ⟨heap_alloc_new _ _, (Below.refl _ _).alloc (Nat.le_refl _) _, by simp⟩
  have HRef := hide (fun (w1 : World) (hB : Below w.heap.size w w1) => refusal_good kind p (m + 1) cap t v w1 (h.below hB) hG)
  have HTim := hide (fun (w1 : World) (hB : Below w.heap.size w w1) => packTimes_any p (m + 1) cap t v w1 (h.below hB) hn ht hG.up)
  have HVal := hide (fun (w1 : World) (hB : Below w.heap.size w w1) => packValues_any kind p (m + 1) cap t v w1 (h.below hB) hn hf (hT.below hB) hG.kd)
  have HSum := hide (fun (w1 : World) (hB : Below w.heap.size w w1) => summary_any kind p m cap t v w1 (h.below hB) hn hf)
  have HF := hide hf
  have HGd := hide hG
  rw [hg] at HRef HTim HVal HSum
  clear h hG ht hf hT
  go_enter Tryz.func28, Tryz.ntmps28
  go_upto_region 1 with fail
  (try rw [hW1])
  have HG := hide hg
  clear hW1 hg
  go_wp2_with fail
  refine (HRef.out W1 HR1.out.2.1).mono ?_
  rintro e w2 ⟨rfl, B2⟩
  have HB2 : Hid (Below g w w2) := HR1.out.2.1.trans (B2.mono (Nat.le_of_lt HR1.out.2.2))
  have HR2 : Hid (w2.heap[g]? = some (.cells #[.int .i64 0, .int .i64 0, .int .i64 0, .int .i64 0, .int .i64 0, .int .u64 0, .int .u64 0, .int .i64 0, .int .i64 0, .int .i64 0, .int .i64 0, .slice none 0 0, .slice none 0 0] 68 (0, 0)) ∧ g < w2.heap.size) := ⟨by rw [B2.block g HR1.out.2.2]; exact HR1.out.1, Nat.lt_of_lt_of_le HR1.out.2.2 B2.size⟩
  clear B2 HR1 HRef
  go_wp2_with fail
  refine (HTim.out w2 HB2.out).mono ?_
  rintro e w3 ⟨gt, T, hT, hgt, rfl, hTb, B3⟩
  have HB3 : Hid (Below g w w3) := HB2.out.trans (B3.mono (Nat.le_of_lt HR2.out.2))
  have HR3 : Hid (w3.heap[g]? = some (.cells #[.int .i64 0, .int .i64 0, .int .i64 0, .int .i64 0, .int .i64 0, .int .u64 0, .int .u64 0, .int .i64 0, .int .i64 0, .int .i64 0, .int .i64 0, .slice none 0 0, .slice none 0 0] 68 (0, 0)) ∧ g < w3.heap.size) := ⟨by rw [B3.block g HR2.out.2]; exact HR2.out.1, Nat.lt_of_lt_of_le HR2.out.2 B3.size⟩
  have HTB := hide hTb
  have HTL := hide hT
  have hTs : T ≤ 40000 := by have := tbn_bytes t (m + 1); rw [hT]; omega
  have HGT : Hid (g < gt) := Nat.lt_of_lt_of_le HR2.out.2 hgt
  clear hgt hT hTb B3 HB2 HR2 HTim
  go_wp2_with fail
  refine (HVal.out w3 HB3.out).mono ?_
  rintro e w4 ⟨co, pv, cv, vb, rfl, hby, h256, hvi, B4⟩
  have hvl := valIs_len kind (m + 1) v co vb HF.out hvi
  obtain ⟨V, hV⟩ : ∃ V, vb.length = V := ⟨_, rfl⟩
  rw [hV] at hby hvl ⊢
  have hVs : V ≤ 40000 := by omega
  have hco : co ≤ 6 := hvl.2.2
  have HB4 : Hid (Below g w w4) := HB3.out.trans (B4.mono (Nat.le_of_lt HR3.out.2))
  have HR4 : Hid (w4.heap[g]? = some (.cells #[.int .i64 0, .int .i64 0, .int .i64 0, .int .i64 0, .int .i64 0, .int .u64 0, .int .u64 0, .int .i64 0, .int .i64 0, .int .i64 0, .int .i64 0, .slice none 0 0, .slice none 0 0] 68 (0, 0)) ∧ g < w4.heap.size) := ⟨by rw [B4.block g HR3.out.2]; exact HR3.out.1, Nat.lt_of_lt_of_le HR3.out.2 B4.size⟩
  have HTB4 : Hid (w4.heap[gt]? = some (.cells (bytesV (packed (tbn t (m + 1)))).toArray 5 (0, 0))) := by show _ = _; rw [B4.block gt (size_lt_of_row HTB.out)]; exact HTB.out
  have HVV : Hid ((∀ n ∈ vb, n < 256) ∧ ValIs kind (m + 1) v co vb ∧ V = vb.length) := ⟨h256, hvi, hV.symm⟩
  have HBY := hide hby
  clear hby h256 hvi hvl hV B4 HB3 HR3 HTB HVal HF
  go_wp2_with fail
  refine (HSum.out w4 HB4.out).mono ?_
  rintro e w5 ⟨rfl, B5⟩
  have HB5 : Hid (Below g w w5) := HB4.out.trans (B5.mono (Nat.le_of_lt HR4.out.2))
  have HR5 : Hid (w5.heap[g]? = some (.cells #[.int .i64 0, .int .i64 0, .int .i64 0, .int .i64 0, .int .i64 0, .int .u64 0, .int .u64 0, .int .i64 0, .int .i64 0, .int .i64 0, .int .i64 0, .slice none 0 0, .slice none 0 0] 68 (0, 0)) ∧ g < w5.heap.size) := ⟨by rw [B5.block g HR4.out.2]; exact HR4.out.1, Nat.lt_of_lt_of_le HR4.out.2 B5.size⟩
  have HTB5 : Hid (w5.heap[gt]? = some (.cells (bytesV (packed (tbn t (m + 1)))).toArray 5 (0, 0))) := by show _ = _; rw [B5.block gt (size_lt_of_row HTB4.out)]; exact HTB4.out
  have HBY5 := hide (isBy_below HBY.out B5)
  clear B5 HB4 HR4 HTB4 HBY HSum
  obtain ⟨x0, hx0⟩ : ∃ x, t 0 = x := ⟨_, rfl⟩
  obtain ⟨xl, hxl⟩ : ∃ x, t m = x := ⟨_, rfl⟩
  obtain ⟨na, hna⟩ : ∃ x, nanN v (m + 1) = x := ⟨_, rfl⟩
  obtain ⟨lv, hlv⟩ : ∃ x, leV v (m + 1) = x := ⟨_, rfl⟩
  obtain ⟨gv, hgv⟩ : ∃ x, grV v (m + 1) = x := ⟨_, rfl⟩
  have HLE := hide (And.intro hx0 (And.intro hxl (And.intro hna (And.intro hlv hgv))))
  rw [hx0, hxl, hna, hlv, hgv]
  clear hx0 hxl hna hlv hgv
  unfold bhA
  obtain ⟨h, hh⟩ : ∃ h, w5.heap.size = h := ⟨_, rfl⟩
  obtain ⟨W6, hW6⟩ : ∃ W6, w5.alloc (.cells #[.int .i64 kind, .int .i64 ((m : Int) + 1), .int .i64 (na : Int), .int .i64 x0, .int .i64 xl, .int .u64 (lv : Int), .int .u64 (gv : Int), .int .i64 0, .int .i64 (co : Int), .int .i64 (T : Int), .int .i64 (V : Int)] 66) = W6 := ⟨_, rfl⟩
  have HW6 : Hid (W6.heap[h]? = some (.cells #[.int .i64 kind, .int .i64 ((m : Int) + 1), .int .i64 (na : Int), .int .i64 x0, .int .i64 xl, .int .u64 (lv : Int), .int .u64 (gv : Int), .int .i64 0, .int .i64 (co : Int), .int .i64 (T : Int), .int .i64 (V : Int)] 66 (0, 0)) ∧ Below w5.heap.size w5 W6 ∧ h < W6.heap.size) := by rw [← hW6, ← hh]; exact ⟨heap_alloc_new _ _, (Below.refl _ _).alloc (Nat.le_refl _) _, by simp⟩
  go_upto_region 7 with fail
  (try rw [hW6])
  have HH := hide hh
  clear hW6 hh
  have o0 : W6.cell? ⟨h, 0, none⟩ = some (.int .i64 kind) := by rw [cell_of_row _ _ _ _ _ _ HW6.out.1]; rfl
  have o1 : W6.cell? ⟨h, 1, none⟩ = some (.int .i64 ((m : Int) + 1)) := by rw [cell_of_row _ _ _ _ _ _ HW6.out.1]; rfl
  have o2 : W6.cell? ⟨h, 2, none⟩ = some (.int .i64 (na : Int)) := by rw [cell_of_row _ _ _ _ _ _ HW6.out.1]; rfl
  have o3 : W6.cell? ⟨h, 3, none⟩ = some (.int .i64 x0) := by rw [cell_of_row _ _ _ _ _ _ HW6.out.1]; rfl
  have o4 : W6.cell? ⟨h, 4, none⟩ = some (.int .i64 xl) := by rw [cell_of_row _ _ _ _ _ _ HW6.out.1]; rfl
  have o5 : W6.cell? ⟨h, 5, none⟩ = some (.int .u64 (lv : Int)) := by rw [cell_of_row _ _ _ _ _ _ HW6.out.1]; rfl
  have o6 : W6.cell? ⟨h, 6, none⟩ = some (.int .u64 (gv : Int)) := by rw [cell_of_row _ _ _ _ _ _ HW6.out.1]; rfl
  have o7 : W6.cell? ⟨h, 7, none⟩ = some (.int .i64 0) := by rw [cell_of_row _ _ _ _ _ _ HW6.out.1]; rfl
  have o8 : W6.cell? ⟨h, 8, none⟩ = some (.int .i64 (co : Int)) := by rw [cell_of_row _ _ _ _ _ _ HW6.out.1]; rfl
  have o9 : W6.cell? ⟨h, 9, none⟩ = some (.int .i64 (T : Int)) := by rw [cell_of_row _ _ _ _ _ _ HW6.out.1]; rfl
  have o10 : W6.cell? ⟨h, 10, none⟩ = some (.int .i64 (V : Int)) := by rw [cell_of_row _ _ _ _ _ _ HW6.out.1]; rfl
  go_wp2_with fail
  refine (size_any kind ((m : Int) + 1) (na : Int) x0 xl 0 (co : Int) (T : Int) (V : Int) (lv : Int) (gv : Int) W6 (by omega) (by omega) (by omega) (by omega)).mono ?_
  rintro e w7 ⟨rfl, B7⟩
  have HW7 : Hid (w7.heap[h]? = some (.cells #[.int .i64 kind, .int .i64 ((m : Int) + 1), .int .i64 (na : Int), .int .i64 x0, .int .i64 xl, .int .u64 (lv : Int), .int .u64 (gv : Int), .int .i64 0, .int .i64 (co : Int), .int .i64 (T : Int), .int .i64 (V : Int)] 66 (0, 0)) ∧ Below w5.heap.size w5 w7) := ⟨by rw [B7.block h HW6.out.2.2]; exact HW6.out.1, HW6.out.2.1.trans (B7.mono HW6.out.2.1.size)⟩
  clear B7 HW6 o0 o1 o2 o3 o4 o5 o6 o7 o8 o9 o10
  have c7 : w7.cell? ⟨h, 7, none⟩ = some (.int .i64 0) := by rw [cell_of_row _ _ _ _ _ _ HW7.out.1]; rfl
  have f7 : w7.frozen? ⟨h, 7, none⟩ = false := frozen_of_row _ _ _ _ _ HW7.out.1
  obtain ⟨W8, hW8⟩ : ∃ W8, w7.setCell ⟨h, 7, none⟩ (.int .i64 ((T : Int) + (V : Int) + 55)) = W8 := ⟨_, rfl⟩
  have HW8 : Hid (W8.heap[h]? = some (.cells #[.int .i64 kind, .int .i64 ((m : Int) + 1), .int .i64 (na : Int), .int .i64 x0, .int .i64 xl, .int .u64 (lv : Int), .int .u64 (gv : Int), .int .i64 ((T : Int) + (V : Int) + 55), .int .i64 (co : Int), .int .i64 (T : Int), .int .i64 (V : Int)] 66 (0, 0)) ∧ Below w5.heap.size w5 W8) := by
    rw [← hW8]
    refine ⟨?_, below_set HW7.out.2 _ _ _ (Nat.le_of_eq HH.out)⟩
    rw [heap_setCell_same _ _ _ _ _ _ HW7.out.1]; simp
  go_upto_region 8 with fail
  (try rw [hW8])
  clear hW8 c7 f7 HW7
  have HRG : Hid (W8.heap[g]? = some (.cells #[.int .i64 0, .int .i64 0, .int .i64 0, .int .i64 0, .int .i64 0, .int .u64 0, .int .u64 0, .int .i64 0, .int .i64 0, .int .i64 0, .int .i64 0, .slice none 0 0, .slice none 0 0] 68 (0, 0)) ∧ Below g w W8) := ⟨by rw [HW8.out.2.block g HR5.out.2]; exact HR5.out.1, HB5.out.trans (HW8.out.2.mono (Nat.le_of_lt HR5.out.2))⟩
  have HTB8 : Hid (W8.heap[gt]? = some (.cells (bytesV (packed (tbn t (m + 1)))).toArray 5 (0, 0))) := by show _ = _; rw [HW8.out.2.block gt (size_lt_of_row HTB5.out)]; exact HTB5.out
  have HBY8 := hide (isBy_below HBY5.out HW8.out.2)
  have o0 : W8.cell? ⟨h, 0, none⟩ = some (.int .i64 kind) := by rw [cell_of_row _ _ _ _ _ _ HW8.out.1]; rfl
  have o1 : W8.cell? ⟨h, 1, none⟩ = some (.int .i64 ((m : Int) + 1)) := by rw [cell_of_row _ _ _ _ _ _ HW8.out.1]; rfl
  have o2 : W8.cell? ⟨h, 2, none⟩ = some (.int .i64 (na : Int)) := by rw [cell_of_row _ _ _ _ _ _ HW8.out.1]; rfl
  have o3 : W8.cell? ⟨h, 3, none⟩ = some (.int .i64 x0) := by rw [cell_of_row _ _ _ _ _ _ HW8.out.1]; rfl
  have o4 : W8.cell? ⟨h, 4, none⟩ = some (.int .i64 xl) := by rw [cell_of_row _ _ _ _ _ _ HW8.out.1]; rfl
  have o5 : W8.cell? ⟨h, 5, none⟩ = some (.int .u64 (lv : Int)) := by rw [cell_of_row _ _ _ _ _ _ HW8.out.1]; rfl
  have o6 : W8.cell? ⟨h, 6, none⟩ = some (.int .u64 (gv : Int)) := by rw [cell_of_row _ _ _ _ _ _ HW8.out.1]; rfl
  have o7 : W8.cell? ⟨h, 7, none⟩ = some (.int .i64 ((T : Int) + (V : Int) + 55)) := by rw [cell_of_row _ _ _ _ _ _ HW8.out.1]; rfl
  have o8 : W8.cell? ⟨h, 8, none⟩ = some (.int .i64 (co : Int)) := by rw [cell_of_row _ _ _ _ _ _ HW8.out.1]; rfl
  have o9 : W8.cell? ⟨h, 9, none⟩ = some (.int .i64 (T : Int)) := by rw [cell_of_row _ _ _ _ _ _ HW8.out.1]; rfl
  have o10 : W8.cell? ⟨h, 10, none⟩ = some (.int .i64 (V : Int)) := by rw [cell_of_row _ _ _ _ _ _ HW8.out.1]; rfl
  have z0 : W8.cell? ⟨g, 0, none⟩ = some (.int .i64 0) := by rw [cell_of_row _ _ _ _ _ _ HRG.out.1]; rfl
  have y0 : W8.frozen? ⟨g, 0, none⟩ = false := frozen_of_row _ _ _ _ _ HRG.out.1
  have z1 : W8.cell? ⟨g, 1, none⟩ = some (.int .i64 0) := by rw [cell_of_row _ _ _ _ _ _ HRG.out.1]; rfl
  have y1 : W8.frozen? ⟨g, 1, none⟩ = false := frozen_of_row _ _ _ _ _ HRG.out.1
  have z2 : W8.cell? ⟨g, 2, none⟩ = some (.int .i64 0) := by rw [cell_of_row _ _ _ _ _ _ HRG.out.1]; rfl
  have y2 : W8.frozen? ⟨g, 2, none⟩ = false := frozen_of_row _ _ _ _ _ HRG.out.1
  have z3 : W8.cell? ⟨g, 3, none⟩ = some (.int .i64 0) := by rw [cell_of_row _ _ _ _ _ _ HRG.out.1]; rfl
  have y3 : W8.frozen? ⟨g, 3, none⟩ = false := frozen_of_row _ _ _ _ _ HRG.out.1
  have z4 : W8.cell? ⟨g, 4, none⟩ = some (.int .i64 0) := by rw [cell_of_row _ _ _ _ _ _ HRG.out.1]; rfl
  have y4 : W8.frozen? ⟨g, 4, none⟩ = false := frozen_of_row _ _ _ _ _ HRG.out.1
  have z5 : W8.cell? ⟨g, 5, none⟩ = some (.int .u64 0) := by rw [cell_of_row _ _ _ _ _ _ HRG.out.1]; rfl
  have y5 : W8.frozen? ⟨g, 5, none⟩ = false := frozen_of_row _ _ _ _ _ HRG.out.1
  have z6 : W8.cell? ⟨g, 6, none⟩ = some (.int .u64 0) := by rw [cell_of_row _ _ _ _ _ _ HRG.out.1]; rfl
  have y6 : W8.frozen? ⟨g, 6, none⟩ = false := frozen_of_row _ _ _ _ _ HRG.out.1
  have z7 : W8.cell? ⟨g, 7, none⟩ = some (.int .i64 0) := by rw [cell_of_row _ _ _ _ _ _ HRG.out.1]; rfl
  have y7 : W8.frozen? ⟨g, 7, none⟩ = false := frozen_of_row _ _ _ _ _ HRG.out.1
  have z8 : W8.cell? ⟨g, 8, none⟩ = some (.int .i64 0) := by rw [cell_of_row _ _ _ _ _ _ HRG.out.1]; rfl
  have y8 : W8.frozen? ⟨g, 8, none⟩ = false := frozen_of_row _ _ _ _ _ HRG.out.1
  have z9 : W8.cell? ⟨g, 9, none⟩ = some (.int .i64 0) := by rw [cell_of_row _ _ _ _ _ _ HRG.out.1]; rfl
  have y9 : W8.frozen? ⟨g, 9, none⟩ = false := frozen_of_row _ _ _ _ _ HRG.out.1
  have z10 : W8.cell? ⟨g, 10, none⟩ = some (.int .i64 0) := by rw [cell_of_row _ _ _ _ _ _ HRG.out.1]; rfl
  have y10 : W8.frozen? ⟨g, 10, none⟩ = false := frozen_of_row _ _ _ _ _ HRG.out.1
  have z11 : W8.cell? ⟨g, 11, none⟩ = some (.slice none 0 0) := by rw [cell_of_row _ _ _ _ _ _ HRG.out.1]; rfl
  have y11 : W8.frozen? ⟨g, 11, none⟩ = false := frozen_of_row _ _ _ _ _ HRG.out.1
  have z12 : W8.cell? ⟨g, 12, none⟩ = some (.slice none 0 0) := by rw [cell_of_row _ _ _ _ _ _ HRG.out.1]; rfl
  have y12 : W8.frozen? ⟨g, 12, none⟩ = false := frozen_of_row _ _ _ _ _ HRG.out.1
  have HFR : Hid ((((((((((((((W8.setCell ⟨g, 0, none⟩ (.int .i64 kind)).setCell ⟨g, 1, none⟩ (.int .i64 ((m : Int) + 1))).setCell ⟨g, 2, none⟩ (.int .i64 (na : Int))).setCell ⟨g, 3, none⟩ (.int .i64 x0)).setCell ⟨g, 4, none⟩ (.int .i64 xl)).setCell ⟨g, 5, none⟩ (.int .u64 (lv : Int))).setCell ⟨g, 6, none⟩ (.int .u64 (gv : Int))).setCell ⟨g, 7, none⟩ (.int .i64 ((T : Int) + (V : Int) + 55))).setCell ⟨g, 8, none⟩ (.int .i64 (co : Int))).setCell ⟨g, 9, none⟩ (.int .i64 (T : Int))).setCell ⟨g, 10, none⟩ (.int .i64 (V : Int))).setCell ⟨g, 11, none⟩ (.slice (some ⟨gt, 0, none⟩) T T)).setCell ⟨g, 12, none⟩ (.slice pv V cv)).heap[g]? = some (.cells #[.int .i64 kind, .int .i64 ((m : Int) + 1), .int .i64 (na : Int), .int .i64 x0, .int .i64 xl, .int .u64 (lv : Int), .int .u64 (gv : Int), .int .i64 ((T : Int) + (V : Int) + 55), .int .i64 (co : Int), .int .i64 (T : Int), .int .i64 (V : Int), .slice (some ⟨gt, 0, none⟩) T T, .slice pv V cv] 68 (0, 0)) ∧ Below g w (((((((((((((W8.setCell ⟨g, 0, none⟩ (.int .i64 kind)).setCell ⟨g, 1, none⟩ (.int .i64 ((m : Int) + 1))).setCell ⟨g, 2, none⟩ (.int .i64 (na : Int))).setCell ⟨g, 3, none⟩ (.int .i64 x0)).setCell ⟨g, 4, none⟩ (.int .i64 xl)).setCell ⟨g, 5, none⟩ (.int .u64 (lv : Int))).setCell ⟨g, 6, none⟩ (.int .u64 (gv : Int))).setCell ⟨g, 7, none⟩ (.int .i64 ((T : Int) + (V : Int) + 55))).setCell ⟨g, 8, none⟩ (.int .i64 (co : Int))).setCell ⟨g, 9, none⟩ (.int .i64 (T : Int))).setCell ⟨g, 10, none⟩ (.int .i64 (V : Int))).setCell ⟨g, 11, none⟩ (.slice (some ⟨gt, 0, none⟩) T T)).setCell ⟨g, 12, none⟩ (.slice pv V cv))) := ⟨set_row13 _ _ _ _ _ _ _ _ _ _ _ _ _ _ _ _ _ _ _ _ _ _ _ _ _ _ _ _ _ HRG.out.1, below_row13 HRG.out.2 _ _ _ _ _ _ _ _ _ _ _ _ _ _ (Nat.le_refl _)⟩
  have HFB : Hid (∀ k, k ≠ g → (((((((((((((W8.setCell ⟨g, 0, none⟩ (.int .i64 kind)).setCell ⟨g, 1, none⟩ (.int .i64 ((m : Int) + 1))).setCell ⟨g, 2, none⟩ (.int .i64 (na : Int))).setCell ⟨g, 3, none⟩ (.int .i64 x0)).setCell ⟨g, 4, none⟩ (.int .i64 xl)).setCell ⟨g, 5, none⟩ (.int .u64 (lv : Int))).setCell ⟨g, 6, none⟩ (.int .u64 (gv : Int))).setCell ⟨g, 7, none⟩ (.int .i64 ((T : Int) + (V : Int) + 55))).setCell ⟨g, 8, none⟩ (.int .i64 (co : Int))).setCell ⟨g, 9, none⟩ (.int .i64 (T : Int))).setCell ⟨g, 10, none⟩ (.int .i64 (V : Int))).setCell ⟨g, 11, none⟩ (.slice (some ⟨gt, 0, none⟩) T T)).setCell ⟨g, 12, none⟩ (.slice pv V cv)).heap[k]? = W8.heap[k]?) := fun k hk => by
    rw [Below.heap_setCell _ _ _ _ hk, Below.heap_setCell _ _ _ _ hk, Below.heap_setCell _ _ _ _ hk, Below.heap_setCell _ _ _ _ hk, Below.heap_setCell _ _ _ _ hk, Below.heap_setCell _ _ _ _ hk, Below.heap_setCell _ _ _ _ hk, Below.heap_setCell _ _ _ _ hk, Below.heap_setCell _ _ _ _ hk, Below.heap_setCell _ _ _ _ hk, Below.heap_setCell _ _ _ _ hk, Below.heap_setCell _ _ _ _ hk, Below.heap_setCell _ _ _ _ hk]
  clear HW8 HR5 HB5 HTB5 HBY5
  go_wp2_with fail
  generalize (((((((((((((W8.setCell ⟨g, 0, none⟩ (.int .i64 kind)).setCell ⟨g, 1, none⟩ (.int .i64 ((m : Int) + 1))).setCell ⟨g, 2, none⟩ (.int .i64 (na : Int))).setCell ⟨g, 3, none⟩ (.int .i64 x0)).setCell ⟨g, 4, none⟩ (.int .i64 xl)).setCell ⟨g, 5, none⟩ (.int .u64 (lv : Int))).setCell ⟨g, 6, none⟩ (.int .u64 (gv : Int))).setCell ⟨g, 7, none⟩ (.int .i64 ((T : Int) + (V : Int) + 55))).setCell ⟨g, 8, none⟩ (.int .i64 (co : Int))).setCell ⟨g, 9, none⟩ (.int .i64 (T : Int))).setCell ⟨g, 10, none⟩ (.int .i64 (V : Int))).setCell ⟨g, 11, none⟩ (.slice (some ⟨gt, 0, none⟩) T T)).setCell ⟨g, 12, none⟩ (.slice pv V cv)) = WF at *
  have u0 : WF.cell? ⟨g, 0, none⟩ = some (.int .i64 kind) := by rw [cell_of_row _ _ _ _ _ _ HFR.out.1]; rfl
  have u1 : WF.cell? ⟨g, 1, none⟩ = some (.int .i64 ((m : Int) + 1)) := by rw [cell_of_row _ _ _ _ _ _ HFR.out.1]; rfl
  have u2 : WF.cell? ⟨g, 2, none⟩ = some (.int .i64 (na : Int)) := by rw [cell_of_row _ _ _ _ _ _ HFR.out.1]; rfl
  have u3 : WF.cell? ⟨g, 3, none⟩ = some (.int .i64 x0) := by rw [cell_of_row _ _ _ _ _ _ HFR.out.1]; rfl
  have u4 : WF.cell? ⟨g, 4, none⟩ = some (.int .i64 xl) := by rw [cell_of_row _ _ _ _ _ _ HFR.out.1]; rfl
  have u5 : WF.cell? ⟨g, 5, none⟩ = some (.int .u64 (lv : Int)) := by rw [cell_of_row _ _ _ _ _ _ HFR.out.1]; rfl
  have u6 : WF.cell? ⟨g, 6, none⟩ = some (.int .u64 (gv : Int)) := by rw [cell_of_row _ _ _ _ _ _ HFR.out.1]; rfl
  have u7 : WF.cell? ⟨g, 7, none⟩ = some (.int .i64 ((T : Int) + (V : Int) + 55)) := by rw [cell_of_row _ _ _ _ _ _ HFR.out.1]; rfl
  have u8 : WF.cell? ⟨g, 8, none⟩ = some (.int .i64 (co : Int)) := by rw [cell_of_row _ _ _ _ _ _ HFR.out.1]; rfl
  have u9 : WF.cell? ⟨g, 9, none⟩ = some (.int .i64 (T : Int)) := by rw [cell_of_row _ _ _ _ _ _ HFR.out.1]; rfl
  have u10 : WF.cell? ⟨g, 10, none⟩ = some (.int .i64 (V : Int)) := by rw [cell_of_row _ _ _ _ _ _ HFR.out.1]; rfl
  have u11 : WF.cell? ⟨g, 11, none⟩ = some (.slice (some ⟨gt, 0, none⟩) T T) := by rw [cell_of_row _ _ _ _ _ _ HFR.out.1]; rfl
  have u12 : WF.cell? ⟨g, 12, none⟩ = some (.slice pv V cv) := by rw [cell_of_row _ _ _ _ _ _ HFR.out.1]; rfl
  exact bodyPost_ret (v := .tuple #[.agg (ptA kind (m + 1) na x0 xl lv gv ((T : Int) + (V : Int) + 55) co T V (.slice (some ⟨gt, 0, none⟩) T T) (.slice pv V cv)), .int .i64 0]) (by simp [results, Tryz.results28, go_sem, ptA, u0, u1, u2, u3, u4, u5, u6, u7, u8, u9, u10, u11, u12]) rfl
    ⟨co, T, V, gt, cv, pv, vb, by rw [Nat.add_sub_cancel, HLE.out.1, HLE.out.2.1, HLE.out.2.2.1, HLE.out.2.2.2.1, HLE.out.2.2.2.2], HTL.out, by rw [HFB.out gt (by have := HGT.out; omega)]; exact HTB8.out, HVV.out.2.2, isBy_other HBY8.out HRG.out.1 (by simp) HFB.out, HVV.out.1, HVV.out.2.1, by rw [HG.out]; exact HFR.out.2⟩

end Go.Proofs.YtpdaklklhoenhaaGreatDoor

/- The CRC-32, bit by bit and four bits at a time. Plain mathematics. -/
namespace Go.Proofs.YtpdaklklhoenhaaGreatDoor
set_option linter.unusedVariables false

/-- One bit drops. -/
def st1 (x : Nat) : Nat := if x % 2 = 1 then (x / 2) ^^^ 3988292384 else x / 2
def stN : Nat → Nat → Nat
  | 0, x => x
  | k + 1, x => stN k (st1 x)

theorem xor_half (a b : Nat) : (a ^^^ b) / 2 = (a / 2) ^^^ (b / 2) := by
  have := @Nat.xor_div_two_pow a b 1
  simpa using this

theorem xor_odd (a b : Nat) : (a ^^^ b) % 2 = (a % 2) ^^^ (b % 2) := by
  have := @Nat.xor_mod_two_pow a b 1
  simpa using this

theorem st1_xor (a b : Nat) : st1 (a ^^^ b) = st1 a ^^^ st1 b := by
  unfold st1
  rw [xor_half, xor_odd]
  rcases Nat.mod_two_eq_zero_or_one a with ha | ha <;> rcases Nat.mod_two_eq_zero_or_one b with hb | hb <;> rw [ha, hb]
  · simp
  · simp [Nat.xor_assoc]
  · simp only [show (1 : Nat) ^^^ 0 = 1 from rfl, if_true]
    rw [if_neg (by omega), Nat.xor_assoc, Nat.xor_assoc, Nat.xor_comm (b / 2)]
  · simp only [show (1 : Nat) ^^^ 1 = 0 from rfl, if_true]
    rw [if_neg (by omega)]
    generalize a / 2 = x
    generalize b / 2 = y
    rw [Nat.xor_assoc, ← Nat.xor_assoc 3988292384, Nat.xor_comm 3988292384 y, Nat.xor_assoc y, Nat.xor_self, Nat.xor_zero]

theorem stN_xor (k a b : Nat) : stN k (a ^^^ b) = stN k a ^^^ stN k b := by
  induction k generalizing a b with
  | zero => rfl
  | succ k ih => rw [stN, stN, stN, st1_xor, ih]

theorem st1_even (y : Nat) : st1 (2 * y) = y := by
  unfold st1; rw [if_neg (by omega)]; omega

theorem stN_even (k y : Nat) : stN k (2 ^ k * y) = y := by
  induction k generalizing y with
  | zero => simp [stN]
  | succ k ih => rw [stN, show 2 ^ (k + 1) * y = 2 * (2 ^ k * y) from by rw [Nat.pow_succ, Nat.mul_comm (2 ^ k) 2, Nat.mul_assoc], st1_even, ih]

theorem split16 (x : Nat) : (16 * (x / 16)) ^^^ (x % 16) = x := by
  have h : 16 * (x / 16) + x % 16 = x := Nat.div_add_mod x 16
  have h2 := Nat.two_pow_add_eq_or_of_lt (i := 4) (b := x % 16) (Nat.mod_lt _ (by omega)) (x / 16)
  have h3 : (2 ^ 4 * (x / 16)) ^^^ (x % 16) = (2 ^ 4 * (x / 16)) ||| (x % 16) := by
    apply Nat.eq_of_testBit_eq
    intro i
    rw [Nat.testBit_xor, Nat.testBit_or]
    by_cases hi : i < 4
    · have hq : (2 ^ 4 * (x / 16)).testBit i = false := by rw [Nat.testBit_two_pow_mul]; simp; omega
      rw [hq]; simp
    · have hq : (x % 16).testBit i = false := Nat.testBit_lt_two_pow (Nat.lt_of_lt_of_le (Nat.mod_lt x (by omega)) (show 16 ≤ 2 ^ i from Nat.pow_le_pow_right (n := 2) (by omega) (show 4 ≤ i by omega)))
      rw [hq]; simp
  have h4 : (2 : Nat) ^ 4 = 16 := rfl
  rw [h4] at h2 h3
  rw [h3, ← h2, h]

/-- Four bits at a time. -/
theorem st4 (x : Nat) : stN 4 x = (x / 16) ^^^ stN 4 (x % 16) := by
  conv => lhs; rw [← split16 x, stN_xor]
  rw [show (16 : Nat) * (x / 16) = 2 ^ 4 * (x / 16) from rfl, stN_even]

theorem stN_add (j k x : Nat) : stN (j + k) x = stN k (stN j x) := by
  induction j generalizing x with
  | zero => rw [Nat.zero_add]; rfl
  | succ j ih => rw [Nat.succ_add, stN, stN, ih]

def crcTab : List Nat := [0x00000000, 0x1db71064, 0x3b6e20c8, 0x26d930ac, 0x76dc4190, 0x6b6b51f4, 0x4db26158, 0x5005713c, 0xedb88320, 0xf00f9344, 0xd6d6a3e8, 0xcb61b38c, 0x9b64c2b0, 0x86d3d2d4, 0xa00ae278, 0xbdbdf21c]

theorem tab_ok (i : Nat) (h : i < 16) : stN 4 i = crcTab.getD i 0 := by
  have : ∀ j : Fin 16, stN 4 j.val = crcTab.getD j.val 0 := by decide +kernel
  exact this ⟨i, h⟩

theorem tab_lt (i : Nat) (h : i < 16) : crcTab.getD i 0 < 4294967296 := by
  have : ∀ j : Fin 16, crcTab.getD j.val 0 < 4294967296 := by decide +kernel
  exact this ⟨i, h⟩

/-- One byte more. -/
def crc1 (x c : Nat) : Nat := stN 8 (x ^^^ c)
theorem crc1_two (x c y z : Nat) (hy : y = x ^^^ c) (hz : z = (y / 16) ^^^ crcTab.getD (y % 16) 0) : crc1 x c = (z / 16) ^^^ crcTab.getD (z % 16) 0 := by
  unfold crc1
  rw [← hy, show (8 : Nat) = 4 + 4 from rfl, stN_add, st4 y, tab_ok (y % 16) (Nat.mod_lt _ (by omega)), ← hz, st4 z, tab_ok (z % 16) (Nat.mod_lt _ (by omega))]

def crcF (bs : List Nat) : Nat → Nat
  | 0 => 4294967295
  | k + 1 => crc1 (crcF bs k) (bs.getD k 0)

theorem st1_lt (x : Nat) (h : x < 4294967296) : st1 x < 4294967296 := by
  unfold st1
  split
  · exact Nat.xor_lt_two_pow (n := 32) (by show x / 2 < 4294967296; omega) (by decide)
  · omega
theorem stN_lt (k x : Nat) (h : x < 4294967296) : stN k x < 4294967296 := by
  induction k generalizing x with
  | zero => exact h
  | succ k ih => exact ih _ (st1_lt x h)
theorem crcF_lt (bs : List Nat) (hb : ∀ n ∈ bs, n < 256) (k : Nat) : crcF bs k < 4294967296 := by
  induction k with
  | zero => show 4294967295 < 4294967296; omega
  | succ k ih =>
    refine stN_lt 8 _ (Nat.xor_lt_two_pow (n := 32) ih ?_)
    show bs.getD k 0 < 4294967296
    by_cases h : k < bs.length
    · have := hb (bs.getD k 0) (by rw [List.getD_eq_getElem?_getD, List.getElem?_eq_getElem h]; exact List.getElem_mem h)
      omega
    · rw [List.getD_eq_getElem?_getD, List.getElem?_eq_none (by omega)]; decide

/-- The sum. -/
def crcO (bs : List Nat) : Nat := 4294967295 - crcF bs bs.length

end Go.Proofs.YtpdaklklhoenhaaGreatDoor

namespace Go.Proofs.YtpdaklklhoenhaaGreatDoor
open Go.RowKit
set_option linter.unusedVariables false
set_option linter.unusedSimpArgs false

/-- The table of changes lies. -/
def TabC (w : World) : Prop := ∀ j, j < 16 → w.cell? ⟨0, j, none⟩ = some (.int .u32 ((crcTab.getD j 0 : Nat) : Int))

theorem TabC.below {w w' : World} (h : TabC w) (hb : Below w.heap.size w w') : TabC w' := fun j hj => by
  rw [hb.cell (p := ⟨0, j, none⟩) (block_lt_of_cell (h j hj))]; exact h j hj

theorem by_slice {w : World} {v : Value} {bs : List Nat} (h : IsBy w v bs) : ∃ p cap, v = .slice p bs.length cap ∧ ∀ i, i < bs.length → ∃ b o, p = some ⟨b, o, none⟩ ∧ w.cell? ⟨b, o + i, none⟩ = some (.int .u8 ((bs.getD i 0 : Nat) : Int)) := by
  rcases h with (⟨h1, h2⟩ | ⟨g, o, cap, h1, h2⟩) | ⟨ad, cap, h1, h2⟩
  · exact ⟨none, 0, by rw [h1, h2]; rfl, fun i hi => by rw [h2] at hi; simp at hi⟩
  · exact ⟨_, cap, h1, fun i hi => ⟨g, o, rfl, h2 i hi⟩⟩
  · exact ⟨some ad, cap, by rw [h1, h2]; rfl, fun i hi => by rw [h2] at hi; simp at hi⟩

theorem getD_lt {bs : List Nat} (hb : ∀ n ∈ bs, n < 256) (i : Nat) (hi : i < bs.length) : bs.getD i 0 < 256 := hb _ (by rw [List.getD_eq_getElem?_getD, List.getElem?_eq_getElem hi]; exact List.getElem_mem hi)

theorem and15 (x : Nat) (hx : x < 4294967296) : bits BinOp.and IntKind.u32 (x : Int) 15 = ((x % 16 : Nat) : Int) := by
  have h := u32_and_nat x 15 hx (by omega)
  have e : x &&& 15 = x % 16 := Nat.and_two_pow_sub_one_eq_mod x 4
  rw [e] at h
  exact h

set_option maxRecDepth 100000 in
theorem bsum_any (v : Value) (bs : List Nat) (w : World) (h : IsBy w v bs) (hb : ∀ n ∈ bs, n < 256) (hl : bs.length ≤ 1000000000000) (hT : TabC w) :
    Calls Tryz.prog 8 #[v] w fun e w' => e = .returned (.int .u32 (crcO bs : Nat)) ∧ w' = w := by
  obtain ⟨p, cap, rfl, hc⟩ := by_slice h
  have HC := hide hc
  have HB := hide hb
  have HT := hide hT
  have HN : Hid (bits BinOp.xor IntKind.u32 IntKind.u32.max (crcF bs bs.length : Int) = ((crcO bs : Nat) : Int)) := b32_not _ (crcF_lt bs hb _)
  obtain ⟨n, hn⟩ : ∃ n, bs.length = n := ⟨_, rfl⟩
  rw [hn] at hl HC HN ⊢
  clear h hb hT hc hn
  go_enter Tryz.func8, Tryz.ntmps8
  go_wp2_with fail
  go_loopw [3, 8] (fun t3 t8 wr => ∃ k x : Nat, t8 = .int .i64 (k : Int) ∧ t3 = .int .u32 (x : Int) ∧ wr = w ∧ Hid (k ≤ n ∧ x = crcF bs k)) (fun _ t8 _ => n - (intOf t8).toNat)
  case atStart => exact ⟨0, 4294967295, rfl, rfl, rfl, Nat.zero_le _, rfl⟩
  case round =>
    obtain ⟨k, x, rfl, rfl, rfl, hI⟩ := hrel
    by_cases hlt : k < n
    · obtain ⟨b, o, rfl, c1⟩ := HC.out k hlt
      obtain ⟨c, hc⟩ : ∃ c, bs.getD k 0 = c := ⟨_, rfl⟩
      have hc8 : c < 256 := by
        by_cases hk : k < bs.length
        · rw [← hc]; exact getD_lt HB.out k hk
        · rw [← hc, List.getD_eq_getElem?_getD, List.getElem?_eq_none (by omega)]; decide
      rw [hc] at c1
      have hx : x < 4294967296 := by rw [hI.out.2]; exact crcF_lt bs HB.out k
      obtain ⟨y, hy⟩ : ∃ y, y = x ^^^ c := ⟨_, rfl⟩
      have hyl : y < 4294967296 := by rw [hy]; exact Nat.xor_lt_two_pow (n := 32) hx (by omega)
      obtain ⟨j1, hj1⟩ : ∃ j, y % 16 = j := ⟨_, rfl⟩
      have hj1l : j1 < 16 := by omega
      obtain ⟨t1, ht1⟩ : ∃ t, crcTab.getD j1 0 = t := ⟨_, rfl⟩
      have ht1l : t1 < 4294967296 := by rw [← ht1]; exact tab_lt j1 hj1l
      obtain ⟨y1, hy1⟩ : ∃ q, y / 16 = q := ⟨_, rfl⟩
      obtain ⟨z, hz⟩ : ∃ z, z = y1 ^^^ t1 := ⟨_, rfl⟩
      have hzl : z < 4294967296 := by rw [hz]; exact Nat.xor_lt_two_pow (n := 32) (by show y1 < 4294967296; omega) ht1l
      obtain ⟨j2, hj2⟩ : ∃ j, z % 16 = j := ⟨_, rfl⟩
      have hj2l : j2 < 16 := by omega
      obtain ⟨t2, ht2⟩ : ∃ t, crcTab.getD j2 0 = t := ⟨_, rfl⟩
      have ht2l : t2 < 4294967296 := by rw [← ht2]; exact tab_lt j2 hj2l
      obtain ⟨z1, hz1⟩ : ∃ q, z / 16 = q := ⟨_, rfl⟩
      obtain ⟨x2, hx2⟩ : ∃ x2, x2 = z1 ^^^ t2 := ⟨_, rfl⟩
      have HNX : Hid (x2 = crcF bs (k + 1)) := by
        show x2 = crc1 (crcF bs k) (bs.getD k 0)
        rw [hc, ← hI.out.2, crc1_two x c y z hy (by rw [hy1, hj1, ht1]; exact hz), hz1, hj2, ht2]; exact hx2
      have r0 : IntKind.u32.wrap (c : Int) = (c : Int) := by rw [IntKind.wrap_u32]; omega
      have q1 : bits BinOp.xor IntKind.u32 (x : Int) (c : Int) = (y : Int) := by rw [hy]; exact u32_xor_nat x c hx (by omega)
      have d1 : (y : Int) / 16 = (y1 : Int) := by omega
      have a1 : bits BinOp.and IntKind.u32 (y : Int) 15 = (j1 : Int) := by rw [and15 y hyl, hj1]
      have q2 : bits BinOp.xor IntKind.u32 (y1 : Int) (t1 : Int) = (z : Int) := by rw [hz]; exact u32_xor_nat y1 t1 (by omega) ht1l
      have d2 : (z : Int) / 16 = (z1 : Int) := by omega
      have a2 : bits BinOp.and IntKind.u32 (z : Int) 15 = (j2 : Int) := by rw [and15 z hzl, hj2]
      have q3 : bits BinOp.xor IntKind.u32 (z1 : Int) (t2 : Int) = (x2 : Int) := by rw [hx2]; exact u32_xor_nat z1 t2 (by omega) ht2l
      have e1 : wr.cell? ⟨0, j1, none⟩ = some (.int .u32 (t1 : Int)) := by rw [← ht1]; exact HT.out j1 hj1l
      have e2 : wr.cell? ⟨0, j2, none⟩ = some (.int .u32 (t2 : Int)) := by rw [← ht2]; exact HT.out j2 hj2l
      clear hc hy hj1 ht1 hy1 hz hj2 ht2 hz1 hx2 hI hx hyl hzl ht1l ht2l
      go_wp2_with (simp only [q1, d1, a1, q2, d2, a2, q3])
      go_roundw
      case rel => exact ⟨k + 1, x2, by simp, rfl, by trivial, hlt, HNX.out⟩
      case measure => simp [intOf]; omega
    · have hk : k = n := by have := hI.out.1; omega
      have q1 : bits BinOp.xor IntKind.u32 IntKind.u32.max (x : Int) = ((crcO bs : Nat) : Int) := by rw [hI.out.2, hk]; exact HN.out
      have HQ := hide q1
      clear q1
      go_wp2_with fail
      go_ret
      exact ⟨by rw [← HQ.out]; rfl, rfl⟩

theorem st1_odd (x : Nat) (h : x % 2 = 1) : st1 x = (x / 2) ^^^ 3988292384 := if_pos h
theorem st1_ev (x : Nat) (h : ¬ x % 2 = 1) : st1 x = x / 2 := if_neg h

theorem stN_end (k x : Nat) : stN (k + 1) x = st1 (stN k x) := by rw [stN_add]; rfl

set_option maxRecDepth 100000 in
theorem rsum_any (v : Value) (bs : List Nat) (w : World) (h : IsBy w v bs) (hb : ∀ n ∈ bs, n < 256) (hl : bs.length ≤ 1000000000000) :
    Calls Tryz.prog 9 #[v] w fun e w' => e = .returned (.int .u32 (crcO bs : Nat)) ∧ w' = w := by
  obtain ⟨p, cap, rfl, hc⟩ := by_slice h
  have HC := hide hc
  have HB := hide hb
  have HN : Hid (bits BinOp.xor IntKind.u32 IntKind.u32.max (crcF bs bs.length : Int) = ((crcO bs : Nat) : Int)) := b32_not _ (crcF_lt bs hb _)
  obtain ⟨n, hn⟩ : ∃ n, bs.length = n := ⟨_, rfl⟩
  rw [hn] at hl HC HN ⊢
  clear h hb hc hn
  go_enter Tryz.func9, Tryz.ntmps9
  go_wp2_with fail
  go_loopw [3, 4] (fun t3 t4 wr => ∃ k x : Nat, t4 = .int .i64 (k : Int) ∧ t3 = .int .u32 (x : Int) ∧ wr = w ∧ Hid (k ≤ n ∧ x = crcF bs k)) (fun _ t4 _ => n - (intOf t4).toNat)
  case atStart => exact ⟨0, 4294967295, rfl, rfl, rfl, Nat.zero_le _, rfl⟩
  case round =>
    obtain ⟨k, x, rfl, rfl, rfl, hI⟩ := hrel
    by_cases hlt : k < n
    · obtain ⟨b, o, rfl, c1⟩ := HC.out k hlt
      obtain ⟨c, hc⟩ : ∃ c, bs.getD k 0 = c := ⟨_, rfl⟩
      have hc8 : c < 256 := by
        by_cases hk : k < bs.length
        · rw [← hc]; exact getD_lt HB.out k hk
        · rw [← hc, List.getD_eq_getElem?_getD, List.getElem?_eq_none (by omega)]; decide
      rw [hc] at c1
      have hx : x < 4294967296 := by rw [hI.out.2]; exact crcF_lt bs HB.out k
      obtain ⟨y, hy⟩ : ∃ y, y = x ^^^ c := ⟨_, rfl⟩
      have hyl : y < 4294967296 := by rw [hy]; exact Nat.xor_lt_two_pow (n := 32) hx (by omega)
      have r0 : IntKind.u32.wrap (c : Int) = (c : Int) := by rw [IntKind.wrap_u32]; omega
      have q1 : bits BinOp.xor IntKind.u32 (x : Int) (c : Int) = (y : Int) := by rw [hy]; exact u32_xor_nat x c hx (by omega)
      have HNX : Hid (stN 8 y = crcF bs (k + 1)) := by
        show stN 8 y = crc1 (crcF bs k) (bs.getD k 0)
        rw [hc, ← hI.out.2, hy]; rfl
      have HYL := hide hyl
      clear hc hy hI hx hyl
      go_wp2_with (simp only [q1])
      go_loopw [3, 5] (fun t3 t5 wq => ∃ j z : Nat, t5 = .int .i64 (j : Int) ∧ t3 = .int .u32 (z : Int) ∧ wq = wr ∧ Hid (j ≤ 8 ∧ z = stN j y)) (fun _ t5 _ => 8 - (intOf t5).toNat)
      case atStart => exact ⟨0, y, rfl, rfl, rfl, Nat.zero_le _, rfl⟩
      case round =>
        obtain ⟨j, z, rfl, rfl, hwq, hJ⟩ := hrel
        have hwq := hwq.symm
        subst hwq
        by_cases hj : j < 8
        · have hjl : (j : Int) < 8 := by omega
          have hzl : z < 4294967296 := by rw [hJ.out.2]; exact stN_lt j y HYL.out
          have HST : Hid (stN (j + 1) y = st1 z) := by show _ = _; rw [stN_end, ← hJ.out.2]
          obtain ⟨h2, hh2⟩ : ∃ q, z / 2 = q := ⟨_, rfl⟩
          have hh2l : h2 < 4294967296 := by omega
          have d1 : (z : Int).tdiv 2 = (h2 : Int) := by rw [← hh2]; rfl
          have d1' : (z : Int) / 2 = (h2 : Int) := by omega
          have w1 : IntKind.u32.wrap (h2 : Int) = (h2 : Int) := by rw [IntKind.wrap_u32]; omega
          have w2 : (h2 : Int) % 4294967296 = (h2 : Int) := by omega
          by_cases ho : z % 2 = 1
          · have m1 : (z : Int).tmod 2 = 1 := by rw [show (z : Int).tmod 2 = ((z % 2 : Nat) : Int) from rfl, ho]; rfl
            have m1' : (z : Int) % 2 = 1 := by omega
            obtain ⟨z2, hz2⟩ : ∃ z2, z2 = h2 ^^^ 3988292384 := ⟨_, rfl⟩
            have q2 : bits BinOp.xor IntKind.u32 (h2 : Int) 3988292384 = (z2 : Int) := by rw [hz2]; exact u32_xor_nat h2 3988292384 hh2l (by omega)
            have HNZ : Hid (z2 = stN (j + 1) y) := by rw [HST.out, st1_odd z ho, hh2, hz2]; rfl
            clear hJ hh2 hz2 hzl ho hh2l
            go_wp2_with (simp only [d1, d1', m1, m1', w1, w2, q2])
            go_roundw
            case rel => exact ⟨j + 1, z2, by simp, by first | rfl | (simp only [w2, q2]), by trivial, by omega, HNZ.out⟩
            case measure => simp [intOf]; omega
          · have m1 : (z : Int).tmod 2 = 0 := by rw [show (z : Int).tmod 2 = ((z % 2 : Nat) : Int) from rfl, show z % 2 = 0 by omega]; rfl
            have m1' : (z : Int) % 2 = 0 := by omega
            have HNZ : Hid (h2 = stN (j + 1) y) := by rw [HST.out, st1_ev z ho, hh2]; rfl
            clear hJ hh2 hzl ho hh2l
            go_wp2_with (simp only [d1, d1', m1, m1', w1, w2])
            go_roundw
            case rel => exact ⟨j + 1, h2, by simp, by first | rfl | (simp only [w2]), by trivial, by omega, HNZ.out⟩
            case measure => simp [intOf]; omega
        · have hj8 : j = 8 := by have := hJ.out.1; omega
          subst hj8
          have HZ : Hid (z = crcF bs (k + 1)) := by rw [← HNX.out]; exact hJ.out.2
          clear hJ
          go_wp2_with fail
          go_roundw
          case rel => exact ⟨k + 1, z, by simp, rfl, by trivial, hlt, HZ.out⟩
          case measure => simp [intOf]; omega
    · have hk : k = n := by have := hI.out.1; omega
      have q1 : bits BinOp.xor IntKind.u32 IntKind.u32.max (x : Int) = ((crcO bs : Nat) : Int) := by rw [hI.out.2, hk]; exact HN.out
      have HQ := hide q1
      clear q1
      go_wp2_with fail
      go_ret
      exact ⟨by rw [← HQ.out]; rfl, rfl⟩

end Go.Proofs.YtpdaklklhoenhaaGreatDoor

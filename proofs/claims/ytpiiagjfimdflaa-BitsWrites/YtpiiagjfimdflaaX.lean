/- The law's lay and put, of a number that may be laid: the program's Writer and the document's side by side. -/
import Derived.Test.YtpiiagjfimdflaaO
namespace Go.Proofs.Ytpiiagjfimdflaa
open Go.RowKit
open M
set_option linter.unusedVariables false

theorem ownsRow_keep {w w' : World} {base : Nat} {t : TypeId} {size : Nat} {v : Value} {n : Nat} {xs : List Value} (h : w.ownsRow base t size v n xs) (hk : ∀ g, v.ownBlock = some g → w'.heap[g]? = w.heap[g]?) : w'.ownsRow base t size v n xs := by
  obtain ⟨h1, h2⟩ := h
  refine ⟨h1, ?_⟩
  rcases h2 with h2 | ⟨g, cap, cur, rfl, h4, h5, h6⟩
  · exact .inl h2
  · exact .inr ⟨g, cap, cur, rfl, h4, (hk g rfl).trans h5, h6⟩

theorem Rw.lt {w : World} {c o : Nat} {r : Option Nat} {l : List Bool} {e : Int} (h : Rw w c o r l e) : c < w.heap.size := block_lt_of_cell h.err

theorem Rw.keep {w w' : World} {c o : Nat} {r : Option Nat} {l : List Bool} {e : Int} (h : Rw w c o r l e) (hs : w.heap.size ≤ w'.heap.size) (hc : w'.heap[c]? = w.heap[c]?) (hr : ∀ g, r = some g → w'.heap[g]? = w.heap[g]?) : Rw w' c o r l e := by
  obtain ⟨v, h1, h2, h3, h4⟩ := h.row
  refine ⟨⟨v, ?_, ownsRow_keep h2 (fun g hg => hr g (h3 ▸ hg)), h3, h4⟩, ?_, fun j hj => ?_, fun g hg => ⟨(h.apart g hg).1, Nat.lt_of_lt_of_le (h.apart g hg).2 hs⟩⟩
  · rw [World.cell?_of_block (w := w) hc]; exact h1
  · rw [World.cell?_of_block (w := w) hc]; exact h.err
  · rw [World.frozen?_of_block (w := w) (w' := w') (a := ⟨c, o + j, none⟩) hc]; exact h.fz j hj

theorem Rw.other {w w' : World} {c o : Nat} {r : Option Nat} {l : List Bool} {e : Int} (h : Rw w c o r l e) {b o1 o2 : Nat} (ho : Only b o1 o2 w w') (hne : c ≠ b) (hr : r ≠ some b) : Rw w' c o r l e :=
  h.keep ho.size (ho.block c h.lt hne) (fun g hg => ho.block g (h.apart g hg).2 (fun e => hr (e ▸ hg)))

theorem Rw.below {w w' : World} {c o : Nat} {r : Option Nat} {l : List Bool} {e : Int} (h : Rw w c o r l e) (hB : Below w.heap.size w w') : Rw w' c o r l e :=
  h.keep hB.size (hB.block c h.lt) (fun g hg => hB.block g (h.apart g hg).2)

/-- The row's first cell is a byte. -/
theorem Rw.first {w : World} {c o : Nat} {r : Option Nat} {l : List Bool} {e : Int} (h : Rw w c o r l e) {g : Nat} (hg : r = some g) : ∃ n, w.cell? ⟨g, 0, none⟩ = some (.int .u8 n) := by
  obtain ⟨v, h1, ⟨h2, h3⟩, h4, h5⟩ := h.row
  subst hg
  rcases h3 with ⟨rfl, _⟩ | ⟨g', cap, cur, rfl, _, h6, h7, _, h8, h9⟩
  · simp [Value.ownBlock] at h4
  · simp only [Value.ownBlock, Option.some.injEq] at h4
    subst h4
    cases l with
    | nil => have := h5 rfl; simp at this
    | cons b l =>
      rw [cell_of_row _ _ _ _ _ _ h6]
      have h10 := congrArg (fun l => l[0]?) h9
      simp only [List.map_cons, List.getElem?_cons_zero] at h10
      rw [List.getElem?_take_of_lt (by simp)] at h10
      exact ⟨_, by simpa [bitV] using h10⟩

theorem Rw.slice {w : World} {c o : Nat} {r : Option Nat} {l : List Bool} {e : Int} (h : Rw w c o r l e) : ∃ a n k, w.cell? ⟨c, o, none⟩ = some (.slice a n k) := by
  obtain ⟨v, h1, ⟨h2, h3⟩, h4, h5⟩ := h.row
  rcases h3 with ⟨rfl, _⟩ | ⟨g', cap, cur, rfl, _⟩
  · exact ⟨_, _, _, h1⟩
  · exact ⟨_, _, _, h1⟩

theorem Chain.ref {w w' : World} {lo : Nat} {l : List Bool} {c o : Nat} {r : Option Nat} {l' : List Bool} {e' : Int} (hR : Rw w c o r l' e') (ho : OnlyR c o (o + 2) r w w') (ho2 : o ≤ 119) : ∀ {k : Nat} {p : Option Addr}, Chain w lo l k p → Chain w' lo l k p
  | 0, _, h => h
  | _ + 1, _, ⟨g, q, hp, hg, hk, hr⟩ => by
    have hgc : g ≠ c := by
      intro e
      subst e
      obtain ⟨a, n, k, h1⟩ := hR.slice
      cases o with
      | zero => rw [hk.1] at h1; simp at h1
      | succ o => have h2 := hk.2 o (by omega); rw [Nat.add_comm 1 o, h1] at h2; simp at h2
    have hgr : some g ≠ r := by
      intro e
      obtain ⟨n, h1⟩ := hR.first e.symm
      rw [hk.1] at h1; simp at h1
    have e := ho.block g hk.lt hgc hgr
    exact ⟨g, q, hp, hg, ⟨by rw [World.cell?_of_block (w := w) e]; exact hk.1, fun j hj => by rw [World.cell?_of_block (w := w) e]; exact hk.2 j hj⟩, Chain.ref hR ho ho2 hr⟩

theorem Raw.keep {w w' : World} {b off : Nat} {p : Option Addr} {f : Nat → Nat} {n : Nat} {e : Int} (h : Raw w b off p f n e) (hb : w'.heap[b]? = w.heap[b]?) : Raw w' b off p f n e := by
  have hc : ∀ i, w'.cell? ⟨b, i, none⟩ = w.cell? ⟨b, i, none⟩ := fun i => World.cell?_of_block (w := w) hb
  refine ⟨by rw [hc]; exact h.full, fun j hj => by rw [hc]; exact h.last j hj, by rw [hc]; exact h.len, by rw [hc]; exact h.err, fun j hj => ?_⟩
  rw [World.frozen?_of_block (w := w) (w' := w') (a := ⟨b, off + j, none⟩) hb]; exact h.fz j hj

theorem Wr.ref {w w' : World} {lo b off : Nat} {l : List Bool} {e : Int} (h : Wr w lo b off l e) {c o : Nat} {r : Option Nat} {l' : List Bool} {e' : Int} (hR : Rw w c o r l' e') (ho : OnlyR c o (o + 2) r w w') (hne : b ≠ c) (hrb : r ≠ some b) (ho2 : o ≤ 119) : Wr w' lo b off l e := by
  obtain ⟨p, h1, h2⟩ := h
  exact ⟨p, h1.keep (ho.block b (block_lt_of_cell h1.full) hne (fun e => hrb e.symm)), Chain.ref hR ho ho2 h2⟩

/-- Behind lay: the program's Writer first, then the document's. -/
def LayPost (lo b off c o : Nat) (r : Option Nat) (l l' : List Bool) (e e' : Int) (w w' : World) : Prop :=
  ∃ w1 r', Only b off (off + 123) w w1 ∧ OnlyR c o (o + 2) r w1 w' ∧ RowStep w1 r r' ∧ Wr w' lo b off l e ∧ Rw w' c o r' l' e'

theorem LayPost.make {lo b off c o : Nat} {r : Option Nat} {l1 l l' : List Bool} {e0 e e' : Int} {w w0 w1 w' : World} (hO : Only b off (off + 123) w w0) (hO1 : Only b off (off + 123) w0 w1) (hW : Wr w1 lo b off l e) (hR : Rw w0 c o r l1 e0) (hne : b ≠ c) (hrb : r ≠ some b) (ho2 : o ≤ 119)
    (hP : ∃ r', Rw w' c o r' l' e' ∧ RowStep w1 r r' ∧ OnlyR c o (o + 2) r w1 w') : LayPost lo b off c o r l l' e e' w w' := by
  obtain ⟨r', h1, h2, h3⟩ := hP
  exact ⟨w1, r', hO.trans hO1, h3, h2, hW.ref (hR.other hO1 (fun e => hne e.symm) hrb) h3 hne hrb ho2, h1⟩

theorem parity (x : Nat) : ((x : Int) % 2 == 1) = (x % 2 == 1) := by
  by_cases h : x % 2 = 1
  · have : ((x : Int) % 2 == 1) = true := by rw [beq_iff_eq]; omega
    rw [this, h]; rfl
  · have h3 : ((x : Int) % 2 == 1) = false := by rw [beq_eq_false_iff_ne]; omega
    have h4 : (x % 2 == 1) = false := by rw [beq_eq_false_iff_ne]; omega
    rw [h3, h4]


theorem convw (x : Nat) (h : x < 18446744073709551616) : wrap64 (x : Int) = i64of x := by
  unfold i64of wrap64
  by_cases hs : x < 9223372036854775808
  · rw [if_pos hs]; omega
  · rw [if_neg hs]; omega

set_option maxRecDepth 100000 in
theorem lay1 {lo b off c o : Nat} {r : Option Nat} {l l1 l' l1' : List Bool} {e0 e1 e0' e1' : Int} (n m : Int) (x : Nat)
    (hA : ∀ w1, Wr w1 lo b off l e0 → lo ≤ w1.heap.size → Calls Try.prog 30 #[.pointer (some ⟨b, off, none⟩), .bool ((x : Int) % 2 == 1)] w1 fun e w' => e = .returned (.tuple #[]) ∧ Wr w' lo b off l1 e1 ∧ Only b off (off + 123) w1 w')
    (hB : ∀ w1, Rw w1 c o r l' e0' → Calls Try.prog 41 #[.pointer (some ⟨c, o, none⟩), .bool ((x : Int) % 2 == 1)] w1 fun e w' => e = .returned (.tuple #[]) ∧ ∃ r', Rw w' c o r' l1' e1' ∧ RowStep w1 r r' ∧ OnlyR c o (o + 2) r w1 w')
    (w : World) (hW : Wr w lo b off l e0) (hb : b < lo) (hlo : lo ≤ w.heap.size) (hR : Rw w c o r l' e0') (hne : b ≠ c) (hrb : r ≠ some b) (ho2 : o ≤ 119) (hx : x < 18446744073709551616) :
    Calls Try.prog 9 #[.pointer (some ⟨b, off, none⟩), .pointer (some ⟨c, o, none⟩), .agg #[.int .i64 1, .int .i64 n, .int .u64 x, .int .i64 m]] w fun e w' => e = .returned (.tuple #[]) ∧ LayPost lo b off c o r l1 l1' e1 e1' w w' := by
  have hbs : b < w.heap.size := by omega
  have HB0 : Below w.heap.size w (w.alloc (.cells #[.int .i64 1, .int .i64 n, .int .u64 x, .int .i64 m] 65)) := (Below.refl _ _).alloc (Nat.le_refl _) _
  have Ho : Hid (Only b off (off + 123) w (w.alloc (.cells #[.int .i64 1, .int .i64 n, .int .u64 x, .int .i64 m] 65))) := (Only.refl _ _ _ _).alloc hbs _
  have HW : Hid (Wr (w.alloc (.cells #[.int .i64 1, .int .i64 n, .int .u64 x, .int .i64 m] 65)) lo b off l e0) := hW.below HB0
  have HR : Hid (Rw (w.alloc (.cells #[.int .i64 1, .int .i64 n, .int .u64 x, .int .i64 m] 65)) c o r l' e0') := hR.below HB0
  have hn0 : (w.alloc (.cells #[.int .i64 1, .int .i64 n, .int .u64 x, .int .i64 m] 65)).heap[w.heap.size]? = some (.cells #[.int .i64 1, .int .i64 n, .int .u64 x, .int .i64 m] 65 (0, 0)) := heap_alloc_new _ _
  have n2 : (w.alloc (.cells #[.int .i64 1, .int .i64 n, .int .u64 x, .int .i64 m] 65)).cell? ⟨w.heap.size, 2, none⟩ = some (.int .u64 x) := by rw [cell_of_row _ _ _ _ _ _ hn0]; rfl
  have n3 : (w.alloc (.cells #[.int .i64 1, .int .i64 n, .int .u64 x, .int .i64 m] 65)).cell? ⟨w.heap.size, 3, none⟩ = some (.int .i64 m) := by rw [cell_of_row _ _ _ _ _ _ hn0]; rfl
  have hs0 : lo ≤ (w.alloc (.cells #[.int .i64 1, .int .i64 n, .int .u64 x, .int .i64 m] 65)).heap.size := by simp; omega
  have hNb : w.heap.size ≠ b := by omega
  clear HB0 hW hR hn0
  have ha := and1 x hx
  go_enter Try.func9, Try.ntmps9
  go_wp2_with fail
  generalize w.alloc (.cells #[.int .i64 1, .int .i64 n, .int .u64 x, .int .i64 m] 65) = w0 at *
  refine (hA w0 HW.out hs0).mono ?_
  rintro _ w1 ⟨rfl, W1, O1⟩
  have n4 := O1.keepc hNb n2
  have n5 := O1.keepc hNb n3
  have R1 := HR.out.other O1 (fun e => hne e.symm) hrb
  have HW1 : Hid (Wr w1 lo b off l1 e1 ∧ Only b off (off + 123) w0 w1) := ⟨W1, O1⟩
  clear W1 O1
  go_wp2_with fail
  refine (hB w1 R1).mono ?_
  rintro _ w2 ⟨rfl, P2⟩
  have HP : Hid (LayPost lo b off c o r l1 l1' e1 e1' w w2) := LayPost.make Ho.out HW1.out.2 HW1.out.1 HR.out hne hrb ho2 P2
  clear P2 R1 HW1
  go_wp2_with fail
  go_end0
  exact ⟨rfl, HP.out⟩

set_option maxRecDepth 100000 in
theorem lay2 {lo b off c o : Nat} {r : Option Nat} {l l1 l' l1' : List Bool} {e0 e1 e0' e1' : Int} (n m : Int) (x : Nat)
    (hA : ∀ w1, Wr w1 lo b off l e0 → lo ≤ w1.heap.size → Calls Try.prog 32 #[.pointer (some ⟨b, off, none⟩), .int .u64 x, .int .i64 m] w1 fun e w' => e = .returned (.tuple #[]) ∧ Wr w' lo b off l1 e1 ∧ Only b off (off + 123) w1 w')
    (hB : ∀ w1, Rw w1 c o r l' e0' → Calls Try.prog 42 #[.pointer (some ⟨c, o, none⟩), .int .u64 x, .int .i64 m] w1 fun e w' => e = .returned (.tuple #[]) ∧ ∃ r', Rw w' c o r' l1' e1' ∧ RowStep w1 r r' ∧ OnlyR c o (o + 2) r w1 w')
    (w : World) (hW : Wr w lo b off l e0) (hb : b < lo) (hlo : lo ≤ w.heap.size) (hR : Rw w c o r l' e0') (hne : b ≠ c) (hrb : r ≠ some b) (ho2 : o ≤ 119) (hx : x < 18446744073709551616) :
    Calls Try.prog 9 #[.pointer (some ⟨b, off, none⟩), .pointer (some ⟨c, o, none⟩), .agg #[.int .i64 2, .int .i64 n, .int .u64 x, .int .i64 m]] w fun e w' => e = .returned (.tuple #[]) ∧ LayPost lo b off c o r l1 l1' e1 e1' w w' := by
  have hbs : b < w.heap.size := by omega
  have HB0 : Below w.heap.size w (w.alloc (.cells #[.int .i64 2, .int .i64 n, .int .u64 x, .int .i64 m] 65)) := (Below.refl _ _).alloc (Nat.le_refl _) _
  have Ho : Hid (Only b off (off + 123) w (w.alloc (.cells #[.int .i64 2, .int .i64 n, .int .u64 x, .int .i64 m] 65))) := (Only.refl _ _ _ _).alloc hbs _
  have HW : Hid (Wr (w.alloc (.cells #[.int .i64 2, .int .i64 n, .int .u64 x, .int .i64 m] 65)) lo b off l e0) := hW.below HB0
  have HR : Hid (Rw (w.alloc (.cells #[.int .i64 2, .int .i64 n, .int .u64 x, .int .i64 m] 65)) c o r l' e0') := hR.below HB0
  have hn0 : (w.alloc (.cells #[.int .i64 2, .int .i64 n, .int .u64 x, .int .i64 m] 65)).heap[w.heap.size]? = some (.cells #[.int .i64 2, .int .i64 n, .int .u64 x, .int .i64 m] 65 (0, 0)) := heap_alloc_new _ _
  have n2 : (w.alloc (.cells #[.int .i64 2, .int .i64 n, .int .u64 x, .int .i64 m] 65)).cell? ⟨w.heap.size, 2, none⟩ = some (.int .u64 x) := by rw [cell_of_row _ _ _ _ _ _ hn0]; rfl
  have n3 : (w.alloc (.cells #[.int .i64 2, .int .i64 n, .int .u64 x, .int .i64 m] 65)).cell? ⟨w.heap.size, 3, none⟩ = some (.int .i64 m) := by rw [cell_of_row _ _ _ _ _ _ hn0]; rfl
  have hs0 : lo ≤ (w.alloc (.cells #[.int .i64 2, .int .i64 n, .int .u64 x, .int .i64 m] 65)).heap.size := by simp; omega
  have hNb : w.heap.size ≠ b := by omega
  clear HB0 hW hR hn0
  go_enter Try.func9, Try.ntmps9
  go_wp2_with fail
  generalize w.alloc (.cells #[.int .i64 2, .int .i64 n, .int .u64 x, .int .i64 m] 65) = w0 at *
  refine (hA w0 HW.out hs0).mono ?_
  rintro _ w1 ⟨rfl, W1, O1⟩
  have n4 := O1.keepc hNb n2
  have n5 := O1.keepc hNb n3
  have R1 := HR.out.other O1 (fun e => hne e.symm) hrb
  have HW1 : Hid (Wr w1 lo b off l1 e1 ∧ Only b off (off + 123) w0 w1) := ⟨W1, O1⟩
  clear W1 O1
  go_wp2_with fail
  refine (hB w1 R1).mono ?_
  rintro _ w2 ⟨rfl, P2⟩
  have HP : Hid (LayPost lo b off c o r l1 l1' e1 e1' w w2) := LayPost.make Ho.out HW1.out.2 HW1.out.1 HR.out hne hrb ho2 P2
  clear P2 R1 HW1
  go_wp2_with fail
  go_end0
  exact ⟨rfl, HP.out⟩

set_option maxRecDepth 100000 in
theorem lay3 {lo b off c o : Nat} {r : Option Nat} {l l1 l' l1' : List Bool} {e0 e1 e0' e1' : Int} (n m : Int) (x : Nat)
    (hA : ∀ w1, Wr w1 lo b off l e0 → lo ≤ w1.heap.size → Calls Try.prog 34 #[.pointer (some ⟨b, off, none⟩), .int .i64 m] w1 fun e w' => e = .returned (.tuple #[]) ∧ Wr w' lo b off l1 e1 ∧ Only b off (off + 123) w1 w')
    (hB : ∀ w1, Rw w1 c o r l' e0' → Calls Try.prog 43 #[.pointer (some ⟨c, o, none⟩), .int .i64 m] w1 fun e w' => e = .returned (.tuple #[]) ∧ ∃ r', Rw w' c o r' l1' e1' ∧ RowStep w1 r r' ∧ OnlyR c o (o + 2) r w1 w')
    (w : World) (hW : Wr w lo b off l e0) (hb : b < lo) (hlo : lo ≤ w.heap.size) (hR : Rw w c o r l' e0') (hne : b ≠ c) (hrb : r ≠ some b) (ho2 : o ≤ 119) (hx : x < 18446744073709551616) :
    Calls Try.prog 9 #[.pointer (some ⟨b, off, none⟩), .pointer (some ⟨c, o, none⟩), .agg #[.int .i64 3, .int .i64 n, .int .u64 x, .int .i64 m]] w fun e w' => e = .returned (.tuple #[]) ∧ LayPost lo b off c o r l1 l1' e1 e1' w w' := by
  have hbs : b < w.heap.size := by omega
  have HB0 : Below w.heap.size w (w.alloc (.cells #[.int .i64 3, .int .i64 n, .int .u64 x, .int .i64 m] 65)) := (Below.refl _ _).alloc (Nat.le_refl _) _
  have Ho : Hid (Only b off (off + 123) w (w.alloc (.cells #[.int .i64 3, .int .i64 n, .int .u64 x, .int .i64 m] 65))) := (Only.refl _ _ _ _).alloc hbs _
  have HW : Hid (Wr (w.alloc (.cells #[.int .i64 3, .int .i64 n, .int .u64 x, .int .i64 m] 65)) lo b off l e0) := hW.below HB0
  have HR : Hid (Rw (w.alloc (.cells #[.int .i64 3, .int .i64 n, .int .u64 x, .int .i64 m] 65)) c o r l' e0') := hR.below HB0
  have hn0 : (w.alloc (.cells #[.int .i64 3, .int .i64 n, .int .u64 x, .int .i64 m] 65)).heap[w.heap.size]? = some (.cells #[.int .i64 3, .int .i64 n, .int .u64 x, .int .i64 m] 65 (0, 0)) := heap_alloc_new _ _
  have n2 : (w.alloc (.cells #[.int .i64 3, .int .i64 n, .int .u64 x, .int .i64 m] 65)).cell? ⟨w.heap.size, 2, none⟩ = some (.int .u64 x) := by rw [cell_of_row _ _ _ _ _ _ hn0]; rfl
  have n3 : (w.alloc (.cells #[.int .i64 3, .int .i64 n, .int .u64 x, .int .i64 m] 65)).cell? ⟨w.heap.size, 3, none⟩ = some (.int .i64 m) := by rw [cell_of_row _ _ _ _ _ _ hn0]; rfl
  have hs0 : lo ≤ (w.alloc (.cells #[.int .i64 3, .int .i64 n, .int .u64 x, .int .i64 m] 65)).heap.size := by simp; omega
  have hNb : w.heap.size ≠ b := by omega
  clear HB0 hW hR hn0
  go_enter Try.func9, Try.ntmps9
  go_wp2_with fail
  generalize w.alloc (.cells #[.int .i64 3, .int .i64 n, .int .u64 x, .int .i64 m] 65) = w0 at *
  refine (hA w0 HW.out hs0).mono ?_
  rintro _ w1 ⟨rfl, W1, O1⟩
  have n4 := O1.keepc hNb n2
  have n5 := O1.keepc hNb n3
  have R1 := HR.out.other O1 (fun e => hne e.symm) hrb
  have HW1 : Hid (Wr w1 lo b off l1 e1 ∧ Only b off (off + 123) w0 w1) := ⟨W1, O1⟩
  clear W1 O1
  go_wp2_with fail
  refine (hB w1 R1).mono ?_
  rintro _ w2 ⟨rfl, P2⟩
  have HP : Hid (LayPost lo b off c o r l1 l1' e1 e1' w w2) := LayPost.make Ho.out HW1.out.2 HW1.out.1 HR.out hne hrb ho2 P2
  clear P2 R1 HW1
  go_wp2_with fail
  go_end0
  exact ⟨rfl, HP.out⟩

set_option maxRecDepth 100000 in
theorem lay4 {lo b off c o : Nat} {r : Option Nat} {l l1 l' l1' : List Bool} {e0 e1 e0' e1' : Int} (n m : Int) (x : Nat)
    (hA : ∀ w1, Wr w1 lo b off l e0 → lo ≤ w1.heap.size → Calls Try.prog 36 #[.pointer (some ⟨b, off, none⟩), .int .u64 x] w1 fun e w' => e = .returned (.tuple #[]) ∧ Wr w' lo b off l1 e1 ∧ Only b off (off + 123) w1 w')
    (hB : ∀ w1, Rw w1 c o r l' e0' → Calls Try.prog 44 #[.pointer (some ⟨c, o, none⟩), .int .u64 x] w1 fun e w' => e = .returned (.tuple #[]) ∧ ∃ r', Rw w' c o r' l1' e1' ∧ RowStep w1 r r' ∧ OnlyR c o (o + 2) r w1 w')
    (w : World) (hW : Wr w lo b off l e0) (hb : b < lo) (hlo : lo ≤ w.heap.size) (hR : Rw w c o r l' e0') (hne : b ≠ c) (hrb : r ≠ some b) (ho2 : o ≤ 119) (hx : x < 18446744073709551616) :
    Calls Try.prog 9 #[.pointer (some ⟨b, off, none⟩), .pointer (some ⟨c, o, none⟩), .agg #[.int .i64 4, .int .i64 n, .int .u64 x, .int .i64 m]] w fun e w' => e = .returned (.tuple #[]) ∧ LayPost lo b off c o r l1 l1' e1 e1' w w' := by
  have hbs : b < w.heap.size := by omega
  have HB0 : Below w.heap.size w (w.alloc (.cells #[.int .i64 4, .int .i64 n, .int .u64 x, .int .i64 m] 65)) := (Below.refl _ _).alloc (Nat.le_refl _) _
  have Ho : Hid (Only b off (off + 123) w (w.alloc (.cells #[.int .i64 4, .int .i64 n, .int .u64 x, .int .i64 m] 65))) := (Only.refl _ _ _ _).alloc hbs _
  have HW : Hid (Wr (w.alloc (.cells #[.int .i64 4, .int .i64 n, .int .u64 x, .int .i64 m] 65)) lo b off l e0) := hW.below HB0
  have HR : Hid (Rw (w.alloc (.cells #[.int .i64 4, .int .i64 n, .int .u64 x, .int .i64 m] 65)) c o r l' e0') := hR.below HB0
  have hn0 : (w.alloc (.cells #[.int .i64 4, .int .i64 n, .int .u64 x, .int .i64 m] 65)).heap[w.heap.size]? = some (.cells #[.int .i64 4, .int .i64 n, .int .u64 x, .int .i64 m] 65 (0, 0)) := heap_alloc_new _ _
  have n2 : (w.alloc (.cells #[.int .i64 4, .int .i64 n, .int .u64 x, .int .i64 m] 65)).cell? ⟨w.heap.size, 2, none⟩ = some (.int .u64 x) := by rw [cell_of_row _ _ _ _ _ _ hn0]; rfl
  have n3 : (w.alloc (.cells #[.int .i64 4, .int .i64 n, .int .u64 x, .int .i64 m] 65)).cell? ⟨w.heap.size, 3, none⟩ = some (.int .i64 m) := by rw [cell_of_row _ _ _ _ _ _ hn0]; rfl
  have hs0 : lo ≤ (w.alloc (.cells #[.int .i64 4, .int .i64 n, .int .u64 x, .int .i64 m] 65)).heap.size := by simp; omega
  have hNb : w.heap.size ≠ b := by omega
  clear HB0 hW hR hn0
  go_enter Try.func9, Try.ntmps9
  go_wp2_with fail
  generalize w.alloc (.cells #[.int .i64 4, .int .i64 n, .int .u64 x, .int .i64 m] 65) = w0 at *
  refine (hA w0 HW.out hs0).mono ?_
  rintro _ w1 ⟨rfl, W1, O1⟩
  have n4 := O1.keepc hNb n2
  have n5 := O1.keepc hNb n3
  have R1 := HR.out.other O1 (fun e => hne e.symm) hrb
  have HW1 : Hid (Wr w1 lo b off l1 e1 ∧ Only b off (off + 123) w0 w1) := ⟨W1, O1⟩
  clear W1 O1
  go_wp2_with fail
  refine (hB w1 R1).mono ?_
  rintro _ w2 ⟨rfl, P2⟩
  have HP : Hid (LayPost lo b off c o r l1 l1' e1 e1' w w2) := LayPost.make Ho.out HW1.out.2 HW1.out.1 HR.out hne hrb ho2 P2
  clear P2 R1 HW1
  go_wp2_with fail
  go_end0
  exact ⟨rfl, HP.out⟩

set_option maxRecDepth 100000 in
theorem lay5 {lo b off c o : Nat} {r : Option Nat} {l l1 l' l1' : List Bool} {e0 e1 e0' e1' : Int} (n m : Int) (x : Nat)
    (hA : ∀ w1, Wr w1 lo b off l e0 → lo ≤ w1.heap.size → Calls Try.prog 38 #[.pointer (some ⟨b, off, none⟩), .int .i64 (i64of x)] w1 fun e w' => e = .returned (.tuple #[]) ∧ Wr w' lo b off l1 e1 ∧ Only b off (off + 123) w1 w')
    (hB : ∀ w1, Rw w1 c o r l' e0' → Calls Try.prog 45 #[.pointer (some ⟨c, o, none⟩), .int .i64 (i64of x)] w1 fun e w' => e = .returned (.tuple #[]) ∧ ∃ r', Rw w' c o r' l1' e1' ∧ RowStep w1 r r' ∧ OnlyR c o (o + 2) r w1 w')
    (w : World) (hW : Wr w lo b off l e0) (hb : b < lo) (hlo : lo ≤ w.heap.size) (hR : Rw w c o r l' e0') (hne : b ≠ c) (hrb : r ≠ some b) (ho2 : o ≤ 119) (hx : x < 18446744073709551616) :
    Calls Try.prog 9 #[.pointer (some ⟨b, off, none⟩), .pointer (some ⟨c, o, none⟩), .agg #[.int .i64 5, .int .i64 n, .int .u64 x, .int .i64 m]] w fun e w' => e = .returned (.tuple #[]) ∧ LayPost lo b off c o r l1 l1' e1 e1' w w' := by
  have hbs : b < w.heap.size := by omega
  have HB0 : Below w.heap.size w (w.alloc (.cells #[.int .i64 5, .int .i64 n, .int .u64 x, .int .i64 m] 65)) := (Below.refl _ _).alloc (Nat.le_refl _) _
  have Ho : Hid (Only b off (off + 123) w (w.alloc (.cells #[.int .i64 5, .int .i64 n, .int .u64 x, .int .i64 m] 65))) := (Only.refl _ _ _ _).alloc hbs _
  have HW : Hid (Wr (w.alloc (.cells #[.int .i64 5, .int .i64 n, .int .u64 x, .int .i64 m] 65)) lo b off l e0) := hW.below HB0
  have HR : Hid (Rw (w.alloc (.cells #[.int .i64 5, .int .i64 n, .int .u64 x, .int .i64 m] 65)) c o r l' e0') := hR.below HB0
  have hn0 : (w.alloc (.cells #[.int .i64 5, .int .i64 n, .int .u64 x, .int .i64 m] 65)).heap[w.heap.size]? = some (.cells #[.int .i64 5, .int .i64 n, .int .u64 x, .int .i64 m] 65 (0, 0)) := heap_alloc_new _ _
  have n2 : (w.alloc (.cells #[.int .i64 5, .int .i64 n, .int .u64 x, .int .i64 m] 65)).cell? ⟨w.heap.size, 2, none⟩ = some (.int .u64 x) := by rw [cell_of_row _ _ _ _ _ _ hn0]; rfl
  have n3 : (w.alloc (.cells #[.int .i64 5, .int .i64 n, .int .u64 x, .int .i64 m] 65)).cell? ⟨w.heap.size, 3, none⟩ = some (.int .i64 m) := by rw [cell_of_row _ _ _ _ _ _ hn0]; rfl
  have hs0 : lo ≤ (w.alloc (.cells #[.int .i64 5, .int .i64 n, .int .u64 x, .int .i64 m] 65)).heap.size := by simp; omega
  have hNb : w.heap.size ≠ b := by omega
  clear HB0 hW hR hn0
  go_enter Try.func9, Try.ntmps9
  go_wp2_with fail
  generalize w.alloc (.cells #[.int .i64 5, .int .i64 n, .int .u64 x, .int .i64 m] 65) = w0 at *
  rw [convw x hx]
  refine (hA w0 HW.out hs0).mono ?_
  rintro _ w1 ⟨rfl, W1, O1⟩
  have n4 := O1.keepc hNb n2
  have n5 := O1.keepc hNb n3
  have R1 := HR.out.other O1 (fun e => hne e.symm) hrb
  have HW1 : Hid (Wr w1 lo b off l1 e1 ∧ Only b off (off + 123) w0 w1) := ⟨W1, O1⟩
  clear W1 O1
  go_wp2_with fail
  rw [convw x hx]
  refine (hB w1 R1).mono ?_
  rintro _ w2 ⟨rfl, P2⟩
  have HP : Hid (LayPost lo b off c o r l1 l1' e1 e1' w w2) := LayPost.make Ho.out HW1.out.2 HW1.out.1 HR.out hne hrb ho2 P2
  clear P2 R1 HW1
  go_wp2_with fail
  go_end0
  exact ⟨rfl, HP.out⟩

/-- What a number is laid as by the calls of the program and of the document. -/
theorem lay_fit (lo b off c o : Nat) (r : Option Nat) (l l' : List Bool) (d n m : Int) (x : Nat) (w : World) (hW : Wr w lo b off l 0) (hb : b < lo) (hlo : lo ≤ w.heap.size) (hR : Rw w c o r l' 0) (hne : b ≠ c) (hrb : r ≠ some b) (ho2 : o ≤ 119)
    (hlen : l.length + 80 < 100000000) (hlen' : l'.length + 80 < 100000000) (hx : x < 18446744073709551616) (hF : Fit d m x) :
    Calls Try.prog 9 #[.pointer (some ⟨b, off, none⟩), .pointer (some ⟨c, o, none⟩), .agg #[.int .i64 d, .int .i64 n, .int .u64 x, .int .i64 m]] w fun e w' => e = .returned (.tuple #[]) ∧ LayPost lo b off c o r (l ++ opB d m x) (l' ++ opB d m x) 0 0 w w' := by
  rcases hF with ⟨rfl, h0, h1, h2⟩ | ⟨rfl, h0, h1⟩ | rfl | rfl | rfl
  · obtain ⟨M, rfl⟩ : ∃ M : Nat, m = (M : Int) := ⟨m.toNat, by omega⟩
    have e : opB 2 (M : Int) x = bitsOf x M := by simp [opB]
    rw [e]
    have h2' : x < 2 ^ M := by simpa using h2
    exact lay2 n M x (fun w1 k1 k2 => wbits_any b off lo M x w1 l k1 hb k2 (by omega) (by omega) hx h2') (fun w1 k1 => refbits_any c o r l' x M w1 k1 (by omega) (by omega) hx h2') w hW hb hlo hR hne hrb ho2 hx
  · obtain ⟨M, rfl⟩ : ∃ M : Nat, m = (M : Int) := ⟨m.toNat, by omega⟩
    have e : opB 3 (M : Int) x = List.replicate M true ++ [false] := by simp [opB]
    rw [e]
    exact lay3 n M x (fun w1 k1 k2 => wunary_any b off lo M w1 l k1 hb k2 (by omega) (by omega)) (fun w1 k1 => refunary_any c o r l' M w1 k1 (by omega) (by omega)) w hW hb hlo hR hne hrb ho2 hx
  · have e : opB 1 m x = [(x : Int) % 2 == 1] := by rw [parity]; simp [opB]
    rw [e]
    exact lay1 n m x (fun w1 k1 k2 => wbit_any b off lo _ w1 l k1 hb k2 (by omega)) (fun w1 k1 => refbit_any c o r l' _ w1 k1 (by omega)) w hW hb hlo hR hne hrb ho2 hx
  · have e : opB 4 m x = varB x := by simp [opB]
    rw [e]
    exact lay4 n m x (fun w1 k1 k2 => wvar_any b off lo x w1 l k1 hb k2 (by omega) hx) (fun w1 k1 => refvar_any c o r l' x w1 k1 (by omega) hx) w hW hb hlo hR hne hrb ho2 hx
  · have e : opB 5 m x = varB (zig (i64of x)) := by simp [opB]
    rw [e]
    have hz := i64of_range x hx
    exact lay5 n m x (fun w1 k1 k2 => wzig_any b off lo _ w1 l k1 hb k2 (by omega) hz.1 hz.2) (fun w1 k1 => refzig_any c o r l' _ w1 k1 (by omega) hz.1 hz.2) w hW hb hlo hR hne hrb ho2 hx

theorem rw_new (w : World) : Rw (w.alloc (.cells #[.slice none 0 0, .int .i64 0] 31)) w.heap.size 0 none [] 0 := by
  have hn := heap_alloc_new w (.cells #[.slice none 0 0, .int .i64 0] 31)
  refine ⟨⟨.slice none 0 0, ?_, World.ownsRow_nil _ _ _ _, rfl, fun _ => rfl⟩, ?_, fun j hj => ?_, fun g hg => by simp at hg⟩
  · rw [cell_of_row _ _ _ _ _ _ hn]; rfl
  · rw [cell_of_row _ _ _ _ _ _ hn]; rfl
  · exact frozen_of_row _ _ _ _ _ hn

set_option maxRecDepth 100000 in
theorem put_fit (lo b off : Nat) (l : List Bool) (d n m : Int) (x : Nat) (w : World) (hW : Wr w lo b off l 0) (hb : b < lo) (hlo : lo ≤ w.heap.size) (hlen : l.length + 80 < 100000000) (hx : x < 18446744073709551616) (hF : Fit d m x) :
    Calls Try.prog 27 #[.pointer (some ⟨b, off, none⟩), .agg #[.int .i64 d, .int .i64 n, .int .u64 x, .int .i64 m]] w fun e w' => e = .returned (.tuple #[]) ∧ Wr w' lo b off (l ++ opB d m x) 0 ∧ Only b off (off + 123) w w' := by
  have hbs : b < w.heap.size := by omega
  have HF : Hid (Fit d m x) := hF
  clear hF
  go_enter Try.func27, Try.ntmps27
  go_wp2_with fail
  have nA : (w.alloc (.cells #[.int .i64 d, .int .i64 n, .int .u64 x, .int .i64 m] 65)).heap.size = w.heap.size + 1 := by simp
  have B0 : Below w.heap.size w (w.alloc (.cells #[.int .i64 d, .int .i64 n, .int .u64 x, .int .i64 m] 65)) := (Below.refl _ _).alloc (Nat.le_refl _) _
  have O0 : Only b off (off + 123) w (w.alloc (.cells #[.int .i64 d, .int .i64 n, .int .u64 x, .int .i64 m] 65)) := (Only.refl _ _ _ _).alloc hbs _
  generalize w.alloc (.cells #[.int .i64 d, .int .i64 n, .int .u64 x, .int .i64 m] 65) = w0 at *
  have B1 : Below w0.heap.size w0 (w0.alloc (.cells #[.slice none 0 0, .int .i64 0] 31)) := (Below.refl _ _).alloc (Nat.le_refl _) _
  have O1 : Only b off (off + 123) w (w0.alloc (.cells #[.slice none 0 0, .int .i64 0] 31)) := O0.alloc (by omega) _
  have R1 := rw_new w0
  have s1 : (w0.alloc (.cells #[.slice none 0 0, .int .i64 0] 31)).heap.size = w0.heap.size + 1 := by simp
  rw [nA] at R1
  generalize w0.alloc (.cells #[.slice none 0 0, .int .i64 0] 31) = w1 at *
  refine (lay_fit lo b off (w.heap.size + 1) 0 none l [] d n m x w1 ((hW.below B0).below B1) hb (by omega) R1 (by omega) (by simp) (by omega) hlen (by simp) hx HF.out).mono ?_
  rintro _ w2 ⟨rfl, w3, r', P1, P2, P3, P4, P5⟩
  have HO : Hid (Wr w2 lo b off (l ++ opB d m x) 0 ∧ Only b off (off + 123) w w2) := by
    refine ⟨P4, ?_⟩
    have O3 := O1.trans P1
    refine ⟨P2.os.trans O3.os, P2.tape.trans O3.tape, P2.output.trans O3.output, Nat.le_trans O3.size P2.size, fun k hk hkb => ?_, fun j hj => ?_, fun j => ?_⟩
    · rw [P2.block k (Nat.lt_of_lt_of_le hk O3.size) (by omega) (by simp)]; exact O3.block k hk hkb
    · rw [World.cell?_of_block (w := w3) (P2.block b (Nat.lt_of_lt_of_le hbs O3.size) (by omega) (by simp))]; exact O3.cell j hj
    · rw [World.frozen?_of_block (w := w3) (a := ⟨b, j, none⟩) (P2.block b (Nat.lt_of_lt_of_le hbs O3.size) (by omega) (by simp))]; exact O3.frozen j
  clear P1 P2 P3 P4 P5 B0 B1 O0 O1 R1
  go_wp2_with fail
  go_end0
  exact ⟨rfl, HO.out⟩

end Go.Proofs.Ytpiiagjfimdflaa

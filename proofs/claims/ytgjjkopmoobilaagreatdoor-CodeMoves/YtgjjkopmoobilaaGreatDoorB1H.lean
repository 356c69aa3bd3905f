/- Reading one number, whatever the Reader's state: where nothing is refused behind it, what has been taken is what the number is laid as. -/
import Derived.Test.YtgjjkopmoobilaaGreatDoorB1K
/- Writers beside one another: what one does leaves the others; four new ones; how long a Var is. -/
namespace Go.Proofs.YtgjjkopmoobilaaGreatDoor
open Go.RowKit
open M
set_option linter.unusedVariables false

theorem new_kept {w : World} {o : Obj} {k : Nat} (h : w.heap[k]? = some o) (p : Obj) : (w.alloc p).heap[k]? = some o := by
  have hk : k < w.heap.size := by
    rcases Nat.lt_or_ge k w.heap.size with h1 | h1
    · exact h1
    · rw [Array.getElem?_eq_none h1] at h; cases h
  rw [Below.heap_alloc _ _ _ hk]; exact h

theorem Raw.other {w w' : World} {b off : Nat} {p : Option Addr} {f : Nat → Nat} {n : Nat} {e : Int} (h : Raw w b off p f n e) {b' o1 o2 : Nat} (ho : Only b' o1 o2 w w') (hne : b ≠ b') : Raw w' b off p f n e := by
  have hb : b < w.heap.size := block_lt_of_cell h.full
  have hc : ∀ i, w'.cell? ⟨b, i, none⟩ = w.cell? ⟨b, i, none⟩ := fun i => World.cell?_of_block (w := w) (ho.block b hb hne)
  refine ⟨by rw [hc]; exact h.full, fun j hj => by rw [hc]; exact h.last j hj, by rw [hc]; exact h.len, by rw [hc]; exact h.err, fun j hj => ?_⟩
  rw [World.frozen?_of_block (w := w) (w' := w') (a := ⟨b, off + j, none⟩) (ho.block b hb hne)]; exact h.fz j hj

theorem Wr.other {w w' : World} {lo b off : Nat} {l : List Bool} {e : Int} (h : Wr w lo b off l e) {b' o1 o2 : Nat} (ho : Only b' o1 o2 w w') (hne : b ≠ b') (hlo : b' < lo) : Wr w' lo b off l e := by
  obtain ⟨p, hR, hC⟩ := h
  exact ⟨p, hR.other ho hne, Chain.only ho hlo hC⟩

theorem Wr.lenCell {w : World} {lo b off : Nat} {l : List Bool} {e : Int} (h : Wr w lo b off l e) : w.cell? ⟨b, off + 121, none⟩ = some (.int .i64 (l.length : Int)) := by
  obtain ⟨p, hR, _⟩ := h; exact hR.len

theorem groups_len_mono : ∀ (k x y : Nat), x ≤ y → (groups k x).length ≤ (groups k y).length := by
  intro k
  induction k with
  | zero => intro x y _; simp [groups]
  | succ k ih =>
    intro x y h
    by_cases hx : x < 128
    · rw [groups_small _ _ hx]
      by_cases hy : y < 128
      · rw [groups_small _ _ hy]; simp
      · rw [groups_big _ _ (by omega)]; simp
    · rw [groups_big _ _ (by omega), groups_big _ _ (by omega)]
      have := ih (x / 128) (y / 128) (by omega)
      simp; omega

theorem groups_len : ∀ (k x : Nat), (groups k x).length % 8 = 0 ∧ 8 ≤ (groups k x).length ∧ (groups k x).length ≤ 8 * (k + 1) := by
  intro k
  induction k with
  | zero => intro x; simp [groups]
  | succ k ih =>
    intro x
    by_cases hx : x < 128
    · rw [groups_small _ _ hx]; simp; omega
    · rw [groups_big _ _ (by omega)]
      have := ih (x / 128)
      simp; omega

theorem varB_mono (x y : Nat) (h : x ≤ y) : (varB x).length ≤ (varB y).length := groups_len_mono 9 x y h
theorem varB_mod (x : Nat) : (varB x).length % 8 = 0 := (groups_len 9 x).1
theorem varB_ge (x : Nat) : 8 ≤ (varB x).length := (groups_len 9 x).2.1
theorem varB_le (x : Nat) : (varB x).length ≤ 80 := (groups_len 9 x).2.2

end Go.Proofs.YtgjjkopmoobilaaGreatDoor

/- Writers and Readers behind what leaves their blocks; what a Reader of packed bits finds. -/
namespace Go.Proofs.YtgjjkopmoobilaaGreatDoor
open Go.RowKit
open M
set_option linter.unusedVariables false

theorem Raw.below {w w' : World} {b off : Nat} {p : Option Addr} {f : Nat → Nat} {n : Nat} {e : Int} (h : Raw w b off p f n e) {B : Nat} (hB : Below B w w') (hb : b < B) : Raw w' b off p f n e := by
  have hc : ∀ i, w'.cell? ⟨b, i, none⟩ = w.cell? ⟨b, i, none⟩ := fun i => hB.cell (p := ⟨b, i, none⟩) hb
  refine ⟨by rw [hc]; exact h.full, fun j hj => by rw [hc]; exact h.last j hj, by rw [hc]; exact h.len, by rw [hc]; exact h.err, fun j hj => ?_⟩
  rw [hB.frozen (p := ⟨b, off + j, none⟩) hb]; exact h.fz j hj

theorem Chain.below {w w' : World} {lo : Nat} {l : List Bool} (hB : Below w.heap.size w w') : ∀ {k : Nat} {p : Option Addr}, Chain w lo l k p → Chain w' lo l k p
  | 0, _, h => h
  | _ + 1, _, ⟨c, q, hp, hc, hk, hr⟩ => ⟨c, q, hp, hc, ⟨by rw [hB.cell (p := ⟨c, 0, none⟩) hk.lt]; exact hk.1, fun j hj => by rw [hB.cell (p := ⟨c, 1 + j, none⟩) hk.lt]; exact hk.2 j hj⟩, Chain.below hB hr⟩

theorem Wr.below {w w' : World} {lo b off : Nat} {l : List Bool} {e : Int} (h : Wr w lo b off l e) (hB : Below w.heap.size w w') : Wr w' lo b off l e := by
  obtain ⟨p, hR, hC⟩ := h
  exact ⟨p, hR.below hB (block_lt_of_cell hR.full), Chain.below hB hC⟩

theorem Rd.below {w w' : World} {b off : Nat} {s : ByteArray} {a : Nat} {e : Int} (h : Rd w b off s a e) {B : Nat} (hB : Below B w w') (hb : b < B) : Rd w' b off s a e := by
  have hc : ∀ i, w'.cell? ⟨b, i, none⟩ = w.cell? ⟨b, i, none⟩ := fun i => hB.cell (p := ⟨b, i, none⟩) hb
  refine ⟨by rw [hc]; exact h.text, by rw [hc]; exact h.at_, by rw [hc]; exact h.err, fun j hj => ?_, h.size, h.le⟩
  rw [hB.frozen (p := ⟨b, off + j, none⟩) hb]; exact h.fz j hj

theorem Rd.other {w w' : World} {b off : Nat} {s : ByteArray} {a : Nat} {e : Int} (h : Rd w b off s a e) {b' o1 o2 : Nat} (ho : Only b' o1 o2 w w') (hne : b ≠ b') : Rd w' b off s a e := by
  have hb : b < w.heap.size := block_lt_of_cell h.text
  have hc : ∀ i, w'.cell? ⟨b, i, none⟩ = w.cell? ⟨b, i, none⟩ := fun i => World.cell?_of_block (w := w) (ho.block b hb hne)
  refine ⟨by rw [hc]; exact h.text, by rw [hc]; exact h.at_, by rw [hc]; exact h.err, fun j hj => ?_, h.size, h.le⟩
  rw [World.frozen?_of_block (w := w) (w' := w') (a := ⟨b, off + j, none⟩) (ho.block b hb hne)]; exact h.fz j hj

theorem Wr.otherR {w w' : World} {lo b off : Nat} {l : List Bool} {e : Int} (h : Wr w lo b off l e) (hB : Below w.heap.size w w') : Wr w' lo b off l e := h.below hB

theorem isBytes_below {w w' : World} {v : Value} {bs : List Nat} (h : IsBytes w v bs) (hB : Below w.heap.size w w') : IsBytes w' v bs := by
  rcases h with h | ⟨g, o, cap, hv, hc⟩
  · exact .inl h
  · exact .inr ⟨g, o, cap, hv, fun i hi => by rw [hB.cell (p := ⟨g, o + i, none⟩) (block_lt_of_cell (hc i hi))]; exact hc i hi⟩

/-- The bits of a text of packed bits. -/
theorem rb_packed (l : List Bool) : rb (strOf (packed l)) = l ++ List.replicate (8 * ((l.length + 7) / 8) - l.length) false := by
  rw [rb_strOf _ (packed_lt l), rbits_packed]

theorem num_zeros (k : Nat) : num (List.replicate k false) = 0 := by
  induction k with
  | zero => rfl
  | succ k ih => simp [List.replicate_succ, num, ih]

theorem end_packed (l : List Bool) : endE (strOf (packed l)) l.length 0 = 0 := by
  have hs : (strOf (packed l)).size = (l.length + 7) / 8 := by simp
  unfold endE
  rw [if_pos rfl, if_neg (by rw [hs]; omega), rb_packed, List.drop_left' rfl, num_zeros, if_pos rfl]

/-- The bits of a part that lies within. -/
theorem part_take (a m c : List Bool) (i n : Nat) (h : i + n ≤ m.length) : ((a ++ m ++ c).drop (a.length + i)).take n = (m.drop i).take n := by
  rw [List.append_assoc, ← List.drop_drop, List.drop_left' rfl, List.drop_append_of_le_length (by omega), List.take_append_of_le_length (by simp; omega)]

theorem size_lt_of_row {w : World} {g : Nat} {o : Obj} (h : w.heap[g]? = some o) : g < w.heap.size := by
  rcases Nat.lt_or_ge g w.heap.size with h1 | h1
  · exact h1
  · rw [Array.getElem?_eq_none h1] at h; cases h

end Go.Proofs.YtgjjkopmoobilaaGreatDoor

/- The contracts of a Reader's ones and Unary. -/
namespace Go.Proofs.YtgjjkopmoobilaaGreatDoor
open Go.RowKit
open M
set_option linter.unusedVariables false

theorem bit_of (l : List Bool) (j : Nat) (h : j < l.length) : num ((l.drop j).take 1) = if l[j] then 1 else 0 := by
  have e : (l.drop j).take 1 = [l[j]] := by
    rw [List.drop_eq_getElem_cons h]; rfl
  rw [e]; simp [num]

/-- How many ones stand in front: k of them, at most 65; behind them the end, a nought, or too many. -/
def OnesAt (r : List Bool) (k : Nat) : Prop := k ≤ 65 ∧ k ≤ r.length ∧ (∀ j, j < k → r[j]? = some true) ∧ (k = 65 ∨ k = r.length ∨ r[k]? = some false)




end Go.Proofs.YtgjjkopmoobilaaGreatDoor

namespace Go.Proofs.YtgjjkopmoobilaaGreatDoor
open Go.RowKit
open M
set_option linter.unusedVariables false

/-- Behind a reading: the state, and, where it was not refused, the bits that it took. -/
def Took (w w' : World) (b off : Nat) (s : ByteArray) (a : Nat) (e0 : Int) (laid : List Bool) : Prop :=
  ∃ (a' : Nat) (e1 : Int), Rd w' b off s a' e1 ∧ Only b off (off + 3) w w' ∧ (e1 = 0 → e0 = 0 ∧ (rb s).take a' = (rb s).take a ++ laid)

theorem take_more (l : List Bool) (a n : Nat) (m : List Bool) (h : (l.drop a).take n = m) : l.take (a + n) = l.take a ++ m := by
  rw [List.take_add, h]

theorem rd_bits (b off : Nat) (s : ByteArray) (a n : Nat) (e0 : Int) (w : World) (h : Rd w b off s a e0) (hn : n ≤ 64) :
    Calls Tryz.prog 69 #[.pointer (some ⟨b, off, none⟩), .int .i64 n] w fun e w' => ∃ x : Nat, e = .returned (.int .u64 (x : Int)) ∧ x < 2 ^ n ∧ Took w w' b off s a e0 (bitsOf x n) := by
  have hpos : 0 < 2 ^ n := Nat.pos_of_ne_zero (by simp)
  by_cases he : e0 = 0
  · subst he
    by_cases hs : a + n ≤ 8 * s.size
    · refine (rbits_ok b off s a n w h hn hs).mono fun e w' ⟨h1, h2, h3⟩ => ?_
      have hlen : (((rb s).drop a).take n).length = n := by simp [rb]; omega
      have hbits := bitsOf_num (((rb s).drop a).take n)
      rw [hlen] at hbits
      refine ⟨_, h1, ?_, a + n, 0, h2, h3, fun _ => ⟨rfl, take_more _ _ _ _ hbits.symm⟩⟩
      have := num_lt (((rb s).drop a).take n)
      rwa [hlen] at this
    · refine (rbits_short b off s a n w h hn (by omega)).mono fun e w' ⟨h1, h2, h3⟩ => ?_
      exact ⟨0, h1, hpos, a, 12, h2, h3, fun h => by omega⟩
  · refine (rbits_bad b off s a n e0 w h (by rw [beq_eq_false_iff_ne]; exact he) (by omega) (by omega)).mono fun e w' ⟨h1, h2, h3⟩ => ?_
    exact ⟨0, h1, hpos, a, e0, h2, h3, fun h => absurd h he⟩

theorem rd_bit (b off : Nat) (s : ByteArray) (a : Nat) (e0 : Int) (w : World) (h : Rd w b off s a e0) :
    Calls Tryz.prog 139 #[.pointer (some ⟨b, off, none⟩)] w fun e w' => ∃ v : Bool, e = .returned (.bool v) ∧ Took w w' b off s a e0 [v] := by
  by_cases he : e0 = 0
  · subst he
    by_cases hs : a + 1 ≤ 8 * s.size
    · refine (rbit_of b off w _ _ (rbits_ok b off s a 1 w h (by omega) hs)).mono fun e w' ⟨h1, h2, h3⟩ => ?_
      have hin : a < (rb s).length := by simp [rb]; omega
      refine ⟨_, h1, a + 1, 0, h2, h3, fun _ => ⟨rfl, take_more _ _ _ _ ?_⟩⟩
      rw [bit_of _ _ hin, List.drop_eq_getElem_cons hin]
      cases (rb s)[a] <;> rfl
    · refine (rbit_of b off w 0 _ (rbits_short b off s a 1 w h (by omega) (by omega))).mono fun e w' ⟨h1, h2, h3⟩ => ?_
      exact ⟨_, h1, a, 12, h2, h3, fun h => by omega⟩
  · refine (rbit_of b off w 0 _ (rbits_bad b off s a 1 e0 w h (by rw [beq_eq_false_iff_ne]; exact he) (by omega) (by omega))).mono fun e w' ⟨h1, h2, h3⟩ => ?_
    exact ⟨_, h1, a, e0, h2, h3, fun h => absurd h he⟩

theorem ones_form (r : List Bool) (k : Nat) (h : OnesAt r k) (hk : k ≤ 64) (hl : k < r.length) : r.take (k + 1) = List.replicate k true ++ [false] := by
  obtain ⟨_, _, h1, h2⟩ := h
  have hf : r[k]? = some false := by
    rcases h2 with h2 | h2 | h2
    · omega
    · omega
    · exact h2
  apply List.ext_getElem?
  intro j
  by_cases hj : j < k
  · rw [List.getElem?_take_of_lt (by omega), h1 j hj, List.getElem?_append_left (by simpa using hj)]; simp [hj]
  · by_cases hj2 : j = k
    · subst hj2
      rw [List.getElem?_take_of_lt (by omega), hf, List.getElem?_append_right (by simp)]; simp
    · rw [List.getElem?_eq_none (by simp; omega), List.getElem?_eq_none (by simp; omega)]


/-- The three ways of a Var: told apart ahead of the call. -/
theorem var_cases (s : ByteArray) (a : Nat) : (∃ x en, readG 10 ((rb s).drop a) 0 0 a = (x, en, 0) ∧ x < 2 ^ 64 ∧ (a ≤ 8 * s.size → en ≤ 8 * s.size) ∧ (rb s).take en = (rb s).take a ++ varB x) ∨ ∃ c, 0 < c ∧ readG 10 ((rb s).drop a) 0 0 a = (0, 0, c) := by
  rcases readG_err 9 ((rb s).drop a) 0 0 a rfl with h | ⟨h1, h2, h3⟩
  · left
    generalize hr : readG 10 ((rb s).drop a) 0 0 a = r at *
    obtain ⟨x, en, c⟩ := r
    simp only at h
    subst h
    obtain ⟨hx, hen, rest, hl⟩ := varB_form _ _ _ _ hr
    refine ⟨x, en, rfl, hx, fun ha => ?_, ?_⟩
    · have h1 : ((rb s).drop a).length = (varB x).length + rest.length := by rw [hl]; simp
      simp [rb] at h1
      omega
    · rw [hen]
      exact take_more _ _ _ _ (by rw [hl]; exact List.take_left' rfl)
  · right
    generalize hr : readG 10 ((rb s).drop a) 0 0 a = r at *
    obtain ⟨x, en, c⟩ := r
    simp only at h1 h2 h3
    subst h1 h2
    exact ⟨c, by omega, rfl⟩

theorem rd_var (b off : Nat) (s : ByteArray) (a : Nat) (e0 : Int) (w : World) (h : Rd w b off s a e0) :
    Calls Tryz.prog 67 #[.pointer (some ⟨b, off, none⟩)] w fun e w' => ∃ x : Nat, e = .returned (.int .u64 (x : Int)) ∧ x < 18446744073709551616 ∧ Took w w' b off s a e0 (varB x) := by
  by_cases he : e0 = 0
  · subst he
    rcases var_cases s a with ⟨x, en, hr, hx, hen, ht⟩ | ⟨c, hc, hr⟩
    · refine (rvar_ok b off s a x en w h hr (hen h.le)).mono fun e w' ⟨h1, h2, h3⟩ => ?_
      exact ⟨x, h1, hx, en, 0, h2, h3, fun _ => ⟨rfl, ht⟩⟩
    · refine (rvar_err b off s a c w h hr hc).mono fun e w' ⟨h1, h2, h3⟩ => ?_
      exact ⟨0, h1, by omega, a, c, h2, h3, fun h => by omega⟩
  · refine (rvar_bad b off s a e0 w h (by rw [beq_eq_false_iff_ne]; exact he)).mono fun e w' ⟨h1, h2, h3⟩ => ?_
    exact ⟨0, h1, by omega, a, e0, h2, h3, fun h => absurd h he⟩

theorem zag_range (x : Nat) (h : x < 18446744073709551616) : -9223372036854775808 ≤ zag x ∧ zag x ≤ 9223372036854775807 := by
  unfold zag; split <;> omega

theorem rd_zig (b off : Nat) (s : ByteArray) (a : Nat) (e0 : Int) (w : World) (h : Rd w b off s a e0) :
    Calls Tryz.prog 72 #[.pointer (some ⟨b, off, none⟩)] w fun e w' => ∃ y : Int, e = .returned (.int .i64 y) ∧ (-9223372036854775808 ≤ y ∧ y ≤ 9223372036854775807) ∧ Took w w' b off s a e0 (varB (zig y)) := by
  by_cases he : e0 = 0
  · subst he
    rcases var_cases s a with ⟨x, en, hr, hx, hen, ht⟩ | ⟨c, hc, hr⟩
    · refine (rzig_of b off w x hx _ (rvar_ok b off s a x en w h hr (hen h.le))).mono fun e w' ⟨h1, h2, h3⟩ => ?_
      exact ⟨zag x, h1, zag_range x hx, en, 0, h2, h3, fun _ => ⟨rfl, by rw [zig_zag]; exact ht⟩⟩
    · refine (rzig_of b off w 0 (by omega) _ (rvar_err b off s a c w h hr hc)).mono fun e w' ⟨h1, h2, h3⟩ => ?_
      exact ⟨zag 0, h1, zag_range 0 (by omega), a, c, h2, h3, fun h => by omega⟩
  · refine (rzig_of b off w 0 (by omega) _ (rvar_bad b off s a e0 w h (by rw [beq_eq_false_iff_ne]; exact he))).mono fun e w' ⟨h1, h2, h3⟩ => ?_
    exact ⟨zag 0, h1, zag_range 0 (by omega), a, e0, h2, h3, fun h => absurd h he⟩

/-- Bytes whose bits are given. -/
theorem rbits_inj : ∀ (a b : List Nat), (∀ n ∈ a, n < 256) → (∀ n ∈ b, n < 256) → rbits a = rbits b → a = b := by
  intro a
  induction a with
  | nil =>
    intro b _ _ h
    cases b with
    | nil => rfl
    | cons y b => have := congrArg List.length h; simp at this; omega
  | cons x a ih =>
    intro b ha hb h
    cases b with
    | nil => have := congrArg List.length h; simp at this
    | cons y b =>
      rw [rbits_cons, rbits_cons] at h
      obtain ⟨h1, h2⟩ := List.append_inj h (by simp)
      have hx := ha x (by simp)
      have hy := hb y (by simp)
      have hn : num (bitsOf x 8) = num (bitsOf y 8) := by rw [h1]
      rw [num_bitsOf, num_bitsOf] at hn
      rw [show x = y from by omega, ih b (fun n hn => ha n (by simp [hn])) (fun n hn => hb n (by simp [hn])) h2]

/-- A reading that ends with OK: what was taken makes these bytes. -/
theorem packed_back (bs : List Nat) (hb : ∀ n ∈ bs, n < 256) (a : Nat) (ha : a ≤ 8 * bs.length) (h8 : 8 * bs.length - a < 8) (hz : num ((rbits bs).drop a) = 0) : packed ((rbits bs).take a) = bs := by
  apply rbits_inj _ _ (packed_lt _) hb
  rw [rbits_packed]
  have hl : ((rbits bs).take a).length = a := by simp; omega
  have hd : (rbits bs).drop a = List.replicate (8 * ((a + 7) / 8) - a) false := by
    apply num_inj
    · simp; omega
    · rw [hz, num_zeros]
  rw [hl, ← hd, List.take_append_drop]

end Go.Proofs.YtgjjkopmoobilaaGreatDoor

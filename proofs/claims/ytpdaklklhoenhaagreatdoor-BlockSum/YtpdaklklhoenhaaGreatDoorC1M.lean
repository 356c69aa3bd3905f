/- The bits of a column's codings: Plain, Stride, Runs. Plain mathematics. -/
import Derived.Test.YtpdaklklhoenhaaGreatDoorB1I
import Derived.Test.YtpdaklklhoenhaaGreatDoorU1G
import Derived.Test.YtpdaklklhoenhaaGreatDoorB1R
/- Slices of bytes, wherever they lie. -/
namespace Go.Proofs.YtpdaklklhoenhaaGreatDoor
open Go.RowKit
open M
set_option linter.unusedVariables false

/-- As IsBytes; or a slice of none, wherever it lies. -/
def IsBy (w : World) (v : Value) (bs : List Nat) : Prop := IsBytes w v bs ∨ ∃ ad cap, v = .slice (some ad) 0 cap ∧ bs = []

theorem convert_by (w : World) (v : Value) (bs : List Nat) (h : IsBy w v bs) : (convert 23 9 v).run Tryz.prog w = .ok (.string (strOf bs)) w := by
  rcases h with h | ⟨ad, cap, rfl, rfl⟩
  · exact convert_bytes w v bs h
  · rw [run_convert_bytes_string w 23 9 5 _ 0 cap Tryz.underlying23 Tryz.underlying5 Tryz.underlying9, run_bytesToString w ad 0 cap [] (by simp [loadCells, loadCellsFrom])]; rfl

theorem from_by (w : World) (v : Value) (bs : List Nat) (h : IsBy w v bs) :
    Calls Tryz.prog 80 #[v] w fun e w' => e = .returned (.pointer (some ⟨w.heap.size, 0, none⟩)) ∧ w' = w.alloc (.cells #[.string (strOf bs), .int .i64 0, .int .i64 0] 152) := by
  rcases h with h | ⟨ad, cap, rfl, rfl⟩
  · exact from_any w v bs h
  · have hcv := convert_by w (.slice (some ad) 0 cap) [] (.inr ⟨ad, cap, rfl, rfl⟩)
    go_enter Tryz.func80, Tryz.ntmps80
    go_wp2
    go_ret
    exact ⟨rfl, rfl⟩

theorem isBy_below {w w' : World} {v : Value} {bs : List Nat} (h : IsBy w v bs) (hB : Below w.heap.size w w') : IsBy w' v bs := by
  rcases h with h | h
  · exact .inl (isBytes_below h hB)
  · exact .inr h

end Go.Proofs.YtpdaklklhoenhaaGreatDoor

/- The contract of Unpack. -/
namespace Go.Proofs.YtpdaklklhoenhaaGreatDoor
open Go.RowKit
open M
set_option linter.unusedVariables false

/-- The bytes are those of n times h that rise. -/
def Packs (bs : List Nat) (h : Nat → Int) (n : Nat) : Prop := (∀ i, i < n → I64 (h i)) ∧ Rises h n ∧ packed (tbn h n) = bs

/-- What Unpack tells. -/
def UnpackEnd (w : World) (bs : List Nat) (n : Nat) (e : Ending) (w' : World) : Prop :=
  (e = .returned (.tuple #[.slice none 0 0, .int .i64 62]) ∧ Below w.heap.size w w' ∧ ¬ ∃ h, Packs bs h n) ∨
    ∃ (g : Nat) (f : Nat → Int), e = .returned (.tuple #[.slice (some ⟨g, 0, none⟩) n n, .int .i64 0]) ∧ w.heap.size ≤ g ∧ TRow w' (some ⟨g, 0, none⟩) n f ∧ Below w.heap.size w w' ∧ Packs bs f n ∧
      ∀ h, Begins (rbits bs) h n → ∀ i, i < n → f i = h i

/-- The same, and where the times lie: in a block of their own. -/
def UnpackOwn (w : World) (bs : List Nat) (n : Nat) (e : Ending) (w' : World) : Prop :=
  (e = .returned (.tuple #[.slice none 0 0, .int .i64 62]) ∧ Below w.heap.size w w' ∧ ¬ ∃ h, Packs bs h n) ∨
    ∃ (g : Nat) (f : Nat → Int), e = .returned (.tuple #[.slice (some ⟨g, 0, none⟩) n n, .int .i64 0]) ∧ w.heap.size ≤ g ∧ (TRow w' (some ⟨g, 0, none⟩) n f ∧ ∃ cur : Array Value, w'.heap[g]? = some (.cells cur 2 (0, 0)) ∧ cur.size = n) ∧ Below w.heap.size w w' ∧ Packs bs f n ∧
      ∀ h, Begins (rbits bs) h n → ∀ i, i < n → f i = h i

theorem begins_of {bs : List Nat} {h : Nat → Int} {n : Nat} (hP : Packs bs h n) : Begins (rbits bs) h n := by
  obtain ⟨h1, _, h2⟩ := hP
  exact ⟨h1, _, by rw [← h2, rbits_packed]⟩

theorem Tn.begins {w wr : World} {b : Nat} {bs : List Nat} {g n a : Nat} {e1 : Int} {f h : Nat → Int} (hb : ∀ n ∈ bs, n < 256) (T : Tn w wr b (strOf bs) g n n a e1 f) (hB : Begins (rbits bs) h n) : e1 = 0 ∧ ∀ i, i < n → f i = h i :=
  T.full h (by rw [rb_strOf bs hb]; exact hB)

theorem Tn.ended {w wr : World} {b : Nat} {bs : List Nat} {g n a : Nat} {e1 : Int} {f h : Nat → Int} (hb : ∀ n ∈ bs, n < 256) (T : Tn w wr b (strOf bs) g n n a e1 f) (hP : Packs bs h n) : endE (strOf bs) a e1 = 0 := by
  obtain ⟨h1, h2⟩ := T.begins hb (begins_of hP)
  subst h1
  have h3 := T.sound rfl
  rw [tbn_congr _ _ _ h2] at h3
  have h4 := congrArg List.length h3
  have h5 := T.rd.le
  rw [List.length_take, rb_lengthT, Nat.min_eq_left h5] at h4
  obtain ⟨_, _, hbs⟩ := hP
  rw [← hbs, h4]
  exact end_packed _

theorem Tn.packs {w wr : World} {b : Nat} {bs : List Nat} {g n a : Nat} {e1 : Int} {f : Nat → Int} (hb : ∀ n ∈ bs, n < 256) (T : Tn w wr b (strOf bs) g n n a e1 f) (hE : endE (strOf bs) a e1 = 0) (hr : Rises f n) : Packs bs f n := by
  refine ⟨T.rng, hr, ?_⟩
  unfold endE at hE
  by_cases he : e1 = 0
  · rw [if_pos he] at hE
    have hs : (strOf bs).size = bs.length := by simp
    rw [hs, rb_strOf bs hb] at hE
    by_cases h8 : 8 ≤ 8 * bs.length - a
    · rw [if_pos h8] at hE; cases hE
    · rw [if_neg h8] at hE
      by_cases hz : num ((rbits bs).drop a) = 0
      · have hle := T.rd.le
        rw [hs] at hle
        have h1 := T.sound he
        rw [rb_strOf bs hb] at h1
        rw [← h1]
        exact packed_back bs hb a hle (by omega) hz
      · rw [if_neg hz] at hE; cases hE
  · rw [if_neg he] at hE; exact absurd hE he

theorem Rises.congr {f h : Nat → Int} {n : Nat} (hr : Rises h n) (e : ∀ i, i < n → f i = h i) : Rises f n := fun i hi => by
  rw [e i (by omega), e (i + 1) hi]; exact hr i hi

theorem TW.trow {w : World} {g n : Nat} {f : Nat → Int} (h : TW w g n n f) : TRow w (some ⟨g, 0, none⟩) n f := fun _ =>
  ⟨g, 0, rfl, fun i hi => by rw [Nat.zero_add, h.cell i hi, if_pos hi]⟩

set_option maxHeartbeats 1000000 in
theorem unpack_own (v : Value) (bs : List Nat) (n : Nat) (w : World) (h : IsBy w v bs) (hb : ∀ n ∈ bs, n < 256) (hl : bs.length ≤ 1000000000000) (hn : n ≤ 4096) :
    Calls Tryz.prog 54 #[v, .int .i64 n] w (UnpackOwn w bs n) := by
  have H := hide h
  have HB := hide hb
  have HL := hide hl
  clear h hb hl
  go_enter Tryz.func54, Tryz.ntmps54
  go_wp2_with fail
  refine (from_by w v bs H.out).mono ?_
  rintro e w1 ⟨rfl, hw1⟩
  have HR : Hid (Rd w1 w.heap.size 0 (strOf bs) 0 0) := by rw [hw1]; exact rd_new w bs HL.out
  have HB1 : Hid (Below w.heap.size w w1) := by rw [hw1]; exact (Below.refl _ _).alloc (Nat.le_refl _) _
  clear hw1
  go_wp2_with fail
  refine (take_any w.heap.size (strOf bs) n w1 HR.out hn).mono ?_
  rintro e w2 (⟨rfl, O2, hno⟩ | ⟨a, e1, f, rfl, T⟩)
  · have HB2 : Hid (Below w.heap.size w w2) := HB1.out.trans (O2.below (Nat.le_refl _) HB1.out.size)
    have HNO := hide hno
    clear hno O2
    go_wp2_with fail
    go_ret2
    refine .inl ⟨rfl, HB2.out, fun ⟨h, hP⟩ => HNO.out ⟨h, ?_⟩⟩
    rw [rb_strOf bs HB.out]; exact begins_of hP
  · have HB2 : Hid (Below w.heap.size w w2) := HB1.out.trans (T.only.below (Nat.le_refl _) HB1.out.size)
    have hT := hide T
    clear T
    go_wp2_with fail
    refine (rend_any w.heap.size 0 (strOf bs) a e1 w2 hT.out.rd).mono ?_
    rintro e w3 ⟨rfl, m, hw3⟩
    have HB3 : Hid (Below w.heap.size w w3) := by rw [hw3]; exact below_drewNT HB2.out m
    have HT3 : Hid (TRow w3 (some ⟨w1.heap.size, 0, none⟩) n f ∧ ∃ cur : Array Value, w3.heap[w1.heap.size]? = some (.cells cur 2 (0, 0)) ∧ cur.size = n) := by rw [hw3]; exact ⟨hT.out.row.trow, hT.out.row.blk⟩
    clear hw3
    by_cases hE : endE (strOf bs) a e1 = 0
    · rw [hE]
      have HE := hide hE
      clear hE
      go_wp2_with fail
      refine (rise_any _ n n f w3 HT3.out.1 (by omega)).mono ?_
      rintro e w4 ⟨rr, rfl, hr, m4, hw4⟩
      have HB4 : Hid (Below w.heap.size w w4) := by rw [hw4]; exact below_drewNT HB3.out m4
      have HT4 : Hid (TRow w4 (some ⟨w1.heap.size, 0, none⟩) n f ∧ ∃ cur : Array Value, w4.heap[w1.heap.size]? = some (.cells cur 2 (0, 0)) ∧ cur.size = n) := by rw [hw4]; exact HT3.out
      clear hw4
      have HRR := hide hr
      clear hr
      cases rr with
      | false =>
        go_wp2_with fail
        go_ret2
        refine .inl ⟨rfl, HB4.out, fun ⟨h, hP⟩ => ?_⟩
        have h1 : Rises f n := Rises.congr hP.2.1 (hT.out.begins HB.out (begins_of hP)).2
        have := HRR.out.2 h1
        cases this
      | true =>
        go_wp2_with fail
        go_ret2
        exact .inr ⟨w1.heap.size, f, rfl, HB1.out.size, HT4.out, HB4.out, hT.out.packs HB.out HE.out (HRR.out.1 (by trivial)), fun h hB => (hT.out.begins HB.out hB).2⟩
    · have hE' : (endE (strOf bs) a e1 != 0) = true := by simp [hE]
      have HE := hide hE
      clear hE
      go_wp2_with fail
      go_ret2
      exact .inl ⟨rfl, HB3.out, fun ⟨h, hP⟩ => HE.out (hT.out.ended HB.out hP)⟩

theorem unpack_any (v : Value) (bs : List Nat) (n : Nat) (w : World) (h : IsBy w v bs) (hb : ∀ n ∈ bs, n < 256) (hl : bs.length ≤ 1000000000000) (hn : n ≤ 4096) :
    Calls Tryz.prog 54 #[v, .int .i64 n] w (UnpackEnd w bs n) := by
  refine (unpack_own v bs n w h hb hl hn).mono ?_
  rintro e w' (h1 | ⟨g, f, h1, h2, h3, h4⟩)
  · exact .inl h1
  · exact .inr ⟨g, f, h1, h2, h3.1, h4⟩

theorem unpack_count (v : Value) (n : Int) (w : World) (hn : n < 0 ∨ 4096 < n) :
    Calls Tryz.prog 54 #[v, .int .i64 n] w fun e w' => e = .returned (.tuple #[.slice none 0 0, .int .i64 60]) ∧ w' = w := by
  by_cases h0 : n < 0
  · go_enter Tryz.func54, Tryz.ntmps54
    go_wp2_with fail
    go_ret2
    exact ⟨rfl, rfl⟩
  · have h1 : 4096 < n := by omega
    go_enter Tryz.func54, Tryz.ntmps54
    go_wp2_with fail
    go_ret2
    exact ⟨rfl, rfl⟩

end Go.Proofs.YtpdaklklhoenhaaGreatDoor

namespace Go.Proofs.YtpdaklklhoenhaaGreatDoor
open M
set_option linter.unusedVariables false

/-- n values of W bits each, as they are. -/
def plB (W : Nat) (f : Nat → Nat) : Nat → List Bool
  | 0 => []
  | n + 1 => plB W f n ++ bitsOf (f n) W

theorem plB_length (W : Nat) (f : Nat → Nat) (n : Nat) : (plB W f n).length = W * n := by
  induction n with
  | zero => rfl
  | succ n ih => rw [plB, List.length_append, ih, bitsOf_length, Nat.mul_succ]

theorem plB_congr (W : Nat) (f g : Nat → Nat) (n : Nat) (h : ∀ i, i < n → f i = g i) : plB W f n = plB W g n := by
  induction n with
  | zero => rfl
  | succ n ih => rw [plB, plB, ih fun i hi => h i (by omega), h n (by omega)]

/-- What is expected of value i, modulo M. -/
def exS (M : Nat) (f : Nat → Nat) : Nat → Nat
  | 0 => 0
  | 1 => f 0
  | i + 2 => (2 * f (i + 1) + M - f i) % M

/-- A number of W bits read as a signed one (H = 2^(W-1), M = 2^W). -/
def sgW (H M x : Nat) : Int := if x < H then (x : Int) else (x : Int) - M

/-- What is laid of value i. -/
def rsS (M : Nat) (f : Nat → Nat) (i : Nat) : Nat := (f i + M - exS M f i) % M

theorem exS_lt (M : Nat) (f : Nat → Nat) (hM : 0 < M) (i : Nat) (h : ∀ j, j < i → f j < M) : exS M f i < M := by
  match i with
  | 0 => exact hM
  | 1 => exact h 0 (by omega)
  | i + 2 => exact Nat.mod_lt _ hM

theorem rsS_lt (M : Nat) (f : Nat → Nat) (hM : 0 < M) (i : Nat) : rsS M f i < M := Nat.mod_lt _ hM

theorem rsS_back (M : Nat) (f : Nat → Nat) (hM : 0 < M) (i : Nat) (h : ∀ j, j ≤ i → f j < M) : (exS M f i + rsS M f i) % M = f i := by
  have he := exS_lt M f hM i fun j hj => h j (by omega)
  have hf := h i (by omega)
  unfold rsS
  by_cases hle : exS M f i ≤ f i
  · have e : f i + M - exS M f i = (f i - exS M f i) + M := by omega
    rw [e, Nat.add_mod_right, Nat.mod_eq_of_lt (show f i - exS M f i < M by omega), show exS M f i + (f i - exS M f i) = f i from by omega, Nat.mod_eq_of_lt hf]
  · rw [Nat.mod_eq_of_lt (show f i + M - exS M f i < M by omega), show exS M f i + (f i + M - exS M f i) = f i + M from by omega, Nat.add_mod_right, Nat.mod_eq_of_lt hf]

theorem sgW_range (H M x : Nat) (hM : M = 2 * H) (hx : x < M) : -(H : Int) ≤ sgW H M x ∧ sgW H M x < (H : Int) := by
  unfold sgW; split <;> omega

theorem sgW_mod (H M x : Nat) (hM : M = 2 * H) (hx : x < M) : sgW H M x % (M : Int) = (x : Int) := by
  unfold sgW
  split
  · exact Int.emod_eq_of_lt (by omega) (by omega)
  · rw [show ((x : Int) - M) = (x : Int) + M * (-1) from by omega, Int.add_mul_emod_self_left]
    exact Int.emod_eq_of_lt (by omega) (by omega)

/-- The bits of n values by Stride. -/
def stB (H M : Nat) (f : Nat → Nat) : Nat → List Bool
  | 0 => []
  | n + 1 => stB H M f n ++ varB (zig (sgW H M (rsS M f n)))

theorem exS_congr (M : Nat) (f g : Nat → Nat) (i : Nat) (h : ∀ j, j < i → f j = g j) : exS M f i = exS M g i := by
  match i with
  | 0 => rfl
  | 1 => exact h 0 (by omega)
  | i + 2 => rw [exS, exS, h i (by omega), h (i + 1) (by omega)]

theorem stB_congr (H M : Nat) (f g : Nat → Nat) (n : Nat) (h : ∀ i, i < n → f i = g i) : stB H M f n = stB H M g n := by
  induction n with
  | zero => rfl
  | succ n ih => rw [stB, stB, ih fun i hi => h i (by omega), rsS, rsS, h n (by omega), exS_congr M f g n fun j hj => h j (by omega)]

/-- How many values from i on, of those before n, are the value at i. -/
def aheadOf (f : Nat → Nat) (v : Nat) : Nat → Nat → Nat
  | _, 0 => 0
  | i, k + 1 => if f i = v then aheadOf f v (i + 1) k + 1 else 0

theorem aheadOf_le (f : Nat → Nat) (v i k : Nat) : aheadOf f v i k ≤ k := by
  induction k generalizing i with
  | zero => exact Nat.le_refl _
  | succ k ih => have := ih (i + 1); rw [aheadOf]; split <;> omega

theorem aheadOf_eq (f : Nat → Nat) (v i k : Nat) (j : Nat) (hj : j < aheadOf f v i k) : f (i + j) = v := by
  induction k generalizing i j with
  | zero => simp [aheadOf] at hj
  | succ k ih =>
    rw [aheadOf] at hj
    split at hj
    · rename_i h
      match j with
      | 0 => exact h
      | j + 1 => rw [show i + (j + 1) = i + 1 + j from by omega]; exact ih (i + 1) j (by omega)
    · omega

theorem aheadOf_pos (f : Nat → Nat) (i k : Nat) : 0 < aheadOf f (f i) i (k + 1) := by rw [aheadOf, if_pos rfl]; omega

/-- What ends a run: the first value that is another one. -/
theorem aheadOf_of (f : Nat → Nat) (v i k m : Nat) (hm : m ≤ k) (hs : ∀ j, j < m → f (i + j) = v) (he : m < k → f (i + m) ≠ v) : aheadOf f v i k = m := by
  induction k generalizing i m with
  | zero => simp [aheadOf]; omega
  | succ k ih =>
    rw [aheadOf]
    match m with
    | 0 => rw [if_neg]; exact fun h => he (by omega) h
    | m + 1 =>
      rw [if_pos (show f i = v from hs 0 (by omega)), ih (i + 1) m (by omega) (fun j hj => ?_) (fun hj => ?_)]
      · rw [show i + 1 + j = i + (j + 1) from by omega]; exact hs (j + 1) (by omega)
      · rw [show i + 1 + m = i + (m + 1) from by omega]; exact he (by omega)

/-- The bits by Runs of k values from i on (of at most u runs). -/
def rnB (W : Nat) (f : Nat → Nat) : Nat → Nat → Nat → List Bool
  | 0, _, _ => []
  | _, _, 0 => []
  | u + 1, i, k + 1 => bitsOf (f i) W ++ varB (aheadOf f (f i) i (k + 1) - 1) ++ rnB W f u (i + aheadOf f (f i) i (k + 1)) (k + 1 - aheadOf f (f i) i (k + 1))

/-- So many runs are enough. -/
theorem rnB_enough (W : Nat) (f : Nat → Nat) (u u' i k : Nat) (h : k ≤ u) (h' : k ≤ u') : rnB W f u i k = rnB W f u' i k := by
  induction u generalizing u' i k with
  | zero => obtain rfl : k = 0 := by omega
            cases u' <;> rfl
  | succ u ih =>
    match k, u' with
    | 0, 0 => rfl
    | 0, u' + 1 => rfl
    | k + 1, u' + 1 =>
      have hp := aheadOf_pos f i k
      rw [rnB, rnB, ih u' _ _ (by omega) (by omega)]

end Go.Proofs.YtpdaklklhoenhaaGreatDoor

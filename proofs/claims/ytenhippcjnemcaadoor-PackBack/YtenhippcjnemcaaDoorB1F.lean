/- The contracts of From, and of a Reader's Bits, Bit, End. -/
import Derived.Test.YtenhippcjnemcaaDoorB1L
import Derived.Laws.BytesArg
namespace Go.Proofs.YtenhippcjnemcaaDoor
open Go.RowKit
open M
set_option linter.unusedVariables false

/-- The slice v holds the bytes bs. -/
def IsBytes (w : World) (v : Value) (bs : List Nat) : Prop :=
  (v = .slice none 0 0 ∧ bs = []) ∨ ∃ g o cap, v = .slice (some ⟨g, o, none⟩) bs.length cap ∧ ∀ i, i < bs.length → w.cell? ⟨g, o + i, none⟩ = some (.int .u8 (bs.getD i 0 : Nat))

/-- The text of these bytes. -/
def strOf (bs : List Nat) : ByteArray := strOfNums (bs.map fun (n : Nat) => (n : Int))

theorem bytesN_strOf (bs : List Nat) (h : ∀ n ∈ bs, n < 256) : bytesN (strOf bs) = bs := by
  unfold bytesN strOf
  rw [strOfNums_data, List.map_map, List.map_map]
  conv => rhs; rw [← List.map_id bs]
  apply List.map_congr_left
  intro n hn
  have := h n hn
  simp; omega

@[simp] theorem strOf_size (bs : List Nat) : (strOf bs).size = bs.length := by simp [strOf, strOfNums_size]

theorem convert_bytes (w : World) (v : Value) (bs : List Nat) (h : IsBytes w v bs) : (convert 34 9 v).run Tryd.prog w = .ok (.string (strOf bs)) w := by
  rcases h with ⟨rfl, rfl⟩ | ⟨g, o, cap, rfl, hc⟩
  · rw [run_convert_bytes_nil w 34 5 Tryd.underlying34 Tryd.underlying5 0 0 9 Tryd.underlying9]; rfl
  · exact run_convert_bytes_arg w 34 5 Tryd.underlying34 Tryd.underlying5 g o bs.length cap (bs.map fun (n : Nat) => (n : Int)) (by simp) (fun i hi => by rw [hc i hi]; simp [List.getD, hi]) 9 Tryd.underlying9

theorem from_any (w : World) (v : Value) (bs : List Nat) (h : IsBytes w v bs) :
    Calls Tryd.prog 19 #[v] w fun e w' => e = .returned (.pointer (some ⟨w.heap.size, 0, none⟩)) ∧ w' = w.alloc (.cells #[.string (strOf bs), .int .i64 0, .int .i64 0] 69) := by
  have hcv := convert_bytes w v bs h
  rcases h with ⟨rfl, rfl⟩ | ⟨g, o, cap, rfl, hc⟩
  · go_enter Tryd.func19, Tryd.ntmps19
    go_wp2
    go_ret
    exact ⟨rfl, rfl⟩
  · go_enter Tryd.func19, Tryd.ntmps19
    go_wp2
    go_ret
    exact ⟨rfl, rfl⟩

/-- A Reader that From has made. -/
theorem rd_new (w : World) (bs : List Nat) (hb : bs.length ≤ 1000000000000) : Rd (w.alloc (.cells #[.string (strOf bs), .int .i64 0, .int .i64 0] 69)) w.heap.size 0 (strOf bs) 0 0 := by
  have hn : (w.alloc (.cells #[.string (strOf bs), .int .i64 0, .int .i64 0] 69)).heap[w.heap.size]? = some (.cells #[.string (strOf bs), .int .i64 0, .int .i64 0] 69 (0, 0)) := heap_alloc_new _ _
  refine ⟨?_, ?_, ?_, fun j hj => ?_, by simpa using hb, by omega⟩
  · rw [cell_of_row _ _ _ _ _ _ hn]; rfl
  · rw [cell_of_row _ _ _ _ _ _ hn]; rfl
  · rw [cell_of_row _ _ _ _ _ _ hn]; rfl
  · exact frozen_of_row _ _ _ _ _ hn

theorem Rd.setAt {w : World} {b off : Nat} {s : ByteArray} {a : Nat} {e : Int} (h : Rd w b off s a e) (a' : Nat) (ha : a' ≤ 8 * s.size) : Rd (w.setCell ⟨b, off + 1, none⟩ (.int .i64 a')) b off s a' e := by
  refine ⟨?_, ?_, ?_, fun j hj => ?_, h.size, ha⟩
  · rw [cell_setCell_ne _ _ _ _ _ (by omega)]; exact h.text
  · exact cell_setCell_eq _ _ _ _ _ h.at_
  · rw [cell_setCell_ne _ _ _ _ _ (by omega)]; exact h.err
  · rw [frozen_setCell]; exact h.fz j hj

theorem Rd.setErr {w : World} {b off : Nat} {s : ByteArray} {a : Nat} {e : Int} (h : Rd w b off s a e) (e' : Int) : Rd (w.setCell ⟨b, off + 2, none⟩ (.int .i64 e')) b off s a e' := by
  refine ⟨?_, ?_, ?_, fun j hj => ?_, h.size, h.le⟩
  · rw [cell_setCell_ne _ _ _ _ _ (by omega)]; exact h.text
  · rw [cell_setCell_ne _ _ _ _ _ (by omega)]; exact h.at_
  · exact cell_setCell_eq _ _ _ _ _ h.err
  · rw [frozen_setCell]; exact h.fz j hj

/-- The bits that a Reader reads. -/
def rb (s : ByteArray) : List Bool := rbits (bytesN s)

set_option maxHeartbeats 400000 in
theorem rbits_ok (b off : Nat) (s : ByteArray) (a n : Nat) (w : World) (h : Rd w b off s a 0) (hn : n ≤ 64) (han : a + n ≤ 8 * s.size) :
    Calls Tryd.prog 26 #[.pointer (some ⟨b, off, none⟩), .int .i64 n] w fun e w' => e = .returned (.int .u64 (num (((rb s).drop a).take n) : Int)) ∧ Rd w' b off s (a + n) 0 ∧ Only b off (off + 3) w w' := by
  have h1 := h.at_
  have h2 := h.err
  have h3 := h.fz 1 (by omega)
  have hs := h.size
  go_enter Tryd.func26, Tryd.ntmps26
  go_wp2_with fail
  refine (rleft_any b off s a 0 _ h).mono ?_
  rintro e w1 ⟨rfl, m, rfl⟩
  have hnl : ¬ ((8 * s.size - a : Nat) : Int) < (n : Int) := by omega
  go_wp2_with fail
  refine (look_any b off s a n _ (h.drewN m).text hs hn han).mono ?_
  rintro e w1 ⟨rfl, m2, rfl⟩
  go_wp2_with fail
  go_ret
  have hR : Rd (w.drewN (m + m2)) b off s a 0 := h.drewN _
  refine ⟨rfl, ?_, ?_⟩
  · have := hR.setAt (a + n) han
    simpa using this
  · exact ((Only.refl _ _ _ w).drewN _).setCell _ (by omega) (by omega) _

set_option maxHeartbeats 400000 in
theorem rbits_short (b off : Nat) (s : ByteArray) (a n : Nat) (w : World) (h : Rd w b off s a 0) (hn : n ≤ 64) (han : 8 * s.size < a + n) :
    Calls Tryd.prog 26 #[.pointer (some ⟨b, off, none⟩), .int .i64 n] w fun e w' => e = .returned (.int .u64 0) ∧ Rd w' b off s a 12 ∧ Only b off (off + 3) w w' := by
  have h1 := h.at_
  have h2 := h.err
  have h3 := h.fz 2 (by omega)
  have hs := h.size
  have hle := h.le
  go_enter Tryd.func26, Tryd.ntmps26
  go_wp2_with fail
  refine (rleft_any b off s a 0 _ h).mono ?_
  rintro e w1 ⟨rfl, m, rfl⟩
  have hnl : ((8 * s.size - a : Nat) : Int) < (n : Int) := by omega
  go_wp2_with fail
  refine (rrefuse_zero b off 12 (w.drewN m) h2 h3).mono ?_
  rintro e w1 ⟨rfl, rfl⟩
  have hR : Rd ((w.drewN m).setCell ⟨b, off + 2, none⟩ (.int .i64 12)) b off s a 12 := (h.drewN m).setErr 12
  have hE := hR.err
  have hO : Only b off (off + 3) w ((w.drewN m).setCell ⟨b, off + 2, none⟩ (.int .i64 12)) := ((Only.refl _ _ _ w).drewN _).setCell _ (by omega) (by omega) _
  generalize (w.drewN m).setCell ⟨b, off + 2, none⟩ (.int .i64 12) = w2 at *
  go_wp2_with fail
  go_ret
  exact ⟨rfl, hR, hO⟩

set_option maxHeartbeats 400000 in
theorem rbits_bad (b off : Nat) (s : ByteArray) (a : Nat) (n e0 : Int) (w : World) (h : Rd w b off s a e0) (he : (e0 == 0) = false) (hn : 0 ≤ n) (hn2 : n ≤ 64) :
    Calls Tryd.prog 26 #[.pointer (some ⟨b, off, none⟩), .int .i64 n] w fun e w' => e = .returned (.int .u64 0) ∧ Rd w' b off s a e0 ∧ Only b off (off + 3) w w' := by
  have h1 := h.at_
  have h2 := h.err
  have hs := h.size
  have hle := h.le
  have hne : (e0 != 0) = true := by simp [bne, he]
  by_cases hnl : ((8 * s.size - a : Nat) : Int) < n
  · go_enter Tryd.func26, Tryd.ntmps26
    go_wp2_with fail
    refine (rleft_any b off s a e0 _ h).mono ?_
    rintro e w1 ⟨rfl, m, rfl⟩
    go_wp2_with fail
    refine (rrefuse_not b off 12 e0 (w.drewN m) h2 he).mono ?_
    rintro e w1 ⟨rfl, rfl⟩
    go_wp2_with fail
    go_ret
    exact ⟨rfl, h.drewN m, (Only.refl _ _ _ w).drewN _⟩
  · go_enter Tryd.func26, Tryd.ntmps26
    go_wp2_with fail
    refine (rleft_any b off s a e0 _ h).mono ?_
    rintro e w1 ⟨rfl, m, rfl⟩
    go_wp2_with fail
    go_ret
    exact ⟨rfl, h.drewN m, (Only.refl _ _ _ w).drewN _⟩

/-- What End tells. -/
def endE (s : ByteArray) (a : Nat) (e : Int) : Int := if e = 0 then (if 8 ≤ 8 * s.size - a then 14 else if num ((rb s).drop a) = 0 then 0 else 13) else e

theorem quietN {P : Program} {f : Nat} {args : Array Value} {w : World} {x : Nat} {v : Value} (h : Calls P f args (w.drewN x) fun e w' => e = .returned v ∧ ∃ n, w' = (w.drewN x).drewN n) :
    Calls P f args (w.drewN x) fun e w' => e = .returned v ∧ ∃ n, w' = w.drewN n :=
  h.mono fun e w' ⟨he, n, hn⟩ => ⟨he, x + n, by rw [hn, World.drewN_drewN]⟩

set_option maxHeartbeats 1000000 in
theorem rend_any (b off : Nat) (s : ByteArray) (a : Nat) (e0 : Int) (w : World) (h : Rd w b off s a e0) :
    Calls Tryd.prog 21 #[.pointer (some ⟨b, off, none⟩)] w fun e w' => e = .returned (.int .i64 (endE s a e0)) ∧ ∃ m, w' = w.drewN m := by
  have h0 := h.text
  have h1 := h.at_
  have h2 := h.err
  have hs := h.size
  have hle := h.le
  by_cases he : e0 = 0
  · subst he
    by_cases h8 : 8 ≤ 8 * s.size - a
    · have hl : (8 : Int) ≤ ((8 * s.size - a : Nat) : Int) := by omega
      have hE : Hid (endE s a 0 = 14) := by show _ = _; simp [endE, h8]
      go_enter Tryd.func21, Tryd.ntmps21
      go_wp2_with fail
      refine (rleft_any b off s a 0 _ h).mono ?_
      rintro e w1 ⟨rfl, m, rfl⟩
      go_wp2_with fail
      go_ret
      exact ⟨by rw [hE.out]; rfl, m, rfl⟩
    · have hl : ¬ (8 : Int) ≤ ((8 * s.size - a : Nat) : Int) := by omega
      obtain ⟨x, hx⟩ : ∃ x, x = num (((rb s).drop a).take (8 * s.size - a)) := ⟨_, rfl⟩
      have hlk := fun w (ht : World.cell? w ⟨b, off, none⟩ = some (.string s)) => look_any b off s a (8 * s.size - a) w ht hs (by omega) (by omega)
      have hfull : ((rb s).drop a).take (8 * s.size - a) = (rb s).drop a := List.take_of_length_le (by simp [rb])
      have HF : Hid (x = num ((rb s).drop a)) := by rw [hfull] at hx; exact hx
      have HK := hlk
      have hx' : num (((rbits (bytesN s)).drop a).take (8 * s.size - a)) = x := hx.symm
      simp only [hx'] at HK
      clear hlk hx hfull hx'
      have HK' : Hid (∀ w : World, World.cell? w ⟨b, off, none⟩ = some (.string s) → Calls Tryd.prog 30 #[.pointer (some ⟨b, off, none⟩), .int .i64 a, .int .i64 ((8 * s.size - a : Nat) : Int)] w fun e w' => e = .returned (.int .u64 (x : Int)) ∧ ∃ m, w' = w.drewN m) := HK
      clear HK
      by_cases hz : x = 0
      · subst hz
        have hE : Hid (endE s a 0 = 0) := by show _ = _; simp [endE, h8, ← HF.out]
        go_enter Tryd.func21, Tryd.ntmps21
        go_wp2_with fail
        refine (rleft_any b off s a 0 _ h).mono ?_
        rintro e w1 ⟨rfl, m, rfl⟩
        have hR := h.drewN m
        have h0' := hR.text
        have h1' := hR.at_
        have hm1 : Hid (∃ m1, w.drewN m = w.drewN m1) := ⟨m, rfl⟩
        generalize w.drewN m = w1 at *
        go_wp2_with fail
        go_quiet (first | (go_at_call 29; exact quietN (rleft_any b off s a 0 _ (hR.drewN _))) | (go_at_call 30; exact quietN (HK'.out _ (hR.drewN _).text)))
        go_wp2_with fail
        go_ret
        obtain ⟨m1, rfl⟩ := hm1.out
        exact ⟨by rw [hE.out]; rfl, m1 + nq, World.drewN_drewN _ _ _⟩
      · have hE : Hid (endE s a 0 = 13) := by show _ = _; simp [endE, h8, ← HF.out, hz]
        have hz' : ((x : Int) != 0) = true := by simp [hz]
        go_enter Tryd.func21, Tryd.ntmps21
        go_wp2_with fail
        refine (rleft_any b off s a 0 _ h).mono ?_
        rintro e w1 ⟨rfl, m, rfl⟩
        have hR := h.drewN m
        have h0' := hR.text
        have h1' := hR.at_
        have hm1 : Hid (∃ m1, w.drewN m = w.drewN m1) := ⟨m, rfl⟩
        generalize w.drewN m = w1 at *
        go_wp2_with fail
        go_quiet (first | (go_at_call 29; exact quietN (rleft_any b off s a 0 _ (hR.drewN _))) | (go_at_call 30; exact quietN (HK'.out _ (hR.drewN _).text)))
        go_wp2_with fail
        go_ret
        obtain ⟨m1, rfl⟩ := hm1.out
        exact ⟨by rw [hE.out]; rfl, m1 + nq, World.drewN_drewN _ _ _⟩
  · have hne : (e0 != 0) = true := by simp [he]
    have hE : Hid (endE s a e0 = e0) := by show _ = _; simp [endE, he]
    go_enter Tryd.func21, Tryd.ntmps21
    go_wp2_with fail
    go_ret
    exact ⟨by rw [hE.out]; rfl, 0, rfl⟩

theorem rbit_of (b off : Nat) (w : World) (x : Nat) (R : World → Prop) (h : Calls Tryd.prog 26 #[.pointer (some ⟨b, off, none⟩), .int .i64 1] w fun e w' => e = .returned (.int .u64 (x : Int)) ∧ R w') :
    Calls Tryd.prog 38 #[.pointer (some ⟨b, off, none⟩)] w fun e w' => e = .returned (.bool (x == 1)) ∧ R w' := by
  have H : Hid (Calls Tryd.prog 26 #[.pointer (some ⟨b, off, none⟩), .int .i64 1] w fun e w' => e = .returned (.int .u64 (x : Int)) ∧ R w') := h
  clear h
  go_enter Tryd.func38, Tryd.ntmps38
  go_wp2_with fail
  refine H.out.mono ?_
  rintro e w1 ⟨rfl, hr⟩
  go_wp2_with fail
  go_ret
  refine ⟨?_, hr⟩
  show Ending.returned (.bool ((x : Int) == 1)) = _
  congr 2
  by_cases hx : x = 1
  · subst hx; rfl
  · have : ¬ (x : Int) = 1 := by omega
    rw [beq_eq_false_iff_ne.2 hx, beq_eq_false_iff_ne.2 this]

end Go.Proofs.YtenhippcjnemcaaDoor

/- The reader of texts: its blanks, a byte that it takes. -/
import Derived.Test.YtgcmdbpanfeaaabGreatDoorL1E
import Derived.Test.YtgcmdbpanfeaaabGreatDoorL2B
namespace Go.Proofs.YtgcmdbpanfeaaabGreatDoor
open Go.RowKit
set_option linter.unusedVariables false
set_option linter.unusedSimpArgs false

/-- What is written but in block g. -/
structure Ch (g : Nat) (w w' : World) : Prop where
  os : w'.os = w.os
  tape : w'.tape = w.tape
  output : w'.output = w.output
  size : w.heap.size ≤ w'.heap.size
  blk : ∀ k, k < w.heap.size → k ≠ g → w'.heap[k]? = w.heap[k]?

theorem Ch.refl (g : Nat) (w : World) : Ch g w w := ⟨rfl, rfl, rfl, Nat.le_refl _, fun _ _ _ => rfl⟩
theorem Ch.trans {g : Nat} {a b c : World} (h1 : Ch g a b) (h2 : Ch g b c) : Ch g a c :=
  ⟨h2.os.trans h1.os, h2.tape.trans h1.tape, h2.output.trans h1.output, Nat.le_trans h1.size h2.size, fun k hk hne => (h2.blk k (Nat.lt_of_lt_of_le hk h1.size) hne).trans (h1.blk k hk hne)⟩
theorem Ch.of {g : Nat} {w w' : World} (h : Below w.heap.size w w') : Ch g w w' := ⟨h.os, h.tape, h.output, h.size, fun k hk _ => h.block k hk⟩
theorem Ch.below {g B : Nat} {w w' : World} (h : Ch g w w') (hB : B ≤ g) (hs : B ≤ w.heap.size) : Below B w w' := ⟨h.os, h.tape, h.output, h.size, fun k hk => h.blk k (by omega) (by omega)⟩
theorem Ch.set {g : Nat} (w : World) (o : Nat) (v : Value) : Ch g w (w.setCell ⟨g, o, none⟩ v) := by
  refine ⟨rfl, rfl, rfl, by simp [World.setCell], fun k hk hne => ?_⟩
  exact Below.heap_setCell w ⟨g, o, none⟩ v k hne

theorem Ch.drewN {g : Nat} (w : World) (q : Nat) : Ch g w (w.drewN q) := ⟨rfl, rfl, rfl, Nat.le_refl _, fun _ _ _ => rfl⟩

/-- A reader of the text s lies in block g and stands at a. -/
structure RD (w : World) (g : Nat) (s : ByteArray) (a : Nat) : Prop where
  row : w.heap[g]? = some (.cells #[.string s, .int .i64 (a : Int)] 64)

theorem RD.c0 {w : World} {g : Nat} {s : ByteArray} {a : Nat} (h : RD w g s a) : w.cell? ⟨g, 0, none⟩ = some (.string s) := by rw [cell_of_row w g 0 _ _ (0, 0) h.row]; rfl
theorem RD.c1 {w : World} {g : Nat} {s : ByteArray} {a : Nat} (h : RD w g s a) : w.cell? ⟨g, 1, none⟩ = some (.int .i64 (a : Int)) := by rw [cell_of_row w g 1 _ _ (0, 0) h.row]; rfl
theorem RD.f1 {w : World} {g : Nat} {s : ByteArray} {a : Nat} (h : RD w g s a) : w.frozen? ⟨g, 1, none⟩ = false := frozen_of_row _ _ _ _ _ h.row
theorem RD.below {w w' : World} {g : Nat} {s : ByteArray} {a : Nat} (h : RD w g s a) (hb : Below w.heap.size w w') : RD w' g s a := ⟨by rw [hb.block g (size_lt_of_row h.row)]; exact h.row⟩
theorem RD.drewN {w : World} {g : Nat} {s : ByteArray} {a : Nat} (h : RD w g s a) (q : Nat) : RD (w.drewN q) g s a := ⟨h.row⟩
theorem RD.put {w : World} {g : Nat} {s : ByteArray} {a : Nat} (h : RD w g s a) (b : Nat) : RD (w.setCell ⟨g, 1, none⟩ (.int .i64 (b : Int))) g s b := ⟨by
  show (w.heap.modify g _)[g]? = _
  rw [Array.getElem?_modify, if_pos rfl, h.row]; rfl⟩

/-- Behind the blanks from place a on. -/
def skipB (l : List Nat) (a : Nat) : Nat := a + ((l.drop a).takeWhile fun x => decide (x = 32)).length

theorem skipB_le (l : List Nat) (a : Nat) (h : a ≤ l.length) : a ≤ skipB l a ∧ skipB l a ≤ l.length := by
  unfold skipB
  have := (List.takeWhile_sublist (fun x => decide (x = 32)) (l := l.drop a)).length_le
  rw [List.length_drop] at this
  omega

theorem skipB_yes {l : List Nat} {a : Nat} (h : a < l.length) (h32 : l.getD a 0 = 32) : skipB l a = skipB l (a + 1) := by
  unfold skipB
  have e : l.drop a = l.getD a 0 :: l.drop (a + 1) := by rw [List.drop_eq_getElem_cons h]; simp [List.getD, h]
  rw [e, h32]; simp; omega

theorem skipB_no {l : List Nat} {a : Nat} (h : l.length ≤ a ∨ l.getD a 0 ≠ 32) : skipB l a = a := by
  unfold skipB
  rcases Nat.lt_or_ge a l.length with h1 | h1
  · have e : l.drop a = l.getD a 0 :: l.drop (a + 1) := by rw [List.drop_eq_getElem_cons h1]; simp [List.getD, h1]
    have h2 : l.getD a 0 ≠ 32 := by rcases h with h | h; omega; exact h
    rw [e, List.takeWhile_cons, if_neg (by simpa using h2)]; simp
  · rw [List.drop_eq_nil_of_le h1]; simp

set_option maxRecDepth 100000 in
set_option maxHeartbeats 1000000 in
theorem rest_any (g : Nat) (s : ByteArray) (a : Nat) (w : World) (h : RD w g s a) (ha : a ≤ s.size) (hs : s.size ≤ 1000000000) :
    Calls Tryz.prog 48 #[.pointer (some ⟨g, 0, none⟩)] w fun e w' => e = .returned (.string (s.extract (skipB (bytesN s) a) s.size)) ∧ RD w' g s (skipB (bytesN s) a) ∧ Ch g w w' := by
  have HR := hide h
  have HS := hide hs
  obtain ⟨A, hA⟩ : ∃ A, skipB (bytesN s) a = A := ⟨_, rfl⟩
  have HA : Hid (skipB (bytesN s) a = A ∧ a ≤ s.size) := ⟨hA, ha⟩
  rw [hA]
  clear h hA
  go_enter Tryz.func48, Tryz.ntmps48
  go_wp2_with fail
  go_loopw [24] (fun t24 wr => Hid (∃ k : Nat, k ≤ s.size ∧ RD wr g s k ∧ Ch g w wr ∧ skipB (bytesN s) k = A)) (fun _ wr => s.size - (intOf ((wr.cell? ⟨g, 1, none⟩).getD undef)).toNat)
  case atStart => exact ⟨a, ha, HR.out, Ch.refl _ _, HA.out.1⟩
  case round =>
    obtain ⟨k, hk, hrd, hch, hsk⟩ := hrel.out
    have c0 := hrd.c0
    have c1 := hrd.c1
    have f1 := hrd.f1
    have HRD := hide hrd
    have HCH := hide hch
    have HSK := hide hsk
    clear hrel hrd hch hsk
    obtain ⟨n, hn⟩ : ∃ n, s.size = n := ⟨_, rfl⟩
    by_cases hlt : k < n
    · have hz : (k : Int) < (n : Int) := by omega
      have hzd : decide ((k : Int) < (n : Int)) = true := by simp; omega
      have hx : (s[k]'(by omega)).toNat = (bytesN s).getD k 0 := (bytesN_getD s k (by omega)).symm
      obtain ⟨x, hxx⟩ : ∃ x, (bytesN s).getD k 0 = x := ⟨_, rfl⟩
      rw [hxx] at hx
      have HXX := hide hxx
      clear hxx
      by_cases h32 : x = 32
      · subst h32
        have HN : Hid (skipB (bytesN s) (k + 1) = A) := hide (by rw [← skipB_yes (by rw [bytesN_length]; omega) HXX.out]; exact HSK.out)
        go_wp2_with fail
        go_quiet (fail)
        go_wp2_with fail
        have e : ((k : Int) + 1) = ((k + 1 : Nat) : Int) := by omega
        rw [e]
        have hp := (HRD.out.drewN nq).put (k + 1)
        refine ⟨⟨k + 1, by omega, hp, (HCH.out.trans (Ch.drewN _ _)).trans (Ch.set _ _ _), HN.out⟩, ?_⟩
        rw [hp.c1, c1]
        simp [intOf]; omega
      · have h32z : ¬ (x : Int) = 32 := by omega
        have hAk : A = k := by rw [← HSK.out]; exact skipB_no (.inr (by rw [HXX.out]; exact h32))
        subst hAk
        go_wp2_with fail
        go_quiet (fail)
        go_wp2_with fail
        go_quiet (fail)
        go_wp2_with fail
        go_ret
        exact ⟨by rw [hn]; rfl, (HRD.out.drewN _).drewN _, (HCH.out.trans (Ch.drewN _ _)).trans (Ch.drewN _ _)⟩
    · have hz : ¬ (k : Int) < (n : Int) := by omega
      have hzd : decide ((k : Int) < (n : Int)) = false := by simp; omega
      have hAk : A = k := by rw [← HSK.out]; exact skipB_no (.inl (by rw [bytesN_length]; omega))
      subst hAk
      go_wp2_with fail
      go_quiet (fail)
      go_wp2_with fail
      go_quiet (fail)
      go_wp2_with fail
      go_ret
      exact ⟨by rw [hn]; rfl, (HRD.out.drewN _).drewN _, (HCH.out.trans (Ch.drewN _ _)).trans (Ch.drewN _ _)⟩

/-- Does the byte c come next, blanks aside? -/
def nextB (l : List Nat) (a c : Nat) : Bool := decide (skipB l a < l.length) && decide (l.getD (skipB l a) 0 = c)

set_option maxRecDepth 100000 in
set_option maxHeartbeats 1000000 in
theorem take_any (g : Nat) (s : ByteArray) (a c : Nat) (w : World) (h : RD w g s a) (ha : a ≤ s.size) (hs : s.size ≤ 1000000000) :
    Calls Tryz.prog 46 #[.pointer (some ⟨g, 0, none⟩), .int .u8 (c : Int)] w fun e w' => e = .returned (.bool (nextB (bytesN s) a c)) ∧ RD w' g s (if nextB (bytesN s) a c = true then skipB (bytesN s) a + 1 else skipB (bytesN s) a) ∧ Ch g w w' := by
  have HRs := hide (rest_any g s a w h ha hs)
  have hA := skipB_le (bytesN s) a (by rw [bytesN_length]; exact ha)
  rw [bytesN_length] at hA
  have hN : nextB (bytesN s) a c = (decide (skipB (bytesN s) a < s.size) && decide ((bytesN s).getD (skipB (bytesN s) a) 0 = c)) := by unfold nextB; rw [bytesN_length]
  rw [hN]
  obtain ⟨A, hAA⟩ : ∃ A, skipB (bytesN s) a = A := ⟨_, rfl⟩
  rw [hAA] at HRs hA ⊢
  have HAs := hide hA
  clear hAA hN h
  by_cases hlt : A < s.size
  · obtain ⟨x, hx⟩ : ∃ x, (bytesN s).getD A 0 = x := ⟨_, rfl⟩
    obtain ⟨t, ht, hpos, hx0, hne⟩ : ∃ t, s.extract A s.size = t ∧ ∃ hp : 0 < t.size, (t[0]'hp).toNat = x ∧ t.toList.isEmpty = false := by
      have hsz : (s.extract A s.size).size = s.size - A := by simp
      have hpos : 0 < (s.extract A s.size).size := by rw [hsz]; omega
      refine ⟨_, rfl, hpos, ?_, str_nonempty (by omega)⟩
      rw [← bytesN_getD (s.extract A s.size) 0 hpos, bytesN_from, ← hx]; simp [List.getD]
    have hne' : ¬ t.toList = [] := by simpa using hne
    rw [ht] at HRs
    rw [hx]
    clear ht hx
    by_cases hc : x = c
    · subst hc
      have hR : Hid ((decide (A < s.size) && decide (x = x)) = true) := hide (by simp [hlt])
      rw [hR.out]
      go_enter Tryz.func46, Tryz.ntmps46
      go_wp2_with (go_at_call 48; refine HRs.out.mono ?_; rintro e w2 ⟨rfl, hr, hch⟩; have c1 := hr.c1; have f1 := hr.f1; have HR2 := hide (And.intro hr hch); clear hr hch)
      go_ret
      have e : ((A : Int) + 1) = ((A + 1 : Nat) : Int) := by omega
      rw [e]
      exact ⟨rfl, HR2.out.1.put (A + 1), HR2.out.2.trans (Ch.set _ _ _)⟩
    · have hcz : ¬ (x : Int) = (c : Int) := by omega
      have hcb : ((x : Int) != (c : Int)) = true := by simp; omega
      have hR : Hid ((decide (A < s.size) && decide (x = c)) = false) := hide (by simp [hc])
      rw [hR.out]
      go_enter Tryz.func46, Tryz.ntmps46
      go_wp2_with (first
        | (simp only [hcb])
        | (go_at_call 48; refine HRs.out.mono ?_; rintro e w2 ⟨rfl, hr, hch⟩; have c1 := hr.c1; have f1 := hr.f1; have HR2 := hide (And.intro hr hch); clear hr hch))
      go_ret
      exact ⟨rfl, HR2.out.1, HR2.out.2⟩
  · have ht : s.extract A s.size = ⟨#[]⟩ := str_empty (by simp; omega)
    rw [ht] at HRs
    have hR : Hid ((decide (A < s.size) && decide ((bytesN s).getD A 0 = c)) = false) := hide (by simp [hlt])
    rw [hR.out]
    clear ht
    go_enter Tryz.func46, Tryz.ntmps46
    go_wp2_with (go_at_call 48; refine HRs.out.mono ?_; rintro e w2 ⟨rfl, hr, hch⟩; have c1 := hr.c1; have f1 := hr.f1; have HR2 := hide (And.intro hr hch); clear hr hch)
    go_ret
    exact ⟨rfl, HR2.out.1, HR2.out.2⟩

end Go.Proofs.YtgcmdbpanfeaaabGreatDoor

/- Whether bytes have room on a disk. -/
import Derived.Test.YtiblnkiecpcdpaaJ1B
namespace Go.Proofs.Ytiblnkiecpcdpaa
open Go.RowKit
set_option linter.unusedVariables false
set_option linter.unusedSimpArgs false

/-- How many bytes the files have that were met. -/
def seenTot : List Fi → Array Nat → Nat
  | [], _ => 0
  | x :: l, s => (if s.contains x.born then x.bs.length else 0) + seenTot l s

theorem seenTot_none (L : List Fi) : seenTot L #[] = 0 := by
  induction L with
  | nil => rfl
  | cons x l ih => simp [seenTot, ih]

theorem seenTot_le (L : List Fi) (s : Array Nat) : seenTot L s ≤ tot L := by
  induction L with
  | nil => exact Nat.le_refl _
  | cons x l ih => rw [seenTot, tot]; split <;> omega

theorem seenTot_other (L : List Fi) (s : Array Nat) (b : Nat) (h : b ∉ L.map (·.born)) : seenTot L (s.push b) = seenTot L s := by
  induction L with
  | nil => rfl
  | cons x l ih =>
    rw [List.map_cons, List.mem_cons, not_or] at h
    rw [seenTot, seenTot, ih h.2, contains_push, show (x.born == b) = false from by simpa using fun e => h.1 e.symm, Bool.or_false]

theorem seenTot_push {L : List Fi} (hn : (L.map (·.born)).Nodup) {x : Fi} (hx : x ∈ L) {s : Array Nat} (hs : s.contains x.born = false) : seenTot L (s.push x.born) = seenTot L s + x.bs.length := by
  induction L with
  | nil => simp at hx
  | cons y l ih =>
    rw [List.map_cons, List.nodup_cons] at hn
    rcases List.mem_cons.1 hx with rfl | hx
    · rw [seenTot, seenTot, seenTot_other l s x.born hn.1, contains_push, hs]; simp; omega
    · have : y.born ≠ x.born := fun e => hn.1 (by rw [e]; exact List.mem_map.2 ⟨x, hx, rfl⟩)
      rw [seenTot, seenTot, ih hn.2 hx, contains_push, show (y.born == x.born) = false from by simpa using this, Bool.or_false]; omega

theorem seenTot_all {L : List Fi} {s : Array Nat} (h : (leftOf (L.map Fi.ent).toArray s).size = 0) : seenTot L s = tot L := by
  have hall := all_seen _ _ h
  clear h
  induction L with
  | nil => rfl
  | cons x l ih =>
    have h1 := hall x.ent (by simp)
    rw [seenTot, tot, if_pos (by simpa [Fi.ent] using h1), ih fun y hy => hall y (by simpa using .inr (by simpa using hy))]

/-- The state while a disk's files are gone through, and nothing is written. -/
structure FitI (w : World) (S : DS) (wr : World) (seen : Array Nat) (c0 : Nat) : Prop where
  bel : Below w.heap.size w wr
  it : wr.heap[w.heap.size]? = some (.mapIter (some S.m) S.clock seen c0)
  ge : S.clock ≤ c0

theorem FitI.step {w : World} {S : DS} {wr w1 : World} {seen : Array Nat} {c0 : Nat} (h : FitI w S wr seen c0) (h1 : w1 = wr ∨ w1 = wr.drew) (s2 : Array Nat) : FitI w S (Go.ChangeMaps.setBlock w1 w.heap.size (.mapIter (some S.m) S.clock s2 S.clock)) s2 S.clock := by
  have hlt := heap_lt h.it
  refine ⟨h.bel.trans ?_, ?_, Nat.le_refl _⟩
  · rcases h1 with rfl | rfl <;> exact ⟨rfl, rfl, rfl, by simp [Go.ChangeMaps.setBlock], fun k hk => by simp only [Go.ChangeMaps.setBlock]; exact Array.getElem?_setIfInBounds_ne (by omega)⟩
  · rcases h1 with rfl | rfl <;> simp [Go.ChangeMaps.setBlock, hlt]

theorem ent_born {B : Nat} {w : World} {lk : Int} {S : DS} (h : Dk B w lk S) : ∀ x ∈ (S.L.map Fi.ent).toArray.toList, x.born < S.clock := by
  intro e he
  obtain ⟨x, hx, rfl⟩ := List.mem_map.1 (by simpa using he)
  exact h.bl x hx

theorem ent_nodup {B : Nat} {w : World} {lk : Int} {S : DS} (h : Dk B w lk S) : ((S.L.map Fi.ent).toArray.toList.map (·.born)).Nodup := by
  have := h.bn
  simpa [Function.comp_def, Fi.ent] using this

theorem ent_of {L : List Fi} {s : Array Nat} {e : MapEntry} (he : e ∈ (leftOf (L.map Fi.ent).toArray s).toList) : ∃ x ∈ L, e = x.ent := by
  have := (mem_left he).1
  obtain ⟨x, hx, rfl⟩ := List.mem_map.1 (by simpa using this)
  exact ⟨x, hx, rfl⟩

theorem Dk.fcell {B : Nat} {w : World} {lk : Int} {S : DS} (h : Dk B w lk S) {x : Fi} (hx : x ∈ S.L) : w.cell? ⟨x.f, 0, none⟩ = some x.v := by
  rw [cell_of_row w x.f 0 _ _ (0, 0) (h.fl x hx)]; rfl

theorem Dk.scell {B : Nat} {w : World} {lk : Int} {S : DS} (h : Dk B w lk S) {x : Fi} (hx : x ∈ S.L) : w.cell? ⟨x.f, 1, none⟩ = some (.int .i64 (x.su : Int)) := by
  rw [cell_of_row w x.f 1 _ _ (0, 0) (h.fl x hx)]; rfl

theorem Dk.fslice {B : Nat} {w : World} {lk : Int} {S : DS} (h : Dk B w lk S) {x : Fi} (hx : x ∈ S.L) : ∃ p cap, x.v = .slice p x.bs.length cap := by
  rcases (h.ow x hx).2 with ⟨e1, e2⟩ | ⟨g, cap, cur, e1, _⟩
  · exact ⟨none, 0, by rw [e1, e2]⟩
  · exact ⟨_, cap, e1⟩

set_option maxRecDepth 100000 in
theorem fits_ok {B : Nat} {S : DS} {lk : Int} (w : World) (h : Dk B w lk S) (nm : ByteArray) (n : Nat) (hc : (∃ x ∈ S.L, x.nm = nm) ∨ ((∀ x ∈ S.L, x.nm ≠ nm) ∧ S.L.length < 256)) (hn : n + tot S.L ≤ S.room) :
    Calls Try.prog 40 #[.pointer (some ⟨S.d, 0, none⟩), .string nm, .int .i64 (n : Int)] w fun e w' => e = .returned (.bool true) ∧ Below w.heap.size w w' := by
  have c2 := h.cell 2 (.int .i64 (S.room : Int)) rfl
  have c3 := h.cell 3 (.map (some S.m)) rfl
  have hrg := run_range_map (P := Try.prog) w 63 _ _ S.m _ S.clock Try.underlying63 h.mp
  have hln := h.len
  have H := hide h
  rcases hc with ⟨x, hx, rfl⟩ | ⟨hx, hl⟩
  · have hlk := h.look hx
    clear h
    go_enter Try.func40, Try.ntmps40
    go_wp2_with fail
    go_loopw [7] (fun t7 wr => ∃ seen c0, t7 = .int .i64 ((S.room : Int) - (seenTot S.L seen : Nat)) ∧ Hid (FitI w S wr seen c0)) (fun _ wr => (leftOf (S.L.map Fi.ent).toArray (wr.iterSeen w.heap.size)).size)
    case atStart => exact ⟨#[], S.clock, by rw [seenTot_none]; simp, ⟨(Below.refl _ _).alloc (Nat.le_refl _) _, heap_alloc_new w _, Nat.le_refl _⟩⟩
    case round =>
      obtain ⟨seen, c0, rfl, hI⟩ := hrel
      have hD := H.out.below hI.out.bel
      rcases run_next_at (P := Try.prog) wr 0 w.heap.size S.m S.clock c0 seen _ S.clock hI.out.it hD.mp (ent_born H.out) hI.out.ge with ⟨h0, hnx⟩ | ⟨e, he, w1, hw1, hnx⟩
      · have HT : Hid (seenTot S.L seen = tot S.L) := seenTot_all h0
        have hle : (n : Int) ≤ (S.room : Int) - ((seenTot S.L seen : Nat) : Int) := by rw [HT.out]; omega
        have HB : Hid (Below w.heap.size w wr) := hI.out.bel
        clear hI hD h0
        go_wp2_with fail
        go_ret
        exact ⟨rfl, HB.out⟩
      · obtain ⟨x, hx, rfl⟩ := ent_of he
        obtain ⟨w2, hw2⟩ : ∃ w2, w2 = Go.ChangeMaps.setBlock w1 w.heap.size (.mapIter (some S.m) S.clock (seen.push x.ent.born) S.clock) := ⟨_, rfl⟩
        have hI2 : FitI w S w2 (seen.push x.ent.born) S.clock := by rw [hw2]; exact hI.out.step hw1 _
        have hD2 := H.out.below hI2.bel
        have hen := run_entry_at (P := Try.prog) w2 w.heap.size S.m S.clock seen _ S.clock x.ent hI2.it hD2.mp (by simpa using ⟨x, hx, rfl⟩) (ent_nodup H.out)
        have hcx := hD2.fcell hx
        obtain ⟨p, cap, hv⟩ := hD2.fslice hx
        rw [hv] at hcx
        have HS : Hid (seenTot S.L (seen.push x.ent.born) = seenTot S.L seen + x.bs.length ∧ seenTot S.L (seen.push x.ent.born) ≤ tot S.L) := ⟨seenTot_push H.out.bn hx (mem_left he).2, seenTot_le _ _⟩
        have HI2 := hide hI2
        have HM : Hid ((leftOf (S.L.map Fi.ent).toArray (seen.push x.ent.born)).size < (leftOf (S.L.map Fi.ent).toArray (wr.iterSeen w.heap.size)).size) := by
          have := left_shrinks _ _ _ he
          rw [show wr.iterSeen w.heap.size = seen from by simp [World.iterSeen, hI.out.it]]
          exact this
        have HRM := hide H.out.rm
        rw [← hw2] at hnx
        clear hI hI2 hD hD2 hw2 hv he hw1
        simp only [Fi.ent] at hnx hen
        go_wp2_with fail
        go_roundw
        case rel => exact ⟨_, _, by rw [HS.out.1]; have h1 := HS.out; have h2 := HRM.out; simp only [Value.int.injEq, true_and]; unfold wrap64; omega, HI2.out⟩
        case measure => rw [show w2.iterSeen w.heap.size = seen.push x.ent.born from by simp [World.iterSeen, HI2.out.it]]; exact HM.out
  · have hlk := h.lookNo hx
    have hl' : ¬ (256 : Int) ≤ (S.L.length : Int) := by omega
    clear h
    go_enter Try.func40, Try.ntmps40
    go_wp2_with fail
    go_loopw [7] (fun t7 wr => ∃ seen c0, t7 = .int .i64 ((S.room : Int) - (seenTot S.L seen : Nat)) ∧ Hid (FitI w S wr seen c0)) (fun _ wr => (leftOf (S.L.map Fi.ent).toArray (wr.iterSeen w.heap.size)).size)
    case atStart => exact ⟨#[], S.clock, by rw [seenTot_none]; simp, ⟨(Below.refl _ _).alloc (Nat.le_refl _) _, heap_alloc_new w _, Nat.le_refl _⟩⟩
    case round =>
      obtain ⟨seen, c0, rfl, hI⟩ := hrel
      have hD := H.out.below hI.out.bel
      rcases run_next_at (P := Try.prog) wr 0 w.heap.size S.m S.clock c0 seen _ S.clock hI.out.it hD.mp (ent_born H.out) hI.out.ge with ⟨h0, hnx⟩ | ⟨e, he, w1, hw1, hnx⟩
      · have HT : Hid (seenTot S.L seen = tot S.L) := seenTot_all h0
        have hle : (n : Int) ≤ (S.room : Int) - ((seenTot S.L seen : Nat) : Int) := by rw [HT.out]; omega
        have HB : Hid (Below w.heap.size w wr) := hI.out.bel
        clear hI hD h0
        go_wp2_with fail
        go_ret
        exact ⟨rfl, HB.out⟩
      · obtain ⟨x, hx, rfl⟩ := ent_of he
        obtain ⟨w2, hw2⟩ : ∃ w2, w2 = Go.ChangeMaps.setBlock w1 w.heap.size (.mapIter (some S.m) S.clock (seen.push x.ent.born) S.clock) := ⟨_, rfl⟩
        have hI2 : FitI w S w2 (seen.push x.ent.born) S.clock := by rw [hw2]; exact hI.out.step hw1 _
        have hD2 := H.out.below hI2.bel
        have hen := run_entry_at (P := Try.prog) w2 w.heap.size S.m S.clock seen _ S.clock x.ent hI2.it hD2.mp (by simpa using ⟨x, hx, rfl⟩) (ent_nodup H.out)
        have hcx := hD2.fcell hx
        obtain ⟨p, cap, hv⟩ := hD2.fslice hx
        rw [hv] at hcx
        have HS : Hid (seenTot S.L (seen.push x.ent.born) = seenTot S.L seen + x.bs.length ∧ seenTot S.L (seen.push x.ent.born) ≤ tot S.L) := ⟨seenTot_push H.out.bn hx (mem_left he).2, seenTot_le _ _⟩
        have HI2 := hide hI2
        have HM : Hid ((leftOf (S.L.map Fi.ent).toArray (seen.push x.ent.born)).size < (leftOf (S.L.map Fi.ent).toArray (wr.iterSeen w.heap.size)).size) := by
          have := left_shrinks _ _ _ he
          rw [show wr.iterSeen w.heap.size = seen from by simp [World.iterSeen, hI.out.it]]
          exact this
        have HRM := hide H.out.rm
        rw [← hw2] at hnx
        clear hI hI2 hD hD2 hw2 hv he hw1
        simp only [Fi.ent] at hnx hen
        go_wp2_with fail
        go_roundw
        case rel => exact ⟨_, _, by rw [HS.out.1]; have h1 := HS.out; have h2 := HRM.out; simp only [Value.int.injEq, true_and]; unfold wrap64; omega, HI2.out⟩
        case measure => rw [show w2.iterSeen w.heap.size = seen.push x.ent.born from by simp [World.iterSeen, HI2.out.it]]; exact HM.out

end Go.Proofs.Ytiblnkiecpcdpaa

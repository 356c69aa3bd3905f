/- Whether bytes have room: whatever is asked. -/
import Derived.Test.YtlandfghodfjdaaGreatJ12A
namespace Go.Proofs.YtlandfghodfjdaaGreat
open Go.RowKit
open Go.MuLone (lock_free unlock_deferred run_callFunc_enter)
set_option linter.unusedVariables false
set_option linter.unusedSimpArgs false

def FitE (S : DS) (nm : ByteArray) (n : Nat) (e : Ending) : Prop := ∃ b : Bool, e = .returned (.bool b) ∧ (b = true ↔ ((∃ x ∈ S.L, x.nm = nm) ∨ S.L.length < 256) ∧ n + tot S.L ≤ S.room)

set_option maxRecDepth 100000 in
theorem fits_any {B : Nat} {S : DS} {lk : Int} (w : World) (h : Dk B w lk S) (nm : ByteArray) (n : Nat) (hn : n ≤ 140737488355328) :
    Calls Tryz.prog 44 #[.pointer (some ⟨S.d, 0, none⟩), .string nm, .int .i64 (n : Int)] w fun e w' => FitE S nm n e ∧ Below w.heap.size w w' := by
  have c2 := h.cell 2 (.int .i64 (S.room : Int)) rfl
  have c3 := h.cell 3 (.map (some S.m)) rfl
  have hrg := run_range_map (P := Tryz.prog) w 57 _ _ S.m _ S.clock Tryz.underlying57 h.mp
  have hln := h.len
  have hrm := h.rm.2
  have H := hide h
  by_cases hx : ∃ x ∈ S.L, x.nm = nm
  · obtain ⟨x, hx, rfl⟩ := hx
    have HCC : Hid ((∃ y ∈ S.L, y.nm = x.nm) ∨ S.L.length < 256) := .inl ⟨x, hx, rfl⟩
    have hlk := h.look hx
    clear h
    go_enter Tryz.func44, Tryz.ntmps44
    go_wp2_with fail
    go_loopw [7] (fun t7 wr => ∃ seen c0, t7 = .int .i64 ((S.room : Int) - (seenTot S.L seen : Nat)) ∧ Hid (FitI w S wr seen c0)) (fun _ wr => (leftOf (S.L.map Fi.ent).toArray (wr.iterSeen w.heap.size)).size)
    case atStart => exact ⟨#[], S.clock, by rw [seenTot_none]; simp, ⟨(Below.refl _ _).alloc (Nat.le_refl _) _, heap_alloc_new w _, Nat.le_refl _⟩⟩
    case round =>
      obtain ⟨seen, c0, rfl, hI⟩ := hrel
      have hD := H.out.below hI.out.bel
      rcases run_next_at (P := Tryz.prog) wr 0 w.heap.size S.m S.clock c0 seen _ S.clock hI.out.it hD.mp (ent_born H.out) hI.out.ge with ⟨h0, hnx⟩ | ⟨e, he, w1, hw1, hnx⟩
      · have HT : Hid (seenTot S.L seen = tot S.L) := seenTot_all h0
        have HB : Hid (Below w.heap.size w wr) := hI.out.bel
        clear hI hD h0
        by_cases hq : n + tot S.L ≤ S.room
        · have hle : (n : Int) ≤ (S.room : Int) - ((seenTot S.L seen : Nat) : Int) := by rw [HT.out]; omega
          have HQ := hide hq
          clear hq
          go_wp2_with fail
          go_ret
          exact ⟨⟨true, rfl, fun _ => ⟨HCC.out, HQ.out⟩, fun _ => rfl⟩, HB.out⟩
        · have hle : ¬ (n : Int) ≤ (S.room : Int) - ((seenTot S.L seen : Nat) : Int) := by rw [HT.out]; omega
          have HQ := hide hq
          clear hq
          go_wp2_with fail
          go_ret
          exact ⟨⟨false, rfl, by simp, fun e => absurd e.2 HQ.out⟩, HB.out⟩
      · obtain ⟨x, hx, rfl⟩ := ent_of he
        obtain ⟨w2, hw2⟩ : ∃ w2, w2 = Go.ChangeMaps.setBlock w1 w.heap.size (.mapIter (some S.m) S.clock (seen.push x.ent.born) S.clock) := ⟨_, rfl⟩
        have hI2 : FitI w S w2 (seen.push x.ent.born) S.clock := by rw [hw2]; exact hI.out.step hw1 _
        have hD2 := H.out.below hI2.bel
        have hen := run_entry_at (P := Tryz.prog) w2 w.heap.size S.m S.clock seen _ S.clock x.ent hI2.it hD2.mp (by simpa using ⟨x, hx, rfl⟩) (ent_nodup H.out)
        have hcx := hD2.fcell hx
        obtain ⟨p, cap, hv⟩ := hD2.fslice hx
        rw [hv] at hcx
        have HS : Hid (seenTot S.L (seen.push x.ent.born) = seenTot S.L seen + x.bs.length ∧ seenTot S.L (seen.push x.ent.born) ≤ tot S.L) := ⟨seenTot_push H.out.bn hx (mem_left he).2, seenTot_le _ _⟩
        have HI2 := hide hI2
        have HM : Hid ((leftOf (S.L.map Fi.ent).toArray (seen.push x.ent.born)).size < (leftOf (S.L.map Fi.ent).toArray (wr.iterSeen w.heap.size)).size) := by
          have := left_shrinks _ _ _ he
          rw [show wr.iterSeen w.heap.size = seen from by simp [World.iterSeen, hI.out.it]]
          exact this
        have HRM := hide H.out.rm
        rw [← hw2] at hnx
        clear hI hI2 hD hD2 hw2 hv he hw1
        simp only [Fi.ent] at hnx hen
        go_wp2_with fail
        go_roundw
        case rel => exact ⟨_, _, by rw [HS.out.1]; have h1 := HS.out; have h2 := HRM.out; simp only [Value.int.injEq, true_and]; unfold wrap64; omega, HI2.out⟩
        case measure => rw [show w2.iterSeen w.heap.size = seen.push x.ent.born from by simp [World.iterSeen, HI2.out.it]]; exact HM.out
  · replace hx : ∀ x ∈ S.L, x.nm ≠ nm := fun x h1 e => hx ⟨x, h1, e⟩
    by_cases hl : S.L.length < 256
    · have HCC : Hid ((∃ y ∈ S.L, y.nm = nm) ∨ S.L.length < 256) := .inr hl
      have hlk := h.lookNo hx
      have hl' : ¬ (256 : Int) ≤ (S.L.length : Int) := by omega
      clear h
      go_enter Tryz.func44, Tryz.ntmps44
      go_wp2_with fail
      go_loopw [7] (fun t7 wr => ∃ seen c0, t7 = .int .i64 ((S.room : Int) - (seenTot S.L seen : Nat)) ∧ Hid (FitI w S wr seen c0)) (fun _ wr => (leftOf (S.L.map Fi.ent).toArray (wr.iterSeen w.heap.size)).size)
      case atStart => exact ⟨#[], S.clock, by rw [seenTot_none]; simp, ⟨(Below.refl _ _).alloc (Nat.le_refl _) _, heap_alloc_new w _, Nat.le_refl _⟩⟩
      case round =>
        obtain ⟨seen, c0, rfl, hI⟩ := hrel
        have hD := H.out.below hI.out.bel
        rcases run_next_at (P := Tryz.prog) wr 0 w.heap.size S.m S.clock c0 seen _ S.clock hI.out.it hD.mp (ent_born H.out) hI.out.ge with ⟨h0, hnx⟩ | ⟨e, he, w1, hw1, hnx⟩
        · have HT : Hid (seenTot S.L seen = tot S.L) := seenTot_all h0
          have HB : Hid (Below w.heap.size w wr) := hI.out.bel
          clear hI hD h0
          by_cases hq : n + tot S.L ≤ S.room
          · have hle : (n : Int) ≤ (S.room : Int) - ((seenTot S.L seen : Nat) : Int) := by rw [HT.out]; omega
            have HQ := hide hq
            clear hq
            go_wp2_with fail
            go_ret
            exact ⟨⟨true, rfl, fun _ => ⟨HCC.out, HQ.out⟩, fun _ => rfl⟩, HB.out⟩
          · have hle : ¬ (n : Int) ≤ (S.room : Int) - ((seenTot S.L seen : Nat) : Int) := by rw [HT.out]; omega
            have HQ := hide hq
            clear hq
            go_wp2_with fail
            go_ret
            exact ⟨⟨false, rfl, by simp, fun e => absurd e.2 HQ.out⟩, HB.out⟩
        · obtain ⟨x, hx, rfl⟩ := ent_of he
          obtain ⟨w2, hw2⟩ : ∃ w2, w2 = Go.ChangeMaps.setBlock w1 w.heap.size (.mapIter (some S.m) S.clock (seen.push x.ent.born) S.clock) := ⟨_, rfl⟩
          have hI2 : FitI w S w2 (seen.push x.ent.born) S.clock := by rw [hw2]; exact hI.out.step hw1 _
          have hD2 := H.out.below hI2.bel
          have hen := run_entry_at (P := Tryz.prog) w2 w.heap.size S.m S.clock seen _ S.clock x.ent hI2.it hD2.mp (by simpa using ⟨x, hx, rfl⟩) (ent_nodup H.out)
          have hcx := hD2.fcell hx
          obtain ⟨p, cap, hv⟩ := hD2.fslice hx
          rw [hv] at hcx
          have HS : Hid (seenTot S.L (seen.push x.ent.born) = seenTot S.L seen + x.bs.length ∧ seenTot S.L (seen.push x.ent.born) ≤ tot S.L) := ⟨seenTot_push H.out.bn hx (mem_left he).2, seenTot_le _ _⟩
          have HI2 := hide hI2
          have HM : Hid ((leftOf (S.L.map Fi.ent).toArray (seen.push x.ent.born)).size < (leftOf (S.L.map Fi.ent).toArray (wr.iterSeen w.heap.size)).size) := by
            have := left_shrinks _ _ _ he
            rw [show wr.iterSeen w.heap.size = seen from by simp [World.iterSeen, hI.out.it]]
            exact this
          have HRM := hide H.out.rm
          rw [← hw2] at hnx
          clear hI hI2 hD hD2 hw2 hv he hw1
          simp only [Fi.ent] at hnx hen
          go_wp2_with fail
          go_roundw
          case rel => exact ⟨_, _, by rw [HS.out.1]; have h1 := HS.out; have h2 := HRM.out; simp only [Value.int.injEq, true_and]; unfold wrap64; omega, HI2.out⟩
          case measure => rw [show w2.iterSeen w.heap.size = seen.push x.ent.born from by simp [World.iterSeen, HI2.out.it]]; exact HM.out
    · have hlk := h.lookNo hx
      have hl' : (256 : Int) ≤ (S.L.length : Int) := by omega
      have HN : Hid (¬ ((∃ y ∈ S.L, y.nm = nm) ∨ S.L.length < 256)) := fun e => by
        rcases e with ⟨y, h1, h2⟩ | e
        · exact hx y h1 h2
        · exact hl e
      clear h hx
      go_enter Tryz.func44, Tryz.ntmps44
      go_wp2_with fail
      go_ret
      exact ⟨⟨false, rfl, by simp, fun e => absurd e.1 HN.out⟩, Below.refl _ _⟩

end Go.Proofs.YtlandfghodfjdaaGreat

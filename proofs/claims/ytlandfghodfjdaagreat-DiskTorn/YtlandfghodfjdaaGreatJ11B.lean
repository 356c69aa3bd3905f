/- A write, whatever is armed. -/
import Derived.Test.YtlandfghodfjdaaGreatJ11L
/- The power goes: all files of a disk. -/
namespace Go.Proofs.YtlandfghodfjdaaGreat
open Go.RowKit
open Go.MuLone (lock_free unlock_deferred run_callFunc_enter)
set_option linter.unusedVariables false
set_option linter.unusedSimpArgs false

/-- While a disk's files are gone through and changed, each once. -/
structure LoI (B : Nat) (w : World) (lk : Int) (S : DS) (f : List Nat × Nat → List Nat × Nat) (wr : World) (seen : Array Nat) (c0 : Nat) (Sc : DS) : Prop where
  sk : Sk S Sc
  ps : Sc.ps = { S.ps with con := S.L.map fun x => if seen.contains x.born then (x.nm, f (x.bs, x.su)) else x.con }
  dk : Dk B wr lk Sc
  fr : Fr w (Fp S) wr (Fp Sc)
  nf : ¬ Fp Sc w.heap.size
  it : wr.heap[w.heap.size]? = some (.mapIter (some S.m) S.clock seen c0)
  ge : S.clock ≤ c0

theorem LoI.start {B : Nat} {w : World} {lk : Int} {S : DS} {f : List Nat × Nat → List Nat × Nat} (h : Dk B w lk S) : LoI B w lk S f (w.alloc (.mapIter (some S.m) S.clock #[] S.clock)) #[] S.clock S := by
  have hb : Below w.heap.size w (w.alloc (.mapIter (some S.m) S.clock #[] S.clock)) := (Below.refl _ _).alloc (Nat.le_refl _) _
  refine ⟨Sk.refl S, ?_, h.below hb, Fr.of_below hb, fun e => by have := h.fpLt _ e; omega, heap_alloc_new w _, Nat.le_refl _⟩
  unfold DS.ps
  simp

section
variable {B : Nat} {w wr : World} {lk : Int} {S Sc : DS} {f : List Nat × Nat → List Nat × Nat} {seen : Array Nat} {c0 : Nat}

theorem LoI.mp (h : LoI B w lk S f wr seen c0 Sc) : wr.heap[S.m]? = some (.map (S.L.map Fi.ent).toArray S.clock) := by
  have := h.dk.mp
  rw [h.sk.2.1, h.sk.2.2.1, h.sk.2.2.2] at this
  exact this

theorem LoI.next (h : LoI B w lk S f wr seen c0 Sc) {w1 : World} (h1 : w1 = wr ∨ w1 = wr.drew) (s2 : Array Nat) :
    LoI B w lk S f (Go.ChangeMaps.setBlock w1 w.heap.size (.mapIter (some S.m) S.clock seen S.clock)) seen S.clock Sc ∧ (Dk B (Go.ChangeMaps.setBlock w1 w.heap.size (.mapIter (some S.m) S.clock s2 S.clock)) lk Sc ∧ Fr w (Fp S) (Go.ChangeMaps.setBlock w1 w.heap.size (.mapIter (some S.m) S.clock s2 S.clock)) (Fp Sc)) ∧ (Go.ChangeMaps.setBlock w1 w.heap.size (.mapIter (some S.m) S.clock s2 S.clock)).heap[w.heap.size]? = some (.mapIter (some S.m) S.clock s2 S.clock) := by
  have hlt := heap_lt h.it
  have hk : ∀ s3, ∀ k, k ≠ w.heap.size → (Go.ChangeMaps.setBlock w1 w.heap.size (.mapIter (some S.m) S.clock s3 S.clock)).heap[k]? = wr.heap[k]? := fun s3 k hk => by
    rcases h1 with rfl | rfl <;> (simp only [Go.ChangeMaps.setBlock]; exact Array.getElem?_setIfInBounds_ne (Ne.symm hk))
  have hd : ∀ s3, Dk B (Go.ChangeMaps.setBlock w1 w.heap.size (.mapIter (some S.m) S.clock s3 S.clock)) lk Sc := fun s3 => h.dk.keep fun k hk' => hk s3 k fun e => h.nf (by rw [← e]; exact hk')
  have hi : ∀ s3, (Go.ChangeMaps.setBlock w1 w.heap.size (.mapIter (some S.m) S.clock s3 S.clock)).heap[w.heap.size]? = some (.mapIter (some S.m) S.clock s3 S.clock) := fun s3 => by
    rcases h1 with rfl | rfl <;> simp [Go.ChangeMaps.setBlock, hlt]
  have hf : ∀ s3, Fr w (Fp S) (Go.ChangeMaps.setBlock w1 w.heap.size (.mapIter (some S.m) S.clock s3 S.clock)) (Fp Sc) := fun s3 => by
    have hh := h.fr
    refine ⟨?_, ?_, ?_, ?_, fun k hk' hn => ⟨(hh.block k hk' hn).1, (hk s3 k (by omega)).trans (hh.block k hk' hn).2⟩⟩
    · rcases h1 with rfl | rfl <;> exact hh.os
    · rcases h1 with rfl | rfl <;> exact hh.tape
    · rcases h1 with rfl | rfl <;> exact hh.output
    · rcases h1 with rfl | rfl <;> (simp only [Go.ChangeMaps.setBlock]; simpa using hh.size)
  exact ⟨⟨h.sk, h.ps, hd _, hf _, h.nf, hi _, Nat.le_refl _⟩, ⟨hd s2, hf s2⟩, hi s2⟩

theorem ent_same {L : List Fi} (hn : (L.map (·.born)).Nodup) {x y : Fi} (hx : x ∈ L) (hy : y ∈ L) (h : x.born = y.born) : x = y := by
  induction L with
  | nil => simp at hx
  | cons a t ih =>
    rw [List.map_cons, List.nodup_cons] at hn
    rcases List.mem_cons.1 hx with rfl | hx' <;> rcases List.mem_cons.1 hy with rfl | hy'
    · rfl
    · exact absurd (List.mem_map.2 ⟨y, hy', h.symm⟩) hn.1
    · exact absurd (List.mem_map.2 ⟨x, hx', h⟩) hn.1
    · exact ih hn.2 hx' hy'

theorem LoI.step (hS : Dk B w lk S) (h : LoI B w lk S f wr seen c0 Sc) {w2 w3 : World} {S' : DS} {x : Fi} (hx : x ∈ Sc.L) (hs : seen.contains x.born = false) (h2 : Fr w (Fp S) w2 (Fp Sc)) (hi : w2.heap[w.heap.size]? = some (.mapIter (some S.m) S.clock (seen.push x.born) S.clock))
    (k1 : Sk Sc S') (k2 : S'.ps = { Sc.ps with con := Con.upd Sc.ps.con x.nm f }) (k3 : Dk B w3 lk S') (k4 : Fr w2 (Fp Sc) w3 (Fp S')) : LoI B w lk S f w3 (seen.push x.born) S.clock S' := by
  have hb := k4.block w.heap.size (heap_lt hi) h.nf
  refine ⟨h.sk.trans k1, ?_, k3, h2.trans k4, hb.1, hb.2.trans hi, Nat.le_refl _⟩
  obtain ⟨z, hz, hze⟩ : ∃ z ∈ S.L, z.ent = x.ent := by
    have : x.ent ∈ Sc.L.map Fi.ent := List.mem_map.2 ⟨x, hx, rfl⟩
    rw [h.sk.2.2.2] at this
    exact List.mem_map.1 this
  have e1 : z.nm = x.nm := by have := congrArg MapEntry.key hze; simpa [Fi.ent] using this
  have e2 : z.born = x.born := by have := congrArg MapEntry.born hze; simpa [Fi.ent] using this
  have hc : Con.upd (S.L.map fun x => if seen.contains x.born then (x.nm, f (x.bs, x.su)) else x.con) x.nm f = S.L.map fun y => if (seen.push x.born).contains y.born then (y.nm, f (y.bs, y.su)) else y.con := by
    unfold Con.upd
    rw [List.map_map]
    apply List.map_congr_left
    intro y hy
    dsimp only [Function.comp]
    by_cases e : y.nm = x.nm
    · obtain rfl : y = z := ent_inj hS.nd hy hz (by rw [e, e1])
      have hq : seen.contains y.born = false := by rw [e2]; exact hs
      simp only [contains_push, hq]
      simp [Fi.con, e, e2]
    · have e3 : y.born ≠ x.born := fun e3 => e (by rw [ent_same hS.bn hy hz (by rw [e3, e2]), e1])
      have e5 : (y.born == x.born) = false := by simpa using e3
      simp only [contains_push, e5, Bool.or_false]
      have hcases : seen.contains y.born = true ∨ seen.contains y.born = false := by cases seen.contains y.born <;> simp
      rcases hcases with hq | hq <;> simp only [hq] <;> simp [e, Fi.con]
  rw [k2, h.ps]
  dsimp only
  rw [hc]

theorem LoI.all (h : LoI B w lk S f wr seen c0 Sc) (h0 : (leftOf (S.L.map Fi.ent).toArray seen).size = 0) : Sc.d = S.d ∧ Sc.ps = { S.ps with con := Con.each S.ps.con f } := by
  refine ⟨h.sk.1, ?_⟩
  have hall := all_seen _ _ h0
  have hc : (S.L.map fun x => if seen.contains x.born then (x.nm, f (x.bs, x.su)) else x.con) = Con.each S.ps.con f := by
    unfold Con.each DS.ps
    rw [List.map_map]
    apply List.map_congr_left
    intro y hy
    have := hall y.ent (by simpa using ⟨y, hy, rfl⟩)
    rw [if_pos (by simpa [Fi.ent] using this)]
    rfl
  rw [h.ps, hc]
end

set_option maxRecDepth 100000 in
theorem dsettle_any {B : Nat} {S : DS} {lk : Int} (w : World) (h : Dk B w lk S) :
    Calls Tryz.prog 46 #[.pointer (some ⟨S.d, 0, none⟩)] w fun e w' => e = .returned (.tuple #[]) ∧ ∃ S' : DS, S'.d = S.d ∧ S'.ps = { S.ps with con := Con.each S.ps.con sureF } ∧ Dk B w' lk S' ∧ Fr w (Fp S) w' (Fp S') := by
  have c3 := h.cell 3 (.map (some S.m)) rfl
  have hrg := run_range_map (P := Tryz.prog) w 57 _ _ S.m _ S.clock Tryz.underlying57 h.mp
  have H := hide h
  clear h
  go_enter Tryz.func46, Tryz.ntmps46
  go_wp2_with fail
  go_loopw [] (fun wr => ∃ seen c0 Sc, Hid (LoI B w lk S sureF wr seen c0 Sc)) (fun wr => (leftOf (S.L.map Fi.ent).toArray (wr.iterSeen w.heap.size)).size)
  case atStart => exact ⟨#[], S.clock, S, LoI.start H.out⟩
  case round =>
    obtain ⟨seen, c0, Sc, hI⟩ := hrel
    rcases run_next_at (P := Tryz.prog) wr 0 w.heap.size S.m S.clock c0 seen _ S.clock hI.out.it hI.out.mp (ent_born H.out) hI.out.ge with ⟨h0, hnx⟩ | ⟨e, he, w1, hw1, hnx⟩
    · have HT := hide (hI.out.all h0)
      have HD := hide hI.out.dk
      have HF := hide hI.out.fr
      clear hI h0
      go_wp2_with fail
      go_end0
      exact ⟨rfl, Sc, HT.out.1, HT.out.2, HD.out, HF.out⟩
    · obtain ⟨x, hx, rfl⟩ : ∃ x ∈ Sc.L, e = x.ent := by rw [← hI.out.sk.2.2.2] at he; exact ent_of he
      have hN := hI.out.next hw1 (seen.push x.ent.born)
      obtain ⟨w2, hw2⟩ : ∃ w2, w2 = Go.ChangeMaps.setBlock w1 w.heap.size (.mapIter (some S.m) S.clock (seen.push x.ent.born) S.clock) := ⟨_, rfl⟩
      rw [← hw2] at hN hnx
      have hmp2 : w2.heap[S.m]? = some (.map (S.L.map Fi.ent).toArray S.clock) := by
        have := hN.2.1.1.mp
        rw [hI.out.sk.2.1, hI.out.sk.2.2.1, hI.out.sk.2.2.2] at this
        exact this
      have hen := run_entry_at (P := Tryz.prog) w2 w.heap.size S.m S.clock seen _ S.clock x.ent hN.2.2 hmp2 (by have : x.ent ∈ Sc.L.map Fi.ent := List.mem_map.2 ⟨x, hx, rfl⟩; rw [hI.out.sk.2.2.2] at this; simpa using this) (ent_nodup H.out)
      have HC := hide (settleE_any w2 hN.2.1.1 x hx)
      have HM : Hid ((leftOf (S.L.map Fi.ent).toArray (seen.push x.ent.born)).size < (leftOf (S.L.map Fi.ent).toArray (wr.iterSeen w.heap.size)).size) := by
        have := left_shrinks _ _ _ he
        rw [show wr.iterSeen w.heap.size = seen from by simp [World.iterSeen, hI.out.it]]
        exact this
      have HS : Hid (∀ (w3 : World) (S' : DS), Sk Sc S' → S'.ps = { Sc.ps with con := Con.upd Sc.ps.con x.nm sureF } → Dk B w3 lk S' → Fr w2 (Fp Sc) w3 (Fp S') → LoI B w lk S sureF w3 (seen.push x.ent.born) S.clock S') := fun w3 S' k1 k2 k3 k4 => hI.out.step H.out hx (mem_left he).2 hN.2.1.2 hN.2.2 k1 k2 k3 k4
      clear hI hN hw2 he hw1 hmp2
      simp only [Fi.ent] at hnx hen
      go_wp2_with (go_at_call 53; refine HC.out.mono ?_; rintro e w3 ⟨rfl, hR⟩; have H5 := hide hR; clear hR)
      obtain ⟨S', k1, k2, k3, k4⟩ := H5.out
      have HL := hide (HS.out w3 S' k1 k2 k3 k4)
      clear k1 k2 k3 k4
      go_roundw
      case rel => exact ⟨_, _, _, HL⟩
      case measure => rw [show w3.iterSeen w.heap.size = seen.push x.ent.born from by simp [World.iterSeen, HL.out.it]]; exact HM.out

theorem Dk.failed {B : Nat} {w : World} {lk : Int} {S : DS} (h : Dk B w lk S) : Dk B ((((w.setCell ⟨S.d, 5, none⟩ (.int .i64 0)).setCell ⟨S.d, 6, none⟩ (.int .i64 0)).setCell ⟨S.d, 7, none⟩ (.int .i64 0)).setCell ⟨S.d, 4, none⟩ (.bool true)) lk { S with off := true, ain := 0, keep := 0, lose := 0 } ∧ Fr w (Fp S) ((((w.setCell ⟨S.d, 5, none⟩ (.int .i64 0)).setCell ⟨S.d, 6, none⟩ (.int .i64 0)).setCell ⟨S.d, 7, none⟩ (.int .i64 0)).setCell ⟨S.d, 4, none⟩ (.bool true)) (Fp S) := by
  refine ⟨h.set (S' := { S with off := true, ain := 0, keep := 0, lose := 0 }) ?_ (fun k hk => ?_) rfl, (((Fr.setCell (.inl rfl) _).trans (Fr.setCell (.inl rfl) _)).trans (Fr.setCell (.inl rfl) _)).trans (Fr.setCell (.inl rfl) _)⟩
  · rw [heap_set_at (heap_set_at (heap_set_at (heap_set_at h.dk _) _) _)]; rfl
  · rw [Below.heap_setCell _ _ _ _ hk, Below.heap_setCell _ _ _ _ hk, Below.heap_setCell _ _ _ _ hk, Below.heap_setCell _ _ _ _ hk]

set_option maxRecDepth 100000 in
theorem dfail_any {B : Nat} {S : DS} {lk : Int} (w : World) (h : Dk B w lk S) (h1 : -9223372036854775808 ≤ S.lose) (h2 : S.lose ≤ 9223372036854775807) :
    Calls Tryz.prog 66 #[.pointer (some ⟨S.d, 0, none⟩)] w fun e w' => e = .returned (.tuple #[]) ∧ ∃ S' : DS, S'.d = S.d ∧ S'.ps = { S.ps with con := Con.each S.ps.con (lostF S.lose), off := true, ain := 0, keep := 0, lose := 0 } ∧ Dk B w' lk S' ∧ Fr w (Fp S) w' (Fp S') := by
  have c3 := h.cell 3 (.map (some S.m)) rfl
  have hrg := run_range_map (P := Tryz.prog) w 57 _ _ S.m _ S.clock Tryz.underlying57 h.mp
  have H := hide h
  clear h
  go_enter Tryz.func66, Tryz.ntmps66
  go_wp2_with fail
  go_loopw [] (fun wr => ∃ seen c0 Sc, Hid (LoI B w lk S (lostF S.lose) wr seen c0 Sc)) (fun wr => (leftOf (S.L.map Fi.ent).toArray (wr.iterSeen w.heap.size)).size)
  case atStart => exact ⟨#[], S.clock, S, LoI.start H.out⟩
  case round =>
    obtain ⟨seen, c0, Sc, hI⟩ := hrel
    rcases run_next_at (P := Tryz.prog) wr 0 w.heap.size S.m S.clock c0 seen _ S.clock hI.out.it hI.out.mp (ent_born H.out) hI.out.ge with ⟨h0, hnx⟩ | ⟨e, he, w1, hw1, hnx⟩
    · have HT := hide (hI.out.all h0)
      have HD := hide hI.out.dk
      have HF := hide hI.out.fr
      clear hI h0
      obtain ⟨hd, hps⟩ := HT.out
      have c5 : wr.cell? ⟨S.d, 5, none⟩ = some (.int .i64 (Sc.ain : Int)) := by rw [← hd]; exact HD.out.cell 5 _ rfl
      have c6 : wr.cell? ⟨S.d, 6, none⟩ = some (.int .i64 Sc.keep) := by rw [← hd]; exact HD.out.cell 6 _ rfl
      have c7 : wr.cell? ⟨S.d, 7, none⟩ = some (.int .i64 Sc.lose) := by rw [← hd]; exact HD.out.cell 7 _ rfl
      have c4 : wr.cell? ⟨S.d, 4, none⟩ = some (.bool Sc.off) := by rw [← hd]; exact HD.out.cell 4 _ rfl
      have f4 : wr.frozen? ⟨S.d, 4, none⟩ = false := by rw [← hd]; exact frozen_of HD.out.dk 4
      have f5 : wr.frozen? ⟨S.d, 5, none⟩ = false := by rw [← hd]; exact frozen_of HD.out.dk 5
      have f6 : wr.frozen? ⟨S.d, 6, none⟩ = false := by rw [← hd]; exact frozen_of HD.out.dk 6
      have f7 : wr.frozen? ⟨S.d, 7, none⟩ = false := by rw [← hd]; exact frozen_of HD.out.dk 7
      clear hd hps
      have HZ : Hid (Dk B ((((wr.setCell ⟨S.d, 5, none⟩ (.int .i64 0)).setCell ⟨S.d, 6, none⟩ (.int .i64 0)).setCell ⟨S.d, 7, none⟩ (.int .i64 0)).setCell ⟨S.d, 4, none⟩ (.bool true)) lk { Sc with off := true, ain := 0, keep := 0, lose := 0 } ∧ Fr wr (Fp Sc) ((((wr.setCell ⟨S.d, 5, none⟩ (.int .i64 0)).setCell ⟨S.d, 6, none⟩ (.int .i64 0)).setCell ⟨S.d, 7, none⟩ (.int .i64 0)).setCell ⟨S.d, 4, none⟩ (.bool true)) (Fp Sc)) := by
        rw [← HT.out.1]; exact HD.out.failed
      go_wp2_with fail
      go_end0
      refine ⟨rfl, { Sc with off := true, ain := 0, keep := 0, lose := 0 }, HT.out.1, ?_, HZ.out.1, HF.out.trans HZ.out.2⟩
      have e := HT.out.2
      show ({ Sc.ps with off := true, ain := 0, keep := 0, lose := 0 } : PS) = _
      rw [e]
    · obtain ⟨x, hx, rfl⟩ : ∃ x ∈ Sc.L, e = x.ent := by rw [← hI.out.sk.2.2.2] at he; exact ent_of he
      have hN := hI.out.next hw1 (seen.push x.ent.born)
      obtain ⟨w2, hw2⟩ : ∃ w2, w2 = Go.ChangeMaps.setBlock w1 w.heap.size (.mapIter (some S.m) S.clock (seen.push x.ent.born) S.clock) := ⟨_, rfl⟩
      rw [← hw2] at hN hnx
      have hmp2 : w2.heap[S.m]? = some (.map (S.L.map Fi.ent).toArray S.clock) := by
        have := hN.2.1.1.mp
        rw [hI.out.sk.2.1, hI.out.sk.2.2.1, hI.out.sk.2.2.2] at this
        exact this
      have hen := run_entry_at (P := Tryz.prog) w2 w.heap.size S.m S.clock seen _ S.clock x.ent hN.2.2 hmp2 (by have : x.ent ∈ Sc.L.map Fi.ent := List.mem_map.2 ⟨x, hx, rfl⟩; rw [hI.out.sk.2.2.2] at this; simpa using this) (ent_nodup H.out)
      have HC := hide (flose_any w2 hN.2.1.1 x hx S.lose h1 h2)
      have c7 : w2.cell? ⟨S.d, 7, none⟩ = some (.int .i64 S.lose) := by
        have hl : Sc.lose = S.lose := by have := congrArg PS.lose hI.out.ps; exact this
        rw [← hI.out.sk.1, ← hl]; exact hN.2.1.1.cell 7 _ rfl
      have HM : Hid ((leftOf (S.L.map Fi.ent).toArray (seen.push x.ent.born)).size < (leftOf (S.L.map Fi.ent).toArray (wr.iterSeen w.heap.size)).size) := by
        have := left_shrinks _ _ _ he
        rw [show wr.iterSeen w.heap.size = seen from by simp [World.iterSeen, hI.out.it]]
        exact this
      have HS : Hid (∀ (w3 : World) (S' : DS), Sk Sc S' → S'.ps = { Sc.ps with con := Con.upd Sc.ps.con x.nm (lostF S.lose) } → Dk B w3 lk S' → Fr w2 (Fp Sc) w3 (Fp S') → LoI B w lk S (lostF S.lose) w3 (seen.push x.ent.born) S.clock S') := fun w3 S' k1 k2 k3 k4 => hI.out.step H.out hx (mem_left he).2 hN.2.1.2 hN.2.2 k1 k2 k3 k4
      clear hI hN hw2 he hw1 hmp2
      simp only [Fi.ent] at hnx hen
      go_wp2_with (go_at_call 80; refine HC.out.mono ?_; rintro e w3 ⟨rfl, hR⟩; have H5 := hide hR; clear hR)
      obtain ⟨S', k1, k2, k3, k4⟩ := H5.out
      have HL := hide (HS.out w3 S' k1 k2 k3 k4)
      clear k1 k2 k3 k4
      go_roundw
      case rel => exact ⟨_, _, _, HL⟩
      case measure => rw [show w3.iterSeen w.heap.size = seen.push x.ent.born from by simp [World.iterSeen, HL.out.it]]; exact HM.out

end Go.Proofs.YtlandfghodfjdaaGreat

namespace Go.Proofs.YtlandfghodfjdaaGreat
open Go.RowKit
open Go.MuLone (lock_free unlock_deferred run_callFunc_enter)
set_option linter.unusedVariables false
set_option linter.unusedSimpArgs false

/-- What a write leaves, and what it tells: f is what it does, with so many bytes kept of it. -/
def PS.wrote (p : PS) (f : Int → Con → Con) : PS :=
  if p.ain = 1 then { p with con := Con.each (if 0 < p.keep then f p.keep p.con else p.con) (lostF p.lose), off := true, ain := 0, keep := 0, lose := 0, wr := p.wr + 1 }
  else { p with con := f 9223372036854775807 p.con, ain := p.ain - 1, wr := p.wr + 1 }
def PS.code (p : PS) : Int := if p.ain = 1 then 104 else 0

/-- What is armed is what a machine may hold. -/
def PS.arms (p : PS) : Prop := p.ain ≤ 9223372036854775807 ∧ (-9223372036854775808 ≤ p.keep ∧ p.keep ≤ 9223372036854775807) ∧ -9223372036854775808 ≤ p.lose ∧ p.lose ≤ 9223372036854775807

theorem Dk.setAin {B : Nat} {w : World} {lk : Int} {S : DS} (h : Dk B w lk S) (n : Nat) : Dk B (w.setCell ⟨S.d, 5, none⟩ (.int .i64 (n : Int))) lk { S with ain := n } :=
  h.set (S' := { S with ain := n }) (by rw [heap_set_at h.dk]; rfl) (fun k hk => Below.heap_setCell _ _ _ _ hk) rfl

set_option maxRecDepth 100000 in
theorem due_some (w : World) (d k : Nat) (h : w.cell? ⟨d, 5, none⟩ = some (.int .i64 ((k + 1 : Nat) : Int))) (hf : w.frozen? ⟨d, 5, none⟩ = false) (hk : k + 1 ≤ 9223372036854775807) :
    Calls Tryz.prog 65 #[.pointer (some ⟨d, 5, none⟩)] w fun e w' => e = .returned (.bool (decide (k = 0))) ∧ w' = w.setCell ⟨d, 5, none⟩ (.int .i64 (k : Int)) := by
  have h0 : ¬ (((k + 1 : Nat) : Int) = 0) := by omega
  have hw : IntKind.i64.wrap (((k + 1 : Nat) : Int) - 1) = (k : Int) := by rw [IntKind.wrap_i64]; omega
  have hw2 : wrap64 (((k + 1 : Nat) : Int) - 1) = (k : Int) := by unfold wrap64; omega
  have c2 : (w.setCell ⟨d, 5, none⟩ (.int .i64 (k : Int))).cell? ⟨d, 5, none⟩ = some (.int .i64 (k : Int)) := World.cell?_setCell_same _ _ _ (by rw [h])
  obtain ⟨m, hm⟩ : ∃ m : Int, ((k + 1 : Nat) : Int) = m := ⟨_, rfl⟩
  rw [hm] at h h0 hw hw2
  clear hm
  by_cases hz : k = 0
  · subst hz
    go_enter Tryz.func65, Tryz.ntmps65
    go_wp2
    go_ret
    exact ⟨rfl, rfl⟩
  · have hz2 : ¬ ((k : Int) = 0) := by omega
    go_enter Tryz.func65, Tryz.ntmps65
    go_wp2
    go_ret
    exact ⟨by simp [hz], rfl⟩

section
variable {B : Nat} {S : DS} {lk : Int} {w : World} {k : Nat} {cap : Array Value} {f : Int → Con → Con}

/-- What a write does, as the closure tells it. -/
def Does (B : Nat) (w : World) (lk : Int) (S : DS) (k : Nat) (cap : Array Value) (f : Int → Con → Con) : Prop :=
  ∀ (kp : Int) (a b : Nat) (w1 : World), 0 < kp → kp ≤ 9223372036854775807 → Dk B w1 lk { S with ain := a, wr := b } → Fr w (Fp S) w1 (Fp S) → Calls Tryz.prog k (#[.int .i64 kp] ++ cap) w1 fun e w' => e = .returned (.tuple #[]) ∧ ∃ S' : DS, S'.d = S.d ∧ S'.ps = { S.ps with con := f kp S.ps.con, ain := a, wr := b } ∧ Dk B w' lk S' ∧ Fr w1 (Fp S) w' (Fp S')

set_option maxRecDepth 100000 in
theorem write_more (h : Dk B w lk S) (hA : S.ps.arms) (h1 : S.ain ≠ 1) (hwr : S.wr ≤ 1000000000) (hen : ∀ args w, (callFunc k args).run Tryz.prog w = .ok (.enter k args) w) (hdo : Does B w lk S k cap f) :
    Calls Tryz.prog 49 #[.pointer (some ⟨S.d, 0, none⟩), .func (.func k) #[] cap] w fun e w' => e = .returned (.int .i64 0) ∧ ∃ S' : DS, S'.d = S.d ∧ S'.ps = S.ps.wrote f ∧ Dk B w' lk S' ∧ Fr w (Fp S) w' (Fp S') := by
  have hps : S.ps.wrote f = { S.ps with con := f 9223372036854775807 S.ps.con, ain := S.ain - 1, wr := S.wr + 1 } := if_neg h1
  rw [hps]
  by_cases h0 : S.ain = 0
  · have hr : Fr w (Fp S) (w.setCell ⟨S.d, 8, none⟩ (.int .i64 ((S.wr : Int) + 1))) (Fp S) := Fr.setCell (.inl rfl) _
    refine write_ok w h h0 hwr k cap _ hen ((hdo 9223372036854775807 S.ain (S.wr + 1) _ (by decide) (by decide) (h.setWr (S.wr + 1)) hr).mono ?_)
    rintro e w' ⟨rfl, S', e1, e2, e3, e4⟩
    exact ⟨rfl, S', e1, by rw [e2, h0], e3, hr.trans e4⟩
  · obtain ⟨n, hn⟩ : ∃ n, S.ain = n + 1 := ⟨S.ain - 1, by omega⟩
    have hn0 : ¬ n = 0 := by omega
    have c8 := h.cell 8 (.int .i64 (S.wr : Int)) rfl
    have f8 := frozen_of h.dk 8
    have h2 := h.setWr (S.wr + 1)
    have HDU : Hid (Calls Tryz.prog 65 #[.pointer (some ⟨S.d, 5, none⟩)] (w.setCell ⟨S.d, 8, none⟩ (.int .i64 ((S.wr : Int) + 1))) fun e w' => e = .returned (.bool false) ∧ w' = (w.setCell ⟨S.d, 8, none⟩ (.int .i64 ((S.wr : Int) + 1))).setCell ⟨S.d, 5, none⟩ (.int .i64 (n : Int))) := by
      refine (due_some _ S.d n (h2.cell 5 _ (by rw [← hn]; rfl)) (frozen_of h2.dk 5) (by have := hA.1; have e : S.ps.ain = S.ain := rfl; omega)).mono ?_
      rintro e w' ⟨rfl, rfl⟩
      exact ⟨by simp [hn0], rfl⟩
    have h3 := h2.setAin n
    have hr : Fr w (Fp S) ((w.setCell ⟨S.d, 8, none⟩ (.int .i64 ((S.wr : Int) + 1))).setCell ⟨S.d, 5, none⟩ (.int .i64 (n : Int))) (Fp S) := (Fr.setCell (.inl rfl) _).trans (Fr.setCell (.inl rfl) _)
    have HDO : Hid (Calls Tryz.prog k (#[.int .i64 9223372036854775807] ++ cap) ((w.setCell ⟨S.d, 8, none⟩ (.int .i64 ((S.wr : Int) + 1))).setCell ⟨S.d, 5, none⟩ (.int .i64 (n : Int))) fun e w' => e = .returned (.tuple #[]) ∧ ∃ S' : DS, S'.d = S.d ∧ S'.ps = { S.ps with con := f 9223372036854775807 S.ps.con, ain := S.ain - 1, wr := S.wr + 1 } ∧ Dk B w' lk S' ∧ Fr w (Fp S) w' (Fp S')) := by
      refine (hdo 9223372036854775807 n (S.wr + 1) _ (by decide) (by decide) h3 hr).mono ?_
      rintro e w' ⟨rfl, S', e1, e2, e3, e4⟩
      exact ⟨rfl, S', e1, by rw [e2, hn]; rfl, e3, hr.trans e4⟩
    clear h h2 h3 hr hdo hps hn hA
    go_enter Tryz.func49, Tryz.ntmps49
    go_wp2_with (go_at_call 65; refine HDU.out.mono ?_; rintro e w' ⟨rfl, rfl⟩)
    refine HDO.out.mono ?_
    rintro e w' ⟨rfl, hR⟩
    have HR := hide hR
    clear hR
    go_wp2_with fail
    go_ret
    exact ⟨rfl, HR.out⟩

set_option maxRecDepth 100000 in
theorem write_torn (h : Dk B w lk S) (hA : S.ps.arms) (h1 : S.ain = 1) (hwr : S.wr ≤ 1000000000) (hen : ∀ args w, (callFunc k args).run Tryz.prog w = .ok (.enter k args) w) (hdo : Does B w lk S k cap f) :
    Calls Tryz.prog 49 #[.pointer (some ⟨S.d, 0, none⟩), .func (.func k) #[] cap] w fun e w' => e = .returned (.int .i64 104) ∧ ∃ S' : DS, S'.d = S.d ∧ S'.ps = S.ps.wrote f ∧ Dk B w' lk S' ∧ Fr w (Fp S) w' (Fp S') := by
  have hps : S.ps.wrote f = { S.ps with con := Con.each (if 0 < S.keep then f S.keep S.ps.con else S.ps.con) (lostF S.lose), off := true, ain := 0, keep := 0, lose := 0, wr := S.wr + 1 } := if_pos h1
  rw [hps]
  have c8 := h.cell 8 (.int .i64 (S.wr : Int)) rfl
  have f8 := frozen_of h.dk 8
  have h2 := h.setWr (S.wr + 1)
  have HDU : Hid (Calls Tryz.prog 65 #[.pointer (some ⟨S.d, 5, none⟩)] (w.setCell ⟨S.d, 8, none⟩ (.int .i64 ((S.wr : Int) + 1))) fun e w' => e = .returned (.bool true) ∧ w' = (w.setCell ⟨S.d, 8, none⟩ (.int .i64 ((S.wr : Int) + 1))).setCell ⟨S.d, 5, none⟩ (.int .i64 0)) := by
    refine (due_some _ S.d 0 (h2.cell 5 _ (by show some (Value.int .i64 ((S.ain : Nat) : Int)) = _; rw [h1])) (frozen_of h2.dk 5) (by decide)).mono ?_
    rintro e w' ⟨rfl, rfl⟩
    exact ⟨by simp, rfl⟩
  have h3 := h2.setAin 0
  have hr : Fr w (Fp S) ((w.setCell ⟨S.d, 8, none⟩ (.int .i64 ((S.wr : Int) + 1))).setCell ⟨S.d, 5, none⟩ (.int .i64 0)) (Fp S) := (Fr.setCell (.inl rfl) _).trans (Fr.setCell (.inl rfl) _)
  obtain ⟨w1, hw1⟩ : ∃ w1, w1 = (w.setCell ⟨S.d, 8, none⟩ (.int .i64 ((S.wr : Int) + 1))).setCell ⟨S.d, 5, none⟩ (.int .i64 0) := ⟨_, rfl⟩
  have h3' : Dk B w1 lk { S with ain := 0, wr := S.wr + 1 } := by rw [hw1]; exact h3
  rw [← hw1] at hr HDU
  have c6 : w1.cell? ⟨S.d, 6, none⟩ = some (.int .i64 S.keep) := h3'.cell 6 _ rfl
  have HF : Hid (∀ (w2 : World) (S2 : DS) (c : Con), S2.d = S.d → S2.ps = { S.ps with con := c, ain := 0, wr := S.wr + 1 } → Dk B w2 lk S2 → Fr w (Fp S) w2 (Fp S2) → Calls Tryz.prog 66 #[.pointer (some ⟨S.d, 0, none⟩)] w2 fun e w' => e = .returned (.tuple #[]) ∧ ∃ S' : DS, S'.d = S.d ∧ S'.ps = { S.ps with con := Con.each c (lostF S.lose), off := true, ain := 0, keep := 0, lose := 0, wr := S.wr + 1 } ∧ Dk B w' lk S' ∧ Fr w (Fp S) w' (Fp S')) := fun w2 S2 c e1 e2 e3 e4 => by
    have hl : S2.lose = S.lose := congrArg PS.lose e2
    rw [← e1]
    refine (dfail_any w2 e3 (by rw [hl]; exact hA.2.2.1) (by rw [hl]; exact hA.2.2.2)).mono ?_
    rintro e w' ⟨rfl, S', k1, k2, k3, k4⟩
    exact ⟨rfl, S', k1, by rw [k2, hl, e2], k3, e4.trans k4⟩
  by_cases hk : 0 < S.keep
  · rw [if_pos hk]
    have HDO := hide (hdo S.keep 0 (S.wr + 1) w1 hk hA.2.1.2 h3' hr)
    have HR := hide hr
    clear h h2 h3 hr hdo hps hA h1 h3' hw1
    obtain ⟨kp, hkp⟩ : ∃ kp, S.keep = kp := ⟨_, rfl⟩
    rw [hkp] at c6 hk HDO ⊢
    clear hkp
    go_enter Tryz.func49, Tryz.ntmps49
    go_wp2_with (go_at_call 65; refine HDU.out.mono ?_; rintro e w' ⟨rfl, rfl⟩)
    refine HDO.out.mono ?_
    rintro e w2 ⟨rfl, hR⟩
    have HR2 := hide hR
    clear hR
    obtain ⟨S2, e1, e2, e3, e4⟩ := HR2.out
    have HF2 := hide (HF.out w2 S2 _ e1 e2 e3 (HR.out.trans e4))
    clear e1 e2 e3 e4
    go_wp2_with (go_at_call 66; refine HF2.out.mono ?_; rintro e w3 ⟨rfl, hR⟩; have HR3 := hide hR; clear hR)
    go_ret
    exact ⟨rfl, HR3.out⟩
  · rw [if_neg hk]
    have HF2 := hide (HF.out w1 { S with ain := 0, wr := S.wr + 1 } S.ps.con rfl rfl h3' hr)
    clear h h2 h3 hr hdo hps hA h1 h3' hw1
    obtain ⟨kp, hkp⟩ : ∃ kp, S.keep = kp := ⟨_, rfl⟩
    rw [hkp] at c6 hk
    clear hkp
    go_enter Tryz.func49, Tryz.ntmps49
    go_wp2_with (first | (go_at_call 65; refine HDU.out.mono ?_; rintro e w' ⟨rfl, rfl⟩) | (go_at_call 66; refine HF2.out.mono ?_; rintro e w3 ⟨rfl, hR⟩; have HR3 := hide hR; clear hR))
    go_ret
    exact ⟨rfl, HR3.out⟩

theorem write_any (h : Dk B w lk S) (hA : S.ps.arms) (hwr : S.wr ≤ 1000000000) (hen : ∀ args w, (callFunc k args).run Tryz.prog w = .ok (.enter k args) w) (hdo : Does B w lk S k cap f) :
    Calls Tryz.prog 49 #[.pointer (some ⟨S.d, 0, none⟩), .func (.func k) #[] cap] w fun e w' => e = .returned (.int .i64 S.ps.code) ∧ ∃ S' : DS, S'.d = S.d ∧ S'.ps = S.ps.wrote f ∧ Dk B w' lk S' ∧ Fr w (Fp S) w' (Fp S') := by
  by_cases h1 : S.ain = 1
  · rw [show S.ps.code = 104 from if_pos h1]; exact write_torn h hA h1 hwr hen hdo
  · rw [show S.ps.code = 0 from if_neg h1]; exact write_more h hA h1 hwr hen hdo
end

end Go.Proofs.YtlandfghodfjdaaGreat

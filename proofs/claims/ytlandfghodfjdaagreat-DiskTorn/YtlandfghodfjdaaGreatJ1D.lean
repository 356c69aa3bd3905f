/- A disk's files as plain data; a file that is changed, one that is made. -/
import Derived.Test.YtlandfghodfjdaaGreatJ1B
/- Whether bytes have room on a disk. -/
namespace Go.Proofs.YtlandfghodfjdaaGreat
open Go.RowKit
set_option linter.unusedVariables false
set_option linter.unusedSimpArgs false

/-- How many bytes the files have that were met. -/
def seenTot : List Fi → Array Nat → Nat
  | [], _ => 0
  | x :: l, s => (if s.contains x.born then x.bs.length else 0) + seenTot l s

theorem seenTot_none (L : List Fi) : seenTot L #[] = 0 := by
  induction L with
  | nil => rfl
  | cons x l ih => simp [seenTot, ih]

theorem seenTot_le (L : List Fi) (s : Array Nat) : seenTot L s ≤ tot L := by
  induction L with
  | nil => exact Nat.le_refl _
  | cons x l ih => rw [seenTot, tot]; split <;> omega

theorem seenTot_other (L : List Fi) (s : Array Nat) (b : Nat) (h : b ∉ L.map (·.born)) : seenTot L (s.push b) = seenTot L s := by
  induction L with
  | nil => rfl
  | cons x l ih =>
    rw [List.map_cons, List.mem_cons, not_or] at h
    rw [seenTot, seenTot, ih h.2, contains_push, show (x.born == b) = false from by simpa using fun e => h.1 e.symm, Bool.or_false]

theorem seenTot_push {L : List Fi} (hn : (L.map (·.born)).Nodup) {x : Fi} (hx : x ∈ L) {s : Array Nat} (hs : s.contains x.born = false) : seenTot L (s.push x.born) = seenTot L s + x.bs.length := by
  induction L with
  | nil => simp at hx
  | cons y l ih =>
    rw [List.map_cons, List.nodup_cons] at hn
    rcases List.mem_cons.1 hx with rfl | hx
    · rw [seenTot, seenTot, seenTot_other l s x.born hn.1, contains_push, hs]; simp; omega
    · have : y.born ≠ x.born := fun e => hn.1 (by rw [e]; exact List.mem_map.2 ⟨x, hx, rfl⟩)
      rw [seenTot, seenTot, ih hn.2 hx, contains_push, show (y.born == x.born) = false from by simpa using this, Bool.or_false]; omega

theorem seenTot_all {L : List Fi} {s : Array Nat} (h : (leftOf (L.map Fi.ent).toArray s).size = 0) : seenTot L s = tot L := by
  have hall := all_seen _ _ h
  clear h
  induction L with
  | nil => rfl
  | cons x l ih =>
    have h1 := hall x.ent (by simp)
    rw [seenTot, tot, if_pos (by simpa [Fi.ent] using h1), ih fun y hy => hall y (by simpa using .inr (by simpa using hy))]

/-- The state while a disk's files are gone through, and nothing is written. -/
structure FitI (w : World) (S : DS) (wr : World) (seen : Array Nat) (c0 : Nat) : Prop where
  bel : Below w.heap.size w wr
  it : wr.heap[w.heap.size]? = some (.mapIter (some S.m) S.clock seen c0)
  ge : S.clock ≤ c0

theorem FitI.step {w : World} {S : DS} {wr w1 : World} {seen : Array Nat} {c0 : Nat} (h : FitI w S wr seen c0) (h1 : w1 = wr ∨ w1 = wr.drew) (s2 : Array Nat) : FitI w S (Go.ChangeMaps.setBlock w1 w.heap.size (.mapIter (some S.m) S.clock s2 S.clock)) s2 S.clock := by
  have hlt := heap_lt h.it
  refine ⟨h.bel.trans ?_, ?_, Nat.le_refl _⟩
  · rcases h1 with rfl | rfl <;> exact ⟨rfl, rfl, rfl, by simp [Go.ChangeMaps.setBlock], fun k hk => by simp only [Go.ChangeMaps.setBlock]; exact Array.getElem?_setIfInBounds_ne (by omega)⟩
  · rcases h1 with rfl | rfl <;> simp [Go.ChangeMaps.setBlock, hlt]

theorem ent_born {B : Nat} {w : World} {lk : Int} {S : DS} (h : Dk B w lk S) : ∀ x ∈ (S.L.map Fi.ent).toArray.toList, x.born < S.clock := by
  intro e he
  obtain ⟨x, hx, rfl⟩ := List.mem_map.1 (by simpa using he)
  exact h.bl x hx

theorem ent_nodup {B : Nat} {w : World} {lk : Int} {S : DS} (h : Dk B w lk S) : ((S.L.map Fi.ent).toArray.toList.map (·.born)).Nodup := by
  have := h.bn
  simpa [Function.comp_def, Fi.ent] using this

theorem ent_of {L : List Fi} {s : Array Nat} {e : MapEntry} (he : e ∈ (leftOf (L.map Fi.ent).toArray s).toList) : ∃ x ∈ L, e = x.ent := by
  have := (mem_left he).1
  obtain ⟨x, hx, rfl⟩ := List.mem_map.1 (by simpa using this)
  exact ⟨x, hx, rfl⟩

theorem Dk.fcell {B : Nat} {w : World} {lk : Int} {S : DS} (h : Dk B w lk S) {x : Fi} (hx : x ∈ S.L) : w.cell? ⟨x.f, 0, none⟩ = some x.v := by
  rw [cell_of_row w x.f 0 _ _ (0, 0) (h.fl x hx)]; rfl

theorem Dk.scell {B : Nat} {w : World} {lk : Int} {S : DS} (h : Dk B w lk S) {x : Fi} (hx : x ∈ S.L) : w.cell? ⟨x.f, 1, none⟩ = some (.int .i64 (x.su : Int)) := by
  rw [cell_of_row w x.f 1 _ _ (0, 0) (h.fl x hx)]; rfl

theorem Dk.fslice {B : Nat} {w : World} {lk : Int} {S : DS} (h : Dk B w lk S) {x : Fi} (hx : x ∈ S.L) : ∃ p cap, x.v = .slice p x.bs.length cap := by
  rcases (h.ow x hx).2 with ⟨e1, e2⟩ | ⟨g, cap, cur, e1, _⟩
  · exact ⟨none, 0, by rw [e1, e2]⟩
  · exact ⟨_, cap, e1⟩

set_option maxRecDepth 100000 in
theorem fits_ok {B : Nat} {S : DS} {lk : Int} (w : World) (h : Dk B w lk S) (nm : ByteArray) (n : Nat) (hc : (∃ x ∈ S.L, x.nm = nm) ∨ ((∀ x ∈ S.L, x.nm ≠ nm) ∧ S.L.length < 256)) (hn : n + tot S.L ≤ S.room) :
    Calls Tryz.prog 44 #[.pointer (some ⟨S.d, 0, none⟩), .string nm, .int .i64 (n : Int)] w fun e w' => e = .returned (.bool true) ∧ Below w.heap.size w w' := by
  have c2 := h.cell 2 (.int .i64 (S.room : Int)) rfl
  have c3 := h.cell 3 (.map (some S.m)) rfl
  have hrg := run_range_map (P := Tryz.prog) w 57 _ _ S.m _ S.clock Tryz.underlying57 h.mp
  have hln := h.len
  have H := hide h
  rcases hc with ⟨x, hx, rfl⟩ | ⟨hx, hl⟩
  · have hlk := h.look hx
    clear h
    go_enter Tryz.func44, Tryz.ntmps44
    go_wp2_with fail
    go_loopw [7] (fun t7 wr => ∃ seen c0, t7 = .int .i64 ((S.room : Int) - (seenTot S.L seen : Nat)) ∧ Hid (FitI w S wr seen c0)) (fun _ wr => (leftOf (S.L.map Fi.ent).toArray (wr.iterSeen w.heap.size)).size)
    case atStart => exact ⟨#[], S.clock, by rw [seenTot_none]; simp, ⟨(Below.refl _ _).alloc (Nat.le_refl _) _, heap_alloc_new w _, Nat.le_refl _⟩⟩
    case round =>
      obtain ⟨seen, c0, rfl, hI⟩ := hrel
      have hD := H.out.below hI.out.bel
      rcases run_next_at (P := Tryz.prog) wr 0 w.heap.size S.m S.clock c0 seen _ S.clock hI.out.it hD.mp (ent_born H.out) hI.out.ge with ⟨h0, hnx⟩ | ⟨e, he, w1, hw1, hnx⟩
      · have HT : Hid (seenTot S.L seen = tot S.L) := seenTot_all h0
        have hle : (n : Int) ≤ (S.room : Int) - ((seenTot S.L seen : Nat) : Int) := by rw [HT.out]; omega
        have HB : Hid (Below w.heap.size w wr) := hI.out.bel
        clear hI hD h0
        go_wp2_with fail
        go_ret
        exact ⟨rfl, HB.out⟩
      · obtain ⟨x, hx, rfl⟩ := ent_of he
        obtain ⟨w2, hw2⟩ : ∃ w2, w2 = Go.ChangeMaps.setBlock w1 w.heap.size (.mapIter (some S.m) S.clock (seen.push x.ent.born) S.clock) := ⟨_, rfl⟩
        have hI2 : FitI w S w2 (seen.push x.ent.born) S.clock := by rw [hw2]; exact hI.out.step hw1 _
        have hD2 := H.out.below hI2.bel
        have hen := run_entry_at (P := Tryz.prog) w2 w.heap.size S.m S.clock seen _ S.clock x.ent hI2.it hD2.mp (by simpa using ⟨x, hx, rfl⟩) (ent_nodup H.out)
        have hcx := hD2.fcell hx
        obtain ⟨p, cap, hv⟩ := hD2.fslice hx
        rw [hv] at hcx
        have HS : Hid (seenTot S.L (seen.push x.ent.born) = seenTot S.L seen + x.bs.length ∧ seenTot S.L (seen.push x.ent.born) ≤ tot S.L) := ⟨seenTot_push H.out.bn hx (mem_left he).2, seenTot_le _ _⟩
        have HI2 := hide hI2
        have HM : Hid ((leftOf (S.L.map Fi.ent).toArray (seen.push x.ent.born)).size < (leftOf (S.L.map Fi.ent).toArray (wr.iterSeen w.heap.size)).size) := by
          have := left_shrinks _ _ _ he
          rw [show wr.iterSeen w.heap.size = seen from by simp [World.iterSeen, hI.out.it]]
          exact this
        have HRM := hide H.out.rm
        rw [← hw2] at hnx
        clear hI hI2 hD hD2 hw2 hv he hw1
        simp only [Fi.ent] at hnx hen
        go_wp2_with fail
        go_roundw
        case rel => exact ⟨_, _, by rw [HS.out.1]; have h1 := HS.out; have h2 := HRM.out; simp only [Value.int.injEq, true_and]; unfold wrap64; omega, HI2.out⟩
        case measure => rw [show w2.iterSeen w.heap.size = seen.push x.ent.born from by simp [World.iterSeen, HI2.out.it]]; exact HM.out
  · have hlk := h.lookNo hx
    have hl' : ¬ (256 : Int) ≤ (S.L.length : Int) := by omega
    clear h
    go_enter Tryz.func44, Tryz.ntmps44
    go_wp2_with fail
    go_loopw [7] (fun t7 wr => ∃ seen c0, t7 = .int .i64 ((S.room : Int) - (seenTot S.L seen : Nat)) ∧ Hid (FitI w S wr seen c0)) (fun _ wr => (leftOf (S.L.map Fi.ent).toArray (wr.iterSeen w.heap.size)).size)
    case atStart => exact ⟨#[], S.clock, by rw [seenTot_none]; simp, ⟨(Below.refl _ _).alloc (Nat.le_refl _) _, heap_alloc_new w _, Nat.le_refl _⟩⟩
    case round =>
      obtain ⟨seen, c0, rfl, hI⟩ := hrel
      have hD := H.out.below hI.out.bel
      rcases run_next_at (P := Tryz.prog) wr 0 w.heap.size S.m S.clock c0 seen _ S.clock hI.out.it hD.mp (ent_born H.out) hI.out.ge with ⟨h0, hnx⟩ | ⟨e, he, w1, hw1, hnx⟩
      · have HT : Hid (seenTot S.L seen = tot S.L) := seenTot_all h0
        have hle : (n : Int) ≤ (S.room : Int) - ((seenTot S.L seen : Nat) : Int) := by rw [HT.out]; omega
        have HB : Hid (Below w.heap.size w wr) := hI.out.bel
        clear hI hD h0
        go_wp2_with fail
        go_ret
        exact ⟨rfl, HB.out⟩
      · obtain ⟨x, hx, rfl⟩ := ent_of he
        obtain ⟨w2, hw2⟩ : ∃ w2, w2 = Go.ChangeMaps.setBlock w1 w.heap.size (.mapIter (some S.m) S.clock (seen.push x.ent.born) S.clock) := ⟨_, rfl⟩
        have hI2 : FitI w S w2 (seen.push x.ent.born) S.clock := by rw [hw2]; exact hI.out.step hw1 _
        have hD2 := H.out.below hI2.bel
        have hen := run_entry_at (P := Tryz.prog) w2 w.heap.size S.m S.clock seen _ S.clock x.ent hI2.it hD2.mp (by simpa using ⟨x, hx, rfl⟩) (ent_nodup H.out)
        have hcx := hD2.fcell hx
        obtain ⟨p, cap, hv⟩ := hD2.fslice hx
        rw [hv] at hcx
        have HS : Hid (seenTot S.L (seen.push x.ent.born) = seenTot S.L seen + x.bs.length ∧ seenTot S.L (seen.push x.ent.born) ≤ tot S.L) := ⟨seenTot_push H.out.bn hx (mem_left he).2, seenTot_le _ _⟩
        have HI2 := hide hI2
        have HM : Hid ((leftOf (S.L.map Fi.ent).toArray (seen.push x.ent.born)).size < (leftOf (S.L.map Fi.ent).toArray (wr.iterSeen w.heap.size)).size) := by
          have := left_shrinks _ _ _ he
          rw [show wr.iterSeen w.heap.size = seen from by simp [World.iterSeen, hI.out.it]]
          exact this
        have HRM := hide H.out.rm
        rw [← hw2] at hnx
        clear hI hI2 hD hD2 hw2 hv he hw1
        simp only [Fi.ent] at hnx hen
        go_wp2_with fail
        go_roundw
        case rel => exact ⟨_, _, by rw [HS.out.1]; have h1 := HS.out; have h2 := HRM.out; simp only [Value.int.injEq, true_and]; unfold wrap64; omega, HI2.out⟩
        case measure => rw [show w2.iterSeen w.heap.size = seen.push x.ent.born from by simp [World.iterSeen, HI2.out.it]]; exact HM.out

end Go.Proofs.YtlandfghodfjdaaGreat

namespace Go.Proofs.YtlandfghodfjdaaGreat
open Go.RowKit
set_option linter.unusedVariables false
set_option linter.unusedSimpArgs false

/-- Files as plain data: a name, bytes, how many are sure. -/
abbrev Con := List (ByteArray × List Nat × Nat)

def Con.tot : Con → Nat
  | [] => 0
  | x :: l => x.2.1.length + Con.tot l

/-- One file changed. -/
def Con.upd (c : Con) (nm : ByteArray) (g : List Nat × Nat → List Nat × Nat) : Con := c.map fun y => if y.1 = nm then (y.1, g y.2) else y

def Con.has (c : Con) (nm : ByteArray) : Prop := ∃ y ∈ c, y.1 = nm

/-- A disk as plain data. -/
structure PS where
  con : Con
  room : Nat
  off : Bool
  ain : Nat
  keep : Int
  lose : Int
  wr : Nat

def Fi.con (x : Fi) : ByteArray × List Nat × Nat := (x.nm, x.bs, x.su)
def DS.ps (S : DS) : PS := { con := S.L.map Fi.con, room := S.room, off := S.off, ain := S.ain, keep := S.keep, lose := S.lose, wr := S.wr }

theorem tot_con (L : List Fi) : tot L = Con.tot (L.map Fi.con) := by
  induction L with
  | nil => rfl
  | cons x l ih => rw [tot, ih]; rfl

/-- One file changed, in memory. -/
def updF (L : List Fi) (nm : ByteArray) (g : Fi → Fi) : List Fi := L.map fun y => if y.nm = nm then g y else y

theorem updF_map {α : Type} (k : Fi → α) (L : List Fi) (nm : ByteArray) (g : Fi → Fi) (h : ∀ y, y.nm = nm → k (g y) = k y) : (updF L nm g).map k = L.map k := by
  unfold updF
  rw [List.map_map]
  apply List.map_congr_left
  intro y _
  by_cases e : y.nm = nm
  · simp [e, h y e]
  · simp [e]

theorem mem_updF {L : List Fi} (hn : (L.map (·.nm)).Nodup) {x : Fi} (hx : x ∈ L) (g : Fi → Fi) {y : Fi} : y ∈ updF L x.nm g ↔ y = g x ∨ (y ∈ L ∧ y.nm ≠ x.nm) := by
  unfold updF
  rw [List.mem_map]
  constructor
  · rintro ⟨z, hz, rfl⟩
    by_cases e : z.nm = x.nm
    · rw [if_pos e, ent_inj hn hz hx e]; exact .inl rfl
    · rw [if_neg e]; exact .inr ⟨hz, e⟩
  · rintro (rfl | ⟨hy, e⟩)
    · exact ⟨x, hx, if_pos rfl⟩
    · exact ⟨y, hy, if_neg e⟩

theorem pairwise_updF {R : Fi → Fi → Prop} {L : List Fi} {nm : ByteArray} {g : Fi → Fi} (hn : (L.map (·.nm)).Nodup) (h : L.Pairwise R) (h1 : ∀ y ∈ L, ∀ z ∈ L, y.nm ≠ z.nm → R y z → R (if y.nm = nm then g y else y) (if z.nm = nm then g z else z)) : (updF L nm g).Pairwise R := by
  unfold updF
  rw [List.pairwise_map]
  rw [List.Nodup, List.pairwise_map] at hn
  exact (hn.and h).imp_of_mem fun ha hb hab => h1 _ ha _ hb hab.1 hab.2

/-- A file is changed. -/
theorem Dk.upd {B : Nat} {w w' : World} {lk : Int} {S : DS} (h : Dk B w lk S) {x : Fi} (hx : x ∈ S.L) (v2 : Value) (bs2 : List Nat) (su2 : Nat)
    (hf : w'.heap[x.f]? = some (.cells #[v2, .int .i64 (su2 : Int)] 79 (0, 0))) (ho : w'.ownsRow B 5 1 v2 bs2.length (bytesV bs2))
    (hk : ∀ k, Fp S k → k ≠ x.f → x.v.ownBlock ≠ some k → w'.heap[k]? = w.heap[k]?) (hv : ∀ g, v2.ownBlock = some g → x.v.ownBlock = some g ∨ w.heap.size ≤ g)
    (hb : ∀ n ∈ bs2, n < 256) (hs : su2 ≤ bs2.length) (ht : Con.tot (Con.upd S.ps.con x.nm fun _ => (bs2, su2)) ≤ S.room) :
    Dk B w' lk { S with L := updF S.L x.nm fun y => { y with v := v2, bs := bs2, su := su2 } } := by
  obtain ⟨g, hg⟩ : ∃ g : Fi → Fi, g = fun y => { y with v := v2, bs := bs2, su := su2 } := ⟨_, rfl⟩
  have e1 : (updF S.L x.nm g).map Fi.ent = S.L.map Fi.ent := updF_map _ _ _ _ fun y _ => by rw [hg]; rfl
  have e2 : (updF S.L x.nm g).map (·.nm) = S.L.map (·.nm) := updF_map _ _ _ _ fun y _ => by rw [hg]
  have e3 : (updF S.L x.nm g).map (·.born) = S.L.map (·.born) := updF_map _ _ _ _ fun y _ => by rw [hg]
  have e4 : (updF S.L x.nm g).map (·.f) = S.L.map (·.f) := updF_map _ _ _ _ fun y _ => by rw [hg]
  have e5 : (updF S.L x.nm g).map Fi.con = Con.upd S.ps.con x.nm fun _ => (bs2, su2) := by
    unfold updF Con.upd DS.ps
    rw [List.map_map, List.map_map]
    apply List.map_congr_left
    intro y _
    by_cases e : y.nm = x.nm <;> simp [e, hg, Fi.con]
  have hmem := fun y => mem_updF (y := y) h.nd hx g
  have hne : ∀ y ∈ S.L, y.nm ≠ x.nm → y.f ≠ x.f := fun y hy e e2 => by
    have := h.fn
    have hz : ∀ {L : List Fi}, (L.map (·.f)).Nodup → y ∈ L → x ∈ L → y = x := by
      intro L
      induction L with
      | nil => intro _ hy _; simp at hy
      | cons a t ih =>
        intro hn hy hx
        rw [List.map_cons, List.nodup_cons] at hn
        rcases List.mem_cons.1 hy with rfl | hy' <;> rcases List.mem_cons.1 hx with rfl | hx'
        · rfl
        · exact absurd (List.mem_map.2 ⟨x, hx', e2.symm⟩) hn.1
        · exact absurd (List.mem_map.2 ⟨y, hy', e2⟩) hn.1
        · exact ih hn.2 hy' hx'
    exact e (by rw [hz h.fn hy hx])
  have hap : ∀ y ∈ S.L, y.nm ≠ x.nm → ∀ k, y.v.ownBlock = some k → x.v.ownBlock ≠ some k := fun y hy e k hk' => by
    have hz : ∀ {L : List Fi}, L.Pairwise (fun x y => ∀ g, x.v.ownBlock = some g → y.v.ownBlock ≠ some g) → y ∈ L → x ∈ L → y ≠ x → x.v.ownBlock ≠ some k := by
      intro L
      induction L with
      | nil => intro _ hy; simp at hy
      | cons a t ih =>
        intro hp hy hx hn
        rw [List.pairwise_cons] at hp
        rcases List.mem_cons.1 hy with rfl | hy' <;> rcases List.mem_cons.1 hx with rfl | hx'
        · exact absurd rfl hn
        · exact hp.1 x hx' k hk'
        · exact fun e => hp.1 y hy' k e hk'
        · exact ih hp.2 hy' hx' hn
    exact hz h.ap hy hx (fun e2 => e (by rw [e2]))
  have hdx : S.d ≠ x.f := fun e => by have := h.fl x hx; rw [← e, h.dk] at this; simp at this
  have hdv : x.v.ownBlock ≠ some S.d := fun e => by
    rcases (h.ow x hx).2 with ⟨e1, _⟩ | ⟨g', cap, cur, e1, _, hh, _⟩
    · rw [e1] at e; simp [Value.ownBlock] at e
    · rw [e1] at e; simp [Value.ownBlock] at e; subst e; rw [h.dk] at hh; simp at hh
  have hmx : S.m ≠ x.f := fun e => by have := h.fl x hx; rw [← e, h.mp] at this; simp at this
  have hmv : x.v.ownBlock ≠ some S.m := fun e => by
    rcases (h.ow x hx).2 with ⟨e1, _⟩ | ⟨g', cap, cur, e1, _, hh, _⟩
    · rw [e1] at e; simp [Value.ownBlock] at e
    · rw [e1] at e; simp [Value.ownBlock] at e; subst e; rw [h.mp] at hh; simp at hh
  have hfv : ∀ y ∈ S.L, x.v.ownBlock ≠ some y.f := fun y hy e => by
    rcases (h.ow x hx).2 with ⟨e1, _⟩ | ⟨g', cap, cur, e1, _, hh, _⟩
    · rw [e1] at e; simp [Value.ownBlock] at e
    · rw [e1] at e; simp [Value.ownBlock] at e; subst e; rw [h.fl y hy] at hh; simp at hh
  have hvf : ∀ y ∈ S.L, y.v.ownBlock ≠ some x.f := fun y hy e => by
    rcases (h.ow y hy).2 with ⟨e1, _⟩ | ⟨g', cap, cur, e1, _, hh, _⟩
    · rw [e1] at e; simp [Value.ownBlock] at e
    · rw [e1] at e; simp [Value.ownBlock] at e; subst e; rw [h.fl x hx] at hh; simp at hh
  rw [← hg]
  refine ⟨?_, ?_, ?_, ?_, ?_, ?_, ?_, ?_, ?_, ?_, ?_, ?_, ?_, ?_⟩
  · exact (hk _ (.inl rfl) hdx hdv).trans h.dk
  · show w'.heap[S.m]? = some (.map ((updF S.L x.nm g).map Fi.ent).toArray S.clock)
    rw [e1]; exact (hk _ (.inr (.inl rfl)) hmx hmv).trans h.mp
  · intro y hy
    rcases (hmem y).1 hy with rfl | ⟨hy, e⟩
    · rw [hg]; exact hf
    · exact (hk _ (.inr (.inr ⟨y, hy, .inl rfl⟩)) (hne y hy e) (hfv y hy)).trans (h.fl y hy)
  · intro y hy
    rcases (hmem y).1 hy with rfl | ⟨hy, e⟩
    · rw [hg]; exact ho
    · exact ownsRow_keep (h.ow y hy) fun k hk' => hk k (.inr (.inr ⟨y, hy, .inr hk'⟩)) (fun e => hvf y hy (by rw [← e]; exact hk')) (hap y hy e k hk')
  · show ((updF S.L x.nm g).map (·.nm)).Nodup; rw [e2]; exact h.nd
  · show ((updF S.L x.nm g).map (·.born)).Nodup; rw [e3]; exact h.bn
  · show ((updF S.L x.nm g).map (·.f)).Nodup; rw [e4]; exact h.fn
  · intro y hy
    rcases (hmem y).1 hy with rfl | ⟨hy, e⟩
    · rw [hg]; exact h.bl x hx
    · exact h.bl y hy
  · refine pairwise_updF h.nd h.ap fun y hy z hz hyzn hyz k hk1 hk2 => ?_
    by_cases ey : y.nm = x.nm <;> by_cases ez : z.nm = x.nm
    · exact hyzn (ey.trans ez.symm)
    · rw [if_pos ey, hg] at hk1; rw [if_neg ez] at hk2
      rcases hv k hk1 with e | e
      · exact hap z hz ez k hk2 e
      · have := ((h.ow z hz).lt k hk2).2; omega
    · rw [if_neg ey] at hk1; rw [if_pos ez, hg] at hk2
      rcases hv k hk2 with e | e
      · exact hap y hy ey k hk1 e
      · have := ((h.ow y hy).lt k hk1).2; omega
    · rw [if_neg ey] at hk1; rw [if_neg ez] at hk2; exact hyz k hk1 hk2
  · refine ⟨h.bd.1, h.bd.2.1, fun y hy => ?_⟩
    rcases (hmem y).1 hy with rfl | ⟨hy, e⟩
    · rw [hg]; exact h.bd.2.2 x hx
    · exact h.bd.2.2 y hy
  · intro y hy
    rcases (hmem y).1 hy with rfl | ⟨hy, e⟩
    · rw [hg]; exact hb
    · exact h.by_ y hy
  · refine ⟨?_, h.rm.2⟩
    show tot (updF S.L x.nm g) ≤ S.room
    rw [tot_con, e5]; exact ht
  · intro y hy
    rcases (hmem y).1 hy with rfl | ⟨hy, e⟩
    · rw [hg]; exact hs
    · exact h.su y hy
  · show (updF S.L x.nm g).length ≤ 256
    unfold updF; rw [List.length_map]; exact h.ct

/-- A file is made. -/
theorem Dk.add {B : Nat} {w w' : World} {lk : Int} {S : DS} (h : Dk B w lk S) {nm : ByteArray} (hx : ∀ x ∈ S.L, x.nm ≠ nm) (f : Nat) (hf : w.heap[f]? = some (.cells #[.slice none 0 0, .int .i64 0] 79 (0, 0))) (hfn : ¬ Fp S f) (hfB : B ≤ f) (hl : S.L.length < 256)
    (hw : w' = { w with heap := w.heap.setIfInBounds S.m (.map ((S.L.map Fi.ent).toArray.push { key := .string nm, val := .pointer (some ⟨f, 0, none⟩), born := S.clock }) (S.clock + 1)) }) :
    Dk B w' lk { S with L := S.L ++ [⟨nm, f, .slice none 0 0, [], 0, S.clock⟩], clock := S.clock + 1 } := by
  have hlt := heap_lt h.mp
  have ho : ∀ k, k ≠ S.m → w'.heap[k]? = w.heap[k]? := fun k hk => by rw [hw]; exact Array.getElem?_setIfInBounds_ne (Ne.symm hk)
  have hd : S.d ≠ S.m := fun e => by have := h.mp; rw [← e, h.dk] at this; simp at this
  have hfm : ∀ x ∈ S.L, x.f ≠ S.m := fun x hx e => by have := h.fl x hx; rw [e, h.mp] at this; simp at this
  have hvm : ∀ x ∈ S.L, ∀ g, x.v.ownBlock = some g → g ≠ S.m := fun x hx g hg e => by
    rcases (h.ow x hx).2 with ⟨e1, _⟩ | ⟨g', cap, cur, e1, _, hh, _⟩
    · rw [e1] at hg; simp [Value.ownBlock] at hg
    · rw [e1] at hg; simp [Value.ownBlock] at hg; subst hg; rw [e, h.mp] at hh; simp at hh
  have hm2 : f ≠ S.m := fun e => by rw [e, h.mp] at hf; simp at hf
  have mem : ∀ {y : Fi}, y ∈ S.L ++ [⟨nm, f, .slice none 0 0, [], 0, S.clock⟩] → y ∈ S.L ∨ y = ⟨nm, f, .slice none 0 0, [], 0, S.clock⟩ := fun hy => by simpa using hy
  refine ⟨?_, ?_, ?_, ?_, ?_, ?_, ?_, ?_, ?_, ?_, ?_, ?_, ?_, ?_⟩
  · exact (ho _ hd).trans h.dk
  · rw [hw]; simp [hlt, Fi.ent]
  · intro y hy
    rcases mem hy with hy | rfl
    · exact (ho _ (hfm y hy)).trans (h.fl y hy)
    · exact (ho _ hm2).trans hf
  · intro y hy
    rcases mem hy with hy | rfl
    · exact ownsRow_keep (h.ow y hy) fun g hg => ho g (hvm y hy g hg)
    · exact World.ownsRow_nil _ _ _ _
  · show ((S.L ++ _).map (·.nm)).Nodup
    rw [List.map_append, List.nodup_append]
    refine ⟨h.nd, by simp, fun a ha b hb => ?_⟩
    obtain ⟨y, hy, rfl⟩ := List.mem_map.1 ha
    simp at hb; rw [hb]; exact hx y hy
  · show ((S.L ++ _).map (·.born)).Nodup
    rw [List.map_append, List.nodup_append]
    refine ⟨h.bn, by simp, fun a ha b hb => ?_⟩
    obtain ⟨y, hy, rfl⟩ := List.mem_map.1 ha
    simp at hb; have := h.bl y hy; omega
  · show ((S.L ++ _).map (·.f)).Nodup
    rw [List.map_append, List.nodup_append]
    refine ⟨h.fn, by simp, fun a ha b hb => ?_⟩
    obtain ⟨y, hy, rfl⟩ := List.mem_map.1 ha
    simp at hb; rw [hb]; exact fun e => hfn (.inr (.inr ⟨y, hy, .inl e.symm⟩))
  · intro y hy
    rcases mem hy with hy | rfl
    · have := h.bl y hy; show y.born < S.clock + 1; omega
    · exact Nat.lt_succ_self _
  · show (S.L ++ _).Pairwise _
    rw [List.pairwise_append]
    refine ⟨h.ap, List.pairwise_singleton _ _, fun a _ b hb g _ => ?_⟩
    simp at hb; rw [hb]; simp [Value.ownBlock]
  · refine ⟨h.bd.1, h.bd.2.1, fun y hy => ?_⟩
    rcases mem hy with hy | rfl
    · exact h.bd.2.2 y hy
    · exact hfB
  · intro y hy
    rcases mem hy with hy | rfl
    · exact h.by_ y hy
    · simp
  · refine ⟨?_, h.rm.2⟩
    have : ∀ L : List Fi, tot (L ++ [⟨nm, f, .slice none 0 0, [], 0, S.clock⟩]) = tot L := by
      intro L
      induction L with
      | nil => rfl
      | cons x l ih => rw [List.cons_append, tot, ih]; rfl
    show tot _ ≤ S.room
    rw [this]; exact h.rm.1
  · intro y hy
    rcases mem hy with hy | rfl
    · exact h.su y hy
    · exact Nat.le_refl _
  · show (S.L ++ _).length ≤ 256
    simp; omega

end Go.Proofs.YtlandfghodfjdaaGreat

/- Open. -/
import Derived.Test.YtgmahgfelbkoeaaDoorJ2L
namespace Go.Proofs.YtgmahgfelbkoeaaDoor
open Go.RowKit
set_option linter.unusedVariables false
set_option linter.unusedSimpArgs false

theorem Fx.fr {l : Nat} {w w1 w' : World} {F F' : Nat → Prop} (hb : Below w.heap.size w w1) (h : Fx l w1 F w' F') (hl : w.heap.size ≤ l) : Fr w F w' F' :=
  ⟨h.os.trans hb.os, h.tape.trans hb.tape, h.output.trans hb.output, Nat.le_trans hb.size h.size, fun k hk hn => ⟨(h.block k (Nat.lt_of_lt_of_le hk hb.size) hn).1, ((h.block k (Nat.lt_of_lt_of_le hk hb.size) hn).2 (by omega)).trans (hb.block k hk)⟩⟩

set_option maxRecDepth 100000 in
theorem open_new {B : Nat} {d : Nat} {p : PS} {F : Nat → Prop} (w : World) (h : Di B w d p F) (nm : ByteArray) (hoff : p.off = false) (harm : p.ain = 0) (hwr : p.wr ≤ 999999999) (hs : okN nm) (hc : (∀ y ∈ p.con, y.1 ≠ nm) ∧ p.con.length < 256) (hr : Con.tot p.con + 8 ≤ p.room) :
    Calls Tryd.prog 7 #[.pointer (some ⟨d, 0, none⟩), .string nm] w fun e w' => ∃ l F', e = .returned (.tuple #[.pointer (some ⟨l, 0, none⟩), .slice none 0 0, .int .i64 0]) ∧ Di B w' d { p with con := Con.lay p.con nm headB, wr := p.wr + 2 } F' ∧ Lg w' l d nm 8 0 ∧ ¬ F' l ∧ w.heap.size ≤ l ∧ Fr w F w' F' := by
  have HO : Hid (∀ w1, Below w.heap.size w w1 → Calls Tryd.prog 19 #[.pointer (some ⟨w1.heap.size, 0, none⟩)] (w1.alloc (.cells #[.pointer (some ⟨d, 0, none⟩), .string nm, .int .i64 0, .int .i64 0, .bool false] 64)) fun e w' => ∃ l F', e = .returned (.tuple #[.pointer (some ⟨l, 0, none⟩), .slice none 0 0, .int .i64 0]) ∧ Di B w' d { p with con := Con.lay p.con nm headB, wr := p.wr + 2 } F' ∧ Lg w' l d nm 8 0 ∧ ¬ F' l ∧ w.heap.size ≤ l ∧ Fr w F w' F') := fun w1 hb => by
    have hb2 : Below w1.heap.size w1 (w1.alloc (.cells #[.pointer (some ⟨d, 0, none⟩), .string nm, .int .i64 0, .int .i64 0, .bool false] 64)) := (Below.refl _ _).alloc (Nat.le_refl _) _
    have hb3 := hb.trans (hb2.mono hb.size)
    refine (opened_new _ (h.below hb3) (heap_alloc_new w1 _) (fun e => by have := h.lt _ e; have := hb.size; omega) hoff harm hwr hs hc hr).mono ?_
    rintro e w' ⟨rfl, F', e1, e2, e3, e4⟩
    exact ⟨_, F', rfl, e1, e2, e3, hb.size, e4.fr hb3 hb.size⟩
  have hsz : nm.size ≤ 1000000000 := by have := hs.2.1; omega
  clear h hoff harm hwr hs hc hr
  go_enter Tryd.func7, Tryd.ntmps7
  go_wp2_with (first | (go_at_call 20; refine (sclone_any nm _ hsz).mono ?_; rintro e w1 ⟨rfl, hB1⟩; have HB1 := hide hB1; clear hB1) | (go_at_call 19; refine (HO.out _ HB1.out).mono ?_; rintro e w2 ⟨l, F', rfl, hR⟩; have HR := hide hR; clear hR))
  go_ret3
  exact ⟨l, F', rfl, HR.out⟩

set_option maxRecDepth 100000 in
theorem open_full {B : Nat} {d : Nat} {p : PS} {F : Nat → Prop} (w : World) (h : Di B w d p F) (nm : ByteArray) (hoff : p.off = false) (hs : okN nm) (bs : List Nat) (su : Nat) (hc : (nm, bs, su) ∈ p.con) (h8 : 8 ≤ bs.length) (hlb : bs.length ≤ 268435456) (hpre : bs.take 8 = headB) (rr : List (List (List Nat))) (htk : tkRecs (bs.length + 1) (bs.drop 8) [] = some (rr, 0)) (hT : TabC w) (hTF : ¬ F 0) :
    Calls Tryd.prog 7 #[.pointer (some ⟨d, 0, none⟩), .string nm] w fun e w' => ∃ l v, e = .returned (.tuple #[.pointer (some ⟨l, 0, none⟩), v, .int .i64 0]) ∧ Di B w' d p F ∧ Lg w' l d nm bs.length rr.length ∧ w.heap.size ≤ l ∧ Fr w F w' F ∧ RecsAt w' w.heap.size w'.heap.size v rr := by
  have hgl : 0 < w.heap.size := World.block_lt_of_cell? _ _ (hT 0 (by decide))
  have HO : Hid (∀ w1, Below w.heap.size w w1 → Calls Tryd.prog 19 #[.pointer (some ⟨w1.heap.size, 0, none⟩)] (w1.alloc (.cells #[.pointer (some ⟨d, 0, none⟩), .string nm, .int .i64 0, .int .i64 0, .bool false] 64)) fun e w' => ∃ l v, e = .returned (.tuple #[.pointer (some ⟨l, 0, none⟩), v, .int .i64 0]) ∧ Di B w' d p F ∧ Lg w' l d nm bs.length rr.length ∧ w.heap.size ≤ l ∧ Fr w F w' F ∧ RecsAt w' w.heap.size w'.heap.size v rr) := fun w1 hb => by
    have hb2 : Below w1.heap.size w1 (w1.alloc (.cells #[.pointer (some ⟨d, 0, none⟩), .string nm, .int .i64 0, .int .i64 0, .bool false] 64)) := (Below.refl _ _).alloc (Nat.le_refl _) _
    have hb3 := hb.trans (hb2.mono hb.size)
    refine (opened_full _ (h.below hb3) (heap_alloc_new w1 _) (fun e => by have := h.lt _ e; have := hb.size; omega) hoff hs bs su hc h8 hlb hpre rr htk (hT.below hb3) ⟨hTF, by have := hb.size; omega⟩).mono ?_
    rintro e w' ⟨v, rfl, e1, e2, e3, e4⟩
    exact ⟨_, v, rfl, e1, e2, hb.size, e3.fr hb3 hb.size, e4.keep (fun _ _ _ => rfl) hb3.size (Nat.le_refl _)⟩
  have hsz : nm.size ≤ 1000000000 := by have := hs.2.1; omega
  clear h hoff hs hc hT hTF hgl htk hpre
  go_enter Tryd.func7, Tryd.ntmps7
  go_wp2_with (first | (go_at_call 20; refine (sclone_any nm _ hsz).mono ?_; rintro e w1 ⟨rfl, hB1⟩; have HB1 := hide hB1; clear hB1) | (go_at_call 19; refine (HO.out _ HB1.out).mono ?_; rintro e w2 ⟨l, v, rfl, hR⟩; have HR := hide hR; clear hR))
  go_ret3
  exact ⟨l, v, rfl, HR.out⟩

def nmJ : ByteArray := { data := #[106] }
theorem okJ : okN nmJ := ⟨by decide, by decide, fun i h => by
  have : i = 0 := by have : nmJ.size = 1 := rfl; omega
  subst this
  show 0 ≤ firstIdx letters 106
  decide +kernel⟩

/-- The rows of the law's own record. -/
def qw (i : Nat) : List Nat := if i = 0 then [97] else []

theorem tk_works : tkRecs ((headB ++ recP qw 2).length + 1) ((headB ++ recP qw 2).drop 8) [] = some ([[[97], []]], 0) := by decide +kernel

set_option maxRecDepth 100000 in
theorem num_any (n : Int) (w : World) : Calls Tryd.prog 5 #[.int .i64 n] w fun e w' => e = .returned (.int .i64 n) ∧ w' = w := by
  go_enter Tryd.func5, Tryd.ntmps5
  go_wp2
  go_ret
  exact ⟨rfl, rfl⟩

end Go.Proofs.YtgmahgfelbkoeaaDoor

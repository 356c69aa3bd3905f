/- Open on a disk that is armed; what the power leaves of a file. -/
import Derived.Test.YtgmahgfelbkoeaaDoorJ11G
import Derived.Test.YtgmahgfelbkoeaaDoorJ7B
namespace Go.Proofs.YtgmahgfelbkoeaaDoor
open Go.RowKit
set_option linter.unusedVariables false
set_option linter.unusedSimpArgs false

set_option maxRecDepth 100000 in
theorem open_cutM {B : Nat} {d : Nat} {p : PS} {F : Nat → Prop} (w : World) (h : Di B w d p F) (nm : ByteArray) (hoff : p.off = false) (hA : p.arms) (h1 : p.ain ≠ 1) (hwr : p.wr ≤ 999999999) (hs : okN nm) (bs : List Nat) (su : Nat) (hc : (nm, bs, su) ∈ p.con) (h8 : 8 ≤ bs.length) (hlb : bs.length ≤ 268435456) (hpre : bs.take 8 = headB) (rr : List (List (List Nat))) (S left : Nat) (htk : tkRecs (bs.length + 1) (bs.drop 8) [] = some (rr, left)) (hS : bs.length - left = S) (hSN : S < bs.length) (hT : TabC w) (hTF : ¬ F 0) :
    Calls Tryd.prog 7 #[.pointer (some ⟨d, 0, none⟩), .string nm] w fun e w' => ∃ l v F', e = .returned (.tuple #[.pointer (some ⟨l, 0, none⟩), v, .int .i64 0]) ∧ Di B w' d (p.wrote (cutF nm S)) F' ∧ Lg w' l d nm S rr.length ∧ ¬ F' l ∧ w.heap.size ≤ l ∧ Fr w F w' F' ∧ ∃ lo, w.heap.size ≤ lo ∧ ∃ hi, hi ≤ w'.heap.size ∧ RecsAt w' lo hi v rr ∧ ∀ k, lo ≤ k → k < hi → ¬ F' k := by
  have hgl : 0 < w.heap.size := World.block_lt_of_cell? _ _ (hT 0 (by decide))
  have HO : Hid (∀ w1, Below w.heap.size w w1 → Calls Tryd.prog 19 #[.pointer (some ⟨w1.heap.size, 0, none⟩)] (w1.alloc (.cells #[.pointer (some ⟨d, 0, none⟩), .string nm, .int .i64 0, .int .i64 0, .bool false] 64)) fun e w' => ∃ l v F', e = .returned (.tuple #[.pointer (some ⟨l, 0, none⟩), v, .int .i64 0]) ∧ Di B w' d (p.wrote (cutF nm S)) F' ∧ Lg w' l d nm S rr.length ∧ ¬ F' l ∧ w.heap.size ≤ l ∧ Fr w F w' F' ∧ ∃ lo, w.heap.size ≤ lo ∧ ∃ hi, hi ≤ w'.heap.size ∧ RecsAt w' lo hi v rr ∧ ∀ k, lo ≤ k → k < hi → ¬ F' k) := fun w1 hb => by
    have hb2 : Below w1.heap.size w1 (w1.alloc (.cells #[.pointer (some ⟨d, 0, none⟩), .string nm, .int .i64 0, .int .i64 0, .bool false] 64)) := (Below.refl _ _).alloc (Nat.le_refl _) _
    have hb3 := hb.trans (hb2.mono hb.size)
    refine (opened_cutM _ (h.below hb3) (heap_alloc_new w1 _) (fun e => by have := h.lt _ e; have := hb.size; omega) hoff hA h1 hwr hs bs su hc h8 hlb hpre rr S left htk hS hSN (hT.below hb3) ⟨hTF, by have := hb.size; omega⟩).mono ?_
    rintro e w' ⟨v, rfl, F', e1, e2, e3, e4, lo, e5, hi, e6⟩
    exact ⟨_, v, F', rfl, e1, e2, e3, hb.size, e4.fr hb3 hb.size, lo, Nat.le_trans hb3.size e5, hi, e6⟩
  have hsz : nm.size ≤ 1000000000 := by have := hs.2.1; omega
  clear h hoff hA h1 hwr hs hc hT hTF hgl htk hpre hS hSN
  go_enter Tryd.func7, Tryd.ntmps7
  go_wp2_with (first | (go_at_call 20; refine (sclone_any nm _ hsz).mono ?_; rintro e w1 ⟨rfl, hB1⟩; have HB1 := hide hB1; clear hB1) | (go_at_call 19; refine (HO.out _ HB1.out).mono ?_; rintro e w2 ⟨l, v, F', rfl, hR⟩; have HR := hide hR; clear hR))
  go_ret3
  exact ⟨l, v, F', rfl, HR.out⟩

set_option maxRecDepth 100000 in
theorem open_cutT {B : Nat} {d : Nat} {p : PS} {F : Nat → Prop} (w : World) (h : Di B w d p F) (nm : ByteArray) (hoff : p.off = false) (hA : p.arms) (h1 : p.ain = 1) (hwr : p.wr ≤ 999999999) (hs : okN nm) (bs : List Nat) (su : Nat) (hc : (nm, bs, su) ∈ p.con) (h8 : 8 ≤ bs.length) (hlb : bs.length ≤ 268435456) (hpre : bs.take 8 = headB) (rr : List (List (List Nat))) (S left : Nat) (htk : tkRecs (bs.length + 1) (bs.drop 8) [] = some (rr, left)) (hS : bs.length - left = S) (hSN : S < bs.length) (hT : TabC w) (hTF : ¬ F 0) :
    Calls Tryd.prog 7 #[.pointer (some ⟨d, 0, none⟩), .string nm] w fun e w' => e = .returned (.tuple #[.pointer none, .slice none 0 0, .int .i64 104]) ∧ ∃ F', Di B w' d (p.wrote (cutF nm S)) F' ∧ Fr w F w' F' := by
  have hgl : 0 < w.heap.size := World.block_lt_of_cell? _ _ (hT 0 (by decide))
  have HO : Hid (∀ w1, Below w.heap.size w w1 → Calls Tryd.prog 19 #[.pointer (some ⟨w1.heap.size, 0, none⟩)] (w1.alloc (.cells #[.pointer (some ⟨d, 0, none⟩), .string nm, .int .i64 0, .int .i64 0, .bool false] 64)) fun e w' => e = .returned (.tuple #[.pointer none, .slice none 0 0, .int .i64 104]) ∧ ∃ F', Di B w' d (p.wrote (cutF nm S)) F' ∧ Fr w F w' F') := fun w1 hb => by
    have hb2 : Below w1.heap.size w1 (w1.alloc (.cells #[.pointer (some ⟨d, 0, none⟩), .string nm, .int .i64 0, .int .i64 0, .bool false] 64)) := (Below.refl _ _).alloc (Nat.le_refl _) _
    have hb3 := hb.trans (hb2.mono hb.size)
    refine (opened_cutT _ (h.below hb3) (heap_alloc_new w1 _) (fun e => by have := h.lt _ e; have := hb.size; omega) hoff hA h1 hwr hs bs su hc h8 hlb hpre rr S left htk hS hSN (hT.below hb3) ⟨hTF, by have := hb.size; omega⟩).mono ?_
    rintro e w' ⟨rfl, F', e1, e4⟩
    exact ⟨rfl, F', e1, e4.fr hb3 hb.size⟩
  have hsz : nm.size ≤ 1000000000 := by have := hs.2.1; omega
  clear h hoff hA h1 hwr hs hc hT hTF hgl htk hpre hS hSN
  go_enter Tryd.func7, Tryd.ntmps7
  go_wp2_with (first | (go_at_call 20; refine (sclone_any nm _ hsz).mono ?_; rintro e w1 ⟨rfl, hB1⟩; have HB1 := hide hB1; clear hB1) | (go_at_call 19; refine (HO.out _ HB1.out).mono ?_; rintro e w2 ⟨rfl, hR⟩; have HR := hide hR; clear hR))
  go_ret3
  exact ⟨rfl, HR.out⟩

theorem lost_app (bs R : List Nat) (j : Nat) (y : Int) : ∃ m, m ≤ R.length ∧ lostF y (bs ++ R.take j, bs.length) = (bs ++ R.take m, bs.length) := by
  obtain ⟨n, hn⟩ : ∃ n, leftF y (bs ++ R.take j, bs.length) = n := ⟨_, rfl⟩
  have h1 : bs.length ≤ n := by rw [← hn]; exact Nat.le_max_left _ _
  refine ⟨min (min (n - bs.length) j) R.length, by omega, ?_⟩
  unfold lostF
  rw [hn]
  simp only [Prod.mk.injEq]
  refine ⟨?_, by omega⟩
  rw [List.take_append, List.take_of_length_le h1, List.take_take]
  congr 1
  rw [List.take_eq_take_iff]
  omega

theorem lost_all (bs : List Nat) (y : Int) : lostF y (bs, bs.length) = (bs, bs.length) := by
  have h1 : leftF y (bs, bs.length) = bs.length := by unfold leftF; dsimp only; omega
  unfold lostF
  rw [h1, List.take_length, Nat.min_self]

/-- What a file may hold when the power has gone: Open makes rr or wh of it. -/
def Af (rr wh : List (List (List Nat))) (bs : List Nat) : Prop := ∃ gg n k, bs = (headB ++ recsB gg).take n ∧ n ≤ (headB ++ recsB gg).length ∧ 8 ≤ n ∧ Whole gg n k ∧ (gg.take k = rr ∨ gg.take k = wh) ∧ ∀ r ∈ gg, Okr r

theorem file_len (gg : List (List (List Nat))) : (headB ++ recsB gg).length = pl gg gg.length := by
  unfold pl; rw [List.take_length, List.length_append]; rfl

theorem Af.full {rr wh gg : List (List (List Nat))} (h : gg = rr ∨ gg = wh) (hok : ∀ r ∈ gg, Okr r) : Af rr wh (headB ++ recsB gg) :=
  ⟨gg, (headB ++ recsB gg).length, gg.length, by rw [List.take_length], Nat.le_refl _, by rw [List.length_append]; show 8 ≤ 8 + _; omega, ⟨Nat.le_refl _, .inr (Nat.le_of_eq (file_len gg).symm), .inl rfl⟩, by rw [List.take_length]; exact h, hok⟩

theorem Af.app {rr : List (List (List Nat))} {rs : List (List Nat)} (hok : ∀ r ∈ rr, Okr r) (hrs : Okr rs) (m : Nat) (hm : m ≤ (recB rs).length) : Af rr (rr ++ [rs]) ((headB ++ recsB rr) ++ (recB rs).take m) := by
  have e : headB ++ recsB (rr ++ [rs]) = (headB ++ recsB rr) ++ recB rs := by rw [recsB_app]; simp [recsB]
  have hok2 : ∀ r ∈ rr ++ [rs], Okr r := fun r hr => by
    rcases List.mem_append.1 hr with hr | hr
    · exact hok r hr
    · rw [List.mem_singleton.1 hr]; exact hrs
  have h8 : 8 ≤ (headB ++ recsB rr).length := by rw [List.length_append]; show 8 ≤ 8 + _; omega
  have hp : pl (rr ++ [rs]) rr.length = (headB ++ recsB rr).length := by unfold pl; rw [List.take_left' rfl, List.length_append]; rfl
  have hp1 : pl (rr ++ [rs]) (rr.length + 1) = (headB ++ recsB rr).length + (recB rs).length := by
    have h3 := file_len (rr ++ [rs])
    rw [e, List.length_append] at h3
    rw [show (rr ++ [rs]).length = rr.length + 1 from by simp] at h3
    exact h3.symm
  obtain ⟨X, hX⟩ : ∃ X, headB ++ recsB rr = X := ⟨_, rfl⟩
  rw [hX] at e h8 hp hp1 ⊢
  refine ⟨rr ++ [rs], X.length + m, if m < (recB rs).length then rr.length else rr.length + 1, ?_, ?_, by omega, ?_, ?_, hok2⟩
  · rw [e, List.take_append, show X.take (X.length + m) = X from List.take_of_length_le (by omega), show X.length + m - X.length = m from by omega]
  · rw [e, List.length_append]; omega
  · by_cases h : m < (recB rs).length
    · rw [if_pos h]; exact ⟨by simp, .inr (by rw [hp]; omega), .inr (by rw [hp1]; omega)⟩
    · rw [if_neg h]; exact ⟨by simp, .inr (by rw [hp1]; omega), .inl (by simp)⟩
  · by_cases h : m < (recB rs).length
    · rw [if_pos h]; exact .inl (List.take_left' rfl)
    · rw [if_neg h]; exact .inr (by rw [List.take_of_length_le (by simp)])

set_option maxRecDepth 100000 in
theorem eqRows_len (pa pb : Option Addr) (na ca nb cb : Nat) (w : World) (h : na ≠ nb) :
    Calls Tryd.prog 16 #[.slice pa na ca, .slice pb nb cb] w fun e w' => e = .returned (.bool false) ∧ w' = w := by
  have h' : ¬ ((na : Int) = (nb : Int)) := by omega
  go_enter Tryd.func16, Tryd.ntmps16
  go_wp2
  go_ret
  exact ⟨rfl, rfl⟩

end Go.Proofs.YtgmahgfelbkoeaaDoor

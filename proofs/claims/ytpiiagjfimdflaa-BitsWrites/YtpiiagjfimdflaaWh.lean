/- The law's Book: holds; what may change; tight. -/
import Derived.Test.YtpiiagjfimdflaaWg
namespace Go.Proofs.Ytpiiagjfimdflaa
open Go.RowKit
open M
set_option linter.unusedVariables false

theorem BookNil.drewN {w : World} {NB : Nat} (h : BookNil w NB) (m : Nat) : BookNil (w.drewN m) NB := ⟨h.nils, h.ats, h.fz⟩

theorem holds_any (NB base : Nat) (rb ro : Option Nat) (E : List Ent) (A T D U : Nat) (w : World) (h : BookSt w NB base rb ro E A T D U) (hE : E.length ≤ 1000000) :
    Calls Try.prog 50 #[.pointer (some ⟨NB, 0, none⟩)] w fun e w' => e = .returned (.bool true) ∧ ∃ m, w' = w.drewN m := by
  have HP : Hid (Calls Try.prog 72 #[.pointer (some ⟨NB, 0, none⟩)] w fun e w' => e = .returned (.bool true) ∧ ∃ m, w' = w.drewN m) := plain_any NB base rb ro E A T D U w h hE
  have HN : Hid (BookNil w NB) := h.nil
  clear h
  go_enter Try.func50, Try.ntmps50
  go_wp2_with fail
  refine HP.out.mono ?_
  rintro e w1 ⟨rfl, m, hw⟩
  have HN1 : Hid (BookNil w1 NB) := by rw [hw]; exact HN.out.drewN m
  have HW : Hid (∃ m, w1 = w.drewN m) := ⟨m, hw⟩
  clear hw
  go_wp2_with fail
  refine (hold73 NB w1 HN1.out).mono ?_
  rintro e w2 ⟨rfl, rfl⟩
  go_wp2_with fail
  refine (hold74 NB _ HN1.out).mono ?_
  rintro e w3 ⟨rfl, rfl⟩
  go_wp2_with fail
  refine (hold75 NB _ HN1.out).mono ?_
  rintro e w4 ⟨rfl, rfl⟩
  go_wp2_with fail
  refine (hold76 NB _ HN1.out).mono ?_
  rintro e w5 ⟨rfl, rfl⟩
  go_wp2_with fail
  refine (hold77 NB _ HN1.out).mono ?_
  rintro e w6 ⟨rfl, rfl⟩
  go_wp2_with fail
  refine (hold78 NB _ HN1.out).mono ?_
  rintro e w7 ⟨rfl, rfl⟩
  go_wp2_with fail
  go_ret
  exact ⟨rfl, HW.out⟩

/-- Of what was there only blocks of S may have turned. -/
structure Chg (S : Nat → Prop) (w w' : World) : Prop where
  os : w'.os = w.os
  tape : w'.tape = w.tape
  output : w'.output = w.output
  size : w.heap.size ≤ w'.heap.size
  block : ∀ k, k < w.heap.size → ¬ S k → w'.heap[k]? = w.heap[k]?

theorem Chg.refl (S : Nat → Prop) (w : World) : Chg S w w := ⟨rfl, rfl, rfl, Nat.le_refl _, fun _ _ _ => rfl⟩
theorem Chg.mono {S S' : Nat → Prop} {w w' : World} (h : Chg S w w') (hs : ∀ k, k < w.heap.size → S k → S' k) : Chg S' w w' := ⟨h.os, h.tape, h.output, h.size, fun k hk hn => h.block k hk (fun h => hn (hs k hk h))⟩
theorem Chg.trans {S : Nat → Prop} {u v w : World} (h : Chg S u v) (k : Chg (fun i => S i ∨ u.heap.size ≤ i) v w) : Chg S u w :=
  ⟨k.os.trans h.os, k.tape.trans h.tape, k.output.trans h.output, Nat.le_trans h.size k.size, fun i hi hn => (k.block i (Nat.lt_of_lt_of_le hi h.size) (by intro h; rcases h with h | h; exact hn h; omega)).trans (h.block i hi hn)⟩
theorem Chg.trans' {S : Nat → Prop} {u v w : World} (h : Chg S u v) (k : Chg S v w) : Chg S u w := h.trans (k.mono fun _ _ h => .inl h)
theorem Chg.below {S : Nat → Prop} {w w' : World} (h : Below w.heap.size w w') : Chg S w w' := ⟨h.os, h.tape, h.output, h.size, fun k hk _ => h.block k hk⟩
theorem Chg.only {S : Nat → Prop} {b lo hi : Nat} {w w' : World} (h : Only b lo hi w w') (hb : S b) : Chg S w w' := ⟨h.os, h.tape, h.output, h.size, fun k hk hn => h.block k hk (fun e => hn (e ▸ hb))⟩
theorem Chg.set {S : Nat → Prop} (w : World) (b i : Nat) (v : Value) (hb : S b) : Chg S w (w.setCell ⟨b, i, none⟩ v) := Chg.only ((Only.refl b i (i + 1) w).setCell i (by omega) (by omega) v) hb
theorem Chg.grown {S : Nat → Prop} {w w' : World} {row : Option Nat} (h : w.grownBy w' row) (hr : ∀ g, row = some g → S g) : Chg S w w' := ⟨h.os, h.tape, h.output, h.size, fun k hk hn => h.block k hk (fun e => hn (hr k e.symm))⟩

/-- Rows of different kinds lie in different blocks. -/
theorem rows_ne {w : World} {b1 b2 : Nat} {t1 t2 : TypeId} {v1 v2 : Value} {n1 n2 : Nat} {x1 x2 : List Value} (h1 : w.ownsRow b1 t1 1 v1 n1 x1) (h2 : w.ownsRow b2 t2 1 v2 n2 x2) (hne : t1 ≠ t2) {g : Nat} (hg : v1.ownBlock = some g) : v2.ownBlock ≠ some g := by
  intro hg2
  rcases h1.2 with ⟨rfl, _⟩ | ⟨g1, c1, cur1, rfl, _, k1, _⟩
  · simp [Value.ownBlock] at hg
  · rcases h2.2 with ⟨rfl, _⟩ | ⟨g2, c2, cur2, rfl, _, k2, _⟩
    · simp [Value.ownBlock] at hg2
    · simp only [Value.ownBlock, Option.some.injEq] at hg hg2
      subst hg
      subst hg2
      rw [k1] at k2
      simp only [Option.some.injEq, Obj.cells.injEq] at k2
      exact hne k2.2.1

theorem ownsRow_chg {S : Nat → Prop} {w w' : World} {base : Nat} {t : TypeId} {v : Value} {n : Nat} {xs : List Value} (h : w.ownsRow base t 1 v n xs) (hc : Chg S w w') (hs : ∀ g, v.ownBlock = some g → ¬ S g) : w'.ownsRow base t 1 v n xs :=
  ownsRow_keep h (fun g hg => hc.block g (h.lt g hg).2 (hs g hg))

/-- The Book's own blocks. -/
def BookB (NB : Nat) (rb ro : Option Nat) (E : List Ent) (k : Nat) : Prop := k = NB ∨ rb = some k ∨ ro = some k ∨ ∃ e ∈ E, e.v.ownBlock = some k

theorem cell_chg {S : Nat → Prop} {w w' : World} {b i : Nat} {v : Value} (h : w.cell? ⟨b, i, none⟩ = some v) (hc : Chg S w w') (hs : ¬ S b) : w'.cell? ⟨b, i, none⟩ = some v :=
  (World.cell?_of_block (w := w) (hc.block b (block_lt_of_cell h) hs)).trans h

theorem BookSt.chg {S : Nat → Prop} {w w' : World} {NB base : Nat} {rb ro : Option Nat} {E : List Ent} {A T D U : Nat} (h : BookSt w NB base rb ro E A T D U) (hc : Chg S w w') (hs : ∀ k, BookB NB rb ro E k → ¬ S k) : BookSt w' NB base rb ro E A T D U := by
  obtain ⟨vb, b1, b2, b3⟩ := h.rows
  obtain ⟨vo, o1, o2, o3⟩ := h.marks
  have hn := hs NB (.inl rfl)
  have hl := block_lt_of_cell h.at_
  refine ⟨⟨fun j h1 h2 h3 => cell_chg (h.nil.nils j h1 h2 h3) hc hn, fun j h1 h2 h3 => cell_chg (h.nil.ats j h1 h2 h3) hc hn, fun j hj => ?_⟩, ⟨vb, cell_chg b1 hc hn, ownsRow_chg b2 hc (fun g hg => hs g (.inr (.inl (b3 ▸ hg)))), b3⟩,
    ⟨vo, cell_chg o1 hc hn, ownsRow_chg o2 hc (fun g hg => hs g (.inr (.inr (.inl (o3 ▸ hg))))), o3⟩, cell_chg h.at_ hc hn, cell_chg h.turn hc hn, cell_chg h.done hc hn, cell_chg h.used hc hn, fun e he => ?_, h.le⟩
  · rw [World.frozen?_of_block (w := w) (w' := w') (a := ⟨NB, j, none⟩) (hc.block NB hl hn)]; exact h.nil.fz j hj
  · obtain ⟨h1, h2, h3⟩ := h.ok e he
    exact ⟨ownsRow_chg h1 hc (fun g hg => hs g (.inr (.inr (.inr ⟨e, he, hg⟩)))), h2, h3⟩

theorem tight_no (NB x U : Nat) (w : World) (hc : w.cell? ⟨NB, 71, none⟩ = some (.int .i64 U)) (hf : w.frozen? ⟨NB, 71, none⟩ = false) (hx : U + x ≤ 16777216) :
    Calls Try.prog 71 #[.pointer (some ⟨NB, 0, none⟩), .int .i64 x] w fun e w' => e = .returned (.bool false) ∧ w' = w.setCell ⟨NB, 71, none⟩ (.int .i64 ((U + x : Nat) : Int)) := by
  obtain ⟨y, hy⟩ : ∃ y : Nat, (U : Int) + (x : Int) = (y : Int) := ⟨U + x, by omega⟩
  have hy2 : ¬ (16777216 : Int) < (y : Int) := by omega
  have Hy : Hid (y = U + x) := by show _ = _; omega
  go_enter Try.func71, Try.ntmps71
  go_wp2_with fail
  go_ret
  exact ⟨rfl, rfl⟩

theorem tight_yes (NB x U : Nat) (w : World) (hc : w.cell? ⟨NB, 71, none⟩ = some (.int .i64 U)) (hx : 16777216 < U + x) (hx2 : U + x ≤ 1000000000000) :
    Calls Try.prog 71 #[.pointer (some ⟨NB, 0, none⟩), .int .i64 x] w fun e w' => e = .returned (.bool true) ∧ w' = w := by
  obtain ⟨y, hy⟩ : ∃ y : Nat, (U : Int) + (x : Int) = (y : Int) := ⟨U + x, by omega⟩
  have hy2 : (16777216 : Int) < (y : Int) := by omega
  go_enter Try.func71, Try.ntmps71
  go_wp2_with fail
  go_ret
  exact ⟨rfl, rfl⟩

theorem info29 : ∃ i, Try.prog.info? 29 = some i ∧ i.zero = some (.slice none 0 0) ∧ i.size = 1 ∧ i.bytes = 24 := by
  have hz : (Try.prog.info? 29).bind (·.zero) = some (.slice none 0 0) := by kernel_rfl
  have hs : (Try.prog.info? 29).map (·.size) = some 1 := by kernel_rfl
  have hb : (Try.prog.info? 29).map (·.bytes) = some 24 := by kernel_rfl
  cases hi : Try.prog.info? 29 with
  | none => simp [hi] at hs
  | some i =>
    simp only [hi, Option.bind_some, Option.map_some, Option.some.injEq] at hz hs hb
    exact ⟨i, rfl, hz, hs, hb⟩

theorem info3 : ∃ i, Try.prog.info? 3 = some i ∧ i.zero = some (.int .i64 0) ∧ i.size = 1 ∧ i.bytes = 8 := by
  have hz : (Try.prog.info? 3).bind (·.zero) = some (.int .i64 0) := by kernel_rfl
  have hs : (Try.prog.info? 3).map (·.size) = some 1 := by kernel_rfl
  have hb : (Try.prog.info? 3).map (·.bytes) = some 8 := by kernel_rfl
  cases hi : Try.prog.info? 3 with
  | none => simp [hi] at hs
  | some i =>
    simp only [hi, Option.bind_some, Option.map_some, Option.some.injEq] at hz hs hb
    exact ⟨i, rfl, hz, hs, hb⟩

end Go.Proofs.Ytpiiagjfimdflaa

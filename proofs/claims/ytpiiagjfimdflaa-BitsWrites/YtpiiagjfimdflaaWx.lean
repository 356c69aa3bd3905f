/- BitsWrites: the calls, from state to state. -/
import Derived.Test.YtpiiagjfimdflaaWw
namespace Go.Proofs.Ytpiiagjfimdflaa
open Go.RowKit
open M
set_option linter.unusedVariables false

theorem MSt.drewN {w : World} {i c : Nat} {wr : World} (h : MSt w i c wr) (m : Nat) : MSt w i c (wr.drewN m) := by
  obtain ⟨l0, l1, e0, e1, r0, r1, rb, ro, E, A, T, D, U, rg, rw_, G, h, hc⟩ := h
  have C : Chg (fun _ => False) wr (wr.drewN m) := Chg.drewN _ _
  exact ⟨l0, l1, e0, e1, r0, r1, rb, ro, E, A, T, D, U, rg, rw_, G, ⟨h.w0.chg C (fun h => h) (fun _ h => h.elim), h.w1.chg C (fun h => h) (fun _ h => h.elim), h.v0.chg C (fun h => h) (fun _ _ h => h), h.v1.chg C (fun h => h) (fun _ _ h => h), h.n0, h.n1, h.q0, h.q1, h.k.chg C (fun _ _ h => h), h.sep, h.below.trans (drewN_below _ _ _)⟩, hc⟩

theorem MSt.below {w : World} {i c : Nat} {wr : World} (h : MSt w i c wr) : Below w.heap.size w wr := by
  obtain ⟨l0, l1, e0, e1, r0, r1, rb, ro, E, A, T, D, U, rg, rw_, G, h, hc⟩ := h
  exact h.below

theorem MSt.more {w : World} {i c c' : Nat} {wr : World} (h : MSt w i c wr) (hc' : c ≤ c') : MSt w i c' wr := by
  obtain ⟨l0, l1, e0, e1, r0, r1, rb, ro, E, A, T, D, U, rg, rw_, G, h, hc⟩ := h
  exact ⟨l0, l1, e0, e1, r0, r1, rb, ro, E, A, T, D, U, rg, rw_, G, h, by omega⟩

theorem layM0 {w : World} {i c : Nat} {wr : World} (h : MSt w i c wr) (hi : i ≤ 400) (d n m : Int) (x : Nat) (hx : x < 18446744073709551616) :
    Calls Try.prog 9 #[.pointer (some ⟨w.heap.size, 0, none⟩), .pointer (some ⟨w.heap.size + 1, 0, none⟩), .agg #[.int .i64 d, .int .i64 n, .int .u64 x, .int .i64 m]] wr fun q w' => q = .returned (.tuple #[]) ∧ MSt w (i + 1) c w' := by
  obtain ⟨l0, l1, e0, e1, r0, r1, rb, ro, E, A, T, D, U, rg, rw_, G, h, hc⟩ := h
  have hn0 := h.n0
  refine (lay_any (w.heap.size + 4) w.heap.size 0 (w.heap.size + 1) 0 r0 l0 e0 d n m x wr h.w0 (by omega) h.k.base_ h.v0 (by omega) (fun hh => by have := (h.q0 _ hh).1; omega) (by omega) (by omega) hx).mono fun q w' ⟨h1, l', e', h2, h3⟩ => ⟨h1, ?_⟩
  obtain ⟨r', h4⟩ := h.lay0 h3 h2
  exact ⟨_, _, _, _, _, _, _, _, _, _, _, _, _, _, _, _, h4, hc⟩

theorem layM1 {w : World} {i c : Nat} {wr : World} (h : MSt w i c wr) (hi : i ≤ 400) (d n m : Int) (x : Nat) (hx : x < 18446744073709551616) :
    Calls Try.prog 9 #[.pointer (some ⟨w.heap.size, 123, none⟩), .pointer (some ⟨w.heap.size + 1, 2, none⟩), .agg #[.int .i64 d, .int .i64 n, .int .u64 x, .int .i64 m]] wr fun q w' => q = .returned (.tuple #[]) ∧ MSt w (i + 1) c w' := by
  obtain ⟨l0, l1, e0, e1, r0, r1, rb, ro, E, A, T, D, U, rg, rw_, G, h, hc⟩ := h
  have hn1 := h.n1
  refine (lay_any (w.heap.size + 4) w.heap.size 123 (w.heap.size + 1) 2 r1 l1 e1 d n m x wr h.w1 (by omega) h.k.base_ h.v1 (by omega) (fun hh => by have := h.q1 _ hh; omega) (by omega) (by omega) hx).mono fun q w' ⟨h1, l', e', h2, h3⟩ => ⟨h1, ?_⟩
  obtain ⟨r', h4⟩ := h.lay1 h3 h2
  exact ⟨_, _, _, _, _, _, _, _, _, _, _, _, _, _, _, _, h4, hc⟩

theorem nv_done {w wr w' : World} {i : Nat} {l0 l1 : List Bool} {e0 e1 : Int} {r0 r1 rb ro : Option Nat} {E : List Ent} {A T D U : Nat} {rg rw_ : Option Nat} {G : List Got} (h : MS w i l0 l1 e0 e1 r0 r1 rb ro E A T D U rg rw_ G wr) (hP : DonePost wr (w.heap.size + 3) (w.heap.size + 4) rg rw_ G w') (o : Nat) : w'.cell? ⟨w.heap.size + 1, o, none⟩ = wr.cell? ⟨w.heap.size + 1, o, none⟩ := by
  obtain ⟨_, _, _, _, _, _, _, _, _, _, _, C⟩ := hP
  refine World.cell?_of_block (w := wr) (C.block _ h.v0.lt (fun hh => ?_))
  have hkb : KB (w.heap.size + 2) (w.heap.size + 3) rb ro rg rw_ E G (w.heap.size + 1) := by
    rcases hh with hh | hh | hh
    · exact .inr (.inl hh)
    · exact .inr (.inr (.inr (.inr (.inl hh))))
    · exact .inr (.inr (.inr (.inr (.inr (.inl hh)))))
  rcases h.k.kbge hkb with h9 | h9 | h9 <;> omega

theorem nv_settle {w wr w' : World} {i : Nat} {l0 l1 : List Bool} {e0 e1 : Int} {r0 r1 rb ro : Option Nat} {E : List Ent} {A T D U : Nat} {rg rw_ : Option Nat} {G : List Got} (h : MS w i l0 l1 e0 e1 r0 r1 rb ro E A T D U rg rw_ G wr) (hP : SettlePost wr (w.heap.size + 2) (w.heap.size + 3) (w.heap.size + 4) rb ro E T G w') (o : Nat) : w'.cell? ⟨w.heap.size + 1, o, none⟩ = wr.cell? ⟨w.heap.size + 1, o, none⟩ := by
  obtain ⟨_, _, _, _, _, _, _, _, _, _, _, _, _, C⟩ := hP
  refine World.cell?_of_block (w := wr) (C.block _ h.v0.lt (fun hh => ?_))
  have hkb : KB (w.heap.size + 2) (w.heap.size + 3) rb ro rg rw_ E G (w.heap.size + 1) := by
    rcases hh with hh | hh | hh | hh | ⟨g, hg, hh⟩
    · exact .inr (.inl hh)
    · exact .inl hh
    · exact .inr (.inr (.inl hh))
    · exact .inr (.inr (.inr (.inl hh)))
    · exact .inr (.inr (.inr (.inr (.inr (.inr (.inr ⟨g, hg, .inl hh⟩))))))
  rcases h.k.kbge hkb with h9 | h9 | h9 <;> omega

theorem doneM0 {w : World} {i c : Nat} {wr : World} (h : MSt w i c wr) (hi : i ≤ 401) (hc' : c + 2 ≤ 1000) :
    Calls Try.prog 11 #[.pointer (some ⟨w.heap.size, 0, none⟩), .pointer (some ⟨w.heap.size + 1, 0, none⟩), .pointer (some ⟨w.heap.size + 3, 0, none⟩)] wr fun q w' => q = .returned (.bool true) ∧ MSt w i (c + 2) w' ∧ ∀ o, w'.cell? ⟨w.heap.size + 1, o, none⟩ = wr.cell? ⟨w.heap.size + 1, o, none⟩ := by
  obtain ⟨l0, l1, e0, e1, r0, r1, rb, ro, E, A, T, D, U, rg, rw_, G, h, hc⟩ := h
  have hn0 := h.n0
  refine (done_any w.heap.size 0 (w.heap.size + 4) (w.heap.size + 1) 0 (w.heap.size + 3) (w.heap.size + 4) r0 l0 e0 rg rw_ G wr h.w0 h.k.base_ h.v0 (fun g hg => (h.q0 g hg).1) (by omega) h.k.late h.k.base_ (by omega) (by omega) (by omega) (by omega) (by omega)).mono fun q w' ⟨h1, h2⟩ => ⟨h1, ?_, nv_done h h2⟩
  obtain ⟨rg', rw', g1, g2, h3⟩ := h.done (by omega) h2
  exact ⟨_, _, _, _, _, _, _, _, _, _, _, _, _, _, _, _, h3, by simp; omega⟩

theorem doneM1 {w : World} {i c : Nat} {wr : World} (h : MSt w i c wr) (hi : i ≤ 401) (hc' : c + 2 ≤ 1000) :
    Calls Try.prog 11 #[.pointer (some ⟨w.heap.size, 123, none⟩), .pointer (some ⟨w.heap.size + 1, 2, none⟩), .pointer (some ⟨w.heap.size + 3, 0, none⟩)] wr fun q w' => q = .returned (.bool true) ∧ MSt w i (c + 2) w' ∧ ∀ o, w'.cell? ⟨w.heap.size + 1, o, none⟩ = wr.cell? ⟨w.heap.size + 1, o, none⟩ := by
  obtain ⟨l0, l1, e0, e1, r0, r1, rb, ro, E, A, T, D, U, rg, rw_, G, h, hc⟩ := h
  have hn1 := h.n1
  refine (done_any w.heap.size 123 (w.heap.size + 4) (w.heap.size + 1) 2 (w.heap.size + 3) (w.heap.size + 4) r1 l1 e1 rg rw_ G wr h.w1 h.k.base_ h.v1 h.q1 (by omega) h.k.late h.k.base_ (by omega) (by omega) (by omega) (by omega) (by omega)).mono fun q w' ⟨h1, h2⟩ => ⟨h1, ?_, nv_done h h2⟩
  obtain ⟨rg', rw', g1, g2, h3⟩ := h.done (by omega) h2
  exact ⟨_, _, _, _, _, _, _, _, _, _, _, _, _, _, _, _, h3, by simp; omega⟩

theorem settleM {w : World} {i c : Nat} {wr : World} (h : MSt w i c wr) (n : Nat) (hn : n ≤ 1000) :
    Calls Try.prog 12 #[.pointer (some ⟨w.heap.size + 3, 0, none⟩), .pointer (some ⟨w.heap.size + 2, 0, none⟩), .int .i64 n] wr fun q w' => q = .returned (.bool true) ∧ MSt w i c w' ∧ ∀ o, w'.cell? ⟨w.heap.size + 1, o, none⟩ = wr.cell? ⟨w.heap.size + 1, o, none⟩ := by
  obtain ⟨l0, l1, e0, e1, r0, r1, rb, ro, E, A, T, D, U, rg, rw_, G, h, hc⟩ := h
  refine (settle_any (w.heap.size + 2) (w.heap.size + 3) (w.heap.size + 4) rb ro E A T D U rg rw_ G n wr h.k hn).mono fun q w' ⟨h1, h2⟩ => ⟨h1, ?_, nv_settle h h2⟩
  obtain ⟨rb', ro', E', A', T', D', U', rg', rw', G', h3, h4⟩ := h.settle h2
  exact ⟨_, _, _, _, _, _, _, _, _, _, _, _, _, _, _, _, h3, by omega⟩

theorem lookM {w : World} {i c : Nat} {wr : World} (h : MSt w i c wr) :
    Calls Try.prog 13 #[.pointer (some ⟨w.heap.size + 2, 0, none⟩)] wr fun q w' => q = .returned (.bool true) ∧ Below w.heap.size w w' := by
  obtain ⟨l0, l1, e0, e1, r0, r1, rb, ro, E, A, T, D, U, rg, rw_, G, h, hc⟩ := h
  have hcnt := h.k.cnt
  have htot := h.k.tot
  refine (look_book (w.heap.size + 2) (w.heap.size + 4) rb ro E A T D U wr h.k.book (by omega) h.k.base_ h.k.fresh).mono fun q w' ⟨h1, h2⟩ => ⟨h1, ?_⟩
  obtain ⟨rb', ro', X, A', D', _, _, _, _, _, _, C⟩ := h2
  refine h.below.trans (C.belowN _ h.below.size (fun k hk hh => ?_))
  have hkb : KB (w.heap.size + 2) (w.heap.size + 3) rb ro rg rw_ E G k := by
    rcases hh with hh | hh | hh
    · exact .inl hh
    · exact .inr (.inr (.inl hh))
    · exact .inr (.inr (.inr (.inl hh)))
  rcases h.k.kbge hkb with h9 | h9 | h9 <;> omega

theorem lenM0 {w : World} {i c : Nat} {wr : World} (h : MSt w i c wr) : ∃ (nl : Nat) (p : Option Addr) (cap : Nat), wr.cell? ⟨w.heap.size, 121, none⟩ = some (.int .i64 nl) ∧ wr.cell? ⟨w.heap.size + 1, 0, none⟩ = some (.slice p nl cap) := by
  obtain ⟨l0, l1, e0, e1, r0, r1, rb, ro, E, A, T, D, U, rg, rw_, G, h, hc⟩ := h
  obtain ⟨p, cap, h1, _⟩ := h.v0.bits (fun g hg => by have := (h.q0 g hg).1; omega)
  have h2 := h.w0.lenCell
  exact ⟨l0.length, p, cap, by simpa using h2, h1⟩

theorem lenM1 {w : World} {i c : Nat} {wr : World} (h : MSt w i c wr) : ∃ (nl : Nat) (p : Option Addr) (cap : Nat), wr.cell? ⟨w.heap.size, 123 + 121, none⟩ = some (.int .i64 nl) ∧ wr.cell? ⟨w.heap.size + 1, 2, none⟩ = some (.slice p nl cap) := by
  obtain ⟨l0, l1, e0, e1, r0, r1, rb, ro, E, A, T, D, U, rg, rw_, G, h, hc⟩ := h
  obtain ⟨p, cap, h1, _⟩ := h.v1.bits (fun g hg => by have := h.q1 g hg; omega)
  exact ⟨l1.length, p, cap, h.w1.lenCell, h1⟩

end Go.Proofs.Ytpiiagjfimdflaa

/- A disk as plain data. -/
import Derived.Test.YtlandfghodfjdaaGreatJ12S
import Derived.Test.YtlandfghodfjdaaGreatJ12M
import Derived.Test.YtlandfghodfjdaaGreatJ1L
namespace Go.Proofs.YtlandfghodfjdaaGreat
open Go.RowKit
open Go.MuLone (lock_free unlock_deferred run_callFunc_enter)
set_option linter.unusedVariables false
set_option linter.unusedSimpArgs false

/-- A disk, as plain data and the blocks that are its own. -/
def Di (B : Nat) (w : World) (d : Nat) (p : PS) (F : Nat → Prop) : Prop := ∃ S : DS, S.d = d ∧ S.ps = p ∧ F = Fp S ∧ Dk B w 0 S

theorem Di.lt {B : Nat} {w : World} {d : Nat} {p : PS} {F : Nat → Prop} (h : Di B w d p F) : ∀ k, F k → k < w.heap.size := by
  obtain ⟨S, _, _, rfl, h⟩ := h; exact h.fpLt
theorem Di.ge {B : Nat} {w : World} {d : Nat} {p : PS} {F : Nat → Prop} (h : Di B w d p F) : ∀ k, F k → B ≤ k := by
  obtain ⟨S, _, _, rfl, h⟩ := h; exact h.fpB
theorem Di.keep {B : Nat} {w w' : World} {d : Nat} {p : PS} {F : Nat → Prop} (h : Di B w d p F) (hk : ∀ k, F k → w'.heap[k]? = w.heap[k]?) : Di B w' d p F := by
  obtain ⟨S, h1, h2, rfl, h⟩ := h; exact ⟨S, h1, h2, rfl, h.keep hk⟩
theorem Di.below {B : Nat} {w w' : World} {d : Nat} {p : PS} {F : Nat → Prop} (h : Di B w d p F) (hb : Below w.heap.size w w') : Di B w' d p F := h.keep fun k hk => hb.block k (h.lt k hk)
theorem Di.drew {B : Nat} {w : World} {d : Nat} {p : PS} {F : Nat → Prop} (h : Di B w d p F) : Di B w.drew d p F := h.keep fun _ _ => rfl
theorem Di.rm {B : Nat} {w : World} {d : Nat} {p : PS} {F : Nat → Prop} (h : Di B w d p F) : Con.tot p.con ≤ p.room ∧ p.room ≤ 268435456 ∧ (p.con.map (·.1)).Nodup := by
  obtain ⟨S, _, rfl, _, h⟩ := h; have := h.rm; rw [tot_con] at this; exact ⟨this.1, this.2, con_nodup h⟩

theorem fi_of {S : DS} {nm : ByteArray} {bs : List Nat} {su : Nat} (h : (nm, bs, su) ∈ S.ps.con) : ∃ x ∈ S.L, x.nm = nm ∧ x.bs = bs ∧ x.su = su := by
  obtain ⟨x, hx, e⟩ := List.mem_map.1 h
  simp [Fi.con] at e
  exact ⟨x, hx, e.1, e.2.1, e.2.2⟩

theorem di_read {B : Nat} {d : Nat} {p : PS} {F : Nat → Prop} (w : World) (h : Di B w d p F) (hoff : p.off = false) (nm : ByteArray) (hs : okN nm) (bs : List Nat) (su : Nat) (hc : (nm, bs, su) ∈ p.con) :
    Calls Tryz.prog 27 #[.pointer (some ⟨d, 0, none⟩), .string nm] w fun e w' => ∃ v2, e = .returned (.tuple #[v2, .int .i64 0]) ∧ (Di B w' d p F ∧ Fr w F w' F) ∧ w'.ownsRow w.heap.size 5 1 v2 bs.length (bytesV bs) ∧ (∀ k, v2.ownBlock = some k → ¬ F k) ∧ ∀ n ∈ bs, n < 256 := by
  obtain ⟨S, rfl, rfl, rfl, h⟩ := h
  obtain ⟨x, hx, rfl, rfl, rfl⟩ := fi_of hc
  refine (read_any w h hoff x hx hs).mono ?_
  rintro e w' ⟨v2, rfl, ⟨e1, e2⟩, e3, e4⟩
  exact ⟨v2, rfl, ⟨⟨S, rfl, rfl, rfl, e1⟩, e2⟩, e3, e4, h.by_ x hx⟩

theorem di_new (w : World) (B : Nat) (hB : B ≤ w.heap.size) (room : Nat) (h1 : 1 ≤ room) (h2 : room ≤ 268435456) :
    Calls Tryz.prog 6 #[.int .i64 (room : Int)] w fun e w' => ∃ d F, e = .returned (.tuple #[.pointer (some ⟨d, 0, none⟩), .int .i64 0]) ∧ Di B w' d { con := [], room := room, off := false, ain := 0, keep := 0, lose := 0, wr := 0 } F ∧ Below w.heap.size w w' ∧ ∀ k, F k → w.heap.size ≤ k := by
  refine (new_ok w B hB room h1 h2).mono ?_
  rintro e w' ⟨S, rfl, e1, e2, e3, e4⟩
  exact ⟨S.d, Fp S, rfl, ⟨S, rfl, e2, rfl, e1⟩, e3, e4⟩

section
variable {B : Nat} {d : Nat} {p : PS} {F : Nat → Prop}
theorem di_appendW (w : World) (h : Di B w d p F) (hoff : p.off = false) (hA : p.arms) (hwr : p.wr ≤ 1000000000) (nm : ByteArray) (hs : okN nm) (hc : p.con.has nm ∨ ((∀ y ∈ p.con, y.1 ≠ nm) ∧ p.con.length < 256)) (q : Option Addr) (n cb : Nat) (bs : List Nat) (hnb : n = bs.length) (hnc : n ≤ cb) (hp : q = none → cb = 0) (hb : IsBy w (.slice q n cb) bs) (hfb : ∀ k, (Value.slice q n cb).ownBlock = some k → ¬ F k) (hbb : ∀ n ∈ bs, n < 256) (hr : Con.tot p.con + bs.length ≤ p.room) :
    Calls Tryz.prog 24 #[.pointer (some ⟨d, 0, none⟩), .string nm, .slice q n cb] w fun e w' => e = .returned (.int .i64 p.code) ∧ ∃ F', Di B w' d (p.wrote (appF nm bs)) F' ∧ Fr w F w' F' := by
  obtain ⟨S, rfl, rfl, rfl, h⟩ := h
  have hc' : (∃ x ∈ S.L, x.nm = nm) ∨ ((∀ x ∈ S.L, x.nm ≠ nm) ∧ S.L.length < 256) := by
    rcases hc with ⟨y, hy, e⟩ | ⟨h1, h2⟩
    · obtain ⟨x, hx, rfl⟩ := List.mem_map.1 hy
      exact .inl ⟨x, hx, e⟩
    · exact .inr ⟨fun x hx => h1 _ (con_mem hx), by simpa [DS.ps] using h2⟩
  refine (append_any w h hoff hA hwr nm hs hc' q n cb bs hnb hnc hp hb hfb hbb (by rw [tot_con]; exact hr)).mono ?_
  rintro e w' ⟨rfl, S', e1, e2, e3, e4⟩
  exact ⟨rfl, Fp S', ⟨S', e1, e2, rfl, e3⟩, e4⟩

theorem di_syncW (w : World) (h : Di B w d p F) (hoff : p.off = false) (hA : p.arms) (hwr : p.wr ≤ 1000000000) (nm : ByteArray) (hs : okN nm) (hc : p.con.has nm) :
    Calls Tryz.prog 25 #[.pointer (some ⟨d, 0, none⟩), .string nm] w fun e w' => e = .returned (.int .i64 p.code) ∧ ∃ F', Di B w' d (p.wrote (syncF nm)) F' ∧ Fr w F w' F' := by
  obtain ⟨S, rfl, rfl, rfl, h⟩ := h
  obtain ⟨y, hy, rfl⟩ := hc
  obtain ⟨x, hx, rfl⟩ := List.mem_map.1 hy
  refine (syncW_any w h hoff hA hwr x hx hs).mono ?_
  rintro e w' ⟨rfl, S', e1, e2, e3, e4⟩
  exact ⟨rfl, Fp S', ⟨S', e1, e2, rfl, e3⟩, e4⟩

theorem di_cutW (w : World) (h : Di B w d p F) (hoff : p.off = false) (hA : p.arms) (hwr : p.wr ≤ 1000000000) (nm : ByteArray) (hs : okN nm) (bs : List Nat) (su : Nat) (hc : (nm, bs, su) ∈ p.con) (n : Nat) (hn : n ≤ bs.length) :
    Calls Tryz.prog 33 #[.pointer (some ⟨d, 0, none⟩), .string nm, .int .i64 (n : Int)] w fun e w' => e = .returned (.int .i64 p.code) ∧ ∃ F', Di B w' d (p.wrote (cutF nm n)) F' ∧ Fr w F w' F' := by
  obtain ⟨S, rfl, rfl, rfl, h⟩ := h
  obtain ⟨x, hx, rfl, rfl, rfl⟩ := fi_of hc
  refine (cutW_any w h hoff hA hwr x hx hs n hn).mono ?_
  rintro e w' ⟨rfl, S', e1, e2, e3, e4⟩
  exact ⟨rfl, Fp S', ⟨S', e1, e2, rfl, e3⟩, e4⟩

theorem di_arm (w : World) (h : Di B w d p F) (n x y : Int) : Calls Tryz.prog 20 #[.pointer (some ⟨d, 0, none⟩), .int .i64 n, .int .i64 x, .int .i64 y] w fun e w' => e = .returned (.tuple #[]) ∧ Di B w' d { p with ain := n.toNat, keep := x, lose := y } F ∧ Fr w F w' F := by
  obtain ⟨S, rfl, rfl, rfl, h⟩ := h
  refine (arm_any w h n x y).mono ?_
  rintro e w' ⟨rfl, e1, e2⟩
  exact ⟨rfl, ⟨{ S with ain := n.toNat, keep := x, lose := y }, rfl, rfl, rfl, e1⟩, e2⟩

theorem di_off (w : World) (h : Di B w d p F) : Calls Tryz.prog 19 #[.pointer (some ⟨d, 0, none⟩)] w fun e w' => e = .returned (.bool p.off) ∧ Di B w' d p F ∧ Fr w F w' F := by
  obtain ⟨S, rfl, rfl, rfl, h⟩ := h
  refine (off_any w h).mono ?_
  rintro e w' ⟨rfl, e1, e2⟩
  exact ⟨rfl, ⟨S, rfl, rfl, rfl, e1⟩, e2⟩

/-- What On leaves. -/
def PS.onned (p : PS) : PS := if p.off = true then { p with con := Con.each p.con sureF, off := false } else p

theorem di_on (w : World) (h : Di B w d p F) : Calls Tryz.prog 26 #[.pointer (some ⟨d, 0, none⟩)] w fun e w' => e = .returned (.tuple #[]) ∧ ∃ F', Di B w' d p.onned F' ∧ Fr w F w' F' := by
  obtain ⟨S, rfl, rfl, rfl, h⟩ := h
  by_cases ho : S.off = true
  · rw [show S.ps.onned = { S.ps with con := Con.each S.ps.con sureF, off := false } from if_pos ho]
    refine (on_off w h ho).mono ?_
    rintro e w' ⟨rfl, S', e1, e2, e3, e4⟩
    exact ⟨rfl, Fp S', ⟨S', e1, e2, rfl, e3⟩, e4⟩
  · rw [show S.ps.onned = S.ps from if_neg ho]
    refine (on_on w h (by simpa using ho)).mono ?_
    rintro e w' ⟨rfl, e1, e2⟩
    exact ⟨rfl, Fp S, ⟨S, rfl, rfl, rfl, e1⟩, e2⟩
end

theorem PS.arms_wrote {p : PS} (h : p.arms) (f : Int → Con → Con) : (p.wrote f).arms := by
  unfold PS.wrote
  split
  · exact ⟨Nat.zero_le _, ⟨by dsimp only; omega, by dsimp only; omega⟩, by dsimp only; omega, by dsimp only; omega⟩
  · exact ⟨by have := h.1; show p.ain - 1 ≤ _; omega, h.2.1, h.2.2⟩
theorem PS.wrote_more {p : PS} (h : p.ain ≠ 1) (f : Int → Con → Con) : p.wrote f = { p with con := f 9223372036854775807 p.con, ain := p.ain - 1, wr := p.wr + 1 } := if_neg h
theorem PS.wrote_torn {p : PS} (h : p.ain = 1) (f : Int → Con → Con) : p.wrote f = { p with con := Con.each (if 0 < p.keep then f p.keep p.con else p.con) (lostF p.lose), off := true, ain := 0, keep := 0, lose := 0, wr := p.wr + 1 } := if_pos h
theorem PS.code_more {p : PS} (h : p.ain ≠ 1) : p.code = 0 := if_neg h
theorem PS.code_torn {p : PS} (h : p.ain = 1) : p.code = 104 := if_pos h

theorem di_writes {B : Nat} {d : Nat} {p : PS} {F : Nat → Prop} (w : World) (h : Di B w d p F) : Calls Tryz.prog 11 #[.pointer (some ⟨d, 0, none⟩)] w fun e w' => e = .returned (.int .i64 (p.wr : Int)) ∧ Di B w' d p F ∧ Fr w F w' F := by
  obtain ⟨S, rfl, rfl, rfl, h⟩ := h
  refine (writes_any w h).mono ?_
  rintro e w' ⟨rfl, e1, e2⟩
  exact ⟨rfl, ⟨S, rfl, rfl, rfl, e1⟩, e2⟩

end Go.Proofs.YtlandfghodfjdaaGreat

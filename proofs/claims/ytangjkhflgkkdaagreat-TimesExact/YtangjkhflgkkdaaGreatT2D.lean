/- The document's times: Unpack. -/
import Derived.Test.YtangjkhflgkkdaaGreatT1O
import Derived.Test.YtangjkhflgkkdaaGreatB1X0
import Derived.Deep.AppendLies
import Derived.Deep.CutRange
import Derived.Test.YtangjkhflgkkdaaGreatT2C
/- A row of times that is appended to. -/
namespace Go.Proofs.YtangjkhflgkkdaaGreat
open Go.RowKit
open M
set_option linter.unusedVariables false

theorem info64 : ∃ i5, Tryz.prog.info? 2 = some i5 ∧ i5.zero = some (.int .i64 0) ∧ i5.size = 1 ∧ i5.bytes = 8 := by
  have hz : (Tryz.prog.info? 2).bind (·.zero) = some (.int .i64 0) := by kernel_rfl
  have hs : (Tryz.prog.info? 2).map (·.size) = some 1 := by kernel_rfl
  have hb : (Tryz.prog.info? 2).map (·.bytes) = some 8 := by kernel_rfl
  cases hi : Tryz.prog.info? 2 with
  | none => simp [hi] at hs
  | some i5 =>
    simp only [hi, Option.bind_some, Option.map_some, Option.some.injEq] at hz hs hb
    exact ⟨i5, rfl, hz, hs, hb⟩

/-- Times as values. -/
def timesV (i : Nat) (f : Nat → Int) : List Value := (List.range i).map fun j => .int .i64 (f j)

theorem timesV_succ (i : Nat) (f : Nat → Int) : timesV (i + 1) f = timesV i f ++ [.int .i64 (f i)] := by simp [timesV, List.range_succ]

/-- The slice v is a row of one's own, from block B on, of i times. -/
def TSt (B : Nat) (w0 : World) (f : Nat → Int) (i : Nat) (v : Value) (wr : World) : Prop := wr.ownsRow B 2 1 v i (timesV i f) ∧ Below B w0 wr ∧ B ≤ w0.heap.size

theorem TSt.nil (w : World) (f : Nat → Int) : TSt w.heap.size w f 0 (.slice none 0 0) w := ⟨⟨by simp [timesV], .inl ⟨rfl, rfl⟩⟩, Below.refl _ _, Nat.le_refl _⟩

theorem TSt.next {B : Nat} {w0 wr w4 : World} {f : Nat → Int} {i g cap : Nat} {v : Value} {t : Int} (h : TSt B w0 f i v wr) (ht : t = f i)
    (ho : w4.ownsRow B 2 1 (.slice (some ⟨g, 0, none⟩) (i + 1) cap) (i + 1) (timesV i f ++ [.int .i64 t]))
    (hg : (wr.alloc (.cells #[.int .i64 t] 2)).grownBy w4 v.ownBlock) : TSt B w0 f (i + 1) (.slice (some ⟨g, 0, none⟩) (i + 1) cap) w4 := by
  subst ht
  have hs := h.2.1.size
  have h3 := h.2.2
  exact ⟨by rw [timesV_succ]; exact ho, (h.2.1.alloc (Nat.le_trans h3 hs) _).trans (grown_below hg (fun g hg => (h.1.lt g hg).1) (by simp; omega)), h3⟩

theorem TSt.row {B : Nat} {w0 wr : World} {f : Nat → Int} {i : Nat} {v : Value} (h : TSt B w0 f i v wr) : ∃ ad cap, v = .slice ad i cap ∧ i ≤ cap ∧ TRow wr ad i f := by
  rcases h.1.2 with ⟨h1, h2⟩ | ⟨g, cap2, cur, h1, hb, hg, hc2, hm2, hs, ht⟩
  · exact ⟨none, 0, by rw [h1, h2], by omega, by rw [h2]; exact TRow.nil _ _ _⟩
  · refine ⟨_, cap2, h1, hc2, fun _ => ⟨g, 0, rfl, fun j hj => ?_⟩⟩
    have e : (timesV i f)[j]? = some (.int .i64 (f j)) := by simp [timesV, hj]
    rw [Nat.zero_add, cell_of_row wr g j cur _ (0, 0) hg, ← e, ← ht, List.getElem?_take, if_pos (by omega)]
    simp

theorem TSt.congr {B : Nat} {w0 wr : World} {f f' : Nat → Int} {i : Nat} {v : Value} (h : TSt B w0 f i v wr) (e : ∀ j, j < i → f j = f' j) : TSt B w0 f' i v wr := by
  have : timesV i f = timesV i f' := by
    unfold timesV
    apply List.map_congr_left
    intro j hj
    rw [e j (List.mem_range.1 hj)]
  exact ⟨by rw [← this]; exact h.1, h.2⟩

end Go.Proofs.YtangjkhflgkkdaaGreat

namespace Go.Proofs.YtangjkhflgkkdaaGreat
open Go.RowKit
open M
set_option linter.unusedVariables false

theorem rback_any (u : Nat) (w : World) (hu : u < 18446744073709551616) : Calls Tryz.prog 45 #[.int .u64 u] w fun e w' => e = .returned (.int .i64 (zag u)) ∧ w' = w := by
  obtain ⟨q, hq⟩ : ∃ q : Nat, q = u / 2 := ⟨_, rfl⟩
  have q1 : (u : Int) / 2 = (q : Int) := by omega
  have q2 : wrap64 (q : Int) = (q : Int) := by unfold wrap64; omega
  have hq2 : q < 9223372036854775808 := by omega
  by_cases h1 : u % 2 = 1
  · have h2 : ((u : Int) % 2 == 1) = true := by rw [beq_iff_eq]; omega
    have HZ : Hid (zag u = -1 - (q : Int)) := by show _ = _; unfold zag; rw [if_pos h1, hq]
    clear hq h1
    go_enter Tryz.func45, Tryz.ntmps45
    go_wp2_with fail
    go_ret
    exact ⟨by rw [HZ.out]; rfl, rfl⟩
  · have h2 : ((u : Int) % 2 == 1) = false := by rw [beq_eq_false_iff_ne]; omega
    have HZ : Hid (zag u = (q : Int)) := by show _ = _; unfold zag; rw [if_neg h1, hq]
    clear hq h1
    go_enter Tryz.func45, Tryz.ntmps45
    go_wp2_with fail
    go_ret
    exact ⟨by rw [HZ.out]; rfl, rfl⟩

/-- What stands behind i times. -/
structure RTn (w W0 wr : World) (bs : List Nat) (n i : Nat) (f : Nat → Int) (v : Value) (l1 : List Bool) (e1 : Int) : Prop where
  own : TSt W0.heap.size wr f i v wr
  rd : Rr wr w.heap.size W0.heap.size l1 e1
  bel : Below w.heap.size w wr
  rng : ∀ j, j < i → I64 (f j)
  ris : Rises f i
  sound : e1 = 0 → rbits bs = tbn f i ++ l1
  full : ∀ h, Packs bs h n → e1 = 0 ∧ ∀ j, j < i → f j = h j

theorem RTn.start {w W0 : World} {bs : List Nat} {n : Nat} (h : Rr W0 w.heap.size W0.heap.size (rbits bs) 0) (hb : Below w.heap.size w W0) : RTn w W0 W0 bs n 0 (fun _ => 0) (.slice none 0 0) (rbits bs) 0 :=
  ⟨TSt.nil _ _, h, hb, fun j hj => by omega, fun i hi => by omega, fun _ => by simp [tbn], fun h _ => ⟨rfl, fun j hj => by omega⟩⟩

theorem TSt.at {B : Nat} {w0 wr : World} {f : Nat → Int} {i : Nat} {v : Value} (h : TSt B w0 f i v wr) (hs : B ≤ wr.heap.size) : TSt B wr f i v wr := ⟨h.1, Below.refl _ _, hs⟩

/-- The row stays where only the Reader turns. -/
theorem TSt.only {B b : Nat} {w wr : World} {f : Nat → Int} {i : Nat} {v : Value} (h : TSt B w f i v w) (ho : Only b 0 2 w wr) (hb : b < B) : TSt B wr f i v wr :=
  ⟨ownsRow_keep h.1 (fun g hg => ho.block g (h.1.lt g hg).2 (by have := (h.1.lt g hg).1; omega)), Below.refl _ _, Nat.le_trans h.2.2 ho.size⟩

theorem Rr.behind {w w' : World} {b hi : Nat} {l : List Bool} {e : Int} (h : Rr w b hi l e) (hB : Below hi w w') (hs : hi ≤ w.heap.size) : Rr w' b hi l e := h.keep fun k h1 h2 => hB.block k h2

/-- What the bits of the next time are. -/
theorem RTn.bits {w W0 wr : World} {bs : List Nat} {n k : Nat} {f : Nat → Int} {v : Value} {l1 : List Bool} {e1 : Int} (T : RTn w W0 wr bs n (k + 1) f v l1 e1) (hk : k + 1 < n) {h : Nat → Int} (hP : Packs bs h n) : ∃ r, l1 = zb (zg h k) ++ r := by
  obtain ⟨h1, h2⟩ := T.full h hP
  obtain ⟨_, r, hr⟩ := begins_of hP
  obtain ⟨r1, h3⟩ := tbn_prefix h (k + 2) n (by omega)
  have h4 := T.sound h1
  rw [hr, h3, tbn_step, List.append_assoc, List.append_assoc, tbn_congr _ _ _ h2] at h4
  exact ⟨_, (List.append_cancel_left h4).symm⟩

/-- The first time. -/
theorem RTn.first {w W0 w1 w2 w4 : World} {bs : List Nat} {n x : Nat} {l' : List Bool} {e1 : Int} {g cap : Nat} {f : Nat → Int} {v : Value} {y : Int} (hy : y = wrap64 (x : Int)) (hn : 0 < n) (T : RTn w W0 w1 bs n 0 f v (rbits bs) 0) (hR : Rr w2 w.heap.size W0.heap.size l' e1) (hO : Only w.heap.size 0 2 w1 w2)
    (hx : x < 18446744073709551616) (hs : e1 = 0 → rbits bs = bitsOf x 64 ++ l') (hf : 64 ≤ (rbits bs).length → e1 = 0)
    (hN : TSt W0.heap.size w2 (fun _ => y) 1 (.slice (some ⟨g, 0, none⟩) 1 cap) w4) : RTn w W0 w4 bs n 1 (fun _ => y) (.slice (some ⟨g, 0, none⟩) 1 cap) l' e1 := by
  have hu : u64 y = x := by rw [hy]; unfold u64 wrap64; omega
  have hyr : I64 y := by rw [hy]; unfold I64 wrap64; omega
  have hS : e1 = 0 → rbits bs = tbn (fun _ => y) 1 ++ l' := fun h => by rw [hs h, tbn_one, hu]
  have hb2 := T.bel.trans (hO.below (Nat.le_refl _) T.bel.size)
  refine ⟨hN.at (Nat.le_trans hN.2.2 hN.2.1.size), hR.behind hN.2.1 hN.2.2, hb2.trans (hN.2.1.mono (by have := hR.lt; omega)), fun j hj => ?_, fun i hi => by omega, hS, fun h hP => ?_⟩
  · exact hyr
  · obtain ⟨hr, r, hB⟩ := begins_of hP
    obtain ⟨r1, h1⟩ := tbn_prefix h 1 n hn
    rw [h1, tbn_one, List.append_assoc] at hB
    have he : e1 = 0 := hf (by rw [hB]; simp)
    refine ⟨he, fun j hj => ?_⟩
    obtain rfl : j = 0 := by omega
    have h2 := hs he
    rw [hB] at h2
    exact (u64_inj _ _ (hr 0 hn) hyr (by rw [hu]; exact (bits_inj _ _ 64 _ _ (u64_lt _) hx h2).1)).symm

/-- One time more. -/
theorem RTn.next {w W0 wr w2 w4 : World} {bs : List Nat} {n k u D : Nat} {t : Int} {l1 l' : List Bool} {e1 e2 : Int} {g cap : Nat} {f : Nat → Int} {v : Value} (hk : k + 1 < n) (T : RTn w W0 wr bs n (k + 1) f v l1 e1) (hR : Rr w2 w.heap.size W0.heap.size l' e2) (hO : Only w.heap.size 0 2 wr w2)
    (hu : u < 18446744073709551616) (hs : e1 = 0 ∧ e2 = 0 ∧ l1 = zb u ++ l')
    (hD : (D : Int) = ((ahd f k : Nat) + zag u) % 18446744073709551616) (ht : t = (f k + (D : Int) + 9223372036854775808) % 18446744073709551616 - 9223372036854775808) (hup : f k < t)
    (hN : TSt W0.heap.size w2 (fun i => if i = k + 1 then t else f i) (k + 2) (.slice (some ⟨g, 0, none⟩) (k + 2) cap) w4) :
    RTn w W0 w4 bs n (k + 2) (fun i => if i = k + 1 then t else f i) (.slice (some ⟨g, 0, none⟩) (k + 2) cap) l' e2 ∧ ahd (fun i => if i = k + 1 then t else f i) (k + 1) = D := by
  obtain ⟨t1, t2, t3, t4⟩ := M.take_next (f k) (ahd f k) u (T.rng k (by omega)) (zag u) (zig_zag u) (zag_range u hu) D hD t ht
  obtain ⟨F, hF⟩ : ∃ F : Nat → Int, F = fun i => if i = k + 1 then t else f i := ⟨_, rfl⟩
  have F1 : F (k + 1) = t := by rw [hF]; simp
  have F2 : ∀ i, i ≤ k → F i = f i := fun i hi => by rw [hF]; simp; omega
  have ea : ahd F k = ahd f k := by
    cases k with
    | zero => rfl
    | succ k => simp only [ahd]; rw [F2 (k + 1) (by omega), F2 k (by omega)]
  have ez : zg F k = u := by unfold zg; rw [F1, F2 k (by omega), ea]; exact t4
  have ed : ahd F (k + 1) = D := by simp only [ahd]; rw [F1, F2 k (by omega)]; exact t2
  have eb : tbn F (k + 1) = tbn f (k + 1) := tbn_congr _ _ _ fun i hi => F2 i (by omega)
  have hb2 := T.bel.trans (hO.below (Nat.le_refl _) T.bel.size)
  rw [← hF] at hN ⊢
  refine ⟨⟨hN.at (Nat.le_trans hN.2.2 hN.2.1.size), hR.behind hN.2.1 hN.2.2, hb2.trans (hN.2.1.mono (by have := hR.lt; omega)), fun j hj => ?_, fun i hi => ?_, fun _ => ?_, fun h hP => ?_⟩, ed⟩
  · by_cases e : j = k + 1
    · subst e; rw [F1]; exact t1
    · rw [F2 j (by omega)]; exact T.rng j (by omega)
  · by_cases e : i = k
    · subst e; rw [F1, F2 i (by omega)]; exact hup
    · rw [F2 i (by omega), F2 (i + 1) (by omega)]; exact T.ris i (by omega)
  · rw [T.sound hs.1, hs.2.2, tbn_step, ez, eb, List.append_assoc]
  · obtain ⟨h1, h2⟩ := T.full h hP
    obtain ⟨r, hr⟩ := T.bits hk hP
    refine ⟨hs.2.1, fun j hj => ?_⟩
    by_cases e : j = k + 1
    · subst e
      have := (zb_inj _ _ _ _ hu (zg_lt h k) (by rw [← hs.2.2, hr])).1
      exact zg_inj F h k (by rw [F1]; exact t1) (hP.1 _ (by omega)) (fun j hj => by rw [F2 j hj]; exact h2 j (by omega)) (by rw [ez]; exact this)
    · rw [F2 j (by omega)]; exact h2 j (by omega)

/-- A time that isn't above the one ahead: there are no such times. -/
theorem RTn.down {w W0 wr : World} {bs : List Nat} {n k u D : Nat} {t : Int} {l1 l' : List Bool} {e1 : Int} {f : Nat → Int} {v : Value} (hk : k + 1 < n) (T : RTn w W0 wr bs n (k + 1) f v l1 e1) (hu : u < 18446744073709551616) (hs : l1 = zb u ++ l')
    (hD : (D : Int) = ((ahd f k : Nat) + zag u) % 18446744073709551616) (ht : t = (f k + (D : Int) + 9223372036854775808) % 18446744073709551616 - 9223372036854775808) (hup : t ≤ f k) : ¬ ∃ h, Packs bs h n := by
  rintro ⟨h, hP⟩
  obtain ⟨t1, t2, t3, t4⟩ := M.take_next (f k) (ahd f k) u (T.rng k (by omega)) (zag u) (zig_zag u) (zag_range u hu) D hD t ht
  obtain ⟨F, hF⟩ : ∃ F : Nat → Int, F = fun i => if i = k + 1 then t else f i := ⟨_, rfl⟩
  have F1 : F (k + 1) = t := by rw [hF]; simp
  have F2 : ∀ i, i ≤ k → F i = f i := fun i hi => by rw [hF]; simp; omega
  have ea : ahd F k = ahd f k := by
    cases k with
    | zero => rfl
    | succ k => simp only [ahd]; rw [F2 (k + 1) (by omega), F2 k (by omega)]
  have ez : zg F k = u := by unfold zg; rw [F1, F2 k (by omega), ea]; exact t4
  obtain ⟨h1, h2⟩ := T.full h hP
  obtain ⟨r, hr⟩ := T.bits hk hP
  have := (zb_inj _ _ _ _ hu (zg_lt h k) (by rw [← hs, hr])).1
  have h3 := zg_inj F h k (by rw [F1]; exact t1) (hP.1 _ (by omega)) (fun j hj => by rw [F2 j hj]; exact h2 j (by omega)) (by rw [ez]; exact this)
  have h4 := hP.2.1 k hk
  have h5 := h2 k (by omega)
  rw [F1] at h3
  omega

end Go.Proofs.YtangjkhflgkkdaaGreat

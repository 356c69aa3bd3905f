/- The law's take: the program's Reader and the document's side by side tell the same, whatever is asked. -/
import Derived.Test.YtpiiagjfimdflaaRe
import Derived.Test.YtpiiagjfimdflaaT
namespace Go.Proofs.Ytpiiagjfimdflaa
open Go.RowKit
open M
set_option linter.unusedVariables false

theorem ones_exists (l : List Bool) : ∃ k, OnesAt l k := by
  have key : ∀ f, f ≤ 65 → (∃ k, OnesAt l k) ∨ (f ≤ l.length ∧ ∀ j, j < f → l[j]? = some true) := by
    intro f
    induction f with
    | zero => intro _; exact .inr ⟨by omega, fun j hj => by omega⟩
    | succ f ih =>
      intro hf
      rcases ih (by omega) with h | ⟨h1, h2⟩
      · exact .inl h
      · cases hb : l[f]? with
        | none =>
          have : l.length ≤ f := by simpa using hb
          exact .inl ⟨f, by omega, h1, h2, .inr (.inl (by omega))⟩
        | some v =>
          have hlt : f < l.length := by
            rcases Nat.lt_or_ge f l.length with h | h
            · exact h
            · rw [List.getElem?_eq_none h] at hb; simp at hb
          cases v with
          | false => exact .inl ⟨f, by omega, h1, h2, .inr (.inr hb)⟩
          | true =>
            refine .inr ⟨by omega, fun j hj => ?_⟩
            by_cases hjf : j < f
            · exact h2 j hjf
            · rw [show j = f from by omega]; exact hb
  rcases key 65 (Nat.le_refl _) with h | ⟨h1, h2⟩
  · exact h
  · exact ⟨65, Nat.le_refl _, h1, h2, .inl rfl⟩

theorem ones_le {l : List Bool} {k k' : Nat} (h : OnesAt l k) (h' : OnesAt l k') : k' ≤ k := by
  rcases Nat.lt_or_ge k k' with hlt | hge
  · obtain ⟨a1, a2, a3, a4⟩ := h
    obtain ⟨b1, b2, b3, b4⟩ := h'
    have ht := b3 k hlt
    rcases a4 with a4 | a4 | a4
    · omega
    · omega
    · rw [a4] at ht; simp at ht
  · exact hge

theorem ones_unique {l : List Bool} {k k' : Nat} (h : OnesAt l k) (h' : OnesAt l k') : k = k' := Nat.le_antisymm (ones_le h' h) (ones_le h h')

/-- Two calls tell the same, and go on alike. -/
structure Both (R V hi : Nat) (s : ByteArray) (a : Nat) (e : Int) (f g : Nat) (A B : Array Value) (v : Value) (a' : Nat) (e' : Int) : Prop where
  prog : ∀ w, Rd w R 0 s a e → Calls Try.prog f A w fun q w' => q = .returned v ∧ Rd w' R 0 s a' e' ∧ Only R 0 3 w w'
  doc : ∀ w, Rr w V hi ((rb s).drop a) e → Calls Try.prog g B w fun q w' => q = .returned v ∧ Rr w' V hi ((rb s).drop a') e' ∧ Only V 0 2 w w'

theorem rb_len (s : ByteArray) (a : Nat) : ((rb s).drop a).length = 8 * s.size - a := by simp [rb]

theorem both_bits (R V hi : Nat) (s : ByteArray) (a : Nat) (e m : Int) (ha : a ≤ 8 * s.size) :
    ∃ (x a' : Nat) (e' : Int), Both R V hi s a e 33 54 #[.pointer (some ⟨R, 0, none⟩), .int .i64 m] #[.pointer (some ⟨V, 0, none⟩), .int .i64 m] (.int .u64 (x : Int)) a' e' := by
  by_cases hm : 0 ≤ m ∧ m ≤ 64
  · obtain ⟨M, rfl⟩ : ∃ M : Nat, m = (M : Int) := ⟨m.toNat, by omega⟩
    by_cases he : e = 0
    · subst he
      by_cases hl : a + M ≤ 8 * s.size
      · refine ⟨num (((rb s).drop a).take M), a + M, 0, fun w h => rbits_ok R 0 s a M w h (by omega) hl, fun w h => ?_⟩
        have := vbits_ok V hi ((rb s).drop a) M w h (by omega) (by rw [rb_len]; omega)
        rwa [List.drop_drop] at this
      · exact ⟨0, a, 12, fun w h => rbits_short R 0 s a M w h (by omega) (by omega), fun w h => vbits_short V hi _ M w h (by omega) (by rw [rb_len]; omega)⟩
    · have hb : (e == 0) = false := by rw [beq_eq_false_iff_ne]; exact he
      exact ⟨0, a, e, fun w h => rbits_bad R 0 s a M e w h hb (by omega) (by omega), fun w h => vbits_bad V hi _ M e w h hb⟩
  · have hm' : m < 0 ∨ 64 < m := by omega
    by_cases he : e = 0
    · subst he
      exact ⟨0, a, 10, fun w h => rbits_wide R 0 s a m w h hm', fun w h => vbits_wide V hi _ m w h hm'⟩
    · have hb : (e == 0) = false := by rw [beq_eq_false_iff_ne]; exact he
      exact ⟨0, a, e, fun w h => rbits_bad_wide R 0 s a m e w h hb hm', fun w h => vbits_bad V hi _ m e w h hb⟩

theorem both_bit (R V hi : Nat) (s : ByteArray) (a : Nat) (e : Int) (ha : a ≤ 8 * s.size) :
    ∃ (v : Bool) (a' : Nat) (e' : Int), Both R V hi s a e 31 53 #[.pointer (some ⟨R, 0, none⟩)] #[.pointer (some ⟨V, 0, none⟩)] (.bool v) a' e' := by
  obtain ⟨x, a', e', h1, h2⟩ := both_bits R V hi s a e 1 ha
  exact ⟨x == 1, a', e', fun w h => rbit_of R 0 w x _ (h1 w h), fun w h => vbit_of V w x _ (h2 w h)⟩

theorem both_unary (R V hi : Nat) (s : ByteArray) (a : Nat) (e : Int) (ha : a ≤ 8 * s.size) :
    ∃ (x a' : Nat) (e' : Int), Both R V hi s a e 35 55 #[.pointer (some ⟨R, 0, none⟩)] #[.pointer (some ⟨V, 0, none⟩)] (.int .i64 (x : Int)) a' e' := by
  obtain ⟨K, hK⟩ := ones_exists ((rb s).drop a)
  by_cases he : e = 0
  · subst he
    by_cases h65 : K = 65
    · refine ⟨0, a, 11, fun w h => (runary_any R 0 s a w h).mono ?_, fun w h => (vunary_any V hi _ 0 w h).mono ?_⟩
      · rintro q w' ⟨k, hO, hW, hc⟩
        have := ones_unique hO hK
        rcases hc with ⟨_, h1, h2⟩ | ⟨_, _, h1, h2⟩ | ⟨_, _, h1, h2⟩
        · exact ⟨h1, h2, hW⟩
        · omega
        · omega
      · rintro q w' ⟨k, hO, hW, hc⟩
        have := ones_unique hO hK
        rcases hc with ⟨_, h1, h2⟩ | ⟨_, _, h1, h2⟩ | ⟨_, _, _, h1, h2⟩ | ⟨_, _, h0, _⟩
        · exact ⟨h1, h2, hW⟩
        · omega
        · omega
        · exact absurd rfl h0
    · by_cases hl : K = ((rb s).drop a).length
      · refine ⟨0, a, 12, fun w h => (runary_any R 0 s a w h).mono ?_, fun w h => (vunary_any V hi _ 0 w h).mono ?_⟩
        · rintro q w' ⟨k, hO, hW, hc⟩
          have := ones_unique hO hK
          rcases hc with ⟨_, h1, h2⟩ | ⟨_, _, h1, h2⟩ | ⟨_, _, h1, h2⟩
          · omega
          · exact ⟨h1, h2, hW⟩
          · omega
        · rintro q w' ⟨k, hO, hW, hc⟩
          have := ones_unique hO hK
          rcases hc with ⟨_, h1, h2⟩ | ⟨_, _, h1, h2⟩ | ⟨_, _, _, h1, h2⟩ | ⟨_, _, h0, _⟩
          · omega
          · exact ⟨h1, h2, hW⟩
          · omega
          · exact absurd rfl h0
      · refine ⟨K, a + K + 1, 0, fun w h => (runary_any R 0 s a w h).mono ?_, fun w h => (vunary_any V hi _ 0 w h).mono ?_⟩
        · rintro q w' ⟨k, hO, hW, hc⟩
          have e := ones_unique hO hK
          subst e
          rcases hc with ⟨_, h1, h2⟩ | ⟨_, _, h1, h2⟩ | ⟨_, _, h1, h2⟩
          · omega
          · omega
          · exact ⟨h1, h2, hW⟩
        · rintro q w' ⟨k, hO, hW, hc⟩
          have e := ones_unique hO hK
          subst e
          rcases hc with ⟨_, h1, h2⟩ | ⟨_, _, h1, h2⟩ | ⟨_, _, _, h1, h2⟩ | ⟨_, _, h0, _⟩
          · omega
          · omega
          · rw [List.drop_drop, ← Nat.add_assoc] at h2
            exact ⟨h1, h2, hW⟩
          · exact absurd rfl h0
  · have hb : (e == 0) = false := by rw [beq_eq_false_iff_ne]; exact he
    refine ⟨0, a, e, fun w h => runary_bad R 0 s a e w h hb, fun w h => (vunary_any V hi _ e w h).mono ?_⟩
    rintro q w' ⟨k, hO, hW, hc⟩
    have hf : ∀ m, first e m = e := fun m => by unfold first; rw [if_neg he]
    rcases hc with ⟨_, h1, h2⟩ | ⟨_, _, h1, h2⟩ | ⟨_, _, h0, _⟩ | ⟨_, _, _, h1, h2⟩
    · rw [hf] at h2; exact ⟨h1, h2, hW⟩
    · rw [hf] at h2; exact ⟨h1, h2, hW⟩
    · exact absurd h0 he
    · exact ⟨h1, h2, hW⟩

theorem both_var (R V hi : Nat) (s : ByteArray) (a : Nat) (e : Int) (ha : a ≤ 8 * s.size) :
    ∃ (x a' : Nat) (e' : Int), x < 18446744073709551616 ∧ Both R V hi s a e 37 56 #[.pointer (some ⟨R, 0, none⟩)] #[.pointer (some ⟨V, 0, none⟩)] (.int .u64 (x : Int)) a' e' := by
  by_cases he : e = 0
  · subst he
    rcases var_cases s a with ⟨x, en, hr, hx, hen, ht⟩ | ⟨c, hc, hr⟩
    · obtain ⟨_, hE, _⟩ := varB_form _ _ _ _ hr
      refine ⟨x, en, 0, hx, fun w h => rvar_ok R 0 s a x en w h hr (hen ha), fun w h => (vvar_any V hi _ a w h).mono ?_⟩
      rintro q w' ⟨hW, h1, h2⟩
      rw [hr] at h1 h2
      rcases h2 with ⟨_, h2⟩ | ⟨h0, _⟩
      · rw [List.drop_drop] at h2
        have h3 : Rr w' V hi (List.drop (a + (en - a)) (rb s)) 0 := h2
        rw [show a + (en - a) = en from by omega] at h3
        exact ⟨h1, h3, hW⟩
      · exact absurd rfl h0
    · refine ⟨0, a, c, by omega, fun w h => rvar_err R 0 s a c w h hr hc, fun w h => (vvar_any V hi _ a w h).mono ?_⟩
      rintro q w' ⟨hW, h1, h2⟩
      rw [hr] at h1 h2
      rcases h2 with ⟨h0, _⟩ | ⟨_, h2⟩
      · have h0' : c = 0 := h0
        omega
      · exact ⟨h1, h2, hW⟩
  · have hb : (e == 0) = false := by rw [beq_eq_false_iff_ne]; exact he
    exact ⟨0, a, e, by omega, fun w h => rvar_bad R 0 s a e w h hb, fun w h => vvar_bad V hi _ e w h hb⟩

theorem both_zig (R V hi : Nat) (s : ByteArray) (a : Nat) (e : Int) (ha : a ≤ 8 * s.size) :
    ∃ (x : Int) (a' : Nat) (e' : Int), Both R V hi s a e 39 57 #[.pointer (some ⟨R, 0, none⟩)] #[.pointer (some ⟨V, 0, none⟩)] (.int .i64 x) a' e' := by
  obtain ⟨x, a', e', hx, h1, h2⟩ := both_var R V hi s a e ha
  exact ⟨zag x, a', e', fun w h => rzig_of R 0 w x hx _ (h1 w h), fun w h => vzig_of V w x hx _ (h2 w h)⟩

/-- Of what was there only the blocks R and V may have turned. -/
structure Two (R V : Nat) (w w' : World) : Prop where
  os : w'.os = w.os
  tape : w'.tape = w.tape
  output : w'.output = w.output
  size : w.heap.size ≤ w'.heap.size
  block : ∀ k, k < w.heap.size → k ≠ R → k ≠ V → w'.heap[k]? = w.heap[k]?

theorem Two.trans {R V : Nat} {u v w : World} (h : Two R V u v) (k : Two R V v w) : Two R V u w :=
  ⟨k.os.trans h.os, k.tape.trans h.tape, k.output.trans h.output, Nat.le_trans h.size k.size, fun i hi a b => (k.block i (Nat.lt_of_lt_of_le hi h.size) a b).trans (h.block i hi a b)⟩
theorem Two.first {R V lo hi : Nat} {w w' : World} (h : Only R lo hi w w') : Two R V w w' := ⟨h.os, h.tape, h.output, h.size, fun k hk a _ => h.block k hk a⟩
theorem Two.second {R V lo hi : Nat} {w w' : World} (h : Only V lo hi w w') : Two R V w w' := ⟨h.os, h.tape, h.output, h.size, fun k hk _ b => h.block k hk b⟩
theorem Two.old {R V : Nat} {w w' : World} (h : Below w.heap.size w w') : Two R V w w' := ⟨h.os, h.tape, h.output, h.size, fun k hk _ _ => h.block k hk⟩

theorem Two.below {R V : Nat} {w w' : World} (h : Two R V w w') {B : Nat} (hR : B ≤ R) (hV : B ≤ V) (hs : B ≤ w.heap.size) : Below B w w' :=
  ⟨h.os, h.tape, h.output, h.size, fun k hk => h.block k (by omega) (by omega) (by omega)⟩

/-- The program's Reader in block R, the document's in block V: as far, with the same refusal. -/
structure Pair (w : World) (R V hi : Nat) (s : ByteArray) (a : Nat) (e : Int) : Prop where
  rd : Rd w R 0 s a e
  rr : Rr w V hi ((rb s).drop a) e
  lt : R < V
  hi : hi ≤ w.heap.size

theorem Pair.keep {w w' : World} {R V hi : Nat} {s : ByteArray} {a : Nat} {e : Int} (h : Pair w R V hi s a e) (hs : w.heap.size ≤ w'.heap.size) (hk : ∀ k, R ≤ k → k < hi → w'.heap[k]? = w.heap[k]?) : Pair w' R V hi s a e := by
  have hlt := h.rr.lt
  have hb := hk R (Nat.le_refl _) (by have := h.lt; omega)
  refine ⟨⟨?_, ?_, ?_, fun j hj => ?_, h.rd.size, h.rd.le⟩, h.rr.keep (fun k h1 h2 => hk k (by have := h.lt; omega) h2), h.lt, Nat.le_trans h.hi hs⟩
  · rw [World.cell?_of_block (w := w) hb]; exact h.rd.text
  · rw [World.cell?_of_block (w := w) hb]; exact h.rd.at_
  · rw [World.cell?_of_block (w := w) hb]; exact h.rd.err
  · rw [World.frozen?_of_block (w := w) (w' := w') (a := ⟨R, 0 + j, none⟩) hb]; exact h.rd.fz j hj

theorem Pair.below {w w' : World} {R V hi : Nat} {s : ByteArray} {a : Nat} {e : Int} (h : Pair w R V hi s a e) (hB : Below w.heap.size w w') : Pair w' R V hi s a e :=
  h.keep hB.size (fun k _ h2 => hB.block k (by have := h.hi; omega))

/-- Behind the first of two calls, and behind both. -/
theorem Pair.half {w w1 : World} {R V hi : Nat} {s : ByteArray} {a : Nat} {e : Int} (h : Pair w R V hi s a e) (hO : Only R 0 3 w w1) : Rr w1 V hi ((rb s).drop a) e :=
  h.rr.keep (fun k h1 h2 => hO.block k (by have := h.hi; omega) (by have := h.lt; omega))

theorem Pair.full {w w1 w2 : World} {R V hi : Nat} {s : ByteArray} {a a' : Nat} {e e' : Int} (h : Pair w R V hi s a e) (hR : Rd w1 R 0 s a' e') (hO : Only R 0 3 w w1) (hV : Rr w2 V hi ((rb s).drop a') e') (hO2 : Only V 0 2 w1 w2) : Pair w2 R V hi s a' e' :=
  ⟨hR.other hO2 (by have := h.lt; omega), hV, h.lt, Nat.le_trans h.hi (Nat.le_trans hO.size hO2.size)⟩

set_option maxRecDepth 100000 in
theorem take1 {R V hi : Nat} {s : ByteArray} {a a' : Nat} {e e' : Int} {v : Bool} (n m : Int) (x : Nat)
    (hB : Both R V hi s a e 31 53 #[.pointer (some ⟨R, 0, none⟩)] #[.pointer (some ⟨V, 0, none⟩)] (.bool v) a' e')
    (w : World) (hP : Pair w R V hi s a e) :
    Calls Try.prog 20 #[.pointer (some ⟨R, 0, none⟩), .pointer (some ⟨V, 0, none⟩), .agg #[.int .i64 1, .int .i64 n, .int .u64 x, .int .i64 m]] w fun q w' => q = .returned (.bool true) ∧ Pair w' R V hi s a' e' ∧ Two R V w w' := by
  have B0 : Below w.heap.size w (w.alloc (.cells #[.int .i64 1, .int .i64 n, .int .u64 x, .int .i64 m] 65)) := (Below.refl _ _).alloc (Nat.le_refl _) _
  have P0 := hP.below B0
  have HT : Hid (Two R V w (w.alloc (.cells #[.int .i64 1, .int .i64 n, .int .u64 x, .int .i64 m] 65))) := Two.old B0
  clear B0 hP
  go_enter Try.func20, Try.ntmps20
  go_wp2_with fail
  generalize w.alloc (.cells #[.int .i64 1, .int .i64 n, .int .u64 x, .int .i64 m] 65) = w0 at *
  refine (hB.prog w0 P0.rd).mono ?_
  rintro _ w1 ⟨rfl, R1, O1⟩
  have V1 := P0.half O1
  go_wp2_with fail
  refine (hB.doc w1 V1).mono ?_
  rintro _ w2 ⟨rfl, V2, O2⟩
  have HF : Hid (Pair w2 R V hi s a' e' ∧ Two R V w w2) := ⟨P0.full R1 O1 V2 O2, HT.out.trans ((Two.first O1).trans (Two.second O2))⟩
  clear R1 O1 V1 V2 O2 P0
  go_wp2_with fail
  go_ret
  exact ⟨by simp, HF.out⟩

set_option maxRecDepth 100000 in
theorem take2 {R V hi : Nat} {s : ByteArray} {a a' : Nat} {e e' : Int} {v : Nat} (n m : Int) (x : Nat)
    (hB : Both R V hi s a e 33 54 #[.pointer (some ⟨R, 0, none⟩), .int .i64 m] #[.pointer (some ⟨V, 0, none⟩), .int .i64 m] (.int .u64 (v : Int)) a' e')
    (w : World) (hP : Pair w R V hi s a e) :
    Calls Try.prog 20 #[.pointer (some ⟨R, 0, none⟩), .pointer (some ⟨V, 0, none⟩), .agg #[.int .i64 2, .int .i64 n, .int .u64 x, .int .i64 m]] w fun q w' => q = .returned (.bool true) ∧ Pair w' R V hi s a' e' ∧ Two R V w w' := by
  have B0 : Below w.heap.size w (w.alloc (.cells #[.int .i64 2, .int .i64 n, .int .u64 x, .int .i64 m] 65)) := (Below.refl _ _).alloc (Nat.le_refl _) _
  have P0 := hP.below B0
  have HT : Hid (Two R V w (w.alloc (.cells #[.int .i64 2, .int .i64 n, .int .u64 x, .int .i64 m] 65))) := Two.old B0
  have n3 : (w.alloc (.cells #[.int .i64 2, .int .i64 n, .int .u64 x, .int .i64 m] 65)).cell? ⟨w.heap.size, 3, none⟩ = some (.int .i64 m) := by rw [cell_of_row _ _ _ _ _ _ (heap_alloc_new _ _)]; rfl
  have hne1 : w.heap.size ≠ R := by have := hP.lt; have := hP.rr.lt; have := hP.hi; omega
  have hne2 : w.heap.size ≠ V := by have := hP.rr.lt; have := hP.hi; omega
  clear B0 hP
  go_enter Try.func20, Try.ntmps20
  go_wp2_with fail
  generalize w.alloc (.cells #[.int .i64 2, .int .i64 n, .int .u64 x, .int .i64 m] 65) = w0 at *
  have P1 : Pair w0.drew R V hi s a e := P0.below ⟨rfl, rfl, rfl, Nat.le_refl _, fun _ _ => rfl⟩
  have HT1 : Hid (Two R V w w0.drew) := ⟨HT.out.os, HT.out.tape, HT.out.output, HT.out.size, HT.out.block⟩
  go_region_held3 (fun w' => w'.cell? ⟨w.heap.size, 3, none⟩ = some (.int .i64 m)) (first | exact n3 | exact O6.keep hne2 (O5.keep hne1 n3) | exact O5.keep hne1 n3)
    (first
      | (go_at_call 33; refine (hB.prog _ P1.rd).mono ?_; rintro _ w5 ⟨rfl, R5, O5⟩)
      | (go_at_call 54; refine (hB.doc _ (P1.half O5)).mono ?_; rintro _ w6 ⟨rfl, V6, O6⟩))
  have HF : Hid (Pair w6 R V hi s a' e' ∧ Two R V w w6) := ⟨P1.full R5 O5 V6 O6, HT1.out.trans ((Two.first O5).trans (Two.second O6))⟩
  clear R5 O5 V6 O6 P0 P1
  go_wp2_with fail
  go_ret
  exact ⟨by simp, HF.out⟩

set_option maxRecDepth 100000 in
theorem take3 {R V hi : Nat} {s : ByteArray} {a a' : Nat} {e e' : Int} {v : Nat} (n m : Int) (x : Nat)
    (hB : Both R V hi s a e 35 55 #[.pointer (some ⟨R, 0, none⟩)] #[.pointer (some ⟨V, 0, none⟩)] (.int .i64 (v : Int)) a' e')
    (w : World) (hP : Pair w R V hi s a e) :
    Calls Try.prog 20 #[.pointer (some ⟨R, 0, none⟩), .pointer (some ⟨V, 0, none⟩), .agg #[.int .i64 3, .int .i64 n, .int .u64 x, .int .i64 m]] w fun q w' => q = .returned (.bool true) ∧ Pair w' R V hi s a' e' ∧ Two R V w w' := by
  have B0 : Below w.heap.size w (w.alloc (.cells #[.int .i64 3, .int .i64 n, .int .u64 x, .int .i64 m] 65)) := (Below.refl _ _).alloc (Nat.le_refl _) _
  have P0 := hP.below B0
  have HT : Hid (Two R V w (w.alloc (.cells #[.int .i64 3, .int .i64 n, .int .u64 x, .int .i64 m] 65))) := Two.old B0
  clear B0 hP
  go_enter Try.func20, Try.ntmps20
  go_wp2_with fail
  generalize w.alloc (.cells #[.int .i64 3, .int .i64 n, .int .u64 x, .int .i64 m] 65) = w0 at *
  refine (hB.prog w0 P0.rd).mono ?_
  rintro _ w1 ⟨rfl, R1, O1⟩
  have V1 := P0.half O1
  go_wp2_with fail
  refine (hB.doc w1 V1).mono ?_
  rintro _ w2 ⟨rfl, V2, O2⟩
  have HF : Hid (Pair w2 R V hi s a' e' ∧ Two R V w w2) := ⟨P0.full R1 O1 V2 O2, HT.out.trans ((Two.first O1).trans (Two.second O2))⟩
  clear R1 O1 V1 V2 O2 P0
  go_wp2_with fail
  go_ret
  exact ⟨by simp, HF.out⟩

set_option maxRecDepth 100000 in
theorem take4 {R V hi : Nat} {s : ByteArray} {a a' : Nat} {e e' : Int} {v : Nat} (n m : Int) (x : Nat)
    (hB : Both R V hi s a e 37 56 #[.pointer (some ⟨R, 0, none⟩)] #[.pointer (some ⟨V, 0, none⟩)] (.int .u64 (v : Int)) a' e')
    (w : World) (hP : Pair w R V hi s a e) :
    Calls Try.prog 20 #[.pointer (some ⟨R, 0, none⟩), .pointer (some ⟨V, 0, none⟩), .agg #[.int .i64 4, .int .i64 n, .int .u64 x, .int .i64 m]] w fun q w' => q = .returned (.bool true) ∧ Pair w' R V hi s a' e' ∧ Two R V w w' := by
  have B0 : Below w.heap.size w (w.alloc (.cells #[.int .i64 4, .int .i64 n, .int .u64 x, .int .i64 m] 65)) := (Below.refl _ _).alloc (Nat.le_refl _) _
  have P0 := hP.below B0
  have HT : Hid (Two R V w (w.alloc (.cells #[.int .i64 4, .int .i64 n, .int .u64 x, .int .i64 m] 65))) := Two.old B0
  clear B0 hP
  go_enter Try.func20, Try.ntmps20
  go_wp2_with fail
  generalize w.alloc (.cells #[.int .i64 4, .int .i64 n, .int .u64 x, .int .i64 m] 65) = w0 at *
  refine (hB.prog w0 P0.rd).mono ?_
  rintro _ w1 ⟨rfl, R1, O1⟩
  have V1 := P0.half O1
  go_wp2_with fail
  refine (hB.doc w1 V1).mono ?_
  rintro _ w2 ⟨rfl, V2, O2⟩
  have HF : Hid (Pair w2 R V hi s a' e' ∧ Two R V w w2) := ⟨P0.full R1 O1 V2 O2, HT.out.trans ((Two.first O1).trans (Two.second O2))⟩
  clear R1 O1 V1 V2 O2 P0
  go_wp2_with fail
  go_ret
  exact ⟨by simp, HF.out⟩

set_option maxRecDepth 100000 in
theorem take5 {R V hi : Nat} {s : ByteArray} {a a' : Nat} {e e' : Int} {v : Int} (n m : Int) (x : Nat)
    (hB : Both R V hi s a e 39 57 #[.pointer (some ⟨R, 0, none⟩)] #[.pointer (some ⟨V, 0, none⟩)] (.int .i64 v) a' e')
    (w : World) (hP : Pair w R V hi s a e) :
    Calls Try.prog 20 #[.pointer (some ⟨R, 0, none⟩), .pointer (some ⟨V, 0, none⟩), .agg #[.int .i64 5, .int .i64 n, .int .u64 x, .int .i64 m]] w fun q w' => q = .returned (.bool true) ∧ Pair w' R V hi s a' e' ∧ Two R V w w' := by
  have B0 : Below w.heap.size w (w.alloc (.cells #[.int .i64 5, .int .i64 n, .int .u64 x, .int .i64 m] 65)) := (Below.refl _ _).alloc (Nat.le_refl _) _
  have P0 := hP.below B0
  have HT : Hid (Two R V w (w.alloc (.cells #[.int .i64 5, .int .i64 n, .int .u64 x, .int .i64 m] 65))) := Two.old B0
  clear B0 hP
  go_enter Try.func20, Try.ntmps20
  go_wp2_with fail
  generalize w.alloc (.cells #[.int .i64 5, .int .i64 n, .int .u64 x, .int .i64 m] 65) = w0 at *
  refine (hB.prog w0 P0.rd).mono ?_
  rintro _ w1 ⟨rfl, R1, O1⟩
  have V1 := P0.half O1
  go_wp2_with fail
  refine (hB.doc w1 V1).mono ?_
  rintro _ w2 ⟨rfl, V2, O2⟩
  have HF : Hid (Pair w2 R V hi s a' e' ∧ Two R V w w2) := ⟨P0.full R1 O1 V2 O2, HT.out.trans ((Two.first O1).trans (Two.second O2))⟩
  clear R1 O1 V1 V2 O2 P0
  go_wp2_with fail
  go_ret
  exact ⟨by simp, HF.out⟩

set_option maxRecDepth 100000 in
theorem take0 {R V hi : Nat} {s : ByteArray} {a : Nat} {e : Int} (d n m : Int) (x : Nat) (h1 : d ≠ 1) (h2 : d ≠ 2) (h3 : d ≠ 3) (h4 : d ≠ 4) (h5 : d ≠ 5)
    (w : World) (hP : Pair w R V hi s a e) :
    Calls Try.prog 20 #[.pointer (some ⟨R, 0, none⟩), .pointer (some ⟨V, 0, none⟩), .agg #[.int .i64 d, .int .i64 n, .int .u64 x, .int .i64 m]] w fun q w' => q = .returned (.bool true) ∧ Pair w' R V hi s a e ∧ Two R V w w' := by
  have B0 : Below w.heap.size w (w.alloc (.cells #[.int .i64 d, .int .i64 n, .int .u64 x, .int .i64 m] 65)) := (Below.refl _ _).alloc (Nat.le_refl _) _
  have HF : Hid (Pair (w.alloc (.cells #[.int .i64 d, .int .i64 n, .int .u64 x, .int .i64 m] 65)) R V hi s a e ∧ Two R V w (w.alloc (.cells #[.int .i64 d, .int .i64 n, .int .u64 x, .int .i64 m] 65))) := ⟨hP.below B0, Two.old B0⟩
  have t1 : (d == 1) = false := by rw [beq_eq_false_iff_ne]; exact h1
  have t2 : (d == 2) = false := by rw [beq_eq_false_iff_ne]; exact h2
  have t3 : (d == 3) = false := by rw [beq_eq_false_iff_ne]; exact h3
  have t4 : (d == 4) = false := by rw [beq_eq_false_iff_ne]; exact h4
  have t5 : (d == 5) = false := by rw [beq_eq_false_iff_ne]; exact h5
  clear B0 hP
  go_enter Try.func20, Try.ntmps20
  go_wp2_with fail
  go_ret
  exact ⟨rfl, HF.out⟩

theorem take_any (R V hi : Nat) (s : ByteArray) (a : Nat) (e d n m : Int) (x : Nat) (w : World) (hP : Pair w R V hi s a e) :
    Calls Try.prog 20 #[.pointer (some ⟨R, 0, none⟩), .pointer (some ⟨V, 0, none⟩), .agg #[.int .i64 d, .int .i64 n, .int .u64 x, .int .i64 m]] w fun q w' => q = .returned (.bool true) ∧ ∃ a' e', Pair w' R V hi s a' e' ∧ Two R V w w' := by
  have ha := hP.rd.le
  by_cases h1 : d = 1
  · subst h1
    obtain ⟨v, a', e', hB⟩ := both_bit R V hi s a e ha
    exact (take1 n m x hB w hP).mono fun q w' ⟨h, h2, h3⟩ => ⟨h, a', e', h2, h3⟩
  by_cases h2 : d = 2
  · subst h2
    obtain ⟨v, a', e', hB⟩ := both_bits R V hi s a e m ha
    exact (take2 n m x hB w hP).mono fun q w' ⟨h, h2, h3⟩ => ⟨h, a', e', h2, h3⟩
  by_cases h3 : d = 3
  · subst h3
    obtain ⟨v, a', e', hB⟩ := both_unary R V hi s a e ha
    exact (take3 n m x hB w hP).mono fun q w' ⟨h, h2, h3⟩ => ⟨h, a', e', h2, h3⟩
  by_cases h4 : d = 4
  · subst h4
    obtain ⟨v, a', e', _, hB⟩ := both_var R V hi s a e ha
    exact (take4 n m x hB w hP).mono fun q w' ⟨h, h2, h3⟩ => ⟨h, a', e', h2, h3⟩
  by_cases h5 : d = 5
  · subst h5
    obtain ⟨v, a', e', hB⟩ := both_zig R V hi s a e ha
    exact (take5 n m x hB w hP).mono fun q w' ⟨h, h2, h3⟩ => ⟨h, a', e', h2, h3⟩
  exact (take0 d n m x h1 h2 h3 h4 h5 w hP).mono fun q w' ⟨h, h2, h3⟩ => ⟨h, a, e, h2, h3⟩

end Go.Proofs.Ytpiiagjfimdflaa

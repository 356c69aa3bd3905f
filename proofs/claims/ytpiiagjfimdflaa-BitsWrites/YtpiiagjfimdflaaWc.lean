/- The law's lay, of any Op, in any state of the two Writers. -/
import Derived.Test.YtpiiagjfimdflaaWb
namespace Go.Proofs.Ytpiiagjfimdflaa
open Go.RowKit
open M
set_option linter.unusedVariables false

theorem opB_le (d m : Int) (x : Nat) (hx : x < 18446744073709551616) (hF : Fit d m x) : (opB d m x).length ≤ 80 := by
  have h := LB_len [(d, 0, m, x)] (fun q hq => by simp at hq; subst hq; exact ⟨hF, hx⟩)
  simpa [LB, qB] using h

set_option maxRecDepth 100000 in
theorem lay0 {lo b off c o : Nat} {r : Option Nat} {l l' : List Bool} {e0 e0' : Int} (d n m : Int) (x : Nat) (h1 : d ≠ 1) (h2 : d ≠ 2) (h3 : d ≠ 3) (h4 : d ≠ 4) (h5 : d ≠ 5)
    (w : World) (hW : Wr w lo b off l e0) (hb : b < lo) (hlo : lo ≤ w.heap.size) (hR : Rw w c o r l' e0') :
    Calls Try.prog 9 #[.pointer (some ⟨b, off, none⟩), .pointer (some ⟨c, o, none⟩), .agg #[.int .i64 d, .int .i64 n, .int .u64 x, .int .i64 m]] w fun e w' => e = .returned (.tuple #[]) ∧ LayPost lo b off c o r l l' e0 e0' w w' := by
  have hbs : b < w.heap.size := by omega
  have HB0 : Below w.heap.size w (w.alloc (.cells #[.int .i64 d, .int .i64 n, .int .u64 x, .int .i64 m] 65)) := (Below.refl _ _).alloc (Nat.le_refl _) _
  have HF : Hid (LayPost lo b off c o r l l' e0 e0' w (w.alloc (.cells #[.int .i64 d, .int .i64 n, .int .u64 x, .int .i64 m] 65))) :=
    ⟨_, r, (Only.refl _ _ _ _).alloc hbs _, OnlyR.refl _ _ _ _ _, .inl rfl, hW.below HB0, hR.below HB0⟩
  have t1 : (d == 1) = false := by rw [beq_eq_false_iff_ne]; exact h1
  have t2 : (d == 2) = false := by rw [beq_eq_false_iff_ne]; exact h2
  have t3 : (d == 3) = false := by rw [beq_eq_false_iff_ne]; exact h3
  have t4 : (d == 4) = false := by rw [beq_eq_false_iff_ne]; exact h4
  have t5 : (d == 5) = false := by rw [beq_eq_false_iff_ne]; exact h5
  clear HB0 hW hR
  go_enter Try.func9, Try.ntmps9
  go_wp2_with fail
  go_end0
  exact ⟨rfl, HF.out⟩

theorem wstay {b off lo : Nat} {l : List Bool} {e : Int} {w1 : World} (hW : Wr w1 lo b off l e) {f : Nat} {A : Array Value} (h : Calls Try.prog f A w1 fun q w' => q = .returned (.tuple #[]) ∧ w' = w1) :
    Calls Try.prog f A w1 fun q w' => q = .returned (.tuple #[]) ∧ Wr w' lo b off l e ∧ Only b off (off + 123) w1 w' :=
  h.mono fun q w' ⟨h1, h2⟩ => ⟨h1, by rw [h2]; exact hW, by rw [h2]; exact Only.refl _ _ _ _⟩

theorem rstay {c o : Nat} {r : Option Nat} {l : List Bool} {e : Int} {w1 : World} (hR : Rw w1 c o r l e) {f : Nat} {A : Array Value} (h : Calls Try.prog f A w1 fun q w' => q = .returned (.tuple #[]) ∧ w' = w1) :
    Calls Try.prog f A w1 fun q w' => q = .returned (.tuple #[]) ∧ ∃ r', Rw w' c o r' l e ∧ RowStep w1 r r' ∧ OnlyR c o (o + 2) r w1 w' :=
  h.mono fun q w' ⟨h1, h2⟩ => ⟨h1, r, by rw [h2]; exact hR, .inl rfl, by rw [h2]; exact OnlyR.refl _ _ _ _ _⟩

theorem lay_any (lo b off c o : Nat) (r : Option Nat) (l : List Bool) (e d n m : Int) (x : Nat) (w : World) (hW : Wr w lo b off l e) (hb : b < lo) (hlo : lo ≤ w.heap.size) (hR : Rw w c o r l e) (hne : b ≠ c) (hrb : r ≠ some b) (ho2 : o ≤ 119)
    (hlen : l.length + 80 < 100000000) (hx : x < 18446744073709551616) :
    Calls Try.prog 9 #[.pointer (some ⟨b, off, none⟩), .pointer (some ⟨c, o, none⟩), .agg #[.int .i64 d, .int .i64 n, .int .u64 x, .int .i64 m]] w fun q w' => q = .returned (.tuple #[]) ∧ ∃ (l' : List Bool) (e' : Int), l'.length ≤ l.length + 80 ∧ LayPost lo b off c o r l' l' e' e' w w' := by
  by_cases he : e = 0
  · subst he
    by_cases hF : Fit d m x
    · refine (lay_fit lo b off c o r l l d n m x w hW hb hlo hR hne hrb ho2 hlen hlen hx hF).mono fun q w' ⟨h1, h2⟩ => ⟨h1, _, 0, ?_, h2⟩
      have := opB_le d m x hx hF
      simp; omega
    · by_cases h2 : d = 2
      · subst h2
        have hn : ¬ (0 ≤ m ∧ m ≤ 64 ∧ x < 2 ^ m.toNat) := fun h => hF (.inl ⟨rfl, h.1, h.2.1, h.2.2⟩)
        exact (lay2 n m x (fun w1 k1 k2 => wbits_ref b off lo l x m w1 k1 hb hx hn) (fun w1 k1 => refbits_ref c o r l x m w1 k1 hx hn) w hW hb hlo hR hne hrb ho2 hx).mono fun q w' ⟨h1, h2⟩ => ⟨h1, l, 10, by omega, h2⟩
      by_cases h3 : d = 3
      · subst h3
        have hn : m < 0 ∨ 64 < m := by
          by_cases h : 0 ≤ m ∧ m ≤ 64
          · exact absurd (.inr (.inl ⟨rfl, h.1, h.2⟩)) hF
          · omega
        exact (lay3 n m x (fun w1 k1 k2 => wunary_ref b off lo l m w1 k1 hb hn) (fun w1 k1 => refunary_ref c o r l m w1 k1 hn) w hW hb hlo hR hne hrb ho2 hx).mono fun q w' ⟨h1, h2⟩ => ⟨h1, l, 11, by omega, h2⟩
      by_cases h1 : d = 1
      · exact absurd (.inr (.inr (.inl h1))) hF
      by_cases h4 : d = 4
      · exact absurd (.inr (.inr (.inr (.inl h4)))) hF
      by_cases h5 : d = 5
      · exact absurd (.inr (.inr (.inr (.inr h5)))) hF
      exact (lay0 d n m x h1 h2 h3 h4 h5 w hW hb hlo hR).mono fun q w' ⟨h1, h2⟩ => ⟨h1, l, 0, by omega, h2⟩
  · have hf : (e == 0) = false := by rw [beq_eq_false_iff_ne]; exact he
    have hz := i64of_range x hx
    have fin : ∀ {Q : Ending → World → Prop}, (∀ q w', Q q w' → q = .returned (.tuple #[]) ∧ LayPost lo b off c o r l l e e w w') → ∀ q w', Q q w' → q = .returned (.tuple #[]) ∧ ∃ (l' : List Bool) (e' : Int), l'.length ≤ l.length + 80 ∧ LayPost lo b off c o r l' l' e' e' w w' := fun h q w' hq => ⟨(h q w' hq).1, l, e, by omega, (h q w' hq).2⟩
    by_cases h1 : d = 1
    · subst h1
      exact (lay1 n m x (fun w1 k1 k2 => wstay k1 (wbit_bad b off e _ w1 k1.errCell (by simp [he]))) (fun w1 k1 => rstay k1 (refbit_bad c o e _ w1 k1.err hf)) w hW hb hlo hR hne hrb ho2 hx).mono (fin fun q w' h => h)
    by_cases h2 : d = 2
    · subst h2
      exact (lay2 n m x (fun w1 k1 k2 => wstay k1 (wbits_bad b off e x m w1 k1.errCell he hx)) (fun w1 k1 => rstay k1 (refbits_bad c o e x m w1 k1.err hf hx)) w hW hb hlo hR hne hrb ho2 hx).mono (fin fun q w' h => h)
    by_cases h3 : d = 3
    · subst h3
      exact (lay3 n m x (fun w1 k1 k2 => wstay k1 (wunary_bad b off e m w1 k1.errCell he)) (fun w1 k1 => rstay k1 (refunary_bad c o e m w1 k1.err hf)) w hW hb hlo hR hne hrb ho2 hx).mono (fin fun q w' h => h)
    by_cases h4 : d = 4
    · subst h4
      exact (lay4 n m x (fun w1 k1 k2 => wstay k1 (wvar_bad b off e x w1 k1.errCell he hx)) (fun w1 k1 => rstay k1 (refvar_bad c o e x w1 k1.err hf hx)) w hW hb hlo hR hne hrb ho2 hx).mono (fin fun q w' h => h)
    by_cases h5 : d = 5
    · subst h5
      exact (lay5 n m x (fun w1 k1 k2 => wstay k1 (wzig_bad b off e _ w1 k1.errCell he hz.1 hz.2)) (fun w1 k1 => rstay k1 (refzig_bad c o e _ w1 k1.err hf hz.1 hz.2)) w hW hb hlo hR hne hrb ho2 hx).mono (fin fun q w' h => h)
    exact (lay0 d n m x h1 h2 h3 h4 h5 w hW hb hlo hR).mono (fin fun q w' h => h)

end Go.Proofs.Ytpiiagjfimdflaa

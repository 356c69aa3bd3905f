/- What comes in: a slice of Texts. -/
import Derived.Test.YtfbkdjghbgdgpaaV
import Derived.Test.YtfbkdjghbgdgpaaBV
import Derived.ChangeSame
namespace Go.Proofs.Ytfbkdjghbgdgpaa
open Go.ChangeShapes Go.WideShapes Go.Deep Go.Joins
open M
set_option linter.unusedVariables false
set_option linter.unusedSimpArgs false

theorem cellsText : Try.prog.cellsOf 25 = 2 := by kernel_rfl
theorem cellsU8 : Try.prog.cellsOf 5 = 1 := by kernel_rfl
theorem cellsU8s : Try.prog.cellsOf 23 = 1 := by kernel_rfl
theorem cellsStr : Try.prog.cellsOf 9 = 1 := by kernel_rfl

theorem list2 {α : Type} {l : List α} (h : l.length = 2) : ∃ a b, l = [a, b] := by
  match l, h with
  | [a, b], _ => exact ⟨a, b, rfl⟩

theorem bpw_succ (i : Nat) : 256 ^ (i + 1) = 256 ^ i * 256 := Nat.pow_succ _ _

/-- Bytes, the lowest first, are a number's. -/
theorem of_bytes (f : Nat → Nat) : ∀ k, (∀ j, j < k → f j < 256) → ∃ N, N < 256 ^ k ∧ ∀ j, j < k → db N j = f j
  | 0, _ => ⟨0, by simp, fun j hj => by omega⟩
  | k + 1, h => by
    obtain ⟨N, hN, hj⟩ := of_bytes f k (fun j hj => h j (by omega))
    have hf := h k (by omega)
    refine ⟨N + 256 ^ k * f k, ?_, fun j hj' => ?_⟩
    · have : 256 ^ k * (f k + 1) ≤ 256 ^ k * 256 := Nat.mul_le_mul_left _ hf
      rw [Nat.mul_add] at this
      rw [bpw_succ]; omega
    · rcases Nat.lt_or_ge j k with h1 | h1
      · rw [← hj j h1]
        unfold db
        obtain ⟨d, rfl⟩ : ∃ d, k = j + (d + 1) := ⟨k - j - 1, by omega⟩
        rw [Nat.pow_add, Nat.mul_assoc, Nat.add_mul_div_left _ _ (bp_pos j), bpw_succ, Nat.mul_comm (256 ^ d), Nat.mul_assoc, Nat.add_mul_mod_self_left]
      · obtain rfl : j = k := by omega
        unfold db
        rw [Nat.add_mul_div_left _ _ (bp_pos j), Nat.div_eq_of_lt hN, Nat.zero_add, Nat.mod_eq_of_lt hf]

section
variable {H : Type} {enc : TypeId × Value → H} {w : World} {base : Nat} {spare : Nat → Bool} {held : Bool}

theorem open_bytes {n : Nat} {v : Value} {y : DataW H × List MemPlace} (h : DataW.trod enc Try.prog w base spare held n 23 [v] = some y) : ∃ L N, InB w v L N ∧ L ≤ 9223372036854775807 := by
  rcases open_slice Try.underlying23 h with ⟨h0, _⟩ | ⟨ad, len, cap, mm, n', D, Pl, hcs, _, hlc, hcm, hmm, _, hx⟩
  · simp only [List.cons.injEq, and_true] at h0
    subst h0
    exact ⟨0, 0, ⟨⟨by simp, none, 0, rfl, Nat.le_refl _, fun h => by omega⟩, .inl (.inl ⟨rfl, rfl⟩)⟩, by omega⟩
  · simp only [List.cons.injEq, and_true] at hcs
    subst hcs
    unfold maxLen at hcm
    have hlm : len ≤ mm := by rw [hmm]; split <;> omega
    have one : ∀ i, i < len → ∃ q : Nat, w.cell? (ad.add i) = some (.int .u8 (q : Int)) ∧ q < 256 := by
      intro i hi
      obtain ⟨cs', hc, ht⟩ := hx i (by omega)
      rw [cellsU8, Nat.mul_one] at hc
      obtain ⟨u, rfl, hcell⟩ := cells_one hc
      obtain ⟨z, e0, _, w0⟩ := DataW.trod_int Try.underlying5 ht
      simp only [List.cons.injEq, and_true] at e0
      have b : 0 ≤ z ∧ z ≤ 255 := by simpa [Lit.wf, IntKind.min, IntKind.max, IntKind.signed, IntKind.bits] using w0
      exact ⟨z.toNat, by rw [hcell, e0, Int.toNat_of_nonneg b.1], by omega⟩
    obtain ⟨q, hq⟩ := choose_lt one
    obtain ⟨N, hN, hd⟩ := of_bytes (fun j => q (len - 1 - j)) len (fun j hj => (hq (len - 1 - j) (by omega)).2)
    rcases Nat.eq_zero_or_pos len with h0 | h0
    · subst h0
      exact ⟨0, N, ⟨⟨hN, some ad, cap, rfl, by omega, fun h => by omega⟩, .inr ⟨ad, cap, rfl, rfl⟩⟩, by omega⟩
    · obtain ⟨b, off, spot⟩ := ad
      have h00 := (hq 0 h0).1
      have hspot : spot = none := by simpa [Addr.add] using World.cell?_spot h00
      subst hspot
      have hcell : ∀ i, i < len → w.cell? ⟨b, off + i, none⟩ = some (.int .u8 (db N (len - 1 - i) : Nat)) := fun i hi => by
        have := (hq i hi).1
        rw [Addr.add_mid] at this
        rw [this, hd (len - 1 - i) (by omega), show len - 1 - (len - 1 - i) = i by omega]
      refine ⟨len, N, ⟨⟨hN, _, cap, rfl, hlc, fun _ => ⟨b, off, rfl, ?_, fun j hj => ?_⟩⟩, .inl (.inr ⟨b, off, cap, by rw [rb_length], fun i hi => ?_⟩)⟩, by omega⟩
      · have := block_lt_of_cell h00
        simpa [Addr.add] using this
      · rw [hcell (len - 1 - j) (by omega), show len - 1 - (len - 1 - j) = j by omega]
      · rw [rb_length] at hi
        rw [hcell i hi, rb_get _ _ _ hi]

theorem text_cells {n : Nat} {cs : List Value} {y : DataW H × List MemPlace} (h : DataW.trod enc Try.prog w base spare held n 25 cs = some y) :
    ∃ (v : Value) (s : ByteArray) (L N : Nat), cs = [v, .string s] ∧ InB w v L N ∧ L ≤ 9223372036854775807 ∧ s.size ≤ 9223372036854775807 := by
  obtain ⟨y0, y1, k, hx, hl, h0, h1⟩ := trod_struct2 Try.underlying25 h
  rw [cellsText] at hl
  obtain ⟨v0, v1, rfl⟩ := list2 hl
  simp only [cellsU8s, cellsStr, List.drop_zero, List.drop_succ_cons, List.take_succ_cons, List.take_zero] at h0 h1
  obtain ⟨L, N, hin, hL⟩ := open_bytes h0
  obtain ⟨s, e1, _, hs⟩ := DataW.trod_string Try.underlying9 h1
  simp only [List.cons.injEq, and_true] at e1
  unfold maxLen at hs
  exact ⟨v0, s, L, N, by rw [e1], hin, hL, by omega⟩

theorem open_texts {fuel : Nat} {v : Value} {y : DataW H × List MemPlace} (h : DataW.trod enc Try.prog w base spare held fuel 22 [v] = some y) : ∃ a len cap, v = .slice a len cap ∧ IsTexts w a len := by
  rcases open_slice Try.underlying22 h with ⟨h0, _⟩ | ⟨ad, len, cap, mm, n', D, Pl, hcs, _, hlc, hcm, hmm, _, hx⟩
  · simp only [List.cons.injEq, and_true] at h0
    exact ⟨none, 0, 0, h0, by omega, fun h => by omega⟩
  · simp only [List.cons.injEq, and_true] at hcs
    unfold maxLen at hcm
    refine ⟨some ad, len, cap, hcs, by omega, fun h0 => ?_⟩
    have hlm : len ≤ mm := by rw [hmm]; split <;> omega
    have one : ∀ i, i < len → ∃ (v : Value) (s : ByteArray) (L N : Nat), (w.cell? ((ad.add (i * 2)).add 0) = some v ∧ w.cell? ((ad.add (i * 2)).add 1) = some (.string s)) ∧ InB w v L N ∧ L ≤ 9223372036854775807 ∧ s.size ≤ 9223372036854775807 := by
      intro i hi
      obtain ⟨cs', hc, ht⟩ := hx i (by omega)
      obtain ⟨v, s, L, N, rfl, hb⟩ := text_cells ht
      rw [cellsText] at hc
      refine ⟨v, s, L, N, ?_, hb⟩
      unfold World.cells? at hc
      split at hc
      · have e : List.range 2 = [0, 1] := rfl
        rw [e] at hc
        simp only [List.mapM_cons, List.mapM_nil, Option.bind_eq_bind, Option.bind_eq_some_iff, Option.pure_def, Option.some.injEq, List.cons.injEq, exists_eq_left'] at hc
        obtain ⟨a0, h0, l0, ⟨a1, h1, l1, hl1, rfl⟩, e0, hr⟩ := hc
        simp only [List.cons.injEq] at hr
        obtain ⟨e1, _⟩ := hr
        subst e0 e1
        exact ⟨h0, h1⟩
      · cases hc
    obtain ⟨b, off, spot⟩ := ad
    obtain ⟨_, _, _, _, ⟨h00, _⟩, _⟩ := one 0 h0
    have hspot : spot = none := by simpa [Addr.add] using World.cell?_spot h00
    subst hspot
    refine ⟨b, off, rfl, ?_, fun j hj => ?_⟩
    · have := block_lt_of_cell h00
      simpa [Addr.add] using this
    · obtain ⟨v, s, L, N, ⟨k0, k1⟩, h1, h2, h3⟩ := one j hj
      simp only [Addr.add_mid, Nat.add_zero] at k0 k1
      exact ⟨v, s, L, N, k0, k1, h1, h2, h3⟩
end
end Go.Proofs.Ytfbkdjghbgdgpaa

/- Unpack of the program and of the document: one answer. -/
import Derived.Test.YtangjkhflgkkdaaGreatT2H
/- Pack of the program and of the document: one answer. -/
namespace Go.Proofs.YtangjkhflgkkdaaGreat
open Go.RowKit
open M
open Classical
set_option linter.unusedVariables false

/-- The bytes that Pack tells. -/
noncomputable def pkB (f : Nat → Int) (n : Nat) : List Nat := if n ≤ 4096 ∧ Rises f n then packed (tbn f n) else []
/-- The number that Pack tells. -/
noncomputable def pkE (f : Nat → Int) (n : Nat) : Int := if n ≤ 4096 then if Rises f n then 0 else 61 else 60

theorem pkB_lt (f : Nat → Int) (n : Nat) : ∀ x ∈ pkB f n, x < 256 := by
  unfold pkB
  split
  · exact packed_lt _
  · simp

theorem pkB_le (f : Nat → Int) (n : Nat) : (pkB f n).length ≤ 40000 := by
  unfold pkB
  split
  · rename_i h
    have := tbn_length' f n
    rw [packed_length]
    omega
  · simp

theorem tpack_all (p : Option Addr) (n cap : Nat) (f : Nat → Int) (w : World) (h : TRow w p n f) (hf : ∀ i, i < n → I64 (f i)) (bs : List Nat) (hbs : bs = pkB f n) (L : Nat) (hL : L = bs.length) :
    Calls Tryz.prog 14 #[.slice p n cap] w fun e w' => ∃ q, e = .returned (.tuple #[.slice q L L, .int .i64 (pkE f n)]) ∧ w'.ownsRow w.heap.size 5 1 (.slice q L L) L (bytesV bs) ∧ Below w.heap.size w w' := by
  have hle := pkB_le f n
  rw [← hbs] at hle
  by_cases hn : n ≤ 4096
  · by_cases hr : Rises f n
    · have hb : packed (tbn f n) = bs := by rw [hbs]; simp [pkB, hn, hr]
      refine (pack_ok p n cap f w h hn hf hr).mono ?_
      rintro e w' ⟨g, L', h1, h2, rfl, h3, h4⟩
      rw [hb] at h1 h3
      rw [h1, ← hL]
      refine ⟨_, by simp [pkE, hn, hr], ⟨by simp [hL], .inr ⟨g, L, _, rfl, h2, h3, Nat.le_refl _, by unfold maxLen; omega, by simp [hL], ?_⟩⟩, h4⟩
      simp only [Nat.mul_one]
      exact List.take_of_length_le (by simp [hL])
    · have hb : bs = [] := by rw [hbs]; simp [pkB, hr]
      subst hb
      simp at hL
      subst hL
      refine (pack_bad p n cap f w h hn hr).mono ?_
      rintro e w' ⟨rfl, m, rfl⟩
      exact ⟨none, by simp [pkE, hn, hr], World.ownsRow_nil _ _ _ _, below_drewN (Below.refl _ _) m⟩
  · have hb : bs = [] := by rw [hbs]; simp [pkB, hn]
    subst hb
    simp at hL
    subst hL
    refine (pack_many p n cap w (by omega)).mono ?_
    rintro e w' ⟨rfl, rfl⟩
    exact ⟨none, by simp [pkE, hn], World.ownsRow_nil _ _ _ _, Below.refl _ _⟩

theorem rpack_all (p : Option Addr) (n cap : Nat) (f : Nat → Int) (w : World) (h : TRow w p n f) (hf : ∀ i, i < n → I64 (f i)) (bs : List Nat) (hbs : bs = pkB f n) :
    Calls Tryz.prog 17 #[.slice p n cap] w fun e w' => ∃ v, e = .returned (.tuple #[v, .int .i64 (pkE f n)]) ∧ w'.ownsRow w.heap.size 5 1 v bs.length (bytesV bs) ∧ Below w.heap.size w w' := by
  by_cases hn : n ≤ 4096
  · by_cases hr : Rises f n
    · have hb : bs = packed (tbn f n) := by rw [hbs]; simp [pkB, hn, hr]
      refine (rpack_ok p n cap f w h hn hf hr).mono ?_
      rintro e w' ⟨v, B, rfl, h2, h3, h4⟩
      refine ⟨v, by simp [pkE, hn, hr], ?_, h4⟩
      rw [hb, packed_length]
      refine ⟨h3.1, ?_⟩
      rcases h3.2 with h5 | ⟨g, cap, cur, h0, h5, h6⟩
      · exact .inl h5
      · exact .inr ⟨g, cap, cur, h0, by omega, h6⟩
    · have hb : bs = [] := by rw [hbs]; simp [pkB, hr]
      subst hb
      refine (rpack_bad p n cap f w h hn hr).mono ?_
      rintro e w' ⟨rfl, m, rfl⟩
      exact ⟨_, by simp [pkE, hn, hr], World.ownsRow_nil _ _ _ _, below_drewN (Below.refl _ _) m⟩
  · have hb : bs = [] := by rw [hbs]; simp [pkB, hn]
    subst hb
    refine (rpack_many p n cap w (by omega)).mono ?_
    rintro e w' ⟨rfl, rfl⟩
    exact ⟨_, by simp [pkE, hn], World.ownsRow_nil _ _ _ _, Below.refl _ _⟩

end Go.Proofs.YtangjkhflgkkdaaGreat

namespace Go.Proofs.YtangjkhflgkkdaaGreat
open Go.RowKit
open M
open Classical
set_option linter.unusedVariables false

/-- The number that Unpack tells. -/
noncomputable def upE (bs : List Nat) (z : Int) : Int := if 0 ≤ z ∧ z ≤ 4096 then if ∃ h, Packs bs h z.toNat then 0 else 62 else 60
/-- How many times Unpack tells. -/
noncomputable def upN (bs : List Nat) (z : Int) : Nat := if upE bs z = 0 then z.toNat else 0
/-- The times that Unpack tells. -/
noncomputable def upF (bs : List Nat) (z : Int) : Nat → Int := if h : ∃ h, Packs bs h z.toNat then Classical.choose h else fun _ => 0

theorem upN_le (bs : List Nat) (z : Int) : upN bs z ≤ 4096 := by
  unfold upN
  split
  · rename_i h
    unfold upE at h
    split at h
    · omega
    · cases h
  · omega

theorem timesV_of {w : World} {g n : Nat} {f : Nat → Int} {cur : Array Value} (h : TRow w (some ⟨g, 0, none⟩) n f) (hc : w.heap[g]? = some (.cells cur 2 (0, 0))) (hn : cur.size = n) : cur.toList = timesV n f := by
  apply List.ext_getElem?
  intro i
  by_cases hi : i < n
  · obtain ⟨b, o, hb, h2⟩ := h (by omega)
    simp only [Option.some.injEq, Addr.mk.injEq] at hb
    obtain ⟨rfl, rfl, _⟩ := hb
    have h3 := h2 i hi
    rw [Nat.zero_add, cell_of_row w g i cur _ (0, 0) hc] at h3
    rw [Array.getElem?_toList, h3]
    simp [timesV, hi]
  · rw [List.getElem?_eq_none (by simp; omega), List.getElem?_eq_none (by simp [timesV]; omega)]

theorem tunpack_all (v : Value) (bs : List Nat) (z : Int) (w : World) (h : IsBy w v bs) (hb : ∀ n ∈ bs, n < 256) (hl : bs.length ≤ 1000000000000) (L : Nat) (hL : L = upN bs z) :
    Calls Tryz.prog 23 #[v, .int .i64 z] w fun e w' => ∃ q, e = .returned (.tuple #[.slice q L L, .int .i64 (upE bs z)]) ∧ w'.ownsRow w.heap.size 2 1 (.slice q L L) L (timesV L (upF bs z)) ∧ Below w.heap.size w w' := by
  by_cases hz : 0 ≤ z ∧ z ≤ 4096
  · obtain ⟨n, rfl⟩ : ∃ n : Nat, z = (n : Int) := ⟨z.toNat, by omega⟩
    refine (unpack_own v bs n w h hb hl (by omega)).mono ?_
    rintro e w' (⟨rfl, h1, h2⟩ | ⟨g, f, rfl, h1, ⟨h2, cur, h3, h4⟩, h5, h6, h7⟩)
    · have hE : upE bs (n : Int) = 62 := by simp [upE, hz, h2]
      have hN : L = 0 := by rw [hL]; unfold upN; rw [hE]; rfl
      subst hN
      exact ⟨none, by rw [hE], World.ownsRow_nil _ _ _ _, h1⟩
    · have hx : ∃ h, Packs bs h (n : Int).toNat := ⟨f, by simpa using h6⟩
      have hE : upE bs (n : Int) = 0 := by simp only [upE, if_pos hz, if_pos hx]
      have hN : L = n := by rw [hL]; unfold upN; rw [if_pos hE]; simp
      subst hN
      have hF : timesV L f = timesV L (upF bs (L : Int)) := by
        have h8 : Packs bs (upF bs (L : Int)) L := by unfold upF; rw [dif_pos hx]; simpa using Classical.choose_spec hx
        unfold timesV
        apply List.map_congr_left
        intro j hj
        rw [h7 _ (begins_of h8) j (List.mem_range.1 hj)]
      refine ⟨_, by rw [hE], ⟨by simp [timesV], .inr ⟨g, L, cur, rfl, h1, h3, Nat.le_refl _, by unfold maxLen; omega, by omega, ?_⟩⟩, h5⟩
      rw [← hF, ← timesV_of h2 h3 h4]
      exact List.take_of_length_le (by simp; omega)
  · have hE : upE bs z = 60 := by simp only [upE, if_neg hz]
    have hN : L = 0 := by rw [hL]; unfold upN; rw [hE]; rfl
    subst hN
    refine (unpack_count v z w (by omega)).mono ?_
    rintro e w' ⟨rfl, rfl⟩
    exact ⟨none, by rw [hE], World.ownsRow_nil _ _ _ _, Below.refl _ _⟩

theorem runpack_all (v : Value) (bs : List Nat) (z : Int) (w : World) (h : IsBy w v bs) (hb : ∀ n ∈ bs, n < 256) (hl : bs.length ≤ 1000000) :
    Calls Tryz.prog 24 #[v, .int .i64 z] w fun e w' => ∃ q cap, e = .returned (.tuple #[.slice q (upN bs z) cap, .int .i64 (upE bs z)]) ∧ TRow w' q (upN bs z) (upF bs z) ∧ upN bs z ≤ cap ∧ Below w.heap.size w w' := by
  obtain ⟨L, hL⟩ : ∃ L, L = upN bs z := ⟨_, rfl⟩
  rw [← hL]
  by_cases hz : 0 ≤ z ∧ z ≤ 4096
  · obtain ⟨n, rfl⟩ : ∃ n : Nat, z = (n : Int) := ⟨z.toNat, by omega⟩
    refine (runpack_any v bs n w h hb hl (by omega)).mono ?_
    rintro e w' (⟨rfl, h1, h2⟩ | ⟨u, f, B, rfl, h1, h2, h5, h6, h7⟩)
    · have hE : upE bs (n : Int) = 62 := by simp [upE, hz, h2]
      have hN : L = 0 := by rw [hL]; unfold upN; rw [hE]; rfl
      subst hN
      exact ⟨none, 0, by rw [hE], TRow.nil _ _ _, Nat.le_refl _, h1⟩
    · have hx : ∃ h, Packs bs h (n : Int).toNat := ⟨f, by simpa using h6⟩
      have hE : upE bs (n : Int) = 0 := by simp only [upE, if_pos hz, if_pos hx]
      have hN : L = n := by rw [hL]; unfold upN; rw [if_pos hE]; simp
      subst hN
      have h8 : Packs bs (upF bs (L : Int)) L := by unfold upF; rw [dif_pos hx]; simpa using Classical.choose_spec hx
      obtain ⟨ad, cap, rfl, hc, hr⟩ := (h2.congr fun j hj => h7 _ h8 j hj).row
      exact ⟨ad, cap, by rw [hE], hr, hc, h5⟩
  · have hE : upE bs z = 60 := by simp only [upE, if_neg hz]
    have hN : L = 0 := by rw [hL]; unfold upN; rw [hE]; rfl
    subst hN
    refine (runpack_count v z w (by omega)).mono ?_
    rintro e w' ⟨rfl, rfl⟩
    exact ⟨none, 0, by rw [hE], TRow.nil _ _ _, Nat.le_refl _, Below.refl _ _⟩

end Go.Proofs.YtangjkhflgkkdaaGreat

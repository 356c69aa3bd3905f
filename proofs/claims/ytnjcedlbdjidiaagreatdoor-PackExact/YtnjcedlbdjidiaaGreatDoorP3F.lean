/- The law's unpacks: Unpack of columns, taken by the Book. -/
import Derived.Test.YtnjcedlbdjidiaaGreatDoorKXL
import Derived.Test.YtnjcedlbdjidiaaGreatDoorP1B32
import Derived.Test.YtnjcedlbdjidiaaGreatDoorP1O32
import Derived.Test.YtnjcedlbdjidiaaGreatDoorP2B
import Derived.Test.YtnjcedlbdjidiaaGreatDoorKT
/- Answers go into the Late. -/
namespace Go.Proofs.YtnjcedlbdjidiaaGreatDoor
open Go.RowKit
open M
set_option linter.unusedVariables false
set_option linter.unusedSimpArgs false

theorem ownsRow_base {w : World} {b b' : Nat} {t : TypeId} {v : Value} {n : Nat} {xs : List Value} (h : w.ownsRow b' t 1 v n xs) (hb : b ≤ b') : w.ownsRow b t 1 v n xs := by
  refine ⟨h.1, ?_⟩
  rcases h.2 with h2 | ⟨g, cap, cur, h0, h4, h5⟩
  · exact .inl h2
  · exact .inr ⟨g, cap, cur, h0, by omega, h5⟩

theorem LateSt.data {w : World} {NL base : Nat} {rg rw_ : Option Nat} {G : List Got} (h : LateSt w NL base rg rw_ G) {b' : Nat} {v : Value} {n : Nat} {xs : List Value} (hr : w.ownsRow b' 5 1 v n xs) (hb : base ≤ b') : ∀ k, v.ownBlock = some k → ¬ (k = NL ∨ rg = some k ∨ rw_ = some k) := fun k hk hh => by
  obtain ⟨vg, a1, a2, a3⟩ := h.gots
  obtain ⟨vw, b1, b2, b3⟩ := h.wants
  rcases hh with hh | hh | hh
  · have := (row_ge hr hk).1; have := h.lt; omega
  · exact rows_ne hr a2 (by decide) hk (a3.trans hh)
  · exact rows_ne hr b2 (by decide) hk (b3.trans hh)

/-- Behind two answers that were put into the Late. -/
def PutPost (L : List Kd) (w : World) (NB NL base : Nat) (F : Nat → KV) (T D U : Nat) (rg rw_ : Option Nat) (G : List Got) (w' : World) : Prop :=
  ∃ rg' rw' g1 g2, BL L w' NB NL base F T D U rg' rw' (G ++ [g1] ++ [g2]) ∧ Chg (LRows NL rg rw_) w w'

/-- Two answers go into the Late, one after another. -/
theorem BL.put2 {L : List Kd} (hL : KOk L) (hB : kB ∈ L) {w w1 w2 : World} {NB NL base : Nat} {F : Nat → KV} {T D U : Nat} {rg rw_ : Option Nat} {G : List Got} (h : BL L w NB NL base F T D U rg rw_ G) {v1 v2 : Value} {bs : List Nat}
    (htot : T + G.length + 2 ≤ 2000) (h1 : ∀ k, v1.ownBlock = some k → ¬ DB L F G k) (h2 : ∀ k, v2.ownBlock = some k → k < w.heap.size ∧ ¬ DB L F G k ∧ v1.ownBlock ≠ some k) {rg1 rw1 : Option Nat} {u1 : Value}
    (hp1 : BL L w1 NB NL base F T D U rg1 rw1 (G ++ [⟨v1, u1, bs⟩])) (hu1 : ∃ k, u1.ownBlock = some k ∧ w.heap.size ≤ k) (hr1 : ∀ k, LRows NL rg1 rw1 k → LRows NL rg rw_ k ∨ w.heap.size ≤ k) (hc1 : Chg (LRows NL rg rw_) w w1)
    (hp2 : LatePost w1 NL base rg1 rw1 (G ++ [⟨v1, u1, bs⟩]) v2 bs w2) : PutPost L w NB NL base F T D U rg rw_ G w2 := by
  have hnew : ∀ k, v2.ownBlock = some k → ¬ DB L F (G ++ [⟨v1, u1, bs⟩]) k := fun k hk hh => by
    obtain ⟨k1, k2, k3⟩ := h2 k hk
    rcases hh with ⟨K, hK, e, he, hh⟩ | ⟨g, hg, hh⟩
    · exact k2 (.inl ⟨K, hK, e, he, hh⟩)
    · simp only [List.mem_append, List.mem_singleton] at hg
      rcases hg with hg | rfl
      · exact k2 (.inr ⟨g, hg, hh⟩)
      · rcases hh with hh | hh
        · exact k3 hh
        · obtain ⟨q, hq1, hq2⟩ := hu1
          have hh : u1.ownBlock = some k := hh
          rw [hq1] at hh
          simp only [Option.some.injEq] at hh
          omega
  obtain ⟨rg2, rw2, u2, B2, hu2, hr2, C2⟩ := hp1.put hL hB (v := v2) (bs := bs) (by simp; omega) hnew hp2
  exact ⟨rg2, rw2, _, _, B2, hc1.trans (C2.mono fun k _ hh => hr1 k hh)⟩

/-- A row of another kind stays, while a list is taken. -/
theorem BL.cut {L : List Kd} (hB : kB ∈ L) {w w' : World} {NB NL base : Nat} {F : Nat → KV} {T D U : Nat} {rg rw_ : Option Nat} {G : List Got} (h : BL L w NB NL base F T D U rg rw_ G) {b' : Nat} {t : TypeId} {v : Value} {n : Nat} {xs : List Value} (hv : w.ownsRow b' t 1 v n xs) (hb : base ≤ b') (ht : ∀ K ∈ L, t ≠ K.tl) (hti : t ≠ 3)
    {vx : Value} (hne : ∀ k, v.ownBlock = some k → vx.ownBlock ≠ some k) (C : Chg (fun k => BkRows L NB F k ∨ vx.ownBlock = some k) w w') : w'.ownsRow b' t 1 v n xs :=
  ownsRow_chg hv C (fun k hk hh => by
    have hge := (row_ge hv hk).1
    rcases hh with (hh | ⟨K, hK, hh⟩) | hh
    · have := (h.book.st kB hB).le.2.1; omega
    · have s := h.book.st K hK
      obtain ⟨vb, x1, x2, x3⟩ := s.rows
      obtain ⟨vo, y1, y2, y3⟩ := s.nums
      rcases hh with hh | hh
      · exact rows_ne hv x2 (ht K hK) hk (x3.trans hh)
      · exact rows_ne hv y2 hti hk (y3.trans hh)
    · exact hne k hk hh)

end Go.Proofs.YtnjcedlbdjidiaaGreatDoor

/- Pack and Unpack of columns, of the program and of the document: one answer. -/
namespace Go.Proofs.YtnjcedlbdjidiaaGreatDoor
open Go.RowKit
open M
open Classical
set_option linter.unusedVariables false
set_option linter.unusedSimpArgs false

/-- The bytes that Pack tells. -/
def pkW (W K : Nat) (f : Nat → Nat) (n : Nat) : List Nat := if n ≤ 4096 then packed (cbn W K f n) else []
/-- The number that Pack tells. -/
def pkWE (n : Nat) : Int := if n ≤ 4096 then 0 else 70

theorem pkW_lt (W K : Nat) (f : Nat → Nat) (n : Nat) : ∀ x ∈ pkW W K f n, x < 256 := by
  unfold pkW
  split
  · exact packed_lt _
  · simp

theorem pkW_le (W K : Nat) (f : Nat → Nat) (n : Nat) (hWK : WK W K) (hf : ∀ i, i < n → f i < 2 ^ W) : (pkW W K f n).length ≤ 50000 := by
  unfold pkW
  split
  · have hle := hWK.le
    have h1 := cbn_length' W K f n (by omega) hf
    have h2 : (2 + 2 * K + W) * n ≤ 78 * 4096 := Nat.mul_le_mul (by omega) (by omega)
    rw [packed_length]
    omega
  · simp

theorem rpack7_all (W K : Nat) (p : Option Addr) (n cap : Nat) (f : Nat → Nat) (w : World) (hWK : WK W K) (h : URow64 w p n f) (hf : ∀ i, i < n → f i < 2 ^ W) (bs : List Nat) (hbs : bs = pkW W K f n) :
    Calls Tryz.prog 19 #[.slice p n cap, .int .i64 W] w fun e w' => ∃ v, e = .returned (.tuple #[v, .int .i64 (pkWE n)]) ∧ w'.ownsRow w.heap.size 5 1 v bs.length (bytesV bs) ∧ Below w.heap.size w w' := by
  by_cases hn : n ≤ 4096
  · have hb : bs = packed (cbn W K f n) := by rw [hbs]; simp [pkW, hn]
    refine (rpack7_ok W K p n cap f w hWK h hn hf).mono ?_
    rintro e w' ⟨v, rfl, h3, h4⟩
    exact ⟨v, by simp [pkWE, hn], by rw [hb]; exact h3, h4⟩
  · have hb : bs = [] := by rw [hbs]; simp [pkW, hn]
    subst hb
    refine (rpack7_many W p n cap w (by omega)).mono ?_
    rintro e w' ⟨rfl, rfl⟩
    exact ⟨_, by simp [pkWE, hn], World.ownsRow_nil _ _ _ _, Below.refl _ _⟩

/-- The number that Unpack tells. -/
noncomputable def upWE (W K : Nat) (bs : List Nat) (z : Int) : Int := if 0 ≤ z ∧ z ≤ 4096 then if ∃ h, PacksW W K bs h z.toNat then 0 else 71 else 70
/-- How many values Unpack tells. -/
noncomputable def upWN (W K : Nat) (bs : List Nat) (z : Int) : Nat := if upWE W K bs z = 0 then z.toNat else 0
/-- The values that Unpack tells. -/
noncomputable def upWF (W K : Nat) (bs : List Nat) (z : Int) : Nat → Nat := if h : ∃ h, PacksW W K bs h z.toNat then Classical.choose h else fun _ => 0

theorem upWN_le (W K : Nat) (bs : List Nat) (z : Int) : upWN W K bs z ≤ 4096 := by
  unfold upWN
  split
  · rename_i h
    unfold upWE at h
    split at h
    · omega
    · cases h
  · omega

theorem upWF_lt (W K : Nat) (bs : List Nat) (z : Int) : ∀ i, i < upWN W K bs z → upWF W K bs z i < 2 ^ W := by
  intro i hi
  unfold upWN at hi
  split at hi
  · rename_i h
    unfold upWE at h
    split at h
    · split at h
      · rename_i hx
        unfold upWF
        rw [dif_pos hx]
        exact (Classical.choose_spec hx).1 i hi
      · cases h
    · cases h
  · omega

theorem valsV64_congr {n : Nat} {f g : Nat → Nat} (h : ∀ i, i < n → f i = g i) : valsV64 n f = valsV64 n g := by
  unfold valsV64
  apply List.map_congr_left
  intro j hj
  rw [h j (List.mem_range.1 hj)]

theorem runpack7_all (W K : Nat) (v : Value) (bs : List Nat) (z : Int) (w : World) (hWK : WK W K) (h : IsBy w v bs) (hb : ∀ n ∈ bs, n < 256) (hl : bs.length ≤ 1000000) (L : Nat) (hL : L = upWN W K bs z) :
    Calls Tryz.prog 32 #[v, .int .i64 z, .int .i64 W] w fun e w' => ∃ q cap, e = .returned (.tuple #[.slice q L cap, .int .i64 (upWE W K bs z)]) ∧ w'.ownsRow w.heap.size 71 1 (.slice q L cap) L (valsV64 L (upWF W K bs z)) ∧ Below w.heap.size w w' := by
  by_cases hz : 0 ≤ z ∧ z ≤ 4096
  · obtain ⟨n, rfl⟩ : ∃ n : Nat, z = (n : Int) := ⟨z.toNat, by omega⟩
    refine (runpack7_any W K v bs n w hWK h hb hl (by omega)).mono ?_
    rintro e w' (⟨rfl, h1, h2⟩ | ⟨u, f, rfl, h2, h5, h6, h7⟩)
    · have hE : upWE W K bs (n : Int) = 71 := by simp [upWE, hz, h2]
      have hN : L = 0 := by rw [hL]; unfold upWN; rw [hE]; rfl
      subst hN
      exact ⟨none, 0, by rw [hE], World.ownsRow_nil _ _ _ _, h1⟩
    · have hx : ∃ h, PacksW W K bs h (n : Int).toNat := ⟨f, by simpa using h6⟩
      have hE : upWE W K bs (n : Int) = 0 := by simp only [upWE, if_pos hz, if_pos hx]
      have hN : L = n := by rw [hL]; unfold upWN; rw [if_pos hE]; simp
      subst hN
      have h8 : PacksW W K bs (upWF W K bs (L : Int)) L := by unfold upWF; rw [dif_pos hx]; simpa using Classical.choose_spec hx
      rw [valsV64_congr (h7 _ h8)] at h2
      obtain ⟨p, cap, hv, _⟩ := row_form h2
      subst hv
      exact ⟨p, cap, by rw [hE], h2, h5⟩
  · have hE : upWE W K bs z = 70 := by simp only [upWE, if_neg hz]
    have hN : L = 0 := by rw [hL]; unfold upWN; rw [hE]; rfl
    subst hN
    refine (runpack7_count W v z w (by omega)).mono ?_
    rintro e w' ⟨rfl, rfl⟩
    exact ⟨none, 0, by rw [hE], World.ownsRow_nil _ _ _ _, Below.refl _ _⟩

theorem wK64 : WK 64 6 := .inl ⟨rfl, rfl⟩
theorem packsW64 {bs : List Nat} {h : Nat → Nat} {n : Nat} : PacksW 64 6 bs h n ↔ Packs64 bs h n := by unfold PacksW Packs64; simp

theorem uw_row64 {w : World} {B g n : Nat} {f : Nat → Nat} (h : UW64 w g n n f) (hB : B ≤ g) (hn : n ≤ 1000000) : w.ownsRow B 71 1 (.slice (some ⟨g, 0, none⟩) n n) n (valsV64 n f) := by
  obtain ⟨cur, h1, h2⟩ := h.blk
  refine ⟨by simp [valsV64], .inr ⟨g, n, cur, rfl, hB, h1, Nat.le_refl _, by unfold maxLen; omega, by omega, ?_⟩⟩
  apply List.ext_getElem?
  intro i
  by_cases hi : i < n
  · have h3 := h.cell i hi
    rw [cell_of_row w g i cur _ (0, 0) h1, if_pos hi] at h3
    rw [List.getElem?_take, if_pos (by omega), Array.getElem?_toList, h3]
    simp [valsV64, hi]
  · rw [List.getElem?_eq_none (by simp; omega), List.getElem?_eq_none (by simp [valsV64]; omega)]

theorem tpack64_all (p : Option Addr) (n cap : Nat) (f : Nat → Nat) (w : World) (h : URow64 w p n f) (hcap : n ≤ cap) (hf : ∀ i, i < n → f i < 18446744073709551616) (hT : Tab64 w) (bs : List Nat) (hbs : bs = pkW 64 6 f n) (L : Nat) (hL : L = bs.length) :
    Calls Tryz.prog 16 #[.slice p n cap] w fun e w' => ∃ q, e = .returned (.tuple #[.slice q L L, .int .i64 (pkWE n)]) ∧ w'.ownsRow w.heap.size 5 1 (.slice q L L) L (bytesV bs) ∧ Below w.heap.size w w' := by
  have hle := pkW_le 64 6 f n wK64 (fun i hi => by have := hf i hi; simpa using this)
  rw [← hbs] at hle
  by_cases hn : n ≤ 4096
  · have hb : packed (cbn 64 6 f n) = bs := by rw [hbs]; simp [pkW, hn]
    refine (pack64_ok p n cap f w h hn hcap hf hT).mono ?_
    rintro e w' ⟨g, L', h1, h2, rfl, h3, h4⟩
    rw [hb] at h1 h3
    rw [h1, ← hL]
    refine ⟨_, by simp [pkWE, hn], ⟨by simp [hL], .inr ⟨g, L, _, rfl, h2, h3, Nat.le_refl _, by unfold maxLen; omega, by simp [hL], ?_⟩⟩, h4⟩
    simp only [Nat.mul_one]
    exact List.take_of_length_le (by simp [hL])
  · have hb : bs = [] := by rw [hbs]; simp [pkW, hn]
    subst hb
    simp at hL
    subst hL
    refine (pack64_many p n cap w (by omega)).mono ?_
    rintro e w' ⟨rfl, rfl⟩
    exact ⟨none, by simp [pkWE, hn], World.ownsRow_nil _ _ _ _, Below.refl _ _⟩

theorem valsV64_congr' {n : Nat} {f g : Nat → Nat} (h : ∀ i, i < n → f i = g i) : valsV64 n f = valsV64 n g := by
  unfold valsV64
  apply List.map_congr_left
  intro j hj
  rw [h j (List.mem_range.1 hj)]

theorem tunpack64_all (v : Value) (bs : List Nat) (z : Int) (w : World) (h : IsBy w v bs) (hb : ∀ n ∈ bs, n < 256) (hl : bs.length ≤ 1000000000000) (hT : Tab64 w) (L : Nat) (hL : L = upWN 64 6 bs z) :
    Calls Tryz.prog 30 #[v, .int .i64 z] w fun e w' => ∃ q, e = .returned (.tuple #[.slice q L L, .int .i64 (upWE 64 6 bs z)]) ∧ w'.ownsRow w.heap.size 71 1 (.slice q L L) L (valsV64 L (upWF 64 6 bs z)) ∧ Below w.heap.size w w' := by
  by_cases hz : 0 ≤ z ∧ z ≤ 4096
  · obtain ⟨n, rfl⟩ : ∃ n : Nat, z = (n : Int) := ⟨z.toNat, by omega⟩
    refine (unpack64_any v bs n w h hb hl (by omega) hT).mono ?_
    rintro e w' (⟨rfl, h1, h2⟩ | ⟨g, f, rfl, h1, h2, h5, h6, h7⟩)
    · have h3 : ¬ ∃ h, PacksW 64 6 bs h n := fun ⟨h, hP⟩ => h2 ⟨h, packsW64.1 hP⟩
      have hE : upWE 64 6 bs (n : Int) = 71 := by simp [upWE, hz, h3]
      have hN : L = 0 := by rw [hL]; unfold upWN; rw [hE]; rfl
      subst hN
      exact ⟨none, by rw [hE], World.ownsRow_nil _ _ _ _, h1⟩
    · have hx : ∃ h, PacksW 64 6 bs h (n : Int).toNat := ⟨f, by simpa using packsW64.2 h6⟩
      have hE : upWE 64 6 bs (n : Int) = 0 := by simp only [upWE, if_pos hz, if_pos hx]
      have hN : L = n := by rw [hL]; unfold upWN; rw [if_pos hE]; simp
      subst hN
      have h8 : PacksW 64 6 bs (upWF 64 6 bs (L : Int)) L := by unfold upWF; rw [dif_pos hx]; simpa using Classical.choose_spec hx
      have hF := valsV64_congr' (h7 _ (begins_of64 (packsW64.1 h8)))
      exact ⟨_, by rw [hE], by rw [← hF]; exact uw_row64 h2 h1 (by omega), h5⟩
  · have hE : upWE 64 6 bs z = 70 := by simp only [upWE, if_neg hz]
    have hN : L = 0 := by rw [hL]; unfold upWN; rw [hE]; rfl
    subst hN
    refine (unpack64_count v z w (by omega)).mono ?_
    rintro e w' ⟨rfl, rfl⟩
    exact ⟨none, by rw [hE], World.ownsRow_nil _ _ _ _, Below.refl _ _⟩

theorem row_urow64 {w : World} {B n : Nat} {f : Nat → Nat} {p : Option Addr} {cap : Nat} (h : w.ownsRow B 71 1 (.slice p n cap) n (valsV64 n f)) (hB : B ≤ w.heap.size) : URow64 w p n f := by
  obtain ⟨ad, c, hv, _, hr⟩ := (show USt64 B w f n (.slice p n cap) w from ⟨h, Below.refl _ _, hB⟩).row
  simp only [Value.slice.injEq] at hv
  obtain ⟨rfl, _, _⟩ := hv
  exact hr

theorem wK32 : WK 32 5 := .inr ⟨rfl, rfl⟩
theorem packsW32 {bs : List Nat} {h : Nat → Nat} {n : Nat} : PacksW 32 5 bs h n ↔ Packs32 bs h n := by unfold PacksW Packs32; simp

theorem uw_row32 {w : World} {B g n : Nat} {f : Nat → Nat} (h : UW32 w g n n f) (hB : B ≤ g) (hn : n ≤ 1000000) : w.ownsRow B 80 1 (.slice (some ⟨g, 0, none⟩) n n) n (valsV32 n f) := by
  obtain ⟨cur, h1, h2⟩ := h.blk
  refine ⟨by simp [valsV32], .inr ⟨g, n, cur, rfl, hB, h1, Nat.le_refl _, by unfold maxLen; omega, by omega, ?_⟩⟩
  apply List.ext_getElem?
  intro i
  by_cases hi : i < n
  · have h3 := h.cell i hi
    rw [cell_of_row w g i cur _ (0, 0) h1, if_pos hi] at h3
    rw [List.getElem?_take, if_pos (by omega), Array.getElem?_toList, h3]
    simp [valsV32, hi]
  · rw [List.getElem?_eq_none (by simp; omega), List.getElem?_eq_none (by simp [valsV32]; omega)]

theorem tpack32_all (p : Option Addr) (n cap : Nat) (f : Nat → Nat) (w : World) (h : URow32 w p n f) (hcap : n ≤ cap) (hf : ∀ i, i < n → f i < 4294967296) (hT : Tab64 w) (bs : List Nat) (hbs : bs = pkW 32 5 f n) (L : Nat) (hL : L = bs.length) :
    Calls Tryz.prog 25 #[.slice p n cap] w fun e w' => ∃ q, e = .returned (.tuple #[.slice q L L, .int .i64 (pkWE n)]) ∧ w'.ownsRow w.heap.size 5 1 (.slice q L L) L (bytesV bs) ∧ Below w.heap.size w w' := by
  have hle := pkW_le 32 5 f n wK32 (fun i hi => by have := hf i hi; simpa using this)
  rw [← hbs] at hle
  by_cases hn : n ≤ 4096
  · have hb : packed (cbn 32 5 f n) = bs := by rw [hbs]; simp [pkW, hn]
    refine (pack32_ok p n cap f w h hn hcap hf hT).mono ?_
    rintro e w' ⟨g, L', h1, h2, rfl, h3, h4⟩
    rw [hb] at h1 h3
    rw [h1, ← hL]
    refine ⟨_, by simp [pkWE, hn], ⟨by simp [hL], .inr ⟨g, L, _, rfl, h2, h3, Nat.le_refl _, by unfold maxLen; omega, by simp [hL], ?_⟩⟩, h4⟩
    simp only [Nat.mul_one]
    exact List.take_of_length_le (by simp [hL])
  · have hb : bs = [] := by rw [hbs]; simp [pkW, hn]
    subst hb
    simp at hL
    subst hL
    refine (pack32_many p n cap w (by omega)).mono ?_
    rintro e w' ⟨rfl, rfl⟩
    exact ⟨none, by simp [pkWE, hn], World.ownsRow_nil _ _ _ _, Below.refl _ _⟩

theorem valsV32_congr' {n : Nat} {f g : Nat → Nat} (h : ∀ i, i < n → f i = g i) : valsV32 n f = valsV32 n g := by
  unfold valsV32
  apply List.map_congr_left
  intro j hj
  rw [h j (List.mem_range.1 hj)]

theorem tunpack32_all (v : Value) (bs : List Nat) (z : Int) (w : World) (h : IsBy w v bs) (hb : ∀ n ∈ bs, n < 256) (hl : bs.length ≤ 1000000000000) (hT : Tab64 w) (L : Nat) (hL : L = upWN 32 5 bs z) :
    Calls Tryz.prog 31 #[v, .int .i64 z] w fun e w' => ∃ q, e = .returned (.tuple #[.slice q L L, .int .i64 (upWE 32 5 bs z)]) ∧ w'.ownsRow w.heap.size 80 1 (.slice q L L) L (valsV32 L (upWF 32 5 bs z)) ∧ Below w.heap.size w w' := by
  by_cases hz : 0 ≤ z ∧ z ≤ 4096
  · obtain ⟨n, rfl⟩ : ∃ n : Nat, z = (n : Int) := ⟨z.toNat, by omega⟩
    refine (unpack32_any v bs n w h hb hl (by omega) hT).mono ?_
    rintro e w' (⟨rfl, h1, h2⟩ | ⟨g, f, rfl, h1, h2, h5, h6, h7⟩)
    · have h3 : ¬ ∃ h, PacksW 32 5 bs h n := fun ⟨h, hP⟩ => h2 ⟨h, packsW32.1 hP⟩
      have hE : upWE 32 5 bs (n : Int) = 71 := by simp [upWE, hz, h3]
      have hN : L = 0 := by rw [hL]; unfold upWN; rw [hE]; rfl
      subst hN
      exact ⟨none, by rw [hE], World.ownsRow_nil _ _ _ _, h1⟩
    · have hx : ∃ h, PacksW 32 5 bs h (n : Int).toNat := ⟨f, by simpa using packsW32.2 h6⟩
      have hE : upWE 32 5 bs (n : Int) = 0 := by simp only [upWE, if_pos hz, if_pos hx]
      have hN : L = n := by rw [hL]; unfold upWN; rw [if_pos hE]; simp
      subst hN
      have h8 : PacksW 32 5 bs (upWF 32 5 bs (L : Int)) L := by unfold upWF; rw [dif_pos hx]; simpa using Classical.choose_spec hx
      have hF := valsV32_congr' (h7 _ (begins_of32 (packsW32.1 h8)))
      exact ⟨_, by rw [hE], by rw [← hF]; exact uw_row32 h2 h1 (by omega), h5⟩
  · have hE : upWE 32 5 bs z = 70 := by simp only [upWE, if_neg hz]
    have hN : L = 0 := by rw [hL]; unfold upWN; rw [hE]; rfl
    subst hN
    refine (unpack32_count v z w (by omega)).mono ?_
    rintro e w' ⟨rfl, rfl⟩
    exact ⟨none, by rw [hE], World.ownsRow_nil _ _ _ _, Below.refl _ _⟩

theorem row_urow32 {w : World} {B n : Nat} {f : Nat → Nat} {p : Option Addr} {cap : Nat} (h : w.ownsRow B 80 1 (.slice p n cap) n (valsV32 n f)) (hB : B ≤ w.heap.size) : URow32 w p n f := by
  obtain ⟨ad, c, hv, _, hr⟩ := (show USt32 B w f n (.slice p n cap) w from ⟨h, Below.refl _ _, hB⟩).row
  simp only [Value.slice.injEq] at hv
  obtain ⟨rfl, _, _⟩ := hv
  exact hr

end Go.Proofs.YtnjcedlbdjidiaaGreatDoor

namespace Go.Proofs.YtnjcedlbdjidiaaGreatDoor
open Go.RowKit
open M
open Classical
set_option linter.unusedVariables false
set_option linter.unusedSimpArgs false

theorem kB_in : kB ∈ LQ := by simp [LQ]
theorem kW_in : kW ∈ LQ := by simp [LQ]
theorem kS_in : kS ∈ LQ := by simp [LQ]

/-- Between the Book's steps: what was taken is tk. -/
structure UQ (w : World) (NB NL base : Nat) (F : Nat → KV) (D : Nat) (rg rw_ : Option Nat) (G : List Got) (tk : List Value) (F' : Nat → KV) (T' U' : Nat) (wx : World) : Prop where
  bl : BL LQ wx NB NL base F' T' D U' rg rw_ G
  db : ∀ k, DB LQ F' G k → DB LQ F G k ∨ ∃ v ∈ tk, v.ownBlock = some k
  rows : ∀ k, BkRows LQ NB F' k → BkRows LQ NB F k ∨ w.heap.size ≤ k
  chg : Chg (BkRows LQ NB F) w wx

theorem UQ.start {w : World} {NB NL base : Nat} {F : Nat → KV} {T D U : Nat} {rg rw_ : Option Nat} {G : List Got} (h : BL LQ w NB NL base F T D U rg rw_ G) : UQ w NB NL base F D rg rw_ G [] F T U w :=
  ⟨h, fun k hk => .inl hk, fun k hk => .inl hk, Chg.refl _ _⟩

theorem UQ.below {w : World} {NB NL base : Nat} {F : Nat → KV} {D : Nat} {rg rw_ : Option Nat} {G : List Got} {tk : List Value} {F' : Nat → KV} {T' U' : Nat} {wx w' : World} (h : UQ w NB NL base F D rg rw_ G tk F' T' U' wx) (hB : Below wx.heap.size wx w') : UQ w NB NL base F D rg rw_ G tk F' T' U' w' :=
  ⟨h.bl.below hB, h.db, h.rows, h.chg.trans' (Chg.below hB)⟩

theorem UQ.take {w : World} {NB NL base : Nat} {F : Nat → KV} {T D U : Nat} {rg rw_ : Option Nat} {G : List Got} (h0 : BL LQ w NB NL base F T D U rg rw_ G) {tk : List Value} {F' : Nat → KV} {T' U' : Nat} {wx w' : World} (h : UQ w NB NL base F D rg rw_ G tk F' T' U' wx) {K : Kd} (hK : K ∈ LQ) (hK0 : K.c ≠ 0) {p : Option Addr} {n m : Nat} {xs : List Value} (hn : n ≤ 50000)
    (hv : wx.ownsRow base K.te 1 (.slice p n n) n xs) (htot : T' + 1 + G.length ≤ 2000) (hs : ∀ k, (Value.slice p n n).ownBlock = some k → w.heap.size ≤ k) (hd : ∀ v ∈ tk, ∀ k, v.ownBlock = some k → (Value.slice p n n).ownBlock ≠ some k)
    (ha : AddPost K wx NB base (F' K.c).rb (F' K.c).ro (F' K.c).E (F' K.c).A T' D ⟨.slice p n n, n, m⟩ w') :
    ∃ F'' U'', UQ w NB NL base F D rg rw_ G (tk ++ [.slice p n n]) F'' (T' + 1) U'' w' ∧ Chg (fun k => BkRows LQ NB F' k ∨ (Value.slice p n n).ownBlock = some k) wx w' := by
  have hnew : ∀ k, (Value.slice p n n).ownBlock = some k → ¬ DB LQ F' G k := fun k hk hh => by
    rcases h.db k hh with h1 | ⟨v, hv, h1⟩
    · have := h0.dbLt h1; have := hs k hk; omega
    · exact hd v hv k h1 hk
  obtain ⟨F2, U2, B2, d2, r2, C2⟩ := h.bl.take LQ_ok kB_in hK hK0 hn hv htot hnew ha
  refine ⟨F2, U2, ⟨B2, fun k hk => ?_, fun k hk => ?_, h.chg.trans (C2.mono fun k _ hk => ?_)⟩, C2⟩
  · rcases d2 k hk with h1 | h1
    · rcases h.db k h1 with h2 | ⟨v, hv, h2⟩
      · exact .inl h2
      · exact .inr ⟨v, by simp [hv], h2⟩
    · exact .inr ⟨_, by simp, h1⟩
  · rcases r2 k hk with h1 | h1
    · exact h.rows k h1
    · exact .inr (Nat.le_trans h.chg.size h1)
  · rcases hk with hk | hk
    · exact h.rows k hk
    · exact .inr (hs k hk)

/-- The new one lies apart from what was taken. -/
theorem UQ.hap {w : World} {NB NL base : Nat} {F : Nat → KV} {T D U : Nat} {rg rw_ : Option Nat} {G : List Got} (h0 : BL LQ w NB NL base F T D U rg rw_ G) {tk : List Value} {F' : Nat → KV} {T' U' : Nat} {wx : World} (h : UQ w NB NL base F D rg rw_ G tk F' T' U' wx) {K : Kd} (hK : K ∈ LQ) {vx : Value} (hs : ∀ k, vx.ownBlock = some k → w.heap.size ≤ k) (hd : ∀ v ∈ tk, ∀ k, v.ownBlock = some k → vx.ownBlock ≠ some k) : ∀ e ∈ (F' K.c).E, ∀ g, vx.ownBlock = some g → e.v.ownBlock ≠ some g := fun e he g hg hh => by
  rcases h.db g (.inl ⟨K, hK, e, he, hh⟩) with h1 | ⟨v, hv, h1⟩
  · have := h0.dbLt h1; have := hs g hg; omega
  · exact hd v hv g h1 hg

theorem keep_below {w w' : World} {B : Nat} {t : TypeId} {v : Value} {n : Nat} {xs : List Value} (h : w.ownsRow B t 1 v n xs) (hB : Below w.heap.size w w') : w'.ownsRow B t 1 v n xs := ownsRow_keep h (fun g hg => hB.block g (h.lt g hg).2)

/-- The six rows. -/
structure Six (sx sy su sv sw sz n m cw cz : Nat) (fW fS : Nat → Nat) (px py pu pv pw pz : Option Addr) (wx : World) : Prop where
  x : wx.ownsRow sx 71 1 (.slice px n n) n (valsV64 n fW)
  y : wx.ownsRow sy 71 1 (.slice py n n) n (valsV64 n fW)
  u : wx.ownsRow su 80 1 (.slice pu m m) m (valsV32 m fS)
  v : wx.ownsRow sv 80 1 (.slice pv m m) m (valsV32 m fS)
  w : wx.ownsRow sw 71 1 (.slice pw n cw) n (valsV64 n fW)
  z : wx.ownsRow sz 71 1 (.slice pz m cz) m (valsV64 m fS)

theorem Six.below {sx sy su sv sw sz n m cw cz : Nat} {fW fS : Nat → Nat} {px py pu pv pw pz : Option Addr} {wx w' : World} (h : Six sx sy su sv sw sz n m cw cz fW fS px py pu pv pw pz wx) (hB : Below wx.heap.size wx w') : Six sx sy su sv sw sz n m cw cz fW fS px py pu pv pw pz w' :=
  ⟨keep_below h.x hB, keep_below h.y hB, keep_below h.u hB, keep_below h.v hB, keep_below h.w hB, keep_below h.z hB⟩

theorem ne64 : ∀ K ∈ LQ, (71 : TypeId) ≠ K.tl := fun K hK => LQ_ok.el kW kW_in K hK
theorem ne32 : ∀ K ∈ LQ, (80 : TypeId) ≠ K.tl := fun K hK => LQ_ok.el kS kS_in K hK

set_option maxRecDepth 100000 in
set_option maxHeartbeats 16000000 in
theorem unpacks_any (NB NL base : Nat) (F : Nat → KV) (T D U : Nat) (rg rw_ : Option Nat) (G : List Got) (vI vB : Value) (bs : List Nat) (z : Int) (w : World) (h : BL LQ w NB NL base F T D U rg rw_ G)
    (hI : IsBy w vI bs) (hV : IsBy w vB bs) (hb : ∀ x ∈ bs, x < 256) (hl : bs.length ≤ 1000000) (hTb : Tab64 w) (htot : T + G.length + 4 ≤ 2000) :
    Calls Tryz.prog 8 #[vI, vB, .int .i64 z, .pointer (some ⟨NB, 0, none⟩)] w fun q w' => q = .returned (.bool true) ∧ ∃ F' U', BL LQ w' NB NL base F' (T + 4) D U' rg rw_ G ∧ (∀ k, FP LQ NB NL F' rg rw_ G k → FP LQ NB NL F rg rw_ G k ∨ w.heap.size ≤ k) ∧ Chg (BkRows LQ NB F) w w' := by
  obtain ⟨n, hn⟩ : ∃ n, n = upWN 64 6 bs z := ⟨_, rfl⟩
  obtain ⟨m, hm⟩ : ∃ m, m = upWN 32 5 bs z := ⟨_, rfl⟩
  obtain ⟨fW, hfW⟩ : ∃ ff, ff = upWF 64 6 bs z := ⟨_, rfl⟩
  obtain ⟨fS, hfS⟩ : ∃ ff, ff = upWF 32 5 bs z := ⟨_, rfl⟩
  obtain ⟨e6, he6⟩ : ∃ eE, eE = upWE 64 6 bs z := ⟨_, rfl⟩
  obtain ⟨e3, he3⟩ : ∃ eE, eE = upWE 32 5 bs z := ⟨_, rfl⟩
  have hn4 : n ≤ 4096 := by rw [hn]; exact upWN_le _ _ _ _
  have hm4 : m ≤ 4096 := by rw [hm]; exact upWN_le _ _ _ _
  have HfS : Hid (∀ i, i < m → fS i < 4294967296) := fun i hi => by rw [hfS]; have := upWF_lt 32 5 bs z i (by rw [← hm]; exact hi); simpa using this
  have HU6 : Hid (∀ w1, Below w.heap.size w w1 → Calls Tryz.prog 30 #[vI, .int .i64 z] w1 fun e w' => ∃ q, e = .returned (.tuple #[.slice q n n, .int .i64 e6]) ∧ w'.ownsRow w1.heap.size 71 1 (.slice q n n) n (valsV64 n fW) ∧ Below w1.heap.size w1 w') := fun w1 h1 => by
    rw [hfW, he6]; exact tunpack64_all vI bs z w1 (isBy_below hI h1) hb (by omega) (hTb.below h1) n hn
  have HU3 : Hid (∀ w1, Below w.heap.size w w1 → Calls Tryz.prog 31 #[vI, .int .i64 z] w1 fun e w' => ∃ q, e = .returned (.tuple #[.slice q m m, .int .i64 e3]) ∧ w'.ownsRow w1.heap.size 80 1 (.slice q m m) m (valsV32 m fS) ∧ Below w1.heap.size w1 w') := fun w1 h1 => by
    rw [hfS, he3]; exact tunpack32_all vI bs z w1 (isBy_below hI h1) hb (by omega) (hTb.below h1) m hm
  have HR6 : Hid (∀ w1, Below w.heap.size w w1 → Calls Tryz.prog 32 #[vB, .int .i64 z, .int .i64 64] w1 fun e w' => ∃ q cap, e = .returned (.tuple #[.slice q n cap, .int .i64 e6]) ∧ w'.ownsRow w1.heap.size 71 1 (.slice q n cap) n (valsV64 n fW) ∧ Below w1.heap.size w1 w') := fun w1 h1 => by
    rw [hfW, he6]; exact runpack7_all 64 6 vB bs z w1 wK64 (isBy_below hV h1) hb hl n hn
  have HR3 : Hid (∀ w1, Below w.heap.size w w1 → Calls Tryz.prog 32 #[vB, .int .i64 z, .int .i64 32] w1 fun e w' => ∃ q cap, e = .returned (.tuple #[.slice q m cap, .int .i64 e3]) ∧ w'.ownsRow w1.heap.size 71 1 (.slice q m cap) m (valsV64 m fS) ∧ Below w1.heap.size w1 w') := fun w1 h1 => by
    rw [hfS, he3]; exact runpack7_all 32 5 vB bs z w1 wK32 (isBy_below hV h1) hb hl m hm
  have HB := hideB h
  clear h hI hV hb hl hn hm hfW hfS he6 he3 hTb
  go_enter Tryz.func8, Tryz.ntmps8
  go_wp2_with fail
  refine (HU6.out w (Below.refl _ _)).mono ?_
  rintro _ w1 ⟨px, rfl, o1, B1⟩
  have H1 : Hid (w1.ownsRow w.heap.size 71 1 (.slice px n n) n (valsV64 n fW) ∧ Below w.heap.size w w1 ∧ Below w.heap.size w w1) := ⟨o1, B1, B1⟩
  clear o1 B1
  go_wp2_with fail
  refine (HU6.out w1 H1.out.2.1).mono ?_
  rintro _ w2 ⟨py, rfl, o2, B2⟩
  have H2 : Hid (w2.ownsRow w1.heap.size 71 1 (.slice py n n) n (valsV64 n fW) ∧ Below w.heap.size w w2 ∧ Below w1.heap.size w1 w2) := ⟨o2, H1.out.2.1.trans (B2.mono H1.out.2.1.size), B2⟩
  clear o2 B2
  go_wp2_with fail
  refine (HU3.out w2 H2.out.2.1).mono ?_
  rintro _ w3 ⟨pu, rfl, o3, B3⟩
  have H3 : Hid (w3.ownsRow w2.heap.size 80 1 (.slice pu m m) m (valsV32 m fS) ∧ Below w.heap.size w w3 ∧ Below w2.heap.size w2 w3) := ⟨o3, H2.out.2.1.trans (B3.mono H2.out.2.1.size), B3⟩
  clear o3 B3
  go_wp2_with fail
  refine (HU3.out w3 H3.out.2.1).mono ?_
  rintro _ w4 ⟨pv, rfl, o4, B4⟩
  have H4 : Hid (w4.ownsRow w3.heap.size 80 1 (.slice pv m m) m (valsV32 m fS) ∧ Below w.heap.size w w4 ∧ Below w3.heap.size w3 w4) := ⟨o4, H3.out.2.1.trans (B4.mono H3.out.2.1.size), B4⟩
  clear o4 B4
  go_wp2_with fail
  refine (HR6.out w4 H4.out.2.1).mono ?_
  rintro _ w5 ⟨pw, cw, rfl, o5, B5⟩
  have H5 : Hid (w5.ownsRow w4.heap.size 71 1 (.slice pw n cw) n (valsV64 n fW) ∧ Below w.heap.size w w5 ∧ Below w4.heap.size w4 w5) := ⟨o5, H4.out.2.1.trans (B5.mono H4.out.2.1.size), B5⟩
  clear o5 B5
  go_wp2_with fail
  refine (HR3.out w5 H5.out.2.1).mono ?_
  rintro _ w6 ⟨pz, cz, rfl, o6, B6⟩
  have H6 : Hid (w6.ownsRow w5.heap.size 71 1 (.slice pz m cz) m (valsV64 m fS) ∧ Below w.heap.size w w6 ∧ Below w5.heap.size w5 w6) := ⟨o6, H5.out.2.1.trans (B6.mono H5.out.2.1.size), B6⟩
  clear o6 B6
  have Hz : Hid (w.heap.size ≤ w1.heap.size ∧ w1.heap.size ≤ w2.heap.size ∧ w2.heap.size ≤ w3.heap.size ∧ w3.heap.size ≤ w4.heap.size ∧ w4.heap.size ≤ w5.heap.size ∧ w5.heap.size ≤ w6.heap.size) := ⟨H1.out.2.2.size, H2.out.2.2.size, H3.out.2.2.size, H4.out.2.2.size, H5.out.2.2.size, H6.out.2.2.size⟩
  have HD : Hid ((∀ k, (Value.slice px n n).ownBlock = some k → w.heap.size ≤ k ∧ k < w1.heap.size) ∧ (∀ k, (Value.slice py n n).ownBlock = some k → w1.heap.size ≤ k ∧ k < w2.heap.size) ∧ (∀ k, (Value.slice pu m m).ownBlock = some k → w2.heap.size ≤ k ∧ k < w3.heap.size) ∧ (∀ k, (Value.slice pv m m).ownBlock = some k → w3.heap.size ≤ k ∧ k < w4.heap.size) ∧ (∀ k, (Value.slice pw n cw).ownBlock = some k → w4.heap.size ≤ k) ∧ (∀ k, (Value.slice pz m cz).ownBlock = some k → w5.heap.size ≤ k)) :=
    ⟨fun k hk => H1.out.1.lt k hk, fun k hk => H2.out.1.lt k hk, fun k hk => H3.out.1.lt k hk, fun k hk => H4.out.1.lt k hk, fun k hk => (H5.out.1.lt k hk).1, fun k hk => (H6.out.1.lt k hk).1⟩
  have HS0 : Hid (Six w.heap.size w1.heap.size w2.heap.size w3.heap.size w4.heap.size w5.heap.size n m cw cz fW fS px py pu pv pw pz w6 ∧ UQ w NB NL base F D rg rw_ G [] F T U w6 ∧ w6.heap.size ≤ w6.heap.size) :=
    ⟨⟨keep_below (keep_below (keep_below (keep_below (keep_below H1.out.1 H2.out.2.2) H3.out.2.2) H4.out.2.2) H5.out.2.2) H6.out.2.2, keep_below (keep_below (keep_below (keep_below H2.out.1 H3.out.2.2) H4.out.2.2) H5.out.2.2) H6.out.2.2, keep_below (keep_below (keep_below H3.out.1 H4.out.2.2) H5.out.2.2) H6.out.2.2, keep_below (keep_below H4.out.1 H5.out.2.2) H6.out.2.2, keep_below H5.out.1 H6.out.2.2, H6.out.1⟩, (UQ.start HB.out).below H6.out.2.1, Nat.le_refl _⟩
  clear H1 H2 H3 H4 H5 H6 HU6 HU3 HR6 HR3
  go_wp2_with fail
  refine (num_any _ _).mono ?_
  rintro _ wn ⟨rfl, hwn⟩
  have hwn := hwn.symm
  subst hwn
  go_wp2_with fail
  refine (num_any _ _).mono ?_
  rintro _ wn ⟨rfl, hwn⟩
  have hwn := hwn.symm
  subst hwn
  go_wp2_with fail
  refine (num_any _ _).mono ?_
  rintro _ wn ⟨rfl, hwn⟩
  have hwn := hwn.symm
  subst hwn
  go_wp2_with fail
  refine (num_any _ _).mono ?_
  rintro _ wn ⟨rfl, hwn⟩
  have hwn := hwn.symm
  subst hwn
  have HC0 := hideB (same_any px pw n n n cw fW fW w6 (row_urow64 HS0.out.1.x (by have := Hz.out; have := HS0.out.2.2; omega)) (row_urow64 HS0.out.1.w (by have := Hz.out; have := HS0.out.2.2; omega)) (by omega) (by omega))
  go_wp2_with fail
  refine HC0.out.mono ?_
  rintro _ wq1 ⟨b0, rfl, hb0, q0, hq0⟩
  obtain rfl : b0 = true := hb0.2 (by simp)
  have HS1 : Hid (Six w.heap.size w1.heap.size w2.heap.size w3.heap.size w4.heap.size w5.heap.size n m cw cz fW fS px py pu pv pw pz wq1 ∧ UQ w NB NL base F D rg rw_ G [] F T U wq1 ∧ w6.heap.size ≤ wq1.heap.size) := by
    rw [hq0]; exact ⟨HS0.out.1.below (below_drewN (Below.refl _ _) q0), HS0.out.2.1.below (below_drewN (Below.refl _ _) q0), HS0.out.2.2⟩
  clear hq0 hb0 HC0 HS0
  have HC1 := hideB (same_any py pw n n n cw fW fW wq1 (row_urow64 HS1.out.1.y (by have := Hz.out; have := HS1.out.2.2; omega)) (row_urow64 HS1.out.1.w (by have := Hz.out; have := HS1.out.2.2; omega)) (by omega) (by omega))
  go_wp2_with fail
  refine HC1.out.mono ?_
  rintro _ wq2 ⟨b1, rfl, hb1, q1, hq1⟩
  obtain rfl : b1 = true := hb1.2 (by simp)
  have HS2 : Hid (Six w.heap.size w1.heap.size w2.heap.size w3.heap.size w4.heap.size w5.heap.size n m cw cz fW fS px py pu pv pw pz wq2 ∧ UQ w NB NL base F D rg rw_ G [] F T U wq2 ∧ w6.heap.size ≤ wq2.heap.size) := by
    rw [hq1]; exact ⟨HS1.out.1.below (below_drewN (Below.refl _ _) q1), HS1.out.2.1.below (below_drewN (Below.refl _ _) q1), HS1.out.2.2⟩
  clear hq1 hb1 HC1 HS1
  have HC2 := hideB (alike_any pu pz m m m cz fS fS wq2 (row_urow32 HS2.out.1.u (by have := Hz.out; have := HS2.out.2.2; omega)) HfS.out (by omega) (row_urow64 HS2.out.1.z (by have := Hz.out; have := HS2.out.2.2; omega)) (by omega))
  go_wp2_with fail
  refine HC2.out.mono ?_
  rintro _ wq3 ⟨b2, rfl, hb2, hq2⟩
  obtain rfl : b2 = true := hb2.2 (by simp)
  have HS3 : Hid (Six w.heap.size w1.heap.size w2.heap.size w3.heap.size w4.heap.size w5.heap.size n m cw cz fW fS px py pu pv pw pz wq3 ∧ UQ w NB NL base F D rg rw_ G [] F T U wq3 ∧ w6.heap.size ≤ wq3.heap.size) :=
    ⟨HS2.out.1.below hq2, HS2.out.2.1.below hq2, Nat.le_trans HS2.out.2.2 hq2.size⟩
  clear hq2 hb2 HC2 HS2
  have HC3 := hideB (alike_any pv pz m m m cz fS fS wq3 (row_urow32 HS3.out.1.v (by have := Hz.out; have := HS3.out.2.2; omega)) HfS.out (by omega) (row_urow64 HS3.out.1.z (by have := Hz.out; have := HS3.out.2.2; omega)) (by omega))
  go_wp2_with fail
  refine HC3.out.mono ?_
  rintro _ wq4 ⟨b3, rfl, hb3, hq3⟩
  obtain rfl : b3 = true := hb3.2 (by simp)
  have HS4 : Hid (Six w.heap.size w1.heap.size w2.heap.size w3.heap.size w4.heap.size w5.heap.size n m cw cz fW fS px py pu pv pw pz wq4 ∧ UQ w NB NL base F D rg rw_ G [] F T U wq4 ∧ w6.heap.size ≤ wq4.heap.size) :=
    ⟨HS3.out.1.below hq3, HS3.out.2.1.below hq3, Nat.le_trans HS3.out.2.2 hq3.size⟩
  clear hq3 hb3 HC3 HS3
  have hbase : base ≤ w.heap.size := HB.out.base_
  have hcnt : ∀ K ∈ LQ, ∀ (wx : World) (F' : Nat → KV) (T' U' : Nat) (tk : List Value), UQ w NB NL base F D rg rw_ G tk F' T' U' wx → (F' K.c).E.length < 1000000 := fun K hK wx F' T' U' tk hq => by have := hq.bl.cnt K hK; have := hq.bl.tot; omega
  have Hcnt := hideB hcnt
  clear hcnt
  have HA0 := hideB (addW_any NB base (F kW.c).rb (F kW.c).ro (F kW.c).E (F kW.c).A T D U n px (valsV64 n fW) wq4 (HS4.out.2.1.bl.book.st kW kW_in) HS4.out.2.1.bl.book.com (ownsRow_base HS4.out.1.x hbase) (by omega) (by omega) (Hcnt.out kW kW_in _ _ _ _ _ HS4.out.2.1) HS4.out.2.1.bl.base_ (HS4.out.2.1.hap HB.out kW_in (fun k hk => (HD.out.1 k hk).1) (by simp)))
  go_wp2_with fail
  refine HA0.out.mono ?_
  rintro _ wa ⟨rfl, hPa⟩
  obtain ⟨Fa, Ua, Qa, Ca⟩ := HS4.out.2.1.take HB.out kW_in (by decide) (by omega) (ownsRow_base HS4.out.1.x hbase) (by omega) (fun k hk => (HD.out.1 k hk).1) (by simp) hPa
  have ya := HS4.out.2.1.bl.cut kB_in HS4.out.1.y (by have := Hz.out; omega) ne64 (by decide) (fun k hk hh => by have h1 := HD.out.1 k hh; have h2 := HD.out.2.1 k hk; omega) Ca
  have ua := HS4.out.2.1.bl.cut kB_in HS4.out.1.u (by have := Hz.out; omega) ne32 (by decide) (fun k hk hh => by have h1 := HD.out.1 k hh; have h2 := HD.out.2.2.1 k hk; have := Hz.out; omega) Ca
  have va := HS4.out.2.1.bl.cut kB_in HS4.out.1.v (by have := Hz.out; omega) ne32 (by decide) (fun k hk hh => by have h1 := HD.out.1 k hh; have h2 := HD.out.2.2.2.1 k hk; have := Hz.out; omega) Ca
  have wa_ := HS4.out.2.1.bl.cut kB_in HS4.out.1.w (by have := Hz.out; omega) ne64 (by decide) (fun k hk hh => by have h1 := HD.out.1 k hh; have h2 := HD.out.2.2.2.2.1 k hk; have := Hz.out; omega) Ca
  have za := HS4.out.2.1.bl.cut kB_in HS4.out.1.z (by have := Hz.out; omega) ne64 (by decide) (fun k hk hh => by have h1 := HD.out.1 k hh; have h2 := HD.out.2.2.2.2.2 k hk; have := Hz.out; omega) Ca
  have HSa : Hid (UQ w NB NL base F D rg rw_ G ([] ++ [.slice px n n]) Fa (T + 1) Ua wa ∧ wa.ownsRow w1.heap.size 71 1 (.slice py n n) n (valsV64 n fW) ∧ wa.ownsRow w2.heap.size 80 1 (.slice pu m m) m (valsV32 m fS) ∧ wa.ownsRow w3.heap.size 80 1 (.slice pv m m) m (valsV32 m fS) ∧ wa.ownsRow w4.heap.size 71 1 (.slice pw n cw) n (valsV64 n fW) ∧ wa.ownsRow w5.heap.size 71 1 (.slice pz m cz) m (valsV64 m fS) ∧ w6.heap.size ≤ wa.heap.size) := ⟨Qa, ya, ua, va, wa_, za, Nat.le_trans HS4.out.2.2 Ca.size⟩
  clear HA0 hPa Qa ya ua va wa_ za Ca HS4
  have dU : ∀ v ∈ ([] ++ [Value.slice px n n] : List Value), ∀ k, v.ownBlock = some k → (Value.slice pu m m).ownBlock ≠ some k := fun v hv k hk hh => by
    simp only [List.nil_append, List.mem_singleton] at hv
    subst hv
    have h1 := HD.out.1 k hk; have h2 := HD.out.2.2.1 k hh; have := Hz.out; omega
  have sU : ∀ k, (Value.slice pu m m).ownBlock = some k → w.heap.size ≤ k := fun k hk => by have h2 := HD.out.2.2.1 k hk; have := Hz.out; omega
  have HA1 := hideB (addS_any NB base (Fa kS.c).rb (Fa kS.c).ro (Fa kS.c).E (Fa kS.c).A (T + 1) D Ua m pu (valsV32 m fS) wa (HSa.out.1.bl.book.st kS kS_in) HSa.out.1.bl.book.com (ownsRow_base HSa.out.2.2.1 (by have := Hz.out; omega)) (by omega) (by omega) (Hcnt.out kS kS_in _ _ _ _ _ HSa.out.1) HSa.out.1.bl.base_ (HSa.out.1.hap HB.out kS_in sU dU))
  have HdU : Hid ((∀ v ∈ ([] ++ [Value.slice px n n] : List Value), ∀ k, v.ownBlock = some k → (Value.slice pu m m).ownBlock ≠ some k) ∧ ∀ k, (Value.slice pu m m).ownBlock = some k → w.heap.size ≤ k) := ⟨dU, sU⟩
  clear dU sU
  go_wp2_with fail
  refine HA1.out.mono ?_
  rintro _ wb ⟨rfl, hPb⟩
  obtain ⟨Fb, Ub, Qb, Cb⟩ := HSa.out.1.take HB.out kS_in (by decide) (by omega) (ownsRow_base HSa.out.2.2.1 (by have := Hz.out; omega)) (by omega) HdU.out.2 HdU.out.1 hPb
  have yb := HSa.out.1.bl.cut kB_in HSa.out.2.1 (by have := Hz.out; omega) ne64 (by decide) (fun k hk hh => by have h1 := HD.out.2.2.1 k hh; have h2 := HD.out.2.1 k hk; omega) Cb
  have vb := HSa.out.1.bl.cut kB_in HSa.out.2.2.2.1 (by have := Hz.out; omega) ne32 (by decide) (fun k hk hh => by have h1 := HD.out.2.2.1 k hh; have h2 := HD.out.2.2.2.1 k hk; omega) Cb
  have wb_ := HSa.out.1.bl.cut kB_in HSa.out.2.2.2.2.1 (by have := Hz.out; omega) ne64 (by decide) (fun k hk hh => by have h1 := HD.out.2.2.1 k hh; have h2 := HD.out.2.2.2.2.1 k hk; have := Hz.out; omega) Cb
  have zb_ := HSa.out.1.bl.cut kB_in HSa.out.2.2.2.2.2.1 (by have := Hz.out; omega) ne64 (by decide) (fun k hk hh => by have h1 := HD.out.2.2.1 k hh; have h2 := HD.out.2.2.2.2.2 k hk; have := Hz.out; omega) Cb
  have HSb : Hid (UQ w NB NL base F D rg rw_ G ([] ++ [.slice px n n] ++ [.slice pu m m]) Fb (T + 1 + 1) Ub wb ∧ wb.ownsRow w1.heap.size 71 1 (.slice py n n) n (valsV64 n fW) ∧ wb.ownsRow w3.heap.size 80 1 (.slice pv m m) m (valsV32 m fS) ∧ wb.ownsRow w4.heap.size 71 1 (.slice pw n cw) n (valsV64 n fW) ∧ wb.ownsRow w5.heap.size 71 1 (.slice pz m cz) m (valsV64 m fS) ∧ w6.heap.size ≤ wb.heap.size) := ⟨Qb, yb, vb, wb_, zb_, Nat.le_trans HSa.out.2.2.2.2.2.2 Cb.size⟩
  clear HA1 hPb Qb yb vb wb_ zb_ Cb HSa
  have HE1 := hideB (same_any py pw n n n cw fW fW wb (row_urow64 HSb.out.2.1 (by have := Hz.out; have := HSb.out.2.2.2.2.2; omega)) (row_urow64 HSb.out.2.2.2.1 (by have := Hz.out; have := HSb.out.2.2.2.2.2; omega)) (by omega) (by omega))
  go_wp2_with fail
  refine HE1.out.mono ?_
  rintro _ wc ⟨bc, rfl, hbc, qc, hqc⟩
  obtain rfl : bc = true := hbc.2 (by simp)
  have HSc : Hid (UQ w NB NL base F D rg rw_ G ([] ++ [.slice px n n] ++ [.slice pu m m]) Fb (T + 1 + 1) Ub wc ∧ wc.ownsRow w1.heap.size 71 1 (.slice py n n) n (valsV64 n fW) ∧ wc.ownsRow w3.heap.size 80 1 (.slice pv m m) m (valsV32 m fS) ∧ wc.ownsRow w5.heap.size 71 1 (.slice pz m cz) m (valsV64 m fS) ∧ w6.heap.size ≤ wc.heap.size) := by
    rw [hqc]; exact ⟨HSb.out.1.below (below_drewN (Below.refl _ _) qc), HSb.out.2.1, HSb.out.2.2.1, HSb.out.2.2.2.2.1, HSb.out.2.2.2.2.2⟩
  clear hqc hbc HE1 HSb
  have HE2 := hideB (alike_any pv pz m m m cz fS fS wc (row_urow32 HSc.out.2.2.1 (by have := Hz.out; have := HSc.out.2.2.2.2; omega)) HfS.out (by omega) (row_urow64 HSc.out.2.2.2.1 (by have := Hz.out; have := HSc.out.2.2.2.2; omega)) (by omega))
  go_wp2_with fail
  refine HE2.out.mono ?_
  rintro _ wd ⟨bd, rfl, hbd, hqd⟩
  obtain rfl : bd = true := hbd.2 (by simp)
  have HSd : Hid (UQ w NB NL base F D rg rw_ G ([] ++ [.slice px n n] ++ [.slice pu m m]) Fb (T + 1 + 1) Ub wd ∧ wd.ownsRow w1.heap.size 71 1 (.slice py n n) n (valsV64 n fW) ∧ wd.ownsRow w3.heap.size 80 1 (.slice pv m m) m (valsV32 m fS) ∧ w6.heap.size ≤ wd.heap.size) :=
    ⟨HSc.out.1.below hqd, keep_below HSc.out.2.1 hqd, keep_below HSc.out.2.2.1 hqd, Nat.le_trans HSc.out.2.2.2.2 hqd.size⟩
  clear hqd hbd HE2 HSc
  have HdY : Hid ((∀ v ∈ ([] ++ [.slice px n n] ++ [.slice pu m m] : List Value), ∀ k, v.ownBlock = some k → (Value.slice py n n).ownBlock ≠ some k) ∧ ∀ k, (Value.slice py n n).ownBlock = some k → w.heap.size ≤ k) := ⟨fun v hv k hk hh => by
    simp only [List.nil_append, List.mem_append, List.mem_singleton] at hv
    have h2 := HD.out.2.1 k hh
    rcases hv with rfl | rfl
    · have h1 := HD.out.1 k hk; omega
    · have h1 := HD.out.2.2.1 k hk; omega, fun k hk => by have h2 := HD.out.2.1 k hk; have := Hz.out; omega⟩
  have HA2 := hideB (addW_any NB base (Fb kW.c).rb (Fb kW.c).ro (Fb kW.c).E (Fb kW.c).A (T + 1 + 1) D Ub n py (valsV64 n fW) wd (HSd.out.1.bl.book.st kW kW_in) HSd.out.1.bl.book.com (ownsRow_base HSd.out.2.1 (by have := Hz.out; omega)) (by omega) (by omega) (Hcnt.out kW kW_in _ _ _ _ _ HSd.out.1) HSd.out.1.bl.base_ (HSd.out.1.hap HB.out kW_in HdY.out.2 HdY.out.1))
  go_wp2_with fail
  refine HA2.out.mono ?_
  rintro _ we ⟨rfl, hPe⟩
  obtain ⟨Fe, Ue, Qe, Ce⟩ := HSd.out.1.take HB.out kW_in (by decide) (by omega) (ownsRow_base HSd.out.2.1 (by have := Hz.out; omega)) (by omega) HdY.out.2 HdY.out.1 hPe
  have ve := HSd.out.1.bl.cut kB_in HSd.out.2.2.1 (by have := Hz.out; omega) ne32 (by decide) (fun k hk hh => by have h1 := HD.out.2.1 k hh; have h2 := HD.out.2.2.2.1 k hk; have := Hz.out; omega) Ce
  have HSe : Hid (UQ w NB NL base F D rg rw_ G ([] ++ [.slice px n n] ++ [.slice pu m m] ++ [.slice py n n]) Fe (T + 1 + 1 + 1) Ue we ∧ we.ownsRow w3.heap.size 80 1 (.slice pv m m) m (valsV32 m fS)) := ⟨Qe, ve⟩
  clear HA2 hPe Qe ve Ce HSd HdY
  have HdV : Hid ((∀ v ∈ ([] ++ [.slice px n n] ++ [.slice pu m m] ++ [.slice py n n] : List Value), ∀ k, v.ownBlock = some k → (Value.slice pv m m).ownBlock ≠ some k) ∧ ∀ k, (Value.slice pv m m).ownBlock = some k → w.heap.size ≤ k) := ⟨fun v hv k hk hh => by
    simp only [List.nil_append, List.mem_append, List.mem_singleton] at hv
    have h2 := HD.out.2.2.2.1 k hh
    have := Hz.out
    rcases hv with (rfl | rfl) | rfl
    · have h1 := HD.out.1 k hk; omega
    · have h1 := HD.out.2.2.1 k hk; omega
    · have h1 := HD.out.2.1 k hk; omega, fun k hk => by have h2 := HD.out.2.2.2.1 k hk; have := Hz.out; omega⟩
  have HA3 := hideB (addS_any NB base (Fe kS.c).rb (Fe kS.c).ro (Fe kS.c).E (Fe kS.c).A (T + 1 + 1 + 1) D Ue m pv (valsV32 m fS) we (HSe.out.1.bl.book.st kS kS_in) HSe.out.1.bl.book.com (ownsRow_base HSe.out.2 (by have := Hz.out; omega)) (by omega) (by omega) (Hcnt.out kS kS_in _ _ _ _ _ HSe.out.1) HSe.out.1.bl.base_ (HSe.out.1.hap HB.out kS_in HdV.out.2 HdV.out.1))
  have HF : Hid (∀ w8, AddPost kS we NB base (Fe kS.c).rb (Fe kS.c).ro (Fe kS.c).E (Fe kS.c).A (T + 1 + 1 + 1) D ⟨.slice pv m m, m, T + 1 + 1 + 1 + 1⟩ w8 → ∃ F' U', BL LQ w8 NB NL base F' (T + 4) D U' rg rw_ G ∧ (∀ k, FP LQ NB NL F' rg rw_ G k → FP LQ NB NL F rg rw_ G k ∨ w.heap.size ≤ k) ∧ Chg (BkRows LQ NB F) w w8) := fun w8 h8 => by
    obtain ⟨F2, U2, Q8, _⟩ := HSe.out.1.take HB.out kS_in (by decide) (by omega) (ownsRow_base HSe.out.2 (by have := Hz.out; omega)) (by omega) HdV.out.2 HdV.out.1 h8
    refine ⟨F2, U2, Q8.bl, fun k hk => ?_, Q8.chg⟩
    rcases hk with hk | hk | hk
    · rcases Q8.rows k hk with h1 | h1
      · exact .inl (.inl h1)
      · exact .inr h1
    · exact .inl (.inr (.inl hk))
    · rcases Q8.db k hk with h1 | ⟨v, hv, h1⟩
      · exact .inl (.inr (.inr h1))
      · refine .inr ?_
        have := Hz.out
        simp only [List.nil_append, List.mem_append, List.mem_singleton] at hv
        rcases hv with ((rfl | rfl) | rfl) | rfl
        · exact (HD.out.1 k h1).1
        · have h2 := (HD.out.2.2.1 k h1).1; omega
        · have h2 := (HD.out.2.1 k h1).1; omega
        · have h2 := (HD.out.2.2.2.1 k h1).1; omega
  go_wp2_with fail
  refine HA3.out.mono ?_
  rintro _ w8 ⟨rfl, hP8⟩
  have HQ := hideB (HF.out w8 hP8)
  clear HF HA3 hP8 HSe HdV
  go_wp2_with fail
  go_ret
  exact ⟨rfl, HQ.out⟩

end Go.Proofs.YtnjcedlbdjidiaaGreatDoor

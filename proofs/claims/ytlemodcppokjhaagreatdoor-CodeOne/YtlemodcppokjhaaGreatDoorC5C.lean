/- Unpack of any kind, asked for any number of values. -/
import Derived.Test.YtlemodcppokjhaaGreatDoorC4A32
import Derived.Test.YtlemodcppokjhaaGreatDoorC4C64
/- Unpack by any kind (32 bits). -/
namespace Go.Proofs.YtlemodcppokjhaaGreatDoor
open Go.RowKit
open M
set_option linter.unusedVariables false
set_option linter.unusedSimpArgs false

/-- The answers of Pack of what a taker told. -/
def AgainEnd32 (k n : Nat) (f : Nat → Nat) (w : World) (e : Ending) (w' : World) : Prop :=
  (∃ (pu : Option Addr) (cu : Nat) (bs : List Nat), e = .returned (.tuple #[.slice pu bs.length cu, .int .i64 0]) ∧ IsBy w' (.slice pu bs.length cu) bs ∧ (∀ n ∈ bs, n < 256) ∧ Below w.heap.size w w' ∧ PackIs32 k n f bs ∧ ∀ bs', PackIs32 k n f bs' → bs' = bs) ∨
  (e = .returned (.tuple #[.slice none 0 0, .int .i64 82]) ∧ Below w.heap.size w w' ∧ ∀ bs, PackIs32 k n f bs → False)

theorem cAgain32 (k : Nat) (p : Option Addr) (n cap : Nat) (f : Nat → Nat) (w : World) (hk1 : 1 ≤ k) (hk6 : k ≤ 6) (h : URow32 w p n f) (hn : n ≤ 4096) (hcap : n ≤ cap) (hf : ∀ i, i < n → f i < 4294967296) (hT : Tab64 w) :
    Calls Tryz.prog 17 #[.int .i64 k, .slice p n cap] w (AgainEnd32 k n f w) := by
  by_cases h0 : n = 0
  · subst h0
    refine (cPack32_empty k p cap w hk1 hk6).mono ?_
    rintro e w' ⟨rfl, hB⟩
    exact .inl ⟨none, 0, [], rfl, .inl (.inl ⟨rfl, rfl⟩), by simp, hB, ⟨hf, fun _ => rfl, fun h => by omega⟩, fun bs' hP => hP.2.1 rfl⟩
  · refine (cPack32_some k p n cap f w hk1 hk6 h (by omega) hn hcap hf hT).mono ?_
    intro e w' hE
    cases ho : codeO32 k f n with
    | none =>
      rw [ho] at hE
      obtain ⟨rfl, hB⟩ := hE
      refine .inr ⟨rfl, hB, fun bs hP => ?_⟩
      obtain ⟨l, h1, _⟩ := hP.2.2 (by omega)
      rw [ho] at h1; cases h1
    | some l =>
      rw [ho] at hE
      obtain ⟨g, L, h1, h2, rfl, h4, h5⟩ := hE
      subst h1
      refine .inl ⟨_, _, packed l, rfl, .inl (isBytes_row h4), packed_lt l, h5, ⟨hf, fun h => absurd h h0, fun _ => ⟨l, ho, rfl⟩⟩, fun bs' hP => ?_⟩
      obtain ⟨l', h1, h2⟩ := hP.2.2 (by omega)
      rw [ho] at h1
      cases h1
      exact h2.symm

set_option maxRecDepth 100000 in
theorem cUnpack32_1 (v : Value) (bs : List Nat) (n : Nat) (w : World) (hv : IsBy w v bs) (hb : ∀ n ∈ bs, n < 256) (hl : bs.length ≤ 1000000000000) (hn : n ≤ 4096) (hT : Tab64 w)
    (hcall : ∀ w1, Below w.heap.size w w1 → Calls Tryz.prog 45 #[v, .int .i64 n] w1 (TakeK32 1 bs n w1)) :
    Calls Tryz.prog 14 #[.int .i64 1, v, .int .i64 n] w (CUnEnd32 1 bs n w) := by
  have hf : Instr.findNow (.int .i64) (.int .i64 1) unpackersE32.toList 0 = some (some (0, .func (.func 45) #[] #[])) := by kernel_rfl
  have HV := hide hv
  have HBB := hide hb
  have HT := hide hT
  have HC := hide hcall
  have HAG := hide (fun p cap f w1 h1 h2 h3 h4 => cAgain32 1 p n cap f w1 (by omega) (by omega) h1 hn h2 h3 h4)
  clear hv hb hT hcall hl
  go_enter Tryz.func14, Tryz.ntmps14
  go_wp2_with fail
  refine (unpackers32_any w).mono ?_
  rintro e w1 ⟨rfl, b1, B1⟩
  have hlk := run_get (P := Tryz.prog) (w := w1) _ _ _ _ _ _ 1 _ _ Tryz.underlying80 Tryz.underlying3 b1 hf
  have HB1 := hide B1
  clear B1 b1 hf
  go_wp2_with fail
  refine (HC.out w1 HB1.out).mono ?_
  intro e w2 hE
  rcases hE with ⟨c, hc, rfl, B2, hno⟩ | ⟨u, f, rfl, hU, hr, hfull⟩
  · have hcn : (c != 0) = true := by rw [bne_iff_ne]; exact hc
    have HFIN : Hid (CUnEnd32 1 bs n w (.returned (.tuple #[.slice none 0 0, .int .i64 83])) w2) := .inl ⟨rfl, HB1.out.trans (B2.mono HB1.out.size), hno⟩
    clear hc B2 hno
    go_wp2_with fail
    go_ret2
    exact HFIN.out
  · obtain ⟨p, cap, rfl, hcap, hrow⟩ := hU.row
    have HU := hide hU
    have HRR := hide (And.intro hr hfull)
    have hB2 := hU.2.1
    have HB2 : Hid (Below w.heap.size w w2) := HB1.out.trans (hB2.mono HB1.out.size)
    have HAGN := hide (HAG.out p cap f w2 hrow hcap hr (HT.out.below HB2.out))
    clear hU hr hfull hrow hB2
    go_wp2_with fail
    refine HAGN.out.mono ?_
    intro e w3 hE
    rcases hE with ⟨px, cx, bx, rfl, hx, hbx, B3, hP, huq⟩ | ⟨rfl, B3, hno⟩
    · have HB3 : Hid (Below w.heap.size w w3) := HB2.out.trans (B3.mono HB2.out.size)
      have HEQ := hide (bytesEqual32_any (.slice px bx.length cx) v bx bs w3 hx (isBy_below HV.out HB3.out) hbx HBB.out)
      by_cases e : bx = bs
      · have HFIN : Hid (CUnEnd32 1 bs n w (.returned (.tuple #[.slice p n cap, .int .i64 0])) w3) := by
          refine .inr ⟨_, f, rfl, ?_, by rw [← e]; exact hP, HRR.out.2⟩
          have h1 := HU.out.1
          have h2 := HB1.out.size
          refine ⟨(ownsRow_keepC32 h1 fun g hg1 hg2 => B3.block g hg2).mono h2, HB3.out, Nat.le_refl _⟩
        rw [decide_eq_true e] at HEQ
        clear hx hbx B3 hP huq e
        go_wp2_with fail
        refine HEQ.out.mono ?_
        rintro e w4 ⟨rfl, h4⟩
        have h4 := h4.symm
        subst h4
        go_wp2_with fail
        go_ret2
        exact HFIN.out
      · have HFIN : Hid (CUnEnd32 1 bs n w (.returned (.tuple #[.slice none 0 0, .int .i64 83])) w3) := by
          refine .inl ⟨rfl, HB3.out, fun h hPh => e ?_⟩
          exact (huq bs (hPh.congr fun i hi => (HRR.out.2 h hPh i hi).symm)).symm
        rw [decide_eq_false e] at HEQ
        clear hx hbx B3 hP huq e
        go_wp2_with fail
        refine HEQ.out.mono ?_
        rintro e w4 ⟨rfl, h4⟩
        have h4 := h4.symm
        subst h4
        go_wp2_with fail
        go_ret2
        exact HFIN.out
    · have HFIN : Hid (CUnEnd32 1 bs n w (.returned (.tuple #[.slice none 0 0, .int .i64 83])) w3) := by
        refine .inl ⟨rfl, HB2.out.trans (B3.mono HB2.out.size), fun h hPh => ?_⟩
        exact hno bs (hPh.congr fun i hi => (HRR.out.2 h hPh i hi).symm)
      clear B3 hno
      go_wp2_with fail
      go_ret2
      exact HFIN.out

set_option maxRecDepth 100000 in
theorem cUnpack32_2 (v : Value) (bs : List Nat) (n : Nat) (w : World) (hv : IsBy w v bs) (hb : ∀ n ∈ bs, n < 256) (hl : bs.length ≤ 1000000000000) (hn : n ≤ 4096) (hT : Tab64 w)
    (hcall : ∀ w1, Below w.heap.size w w1 → Calls Tryz.prog 46 #[v, .int .i64 n] w1 (TakeK32 2 bs n w1)) :
    Calls Tryz.prog 14 #[.int .i64 2, v, .int .i64 n] w (CUnEnd32 2 bs n w) := by
  have hf : Instr.findNow (.int .i64) (.int .i64 2) unpackersE32.toList 0 = some (some (1, .func (.func 46) #[] #[])) := by kernel_rfl
  have HV := hide hv
  have HBB := hide hb
  have HT := hide hT
  have HC := hide hcall
  have HAG := hide (fun p cap f w1 h1 h2 h3 h4 => cAgain32 2 p n cap f w1 (by omega) (by omega) h1 hn h2 h3 h4)
  clear hv hb hT hcall hl
  go_enter Tryz.func14, Tryz.ntmps14
  go_wp2_with fail
  refine (unpackers32_any w).mono ?_
  rintro e w1 ⟨rfl, b1, B1⟩
  have hlk := run_get (P := Tryz.prog) (w := w1) _ _ _ _ _ _ 2 _ _ Tryz.underlying80 Tryz.underlying3 b1 hf
  have HB1 := hide B1
  clear B1 b1 hf
  go_wp2_with fail
  refine (HC.out w1 HB1.out).mono ?_
  intro e w2 hE
  rcases hE with ⟨c, hc, rfl, B2, hno⟩ | ⟨u, f, rfl, hU, hr, hfull⟩
  · have hcn : (c != 0) = true := by rw [bne_iff_ne]; exact hc
    have HFIN : Hid (CUnEnd32 2 bs n w (.returned (.tuple #[.slice none 0 0, .int .i64 83])) w2) := .inl ⟨rfl, HB1.out.trans (B2.mono HB1.out.size), hno⟩
    clear hc B2 hno
    go_wp2_with fail
    go_ret2
    exact HFIN.out
  · obtain ⟨p, cap, rfl, hcap, hrow⟩ := hU.row
    have HU := hide hU
    have HRR := hide (And.intro hr hfull)
    have hB2 := hU.2.1
    have HB2 : Hid (Below w.heap.size w w2) := HB1.out.trans (hB2.mono HB1.out.size)
    have HAGN := hide (HAG.out p cap f w2 hrow hcap hr (HT.out.below HB2.out))
    clear hU hr hfull hrow hB2
    go_wp2_with fail
    refine HAGN.out.mono ?_
    intro e w3 hE
    rcases hE with ⟨px, cx, bx, rfl, hx, hbx, B3, hP, huq⟩ | ⟨rfl, B3, hno⟩
    · have HB3 : Hid (Below w.heap.size w w3) := HB2.out.trans (B3.mono HB2.out.size)
      have HEQ := hide (bytesEqual32_any (.slice px bx.length cx) v bx bs w3 hx (isBy_below HV.out HB3.out) hbx HBB.out)
      by_cases e : bx = bs
      · have HFIN : Hid (CUnEnd32 2 bs n w (.returned (.tuple #[.slice p n cap, .int .i64 0])) w3) := by
          refine .inr ⟨_, f, rfl, ?_, by rw [← e]; exact hP, HRR.out.2⟩
          have h1 := HU.out.1
          have h2 := HB1.out.size
          refine ⟨(ownsRow_keepC32 h1 fun g hg1 hg2 => B3.block g hg2).mono h2, HB3.out, Nat.le_refl _⟩
        rw [decide_eq_true e] at HEQ
        clear hx hbx B3 hP huq e
        go_wp2_with fail
        refine HEQ.out.mono ?_
        rintro e w4 ⟨rfl, h4⟩
        have h4 := h4.symm
        subst h4
        go_wp2_with fail
        go_ret2
        exact HFIN.out
      · have HFIN : Hid (CUnEnd32 2 bs n w (.returned (.tuple #[.slice none 0 0, .int .i64 83])) w3) := by
          refine .inl ⟨rfl, HB3.out, fun h hPh => e ?_⟩
          exact (huq bs (hPh.congr fun i hi => (HRR.out.2 h hPh i hi).symm)).symm
        rw [decide_eq_false e] at HEQ
        clear hx hbx B3 hP huq e
        go_wp2_with fail
        refine HEQ.out.mono ?_
        rintro e w4 ⟨rfl, h4⟩
        have h4 := h4.symm
        subst h4
        go_wp2_with fail
        go_ret2
        exact HFIN.out
    · have HFIN : Hid (CUnEnd32 2 bs n w (.returned (.tuple #[.slice none 0 0, .int .i64 83])) w3) := by
        refine .inl ⟨rfl, HB2.out.trans (B3.mono HB2.out.size), fun h hPh => ?_⟩
        exact hno bs (hPh.congr fun i hi => (HRR.out.2 h hPh i hi).symm)
      clear B3 hno
      go_wp2_with fail
      go_ret2
      exact HFIN.out

set_option maxRecDepth 100000 in
theorem cUnpack32_3 (v : Value) (bs : List Nat) (n : Nat) (w : World) (hv : IsBy w v bs) (hb : ∀ n ∈ bs, n < 256) (hl : bs.length ≤ 1000000000000) (hn : n ≤ 4096) (hT : Tab64 w)
    (hcall : ∀ w1, Below w.heap.size w w1 → Calls Tryz.prog 47 #[v, .int .i64 n] w1 (TakeK32 3 bs n w1)) :
    Calls Tryz.prog 14 #[.int .i64 3, v, .int .i64 n] w (CUnEnd32 3 bs n w) := by
  have hf : Instr.findNow (.int .i64) (.int .i64 3) unpackersE32.toList 0 = some (some (2, .func (.func 47) #[] #[])) := by kernel_rfl
  have HV := hide hv
  have HBB := hide hb
  have HT := hide hT
  have HC := hide hcall
  have HAG := hide (fun p cap f w1 h1 h2 h3 h4 => cAgain32 3 p n cap f w1 (by omega) (by omega) h1 hn h2 h3 h4)
  clear hv hb hT hcall hl
  go_enter Tryz.func14, Tryz.ntmps14
  go_wp2_with fail
  refine (unpackers32_any w).mono ?_
  rintro e w1 ⟨rfl, b1, B1⟩
  have hlk := run_get (P := Tryz.prog) (w := w1) _ _ _ _ _ _ 3 _ _ Tryz.underlying80 Tryz.underlying3 b1 hf
  have HB1 := hide B1
  clear B1 b1 hf
  go_wp2_with fail
  refine (HC.out w1 HB1.out).mono ?_
  intro e w2 hE
  rcases hE with ⟨c, hc, rfl, B2, hno⟩ | ⟨u, f, rfl, hU, hr, hfull⟩
  · have hcn : (c != 0) = true := by rw [bne_iff_ne]; exact hc
    have HFIN : Hid (CUnEnd32 3 bs n w (.returned (.tuple #[.slice none 0 0, .int .i64 83])) w2) := .inl ⟨rfl, HB1.out.trans (B2.mono HB1.out.size), hno⟩
    clear hc B2 hno
    go_wp2_with fail
    go_ret2
    exact HFIN.out
  · obtain ⟨p, cap, rfl, hcap, hrow⟩ := hU.row
    have HU := hide hU
    have HRR := hide (And.intro hr hfull)
    have hB2 := hU.2.1
    have HB2 : Hid (Below w.heap.size w w2) := HB1.out.trans (hB2.mono HB1.out.size)
    have HAGN := hide (HAG.out p cap f w2 hrow hcap hr (HT.out.below HB2.out))
    clear hU hr hfull hrow hB2
    go_wp2_with fail
    refine HAGN.out.mono ?_
    intro e w3 hE
    rcases hE with ⟨px, cx, bx, rfl, hx, hbx, B3, hP, huq⟩ | ⟨rfl, B3, hno⟩
    · have HB3 : Hid (Below w.heap.size w w3) := HB2.out.trans (B3.mono HB2.out.size)
      have HEQ := hide (bytesEqual32_any (.slice px bx.length cx) v bx bs w3 hx (isBy_below HV.out HB3.out) hbx HBB.out)
      by_cases e : bx = bs
      · have HFIN : Hid (CUnEnd32 3 bs n w (.returned (.tuple #[.slice p n cap, .int .i64 0])) w3) := by
          refine .inr ⟨_, f, rfl, ?_, by rw [← e]; exact hP, HRR.out.2⟩
          have h1 := HU.out.1
          have h2 := HB1.out.size
          refine ⟨(ownsRow_keepC32 h1 fun g hg1 hg2 => B3.block g hg2).mono h2, HB3.out, Nat.le_refl _⟩
        rw [decide_eq_true e] at HEQ
        clear hx hbx B3 hP huq e
        go_wp2_with fail
        refine HEQ.out.mono ?_
        rintro e w4 ⟨rfl, h4⟩
        have h4 := h4.symm
        subst h4
        go_wp2_with fail
        go_ret2
        exact HFIN.out
      · have HFIN : Hid (CUnEnd32 3 bs n w (.returned (.tuple #[.slice none 0 0, .int .i64 83])) w3) := by
          refine .inl ⟨rfl, HB3.out, fun h hPh => e ?_⟩
          exact (huq bs (hPh.congr fun i hi => (HRR.out.2 h hPh i hi).symm)).symm
        rw [decide_eq_false e] at HEQ
        clear hx hbx B3 hP huq e
        go_wp2_with fail
        refine HEQ.out.mono ?_
        rintro e w4 ⟨rfl, h4⟩
        have h4 := h4.symm
        subst h4
        go_wp2_with fail
        go_ret2
        exact HFIN.out
    · have HFIN : Hid (CUnEnd32 3 bs n w (.returned (.tuple #[.slice none 0 0, .int .i64 83])) w3) := by
        refine .inl ⟨rfl, HB2.out.trans (B3.mono HB2.out.size), fun h hPh => ?_⟩
        exact hno bs (hPh.congr fun i hi => (HRR.out.2 h hPh i hi).symm)
      clear B3 hno
      go_wp2_with fail
      go_ret2
      exact HFIN.out

set_option maxRecDepth 100000 in
theorem cUnpack32_4 (v : Value) (bs : List Nat) (n : Nat) (w : World) (hv : IsBy w v bs) (hb : ∀ n ∈ bs, n < 256) (hl : bs.length ≤ 1000000000000) (hn : n ≤ 4096) (hT : Tab64 w)
    (hcall : ∀ w1, Below w.heap.size w w1 → Calls Tryz.prog 48 #[v, .int .i64 n] w1 (TakeK32 4 bs n w1)) :
    Calls Tryz.prog 14 #[.int .i64 4, v, .int .i64 n] w (CUnEnd32 4 bs n w) := by
  have hf : Instr.findNow (.int .i64) (.int .i64 4) unpackersE32.toList 0 = some (some (3, .func (.func 48) #[] #[])) := by kernel_rfl
  have HV := hide hv
  have HBB := hide hb
  have HT := hide hT
  have HC := hide hcall
  have HAG := hide (fun p cap f w1 h1 h2 h3 h4 => cAgain32 4 p n cap f w1 (by omega) (by omega) h1 hn h2 h3 h4)
  clear hv hb hT hcall hl
  go_enter Tryz.func14, Tryz.ntmps14
  go_wp2_with fail
  refine (unpackers32_any w).mono ?_
  rintro e w1 ⟨rfl, b1, B1⟩
  have hlk := run_get (P := Tryz.prog) (w := w1) _ _ _ _ _ _ 4 _ _ Tryz.underlying80 Tryz.underlying3 b1 hf
  have HB1 := hide B1
  clear B1 b1 hf
  go_wp2_with fail
  refine (HC.out w1 HB1.out).mono ?_
  intro e w2 hE
  rcases hE with ⟨c, hc, rfl, B2, hno⟩ | ⟨u, f, rfl, hU, hr, hfull⟩
  · have hcn : (c != 0) = true := by rw [bne_iff_ne]; exact hc
    have HFIN : Hid (CUnEnd32 4 bs n w (.returned (.tuple #[.slice none 0 0, .int .i64 83])) w2) := .inl ⟨rfl, HB1.out.trans (B2.mono HB1.out.size), hno⟩
    clear hc B2 hno
    go_wp2_with fail
    go_ret2
    exact HFIN.out
  · obtain ⟨p, cap, rfl, hcap, hrow⟩ := hU.row
    have HU := hide hU
    have HRR := hide (And.intro hr hfull)
    have hB2 := hU.2.1
    have HB2 : Hid (Below w.heap.size w w2) := HB1.out.trans (hB2.mono HB1.out.size)
    have HAGN := hide (HAG.out p cap f w2 hrow hcap hr (HT.out.below HB2.out))
    clear hU hr hfull hrow hB2
    go_wp2_with fail
    refine HAGN.out.mono ?_
    intro e w3 hE
    rcases hE with ⟨px, cx, bx, rfl, hx, hbx, B3, hP, huq⟩ | ⟨rfl, B3, hno⟩
    · have HB3 : Hid (Below w.heap.size w w3) := HB2.out.trans (B3.mono HB2.out.size)
      have HEQ := hide (bytesEqual32_any (.slice px bx.length cx) v bx bs w3 hx (isBy_below HV.out HB3.out) hbx HBB.out)
      by_cases e : bx = bs
      · have HFIN : Hid (CUnEnd32 4 bs n w (.returned (.tuple #[.slice p n cap, .int .i64 0])) w3) := by
          refine .inr ⟨_, f, rfl, ?_, by rw [← e]; exact hP, HRR.out.2⟩
          have h1 := HU.out.1
          have h2 := HB1.out.size
          refine ⟨(ownsRow_keepC32 h1 fun g hg1 hg2 => B3.block g hg2).mono h2, HB3.out, Nat.le_refl _⟩
        rw [decide_eq_true e] at HEQ
        clear hx hbx B3 hP huq e
        go_wp2_with fail
        refine HEQ.out.mono ?_
        rintro e w4 ⟨rfl, h4⟩
        have h4 := h4.symm
        subst h4
        go_wp2_with fail
        go_ret2
        exact HFIN.out
      · have HFIN : Hid (CUnEnd32 4 bs n w (.returned (.tuple #[.slice none 0 0, .int .i64 83])) w3) := by
          refine .inl ⟨rfl, HB3.out, fun h hPh => e ?_⟩
          exact (huq bs (hPh.congr fun i hi => (HRR.out.2 h hPh i hi).symm)).symm
        rw [decide_eq_false e] at HEQ
        clear hx hbx B3 hP huq e
        go_wp2_with fail
        refine HEQ.out.mono ?_
        rintro e w4 ⟨rfl, h4⟩
        have h4 := h4.symm
        subst h4
        go_wp2_with fail
        go_ret2
        exact HFIN.out
    · have HFIN : Hid (CUnEnd32 4 bs n w (.returned (.tuple #[.slice none 0 0, .int .i64 83])) w3) := by
        refine .inl ⟨rfl, HB2.out.trans (B3.mono HB2.out.size), fun h hPh => ?_⟩
        exact hno bs (hPh.congr fun i hi => (HRR.out.2 h hPh i hi).symm)
      clear B3 hno
      go_wp2_with fail
      go_ret2
      exact HFIN.out

set_option maxRecDepth 100000 in
theorem cUnpack32_5 (v : Value) (bs : List Nat) (n : Nat) (w : World) (hv : IsBy w v bs) (hb : ∀ n ∈ bs, n < 256) (hl : bs.length ≤ 1000000000000) (hn : n ≤ 4096) (hT : Tab64 w)
    (hcall : ∀ w1, Below w.heap.size w w1 → Calls Tryz.prog 49 #[v, .int .i64 n] w1 (TakeK32 5 bs n w1)) :
    Calls Tryz.prog 14 #[.int .i64 5, v, .int .i64 n] w (CUnEnd32 5 bs n w) := by
  have hf : Instr.findNow (.int .i64) (.int .i64 5) unpackersE32.toList 0 = some (some (4, .func (.func 49) #[] #[])) := by kernel_rfl
  have HV := hide hv
  have HBB := hide hb
  have HT := hide hT
  have HC := hide hcall
  have HAG := hide (fun p cap f w1 h1 h2 h3 h4 => cAgain32 5 p n cap f w1 (by omega) (by omega) h1 hn h2 h3 h4)
  clear hv hb hT hcall hl
  go_enter Tryz.func14, Tryz.ntmps14
  go_wp2_with fail
  refine (unpackers32_any w).mono ?_
  rintro e w1 ⟨rfl, b1, B1⟩
  have hlk := run_get (P := Tryz.prog) (w := w1) _ _ _ _ _ _ 5 _ _ Tryz.underlying80 Tryz.underlying3 b1 hf
  have HB1 := hide B1
  clear B1 b1 hf
  go_wp2_with fail
  refine (HC.out w1 HB1.out).mono ?_
  intro e w2 hE
  rcases hE with ⟨c, hc, rfl, B2, hno⟩ | ⟨u, f, rfl, hU, hr, hfull⟩
  · have hcn : (c != 0) = true := by rw [bne_iff_ne]; exact hc
    have HFIN : Hid (CUnEnd32 5 bs n w (.returned (.tuple #[.slice none 0 0, .int .i64 83])) w2) := .inl ⟨rfl, HB1.out.trans (B2.mono HB1.out.size), hno⟩
    clear hc B2 hno
    go_wp2_with fail
    go_ret2
    exact HFIN.out
  · obtain ⟨p, cap, rfl, hcap, hrow⟩ := hU.row
    have HU := hide hU
    have HRR := hide (And.intro hr hfull)
    have hB2 := hU.2.1
    have HB2 : Hid (Below w.heap.size w w2) := HB1.out.trans (hB2.mono HB1.out.size)
    have HAGN := hide (HAG.out p cap f w2 hrow hcap hr (HT.out.below HB2.out))
    clear hU hr hfull hrow hB2
    go_wp2_with fail
    refine HAGN.out.mono ?_
    intro e w3 hE
    rcases hE with ⟨px, cx, bx, rfl, hx, hbx, B3, hP, huq⟩ | ⟨rfl, B3, hno⟩
    · have HB3 : Hid (Below w.heap.size w w3) := HB2.out.trans (B3.mono HB2.out.size)
      have HEQ := hide (bytesEqual32_any (.slice px bx.length cx) v bx bs w3 hx (isBy_below HV.out HB3.out) hbx HBB.out)
      by_cases e : bx = bs
      · have HFIN : Hid (CUnEnd32 5 bs n w (.returned (.tuple #[.slice p n cap, .int .i64 0])) w3) := by
          refine .inr ⟨_, f, rfl, ?_, by rw [← e]; exact hP, HRR.out.2⟩
          have h1 := HU.out.1
          have h2 := HB1.out.size
          refine ⟨(ownsRow_keepC32 h1 fun g hg1 hg2 => B3.block g hg2).mono h2, HB3.out, Nat.le_refl _⟩
        rw [decide_eq_true e] at HEQ
        clear hx hbx B3 hP huq e
        go_wp2_with fail
        refine HEQ.out.mono ?_
        rintro e w4 ⟨rfl, h4⟩
        have h4 := h4.symm
        subst h4
        go_wp2_with fail
        go_ret2
        exact HFIN.out
      · have HFIN : Hid (CUnEnd32 5 bs n w (.returned (.tuple #[.slice none 0 0, .int .i64 83])) w3) := by
          refine .inl ⟨rfl, HB3.out, fun h hPh => e ?_⟩
          exact (huq bs (hPh.congr fun i hi => (HRR.out.2 h hPh i hi).symm)).symm
        rw [decide_eq_false e] at HEQ
        clear hx hbx B3 hP huq e
        go_wp2_with fail
        refine HEQ.out.mono ?_
        rintro e w4 ⟨rfl, h4⟩
        have h4 := h4.symm
        subst h4
        go_wp2_with fail
        go_ret2
        exact HFIN.out
    · have HFIN : Hid (CUnEnd32 5 bs n w (.returned (.tuple #[.slice none 0 0, .int .i64 83])) w3) := by
        refine .inl ⟨rfl, HB2.out.trans (B3.mono HB2.out.size), fun h hPh => ?_⟩
        exact hno bs (hPh.congr fun i hi => (HRR.out.2 h hPh i hi).symm)
      clear B3 hno
      go_wp2_with fail
      go_ret2
      exact HFIN.out

set_option maxRecDepth 100000 in
theorem cUnpack32_6 (v : Value) (bs : List Nat) (n : Nat) (w : World) (hv : IsBy w v bs) (hb : ∀ n ∈ bs, n < 256) (hl : bs.length ≤ 1000000000000) (hn : n ≤ 4096) (hT : Tab64 w)
    (hcall : ∀ w1, Below w.heap.size w w1 → Calls Tryz.prog 50 #[v, .int .i64 n] w1 (TakeK32 6 bs n w1)) :
    Calls Tryz.prog 14 #[.int .i64 6, v, .int .i64 n] w (CUnEnd32 6 bs n w) := by
  have hf : Instr.findNow (.int .i64) (.int .i64 6) unpackersE32.toList 0 = some (some (5, .func (.func 50) #[] #[])) := by kernel_rfl
  have HV := hide hv
  have HBB := hide hb
  have HT := hide hT
  have HC := hide hcall
  have HAG := hide (fun p cap f w1 h1 h2 h3 h4 => cAgain32 6 p n cap f w1 (by omega) (by omega) h1 hn h2 h3 h4)
  clear hv hb hT hcall hl
  go_enter Tryz.func14, Tryz.ntmps14
  go_wp2_with fail
  refine (unpackers32_any w).mono ?_
  rintro e w1 ⟨rfl, b1, B1⟩
  have hlk := run_get (P := Tryz.prog) (w := w1) _ _ _ _ _ _ 6 _ _ Tryz.underlying80 Tryz.underlying3 b1 hf
  have HB1 := hide B1
  clear B1 b1 hf
  go_wp2_with fail
  refine (HC.out w1 HB1.out).mono ?_
  intro e w2 hE
  rcases hE with ⟨c, hc, rfl, B2, hno⟩ | ⟨u, f, rfl, hU, hr, hfull⟩
  · have hcn : (c != 0) = true := by rw [bne_iff_ne]; exact hc
    have HFIN : Hid (CUnEnd32 6 bs n w (.returned (.tuple #[.slice none 0 0, .int .i64 83])) w2) := .inl ⟨rfl, HB1.out.trans (B2.mono HB1.out.size), hno⟩
    clear hc B2 hno
    go_wp2_with fail
    go_ret2
    exact HFIN.out
  · obtain ⟨p, cap, rfl, hcap, hrow⟩ := hU.row
    have HU := hide hU
    have HRR := hide (And.intro hr hfull)
    have hB2 := hU.2.1
    have HB2 : Hid (Below w.heap.size w w2) := HB1.out.trans (hB2.mono HB1.out.size)
    have HAGN := hide (HAG.out p cap f w2 hrow hcap hr (HT.out.below HB2.out))
    clear hU hr hfull hrow hB2
    go_wp2_with fail
    refine HAGN.out.mono ?_
    intro e w3 hE
    rcases hE with ⟨px, cx, bx, rfl, hx, hbx, B3, hP, huq⟩ | ⟨rfl, B3, hno⟩
    · have HB3 : Hid (Below w.heap.size w w3) := HB2.out.trans (B3.mono HB2.out.size)
      have HEQ := hide (bytesEqual32_any (.slice px bx.length cx) v bx bs w3 hx (isBy_below HV.out HB3.out) hbx HBB.out)
      by_cases e : bx = bs
      · have HFIN : Hid (CUnEnd32 6 bs n w (.returned (.tuple #[.slice p n cap, .int .i64 0])) w3) := by
          refine .inr ⟨_, f, rfl, ?_, by rw [← e]; exact hP, HRR.out.2⟩
          have h1 := HU.out.1
          have h2 := HB1.out.size
          refine ⟨(ownsRow_keepC32 h1 fun g hg1 hg2 => B3.block g hg2).mono h2, HB3.out, Nat.le_refl _⟩
        rw [decide_eq_true e] at HEQ
        clear hx hbx B3 hP huq e
        go_wp2_with fail
        refine HEQ.out.mono ?_
        rintro e w4 ⟨rfl, h4⟩
        have h4 := h4.symm
        subst h4
        go_wp2_with fail
        go_ret2
        exact HFIN.out
      · have HFIN : Hid (CUnEnd32 6 bs n w (.returned (.tuple #[.slice none 0 0, .int .i64 83])) w3) := by
          refine .inl ⟨rfl, HB3.out, fun h hPh => e ?_⟩
          exact (huq bs (hPh.congr fun i hi => (HRR.out.2 h hPh i hi).symm)).symm
        rw [decide_eq_false e] at HEQ
        clear hx hbx B3 hP huq e
        go_wp2_with fail
        refine HEQ.out.mono ?_
        rintro e w4 ⟨rfl, h4⟩
        have h4 := h4.symm
        subst h4
        go_wp2_with fail
        go_ret2
        exact HFIN.out
    · have HFIN : Hid (CUnEnd32 6 bs n w (.returned (.tuple #[.slice none 0 0, .int .i64 83])) w3) := by
        refine .inl ⟨rfl, HB2.out.trans (B3.mono HB2.out.size), fun h hPh => ?_⟩
        exact hno bs (hPh.congr fun i hi => (HRR.out.2 h hPh i hi).symm)
      clear B3 hno
      go_wp2_with fail
      go_ret2
      exact HFIN.out

theorem cUnpack32_any (k : Nat) (v : Value) (bs : List Nat) (n : Nat) (w : World) (hk1 : 1 ≤ k) (hk6 : k ≤ 6) (hv : IsBy w v bs) (hb : ∀ n ∈ bs, n < 256) (hl : bs.length ≤ 1000000000000) (hn : n ≤ 4096) (hT : Tab64 w) :
    Calls Tryz.prog 14 #[.int .i64 k, v, .int .i64 n] w (CUnEnd32 k bs n w) := by
  obtain rfl | rfl | rfl | rfl | rfl | rfl : k = 1 ∨ k = 2 ∨ k = 3 ∨ k = 4 ∨ k = 5 ∨ k = 6 := by omega
  · exact cUnpack32_1 v bs n w hv hb hl hn hT fun w1 B1 => (unpackPlain32_any v bs n w1 (isBy_below hv B1) hb hl hn).mono fun e w' hE => takeK_of32 rfl (unEnd_of_vals32 (fun h => rfl) hn hE)
  · exact cUnpack32_2 v bs n w hv hb hl hn hT fun w1 B1 => (unpack32_any v bs n w1 (isBy_below hv B1) hb hl hn (hT.below B1)).mono fun e w' hE => takeK_xor32 hn hE
  · exact cUnpack32_3 v bs n w hv hb hl hn hT fun w1 B1 => (unpackRuns32_any v bs n w1 (isBy_below hv B1) hb hl hn).mono fun e w' hE => takeK_of32 rfl hE
  · exact cUnpack32_4 v bs n w hv hb hl hn hT fun w1 B1 => (unpackDict32_any v bs n w1 (isBy_below hv B1) hb hl hn).mono fun e w' hE => takeK_of32 rfl hE
  · exact cUnpack32_5 v bs n w hv hb hl hn hT fun w1 B1 => (unpackStride32_any v bs n w1 (isBy_below hv B1) hb hl hn).mono fun e w' hE => takeK_of32 rfl (unEnd_of_vals32 (fun h => rfl) hn hE)
  · exact cUnpack32_6 v bs n w hv hb hl hn hT fun w1 B1 => (unpackDecimal32_any v bs n w1 (isBy_below hv B1) hb hl hn).mono fun e w' hE => takeK_of32 rfl hE

end Go.Proofs.YtlemodcppokjhaaGreatDoor

/- Best (32 bits). -/
namespace Go.Proofs.YtlemodcppokjhaaGreatDoor
open Go.RowKit
open M
set_option linter.unusedVariables false
set_option linter.unusedSimpArgs false

/-- k is the best of the kinds up to q, bs its bytes. -/
structure Bst32 (n : Nat) (f : Nat → Nat) (q k : Nat) (bs : List Nat) : Prop where
  lo : 1 ≤ k
  hi : k ≤ q
  is : PackIs32 k n f bs
  least : ∀ k' bs', 1 ≤ k' → k' ≤ q → PackIs32 k' n f bs' → bs.length < bs'.length ∨ (bs.length = bs'.length ∧ k ≤ k')

/-- What Best tells. -/
def BestEnd32 (n : Nat) (f : Nat → Nat) (w : World) (e : Ending) (w' : World) : Prop :=
  ∃ (k : Nat) (p : Option Addr) (c : Nat) (bs : List Nat), e = .returned (.tuple #[.int .i64 (k : Int), .slice p bs.length c, .int .i64 0]) ∧ IsBy w' (.slice p bs.length c) bs ∧ (∀ n ∈ bs, n < 256) ∧ Bst32 n f 6 k bs ∧ Below w.heap.size w w'

set_option maxRecDepth 100000 in
theorem best32_any (p : Option Addr) (n cap : Nat) (f : Nat → Nat) (w : World) (h : URow32 w p n f) (hn : n ≤ 4096) (hcap : n ≤ cap) (hf : ∀ i, i < n → f i < 4294967296) (hT : Tab64 w) :
    Calls Tryz.prog 32 #[.slice p n cap] w (BestEnd32 n f w) := by
  have HAG := hide (fun k w1 (hk1 : 1 ≤ k) (hk6 : k ≤ 6) (hB : Below w.heap.size w w1) => cAgain32 k p n cap f w1 hk1 hk6 (h.below hB) hn hcap hf (hT.below hB))
  have HA1 := hide (cAgain32 1 p n cap f w (by omega) (by omega) h hn hcap hf hT)
  have HN1 : Hid (∀ w' e, AgainEnd32 1 n f w e w' → ∃ (pu : Option Addr) (cu : Nat) (bs : List Nat), e = .returned (.tuple #[.slice pu bs.length cu, .int .i64 0]) ∧ IsBy w' (.slice pu bs.length cu) bs ∧ (∀ n ∈ bs, n < 256) ∧ Below w.heap.size w w' ∧ Bst32 n f 1 1 bs) := fun w' e hE => by
    rcases hE with ⟨pu, cu, bs, h1, h2, h3, h4, h5, h6⟩ | ⟨_, _, h3⟩
    · refine ⟨pu, cu, bs, h1, h2, h3, h4, Nat.le_refl _, Nat.le_refl _, h5, fun k' bs' hk1 hk2 hP => ?_⟩
      obtain rfl : k' = 1 := by omega
      exact .inr ⟨by rw [h6 bs' hP], Nat.le_refl _⟩
    · exfalso
      by_cases h0 : n = 0
      · exact h3 [] ⟨hf, fun _ => rfl, fun h => by omega⟩
      · exact h3 _ ⟨hf, fun h => absurd h h0, fun _ => ⟨_, rfl, rfl⟩⟩
  clear h hf hT
  go_enter Tryz.func32, Tryz.ntmps32
  go_wp2_with fail
  refine HA1.out.mono ?_
  intro e w1 hE
  obtain ⟨pu, cu, bs, rfl, h2, h3, h4, h5⟩ := HN1.out w1 e hE
  have H1 := hide (And.intro h2 (And.intro h3 (And.intro h4 h5)))
  clear hE h2 h3 h4 h5 HN1 HA1
  go_wp2_with fail
  go_loopw [5, 6, 8] (fun t5 t6 t8 wr => ∃ (q k : Nat) (pu : Option Addr) (cu : Nat) (bs : List Nat), t8 = .int .i64 ((q : Int) + 1) ∧ t5 = .int .i64 (k : Int) ∧ t6 = .slice pu bs.length cu ∧ Hid (q ≤ 6 ∧ IsBy wr (.slice pu bs.length cu) bs ∧ (∀ n ∈ bs, n < 256) ∧ Bst32 n f q k bs ∧ Below w.heap.size w wr)) (fun _ _ t8 _ => 7 - (intOf t8).toNat)
  case atStart => exact ⟨1, 1, pu, cu, bs, rfl, rfl, rfl, by omega, H1.out.1, H1.out.2.1, H1.out.2.2.2, H1.out.2.2.1⟩
  case round =>
    obtain ⟨q, k, pu, cu, bs, rfl, rfl, rfl, hI⟩ := hrel
    by_cases hlt : q + 1 ≤ 6
    · have hle : (q : Int) + 1 ≤ 6 := by omega
      have HQ := hide (HAG.out (q + 1) wr (by omega) hlt hI.out.2.2.2.2)
      rw [show (((q + 1 : Nat)) : Int) = (q : Int) + 1 from by simp] at HQ
      go_wp2_with fail
      refine HQ.out.mono ?_
      intro e w2 hE
      rcases hE with ⟨pv, cv, bv, rfl, h2, h3, h4, h5, h6⟩ | ⟨rfl, h2, h3⟩
      · have HBB : Hid (Below w.heap.size w w2) := hI.out.2.2.2.2.trans (h4.mono hI.out.2.2.2.2.size)
        have HOLD : Hid (IsBy w2 (.slice pu bs.length cu) bs) := isBy_below hI.out.2.1 h4
        by_cases hl : bv.length < bs.length
        · have HN : Hid (Bst32 n f (q + 1) (q + 1) bv) := by
            refine ⟨by omega, Nat.le_refl _, h5, fun k' bs' hk1 hk2 hP => ?_⟩
            by_cases e : k' = q + 1
            · subst e; exact .inr ⟨by rw [h6 bs' hP], Nat.le_refl _⟩
            · rcases hI.out.2.2.2.1.least k' bs' hk1 (by omega) hP with h | h
              · exact .inl (by omega)
              · exact .inl (by omega)
          have HNB := hide (And.intro h2 h3)
          clear h2 h3 h4 h5 h6
          go_wp2_with fail
          go_roundw
          case rel => exact ⟨q + 1, q + 1, pv, cv, bv, by simp, by simp, by simp, hlt, HNB.out.1, HNB.out.2, HN.out, HBB.out⟩
          case measure => simp [intOf]; omega
        · have HN : Hid (Bst32 n f (q + 1) k bs) := by
            have B := hI.out.2.2.2.1
            refine ⟨B.lo, by have := B.hi; omega, B.is, fun k' bs' hk1 hk2 hP => ?_⟩
            by_cases e : k' = q + 1
            · subst e
              rw [h6 bs' hP]
              have := B.hi
              omega
            · exact B.least k' bs' hk1 (by omega) hP
          have H3 := hide hI.out.2.2.1
          clear h2 h3 h4 h5 h6 hI
          go_wp2_with fail
          go_roundw
          case rel => exact ⟨q + 1, k, pu, cu, bs, by simp, by simp, by simp, hlt, HOLD.out, H3.out, HN.out, HBB.out⟩
          case measure => simp [intOf]; omega
      · have HBB : Hid (Below w.heap.size w w2) := hI.out.2.2.2.2.trans (h2.mono hI.out.2.2.2.2.size)
        have HOLD : Hid (IsBy w2 (.slice pu bs.length cu) bs) := isBy_below hI.out.2.1 h2
        have HN : Hid (Bst32 n f (q + 1) k bs) := by
          have B := hI.out.2.2.2.1
          refine ⟨B.lo, by have := B.hi; omega, B.is, fun k' bs' hk1 hk2 hP => ?_⟩
          by_cases e : k' = q + 1
          · subst e; exact (h3 bs' hP).elim
          · exact B.least k' bs' hk1 (by omega) hP
        have H3 := hide hI.out.2.2.1
        clear h2 h3 hI
        go_wp2_with fail
        go_roundw
        case rel => exact ⟨q + 1, k, pu, cu, bs, by simp, by simp, by simp, hlt, HOLD.out, H3.out, HN.out, HBB.out⟩
        case measure => simp [intOf]; omega
    · have hq : q = 6 := by have := hI.out.1; omega
      subst hq
      have HFIN : Hid (BestEnd32 n f w (.returned (.tuple #[.int .i64 (k : Int), .slice pu bs.length cu, .int .i64 0])) wr) := ⟨k, pu, cu, bs, rfl, hI.out.2.1, hI.out.2.2.1, hI.out.2.2.2.1, hI.out.2.2.2.2⟩
      go_wp2_with fail
      go_ret3
      exact HFIN.out

end Go.Proofs.YtlemodcppokjhaaGreatDoor

namespace Go.Proofs.YtlemodcppokjhaaGreatDoor
open Go.RowKit
open M
set_option linter.unusedVariables false
set_option linter.unusedSimpArgs false

theorem unpackersE64_known (k : Nat) (h1 : 1 ≤ k) (h6 : k ≤ 6) : ∃ i v, Instr.findNow (.int .i64) (.int .i64 (k : Int)) unpackersE64.toList 0 = some (some (i, v)) := by
  obtain rfl | rfl | rfl | rfl | rfl | rfl : k = 1 ∨ k = 2 ∨ k = 3 ∨ k = 4 ∨ k = 5 ∨ k = 6 := by omega
  all_goals exact ⟨_, _, rfl⟩

set_option maxRecDepth 100000 in
theorem cUnpack64_none (k n : Int) (v : Value) (w : World) (h : k < 1 ∨ 6 < k) :
    Calls Tryz.prog 13 #[.int .i64 k, v, .int .i64 n] w fun e w' => e = .returned (.tuple #[.slice none 0 0, .int .i64 80]) ∧ Below w.heap.size w w' := by
  have hz : ∀ w1 : World, (zeroValue 73).run Tryz.prog w1 = .ok .nilFunc w1 := fun w1 => by kernel_rfl
  have hf : Instr.findNow (.int .i64) (.int .i64 k) unpackersE64.toList 0 = some none := by
    have e1 : (k == 1) = false := by rw [beq_eq_false_iff_ne]; omega
    have e2 : (k == 2) = false := by rw [beq_eq_false_iff_ne]; omega
    have e3 : (k == 3) = false := by rw [beq_eq_false_iff_ne]; omega
    have e4 : (k == 4) = false := by rw [beq_eq_false_iff_ne]; omega
    have e5 : (k == 5) = false := by rw [beq_eq_false_iff_ne]; omega
    have e6 : (k == 6) = false := by rw [beq_eq_false_iff_ne]; omega
    simp [unpackersE64, Instr.findNow, Instr.sameNow, e1, e2, e3, e4, e5, e6]
  clear h
  go_enter Tryz.func13, Tryz.ntmps13
  go_wp2_with fail
  refine (unpackers64_any w).mono ?_
  rintro e w1 ⟨rfl, b1, B1⟩
  have hl := run_none (P := Tryz.prog) (w := w1) _ _ _ _ _ _ k _ Tryz.underlying75 Tryz.underlying3 b1 hf (hz _)
  have HB := hide B1
  clear B1 b1 hf hz
  go_wp2_with fail
  go_ret2
  exact ⟨rfl, HB.out⟩

set_option maxRecDepth 100000 in
theorem cUnpack64_count (k : Nat) (n : Int) (v : Value) (w : World) (h1 : 1 ≤ k) (h6 : k ≤ 6) (hn : n < 0 ∨ 4096 < n) :
    Calls Tryz.prog 13 #[.int .i64 k, v, .int .i64 n] w fun e w' => e = .returned (.tuple #[.slice none 0 0, .int .i64 81]) ∧ Below w.heap.size w w' := by
  obtain ⟨i, u, hf⟩ := unpackersE64_known k h1 h6
  by_cases h0 : n < 0
  · clear hn
    go_enter Tryz.func13, Tryz.ntmps13
    go_wp2_with fail
    refine (unpackers64_any w).mono ?_
    rintro e w1 ⟨rfl, b1, B1⟩
    have hl := run_get (P := Tryz.prog) (w := w1) _ _ _ _ _ _ k _ _ Tryz.underlying75 Tryz.underlying3 b1 hf
    have HB := hide B1
    clear B1 b1 hf
    go_wp2_with fail
    go_ret2
    exact ⟨rfl, HB.out⟩
  · have h4 : 4096 < n := by omega
    clear hn
    go_enter Tryz.func13, Tryz.ntmps13
    go_wp2_with fail
    refine (unpackers64_any w).mono ?_
    rintro e w1 ⟨rfl, b1, B1⟩
    have hl := run_get (P := Tryz.prog) (w := w1) _ _ _ _ _ _ k _ _ Tryz.underlying75 Tryz.underlying3 b1 hf
    have HB := hide B1
    clear B1 b1 hf
    go_wp2_with fail
    go_ret2
    exact ⟨rfl, HB.out⟩

/-- What Unpack tells, of whatever. -/
def UAns64 (k n : Int) (bs : List Nat) (w : World) (e : Ending) (w' : World) : Prop :=
  (∃ c : Int, e = .returned (.tuple #[.slice none 0 0, .int .i64 c]) ∧ (c == 0) = false ∧ (c == 80) = decide (k < 1 ∨ 6 < k) ∧ Below w.heap.size w w') ∨
  ∃ (kk nn : Nat) (p : Option Addr) (cap : Nat) (f : Nat → Nat), k = (kk : Int) ∧ n = (nn : Int) ∧ 1 ≤ kk ∧ kk ≤ 6 ∧ nn ≤ 4096 ∧ e = .returned (.tuple #[.slice p nn cap, .int .i64 0]) ∧ nn ≤ cap ∧ URow64 w' p nn f ∧ PackIs64 kk nn f bs ∧ Below w.heap.size w w'

theorem unpack64_all (k n : Int) (v : Value) (bs : List Nat) (w : World) (hv : IsBy w v bs) (hb : ∀ n ∈ bs, n < 256) (hl : bs.length ≤ 1000000000000) (hT : Tab64 w) :
    Calls Tryz.prog 13 #[.int .i64 k, v, .int .i64 n] w (UAns64 k n bs w) := by
  by_cases hk : k < 1 ∨ 6 < k
  · refine (cUnpack64_none k n v w hk).mono ?_
    rintro e w' ⟨rfl, hB⟩
    exact .inl ⟨80, rfl, rfl, by rw [decide_eq_true hk]; rfl, hB⟩
  · obtain ⟨kk, rfl⟩ : ∃ kk : Nat, k = (kk : Int) := ⟨k.toNat, by omega⟩
    by_cases hn : n < 0 ∨ 4096 < n
    · refine (cUnpack64_count kk n v w (by omega) (by omega) hn).mono ?_
      rintro e w' ⟨rfl, hB⟩
      exact .inl ⟨81, rfl, rfl, by rw [decide_eq_false hk]; rfl, hB⟩
    · obtain ⟨nn, rfl⟩ : ∃ nn : Nat, n = (nn : Int) := ⟨n.toNat, by omega⟩
      refine (cUnpack64_any kk v bs nn w (by omega) (by omega) hv hb hl (by omega) hT).mono ?_
      rintro e w' (⟨rfl, hB, _⟩ | ⟨u, f, rfl, hU, hP, _⟩)
      · exact .inl ⟨83, rfl, rfl, by rw [decide_eq_false hk]; rfl, hB⟩
      · obtain ⟨p, cap, rfl, hcap, hrow⟩ := hU.row
        exact .inr ⟨kk, nn, p, cap, f, rfl, rfl, by omega, by omega, by omega, rfl, hcap, hrow, hP, hU.2.1⟩

/-- Pack of what was taken makes these bytes. -/
theorem again64_is (kk : Nat) (p : Option Addr) (nn cap : Nat) (f : Nat → Nat) (bs : List Nat) (w : World) (h1 : 1 ≤ kk) (h6 : kk ≤ 6) (h : URow64 w p nn f) (hn : nn ≤ 4096) (hcap : nn ≤ cap) (hP : PackIs64 kk nn f bs) (hT : Tab64 w) :
    Calls Tryz.prog 16 #[.int .i64 kk, .slice p nn cap] w fun e w' => ∃ (pu : Option Addr) (cu : Nat), e = .returned (.tuple #[.slice pu bs.length cu, .int .i64 0]) ∧ IsBy w' (.slice pu bs.length cu) bs ∧ Below w.heap.size w w' := by
  refine (cAgain64 kk p nn cap f w h1 h6 h hn hcap hP.1 hT).mono ?_
  rintro e w' (⟨pu, cu, b2, rfl, q2, _, q4, q5, q6⟩ | ⟨_, _, q3⟩)
  · obtain rfl := q6 bs hP
    exact ⟨pu, cu, rfl, q2, q4⟩
  · exact (q3 bs hP).elim

theorem unpackersE32_known (k : Nat) (h1 : 1 ≤ k) (h6 : k ≤ 6) : ∃ i v, Instr.findNow (.int .i64) (.int .i64 (k : Int)) unpackersE32.toList 0 = some (some (i, v)) := by
  obtain rfl | rfl | rfl | rfl | rfl | rfl : k = 1 ∨ k = 2 ∨ k = 3 ∨ k = 4 ∨ k = 5 ∨ k = 6 := by omega
  all_goals exact ⟨_, _, rfl⟩

set_option maxRecDepth 100000 in
theorem cUnpack32_none (k n : Int) (v : Value) (w : World) (h : k < 1 ∨ 6 < k) :
    Calls Tryz.prog 14 #[.int .i64 k, v, .int .i64 n] w fun e w' => e = .returned (.tuple #[.slice none 0 0, .int .i64 80]) ∧ Below w.heap.size w w' := by
  have hz : ∀ w1 : World, (zeroValue 78).run Tryz.prog w1 = .ok .nilFunc w1 := fun w1 => by kernel_rfl
  have hf : Instr.findNow (.int .i64) (.int .i64 k) unpackersE32.toList 0 = some none := by
    have e1 : (k == 1) = false := by rw [beq_eq_false_iff_ne]; omega
    have e2 : (k == 2) = false := by rw [beq_eq_false_iff_ne]; omega
    have e3 : (k == 3) = false := by rw [beq_eq_false_iff_ne]; omega
    have e4 : (k == 4) = false := by rw [beq_eq_false_iff_ne]; omega
    have e5 : (k == 5) = false := by rw [beq_eq_false_iff_ne]; omega
    have e6 : (k == 6) = false := by rw [beq_eq_false_iff_ne]; omega
    simp [unpackersE32, Instr.findNow, Instr.sameNow, e1, e2, e3, e4, e5, e6]
  clear h
  go_enter Tryz.func14, Tryz.ntmps14
  go_wp2_with fail
  refine (unpackers32_any w).mono ?_
  rintro e w1 ⟨rfl, b1, B1⟩
  have hl := run_none (P := Tryz.prog) (w := w1) _ _ _ _ _ _ k _ Tryz.underlying80 Tryz.underlying3 b1 hf (hz _)
  have HB := hide B1
  clear B1 b1 hf hz
  go_wp2_with fail
  go_ret2
  exact ⟨rfl, HB.out⟩

set_option maxRecDepth 100000 in
theorem cUnpack32_count (k : Nat) (n : Int) (v : Value) (w : World) (h1 : 1 ≤ k) (h6 : k ≤ 6) (hn : n < 0 ∨ 4096 < n) :
    Calls Tryz.prog 14 #[.int .i64 k, v, .int .i64 n] w fun e w' => e = .returned (.tuple #[.slice none 0 0, .int .i64 81]) ∧ Below w.heap.size w w' := by
  obtain ⟨i, u, hf⟩ := unpackersE32_known k h1 h6
  by_cases h0 : n < 0
  · clear hn
    go_enter Tryz.func14, Tryz.ntmps14
    go_wp2_with fail
    refine (unpackers32_any w).mono ?_
    rintro e w1 ⟨rfl, b1, B1⟩
    have hl := run_get (P := Tryz.prog) (w := w1) _ _ _ _ _ _ k _ _ Tryz.underlying80 Tryz.underlying3 b1 hf
    have HB := hide B1
    clear B1 b1 hf
    go_wp2_with fail
    go_ret2
    exact ⟨rfl, HB.out⟩
  · have h4 : 4096 < n := by omega
    clear hn
    go_enter Tryz.func14, Tryz.ntmps14
    go_wp2_with fail
    refine (unpackers32_any w).mono ?_
    rintro e w1 ⟨rfl, b1, B1⟩
    have hl := run_get (P := Tryz.prog) (w := w1) _ _ _ _ _ _ k _ _ Tryz.underlying80 Tryz.underlying3 b1 hf
    have HB := hide B1
    clear B1 b1 hf
    go_wp2_with fail
    go_ret2
    exact ⟨rfl, HB.out⟩

/-- What Unpack tells, of whatever. -/
def UAns32 (k n : Int) (bs : List Nat) (w : World) (e : Ending) (w' : World) : Prop :=
  (∃ c : Int, e = .returned (.tuple #[.slice none 0 0, .int .i64 c]) ∧ (c == 0) = false ∧ (c == 80) = decide (k < 1 ∨ 6 < k) ∧ Below w.heap.size w w') ∨
  ∃ (kk nn : Nat) (p : Option Addr) (cap : Nat) (f : Nat → Nat), k = (kk : Int) ∧ n = (nn : Int) ∧ 1 ≤ kk ∧ kk ≤ 6 ∧ nn ≤ 4096 ∧ e = .returned (.tuple #[.slice p nn cap, .int .i64 0]) ∧ nn ≤ cap ∧ URow32 w' p nn f ∧ PackIs32 kk nn f bs ∧ Below w.heap.size w w'

theorem unpack32_all (k n : Int) (v : Value) (bs : List Nat) (w : World) (hv : IsBy w v bs) (hb : ∀ n ∈ bs, n < 256) (hl : bs.length ≤ 1000000000000) (hT : Tab64 w) :
    Calls Tryz.prog 14 #[.int .i64 k, v, .int .i64 n] w (UAns32 k n bs w) := by
  by_cases hk : k < 1 ∨ 6 < k
  · refine (cUnpack32_none k n v w hk).mono ?_
    rintro e w' ⟨rfl, hB⟩
    exact .inl ⟨80, rfl, rfl, by rw [decide_eq_true hk]; rfl, hB⟩
  · obtain ⟨kk, rfl⟩ : ∃ kk : Nat, k = (kk : Int) := ⟨k.toNat, by omega⟩
    by_cases hn : n < 0 ∨ 4096 < n
    · refine (cUnpack32_count kk n v w (by omega) (by omega) hn).mono ?_
      rintro e w' ⟨rfl, hB⟩
      exact .inl ⟨81, rfl, rfl, by rw [decide_eq_false hk]; rfl, hB⟩
    · obtain ⟨nn, rfl⟩ : ∃ nn : Nat, n = (nn : Int) := ⟨n.toNat, by omega⟩
      refine (cUnpack32_any kk v bs nn w (by omega) (by omega) hv hb hl (by omega) hT).mono ?_
      rintro e w' (⟨rfl, hB, _⟩ | ⟨u, f, rfl, hU, hP, _⟩)
      · exact .inl ⟨83, rfl, rfl, by rw [decide_eq_false hk]; rfl, hB⟩
      · obtain ⟨p, cap, rfl, hcap, hrow⟩ := hU.row
        exact .inr ⟨kk, nn, p, cap, f, rfl, rfl, by omega, by omega, by omega, rfl, hcap, hrow, hP, hU.2.1⟩

/-- Pack of what was taken makes these bytes. -/
theorem again32_is (kk : Nat) (p : Option Addr) (nn cap : Nat) (f : Nat → Nat) (bs : List Nat) (w : World) (h1 : 1 ≤ kk) (h6 : kk ≤ 6) (h : URow32 w p nn f) (hn : nn ≤ 4096) (hcap : nn ≤ cap) (hP : PackIs32 kk nn f bs) (hT : Tab64 w) :
    Calls Tryz.prog 17 #[.int .i64 kk, .slice p nn cap] w fun e w' => ∃ (pu : Option Addr) (cu : Nat), e = .returned (.tuple #[.slice pu bs.length cu, .int .i64 0]) ∧ IsBy w' (.slice pu bs.length cu) bs ∧ Below w.heap.size w w' := by
  refine (cAgain32 kk p nn cap f w h1 h6 h hn hcap hP.1 hT).mono ?_
  rintro e w' (⟨pu, cu, b2, rfl, q2, _, q4, q5, q6⟩ | ⟨_, _, q3⟩)
  · obtain rfl := q6 bs hP
    exact ⟨pu, cu, rfl, q2, q4⟩
  · exact (q3 bs hP).elim

end Go.Proofs.YtlemodcppokjhaaGreatDoor

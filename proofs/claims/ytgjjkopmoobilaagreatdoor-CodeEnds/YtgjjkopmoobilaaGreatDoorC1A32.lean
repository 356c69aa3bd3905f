/- The contracts of code's width, layValue, takeValue (32 bits). -/
import Derived.Test.YtgjjkopmoobilaaGreatDoorC4A64
import Derived.Test.YtgjjkopmoobilaaGreatDoorC3M
import Derived.Test.YtgjjkopmoobilaaGreatDoorP1T
import Derived.Deep.RegionHeld3
import Derived.Laws.Tables
import Derived.Great.Walk
/- Unpack by any kind (64 bits). -/
namespace Go.Proofs.YtgjjkopmoobilaaGreatDoor
open Go.RowKit
open M
set_option linter.unusedVariables false
set_option linter.unusedSimpArgs false

/-- The answers of Pack of what a taker told. -/
def AgainEnd64 (k n : Nat) (f : Nat → Nat) (w : World) (e : Ending) (w' : World) : Prop :=
  (∃ (pu : Option Addr) (cu : Nat) (bs : List Nat), e = .returned (.tuple #[.slice pu bs.length cu, .int .i64 0]) ∧ IsBy w' (.slice pu bs.length cu) bs ∧ (∀ n ∈ bs, n < 256) ∧ Below w.heap.size w w' ∧ PackIs64 k n f bs ∧ ∀ bs', PackIs64 k n f bs' → bs' = bs) ∨
  (e = .returned (.tuple #[.slice none 0 0, .int .i64 82]) ∧ Below w.heap.size w w' ∧ ∀ bs, PackIs64 k n f bs → False)

theorem cAgain64 (k : Nat) (p : Option Addr) (n cap : Nat) (f : Nat → Nat) (w : World) (hk1 : 1 ≤ k) (hk6 : k ≤ 6) (h : URow64 w p n f) (hn : n ≤ 4096) (hcap : n ≤ cap) (hf : ∀ i, i < n → f i < 18446744073709551616) (hT : Tab64 w) :
    Calls Tryz.prog 16 #[.int .i64 k, .slice p n cap] w (AgainEnd64 k n f w) := by
  by_cases h0 : n = 0
  · subst h0
    refine (cPack64_empty k p cap w hk1 hk6).mono ?_
    rintro e w' ⟨rfl, hB⟩
    exact .inl ⟨none, 0, [], rfl, .inl (.inl ⟨rfl, rfl⟩), by simp, hB, ⟨hf, fun _ => rfl, fun h => by omega⟩, fun bs' hP => hP.2.1 rfl⟩
  · refine (cPack64_some k p n cap f w hk1 hk6 h (by omega) hn hcap hf hT).mono ?_
    intro e w' hE
    cases ho : codeO64 k f n with
    | none =>
      rw [ho] at hE
      obtain ⟨rfl, hB⟩ := hE
      refine .inr ⟨rfl, hB, fun bs hP => ?_⟩
      obtain ⟨l, h1, _⟩ := hP.2.2 (by omega)
      rw [ho] at h1; cases h1
    | some l =>
      rw [ho] at hE
      obtain ⟨g, L, h1, h2, rfl, h4, h5⟩ := hE
      subst h1
      refine .inl ⟨_, _, packed l, rfl, .inl (isBytes_row h4), packed_lt l, h5, ⟨hf, fun h => absurd h h0, fun _ => ⟨l, ho, rfl⟩⟩, fun bs' hP => ?_⟩
      obtain ⟨l', h1, h2⟩ := hP.2.2 (by omega)
      rw [ho] at h1
      cases h1
      exact h2.symm

set_option maxRecDepth 100000 in
theorem cUnpack64_1 (v : Value) (bs : List Nat) (n : Nat) (w : World) (hv : IsBy w v bs) (hb : ∀ n ∈ bs, n < 256) (hl : bs.length ≤ 1000000000000) (hn : n ≤ 4096) (hT : Tab64 w)
    (hcall : ∀ w1, Below w.heap.size w w1 → Calls Tryz.prog 39 #[v, .int .i64 n] w1 (TakeK64 1 bs n w1)) :
    Calls Tryz.prog 13 #[.int .i64 1, v, .int .i64 n] w (CUnEnd64 1 bs n w) := by
  have hf : Instr.findNow (.int .i64) (.int .i64 1) unpackersE64.toList 0 = some (some (0, .func (.func 39) #[] #[])) := by kernel_rfl
  have HV := hide hv
  have HBB := hide hb
  have HT := hide hT
  have HC := hide hcall
  have HAG := hide (fun p cap f w1 h1 h2 h3 h4 => cAgain64 1 p n cap f w1 (by omega) (by omega) h1 hn h2 h3 h4)
  clear hv hb hT hcall hl
  go_enter Tryz.func13, Tryz.ntmps13
  go_wp2_with fail
  refine (unpackers64_any w).mono ?_
  rintro e w1 ⟨rfl, b1, B1⟩
  have hlk := run_get (P := Tryz.prog) (w := w1) _ _ _ _ _ _ 1 _ _ Tryz.underlying75 Tryz.underlying3 b1 hf
  have HB1 := hide B1
  clear B1 b1 hf
  go_wp2_with fail
  refine (HC.out w1 HB1.out).mono ?_
  intro e w2 hE
  rcases hE with ⟨c, hc, rfl, B2, hno⟩ | ⟨u, f, rfl, hU, hr, hfull⟩
  · have hcn : (c != 0) = true := by rw [bne_iff_ne]; exact hc
    have HFIN : Hid (CUnEnd64 1 bs n w (.returned (.tuple #[.slice none 0 0, .int .i64 83])) w2) := .inl ⟨rfl, HB1.out.trans (B2.mono HB1.out.size), hno⟩
    clear hc B2 hno
    go_wp2_with fail
    go_ret2
    exact HFIN.out
  · obtain ⟨p, cap, rfl, hcap, hrow⟩ := hU.row
    have HU := hide hU
    have HRR := hide (And.intro hr hfull)
    have hB2 := hU.2.1
    have HB2 : Hid (Below w.heap.size w w2) := HB1.out.trans (hB2.mono HB1.out.size)
    have HAGN := hide (HAG.out p cap f w2 hrow hcap hr (HT.out.below HB2.out))
    clear hU hr hfull hrow hB2
    go_wp2_with fail
    refine HAGN.out.mono ?_
    intro e w3 hE
    rcases hE with ⟨px, cx, bx, rfl, hx, hbx, B3, hP, huq⟩ | ⟨rfl, B3, hno⟩
    · have HB3 : Hid (Below w.heap.size w w3) := HB2.out.trans (B3.mono HB2.out.size)
      have HEQ := hide (bytesEqual64_any (.slice px bx.length cx) v bx bs w3 hx (isBy_below HV.out HB3.out) hbx HBB.out)
      by_cases e : bx = bs
      · have HFIN : Hid (CUnEnd64 1 bs n w (.returned (.tuple #[.slice p n cap, .int .i64 0])) w3) := by
          refine .inr ⟨_, f, rfl, ?_, by rw [← e]; exact hP, HRR.out.2⟩
          have h1 := HU.out.1
          have h2 := HB1.out.size
          refine ⟨(ownsRow_keepC64 h1 fun g hg1 hg2 => B3.block g hg2).mono h2, HB3.out, Nat.le_refl _⟩
        rw [decide_eq_true e] at HEQ
        clear hx hbx B3 hP huq e
        go_wp2_with fail
        refine HEQ.out.mono ?_
        rintro e w4 ⟨rfl, h4⟩
        have h4 := h4.symm
        subst h4
        go_wp2_with fail
        go_ret2
        exact HFIN.out
      · have HFIN : Hid (CUnEnd64 1 bs n w (.returned (.tuple #[.slice none 0 0, .int .i64 83])) w3) := by
          refine .inl ⟨rfl, HB3.out, fun h hPh => e ?_⟩
          exact (huq bs (hPh.congr fun i hi => (HRR.out.2 h hPh i hi).symm)).symm
        rw [decide_eq_false e] at HEQ
        clear hx hbx B3 hP huq e
        go_wp2_with fail
        refine HEQ.out.mono ?_
        rintro e w4 ⟨rfl, h4⟩
        have h4 := h4.symm
        subst h4
        go_wp2_with fail
        go_ret2
        exact HFIN.out
    · have HFIN : Hid (CUnEnd64 1 bs n w (.returned (.tuple #[.slice none 0 0, .int .i64 83])) w3) := by
        refine .inl ⟨rfl, HB2.out.trans (B3.mono HB2.out.size), fun h hPh => ?_⟩
        exact hno bs (hPh.congr fun i hi => (HRR.out.2 h hPh i hi).symm)
      clear B3 hno
      go_wp2_with fail
      go_ret2
      exact HFIN.out

set_option maxRecDepth 100000 in
theorem cUnpack64_2 (v : Value) (bs : List Nat) (n : Nat) (w : World) (hv : IsBy w v bs) (hb : ∀ n ∈ bs, n < 256) (hl : bs.length ≤ 1000000000000) (hn : n ≤ 4096) (hT : Tab64 w)
    (hcall : ∀ w1, Below w.heap.size w w1 → Calls Tryz.prog 40 #[v, .int .i64 n] w1 (TakeK64 2 bs n w1)) :
    Calls Tryz.prog 13 #[.int .i64 2, v, .int .i64 n] w (CUnEnd64 2 bs n w) := by
  have hf : Instr.findNow (.int .i64) (.int .i64 2) unpackersE64.toList 0 = some (some (1, .func (.func 40) #[] #[])) := by kernel_rfl
  have HV := hide hv
  have HBB := hide hb
  have HT := hide hT
  have HC := hide hcall
  have HAG := hide (fun p cap f w1 h1 h2 h3 h4 => cAgain64 2 p n cap f w1 (by omega) (by omega) h1 hn h2 h3 h4)
  clear hv hb hT hcall hl
  go_enter Tryz.func13, Tryz.ntmps13
  go_wp2_with fail
  refine (unpackers64_any w).mono ?_
  rintro e w1 ⟨rfl, b1, B1⟩
  have hlk := run_get (P := Tryz.prog) (w := w1) _ _ _ _ _ _ 2 _ _ Tryz.underlying75 Tryz.underlying3 b1 hf
  have HB1 := hide B1
  clear B1 b1 hf
  go_wp2_with fail
  refine (HC.out w1 HB1.out).mono ?_
  intro e w2 hE
  rcases hE with ⟨c, hc, rfl, B2, hno⟩ | ⟨u, f, rfl, hU, hr, hfull⟩
  · have hcn : (c != 0) = true := by rw [bne_iff_ne]; exact hc
    have HFIN : Hid (CUnEnd64 2 bs n w (.returned (.tuple #[.slice none 0 0, .int .i64 83])) w2) := .inl ⟨rfl, HB1.out.trans (B2.mono HB1.out.size), hno⟩
    clear hc B2 hno
    go_wp2_with fail
    go_ret2
    exact HFIN.out
  · obtain ⟨p, cap, rfl, hcap, hrow⟩ := hU.row
    have HU := hide hU
    have HRR := hide (And.intro hr hfull)
    have hB2 := hU.2.1
    have HB2 : Hid (Below w.heap.size w w2) := HB1.out.trans (hB2.mono HB1.out.size)
    have HAGN := hide (HAG.out p cap f w2 hrow hcap hr (HT.out.below HB2.out))
    clear hU hr hfull hrow hB2
    go_wp2_with fail
    refine HAGN.out.mono ?_
    intro e w3 hE
    rcases hE with ⟨px, cx, bx, rfl, hx, hbx, B3, hP, huq⟩ | ⟨rfl, B3, hno⟩
    · have HB3 : Hid (Below w.heap.size w w3) := HB2.out.trans (B3.mono HB2.out.size)
      have HEQ := hide (bytesEqual64_any (.slice px bx.length cx) v bx bs w3 hx (isBy_below HV.out HB3.out) hbx HBB.out)
      by_cases e : bx = bs
      · have HFIN : Hid (CUnEnd64 2 bs n w (.returned (.tuple #[.slice p n cap, .int .i64 0])) w3) := by
          refine .inr ⟨_, f, rfl, ?_, by rw [← e]; exact hP, HRR.out.2⟩
          have h1 := HU.out.1
          have h2 := HB1.out.size
          refine ⟨(ownsRow_keepC64 h1 fun g hg1 hg2 => B3.block g hg2).mono h2, HB3.out, Nat.le_refl _⟩
        rw [decide_eq_true e] at HEQ
        clear hx hbx B3 hP huq e
        go_wp2_with fail
        refine HEQ.out.mono ?_
        rintro e w4 ⟨rfl, h4⟩
        have h4 := h4.symm
        subst h4
        go_wp2_with fail
        go_ret2
        exact HFIN.out
      · have HFIN : Hid (CUnEnd64 2 bs n w (.returned (.tuple #[.slice none 0 0, .int .i64 83])) w3) := by
          refine .inl ⟨rfl, HB3.out, fun h hPh => e ?_⟩
          exact (huq bs (hPh.congr fun i hi => (HRR.out.2 h hPh i hi).symm)).symm
        rw [decide_eq_false e] at HEQ
        clear hx hbx B3 hP huq e
        go_wp2_with fail
        refine HEQ.out.mono ?_
        rintro e w4 ⟨rfl, h4⟩
        have h4 := h4.symm
        subst h4
        go_wp2_with fail
        go_ret2
        exact HFIN.out
    · have HFIN : Hid (CUnEnd64 2 bs n w (.returned (.tuple #[.slice none 0 0, .int .i64 83])) w3) := by
        refine .inl ⟨rfl, HB2.out.trans (B3.mono HB2.out.size), fun h hPh => ?_⟩
        exact hno bs (hPh.congr fun i hi => (HRR.out.2 h hPh i hi).symm)
      clear B3 hno
      go_wp2_with fail
      go_ret2
      exact HFIN.out

set_option maxRecDepth 100000 in
theorem cUnpack64_3 (v : Value) (bs : List Nat) (n : Nat) (w : World) (hv : IsBy w v bs) (hb : ∀ n ∈ bs, n < 256) (hl : bs.length ≤ 1000000000000) (hn : n ≤ 4096) (hT : Tab64 w)
    (hcall : ∀ w1, Below w.heap.size w w1 → Calls Tryz.prog 41 #[v, .int .i64 n] w1 (TakeK64 3 bs n w1)) :
    Calls Tryz.prog 13 #[.int .i64 3, v, .int .i64 n] w (CUnEnd64 3 bs n w) := by
  have hf : Instr.findNow (.int .i64) (.int .i64 3) unpackersE64.toList 0 = some (some (2, .func (.func 41) #[] #[])) := by kernel_rfl
  have HV := hide hv
  have HBB := hide hb
  have HT := hide hT
  have HC := hide hcall
  have HAG := hide (fun p cap f w1 h1 h2 h3 h4 => cAgain64 3 p n cap f w1 (by omega) (by omega) h1 hn h2 h3 h4)
  clear hv hb hT hcall hl
  go_enter Tryz.func13, Tryz.ntmps13
  go_wp2_with fail
  refine (unpackers64_any w).mono ?_
  rintro e w1 ⟨rfl, b1, B1⟩
  have hlk := run_get (P := Tryz.prog) (w := w1) _ _ _ _ _ _ 3 _ _ Tryz.underlying75 Tryz.underlying3 b1 hf
  have HB1 := hide B1
  clear B1 b1 hf
  go_wp2_with fail
  refine (HC.out w1 HB1.out).mono ?_
  intro e w2 hE
  rcases hE with ⟨c, hc, rfl, B2, hno⟩ | ⟨u, f, rfl, hU, hr, hfull⟩
  · have hcn : (c != 0) = true := by rw [bne_iff_ne]; exact hc
    have HFIN : Hid (CUnEnd64 3 bs n w (.returned (.tuple #[.slice none 0 0, .int .i64 83])) w2) := .inl ⟨rfl, HB1.out.trans (B2.mono HB1.out.size), hno⟩
    clear hc B2 hno
    go_wp2_with fail
    go_ret2
    exact HFIN.out
  · obtain ⟨p, cap, rfl, hcap, hrow⟩ := hU.row
    have HU := hide hU
    have HRR := hide (And.intro hr hfull)
    have hB2 := hU.2.1
    have HB2 : Hid (Below w.heap.size w w2) := HB1.out.trans (hB2.mono HB1.out.size)
    have HAGN := hide (HAG.out p cap f w2 hrow hcap hr (HT.out.below HB2.out))
    clear hU hr hfull hrow hB2
    go_wp2_with fail
    refine HAGN.out.mono ?_
    intro e w3 hE
    rcases hE with ⟨px, cx, bx, rfl, hx, hbx, B3, hP, huq⟩ | ⟨rfl, B3, hno⟩
    · have HB3 : Hid (Below w.heap.size w w3) := HB2.out.trans (B3.mono HB2.out.size)
      have HEQ := hide (bytesEqual64_any (.slice px bx.length cx) v bx bs w3 hx (isBy_below HV.out HB3.out) hbx HBB.out)
      by_cases e : bx = bs
      · have HFIN : Hid (CUnEnd64 3 bs n w (.returned (.tuple #[.slice p n cap, .int .i64 0])) w3) := by
          refine .inr ⟨_, f, rfl, ?_, by rw [← e]; exact hP, HRR.out.2⟩
          have h1 := HU.out.1
          have h2 := HB1.out.size
          refine ⟨(ownsRow_keepC64 h1 fun g hg1 hg2 => B3.block g hg2).mono h2, HB3.out, Nat.le_refl _⟩
        rw [decide_eq_true e] at HEQ
        clear hx hbx B3 hP huq e
        go_wp2_with fail
        refine HEQ.out.mono ?_
        rintro e w4 ⟨rfl, h4⟩
        have h4 := h4.symm
        subst h4
        go_wp2_with fail
        go_ret2
        exact HFIN.out
      · have HFIN : Hid (CUnEnd64 3 bs n w (.returned (.tuple #[.slice none 0 0, .int .i64 83])) w3) := by
          refine .inl ⟨rfl, HB3.out, fun h hPh => e ?_⟩
          exact (huq bs (hPh.congr fun i hi => (HRR.out.2 h hPh i hi).symm)).symm
        rw [decide_eq_false e] at HEQ
        clear hx hbx B3 hP huq e
        go_wp2_with fail
        refine HEQ.out.mono ?_
        rintro e w4 ⟨rfl, h4⟩
        have h4 := h4.symm
        subst h4
        go_wp2_with fail
        go_ret2
        exact HFIN.out
    · have HFIN : Hid (CUnEnd64 3 bs n w (.returned (.tuple #[.slice none 0 0, .int .i64 83])) w3) := by
        refine .inl ⟨rfl, HB2.out.trans (B3.mono HB2.out.size), fun h hPh => ?_⟩
        exact hno bs (hPh.congr fun i hi => (HRR.out.2 h hPh i hi).symm)
      clear B3 hno
      go_wp2_with fail
      go_ret2
      exact HFIN.out

set_option maxRecDepth 100000 in
theorem cUnpack64_4 (v : Value) (bs : List Nat) (n : Nat) (w : World) (hv : IsBy w v bs) (hb : ∀ n ∈ bs, n < 256) (hl : bs.length ≤ 1000000000000) (hn : n ≤ 4096) (hT : Tab64 w)
    (hcall : ∀ w1, Below w.heap.size w w1 → Calls Tryz.prog 42 #[v, .int .i64 n] w1 (TakeK64 4 bs n w1)) :
    Calls Tryz.prog 13 #[.int .i64 4, v, .int .i64 n] w (CUnEnd64 4 bs n w) := by
  have hf : Instr.findNow (.int .i64) (.int .i64 4) unpackersE64.toList 0 = some (some (3, .func (.func 42) #[] #[])) := by kernel_rfl
  have HV := hide hv
  have HBB := hide hb
  have HT := hide hT
  have HC := hide hcall
  have HAG := hide (fun p cap f w1 h1 h2 h3 h4 => cAgain64 4 p n cap f w1 (by omega) (by omega) h1 hn h2 h3 h4)
  clear hv hb hT hcall hl
  go_enter Tryz.func13, Tryz.ntmps13
  go_wp2_with fail
  refine (unpackers64_any w).mono ?_
  rintro e w1 ⟨rfl, b1, B1⟩
  have hlk := run_get (P := Tryz.prog) (w := w1) _ _ _ _ _ _ 4 _ _ Tryz.underlying75 Tryz.underlying3 b1 hf
  have HB1 := hide B1
  clear B1 b1 hf
  go_wp2_with fail
  refine (HC.out w1 HB1.out).mono ?_
  intro e w2 hE
  rcases hE with ⟨c, hc, rfl, B2, hno⟩ | ⟨u, f, rfl, hU, hr, hfull⟩
  · have hcn : (c != 0) = true := by rw [bne_iff_ne]; exact hc
    have HFIN : Hid (CUnEnd64 4 bs n w (.returned (.tuple #[.slice none 0 0, .int .i64 83])) w2) := .inl ⟨rfl, HB1.out.trans (B2.mono HB1.out.size), hno⟩
    clear hc B2 hno
    go_wp2_with fail
    go_ret2
    exact HFIN.out
  · obtain ⟨p, cap, rfl, hcap, hrow⟩ := hU.row
    have HU := hide hU
    have HRR := hide (And.intro hr hfull)
    have hB2 := hU.2.1
    have HB2 : Hid (Below w.heap.size w w2) := HB1.out.trans (hB2.mono HB1.out.size)
    have HAGN := hide (HAG.out p cap f w2 hrow hcap hr (HT.out.below HB2.out))
    clear hU hr hfull hrow hB2
    go_wp2_with fail
    refine HAGN.out.mono ?_
    intro e w3 hE
    rcases hE with ⟨px, cx, bx, rfl, hx, hbx, B3, hP, huq⟩ | ⟨rfl, B3, hno⟩
    · have HB3 : Hid (Below w.heap.size w w3) := HB2.out.trans (B3.mono HB2.out.size)
      have HEQ := hide (bytesEqual64_any (.slice px bx.length cx) v bx bs w3 hx (isBy_below HV.out HB3.out) hbx HBB.out)
      by_cases e : bx = bs
      · have HFIN : Hid (CUnEnd64 4 bs n w (.returned (.tuple #[.slice p n cap, .int .i64 0])) w3) := by
          refine .inr ⟨_, f, rfl, ?_, by rw [← e]; exact hP, HRR.out.2⟩
          have h1 := HU.out.1
          have h2 := HB1.out.size
          refine ⟨(ownsRow_keepC64 h1 fun g hg1 hg2 => B3.block g hg2).mono h2, HB3.out, Nat.le_refl _⟩
        rw [decide_eq_true e] at HEQ
        clear hx hbx B3 hP huq e
        go_wp2_with fail
        refine HEQ.out.mono ?_
        rintro e w4 ⟨rfl, h4⟩
        have h4 := h4.symm
        subst h4
        go_wp2_with fail
        go_ret2
        exact HFIN.out
      · have HFIN : Hid (CUnEnd64 4 bs n w (.returned (.tuple #[.slice none 0 0, .int .i64 83])) w3) := by
          refine .inl ⟨rfl, HB3.out, fun h hPh => e ?_⟩
          exact (huq bs (hPh.congr fun i hi => (HRR.out.2 h hPh i hi).symm)).symm
        rw [decide_eq_false e] at HEQ
        clear hx hbx B3 hP huq e
        go_wp2_with fail
        refine HEQ.out.mono ?_
        rintro e w4 ⟨rfl, h4⟩
        have h4 := h4.symm
        subst h4
        go_wp2_with fail
        go_ret2
        exact HFIN.out
    · have HFIN : Hid (CUnEnd64 4 bs n w (.returned (.tuple #[.slice none 0 0, .int .i64 83])) w3) := by
        refine .inl ⟨rfl, HB2.out.trans (B3.mono HB2.out.size), fun h hPh => ?_⟩
        exact hno bs (hPh.congr fun i hi => (HRR.out.2 h hPh i hi).symm)
      clear B3 hno
      go_wp2_with fail
      go_ret2
      exact HFIN.out

set_option maxRecDepth 100000 in
theorem cUnpack64_5 (v : Value) (bs : List Nat) (n : Nat) (w : World) (hv : IsBy w v bs) (hb : ∀ n ∈ bs, n < 256) (hl : bs.length ≤ 1000000000000) (hn : n ≤ 4096) (hT : Tab64 w)
    (hcall : ∀ w1, Below w.heap.size w w1 → Calls Tryz.prog 43 #[v, .int .i64 n] w1 (TakeK64 5 bs n w1)) :
    Calls Tryz.prog 13 #[.int .i64 5, v, .int .i64 n] w (CUnEnd64 5 bs n w) := by
  have hf : Instr.findNow (.int .i64) (.int .i64 5) unpackersE64.toList 0 = some (some (4, .func (.func 43) #[] #[])) := by kernel_rfl
  have HV := hide hv
  have HBB := hide hb
  have HT := hide hT
  have HC := hide hcall
  have HAG := hide (fun p cap f w1 h1 h2 h3 h4 => cAgain64 5 p n cap f w1 (by omega) (by omega) h1 hn h2 h3 h4)
  clear hv hb hT hcall hl
  go_enter Tryz.func13, Tryz.ntmps13
  go_wp2_with fail
  refine (unpackers64_any w).mono ?_
  rintro e w1 ⟨rfl, b1, B1⟩
  have hlk := run_get (P := Tryz.prog) (w := w1) _ _ _ _ _ _ 5 _ _ Tryz.underlying75 Tryz.underlying3 b1 hf
  have HB1 := hide B1
  clear B1 b1 hf
  go_wp2_with fail
  refine (HC.out w1 HB1.out).mono ?_
  intro e w2 hE
  rcases hE with ⟨c, hc, rfl, B2, hno⟩ | ⟨u, f, rfl, hU, hr, hfull⟩
  · have hcn : (c != 0) = true := by rw [bne_iff_ne]; exact hc
    have HFIN : Hid (CUnEnd64 5 bs n w (.returned (.tuple #[.slice none 0 0, .int .i64 83])) w2) := .inl ⟨rfl, HB1.out.trans (B2.mono HB1.out.size), hno⟩
    clear hc B2 hno
    go_wp2_with fail
    go_ret2
    exact HFIN.out
  · obtain ⟨p, cap, rfl, hcap, hrow⟩ := hU.row
    have HU := hide hU
    have HRR := hide (And.intro hr hfull)
    have hB2 := hU.2.1
    have HB2 : Hid (Below w.heap.size w w2) := HB1.out.trans (hB2.mono HB1.out.size)
    have HAGN := hide (HAG.out p cap f w2 hrow hcap hr (HT.out.below HB2.out))
    clear hU hr hfull hrow hB2
    go_wp2_with fail
    refine HAGN.out.mono ?_
    intro e w3 hE
    rcases hE with ⟨px, cx, bx, rfl, hx, hbx, B3, hP, huq⟩ | ⟨rfl, B3, hno⟩
    · have HB3 : Hid (Below w.heap.size w w3) := HB2.out.trans (B3.mono HB2.out.size)
      have HEQ := hide (bytesEqual64_any (.slice px bx.length cx) v bx bs w3 hx (isBy_below HV.out HB3.out) hbx HBB.out)
      by_cases e : bx = bs
      · have HFIN : Hid (CUnEnd64 5 bs n w (.returned (.tuple #[.slice p n cap, .int .i64 0])) w3) := by
          refine .inr ⟨_, f, rfl, ?_, by rw [← e]; exact hP, HRR.out.2⟩
          have h1 := HU.out.1
          have h2 := HB1.out.size
          refine ⟨(ownsRow_keepC64 h1 fun g hg1 hg2 => B3.block g hg2).mono h2, HB3.out, Nat.le_refl _⟩
        rw [decide_eq_true e] at HEQ
        clear hx hbx B3 hP huq e
        go_wp2_with fail
        refine HEQ.out.mono ?_
        rintro e w4 ⟨rfl, h4⟩
        have h4 := h4.symm
        subst h4
        go_wp2_with fail
        go_ret2
        exact HFIN.out
      · have HFIN : Hid (CUnEnd64 5 bs n w (.returned (.tuple #[.slice none 0 0, .int .i64 83])) w3) := by
          refine .inl ⟨rfl, HB3.out, fun h hPh => e ?_⟩
          exact (huq bs (hPh.congr fun i hi => (HRR.out.2 h hPh i hi).symm)).symm
        rw [decide_eq_false e] at HEQ
        clear hx hbx B3 hP huq e
        go_wp2_with fail
        refine HEQ.out.mono ?_
        rintro e w4 ⟨rfl, h4⟩
        have h4 := h4.symm
        subst h4
        go_wp2_with fail
        go_ret2
        exact HFIN.out
    · have HFIN : Hid (CUnEnd64 5 bs n w (.returned (.tuple #[.slice none 0 0, .int .i64 83])) w3) := by
        refine .inl ⟨rfl, HB2.out.trans (B3.mono HB2.out.size), fun h hPh => ?_⟩
        exact hno bs (hPh.congr fun i hi => (HRR.out.2 h hPh i hi).symm)
      clear B3 hno
      go_wp2_with fail
      go_ret2
      exact HFIN.out

set_option maxRecDepth 100000 in
theorem cUnpack64_6 (v : Value) (bs : List Nat) (n : Nat) (w : World) (hv : IsBy w v bs) (hb : ∀ n ∈ bs, n < 256) (hl : bs.length ≤ 1000000000000) (hn : n ≤ 4096) (hT : Tab64 w)
    (hcall : ∀ w1, Below w.heap.size w w1 → Calls Tryz.prog 44 #[v, .int .i64 n] w1 (TakeK64 6 bs n w1)) :
    Calls Tryz.prog 13 #[.int .i64 6, v, .int .i64 n] w (CUnEnd64 6 bs n w) := by
  have hf : Instr.findNow (.int .i64) (.int .i64 6) unpackersE64.toList 0 = some (some (5, .func (.func 44) #[] #[])) := by kernel_rfl
  have HV := hide hv
  have HBB := hide hb
  have HT := hide hT
  have HC := hide hcall
  have HAG := hide (fun p cap f w1 h1 h2 h3 h4 => cAgain64 6 p n cap f w1 (by omega) (by omega) h1 hn h2 h3 h4)
  clear hv hb hT hcall hl
  go_enter Tryz.func13, Tryz.ntmps13
  go_wp2_with fail
  refine (unpackers64_any w).mono ?_
  rintro e w1 ⟨rfl, b1, B1⟩
  have hlk := run_get (P := Tryz.prog) (w := w1) _ _ _ _ _ _ 6 _ _ Tryz.underlying75 Tryz.underlying3 b1 hf
  have HB1 := hide B1
  clear B1 b1 hf
  go_wp2_with fail
  refine (HC.out w1 HB1.out).mono ?_
  intro e w2 hE
  rcases hE with ⟨c, hc, rfl, B2, hno⟩ | ⟨u, f, rfl, hU, hr, hfull⟩
  · have hcn : (c != 0) = true := by rw [bne_iff_ne]; exact hc
    have HFIN : Hid (CUnEnd64 6 bs n w (.returned (.tuple #[.slice none 0 0, .int .i64 83])) w2) := .inl ⟨rfl, HB1.out.trans (B2.mono HB1.out.size), hno⟩
    clear hc B2 hno
    go_wp2_with fail
    go_ret2
    exact HFIN.out
  · obtain ⟨p, cap, rfl, hcap, hrow⟩ := hU.row
    have HU := hide hU
    have HRR := hide (And.intro hr hfull)
    have hB2 := hU.2.1
    have HB2 : Hid (Below w.heap.size w w2) := HB1.out.trans (hB2.mono HB1.out.size)
    have HAGN := hide (HAG.out p cap f w2 hrow hcap hr (HT.out.below HB2.out))
    clear hU hr hfull hrow hB2
    go_wp2_with fail
    refine HAGN.out.mono ?_
    intro e w3 hE
    rcases hE with ⟨px, cx, bx, rfl, hx, hbx, B3, hP, huq⟩ | ⟨rfl, B3, hno⟩
    · have HB3 : Hid (Below w.heap.size w w3) := HB2.out.trans (B3.mono HB2.out.size)
      have HEQ := hide (bytesEqual64_any (.slice px bx.length cx) v bx bs w3 hx (isBy_below HV.out HB3.out) hbx HBB.out)
      by_cases e : bx = bs
      · have HFIN : Hid (CUnEnd64 6 bs n w (.returned (.tuple #[.slice p n cap, .int .i64 0])) w3) := by
          refine .inr ⟨_, f, rfl, ?_, by rw [← e]; exact hP, HRR.out.2⟩
          have h1 := HU.out.1
          have h2 := HB1.out.size
          refine ⟨(ownsRow_keepC64 h1 fun g hg1 hg2 => B3.block g hg2).mono h2, HB3.out, Nat.le_refl _⟩
        rw [decide_eq_true e] at HEQ
        clear hx hbx B3 hP huq e
        go_wp2_with fail
        refine HEQ.out.mono ?_
        rintro e w4 ⟨rfl, h4⟩
        have h4 := h4.symm
        subst h4
        go_wp2_with fail
        go_ret2
        exact HFIN.out
      · have HFIN : Hid (CUnEnd64 6 bs n w (.returned (.tuple #[.slice none 0 0, .int .i64 83])) w3) := by
          refine .inl ⟨rfl, HB3.out, fun h hPh => e ?_⟩
          exact (huq bs (hPh.congr fun i hi => (HRR.out.2 h hPh i hi).symm)).symm
        rw [decide_eq_false e] at HEQ
        clear hx hbx B3 hP huq e
        go_wp2_with fail
        refine HEQ.out.mono ?_
        rintro e w4 ⟨rfl, h4⟩
        have h4 := h4.symm
        subst h4
        go_wp2_with fail
        go_ret2
        exact HFIN.out
    · have HFIN : Hid (CUnEnd64 6 bs n w (.returned (.tuple #[.slice none 0 0, .int .i64 83])) w3) := by
        refine .inl ⟨rfl, HB2.out.trans (B3.mono HB2.out.size), fun h hPh => ?_⟩
        exact hno bs (hPh.congr fun i hi => (HRR.out.2 h hPh i hi).symm)
      clear B3 hno
      go_wp2_with fail
      go_ret2
      exact HFIN.out

theorem cUnpack64_any (k : Nat) (v : Value) (bs : List Nat) (n : Nat) (w : World) (hk1 : 1 ≤ k) (hk6 : k ≤ 6) (hv : IsBy w v bs) (hb : ∀ n ∈ bs, n < 256) (hl : bs.length ≤ 1000000000000) (hn : n ≤ 4096) (hT : Tab64 w) :
    Calls Tryz.prog 13 #[.int .i64 k, v, .int .i64 n] w (CUnEnd64 k bs n w) := by
  obtain rfl | rfl | rfl | rfl | rfl | rfl : k = 1 ∨ k = 2 ∨ k = 3 ∨ k = 4 ∨ k = 5 ∨ k = 6 := by omega
  · exact cUnpack64_1 v bs n w hv hb hl hn hT fun w1 B1 => (unpackPlain64_any v bs n w1 (isBy_below hv B1) hb hl hn).mono fun e w' hE => takeK_of64 rfl (unEnd_of_vals64 (fun h => rfl) hn hE)
  · exact cUnpack64_2 v bs n w hv hb hl hn hT fun w1 B1 => (unpack64_any v bs n w1 (isBy_below hv B1) hb hl hn (hT.below B1)).mono fun e w' hE => takeK_xor64 hn hE
  · exact cUnpack64_3 v bs n w hv hb hl hn hT fun w1 B1 => (unpackRuns64_any v bs n w1 (isBy_below hv B1) hb hl hn).mono fun e w' hE => takeK_of64 rfl hE
  · exact cUnpack64_4 v bs n w hv hb hl hn hT fun w1 B1 => (unpackDict64_any v bs n w1 (isBy_below hv B1) hb hl hn).mono fun e w' hE => takeK_of64 rfl hE
  · exact cUnpack64_5 v bs n w hv hb hl hn hT fun w1 B1 => (unpackStride64_any v bs n w1 (isBy_below hv B1) hb hl hn).mono fun e w' hE => takeK_of64 rfl (unEnd_of_vals64 (fun h => rfl) hn hE)
  · exact cUnpack64_6 v bs n w hv hb hl hn hT fun w1 B1 => (unpackDecimal64_any v bs n w1 (isBy_below hv B1) hb hl hn).mono fun e w' hE => takeK_of64 rfl hE

end Go.Proofs.YtgjjkopmoobilaaGreatDoor

/- Best (64 bits). -/
namespace Go.Proofs.YtgjjkopmoobilaaGreatDoor
open Go.RowKit
open M
set_option linter.unusedVariables false
set_option linter.unusedSimpArgs false

/-- k is the best of the kinds up to q, bs its bytes. -/
structure Bst64 (n : Nat) (f : Nat → Nat) (q k : Nat) (bs : List Nat) : Prop where
  lo : 1 ≤ k
  hi : k ≤ q
  is : PackIs64 k n f bs
  least : ∀ k' bs', 1 ≤ k' → k' ≤ q → PackIs64 k' n f bs' → bs.length < bs'.length ∨ (bs.length = bs'.length ∧ k ≤ k')

/-- What Best tells. -/
def BestEnd64 (n : Nat) (f : Nat → Nat) (w : World) (e : Ending) (w' : World) : Prop :=
  ∃ (k : Nat) (p : Option Addr) (c : Nat) (bs : List Nat), e = .returned (.tuple #[.int .i64 (k : Int), .slice p bs.length c, .int .i64 0]) ∧ IsBy w' (.slice p bs.length c) bs ∧ (∀ n ∈ bs, n < 256) ∧ Bst64 n f 6 k bs ∧ Below w.heap.size w w'

set_option maxRecDepth 100000 in
theorem best64_any (p : Option Addr) (n cap : Nat) (f : Nat → Nat) (w : World) (h : URow64 w p n f) (hn : n ≤ 4096) (hcap : n ≤ cap) (hf : ∀ i, i < n → f i < 18446744073709551616) (hT : Tab64 w) :
    Calls Tryz.prog 27 #[.slice p n cap] w (BestEnd64 n f w) := by
  have HAG := hide (fun k w1 (hk1 : 1 ≤ k) (hk6 : k ≤ 6) (hB : Below w.heap.size w w1) => cAgain64 k p n cap f w1 hk1 hk6 (h.below hB) hn hcap hf (hT.below hB))
  have HA1 := hide (cAgain64 1 p n cap f w (by omega) (by omega) h hn hcap hf hT)
  have HN1 : Hid (∀ w' e, AgainEnd64 1 n f w e w' → ∃ (pu : Option Addr) (cu : Nat) (bs : List Nat), e = .returned (.tuple #[.slice pu bs.length cu, .int .i64 0]) ∧ IsBy w' (.slice pu bs.length cu) bs ∧ (∀ n ∈ bs, n < 256) ∧ Below w.heap.size w w' ∧ Bst64 n f 1 1 bs) := fun w' e hE => by
    rcases hE with ⟨pu, cu, bs, h1, h2, h3, h4, h5, h6⟩ | ⟨_, _, h3⟩
    · refine ⟨pu, cu, bs, h1, h2, h3, h4, Nat.le_refl _, Nat.le_refl _, h5, fun k' bs' hk1 hk2 hP => ?_⟩
      obtain rfl : k' = 1 := by omega
      exact .inr ⟨by rw [h6 bs' hP], Nat.le_refl _⟩
    · exfalso
      by_cases h0 : n = 0
      · exact h3 [] ⟨hf, fun _ => rfl, fun h => by omega⟩
      · exact h3 _ ⟨hf, fun h => absurd h h0, fun _ => ⟨_, rfl, rfl⟩⟩
  clear h hf hT
  go_enter Tryz.func27, Tryz.ntmps27
  go_wp2_with fail
  refine HA1.out.mono ?_
  intro e w1 hE
  obtain ⟨pu, cu, bs, rfl, h2, h3, h4, h5⟩ := HN1.out w1 e hE
  have H1 := hide (And.intro h2 (And.intro h3 (And.intro h4 h5)))
  clear hE h2 h3 h4 h5 HN1 HA1
  go_wp2_with fail
  go_loopw [5, 6, 8] (fun t5 t6 t8 wr => ∃ (q k : Nat) (pu : Option Addr) (cu : Nat) (bs : List Nat), t8 = .int .i64 ((q : Int) + 1) ∧ t5 = .int .i64 (k : Int) ∧ t6 = .slice pu bs.length cu ∧ Hid (q ≤ 6 ∧ IsBy wr (.slice pu bs.length cu) bs ∧ (∀ n ∈ bs, n < 256) ∧ Bst64 n f q k bs ∧ Below w.heap.size w wr)) (fun _ _ t8 _ => 7 - (intOf t8).toNat)
  case atStart => exact ⟨1, 1, pu, cu, bs, rfl, rfl, rfl, by omega, H1.out.1, H1.out.2.1, H1.out.2.2.2, H1.out.2.2.1⟩
  case round =>
    obtain ⟨q, k, pu, cu, bs, rfl, rfl, rfl, hI⟩ := hrel
    by_cases hlt : q + 1 ≤ 6
    · have hle : (q : Int) + 1 ≤ 6 := by omega
      have HQ := hide (HAG.out (q + 1) wr (by omega) hlt hI.out.2.2.2.2)
      rw [show (((q + 1 : Nat)) : Int) = (q : Int) + 1 from by simp] at HQ
      go_wp2_with fail
      refine HQ.out.mono ?_
      intro e w2 hE
      rcases hE with ⟨pv, cv, bv, rfl, h2, h3, h4, h5, h6⟩ | ⟨rfl, h2, h3⟩
      · have HBB : Hid (Below w.heap.size w w2) := hI.out.2.2.2.2.trans (h4.mono hI.out.2.2.2.2.size)
        have HOLD : Hid (IsBy w2 (.slice pu bs.length cu) bs) := isBy_below hI.out.2.1 h4
        by_cases hl : bv.length < bs.length
        · have HN : Hid (Bst64 n f (q + 1) (q + 1) bv) := by
            refine ⟨by omega, Nat.le_refl _, h5, fun k' bs' hk1 hk2 hP => ?_⟩
            by_cases e : k' = q + 1
            · subst e; exact .inr ⟨by rw [h6 bs' hP], Nat.le_refl _⟩
            · rcases hI.out.2.2.2.1.least k' bs' hk1 (by omega) hP with h | h
              · exact .inl (by omega)
              · exact .inl (by omega)
          have HNB := hide (And.intro h2 h3)
          clear h2 h3 h4 h5 h6
          go_wp2_with fail
          go_roundw
          case rel => exact ⟨q + 1, q + 1, pv, cv, bv, by simp, by simp, by simp, hlt, HNB.out.1, HNB.out.2, HN.out, HBB.out⟩
          case measure => simp [intOf]; omega
        · have HN : Hid (Bst64 n f (q + 1) k bs) := by
            have B := hI.out.2.2.2.1
            refine ⟨B.lo, by have := B.hi; omega, B.is, fun k' bs' hk1 hk2 hP => ?_⟩
            by_cases e : k' = q + 1
            · subst e
              rw [h6 bs' hP]
              have := B.hi
              omega
            · exact B.least k' bs' hk1 (by omega) hP
          have H3 := hide hI.out.2.2.1
          clear h2 h3 h4 h5 h6 hI
          go_wp2_with fail
          go_roundw
          case rel => exact ⟨q + 1, k, pu, cu, bs, by simp, by simp, by simp, hlt, HOLD.out, H3.out, HN.out, HBB.out⟩
          case measure => simp [intOf]; omega
      · have HBB : Hid (Below w.heap.size w w2) := hI.out.2.2.2.2.trans (h2.mono hI.out.2.2.2.2.size)
        have HOLD : Hid (IsBy w2 (.slice pu bs.length cu) bs) := isBy_below hI.out.2.1 h2
        have HN : Hid (Bst64 n f (q + 1) k bs) := by
          have B := hI.out.2.2.2.1
          refine ⟨B.lo, by have := B.hi; omega, B.is, fun k' bs' hk1 hk2 hP => ?_⟩
          by_cases e : k' = q + 1
          · subst e; exact (h3 bs' hP).elim
          · exact B.least k' bs' hk1 (by omega) hP
        have H3 := hide hI.out.2.2.1
        clear h2 h3 hI
        go_wp2_with fail
        go_roundw
        case rel => exact ⟨q + 1, k, pu, cu, bs, by simp, by simp, by simp, hlt, HOLD.out, H3.out, HN.out, HBB.out⟩
        case measure => simp [intOf]; omega
    · have hq : q = 6 := by have := hI.out.1; omega
      subst hq
      have HFIN : Hid (BestEnd64 n f w (.returned (.tuple #[.int .i64 (k : Int), .slice pu bs.length cu, .int .i64 0])) wr) := ⟨k, pu, cu, bs, rfl, hI.out.2.1, hI.out.2.2.1, hI.out.2.2.2.1, hI.out.2.2.2.2⟩
      go_wp2_with fail
      go_ret3
      exact HFIN.out

end Go.Proofs.YtgjjkopmoobilaaGreatDoor

/- What the law's own column comes to, by each kind. -/
namespace Go.Proofs.YtgjjkopmoobilaaGreatDoor
open Go.RowKit
open M
set_option linter.unusedVariables false

/-- The column that the laws lay to see that the program works. -/
def wkF (i : Nat) : Nat := if i = 0 then 4609434218613702656 else if i = 1 then 4612811918334230528 else 4612248968380809216

theorem wkF_lt (i : Nat) : wkF i < 18446744073709551616 := by unfold wkF; split; omega; split <;> omega

set_option maxRecDepth 100000 in
theorem wk_bs : F64.bs wkF 3 22 = (2, 0) := by
  have h2 : F64.bs wkF 3 2 = (2, 0) := by decide +kernel
  rw [F64.bs_stop wkF 3 2 22 (by omega) (by rw [h2]), h2]

set_option maxRecDepth 100000 in
theorem wk_wb : F64.wb 2 wkF 0 3 0 = varB (zig 150) ++ (varB (zig 100) ++ varB (zig (-25))) := by decide +kernel

theorem wk_nt : F64.nt 64 2 wkF 0 3 0 = [] := by decide +kernel
theorem wk_cnt : F64.cnt 2 wkF 0 3 = 0 := by decide +kernel

theorem wk6 : (F64.dm 64 wkF 3).length = 53 := by
  unfold Dm.dm
  rw [show F64.mostP = 22 from rfl, wk_bs, wk_cnt, wk_nt, wk_wb]
  decide +kernel

theorem wk1 : (plB 64 wkF 3).length = 192 := by rw [plB_length]
theorem wk2 : 56 < (cbn 64 6 wkF 3).length := by decide +kernel
theorem wk3 : 56 < (rnB 64 wkF 3 0 3).length := by decide +kernel
theorem wk4 : (uq wkF 3).length ≤ 256 ∧ 56 < (dcB 64 wkF 3).length := by decide +kernel
theorem wk5 : 56 < (stB 9223372036854775808 18446744073709551616 wkF 3).length := by decide +kernel

end Go.Proofs.YtgjjkopmoobilaaGreatDoor

/- The law's own works() is true (of fathomlaw8). -/
namespace Go.Proofs.YtgjjkopmoobilaaGreatDoor
open Go.RowKit
open M
set_option linter.unusedVariables false
set_option linter.unusedSimpArgs false

theorem wkO (k : Nat) (h1 : 1 ≤ k) (h6 : k ≤ 6) : ∃ l, codeO64 k wkF 3 = some l ∧ 0 < l.length ∧ (k ≠ 6 → 56 < l.length) ∧ (k = 6 → l.length = 53) := by
  obtain rfl | rfl | rfl | rfl | rfl | rfl : k = 1 ∨ k = 2 ∨ k = 3 ∨ k = 4 ∨ k = 5 ∨ k = 6 := by omega
  · exact ⟨_, rfl, by rw [wk1]; omega, fun _ => by rw [wk1]; omega, fun h => by omega⟩
  · exact ⟨_, rfl, by have := wk2; omega, fun _ => wk2, fun h => by omega⟩
  · exact ⟨_, rfl, by have := wk3; omega, fun _ => wk3, fun h => by omega⟩
  · refine ⟨dcB 64 wkF 3, ?_, by have := wk4.2; omega, fun _ => wk4.2, fun h => by omega⟩
    show dcO 64 wkF 3 = _
    unfold dcO
    rw [if_pos wk4.1]
  · exact ⟨_, rfl, by have := wk5; omega, fun _ => wk5, fun h => by omega⟩
  · exact ⟨_, rfl, by rw [wk6]; omega, fun h => absurd rfl h, fun _ => wk6⟩

theorem wkIs (k : Nat) (bs : List Nat) (h1 : 1 ≤ k) (h6 : k ≤ 6) (hP : PackIs64 k 3 wkF bs) : 0 < bs.length ∧ (k ≠ 6 → 7 < bs.length) ∧ (k = 6 → bs.length = 7) := by
  obtain ⟨l, q1, q2, q3, q4⟩ := wkO k h1 h6
  obtain ⟨l', r1, r2⟩ := hP.2.2 (by omega)
  rw [q1] at r1
  cases r1
  have := packed_length l
  rw [r2] at this
  exact ⟨by omega, fun h => by have := q3 h; omega, fun h => by have := q4 h; omega⟩

theorem wkSome (k : Nat) (h1 : 1 ≤ k) (h6 : k ≤ 6) : ∃ bs, PackIs64 k 3 wkF bs := by
  obtain ⟨l, q1, _⟩ := wkO k h1 h6
  exact ⟨packed l, fun i _ => wkF_lt i, fun h => by omega, fun _ => ⟨l, q1, rfl⟩⟩

theorem wkRow {w : World} {g : Nat} {t : TypeId} (h : w.heap[g]? = some (.cells #[.int .u64 4609434218613702656, .int .u64 4612811918334230528, .int .u64 4612248968380809216] t (0, 0))) : URow64 w (some ⟨g, 0, none⟩) 3 wkF := fun _ =>
  ⟨g, 0, rfl, fun i hi => by
    rw [cell_of_row _ _ _ _ _ _ h]
    rcases (show i = 0 ∨ i = 1 ∨ i = 2 by omega) with rfl | rfl | rfl <;> rfl⟩

set_option maxRecDepth 100000 in
set_option maxHeartbeats 4000000 in
theorem works8_any (w : World) (hT : Tab64 w) : Calls Tryz.prog 10 #[] w fun e w' => e = .returned (.bool true) ∧ Below w.heap.size w w' := by
  have HR : Hid (URow64 (w.alloc (.cells #[.int .u64 4609434218613702656, .int .u64 4612811918334230528, .int .u64 4612248968380809216] 39)) (some ⟨w.heap.size, 0, none⟩) 3 wkF) := wkRow (heap_alloc_new _ _)
  have HB : Hid (Below w.heap.size w (w.alloc (.cells #[.int .u64 4609434218613702656, .int .u64 4612811918334230528, .int .u64 4612248968380809216] 39))) := (Below.refl _ _).alloc (Nat.le_refl _) _
  have HT := hide hT
  have HAG := hide (fun k w1 (hk1 : 1 ≤ k) (hk6 : k ≤ 6) (h : URow64 w1 (some ⟨w.heap.size, 0, none⟩) 3 wkF) (hT : Tab64 w1) => cAgain64 k (some ⟨w.heap.size, 0, none⟩) 3 3 wkF w1 hk1 hk6 h (by omega) (by omega) (fun i _ => wkF_lt i) hT)
  have HUN := hide (fun k v bs w1 (hk1 : 1 ≤ k) (hk6 : k ≤ 6) h1 h2 h3 (hT : Tab64 w1) => cUnpack64_any k v bs 3 w1 hk1 hk6 h1 h2 h3 (by omega) hT)
  have HBE := hide (fun w1 (h : URow64 w1 (some ⟨w.heap.size, 0, none⟩) 3 wkF) (hT : Tab64 w1) => best64_any (some ⟨w.heap.size, 0, none⟩) 3 3 wkF w1 h (by omega) (by omega) (fun i _ => wkF_lt i) hT)
  have HSM := hide (fun p cap (f : Nat → Nat) w1 (h : URow64 w1 p 3 f) (h' : URow64 w1 (some ⟨w.heap.size, 0, none⟩) 3 wkF) => same8_any p (some ⟨w.heap.size, 0, none⟩) 3 3 cap 3 f wkF w1 h h' (by omega) (by omega))
  obtain ⟨g, hg⟩ : ∃ g, w.heap.size = g := ⟨_, rfl⟩
  have HGG := hide hg
  rw [hg] at HR HAG HBE HSM
  clear hT
  go_enter Tryz.func10, Tryz.ntmps10
  go_upto_region 2 with fail
  (try rw [hg])
  clear hg
  generalize w.alloc (.cells #[.int .u64 4609434218613702656, .int .u64 4612811918334230528, .int .u64 4612248968380809216] 39) = w0 at *
  go_wp2_with fail
  go_loopw [2] (fun t2 wr => ∃ k : Nat, t2 = .int .i64 ((k : Int) + 1) ∧ Hid (k ≤ 6 ∧ Below w0.heap.size w0 wr)) (fun t2 _ => 8 - (intOf t2).toNat)
  case atStart => exact ⟨0, rfl, by omega, Below.refl _ _⟩
  case round =>
    obtain ⟨k, rfl, hI⟩ := hrel
    have HBw : Hid (Below w.heap.size w wr) := HB.out.trans (hI.out.2.mono HB.out.size)
    have HRw : Hid (URow64 wr (some ⟨g, 0, none⟩) 3 wkF) := HR.out.below hI.out.2
    by_cases hlt : k + 1 ≤ 6
    · have hle : (k : Int) + 1 ≤ 6 := by omega
      have HA := hide (HAG.out (k + 1) wr (by omega) hlt HRw.out (HT.out.below HBw.out))
      rw [show (((k + 1 : Nat)) : Int) = (k : Int) + 1 from by simp] at HA
      go_wp2_with fail
      refine HA.out.mono ?_
      intro e w1 hE
      rcases hE with ⟨pu, cu, bs, rfl, h2, h3, h4, h5, h6⟩ | ⟨rfl, h2, h3⟩
      · have hwk := wkIs (k + 1) bs (by omega) hlt h5
        have HP := hide h5
        have HB1 : Hid (Below w.heap.size w w1 ∧ Below w0.heap.size w0 w1) := ⟨HBw.out.trans (h4.mono HBw.out.size), hI.out.2.trans (h4.mono hI.out.2.size)⟩
        have hlen : bs.length ≤ 1000000000000 := by
          by_cases e : k + 1 = 6
          · have := hwk.2.2 e; omega
          · obtain ⟨l, q1, q2⟩ := h5.2.2 (by omega)
            rw [← q2, packed_length]
            obtain rfl | rfl | rfl | rfl | rfl : k = 0 ∨ k = 1 ∨ k = 2 ∨ k = 3 ∨ k = 4 := by omega
            · cases q1; rw [wk1]; omega
            · cases q1; have : (cbn 64 6 wkF 3).length ≤ 1000 := by decide +kernel
              omega
            · cases q1; have := rnB_len64 wkF 3 0 3; omega
            · have e2 : dcB 64 wkF 3 = l := by
                have q3 : dcO 64 wkF 3 = some l := q1
                unfold dcO at q3
                rw [if_pos wk4.1] at q3
                cases q3; rfl
              rw [← e2]
              have : (dcB 64 wkF 3).length ≤ 1000 := by decide +kernel
              omega
            · cases q1; have := stB_len64 9223372036854775808 18446744073709551616 wkF 3; omega
        have HU := hide (HUN.out (k + 1) _ bs w1 (by omega) hlt h2 h3 hlen (HT.out.below HB1.out.1))
        rw [show (((k + 1 : Nat)) : Int) = (k : Int) + 1 from by simp] at HU
        have hb0 : ((bs.length : Int) == 0) = false := by rw [beq_eq_false_iff_ne]; have := hwk.1; omega
        clear h2 h3 h4 h5 h6 hlen hwk
        go_wp2_with fail
        refine HU.out.mono ?_
        intro e w2 hE
        rcases hE with ⟨rfl, h2, h3⟩ | ⟨v, f, rfl, h2, h3, h4⟩
        · exact absurd HP.out (fun h => h3 wkF h)
        · obtain ⟨pv, cv, rfl, hcv, hrow⟩ := h2.row
          have hf := h4 wkF HP.out
          have HB2 : Hid (Below w.heap.size w w2 ∧ Below w0.heap.size w0 w2) := by
            have hB := h2.2.1
            exact ⟨HB1.out.1.trans (hB.mono HB1.out.1.size), HB1.out.2.trans (hB.mono HB1.out.2.size)⟩
          have HSA := hide (HSM.out pv cv f w2 hrow (HR.out.below HB2.out.2))
          have HFE := hide hf
          clear h2 h3 h4 hrow hf
          go_wp2_with fail
          refine (num8_any _ _).mono ?_
          rintro e wn ⟨rfl, hwn⟩
          have hwn := hwn.symm
          subst hwn
          go_wp2_with fail
          refine (num8_any _ _).mono ?_
          rintro e wn ⟨rfl, hwn⟩
          have hwn := hwn.symm
          subst hwn
          go_wp2_with fail
          refine HSA.out.mono ?_
          rintro e w3 ⟨v, rfl, hv, m, rfl⟩
          obtain rfl : v = true := hv.2 ⟨by trivial, HFE.out⟩
          have HB3 : Hid (Below w0.heap.size w0 (w2.drewN m)) := ⟨HB2.out.2.os, HB2.out.2.tape, HB2.out.2.output, HB2.out.2.size, HB2.out.2.block⟩
          clear hv
          generalize w2.drewN m = w4 at *
          go_wp2_with fail
          go_roundw
          case rel => exact ⟨k + 1, by simp, hlt, HB3.out⟩
          case measure => simp [intOf]; omega
      · exfalso
        obtain ⟨bs, hbs⟩ := wkSome (k + 1) (by omega) hlt
        exact h3 bs hbs
    · have hk : k = 6 := by have := hI.out.1; omega
      subst hk
      have HBB := hide (HBE.out wr HRw.out (HT.out.below HBw.out))
      go_wp2_with fail
      refine HBB.out.mono ?_
      rintro e w1 ⟨k, p, c, bs, rfl, h2, h3, h4, h5⟩
      have hw := wkIs k bs h4.lo (by have := h4.hi; omega) h4.is
      obtain ⟨b6, hb6⟩ := wkSome 6 (by omega) (by omega)
      have hw6 := (wkIs 6 b6 (by omega) (by omega) hb6).2.2 rfl
      have hk6 : k = 6 := by
        by_cases e : k = 6
        · exact e
        · have := hw.2.1 e
          rcases h4.least 6 b6 (by omega) (by omega) hb6 with h | h <;> omega
      have hl7 : bs.length = 7 := hw.2.2 hk6
      have HB1 : Hid (Below w.heap.size w w1) := HBw.out.trans (h5.mono HBw.out.size)
      subst hk6
      rw [hl7]
      clear h2 h3 h4 h5 hw hb6 hw6 hl7
      go_wp2_with fail
      refine (num8_any _ _).mono ?_
      rintro e wn ⟨rfl, hwn⟩
      have hwn := hwn.symm
      subst hwn
      go_wp2_with fail
      go_ret
      exact ⟨rfl, HB1.out⟩

end Go.Proofs.YtgjjkopmoobilaaGreatDoor

namespace Go.Proofs.YtgjjkopmoobilaaGreatDoor
open Go.RowKit
open M
set_option linter.unusedVariables false
set_option linter.unusedSimpArgs false

theorem clen32_any (x : Nat) (w : World) (hx : x < 18446744073709551616) : Calls Tryz.prog 112 #[.int .u64 x] w fun e w' => e = .returned (.int .i64 (bitLen x : Nat)) ∧ w' = w := by
  have HL := hide (len64_all x w hx)
  go_enter Tryz.func112, Tryz.ntmps112
  go_wp2_with fail
  refine HL.out.mono ?_
  rintro e w1 ⟨rfl, rfl⟩
  go_wp2_with fail
  go_ret
  exact ⟨rfl, rfl⟩

theorem cwidth32_any (w : World) : Calls Tryz.prog 116 #[] w fun e w' => e = .returned (.int .i64 32) ∧ w' = w := by
  have hx : bits BinOp.xor IntKind.u32 0 4294967295 = 4294967295 := by decide +kernel
  have HL := hide (clen32_any 4294967295 w (by omega))
  rw [show bitLen 4294967295 = 32 from by decide +kernel] at HL
  go_enter Tryz.func116, Tryz.ntmps116
  go_wp2_with fail
  refine HL.out.mono ?_
  rintro e w1 ⟨rfl, rfl⟩
  go_wp2_with fail
  go_ret
  exact ⟨rfl, rfl⟩

theorem layValue32_any (b off lo : Nat) (v : Nat) (w : World) (l : List Bool) (hW : Wr w lo b off l 0) (hb : b < lo) (hlo : lo ≤ w.heap.size) (hlen : l.length + 32 < 1000000000000) (hv : v < 4294967296) :
    Calls Tryz.prog 96 #[.pointer (some ⟨b, off, none⟩), .int .u32 v] w fun e w' => e = .returned (.tuple #[]) ∧ Wr w' lo b off (l ++ bitsOf v 32) 0 ∧ Only b off (off + 123) w w' := by
  have r0 : IntKind.u64.wrap (v : Int) = (v : Int) := by rw [IntKind.wrap_u64]; omega
  have HW := hide hW
  clear hW
  go_enter Tryz.func96, Tryz.ntmps96
  go_wp2_with fail
  refine (cwidth32_any _).mono ?_
  rintro e w1 ⟨rfl, rfl⟩
  go_wp2_with fail
  refine (wbits_any b off lo 32 v _ l HW.out hb hlo hlen (by omega) (by omega) (by omega)).mono ?_
  rintro e w1 ⟨rfl, W1, O1⟩
  go_wp2_with fail
  go_end0
  exact ⟨rfl, W1, O1⟩

/-- What takeValue tells. -/
def ValueEnd32 (w : World) (b off : Nat) (s : ByteArray) (a : Nat) (e0 : Int) (e : Ending) (w' : World) : Prop :=
  ∃ (x a' : Nat) (e1 : Int), e = .returned (.int .u32 (x : Int)) ∧ x < 4294967296 ∧ Tk w w' b off s a e0 a' e1 (bitsOf x 32)

theorem takeValue32_any (b off : Nat) (s : ByteArray) (a : Nat) (e0 : Int) (w : World) (h : Rd w b off s a e0) :
    Calls Tryz.prog 76 #[.pointer (some ⟨b, off, none⟩)] w (ValueEnd32 w b off s a e0) := by
  have H := hide h
  clear h
  go_enter Tryz.func76, Tryz.ntmps76
  go_wp2_with fail
  refine (cwidth32_any _).mono ?_
  rintro e w1 ⟨rfl, rfl⟩
  go_wp2_with fail
  refine (tk_bits b off s a 32 e0 _ H.out (by omega)).mono ?_
  rintro e w2 ⟨x, a', e1, rfl, hx, T⟩
  have HT := hide T
  clear T
  have hx' : x < 4294967296 := by simpa using hx
  have r0 : IntKind.u32.wrap (x : Int) = (x : Int) := by rw [IntKind.wrap_u32]; omega
  go_wp2_with fail
  go_ret
  exact ⟨x, a', e1, rfl, hx', HT.out⟩

end Go.Proofs.YtgjjkopmoobilaaGreatDoor

/- The law's own functions: Widened (of fathomlaw7), wideOf, alike (of fathomlaw8). As P2A. -/
import Derived.Test.YtleffbpjjbiobaaGreatDoorC4C64
import Derived.Test.YtleffbpjjbiobaaGreatDoorP1J32
import Derived.Test.YtleffbpjjbiobaaGreatDoorC3H32
import Derived.Test.YtleffbpjjbiobaaGreatDoorC1V32
import Derived.Test.YtleffbpjjbiobaaGreatDoorP1Q64
import Derived.Test.YtleffbpjjbiobaaGreatDoorC1S32
import Derived.Test.YtleffbpjjbiobaaGreatDoorC3E64
/- Pack and Unpack by CodeDecimal alone (32 bits). -/
namespace Go.Proofs.YtleffbpjjbiobaaGreatDoor
open Go.RowKit
open M
set_option linter.unusedVariables false
set_option linter.unusedSimpArgs false

/-- The bits of n values by CodeDecimal. -/
def codeD32 (k : Nat) (f : Nat → Nat) (n : Nat) : Option (List Bool) := some (F32.dm 32 f n)

theorem dPack32_some (p : Option Addr) (n cap : Nat) (f : Nat → Nat) (w : World) (h : URow32 w p n f) (h0 : 0 < n) (hn : n ≤ 4096) (hcap : n ≤ cap) (hf : ∀ i, i < n → f i < 4294967296) :
    Calls Tryz.prog 17 #[.int .i64 6, .slice p n cap] w (RowEnd32 (F32.dm 32 f n) w) := by
  refine (cPack32_6 p n cap w h0 hn (fun b s w' => RowEnd32 (F32.dm 32 f n) w (.returned (.tuple #[b, s])) w') fun w1 B1 => ?_).mono ?_
  · refine (packDecimal32_any p n cap f w1 (h.below B1) hn hcap hf).mono ?_
    rintro e w' ⟨g, L, h1, h2, rfl, h4, h5⟩
    exact ⟨_, _, rfl, g, L, h1, Nat.le_trans B1.size h2, rfl, h4, B1.trans (h5.mono B1.size)⟩
  · rintro e w' ⟨b, s, rfl, hq⟩
    exact hq

/-- The bytes are those of n values h by the kind k. -/
def DIs32 (k n : Nat) (h : Nat → Nat) (bs : List Nat) : Prop := (∀ i, i < n → h i < 4294967296) ∧ (n = 0 → bs = []) ∧ (0 < n → ∃ l, codeD32 k h n = some l ∧ packed l = bs)

/-- The answers of Pack of what a taker told. -/
def DAgain32 (k n : Nat) (f : Nat → Nat) (w : World) (e : Ending) (w' : World) : Prop :=
  (∃ (pu : Option Addr) (cu : Nat) (bs : List Nat), e = .returned (.tuple #[.slice pu bs.length cu, .int .i64 0]) ∧ IsBy w' (.slice pu bs.length cu) bs ∧ (∀ n ∈ bs, n < 256) ∧ Below w.heap.size w w' ∧ DIs32 k n f bs ∧ ∀ bs', DIs32 k n f bs' → bs' = bs) ∨
  (e = .returned (.tuple #[.slice none 0 0, .int .i64 82]) ∧ Below w.heap.size w w' ∧ ∀ bs, DIs32 k n f bs → False)

theorem dAgain32 (k : Nat) (p : Option Addr) (n cap : Nat) (f : Nat → Nat) (w : World) (hk : k = 6) (h : URow32 w p n f) (hn : n ≤ 4096) (hcap : n ≤ cap) (hf : ∀ i, i < n → f i < 4294967296) :
    Calls Tryz.prog 17 #[.int .i64 k, .slice p n cap] w (DAgain32 k n f w) := by
  subst hk
  by_cases h0 : n = 0
  · subst h0
    refine (cPack32_empty 6 p cap w (by omega) (by omega)).mono ?_
    rintro e w' ⟨rfl, hB⟩
    exact .inl ⟨none, 0, [], rfl, .inl (.inl ⟨rfl, rfl⟩), by simp, hB, ⟨hf, fun _ => rfl, fun h => by omega⟩, fun bs' hP => hP.2.1 rfl⟩
  · refine (dPack32_some p n cap f w h (by omega) hn hcap hf).mono ?_
    intro e w' hE
    obtain ⟨g, L, h1, h2, rfl, h4, h5⟩ := hE
    subst h1
    refine .inl ⟨_, _, packed (F32.dm 32 f n), rfl, .inl (isBytes_row h4), packed_lt _, h5, ⟨hf, fun h => absurd h h0, fun _ => ⟨_, rfl, rfl⟩⟩, fun bs' hP => ?_⟩
    obtain ⟨l', h1, h2⟩ := hP.2.2 (by omega)
    cases h1
    exact h2.symm

theorem DIs32.lay {k n : Nat} {h : Nat → Nat} {bs : List Nat} (H : DIs32 k n h bs) : LayC32 (fun f => codeD32 k f n) bs n h := by
  refine ⟨H.1, H.2.1, fun h0 => ?_⟩
  obtain ⟨l, h1, h2⟩ := H.2.2 h0
  exact ⟨l, _, h1, by rw [← h2, rbits_packed]⟩

/-- What a taker tells, of a text that is a column's by a kind, or not. -/
def DTake32 (k : Nat) (bs : List Nat) (n : Nat) (w : World) (e : Ending) (w' : World) : Prop :=
  (∃ c : Int, c ≠ 0 ∧ e = .returned (.tuple #[.slice none 0 0, .int .i64 c]) ∧ Below w.heap.size w w' ∧ ∀ h, DIs32 k n h bs → False) ∨
  ∃ (v : Value) (f : Nat → Nat), e = .returned (.tuple #[v, .int .i64 0]) ∧ USt32 w.heap.size w f n v w' ∧ (∀ i, i < n → f i < 4294967296) ∧ ∀ h, DIs32 k n h bs → ∀ i, i < n → f i = h i

theorem dTake_of32 {k : Nat} {bs : List Nat} {n : Nat} {w : World} {e : Ending} {w' : World} {bf : (Nat → Nat) → Option (List Bool)} (hb : (fun f => codeD32 k f n) = bf) (h : UnEnd32 bf bs n w e w') : DTake32 k bs n w e w' := by
  subst hb
  rcases h with ⟨c, h1, h2, h3, h4⟩ | ⟨v, f, h1, h2, h3, h4⟩
  · exact .inl ⟨c, h1, h2, h3, fun h hP => h4 h hP.lay⟩
  · exact .inr ⟨v, f, h1, h2, h3, fun h hP => h4 h hP.lay⟩

/-- What Unpack tells. -/
def DUnEnd32 (k : Nat) (bs : List Nat) (n : Nat) (w : World) (e : Ending) (w' : World) : Prop :=
  (e = .returned (.tuple #[.slice none 0 0, .int .i64 83]) ∧ Below w.heap.size w w' ∧ ∀ h, DIs32 k n h bs → False) ∨
  ∃ (v : Value) (f : Nat → Nat), e = .returned (.tuple #[v, .int .i64 0]) ∧ USt32 w.heap.size w f n v w' ∧ DIs32 k n f bs ∧ ∀ h, DIs32 k n h bs → ∀ i, i < n → f i = h i

theorem codeD32_congr (k : Nat) (f g : Nat → Nat) (n : Nat) (h : ∀ i, i < n → f i = g i) : codeD32 k f n = codeD32 k g n := by
  unfold codeD32
  rw [F32.dm_congr 32 f g n h]

theorem DIs32.congr {k n : Nat} {f g : Nat → Nat} {bs : List Nat} (H : DIs32 k n f bs) (h : ∀ i, i < n → f i = g i) : DIs32 k n g bs :=
  ⟨fun i hi => by rw [← h i hi]; exact H.1 i hi, H.2.1, fun h0 => by
    obtain ⟨l, h1, h2⟩ := H.2.2 h0
    exact ⟨l, by rw [← codeD32_congr k f g n h]; exact h1, h2⟩⟩

set_option maxRecDepth 100000 in
theorem dUnpack32_6 (v : Value) (bs : List Nat) (n : Nat) (w : World) (hv : IsBy w v bs) (hb : ∀ n ∈ bs, n < 256) (hl : bs.length ≤ 1000000000000) (hn : n ≤ 4096) (hT : Tab64 w)
    (hcall : ∀ w1, Below w.heap.size w w1 → Calls Tryz.prog 50 #[v, .int .i64 n] w1 (DTake32 6 bs n w1)) :
    Calls Tryz.prog 14 #[.int .i64 6, v, .int .i64 n] w (DUnEnd32 6 bs n w) := by
  have hf : Instr.findNow (.int .i64) (.int .i64 6) unpackersE32.toList 0 = some (some (5, .func (.func 50) #[] #[])) := by kernel_rfl
  have HV := hide hv
  have HBB := hide hb
  have HT := hide hT
  have HC := hide hcall
  have HAG := hide (fun p cap f w1 h1 h2 h3 => dAgain32 6 p n cap f w1 rfl h1 hn h2 h3)
  clear hv hb hT hcall hl
  go_enter Tryz.func14, Tryz.ntmps14
  go_wp2_with fail
  refine (unpackers32_any w).mono ?_
  rintro e w1 ⟨rfl, b1, B1⟩
  have hlk := run_get (P := Tryz.prog) (w := w1) _ _ _ _ _ _ 6 _ _ Tryz.underlying80 Tryz.underlying3 b1 hf
  have HB1 := hide B1
  clear B1 b1 hf
  go_wp2_with fail
  refine (HC.out w1 HB1.out).mono ?_
  intro e w2 hE
  rcases hE with ⟨c, hc, rfl, B2, hno⟩ | ⟨u, f, rfl, hU, hr, hfull⟩
  · have hcn : (c != 0) = true := by rw [bne_iff_ne]; exact hc
    have HFIN : Hid (DUnEnd32 6 bs n w (.returned (.tuple #[.slice none 0 0, .int .i64 83])) w2) := .inl ⟨rfl, HB1.out.trans (B2.mono HB1.out.size), hno⟩
    clear hc B2 hno
    go_wp2_with fail
    go_ret2
    exact HFIN.out
  · obtain ⟨p, cap, rfl, hcap, hrow⟩ := hU.row
    have HU := hide hU
    have HRR := hide (And.intro hr hfull)
    have hB2 := hU.2.1
    have HB2 : Hid (Below w.heap.size w w2) := HB1.out.trans (hB2.mono HB1.out.size)
    have HAGN := hide (HAG.out p cap f w2 hrow hcap hr)
    clear hU hr hfull hrow hB2
    go_wp2_with fail
    refine HAGN.out.mono ?_
    intro e w3 hE
    rcases hE with ⟨px, cx, bx, rfl, hx, hbx, B3, hP, huq⟩ | ⟨rfl, B3, hno⟩
    · have HB3 : Hid (Below w.heap.size w w3) := HB2.out.trans (B3.mono HB2.out.size)
      have HEQ := hide (bytesEqual64_any (.slice px bx.length cx) v bx bs w3 hx (isBy_below HV.out HB3.out) hbx HBB.out)
      by_cases e : bx = bs
      · have HFIN : Hid (DUnEnd32 6 bs n w (.returned (.tuple #[.slice p n cap, .int .i64 0])) w3) := by
          refine .inr ⟨_, f, rfl, ?_, by rw [← e]; exact hP, HRR.out.2⟩
          have h1 := HU.out.1
          have h2 := HB1.out.size
          refine ⟨(ownsRow_keepC32 h1 fun g hg1 hg2 => B3.block g hg2).mono h2, HB3.out, Nat.le_refl _⟩
        rw [decide_eq_true e] at HEQ
        clear hx hbx B3 hP huq e
        go_wp2_with fail
        refine HEQ.out.mono ?_
        rintro e w4 ⟨rfl, h4⟩
        have h4 := h4.symm
        subst h4
        go_wp2_with fail
        go_ret2
        exact HFIN.out
      · have HFIN : Hid (DUnEnd32 6 bs n w (.returned (.tuple #[.slice none 0 0, .int .i64 83])) w3) := by
          refine .inl ⟨rfl, HB3.out, fun h hPh => e ?_⟩
          exact (huq bs (hPh.congr fun i hi => (HRR.out.2 h hPh i hi).symm)).symm
        rw [decide_eq_false e] at HEQ
        clear hx hbx B3 hP huq e
        go_wp2_with fail
        refine HEQ.out.mono ?_
        rintro e w4 ⟨rfl, h4⟩
        have h4 := h4.symm
        subst h4
        go_wp2_with fail
        go_ret2
        exact HFIN.out
    · have HFIN : Hid (DUnEnd32 6 bs n w (.returned (.tuple #[.slice none 0 0, .int .i64 83])) w3) := by
        refine .inl ⟨rfl, HB2.out.trans (B3.mono HB2.out.size), fun h hPh => ?_⟩
        exact hno bs (hPh.congr fun i hi => (HRR.out.2 h hPh i hi).symm)
      clear B3 hno
      go_wp2_with fail
      go_ret2
      exact HFIN.out

theorem dUnpack32_any (v : Value) (bs : List Nat) (n : Nat) (w : World) (hv : IsBy w v bs) (hb : ∀ n ∈ bs, n < 256) (hl : bs.length ≤ 1000000000000) (hn : n ≤ 4096) (hT : Tab64 w) :
    Calls Tryz.prog 14 #[.int .i64 6, v, .int .i64 n] w (DUnEnd32 6 bs n w) :=
  dUnpack32_6 v bs n w hv hb hl hn hT fun w1 B1 => (unpackDecimal32_any v bs n w1 (isBy_below hv B1) hb hl hn).mono fun e w' hE => dTake_of32 rfl hE

end Go.Proofs.YtleffbpjjbiobaaGreatDoor

/- A new cell. -/
namespace Go.Proofs.YtleffbpjjbiobaaGreatDoor
open Go.RowKit
set_option linter.unusedVariables false

theorem cell_new8 (w : World) (v : Value) (t : TypeId) (j : Nat) (u : Value) (h : [v][j]? = some u) : (w.alloc (.cells #[v] t)).cell? ((⟨w.heap.size, 0, none⟩ : Addr).add j) = some u := by
  have hn := heap_alloc_new w (.cells #[v] t)
  rw [Addr.add_mid, Nat.zero_add, cell_of_row _ _ _ _ _ _ hn]
  cases j with
  | zero => simpa using h
  | succ j => simp at h

end Go.Proofs.YtleffbpjjbiobaaGreatDoor

namespace Go.Proofs.YtleffbpjjbiobaaGreatDoor
open Go.RowKit
open M
set_option linter.unusedVariables false

set_option maxRecDepth 100000 in
set_option maxHeartbeats 1000000 in
/-- uint32s as uint64s. -/
theorem widened8_any (p : Option Addr) (n cap : Nat) (f : Nat → Nat) (w : World) (h : URow32 w p n f) (hf : ∀ i, i < n → f i < 4294967296) (hn : n ≤ 1000000) :
    Calls Tryz.prog 38 #[.slice p n cap] w fun e w' => ∃ ad cp, e = .returned (.slice ad n cp) ∧ n ≤ cp ∧ URow64 w' ad n f ∧ Below w.heap.size w w' := by
  have H := hide h
  have HF := hide hf
  clear h hf
  obtain ⟨i5, hi5⟩ := info64
  have Hi := hide hi5
  clear hi5
  go_enter Tryz.func38, Tryz.ntmps38
  go_wp2_with fail
  go_loopw [3, 4] (fun t3 t4 wr => ∃ i : Nat, t4 = .int .i64 (i : Int) ∧ Hid (i ≤ n) ∧ Hid (USt64 w.heap.size w f i t3 wr)) (fun _ t4 _ => n - (intOf t4).toNat)
  case atStart => exact ⟨0, rfl, Nat.zero_le _, USt64.nil _ _⟩
  case round =>
    obtain ⟨i, rfl, hI, HS⟩ := hrel
    by_cases hlt : i < n
    · obtain ⟨b, o, rfl, hc⟩ := H.out (by omega)
      have Hnext := hide (fun (w4 : World) (g4 cap4 : Nat) => USt64.next (w4 := w4) (g := g4) (cap := cap4) HS.out rfl)
      obtain ⟨x, hx⟩ : ∃ x, f i = x := ⟨_, rfl⟩
      have hbw : b < w.heap.size := block_lt_of_cell (hc i hlt)
      have c1 : wr.cell? ⟨b, o + i, none⟩ = some (.int .u32 (x : Int)) := by rw [HS.out.2.1.cell (p := ⟨b, o + i, none⟩) hbw, ← hx]; exact hc i hlt
      have hxl : x < 4294967296 := by rw [← hx]; exact HF.out i hlt
      have r1 : IntKind.u64.wrap (x : Int) = (x : Int) := by rw [IntKind.wrap_u64]; omega
      rw [hx] at Hnext
      have HX := hide hxl
      clear hc hx hxl
      go_wp2_with (at_builtin; refine wpList_append_lies _ rfl _ _ _ rfl w.heap.size 39 i5 (.int .u64 0) 1 8 Tryz.underlying28 Hi.out.1 Hi.out.2.1 Hi.out.2.2.1 Hi.out.2.2.2 rfl (by decide) _ i (valsV64 i f) rfl (HS.out.1.alloc _) ⟨wr.heap.size, 0, none⟩ 1 1 [.int .u64 (x : Int)] rfl rfl ?d2 ?d3 (by decide) ?d4 ?d5 ?d7 _ rfl ?d6)
      case d2 => intro j u hj; exact cell_new8 wr _ 39 j u hj
      case d3 => intro u hu; simp at hu; subst hu; rfl
      case d4 => unfold maxLen; omega
      case d5 => omega
      case d7 => have := HS.out.2.1.size; simp; omega
      case d6 =>
        intro g4 cap4 w4 ho4 hg4 hat4 hlt4
        have H4 : Hid (USt64 w.heap.size w f (i + 1) (.slice (some ⟨g4, 0, none⟩) (i + 1) cap4) w4) := Hnext.out w4 g4 cap4 ho4 hg4
        clear ho4 hg4 hat4 hlt4 HS Hnext
        go_wp2_with fail
        go_roundw
        case rel => exact ⟨i + 1, by simp, hlt, H4.out⟩
        case measure => simp [intOf]; omega
    · obtain rfl : i = n := by have := hI.out; omega
      obtain ⟨ad, cp, rfl, hcp, hrow⟩ := HS.out.row
      have HR := hide hrow
      have HB := hide HS.out.2.1
      clear hrow HS
      go_wp2_with fail
      go_ret
      exact ⟨ad, cp, rfl, hcp, HR.out, HB.out⟩

set_option maxRecDepth 100000 in
set_option maxHeartbeats 1000000 in
/-- uint32s as uint64s. -/
theorem wideOf8_any (p : Option Addr) (n cap : Nat) (f : Nat → Nat) (w : World) (h : URow32 w p n f) (hf : ∀ i, i < n → f i < 4294967296) (hn : n ≤ 1000000) :
    Calls Tryz.prog 24 #[.slice p n cap] w fun e w' => ∃ ad cp, e = .returned (.slice ad n cp) ∧ n ≤ cp ∧ URow64 w' ad n f ∧ Below w.heap.size w w' := by
  have H := hide h
  have HF := hide hf
  clear h hf
  obtain ⟨i5, hi5⟩ := info64
  have Hi := hide hi5
  clear hi5
  go_enter Tryz.func24, Tryz.ntmps24
  go_wp2_with fail
  go_loopw [3, 4] (fun t3 t4 wr => ∃ i : Nat, t4 = .int .i64 (i : Int) ∧ Hid (i ≤ n) ∧ Hid (USt64 w.heap.size w f i t3 wr)) (fun _ t4 _ => n - (intOf t4).toNat)
  case atStart => exact ⟨0, rfl, Nat.zero_le _, USt64.nil _ _⟩
  case round =>
    obtain ⟨i, rfl, hI, HS⟩ := hrel
    by_cases hlt : i < n
    · obtain ⟨b, o, rfl, hc⟩ := H.out (by omega)
      have Hnext := hide (fun (w4 : World) (g4 cap4 : Nat) => USt64.next (w4 := w4) (g := g4) (cap := cap4) HS.out rfl)
      obtain ⟨x, hx⟩ : ∃ x, f i = x := ⟨_, rfl⟩
      have hbw : b < w.heap.size := block_lt_of_cell (hc i hlt)
      have c1 : wr.cell? ⟨b, o + i, none⟩ = some (.int .u32 (x : Int)) := by rw [HS.out.2.1.cell (p := ⟨b, o + i, none⟩) hbw, ← hx]; exact hc i hlt
      have hxl : x < 4294967296 := by rw [← hx]; exact HF.out i hlt
      have r1 : IntKind.u64.wrap (x : Int) = (x : Int) := by rw [IntKind.wrap_u64]; omega
      rw [hx] at Hnext
      have HX := hide hxl
      clear hc hx hxl
      go_wp2_with (at_builtin; refine wpList_append_lies _ rfl _ _ _ rfl w.heap.size 39 i5 (.int .u64 0) 1 8 Tryz.underlying28 Hi.out.1 Hi.out.2.1 Hi.out.2.2.1 Hi.out.2.2.2 rfl (by decide) _ i (valsV64 i f) rfl (HS.out.1.alloc _) ⟨wr.heap.size, 0, none⟩ 1 1 [.int .u64 (x : Int)] rfl rfl ?d2 ?d3 (by decide) ?d4 ?d5 ?d7 _ rfl ?d6)
      case d2 => intro j u hj; exact cell_new8 wr _ 39 j u hj
      case d3 => intro u hu; simp at hu; subst hu; rfl
      case d4 => unfold maxLen; omega
      case d5 => omega
      case d7 => have := HS.out.2.1.size; simp; omega
      case d6 =>
        intro g4 cap4 w4 ho4 hg4 hat4 hlt4
        have H4 : Hid (USt64 w.heap.size w f (i + 1) (.slice (some ⟨g4, 0, none⟩) (i + 1) cap4) w4) := Hnext.out w4 g4 cap4 ho4 hg4
        clear ho4 hg4 hat4 hlt4 HS Hnext
        go_wp2_with fail
        go_roundw
        case rel => exact ⟨i + 1, by simp, hlt, H4.out⟩
        case measure => simp [intOf]; omega
    · obtain rfl : i = n := by have := hI.out; omega
      obtain ⟨ad, cp, rfl, hcp, hrow⟩ := HS.out.row
      have HR := hide hrow
      have HB := hide HS.out.2.1
      clear hrow HS
      go_wp2_with fail
      go_ret
      exact ⟨ad, cp, rfl, hcp, HR.out, HB.out⟩

/-- A Bool that says whether P; new memory may have been made. -/
def SaysB8 (P : Prop) (w : World) (e : Ending) (w' : World) : Prop := ∃ v : Bool, e = .returned (.bool v) ∧ (v = true ↔ P) ∧ Below w.heap.size w w'

theorem alike8_any (p q : Option Addr) (n n' cap cap' : Nat) (f g : Nat → Nat) (w : World) (h : URow32 w p n f) (hf : ∀ i, i < n → f i < 4294967296) (hn : n ≤ 1000000) (h' : URow64 w q n' g) (hn' : n' ≤ 281474976710656) :
    Calls Tryz.prog 23 #[.slice p n cap, .slice q n' cap'] w (SaysB8 (n = n' ∧ ∀ i, i < n → f i = g i) w) := by
  have H' := hide h'
  have HW := hide (widened8_any p n cap f w h hf hn)
  clear h h' hf
  go_enter Tryz.func23, Tryz.ntmps23
  go_wp2_with fail
  refine HW.out.mono ?_
  rintro e w1 ⟨ad, cp, rfl, hcp, R1, B1⟩
  have HR1 := hide R1
  have HB1 := hide B1
  clear R1 B1
  go_wp2_with fail
  refine (same8_any ad q n n' cp cap' f g w1 HR1.out (H'.out.below HB1.out) (by omega) hn').mono ?_
  rintro e w2 ⟨v, rfl, hv, m, hw2⟩
  have HV := hide hv
  have HB2 : Hid (Below w.heap.size w w2) := by rw [hw2]; exact below_drewN HB1.out m
  clear hv hw2
  go_wp2_with fail
  go_ret
  exact ⟨v, rfl, HV.out, HB2.out⟩

end Go.Proofs.YtleffbpjjbiobaaGreatDoor

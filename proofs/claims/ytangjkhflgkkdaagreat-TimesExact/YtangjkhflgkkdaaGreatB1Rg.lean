/- The law's Lend, Intact, Over. -/
import Derived.Test.YtangjkhflgkkdaaGreatB1X0
import Derived.Test.YtangjkhflgkkdaaGreatB1Ra
import Derived.Laws.AppendOwnNone
import Derived.OwnWalk
/- The document's own Reader: the contract of From. -/
namespace Go.Proofs.YtangjkhflgkkdaaGreat
open Go.RowKit
open M
set_option linter.unusedVariables false

theorem rw_new113 (w : World) : Rw (w.alloc (.cells #[.slice none 0 0, .int .i64 0] 120)) w.heap.size 0 none [] 0 := by
  have hn := heap_alloc_new w (.cells #[.slice none 0 0, .int .i64 0] 120)
  refine ⟨⟨.slice none 0 0, ?_, World.ownsRow_nil _ _ _ _, rfl, fun _ => rfl⟩, ?_, fun j hj => ?_, fun g hg => by simp at hg⟩
  · rw [cell_of_row _ _ _ _ _ _ hn]; rfl
  · rw [cell_of_row _ _ _ _ _ _ hn]; rfl
  · exact frozen_of_row _ _ _ _ _ hn

theorem from_bit (bs : List Nat) (i q sh : Nat) (h : i < 8 * bs.length) (hl : i < (rbits bs).length) (hq : q = i / 8) (hsh : sh = 7 - i % 8) :
    bitV (rbits bs)[i] = .int .u8 (((bs.getD q 0 : Nat) : Int) / 2 ^ sh % 2) := by
  have h1 := look_byte bs i 1 (by omega) (by omega)
  rw [bit_of _ _ hl] at h1
  rw [← hq, show 8 - i % 8 - 1 = sh from by omega] at h1
  unfold bitV
  generalize bs.getD q 0 = y at *
  have e : ((y : Int) / 2 ^ sh % 2) = ((y / 2 ^ sh % 2 ^ 1 : Nat) : Int) := by simp
  rw [e, ← h1]
  cases (rbits bs)[i] <;> rfl

theorem take_next (l : List Bool) (i : Nat) (h : i < l.length) : l.take (i + 1) = l.take i ++ [l[i]] := by
  rw [List.take_add_one, List.getElem?_eq_getElem h]; rfl

/-- The rows of a Writer and a Reader lie alike. -/
theorem rr_of_rw {w w0 : World} {b : Nat} {r : Option Nat} {l : List Bool} {e : Int} (h : Rw w b 0 r l e) (hs : RowStep w0 none r) (hb : b < w0.heap.size) (hl : l.length ≤ 1000000000000) : Rr w b w.heap.size l e := by
  obtain ⟨v, h1, ⟨h2, h3⟩, h4, h5⟩ := h.row
  refine ⟨⟨v, h1, ?_⟩, by simpa using h.err, fun j hj => by simpa using h.fz j hj, h.lt, hl⟩
  rcases h3 with ⟨rfl, h6⟩ | ⟨g, cap, cur, rfl, _, h6, h7, _, h8, h9⟩
  · exact ⟨none, 0, by rw [h6], by omega, fun h0 => by omega⟩
  · refine ⟨some ⟨g, 0, none⟩, cap, rfl, h7, fun h0 => ⟨g, 0, rfl, ?_, ?_, fun i hi => ?_⟩⟩
    · simp only [Value.ownBlock] at h4
      subst h4
      rcases hs with hs | ⟨g', hg, hle⟩
      · simp at hs
      · simp only [Option.some.injEq] at hg; omega
    · simp only [Value.ownBlock] at h4
      exact (h.apart g h4.symm).2
    · rw [cell_of_row _ _ _ _ _ _ h6]
      have h10 := congrArg (fun l => l[i]?) h9
      rw [List.getElem?_take_of_lt (by omega)] at h10
      simp only [List.getElem?_map, List.getElem?_eq_getElem hi, Option.map_some] at h10
      simp only [Nat.zero_add]
      rw [Array.getElem?_toList] at h10
      rw [h10]
      simp only [bn, List.getElem?_eq_getElem hi, bitV]
      cases l[i] <;> simp

/-- Behind i bits of From. -/
def FromSt (w0 : World) (V : Nat) (l : List Bool) (i : Nat) (wr : World) : Prop :=
  ∃ r, Rw wr V 0 r (l.take i) 0 ∧ RowStep w0 none r ∧ OnlyR V 0 2 none w0 wr

theorem FromSt.step {w0 wr w1 w2 : World} {V : Nat} {l : List Bool} {i : Nat} {r : Option Nat} {xb : Int} {g cap : Nat} (hR : Rw wr.drew V 0 r (l.take i) 0) (hS : RowStep w0 none r) (hO : OnlyR V 0 2 none w0 wr) (hi : i < l.length) (hx : bitV l[i] = .int .u8 xb)
    (ho : w1.ownsRow 0 5 1 (.slice (some ⟨g, 0, none⟩) ((l.take i).length + 1) cap) ((l.take i).length + 1) ((l.take i).map bitV ++ [bitV l[i]])) (hg : (wr.drew.alloc (.cells #[.int .u8 xb] 5)).grownBy w1 r) (hat : r = some g ∨ g = wr.drew.heap.size + 1) (hlt : g < w1.heap.size)
    (hw2 : w2 = w1.setCell ⟨V, 0, none⟩ (.slice (some ⟨g, 0, none⟩) ((l.take i).length + 1) cap)) : FromSt w0 V l (i + 1) w2 := by
  obtain ⟨r', h1, h2, h3⟩ := hR.step hx ho hg hat hlt hw2
  refine ⟨r', by rw [take_next l i hi]; exact h1, hS.trans hO.size h2, ?_⟩
  have hO2 : OnlyR V 0 2 none w0 wr.drew := ⟨hO.os, hO.tape, hO.output, hO.size, hO.block, hO.cell, hO.frozen⟩
  exact hO2.trans hS h3

set_option maxRecDepth 100000 in
set_option maxHeartbeats 4000000 in
theorem vfrom_some (g0 o0 n cap0 : Nat) (bs : List Nat) (w : World) (hn : n = bs.length) (hn2 : n ≤ 1000000) (h256 : ∀ n ∈ bs, n < 256) (hcells : ∀ i, i < n → w.cell? ⟨g0, o0 + i, none⟩ = some (.int .u8 (bs.getD i 0 : Nat))) :
    Calls Tryz.prog 42 #[.slice (some ⟨g0, o0, none⟩) n cap0] w fun e w' => e = .returned (.pointer (some ⟨w.heap.size, 0, none⟩)) ∧ Rr w' w.heap.size w'.heap.size (rbits bs) 0 ∧ Below w.heap.size w w' := by
  have hz : (Tryz.prog.info? 5).bind (·.zero) = some (.int .u8 0) := by kernel_rfl
  have hs : (Tryz.prog.info? 5).map (·.size) = some 1 := by kernel_rfl
  have hb : (Tryz.prog.info? 5).map (·.bytes) = some 1 := by kernel_rfl
  cases hi : Tryz.prog.info? 5 with
  | none => simp [hi] at hs
  | some i5 =>
    simp only [hi, Option.bind_some, Option.map_some, Option.some.injEq] at hz hs hb
    have Hi : Hid (Tryz.prog.info? 5 = some i5 ∧ i5.zero = some (.int .u8 0) ∧ i5.size = 1 ∧ i5.bytes = 1) := ⟨hi, hz, hs, hb⟩
    clear hi hz hs hb
    have Hn : Hid (n = bs.length) := hn
    have H256 : Hid (∀ n ∈ bs, n < 256) := h256
    clear h256
    have HC : Hid (∀ i, i < n → w.cell? ⟨g0, o0 + i, none⟩ = some (.int .u8 (bs.getD i 0 : Nat))) := hcells
    have St : Hid (FromSt (w.alloc (.cells #[.slice none 0 0, .int .i64 0] 120)) w.heap.size (rbits bs) 0 (w.alloc (.cells #[.slice none 0 0, .int .i64 0] 120))) := ⟨none, rw_new113 w, .inl rfl, OnlyR.refl _ _ _ _ _⟩
    have HB : Hid (Below w.heap.size w (w.alloc (.cells #[.slice none 0 0, .int .i64 0] 120)) ∧ w.heap.size < (w.alloc (.cells #[.slice none 0 0, .int .i64 0] 120)).heap.size) := ⟨(Below.refl _ _).alloc (Nat.le_refl _) _, by simp⟩
    clear hcells hn
    go_enter Tryz.func42, Tryz.ntmps42
    go_wp2
    generalize w.alloc (.cells #[.slice none 0 0, .int .i64 0] 120) = w0 at *
    go_loopw [4] (fun t4 wr => ∃ i : Nat, i ≤ 8 * n ∧ t4 = .int .i64 i ∧ Hid (FromSt w0 w.heap.size (rbits bs) i wr)) (fun t4 _ => 8 * n - (intOf t4).toNat)
    case atStart => exact ⟨0, by omega, rfl, St⟩
    case round =>
      obtain ⟨i, hi8, rfl, HS⟩ := hrel
      by_cases hlt : i < 8 * n
      · have hlt' : (i : Int) < 8 * (n : Int) := by omega
        obtain ⟨q, hq⟩ : ∃ q : Nat, (i : Int) / 8 = (q : Int) := ⟨i / 8, by omega⟩
        obtain ⟨sh, hsh⟩ : ∃ sh : Nat, (7 : Int) - (i : Int) % 8 = (sh : Int) := ⟨7 - i % 8, by omega⟩
        have hqn : q < n := by omega
        have hqi : (q : Int) < (n : Int) := by omega
        have hwq : IntKind.i64.wrap (q : Int) = (q : Int) := by rw [IntKind.wrap_i64]; omega
        have hwsh : IntKind.i64.wrap (7 - (i : Int).tmod 8) = (sh : Int) := by
          have e : (i : Int).tmod 8 = ((i % 8 : Nat) : Int) := by rw [Int.tmod_eq_emod_of_nonneg (by omega)]; simp
          rw [e, IntKind.wrap_i64]; omega
        have hwsu : IntKind.u64.wrap (sh : Int) = (sh : Int) := wraps_u64 (sh : Int) (by omega) (by omega)
        have hsh7 : sh ≤ 7 := by omega
        obtain ⟨r, R0, S0, O0⟩ := HS.out
        have hil : i < (rbits bs).length := by rw [rbits_length, ← Hn.out]; exact hlt
        have hbit := from_bit bs i q sh (by rw [← Hn.out]; exact hlt) hil (by omega) (by omega)
        have hc0 := HC.out q hqn
        have hg0 : g0 < w.heap.size := block_lt_of_cell hc0
        have hc : wr.cell? ⟨g0, o0 + q, none⟩ = some (.int .u8 (bs.getD q 0 : Nat)) := by
          rw [World.cell?_of_block (w := w0) (O0.block g0 (by have := HB.out.2; omega) (by omega) (by simp)), World.cell?_of_block (w := w) (HB.out.1.block g0 hg0)]; exact hc0
        have hy : bs.getD q 0 ≤ 255 := by
          have : q < bs.length := by have := Hn.out; omega
          have h1 := H256.out _ (List.getElem_mem this)
          rw [List.getD_eq_getElem?_getD, List.getElem?_eq_getElem this]
          simp only [Option.getD_some]
          omega
        have hlen : ((rbits bs).take i).length = i := by simp; rw [← Hn.out]; omega
        obtain ⟨v, hv, hown, hr, hnil⟩ := R0.row
        have hf0 := R0.fz 0 (by omega)
        rw [Nat.add_zero] at hf0
        rw [hlen] at hown
        have hVlt := R0.lt
        have HX : Hid (v.ownBlock = r ∧ some w.heap.size ≠ r) := ⟨hr, fun e => (R0.apart _ e.symm).1 rfl⟩
        have HO : Hid (wr.ownsRow 0 5 1 v i (((rbits bs).take i).map bitV)) := hown
        have HRw : Hid (Rw wr.drew w.heap.size 0 r ((rbits bs).take i) 0 ∧ RowStep w0 none r ∧ OnlyR w.heap.size 0 2 none w0 wr) := ⟨R0.keep (Nat.le_refl _) rfl (fun _ _ => rfl), S0, O0⟩
        obtain ⟨bt, hbt⟩ : ∃ bt, bt = (rbits bs)[i]'hil := ⟨_, rfl⟩
        rw [← hbt] at hbit
        have Hbit : Hid (bitV bt = .int .u8 (((bs.getD q 0 : Nat) : Int) / 2 ^ sh % 2)) := hbit
        have Hbt : Hid (bt = (rbits bs)[i]'hil) := hbt
        have Hlen : Hid (((rbits bs).take i).length = i) := hlen
        have Hil : Hid (i < (rbits bs).length) := hil
        have hV0 : w.heap.size < wr.heap.size := hVlt
        clear HS R0 S0 O0 hnil hr hown hbit hc0 hlen hbt
        generalize bs.getD q 0 = y at *
        have HFin : Hid (∀ g cap w1, w1.ownsRow 0 5 1 (.slice (some ⟨g, 0, none⟩) (i + 1) cap) (i + 1) (((rbits bs).take i).map bitV ++ [bitV bt]) → (wr.drew.alloc (.cells #[.int .u8 ((y : Int) / 2 ^ sh % 2)] 5)).grownBy w1 r → (r = some g ∨ g = wr.drew.heap.size + 1) → g < w1.heap.size →
            FromSt w0 w.heap.size (rbits bs) (i + 1) (w1.setCell ⟨w.heap.size, 0, none⟩ (.slice (some ⟨g, 0, none⟩) (i + 1) cap)) ∧ w1.cell? ⟨w.heap.size, 0, none⟩ = some v ∧ w1.frozen? ⟨w.heap.size, 0, none⟩ = false) := fun g cap w1 ho hg hat hlt2 => by
          have hx : bitV ((rbits bs)[i]'Hil.out) = .int .u8 ((y : Int) / 2 ^ sh % 2) := by rw [← Hbt.out]; exact Hbit.out
          have hl := Hlen.out
          refine ⟨FromSt.step HRw.out.1 HRw.out.2.1 HRw.out.2.2 Hil.out hx (by rw [hl, ← Hbt.out]; exact ho) hg hat hlt2 (by rw [hl]), ?_, ?_⟩
          · rw [World.cell?_of_block (w := wr) ((hg.block _ (by simp; omega) HX.out.2).trans (Below.heap_alloc _ _ _ hVlt))]; exact hv
          · rw [World.frozen?_of_block (w := wr) ((hg.block _ (by simp; omega) HX.out.2).trans (Below.heap_alloc _ _ _ hVlt))]; exact hf0
        go_wp2_with fail
        go_region_law (refine step_append_lies _ rfl _ _ _ rfl 0 5 i5 (.int .u8 0) 1 1 Tryz.underlying57 Hi.out.1 Hi.out.2.1 Hi.out.2.2.1 Hi.out.2.2.2 rfl (by decide) v i (((rbits bs).take i).map bitV) (by simp [Act.eval]) (World.ownsRow.alloc (w := wr.drew) HO.out _) ⟨wr.heap.size, 0, none⟩ 1 1 [bitV bt] (by simp [Act.eval]) rfl (by intro j u hj; rw [Hbit.out] at hj; exact cell_new1 wr.drew _ 5 j u hj) (by intro u hu; simp at hu; subst hu; rfl) (by decide) (by unfold maxLen; omega) (by omega) (Nat.zero_le _) _ rfl ?_; intro g cap w1 ho hg hat hlt2; rw [HX.out.1] at hg hat; obtain ⟨hF, hcb, hfb⟩ := HFin.out g cap w1 ho hg (by simpa using hat) hlt2; have HF : Hid _ := hF; clear ho hg hat hF)
        all_goals
          go_wp2_with fail
          exact ⟨⟨i + 1, by omega, by go_num, HF⟩, by simp [intOf]; omega⟩
      · have hlt' : ¬ (i : Int) < 8 * (n : Int) := by omega
        go_wp2_with fail
        go_ret
        obtain ⟨r, R0, S0, O0⟩ := HS.out
        have e : (rbits bs).take i = rbits bs := List.take_of_length_le (by rw [rbits_length, ← Hn.out]; omega)
        rw [e] at R0
        refine ⟨rfl, rr_of_rw R0 S0 HB.out.2 (by rw [rbits_length, ← Hn.out]; omega), HB.out.1.trans ⟨O0.os, O0.tape, O0.output, O0.size, fun k hk => O0.block k (by have := HB.out.2; omega) (by omega) (by simp)⟩⟩

theorem vfrom_zero (p : Option Addr) (cap0 : Nat) (w : World) :
    Calls Tryz.prog 42 #[.slice p 0 cap0] w fun e w' => e = .returned (.pointer (some ⟨w.heap.size, 0, none⟩)) ∧ Rr w' w.heap.size w'.heap.size (rbits []) 0 ∧ Below w.heap.size w w' := by
  have HR : Hid (Rr (w.alloc (.cells #[.slice none 0 0, .int .i64 0] 120)) w.heap.size (w.alloc (.cells #[.slice none 0 0, .int .i64 0] 120)).heap.size (rbits []) 0 ∧ Below w.heap.size w (w.alloc (.cells #[.slice none 0 0, .int .i64 0] 120))) :=
    ⟨rr_of_rw (w0 := w.alloc (.cells #[.slice none 0 0, .int .i64 0] 120)) (rw_new113 w) (.inl rfl) (by simp) (by simp), (Below.refl _ _).alloc (Nat.le_refl _) _⟩
  go_enter Tryz.func42, Tryz.ntmps42
  go_wp2
  generalize w.alloc (.cells #[.slice none 0 0, .int .i64 0] 120) = w0 at *
  go_loopw [4] (fun t4 wr => t4 = .int .i64 0 ∧ wr = w0) (fun _ _ => 0)
  case atStart => exact ⟨rfl, rfl⟩
  case round =>
    obtain ⟨rfl, rfl⟩ := hrel
    go_wp2_with fail
    go_ret
    exact ⟨rfl, HR.out⟩

theorem vfrom_any (v : Value) (bs : List Nat) (w : World) (h : IsBy w v bs) (hn2 : bs.length ≤ 1000000) (h256 : ∀ n ∈ bs, n < 256) :
    Calls Tryz.prog 42 #[v] w fun e w' => e = .returned (.pointer (some ⟨w.heap.size, 0, none⟩)) ∧ Rr w' w.heap.size w'.heap.size (rbits bs) 0 ∧ Below w.heap.size w w' := by
  rcases h with (⟨rfl, rfl⟩ | ⟨g, o, cap, rfl, hc⟩) | ⟨ad, cap, rfl, rfl⟩
  · exact vfrom_zero none 0 w
  · exact vfrom_some g o bs.length cap bs w rfl hn2 h256 hc
  · exact vfrom_zero (some ad) cap w

end Go.Proofs.YtangjkhflgkkdaaGreat

namespace Go.Proofs.YtangjkhflgkkdaaGreat
open Go.RowKit
open M
set_option linter.unusedVariables false

/-- The first k marks. -/
def marksN (k : Nat) : List Nat := (List.range k).map fun i => 165 - i

@[simp] theorem marksN_length (k : Nat) : (marksN k).length = k := by simp [marksN]

theorem marksN_succ (k : Nat) : marksN (k + 1) = marksN k ++ [165 - k] := by simp [marksN, List.range_succ]

theorem mark_any (i : Nat) (w : World) (h : i ≤ 70) : Calls Tryz.prog 22 #[.int .i64 i] w fun e w' => e = .returned (.int .u8 ((165 - i : Nat) : Int)) ∧ w' = w := by
  go_enter Tryz.func22, Tryz.ntmps22
  go_wp2
  go_ret
  refine ⟨?_, rfl⟩
  show Ending.returned (.int .u8 _) = _
  congr 2
  omega

theorem info5 : ∃ i5, Tryz.prog.info? 5 = some i5 ∧ i5.zero = some (.int .u8 0) ∧ i5.size = 1 ∧ i5.bytes = 1 := by
  have hz : (Tryz.prog.info? 5).bind (·.zero) = some (.int .u8 0) := by kernel_rfl
  have hs : (Tryz.prog.info? 5).map (·.size) = some 1 := by kernel_rfl
  have hb : (Tryz.prog.info? 5).map (·.bytes) = some 1 := by kernel_rfl
  cases hi : Tryz.prog.info? 5 with
  | none => simp [hi] at hs
  | some i5 =>
    simp only [hi, Option.bind_some, Option.map_some, Option.some.injEq] at hz hs hb
    exact ⟨i5, rfl, hz, hs, hb⟩

/-- Bytes that are lent: in a block of their own, the marks behind them. -/
def Lent (w : World) (base g cap : Nat) (bs : List Nat) : Prop := w.ownsRow base 5 1 (.slice (some ⟨g, 0, none⟩) (bs.length + 70) cap) (bs.length + 70) (bytesV (bs ++ marksN 70))

/-- Behind i marks. -/
def LendSt (w : World) (bs : List Nat) (i : Nat) (v : Value) (wr : World) : Prop :=
  wr.ownsRow w.heap.size 5 1 v (bs.length + i) (bytesV (bs ++ marksN i)) ∧ Below w.heap.size w wr ∧ w.heap.size < wr.heap.size

set_option maxRecDepth 100000 in
set_option maxHeartbeats 4000000 in
theorem lend_some (ad : Addr) (n cap0 : Nat) (bs : List Nat) (w : World) (hn : n = bs.length) (hn2 : n ≤ 1000000) (hnews : ∀ j u, (bytesV bs)[j]? = some u → w.cell? (ad.add j) = some u) :
    Calls Tryz.prog 6 #[.slice (some ad) n cap0] w fun e w' => ∃ g cap, e = .returned (.slice (some ⟨g, 0, none⟩) n cap) ∧ Lent w' w.heap.size g cap bs ∧ Below w.heap.size w w' := by
  obtain ⟨i5, hi5⟩ := info5
  have Hi : Hid (Tryz.prog.info? 5 = some i5 ∧ i5.zero = some (.int .u8 0) ∧ i5.size = 1 ∧ i5.bytes = 1) := hi5
  have Hn : Hid (n = bs.length) := hn
  have HN : Hid (∀ j u, (bytesV bs)[j]? = some u → w.cell? (ad.add j) = some u) := hnews
  clear hi5 hn hnews
  obtain ⟨n70, hn70⟩ : ∃ n70 : Nat, (n : Int) + 70 = (n70 : Int) := ⟨n + 70, by omega⟩
  go_enter Tryz.func6, Tryz.ntmps6
  go_wp2_with (at_make; refine wpList_make_own _ rfl _ _ _ rfl w.heap.size 5 i5 (.int .u8 0) 1 Tryz.underlying57 Hi.out.1 Hi.out.2.1 Hi.out.2.2.1 .i64 .i64 (n70 : Int) n70 rfl (by simp [Act.eval]) rfl (by rw [Hi.out.2.2.2]; omega) (by unfold maxLen; omega) (Nat.le_refl _) ?_)
  intro w1 ho1 hg1
  have B1 : Below w.heap.size w w1 := grown_below hg1 (fun g hg => by simp at hg) (Nat.le_refl _)
  have z1 : w.heap.size < w1.heap.size := (ho1.lt w.heap.size rfl).2
  have HO1 : Hid (w1.ownsRow w.heap.size 5 1 (.slice (some ⟨w.heap.size, 0, none⟩) 0 n70) 0 [] ∧ Below w.heap.size w w1) := ⟨ho1, B1⟩
  clear ho1 hg1 B1
  go_wp2_with (at_builtin; refine wpList_append_own _ rfl _ _ _ rfl w.heap.size 5 i5 (.int .u8 0) 1 1 Tryz.underlying57 Hi.out.1 Hi.out.2.1 Hi.out.2.2.1 Hi.out.2.2.2 rfl (by decide) (.slice (some ⟨w.heap.size, 0, none⟩) 0 n70) 0 [] rfl HO1.out.1 ad n cap0 (bytesV bs) rfl ?c2 ?c3 (bytesV_cell bs) ?c4 ?c5 ?c7 ?c6)
  case c2 => rw [Nat.mul_one, Hn.out]; simp
  case c3 => intro j u hj; have h := HN.out j u hj; rw [HO1.out.2.cell (block_lt_of_cell h)]; exact h
  case c4 => unfold maxLen; omega
  case c5 => omega
  case c7 => omega
  case c6 =>
    intro v2 w2 ho2 hg2 _
    have B2 : Below w.heap.size w1 w2 := grown_below hg2 (fun g hg => by simp [Value.ownBlock] at hg; omega) (by omega)
    have HS2 : Hid (LendSt w bs 0 v2 w2) := ⟨by simpa [marksN, Hn.out] using ho2, HO1.out.2.trans B2, Nat.lt_of_lt_of_le z1 B2.size⟩
    clear ho2 hg2 B2 HO1 HN z1
    go_wp2_with fail
    go_loopw [3, 4] (fun t3 t4 wr => ∃ i : Nat, i ≤ 70 ∧ t4 = .int .i64 i ∧ Hid (LendSt w bs i t3 wr)) (fun _ t4 _ => 70 - (intOf t4).toNat)
    case atStart => exact ⟨0, by omega, rfl, HS2⟩
    case round =>
      obtain ⟨i, hi, rfl, HS⟩ := hrel
      by_cases hlt : i < 70
      · have hlt' : (i : Int) < 70 := by omega
        go_wp2_with fail
        refine (mark_any i wr (by omega)).mono ?_
        rintro e w3 ⟨rfl, rfl⟩
        go_wp2_with (at_builtin; refine wpList_append_lies _ rfl _ _ _ rfl w.heap.size 5 i5 (.int .u8 0) 1 1 Tryz.underlying57 Hi.out.1 Hi.out.2.1 Hi.out.2.2.1 Hi.out.2.2.2 rfl (by decide) _ (bs.length + i) (bytesV (bs ++ marksN i)) rfl (HS.out.1.alloc _) ⟨w3.heap.size, 0, none⟩ 1 1 [.int .u8 ((165 - i : Nat) : Int)] rfl rfl ?d2 ?d3 (by decide) ?d4 ?d5 ?d7 _ rfl ?d6)
        case d2 => intro j u hj; exact cell_new1 w3 _ 5 j u hj
        case d3 => intro u hu; simp at hu; subst hu; rfl
        case d4 => have := Hn.out; unfold maxLen; omega
        case d5 => have := Hn.out; omega
        case d7 => have := HS.out.2.2; simp; omega
        case d6 =>
          intro g cap w4 ho4 hg4 hat4 hlt4
          have B4 : Below w.heap.size w3 w4 := ((Below.refl _ _).alloc (by have := HS.out.2.2; omega) _).trans (grown_below hg4 (fun g hg => (HS.out.1.lt g hg).1) (by have := HS.out.2.2; simp; omega))
          have HS4 : Hid (LendSt w bs (i + 1) (.slice (some ⟨g, 0, none⟩) (bs.length + i + 1) cap) w4) := by
            refine ⟨?_, HS.out.2.1.trans B4, Nat.lt_of_lt_of_le HS.out.2.2 B4.size⟩
            rw [marksN_succ, ← List.append_assoc]
            simpa [bytesV, Nat.add_assoc] using ho4
          clear ho4 hg4 hat4 hlt4 B4 HS
          go_wp2_with fail
          go_roundw
          case rel => exact ⟨i + 1, by omega, by go_num, HS4⟩
          case measure => simp [intOf]; omega
      · have hi70 : i = 70 := by omega
        subst hi70
        obtain ⟨g, cap, hv, hg, hgs⟩ := HS.out.1.form (by omega)
        have hcap : bs.length + 70 ≤ cap := by
          rcases HS.out.1.2 with ⟨h, _⟩ | ⟨g', cap', cur, h, _, _, h2, _⟩
          · rw [hv] at h; simp at h
          · rw [hv] at h; simp only [Value.slice.injEq] at h; omega
        have hnc : n ≤ cap := by have := Hn.out; omega
        have HF : Hid (Lent wr w.heap.size g cap bs ∧ Below w.heap.size w wr) := ⟨by have := HS.out.1; rw [hv] at this; exact this, HS.out.2.1⟩
        clear HS
        subst hv
        go_wp2_with fail
        go_ret
        exact ⟨g, cap, rfl, HF.out⟩

set_option maxRecDepth 100000 in
set_option maxHeartbeats 4000000 in
theorem lend_none (bs : List Nat) (w : World) (hn : 0 = bs.length) :
    Calls Tryz.prog 6 #[.slice none 0 0] w fun e w' => ∃ g cap, e = .returned (.slice (some ⟨g, 0, none⟩) 0 cap) ∧ Lent w' w.heap.size g cap bs ∧ Below w.heap.size w w' := by
  obtain ⟨i5, hi5⟩ := info5
  have Hi : Hid (Tryz.prog.info? 5 = some i5 ∧ i5.zero = some (.int .u8 0) ∧ i5.size = 1 ∧ i5.bytes = 1) := hi5
  have Hn : Hid (0 = bs.length) := hn
  clear hi5 hn
  go_enter Tryz.func6, Tryz.ntmps6
  go_wp2_with (at_make; refine wpList_make_own _ rfl _ _ _ rfl w.heap.size 5 i5 (.int .u8 0) 1 Tryz.underlying57 Hi.out.1 Hi.out.2.1 Hi.out.2.2.1 .i64 .i64 (70 : Int) 70 rfl (by simp [Act.eval]) rfl (by rw [Hi.out.2.2.2]; omega) (by unfold maxLen; omega) (Nat.le_refl _) ?_)
  intro w1 ho1 hg1
  have B1 : Below w.heap.size w w1 := grown_below hg1 (fun g hg => by simp at hg) (Nat.le_refl _)
  have z1 : w.heap.size < w1.heap.size := (ho1.lt w.heap.size rfl).2
  have HO1 : Hid (w1.ownsRow w.heap.size 5 1 (.slice (some ⟨w.heap.size, 0, none⟩) 0 70) 0 [] ∧ Below w.heap.size w w1) := ⟨ho1, B1⟩
  clear ho1 hg1 B1
  go_wp2_with (at_builtin; refine wpList_append_own_none rfl _ _ _ rfl w.heap.size 5 i5 1 Tryz.underlying57 Hi.out.1 (.slice (some ⟨w.heap.size, 0, none⟩) 0 70) 0 [] rfl HO1.out.1 rfl ?c6)
  have HS2 : Hid (LendSt w bs 0 (.slice (some ⟨w.heap.size, 0, none⟩) 0 70) w1) := ⟨by rw [List.length_eq_zero_iff.1 Hn.out.symm]; simpa [marksN, bytesV] using HO1.out.1, HO1.out.2, z1⟩
  clear HO1 z1
  go_loopw [3, 4] (fun t3 t4 wr => ∃ i : Nat, i ≤ 70 ∧ t4 = .int .i64 i ∧ Hid (LendSt w bs i t3 wr)) (fun _ t4 _ => 70 - (intOf t4).toNat)
  case atStart => exact ⟨0, by omega, rfl, HS2⟩
  case round =>
    obtain ⟨i, hi, rfl, HS⟩ := hrel
    by_cases hlt : i < 70
    · have hlt' : (i : Int) < 70 := by omega
      go_wp2_with fail
      refine (mark_any i wr (by omega)).mono ?_
      rintro e w3 ⟨rfl, rfl⟩
      go_wp2_with (at_builtin; refine wpList_append_lies _ rfl _ _ _ rfl w.heap.size 5 i5 (.int .u8 0) 1 1 Tryz.underlying57 Hi.out.1 Hi.out.2.1 Hi.out.2.2.1 Hi.out.2.2.2 rfl (by decide) _ (bs.length + i) (bytesV (bs ++ marksN i)) rfl (HS.out.1.alloc _) ⟨w3.heap.size, 0, none⟩ 1 1 [.int .u8 ((165 - i : Nat) : Int)] rfl rfl ?d2 ?d3 (by decide) ?d4 ?d5 ?d7 _ rfl ?d6)
      case d2 => intro j u hj; exact cell_new1 w3 _ 5 j u hj
      case d3 => intro u hu; simp at hu; subst hu; rfl
      case d4 => have := Hn.out; unfold maxLen; omega
      case d5 => have := Hn.out; omega
      case d7 => have := HS.out.2.2; simp; omega
      case d6 =>
        intro g cap w4 ho4 hg4 hat4 hlt4
        have B4 : Below w.heap.size w3 w4 := ((Below.refl _ _).alloc (by have := HS.out.2.2; omega) _).trans (grown_below hg4 (fun g hg => (HS.out.1.lt g hg).1) (by have := HS.out.2.2; simp; omega))
        have HS4 : Hid (LendSt w bs (i + 1) (.slice (some ⟨g, 0, none⟩) (bs.length + i + 1) cap) w4) := by
          refine ⟨?_, HS.out.2.1.trans B4, Nat.lt_of_lt_of_le HS.out.2.2 B4.size⟩
          rw [marksN_succ, ← List.append_assoc]
          simpa [bytesV, Nat.add_assoc] using ho4
        clear ho4 hg4 hat4 hlt4 B4 HS
        go_wp2_with fail
        go_roundw
        case rel => exact ⟨i + 1, by omega, by go_num, HS4⟩
        case measure => simp [intOf]; omega
    · have hi70 : i = 70 := by omega
      subst hi70
      obtain ⟨g, cap, hv, hg, hgs⟩ := HS.out.1.form (by omega)
      have hcap : bs.length + 70 ≤ cap := by
        rcases HS.out.1.2 with ⟨h, _⟩ | ⟨g', cap', cur, h, _, _, h2, _⟩
        · rw [hv] at h; simp at h
        · rw [hv] at h; simp only [Value.slice.injEq] at h; omega
      have hnc : 0 ≤ cap := by omega
      have HF : Hid (Lent wr w.heap.size g cap bs ∧ Below w.heap.size w wr) := ⟨by have := HS.out.1; rw [hv] at this; exact this, HS.out.2.1⟩
      clear HS
      subst hv
      go_wp2_with fail
      go_ret
      exact ⟨g, cap, rfl, HF.out⟩

theorem lend_any (v : Value) (bs : List Nat) (w : World) (h : IsBy w v bs) (hn2 : bs.length ≤ 1000000) :
    Calls Tryz.prog 6 #[v] w fun e w' => ∃ g cap, e = .returned (.slice (some ⟨g, 0, none⟩) bs.length cap) ∧ Lent w' w.heap.size g cap bs ∧ Below w.heap.size w w' := by
  rcases h with h | ⟨ad, cap, rfl, rfl⟩
  · have h' := h
    rcases h with ⟨rfl, rfl⟩ | ⟨g, o, cap, rfl, hc⟩
    · exact lend_none [] w rfl
    · exact lend_some ⟨g, o, none⟩ bs.length cap bs w rfl hn2 h'.news.2
  · exact lend_some ad 0 cap [] w rfl (by omega) (fun j u hj => by simp [bytesV] at hj)

theorem Lent.lies {w : World} {base g cap : Nat} {bs : List Nat} (h : Lent w base g cap bs) : bs.length + 70 ≤ cap ∧ base ≤ g ∧ g < w.heap.size ∧ ∃ cur : Array Value, w.heap[g]? = some (.cells cur 5 (0, 0)) ∧ ∀ (i : Nat) (u : Value), (bytesV (bs ++ marksN 70))[i]? = some u → cur[i]? = some u := by
  obtain ⟨h1, h2⟩ := h
  rcases h2 with ⟨h2, _⟩ | ⟨g', cap', cur, h0, h4, h5, h6, _, h7, h8⟩
  · simp at h2
  · simp only [Value.slice.injEq, Option.some.injEq, Addr.mk.injEq] at h0
    obtain ⟨⟨rfl, _⟩, _, rfl⟩ := h0
    refine ⟨h6, h4, ?_, cur, h5, fun i u hu => ?_⟩
    · rcases Nat.lt_or_ge g w.heap.size with hlt | hge
      · exact hlt
      · rw [Array.getElem?_eq_none hge] at h5; cases h5
    · rw [← h8] at hu
      rw [← Array.getElem?_toList]
      have hi : i < (bs.length + 70) * 1 := by
        rcases Nat.lt_or_ge i ((bs.length + 70) * 1) with hlt | hge
        · exact hlt
        · rw [List.getElem?_eq_none (by rw [List.length_take]; omega)] at hu; cases hu
      rwa [List.getElem?_take_of_lt hi] at hu

theorem Lent.byte {w : World} {base g cap : Nat} {bs : List Nat} (h : Lent w base g cap bs) (i : Nat) (hi : i < bs.length) : w.cell? ⟨g, i, none⟩ = some (.int .u8 (bs.getD i 0 : Nat)) := by
  obtain ⟨_, _, _, cur, h1, h2⟩ := h.lies
  rw [cell_of_row _ _ _ _ _ _ h1]
  apply h2
  unfold bytesV
  rw [List.map_append, List.getElem?_append_left (by simpa using hi), List.getElem?_map, List.getD_eq_getElem?_getD, List.getElem?_eq_getElem hi]
  rfl

theorem Lent.mark {w : World} {base g cap : Nat} {bs : List Nat} (h : Lent w base g cap bs) (i : Nat) (hi : i < 70) : w.cell? ⟨g, bs.length + i, none⟩ = some (.int .u8 ((165 - i : Nat) : Int)) := by
  obtain ⟨_, _, _, cur, h1, h2⟩ := h.lies
  rw [cell_of_row _ _ _ _ _ _ h1]
  apply h2
  simp [bytesV, marksN, hi]

theorem Lent.free {w : World} {base g cap : Nat} {bs : List Nat} (h : Lent w base g cap bs) (i : Nat) : w.frozen? ⟨g, i, none⟩ = false := by
  obtain ⟨_, _, _, cur, h1, h2⟩ := h.lies
  exact frozen_of_row _ _ _ _ _ h1

theorem Lent.bytes {w : World} {base g cap : Nat} {bs : List Nat} (h : Lent w base g cap bs) : IsBytes w (.slice (some ⟨g, 0, none⟩) bs.length cap) bs :=
  .inr ⟨g, 0, cap, rfl, fun i hi => by rw [Nat.zero_add]; exact h.byte i hi⟩

theorem Lent.below {w w' : World} {base g cap : Nat} {bs : List Nat} (h : Lent w base g cap bs) (hB : Below w.heap.size w w') : Lent w' base g cap bs :=
  ownsRow_keep h (fun g' hg => hB.block g' (by simp only [Value.ownBlock, Option.some.injEq] at hg; subst hg; exact h.lies.2.2.1))

set_option maxRecDepth 100000 in
set_option maxHeartbeats 4000000 in
theorem intact_any (base g cap n : Nat) (v : Value) (bs : List Nat) (w : World) (hn : n = bs.length) (hn2 : n ≤ 1000000) (hL : Lent w base g cap bs) (hv : IsBy w v bs) :
    Calls Tryz.prog 8 #[.slice (some ⟨g, 0, none⟩) n cap, v] w fun e w' => e = .returned (.bool true) ∧ ∃ m, w' = w.drewN m := by
  have hc1 := convert_bytes w (.slice (some ⟨g, 0, none⟩) bs.length cap) bs hL.bytes
  have hc2 := convert_by w v bs hv
  rw [← hn] at hc1
  have hcap : n + 70 ≤ cap := by rw [hn]; exact hL.lies.1
  obtain ⟨n70, hn70⟩ : ∃ n70 : Nat, (n : Int) + 70 = (n70 : Int) := ⟨n + 70, by omega⟩
  have hn7 : n70 ≤ cap := by omega
  have HL : Hid (∀ i, i < 70 → w.cell? ⟨g, n + i, none⟩ = some (.int .u8 ((165 - i : Nat) : Int))) := fun i hi => by rw [hn]; exact hL.mark i hi
  clear hL hv hn
  generalize strOf bs = s at *
  go_enter Tryz.func8, Tryz.ntmps8
  go_wp2_with fail
  go_loopw [6] (fun t6 wr => ∃ i : Nat, i ≤ 70 ∧ t6 = .int .i64 i ∧ Hid (∃ m, wr = w.drewN m)) (fun t6 _ => 70 - (intOf t6).toNat)
  case atStart => exact ⟨0, by omega, rfl, ⟨0, rfl⟩⟩
  case round =>
    obtain ⟨i, hi, rfl, Hm⟩ := hrel
    by_cases hlt : i < 70
    · have hlt' : (i : Int) < 70 := by omega
      obtain ⟨k, hk⟩ : ∃ k : Nat, IntKind.i64.wrap ((n : Int) + (i : Int)) = (k : Int) := ⟨n + i, by rw [IntKind.wrap_i64]; omega⟩
      have hk' : k = n + i := by rw [IntKind.wrap_i64] at hk; omega
      have hkn : k < n70 := by omega
      have hki : (k : Int) < (n70 : Int) := by omega
      have hc : wr.cell? ⟨g, k, none⟩ = some (.int .u8 ((165 - i : Nat) : Int)) := by
        obtain ⟨m, rfl⟩ := Hm.out
        rw [hk']; exact HL.out i hlt
      have hmk := fun w => mark_any i w (by omega)
      have HM : Hid (∀ w, Calls Tryz.prog 22 #[.int .i64 i] w fun e w' => e = .returned (.int .u8 ((165 - i : Nat) : Int)) ∧ w' = w) := hmk
      clear hmk hk'
      generalize 165 - i = y at *
      go_wp2_with fail
      go_quiet ((go_at_call 22; exact Calls.quiet_of_same (HM.out _)))
      go_wp2_with fail
      refine ⟨⟨i + 1, by omega, by go_num, ?_⟩, by simp [intOf]; omega⟩
      obtain ⟨m, rfl⟩ := Hm.out
      exact ⟨m + nq, World.drewN_drewN _ _ _⟩
    · go_wp2_with fail
      go_ret
      exact ⟨rfl, Hm.out⟩


end Go.Proofs.YtangjkhflgkkdaaGreat

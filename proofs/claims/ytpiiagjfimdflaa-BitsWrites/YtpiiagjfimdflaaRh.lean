/- The document's own Reader: the contract of From. -/
import Derived.Test.YtpiiagjfimdflaaRf
import Derived.Test.YtpiiagjfimdflaaY
namespace Go.Proofs.Ytpiiagjfimdflaa
open Go.RowKit
open M
set_option linter.unusedVariables false

theorem rw_new113 (w : World) : Rw (w.alloc (.cells #[.slice none 0 0, .int .i64 0] 113)) w.heap.size 0 none [] 0 := by
  have hn := heap_alloc_new w (.cells #[.slice none 0 0, .int .i64 0] 113)
  refine ⟨⟨.slice none 0 0, ?_, World.ownsRow_nil _ _ _ _, rfl, fun _ => rfl⟩, ?_, fun j hj => ?_, fun g hg => by simp at hg⟩
  · rw [cell_of_row _ _ _ _ _ _ hn]; rfl
  · rw [cell_of_row _ _ _ _ _ _ hn]; rfl
  · exact frozen_of_row _ _ _ _ _ hn

theorem from_bit (bs : List Nat) (i q sh : Nat) (h : i < 8 * bs.length) (hl : i < (rbits bs).length) (hq : q = i / 8) (hsh : sh = 7 - i % 8) :
    bitV (rbits bs)[i] = .int .u8 (((bs.getD q 0 : Nat) : Int) / 2 ^ sh % 2) := by
  have h1 := look_byte bs i 1 (by omega) (by omega)
  rw [bit_of _ _ hl] at h1
  rw [← hq, show 8 - i % 8 - 1 = sh from by omega] at h1
  unfold bitV
  generalize bs.getD q 0 = y at *
  have e : ((y : Int) / 2 ^ sh % 2) = ((y / 2 ^ sh % 2 ^ 1 : Nat) : Int) := by simp
  rw [e, ← h1]
  cases (rbits bs)[i] <;> rfl

theorem take_next (l : List Bool) (i : Nat) (h : i < l.length) : l.take (i + 1) = l.take i ++ [l[i]] := by
  rw [List.take_add_one, List.getElem?_eq_getElem h]; rfl

/-- The rows of a Writer and a Reader lie alike. -/
theorem rr_of_rw {w w0 : World} {b : Nat} {r : Option Nat} {l : List Bool} {e : Int} (h : Rw w b 0 r l e) (hs : RowStep w0 none r) (hb : b < w0.heap.size) (hl : l.length ≤ 1000000000000) : Rr w b w.heap.size l e := by
  obtain ⟨v, h1, ⟨h2, h3⟩, h4, h5⟩ := h.row
  refine ⟨⟨v, h1, ?_⟩, by simpa using h.err, fun j hj => by simpa using h.fz j hj, h.lt, hl⟩
  rcases h3 with ⟨rfl, h6⟩ | ⟨g, cap, cur, rfl, _, h6, h7, _, h8, h9⟩
  · exact ⟨none, 0, by rw [h6], by omega, fun h0 => by omega⟩
  · refine ⟨some ⟨g, 0, none⟩, cap, rfl, h7, fun h0 => ⟨g, 0, rfl, ?_, ?_, fun i hi => ?_⟩⟩
    · simp only [Value.ownBlock] at h4
      subst h4
      rcases hs with hs | ⟨g', hg, hle⟩
      · simp at hs
      · simp only [Option.some.injEq] at hg; omega
    · simp only [Value.ownBlock] at h4
      exact (h.apart g h4.symm).2
    · rw [cell_of_row _ _ _ _ _ _ h6]
      have h10 := congrArg (fun l => l[i]?) h9
      rw [List.getElem?_take_of_lt (by omega)] at h10
      simp only [List.getElem?_map, List.getElem?_eq_getElem hi, Option.map_some] at h10
      simp only [Nat.zero_add]
      rw [Array.getElem?_toList] at h10
      rw [h10]
      simp only [bn, List.getElem?_eq_getElem hi, bitV]
      cases l[i] <;> simp

/-- Behind i bits of From. -/
def FromSt (w0 : World) (V : Nat) (l : List Bool) (i : Nat) (wr : World) : Prop :=
  ∃ r, Rw wr V 0 r (l.take i) 0 ∧ RowStep w0 none r ∧ OnlyR V 0 2 none w0 wr

theorem FromSt.step {w0 wr w1 w2 : World} {V : Nat} {l : List Bool} {i : Nat} {r : Option Nat} {xb : Int} {g cap : Nat} (hR : Rw wr.drew V 0 r (l.take i) 0) (hS : RowStep w0 none r) (hO : OnlyR V 0 2 none w0 wr) (hi : i < l.length) (hx : bitV l[i] = .int .u8 xb)
    (ho : w1.ownsRow 0 5 1 (.slice (some ⟨g, 0, none⟩) ((l.take i).length + 1) cap) ((l.take i).length + 1) ((l.take i).map bitV ++ [bitV l[i]])) (hg : (wr.drew.alloc (.cells #[.int .u8 xb] 5)).grownBy w1 r) (hat : r = some g ∨ g = wr.drew.heap.size + 1) (hlt : g < w1.heap.size)
    (hw2 : w2 = w1.setCell ⟨V, 0, none⟩ (.slice (some ⟨g, 0, none⟩) ((l.take i).length + 1) cap)) : FromSt w0 V l (i + 1) w2 := by
  obtain ⟨r', h1, h2, h3⟩ := hR.step hx ho hg hat hlt hw2
  refine ⟨r', by rw [take_next l i hi]; exact h1, hS.trans hO.size h2, ?_⟩
  have hO2 : OnlyR V 0 2 none w0 wr.drew := ⟨hO.os, hO.tape, hO.output, hO.size, hO.block, hO.cell, hO.frozen⟩
  exact hO2.trans hS h3

set_option maxRecDepth 100000 in
set_option maxHeartbeats 4000000 in
theorem vfrom_some (g0 o0 n cap0 : Nat) (bs : List Nat) (w : World) (hn : n = bs.length) (hn2 : n ≤ 65536) (h256 : ∀ n ∈ bs, n < 256) (hcells : ∀ i, i < n → w.cell? ⟨g0, o0 + i, none⟩ = some (.int .u8 (bs.getD i 0 : Nat))) :
    Calls Try.prog 17 #[.slice (some ⟨g0, o0, none⟩) n cap0] w fun e w' => e = .returned (.pointer (some ⟨w.heap.size, 0, none⟩)) ∧ Rr w' w.heap.size w'.heap.size (rbits bs) 0 ∧ Below w.heap.size w w' := by
  have hz : (Try.prog.info? 5).bind (·.zero) = some (.int .u8 0) := by kernel_rfl
  have hs : (Try.prog.info? 5).map (·.size) = some 1 := by kernel_rfl
  have hb : (Try.prog.info? 5).map (·.bytes) = some 1 := by kernel_rfl
  cases hi : Try.prog.info? 5 with
  | none => simp [hi] at hs
  | some i5 =>
    simp only [hi, Option.bind_some, Option.map_some, Option.some.injEq] at hz hs hb
    have Hi : Hid (Try.prog.info? 5 = some i5 ∧ i5.zero = some (.int .u8 0) ∧ i5.size = 1 ∧ i5.bytes = 1) := ⟨hi, hz, hs, hb⟩
    clear hi hz hs hb
    have Hn : Hid (n = bs.length) := hn
    have H256 : Hid (∀ n ∈ bs, n < 256) := h256
    clear h256
    have HC : Hid (∀ i, i < n → w.cell? ⟨g0, o0 + i, none⟩ = some (.int .u8 (bs.getD i 0 : Nat))) := hcells
    have St : Hid (FromSt (w.alloc (.cells #[.slice none 0 0, .int .i64 0] 113)) w.heap.size (rbits bs) 0 (w.alloc (.cells #[.slice none 0 0, .int .i64 0] 113))) := ⟨none, rw_new113 w, .inl rfl, OnlyR.refl _ _ _ _ _⟩
    have HB : Hid (Below w.heap.size w (w.alloc (.cells #[.slice none 0 0, .int .i64 0] 113)) ∧ w.heap.size < (w.alloc (.cells #[.slice none 0 0, .int .i64 0] 113)).heap.size) := ⟨(Below.refl _ _).alloc (Nat.le_refl _) _, by simp⟩
    clear hcells hn
    go_enter Try.func17, Try.ntmps17
    go_wp2
    generalize w.alloc (.cells #[.slice none 0 0, .int .i64 0] 113) = w0 at *
    go_loopw [4] (fun t4 wr => ∃ i : Nat, i ≤ 8 * n ∧ t4 = .int .i64 i ∧ Hid (FromSt w0 w.heap.size (rbits bs) i wr)) (fun t4 _ => 8 * n - (intOf t4).toNat)
    case atStart => exact ⟨0, by omega, rfl, St⟩
    case round =>
      obtain ⟨i, hi8, rfl, HS⟩ := hrel
      by_cases hlt : i < 8 * n
      · have hlt' : (i : Int) < 8 * (n : Int) := by omega
        obtain ⟨q, hq⟩ : ∃ q : Nat, (i : Int) / 8 = (q : Int) := ⟨i / 8, by omega⟩
        obtain ⟨sh, hsh⟩ : ∃ sh : Nat, (7 : Int) - (i : Int) % 8 = (sh : Int) := ⟨7 - i % 8, by omega⟩
        have hqn : q < n := by omega
        have hqi : (q : Int) < (n : Int) := by omega
        have hwq : IntKind.i64.wrap (q : Int) = (q : Int) := by rw [IntKind.wrap_i64]; omega
        have hwsh : IntKind.i64.wrap (7 - (i : Int).tmod 8) = (sh : Int) := by
          have e : (i : Int).tmod 8 = ((i % 8 : Nat) : Int) := by rw [Int.tmod_eq_emod_of_nonneg (by omega)]; simp
          rw [e, IntKind.wrap_i64]; omega
        have hwsu : IntKind.u64.wrap (sh : Int) = (sh : Int) := wraps_u64 (sh : Int) (by omega) (by omega)
        have hsh7 : sh ≤ 7 := by omega
        obtain ⟨r, R0, S0, O0⟩ := HS.out
        have hil : i < (rbits bs).length := by rw [rbits_length, ← Hn.out]; exact hlt
        have hbit := from_bit bs i q sh (by rw [← Hn.out]; exact hlt) hil (by omega) (by omega)
        have hc0 := HC.out q hqn
        have hg0 : g0 < w.heap.size := block_lt_of_cell hc0
        have hc : wr.cell? ⟨g0, o0 + q, none⟩ = some (.int .u8 (bs.getD q 0 : Nat)) := by
          rw [World.cell?_of_block (w := w0) (O0.block g0 (by have := HB.out.2; omega) (by omega) (by simp)), World.cell?_of_block (w := w) (HB.out.1.block g0 hg0)]; exact hc0
        have hy : bs.getD q 0 ≤ 255 := by
          have : q < bs.length := by have := Hn.out; omega
          have h1 := H256.out _ (List.getElem_mem this)
          rw [List.getD_eq_getElem?_getD, List.getElem?_eq_getElem this]
          simp only [Option.getD_some]
          omega
        have hlen : ((rbits bs).take i).length = i := by simp; rw [← Hn.out]; omega
        obtain ⟨v, hv, hown, hr, hnil⟩ := R0.row
        have hf0 := R0.fz 0 (by omega)
        rw [Nat.add_zero] at hf0
        rw [hlen] at hown
        have hVlt := R0.lt
        have HX : Hid (v.ownBlock = r ∧ some w.heap.size ≠ r) := ⟨hr, fun e => (R0.apart _ e.symm).1 rfl⟩
        have HO : Hid (wr.ownsRow 0 5 1 v i (((rbits bs).take i).map bitV)) := hown
        have HRw : Hid (Rw wr.drew w.heap.size 0 r ((rbits bs).take i) 0 ∧ RowStep w0 none r ∧ OnlyR w.heap.size 0 2 none w0 wr) := ⟨R0.keep (Nat.le_refl _) rfl (fun _ _ => rfl), S0, O0⟩
        obtain ⟨bt, hbt⟩ : ∃ bt, bt = (rbits bs)[i]'hil := ⟨_, rfl⟩
        rw [← hbt] at hbit
        have Hbit : Hid (bitV bt = .int .u8 (((bs.getD q 0 : Nat) : Int) / 2 ^ sh % 2)) := hbit
        have Hbt : Hid (bt = (rbits bs)[i]'hil) := hbt
        have Hlen : Hid (((rbits bs).take i).length = i) := hlen
        have Hil : Hid (i < (rbits bs).length) := hil
        have hV0 : w.heap.size < wr.heap.size := hVlt
        clear HS R0 S0 O0 hnil hr hown hbit hc0 hlen hbt
        generalize bs.getD q 0 = y at *
        have HFin : Hid (∀ g cap w1, w1.ownsRow 0 5 1 (.slice (some ⟨g, 0, none⟩) (i + 1) cap) (i + 1) (((rbits bs).take i).map bitV ++ [bitV bt]) → (wr.drew.alloc (.cells #[.int .u8 ((y : Int) / 2 ^ sh % 2)] 5)).grownBy w1 r → (r = some g ∨ g = wr.drew.heap.size + 1) → g < w1.heap.size →
            FromSt w0 w.heap.size (rbits bs) (i + 1) (w1.setCell ⟨w.heap.size, 0, none⟩ (.slice (some ⟨g, 0, none⟩) (i + 1) cap)) ∧ w1.cell? ⟨w.heap.size, 0, none⟩ = some v ∧ w1.frozen? ⟨w.heap.size, 0, none⟩ = false) := fun g cap w1 ho hg hat hlt2 => by
          have hx : bitV ((rbits bs)[i]'Hil.out) = .int .u8 ((y : Int) / 2 ^ sh % 2) := by rw [← Hbt.out]; exact Hbit.out
          have hl := Hlen.out
          refine ⟨FromSt.step HRw.out.1 HRw.out.2.1 HRw.out.2.2 Hil.out hx (by rw [hl, ← Hbt.out]; exact ho) hg hat hlt2 (by rw [hl]), ?_, ?_⟩
          · rw [World.cell?_of_block (w := wr) ((hg.block _ (by simp; omega) HX.out.2).trans (Below.heap_alloc _ _ _ hVlt))]; exact hv
          · rw [World.frozen?_of_block (w := wr) ((hg.block _ (by simp; omega) HX.out.2).trans (Below.heap_alloc _ _ _ hVlt))]; exact hf0
        go_wp2_with fail
        go_region_law (refine step_append_lies _ rfl _ _ _ rfl 0 5 i5 (.int .u8 0) 1 1 Try.underlying29 Hi.out.1 Hi.out.2.1 Hi.out.2.2.1 Hi.out.2.2.2 rfl (by decide) v i (((rbits bs).take i).map bitV) (by simp [Act.eval]) (World.ownsRow.alloc (w := wr.drew) HO.out _) ⟨wr.heap.size, 0, none⟩ 1 1 [bitV bt] (by simp [Act.eval]) rfl (by intro j u hj; rw [Hbit.out] at hj; exact cell_new1 wr.drew _ 5 j u hj) (by intro u hu; simp at hu; subst hu; rfl) (by decide) (by unfold maxLen; omega) (by omega) (Nat.zero_le _) _ rfl ?_; intro g cap w1 ho hg hat hlt2; rw [HX.out.1] at hg hat; obtain ⟨hF, hcb, hfb⟩ := HFin.out g cap w1 ho hg (by simpa using hat) hlt2; have HF : Hid _ := hF; clear ho hg hat hF)
        all_goals
          go_wp2_with fail
          exact ⟨⟨i + 1, by omega, by go_num, HF⟩, by simp [intOf]; omega⟩
      · have hlt' : ¬ (i : Int) < 8 * (n : Int) := by omega
        go_wp2_with fail
        go_ret
        obtain ⟨r, R0, S0, O0⟩ := HS.out
        have e : (rbits bs).take i = rbits bs := List.take_of_length_le (by rw [rbits_length, ← Hn.out]; omega)
        rw [e] at R0
        refine ⟨rfl, rr_of_rw R0 S0 HB.out.2 (by rw [rbits_length, ← Hn.out]; omega), HB.out.1.trans ⟨O0.os, O0.tape, O0.output, O0.size, fun k hk => O0.block k (by have := HB.out.2; omega) (by omega) (by simp)⟩⟩

theorem vfrom_zero (p : Option Addr) (cap0 : Nat) (w : World) :
    Calls Try.prog 17 #[.slice p 0 cap0] w fun e w' => e = .returned (.pointer (some ⟨w.heap.size, 0, none⟩)) ∧ Rr w' w.heap.size w'.heap.size (rbits []) 0 ∧ Below w.heap.size w w' := by
  have HR : Hid (Rr (w.alloc (.cells #[.slice none 0 0, .int .i64 0] 113)) w.heap.size (w.alloc (.cells #[.slice none 0 0, .int .i64 0] 113)).heap.size (rbits []) 0 ∧ Below w.heap.size w (w.alloc (.cells #[.slice none 0 0, .int .i64 0] 113))) :=
    ⟨rr_of_rw (w0 := w.alloc (.cells #[.slice none 0 0, .int .i64 0] 113)) (rw_new113 w) (.inl rfl) (by simp) (by simp), (Below.refl _ _).alloc (Nat.le_refl _) _⟩
  go_enter Try.func17, Try.ntmps17
  go_wp2
  generalize w.alloc (.cells #[.slice none 0 0, .int .i64 0] 113) = w0 at *
  go_loopw [4] (fun t4 wr => t4 = .int .i64 0 ∧ wr = w0) (fun _ _ => 0)
  case atStart => exact ⟨rfl, rfl⟩
  case round =>
    obtain ⟨rfl, rfl⟩ := hrel
    go_wp2_with fail
    go_ret
    exact ⟨rfl, HR.out⟩

theorem vfrom_any (v : Value) (bs : List Nat) (w : World) (h : IsBy w v bs) (hn2 : bs.length ≤ 65536) (h256 : ∀ n ∈ bs, n < 256) :
    Calls Try.prog 17 #[v] w fun e w' => e = .returned (.pointer (some ⟨w.heap.size, 0, none⟩)) ∧ Rr w' w.heap.size w'.heap.size (rbits bs) 0 ∧ Below w.heap.size w w' := by
  rcases h with (⟨rfl, rfl⟩ | ⟨g, o, cap, rfl, hc⟩) | ⟨ad, cap, rfl, rfl⟩
  · exact vfrom_zero none 0 w
  · exact vfrom_some g o bs.length cap bs w rfl hn2 h256 hc
  · exact vfrom_zero (some ad) cap w

end Go.Proofs.Ytpiiagjfimdflaa

/- The document's Pack and Done: the walks. -/
import Derived.Test.YtangjkhflgkkdaaGreatB1Rg
/- The document's Pack and Done. -/
namespace Go.Proofs.YtangjkhflgkkdaaGreat
open Go.RowKit
open M
set_option linter.unusedVariables false

theorem ownsRow_set {w : World} {base : Nat} {t : TypeId} {v : Value} {n : Nat} {xs : List Value} {g cap : Nat} (h : w.ownsRow base t 1 (.slice (some ⟨g, 0, none⟩) n cap) n xs) (q : Nat) (x : Value) (hq : q < n) :
    (w.setCell ⟨g, q, none⟩ x).ownsRow base t 1 (.slice (some ⟨g, 0, none⟩) n cap) n (xs.set q x) := by
  obtain ⟨h1, h2⟩ := h
  refine ⟨by simpa using h1, ?_⟩
  rcases h2 with ⟨h2, _⟩ | ⟨g', cap', cur, h0, h4, h5, h6, h6b, h7, h8⟩
  · simp at h2
  · simp only [Value.slice.injEq, Option.some.injEq, Addr.mk.injEq] at h0
    obtain ⟨⟨rfl, _⟩, _, rfl⟩ := h0
    refine .inr ⟨g, cap, cur.setIfInBounds q x, rfl, h4, ?_, h6, h6b, by simpa using h7, ?_⟩
    · simp only [World.setCell, Array.getElem?_modify, h5]
      simp
    · rw [← h8]
      simp [List.take_set]

/-- The bytes of i bits, with room for the next one. -/
def packRoom (l : List Bool) (i : Nat) : List Nat := (List.range (i / 8 + 1)).map (byteAt (l.take i))

theorem packRoom_new (l : List Bool) (i : Nat) (hi : i < l.length) (h8 : i % 8 = 0) : packRoom l i = packed (l.take i) ++ [0] := by
  have hl : (l.take i).length = i := by simp; omega
  unfold packRoom packed
  rw [hl, List.range_succ, List.map_append, show (i + 7) / 8 = i / 8 from by omega]
  congr 1
  simp only [List.map_cons, List.map_nil]
  rw [byteAt_beyond _ _ (by rw [hl]; omega)]

theorem packRoom_same (l : List Bool) (i : Nat) (hi : i < l.length) (h8 : i % 8 ≠ 0) : packRoom l i = packed (l.take i) := by
  have hl : (l.take i).length = i := by simp; omega
  unfold packRoom packed
  rw [hl, show (i + 7) / 8 = i / 8 + 1 from by omega]

theorem pack_step (l : List Bool) (i : Nat) (hi : i < l.length) : packed (l.take (i + 1)) = (packRoom l i).set (i / 8) (byteAt (l.take i) (i / 8) + bn l i * 2 ^ (7 - i % 8)) := by
  have hl : (l.take i).length = i := by simp; omega
  have hl1 : (l.take (i + 1)).length = i + 1 := by simp; omega
  have hbit : bn l i = num [l[i]] := by simp [bn, hi]; cases l[i] <;> rfl
  unfold packed packRoom
  rw [hl1, show (i + 1 + 7) / 8 = i / 8 + 1 from by omega]
  apply List.ext_getElem?
  intro j
  rw [List.getElem?_set]
  simp only [List.getElem?_map, List.length_map, List.length_range]
  by_cases hj : j < i / 8 + 1
  · rw [List.getElem?_range hj]
    simp only [Option.map_some]
    rw [take_next l i hi]
    by_cases hji : i / 8 = j
    · rw [if_pos hji, if_pos (by omega)]
      subst hji
      rw [byteAt_here (l.take i) [l[i]] (i / 8) (i % 8) (by rw [hl]; omega) (by simp; omega) (by omega), hbit]
      simp only [List.length_cons, List.length_nil, Nat.zero_add]
      rw [show 8 - i % 8 - 1 = 7 - i % 8 from by omega]
    · rw [if_neg hji, byteAt_full (l.take i) [l[i]] j (by rw [hl]; omega)]
  · rw [List.getElem?_eq_none (by simp; omega)]
    simp
    omega

end Go.Proofs.YtangjkhflgkkdaaGreat

namespace Go.Proofs.YtangjkhflgkkdaaGreat
open Go.RowKit
open M
set_option linter.unusedVariables false

theorem pack_lt (l : List Bool) (i : Nat) (hi : i < l.length) : byteAt (l.take i) (i / 8) + bn l i * 2 ^ (7 - i % 8) < 256 := by
  have h := byteAt_lt (l.take (i + 1)) (i / 8)
  have hl : (l.take i).length = i := by simp; omega
  have hbit : bn l i = num [l[i]] := by simp [bn, hi]; cases l[i] <;> rfl
  rw [take_next l i hi, byteAt_here (l.take i) [l[i]] (i / 8) (i % 8) (by rw [hl]; omega) (by simp; omega) (by omega), ← hbit] at h
  simp only [List.length_cons, List.length_nil, Nat.zero_add] at h
  rwa [show 8 - i % 8 - 1 = 7 - i % 8 from by omega] at h

theorem wraps_u8' (n : Int) (h₀ : 0 ≤ n) (h₁ : n < 256) : IntKind.u8.wrap n = n := by
  simp only [IntKind.wrap, IntKind.bits, IntKind.signed]; simp; omega

/-- Behind i bits of Pack. -/
def PackSt (w : World) (l : List Bool) (i : Nat) (v : Value) (wr : World) : Prop :=
  wr.ownsRow w.heap.size 5 1 v ((i + 7) / 8) (bytesV (packed (l.take i))) ∧ Below w.heap.size w wr

/-- With room for the next bit. -/
def PackRm (w : World) (l : List Bool) (i q g cap : Nat) (wr : World) : Prop :=
  q = i / 8 ∧ wr.ownsRow w.heap.size 5 1 (.slice (some ⟨g, 0, none⟩) (q + 1) cap) (q + 1) (bytesV (packRoom l i)) ∧ Below w.heap.size w wr

theorem PackRm.cell {w wr : World} {l : List Bool} {i q g cap : Nat} (h : PackRm w l i q g cap wr) : wr.cell? ⟨g, q, none⟩ = some (.int .u8 (byteAt (l.take i) (i / 8) : Nat)) ∧ wr.frozen? ⟨g, q, none⟩ = false ∧ w.heap.size ≤ g ∧ g < wr.heap.size := by
  obtain ⟨hq, ⟨h1, h2⟩, _⟩ := h
  rcases h2 with ⟨h2, _⟩ | ⟨g', cap', cur, h0, h4, h5, h6, _, h7, h8⟩
  · simp at h2
  · simp only [Value.slice.injEq, Option.some.injEq, Addr.mk.injEq] at h0
    obtain ⟨⟨rfl, _⟩, _, rfl⟩ := h0
    refine ⟨?_, frozen_of_row _ _ _ _ _ h5, h4, ?_⟩
    · rw [cell_of_row _ _ _ _ _ _ h5, ← Array.getElem?_toList]
      have h9 := congrArg (fun l => l[q]?) h8
      rw [List.getElem?_take_of_lt (by omega)] at h9
      rw [h9]
      subst hq
      simp [bytesV, packRoom]
    · rcases Nat.lt_or_ge g wr.heap.size with hlt | hge
      · exact hlt
      · rw [Array.getElem?_eq_none hge] at h5; cases h5

theorem PackRm.step {w wr : World} {l : List Bool} {i q g cap Z : Nat} {X : Int} (h : PackRm w l i q g cap wr) (hi : i < l.length) (hZ : Z = byteAt (l.take i) (i / 8) + bn l i * 2 ^ (7 - i % 8)) (hX : X = (Z : Int)) :
    PackSt w l (i + 1) (.slice (some ⟨g, 0, none⟩) (q + 1) cap) (wr.setCell ⟨g, q, none⟩ (.int .u8 X)).drew := by
  subst hX
  obtain ⟨hq, h1, h2⟩ := h
  have hgc := PackRm.cell ⟨hq, h1, h2⟩
  refine ⟨?_, ?_⟩
  · rw [show (i + 1 + 7) / 8 = q + 1 from by omega, pack_step l i hi, ← hZ, ← hq]
    have := ownsRow_set (v := .slice none 0 0) (w := wr) h1 q (.int .u8 Z) (by omega)
    have e : bytesV ((packRoom l i).set q Z) = (bytesV (packRoom l i)).set q (.int .u8 (Z : Int)) := by simp [bytesV, List.map_set]
    rw [e]; exact this
  · exact h2.trans ⟨rfl, rfl, rfl, by simp [World.setCell], fun k hk => Below.heap_setCell _ _ _ _ (by show k ≠ g; have := hgc.2.2.1; omega)⟩

theorem PackSt.even {w wr : World} {l : List Bool} {i q : Nat} {v : Value} (h : PackSt w l i v wr) (hq : q = i / 8) (h8 : i % 8 = 0) : wr.ownsRow w.heap.size 5 1 v q (bytesV (packed (l.take i))) := by
  have := h.1; rwa [show (i + 7) / 8 = q from by omega] at this

theorem PackSt.room {w wr : World} {l : List Bool} {i q : Nat} {v : Value} (h : PackSt w l i v wr) (hi : i < l.length) (hq : q = i / 8) (h8 : i % 8 ≠ 0) : ∃ g cap, v = .slice (some ⟨g, 0, none⟩) (q + 1) cap ∧ PackRm w l i q g cap wr := by
  obtain ⟨h1, h2⟩ := h
  rw [show (i + 7) / 8 = q + 1 from by omega] at h1
  obtain ⟨g, cap, hv, _, _⟩ := h1.form (by omega)
  subst hv
  exact ⟨g, cap, rfl, hq, by rw [packRoom_same l i hi h8]; exact h1, h2⟩

set_option maxRecDepth 100000 in
set_option maxHeartbeats 4000000 in
theorem pack_any (v : Value) (lo hi : Nat) (l : List Bool) (w : World) (h : IsBits w v lo hi l) (hl : l.length ≤ 100000000) :
    Calls Tryz.prog 83 #[v] w fun e w' => ∃ v', e = .returned v' ∧ w'.ownsRow w.heap.size 5 1 v' ((l.length + 7) / 8) (bytesV (packed l)) ∧ Below w.heap.size w w' := by
  obtain ⟨p, cap, rfl, hcap, hc⟩ := h
  obtain ⟨i5, hi5⟩ := info5
  have Hi : Hid (Tryz.prog.info? 5 = some i5 ∧ i5.zero = some (.int .u8 0) ∧ i5.size = 1 ∧ i5.bytes = 1) := hi5
  have Hc : Hid (0 < l.length → ∃ g o, p = some ⟨g, o, none⟩ ∧ lo < g ∧ g < hi ∧ ∀ i, i < l.length → w.cell? ⟨g, o + i, none⟩ = some (.int .u8 (bn l i : Nat))) := hc
  obtain ⟨n, hn⟩ : ∃ n, n = l.length := ⟨_, rfl⟩
  rw [← hn]
  have Hn : Hid (n = l.length) := hn
  have hn2 : n ≤ 100000000 := by omega
  clear hc hcap hi5 hl hn
  go_enter Tryz.func83, Tryz.ntmps83
  go_wp2
  go_loopw [3, 4] (fun t3 t4 wr => ∃ i : Nat, i ≤ n ∧ t4 = .int .i64 i ∧ Hid (PackSt w l i t3 wr)) (fun _ t4 _ => n - (intOf t4).toNat)
  case atStart => exact ⟨0, by omega, rfl, ⟨by simpa [packed, bytesV] using World.ownsRow_nil w w.heap.size 5 1, Below.refl _ _⟩⟩
  case round =>
    obtain ⟨i, hin, rfl, HS⟩ := hrel
    by_cases hlt : i < n
    · have hlt' : (i : Int) < (n : Int) := by omega
      obtain ⟨g0, o0, rfl, _, _, hcell⟩ := Hc.out (by have := Hn.out; omega)
      have hil : i < l.length := by have := Hn.out; omega
      have hc0 := hcell i hil
      have hg0 : g0 < w.heap.size := block_lt_of_cell hc0
      have hcr : wr.cell? ⟨g0, o0 + i, none⟩ = some (.int .u8 (bn l i : Nat)) := by rw [HS.out.2.cell (p := ⟨g0, o0 + i, none⟩) hg0]; exact hc0
      obtain ⟨q, hq⟩ : ∃ q : Nat, (i : Int) / 8 = (q : Int) := ⟨i / 8, by omega⟩
      have Hq : Hid (q = i / 8) := by show _ = _; omega
      obtain ⟨sh, hsh⟩ : ∃ sh : Nat, sh = 7 - i % 8 := ⟨_, rfl⟩
      have hsh7 : sh ≤ 7 := by omega
      have hwq : IntKind.i64.wrap (q : Int) = (q : Int) := by rw [IntKind.wrap_i64]; omega
      have hwsh : IntKind.i64.wrap (7 - (i : Int).tmod 8) = (sh : Int) := by
        have e : (i : Int).tmod 8 = ((i % 8 : Nat) : Int) := by rw [Int.tmod_eq_emod_of_nonneg (by omega)]; simp
        rw [e, IntKind.wrap_i64]; omega
      have hwsu : IntKind.u64.wrap (sh : Int) = (sh : Int) := wraps_u64 (sh : Int) (by omega) (by omega)
      obtain ⟨Y, hY⟩ : ∃ Y, Y = byteAt (l.take i) (i / 8) := ⟨_, rfl⟩
      obtain ⟨z, hz⟩ : ∃ z, z = bn l i * 2 ^ sh := ⟨_, rfl⟩
      have hlt256 := pack_lt l i hil
      rw [← hY, ← hsh, ← hz] at hlt256
      have hmul : IntKind.u8.wrap ((bn l i : Int) * 2 ^ sh) = (z : Int) := by
        have e : ((bn l i : Int) * 2 ^ sh) = ((bn l i * 2 ^ sh : Nat) : Int) := by simp
        rw [e, ← hz]; exact wraps_u8' _ (by omega) (by omega)
      obtain ⟨Z, hZ⟩ : ∃ Z : Nat, Z = Y + z := ⟨_, rfl⟩
      have hsum : IntKind.u8.wrap ((Y : Int) + (z : Int)) = (Z : Int) := by
        have e : ((Y : Int) + (z : Int)) = ((Y + z : Nat) : Int) := by simp
        rw [e, ← hZ]; exact wraps_u8' _ (by omega) (by omega)
      have HZ : Hid (Z = byteAt (l.take i) (i / 8) + bn l i * 2 ^ (7 - i % 8)) := by show _ = _; rw [hZ, hY, hz, hsh]
      have HX : Hid (((Y : Int) + (bn l i : Int) * 2 ^ (7 - i % 8)) % 256 = (Z : Int)) := by
        show _ = _
        have e : ((bn l i : Int) * 2 ^ (7 - i % 8)) = ((bn l i * 2 ^ (7 - i % 8) : Nat) : Int) := by simp
        rw [e, ← hsh, ← hz, hZ]; omega
      have HY : Hid (Y = byteAt (l.take i) (i / 8)) := hY
      have hqi : (q : Int) < (q : Int) + 1 := by omega
      have Hil : Hid (i < l.length) := hil
      clear hcell hc0 hY hz hZ hsh hlt256 hil
      generalize bn l i = bi at hcr hmul HX
      by_cases h8 : i % 8 = 0
      · have h8' : ((i : Int) % 8 == 0) = true := by rw [beq_iff_eq]; omega
        go_wp2_with (at_builtin; refine wpList_append_lies _ rfl _ _ _ rfl w.heap.size 5 i5 (.int .u8 0) 1 1 Tryz.underlying57 Hi.out.1 Hi.out.2.1 Hi.out.2.2.1 Hi.out.2.2.2 rfl (by decide) _ q (bytesV (packed (l.take i))) rfl ((HS.out.even Hq.out h8).alloc _) ⟨wr.heap.size, 0, none⟩ 1 1 [.int .u8 0] rfl rfl ?d2 ?d3 (by decide) ?d4 ?d5 ?d7 _ rfl ?d6)
        case d2 => intro j u hj; exact cell_new1 wr _ 5 j u hj
        case d3 => intro u hu; simp at hu; subst hu; rfl
        case d4 => unfold maxLen; omega
        case d5 => omega
        case d7 => have := HS.out.2.size; simp; omega
        case d6 =>
          intro g cap1 w1 ho1 hg1 hat1 hlt1
          have B1 : Below w.heap.size wr w1 := ((Below.refl _ _).alloc HS.out.2.size _).trans (grown_below hg1 (fun g hg => ((HS.out.even Hq.out h8).lt g hg).1) (by have := HS.out.2.size; simp; omega))
          have R1 : PackRm w l i q g cap1 w1 := ⟨Hq.out, by rw [packRoom_new l i Hil.out h8]; simpa [bytesV] using ho1, HS.out.2.trans B1⟩
          have HR : Hid (PackRm w l i q g cap1 w1) := R1
          obtain ⟨k1, k2, k3, k4⟩ := R1.cell
          rw [← HY.out] at k1
          have hc1 : w1.cell? ⟨g0, o0 + i, none⟩ = some (.int .u8 (bi : Nat)) := by rw [B1.cell (p := ⟨g0, o0 + i, none⟩) hg0]; exact hcr
          have hne : g ≠ g0 := by omega
          clear ho1 hg1 hat1 hlt1 B1 R1 HS hcr
          go_wp2_with fail
          go_region
          all_goals
            go_wp2_with fail
            go_roundw
            case rel => exact ⟨i + 1, by omega, by go_num, HR.out.step Hil.out HZ.out (by have hx := HX.out; rw [h8] at hx; simpa using hx)⟩
            case measure => simp [intOf]; omega
      · have h8' : ((i : Int) % 8 == 0) = false := by rw [beq_eq_false_iff_ne]; omega
        obtain ⟨g, cap1, hv, R1⟩ := HS.out.room Hil.out Hq.out h8
        subst hv
        have HR : Hid (PackRm w l i q g cap1 wr) := R1
        obtain ⟨k1, k2, k3, k4⟩ := R1.cell
        rw [← HY.out] at k1
        have hne : g ≠ g0 := by omega
        clear R1 HS
        go_wp2_with fail
        go_region
        all_goals
          go_wp2_with fail
          go_roundw
          case rel => exact ⟨i + 1, by omega, by go_num, HR.out.step Hil.out HZ.out HX.out⟩
          case measure => simp [intOf]; omega
    · have hin2 : i = n := by omega
      subst hin2
      have e : l.take i = l := List.take_of_length_le (by have := Hn.out; omega)
      have HF : Hid (wr.ownsRow w.heap.size 5 1 u3 ((i + 7) / 8) (bytesV (packed l)) ∧ Below w.heap.size w wr) := by have := HS.out; unfold PackSt at this; rwa [e] at this
      clear HS e
      go_wp2_with fail
      go_ret
      exact ⟨_, rfl, HF.out⟩

/-- The row of a Writer of the document, as a row of bits. -/
theorem Rw.bits {w : World} {b off : Nat} {r : Option Nat} {l : List Bool} {e : Int} (h : Rw w b off r l e) (hr : ∀ g, r = some g → 0 < g) : ∃ p cap, w.cell? ⟨b, off, none⟩ = some (.slice p l.length cap) ∧ IsBits w (.slice p l.length cap) 0 (w.heap.size + 1) l := by
  obtain ⟨v, h1, ⟨h2, h3⟩, h4, h5⟩ := h.row
  rcases h3 with ⟨rfl, h6⟩ | ⟨g, cap, cur, rfl, _, h6, h7, _, h8, h9⟩
  · rw [h6]
    exact ⟨none, 0, h1, none, 0, by rw [h6], by omega, fun h0 => by omega⟩
  · refine ⟨some ⟨g, 0, none⟩, cap, h1, some ⟨g, 0, none⟩, cap, rfl, h7, fun h0 => ⟨g, 0, rfl, ?_, ?_, fun i hi => ?_⟩⟩
    · exact hr g (by rw [← h4]; rfl)
    · have := (h.apart g (by rw [← h4]; rfl)).2; omega
    · rw [cell_of_row _ _ _ _ _ _ h6]
      have h10 := congrArg (fun l => l[i]?) h9
      rw [List.getElem?_take_of_lt (by omega)] at h10
      simp only [List.getElem?_map, List.getElem?_eq_getElem hi, Option.map_some] at h10
      simp only [Nat.zero_add]
      rw [Array.getElem?_toList] at h10
      rw [h10]
      simp only [bn, List.getElem?_eq_getElem hi, bitV]
      cases l[i] <;> simp

theorem refdone_ok (b off : Nat) (r : Option Nat) (l : List Bool) (w : World) (h : Rw w b off r l 0) (hr : ∀ g, r = some g → 0 < g) (hl : l.length ≤ 100000000) :
    Calls Tryz.prog 36 #[.pointer (some ⟨b, off, none⟩)] w fun e w' => ∃ v', e = .returned (.tuple #[v', .int .i64 0]) ∧ w'.ownsRow w.heap.size 5 1 v' ((l.length + 7) / 8) (bytesV (packed l)) ∧ Below w.heap.size w w' := by
  obtain ⟨p, cap, h1, hI⟩ := h.bits hr
  have h2 := h.err
  have H : Hid (Calls Tryz.prog 83 #[.slice p l.length cap] w fun e w' => ∃ v', e = .returned v' ∧ w'.ownsRow w.heap.size 5 1 v' ((l.length + 7) / 8) (bytesV (packed l)) ∧ Below w.heap.size w w') := pack_any _ _ _ l w hI hl
  clear hI h
  generalize l.length = n at *
  go_enter Tryz.func36, Tryz.ntmps36
  go_wp2_with fail
  refine H.out.mono ?_
  rintro _ w1 ⟨v', rfl, hq⟩
  have HQ : Hid (w1.ownsRow w.heap.size 5 1 v' ((n + 7) / 8) (bytesV (packed l)) ∧ Below w.heap.size w w1) := hq
  clear hq
  go_wp2_with fail
  go_ret2
  exact ⟨v', rfl, HQ.out⟩

theorem refdone_bad (b off : Nat) (e0 : Int) (w : World) (hn : w.cell? ⟨b, off + 1, none⟩ = some (.int .i64 e0)) (hne : e0 ≠ 0) :
    Calls Tryz.prog 36 #[.pointer (some ⟨b, off, none⟩)] w fun e w' => e = .returned (.tuple #[.slice none 0 0, .int .i64 e0]) ∧ ∃ n, w' = w.drewN n := by
  have hne' : (e0 != 0) = true := by simp [hne]
  go_enter Tryz.func36, Tryz.ntmps36
  go_wp2_with fail
  go_quiet (fail)
  go_wp2
  go_ret2
  exact ⟨rfl, _, rfl⟩

end Go.Proofs.YtangjkhflgkkdaaGreat

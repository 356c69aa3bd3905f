/- The names seen; the error of the first label of which there is no set. -/
import Derived.Test.YtgcmdbpanfeaaabGreatDoorL2C
import Derived.Maps.RangeRun
import Derived.MapKept
namespace Go.Proofs.YtgcmdbpanfeaaabGreatDoor
open Go.RowKit
set_option linter.unusedVariables false
set_option linter.unusedSimpArgs false

def memB (nm : ByteArray) (N : List ByteArray) : Bool := N.any fun x => decide (x = nm)

theorem memB_iff (nm : ByteArray) (N : List ByteArray) : memB nm N = true ↔ nm ∈ N := by simp [memB]

/-- The map m holds just these names. -/
def Seen (w : World) (m : Nat) (N : List ByteArray) : Prop :=
  ∃ (E : List MapEntry) (c : Nat), w.heap[m]? = some (.map E.toArray c) ∧ E.map (·.key) = N.map Value.string ∧ ∀ e ∈ E, e.val = .agg #[]

theorem Seen.lt {w : World} {m : Nat} {N : List ByteArray} (h : Seen w m N) : m < w.heap.size := by
  obtain ⟨E, c, h1, _⟩ := h
  exact size_lt_of_row h1

theorem Seen.below {w w' : World} {m : Nat} {N : List ByteArray} (h : Seen w m N) (hB : Below w.heap.size w w') : Seen w' m N := by
  have hl := h.lt
  obtain ⟨E, c, h1, h2⟩ := h
  exact ⟨E, c, by rw [hB.block m hl]; exact h1, h2⟩

theorem seen_keys {E : List MapEntry} {N : List ByteArray} (h : E.map (·.key) = N.map Value.string) : ∀ x ∈ E, MapKept.IsKey .string x.key := by
  intro x hx
  have : x.key ∈ E.map (·.key) := List.mem_map.2 ⟨x, hx, rfl⟩
  rw [h] at this
  obtain ⟨y, _, hy⟩ := List.mem_map.1 this
  rw [← hy]; simp [MapKept.IsKey]

theorem Seen.look {w : World} {m : Nat} {N : List ByteArray} (h : Seen w m N) (nm : ByteArray) :
    (Instr.lookup 76 (.map (some m)) (.string nm) true).run Tryz.prog w = .ok (.tuple #[.agg #[], .bool (memB nm N)]) w := by
  obtain ⟨E, c, h1, h2, h3⟩ := h
  have hc : ∀ b, (Instr.checkKey b 10000 9 (.string nm)).run Tryz.prog w = .ok () w := fun b => MapKept.run_checkKey Tryz.underlying9 (by simp [MapKept.IsKey]) b 9999
  rcases MapKept.findNow_spec (d := .string) (k := .string nm) (by simp [MapKept.IsKey]) E 0 (seen_keys h2) with ⟨hf, ho⟩ | ⟨j, e, hf, he, hk⟩
  · have hn : memB nm N = false := by
      refine Bool.eq_false_iff.2 fun hi => ?_
      rw [memB_iff] at hi
      have : Value.string nm ∈ E.map (·.key) := by rw [h2]; exact List.mem_map.2 ⟨nm, hi, rfl⟩
      obtain ⟨x, hx, hxe⟩ := List.mem_map.1 this
      exact ho x hx hxe
    rw [hn]
    simp [Instr.lookup, run_underlying Tryz.underlying76, MapKept.run_getObj_map h1, hc, MapKept.run_findKey Tryz.underlying9 hf, Result.andThen, Tryz.zeroValue78]
  · have hn : memB nm N = true := by
      rw [memB_iff]
      have hm := List.mem_of_getElem? he
      have : e.key ∈ E.map (·.key) := List.mem_map.2 ⟨e, hm, rfl⟩
      rw [h2, hk] at this
      obtain ⟨y, hy, hye⟩ := List.mem_map.1 this
      cases hye; exact hy
    rw [hn]
    have hv := h3 e (List.mem_of_getElem? he)
    rw [hv] at hf
    simp [Instr.lookup, run_underlying Tryz.underlying76, MapKept.run_getObj_map h1, hc, MapKept.run_findKey Tryz.underlying9 hf, Result.andThen]

theorem Seen.put {w : World} {m : Nat} {N : List ByteArray} (h : Seen w m N) (nm : ByteArray) (hn : nm ∉ N) :
    ∃ w', (Instr.mapUpdate 76 (.map (some m)) (.string nm) (.agg #[])).run Tryz.prog w = .ok () w' ∧ Seen w' m (N ++ [nm]) ∧ (∀ B, B ≤ m → Below B w w') ∧ w'.heap.size = w.heap.size := by
  have hl := h.lt
  obtain ⟨E, c, h1, h2, h3⟩ := h
  have hc : (Instr.checkKey false 10000 9 (.string nm)).run Tryz.prog w = .ok () w := MapKept.run_checkKey Tryz.underlying9 (by simp [MapKept.IsKey]) false 9999
  rcases MapKept.findNow_spec (d := .string) (k := .string nm) (by simp [MapKept.IsKey]) E 0 (seen_keys h2) with ⟨hf, ho⟩ | ⟨j, e, hf, he, hk⟩
  · refine ⟨{ w with heap := w.heap.setIfInBounds m (.map (E.toArray.push { key := .string nm, val := .agg #[], born := c }) (c + 1)) }, ?_, ⟨E ++ [{ key := .string nm, val := .agg #[], born := c }], c + 1, ?_, ?_, ?_⟩, ?_, by simp⟩
    · simp [Instr.mapUpdate, run_underlying Tryz.underlying76, MapKept.run_getObj_map h1, hc, MapKept.run_findKey Tryz.underlying9 hf, MapKept.run_setObj_map _ h1, Result.andThen]
    · simp [hl]
    · simp [h2]
    · intro e he
      rcases List.mem_append.1 he with he | he
      · exact h3 e he
      · simp at he; rw [he]
    · intro B hB
      exact ⟨rfl, rfl, rfl, by simp, fun k hk => by
        show (w.heap.setIfInBounds m _)[k]? = w.heap[k]?
        rw [Array.getElem?_setIfInBounds_ne (by omega)]⟩
  · exact absurd (by
      have hm := List.mem_of_getElem? he
      have : e.key ∈ E.map (·.key) := List.mem_map.2 ⟨e, hm, rfl⟩
      rw [h2, hk] at this
      obtain ⟨y, hy, hye⟩ := List.mem_map.1 this
      cases hye; exact hy) hn

/-- The error of the first label of which there is no set; names N stand ahead. -/
def refL : List ByteArray → List Lab → Nat
  | _, [] => 0
  | N, x :: r => if nameOk (bytesN x.1) = false then 130 else if valueOk (bytesN x.2) = false then 131 else if memB x.1 N = true then 132 else refL (N ++ [x.1]) r

set_option maxRecDepth 100000 in
set_option maxHeartbeats 1000000 in
theorem refusal_any (p : Option Addr) (n c : Nat) (L : List Lab) (w : World) (h : LR w p L) (hn : L.length = n) (hl : n ≤ 1000000) (hs : ∀ x ∈ L, x.1.size ≤ 1000000000 ∧ x.2.size ≤ 1000000000) (hT : UT w) :
    Calls Tryz.prog 21 #[.slice p n c] w fun e w' => e = .returned (.int .i64 (refL [] L : Nat)) ∧ Below w.heap.size w w' := by
  have HL := hide h
  have HN := hide hn
  have HT := hide hT
  have HS : Hid (∀ i, (L.getD i lab0).1.size ≤ 1000000000 ∧ (L.getD i lab0).2.size ≤ 1000000000) := by
    intro i
    by_cases hi : i < L.length
    · have e : L.getD i lab0 = L[i] := by simp [List.getD, hi]
      rw [e]; exact hs _ (List.getElem_mem hi)
    · have e : L.getD i lab0 = lab0 := by simp [List.getD, hi]
      rw [e]; exact ⟨Nat.zero_le _, Nat.zero_le _⟩
  clear h hT hs
  obtain ⟨V, hV⟩ : ∃ V, refL [] L = V := ⟨_, rfl⟩
  have HV := hide hV
  rw [hV]
  clear hV hn
  have hmm : ∀ w, (Instr.makeMap 76 (some (.int .i64 (n : Int)))).run Tryz.prog w = .ok (.map (some w.heap.size)) (w.alloc (.map #[] 0)) := fun w => by
    simp [Instr.makeMap, run_underlying Tryz.underlying76, asInt, asIntOf, Result.andThen]
  have HM0 : Hid (Seen (w.alloc (.map #[] 0)) w.heap.size []) := ⟨[], 0, heap_alloc_new w _, rfl, by simp⟩
  have HB0 : Hid (Below w.heap.size w (w.alloc (.map #[] 0))) := (Below.refl _ _).alloc (Nat.le_refl _) _
  go_enter Tryz.func21, Tryz.ntmps21
  go_wp2
  clear hmm
  go_loopw [13] (fun t13 wr => ∃ (i : Nat) (N : List ByteArray), i ≤ n ∧ t13 = .int .i64 i ∧ Hid (Below w.heap.size w wr ∧ Seen wr w.heap.size N ∧ V = refL N (L.drop i))) (fun t13 _ => n - (intOf t13).toNat)
  case atStart => exact ⟨0, [], by omega, rfl, HB0.out, HM0.out, by rw [List.drop_zero]; exact HV.out.symm⟩
  case round =>
    obtain ⟨i, N, hi, rfl, HI⟩ := hrel
    by_cases hlt : i < n
    · have hz : (i : Int) < (n : Int) := by omega
      have hil : i < L.length := by have := HN.out; omega
      obtain ⟨b, o, rfl, hc⟩ := HL.out (by omega)
      obtain ⟨c1, c2⟩ := hc i hil
      have e1 := HI.out.1.cell (p := ⟨b, o + i * 2, none⟩) (block_lt_of_cell c1)
      have e2 := HI.out.1.cell (p := ⟨b, o + i * 2 + 1, none⟩) (block_lt_of_cell c2)
      rw [c1] at e1
      rw [c2] at e2
      have HD : Hid (V = (if nameOk (bytesN (L.getD i lab0).1) = false then 130 else if valueOk (bytesN (L.getD i lab0).2) = false then 131 else if memB (L.getD i lab0).1 N = true then 132 else refL (N ++ [(L.getD i lab0).1]) (L.drop (i + 1)))) := by
        have h := HI.out.2.2
        rw [getD_cons L i hil] at h; exact h
      have HS1 := hide (HS.out i)
      obtain ⟨x, hx⟩ : ∃ x, (L.getD i lab0).1 = x := ⟨_, rfl⟩
      obtain ⟨y, hy⟩ : ∃ y, (L.getD i lab0).2 = y := ⟨_, rfl⟩
      rw [hx, hy] at HD HS1
      rw [hx] at e1
      rw [hy] at e2
      have ha : Below w.heap.size w (wr.alloc (.cells #[.string x, .string y] 34)) := HI.out.1.alloc HI.out.1.size _
      have HA := hide ha
      have HSe := hide (HI.out.2.1.below ((Below.refl wr.heap.size wr).alloc (Nat.le_refl _) (.cells #[.string x, .string y] 34)))
      have HNm := hide (fun w => isName_any x w (by have := HS1.out; omega))
      have HVl := hide (fun w h => isValue_any y w h (by have := HS1.out; omega))
      obtain ⟨NO, hNO⟩ : ∃ v, nameOk (bytesN x) = v := ⟨_, rfl⟩
      obtain ⟨VO, hVO⟩ : ∃ v, valueOk (bytesN y) = v := ⟨_, rfl⟩
      obtain ⟨MO, hMO⟩ : ∃ v, memB x N = v := ⟨_, rfl⟩
      rw [hNO] at HNm HD
      rw [hVO] at HVl HD
      rw [hMO] at HD
      have HMO := hide hMO
      have hwl : w.heap.size < wr.heap.size := HI.out.2.1.lt
      clear c1 c2 hc HI hx hy ha hNO hVO hMO
      cases NO with
      | false =>
        have hv : V = 130 := HD.out
        subst hv
        clear HD
        go_wp2_with (go_at_call 36; refine (HNm.out _).mono ?_; rintro e w2 ⟨rfl, rfl⟩)
        go_ret
        exact ⟨rfl, HA.out⟩
      | true =>
      cases VO with
      | false =>
        have hv : V = 131 := HD.out
        subst hv
        clear HD
        go_wp2_with (first
          | (go_at_call 36; refine (HNm.out _).mono ?_; rintro e w2 ⟨rfl, rfl⟩)
          | (go_at_call 37; refine (HVl.out _ (HT.out.below HA.out)).mono ?_; rintro e w3 ⟨rfl, hb⟩; have HB3 := hide (HA.out.trans (hb.mono HA.out.size)); clear hb))
        go_ret
        exact ⟨rfl, HB3.out⟩
      | true =>
      have HLk : Hid (∀ w3, Below (wr.alloc (.cells #[.string x, .string y] 34)).heap.size (wr.alloc (.cells #[.string x, .string y] 34)) w3 → (Instr.lookup 76 (.map (some w.heap.size)) (.string x) true).run Tryz.prog w3 = .ok (.tuple #[.agg #[], .bool MO]) w3) := by
        intro w3 hb
        rw [← HMO.out]
        exact (HSe.out.below hb).look x
      cases MO with
      | true =>
        have hv : V = 132 := HD.out
        subst hv
        clear HD
        go_wp2_with (first
          | (go_at_call 36; refine (HNm.out _).mono ?_; rintro e w2 ⟨rfl, rfl⟩)
          | (go_at_call 37; refine (HVl.out _ (HT.out.below HA.out)).mono ?_; rintro e w3 ⟨rfl, hb⟩; have HB3 := hide (HA.out.trans (hb.mono HA.out.size)); have ex := hb.cell (p := ⟨wr.heap.size, 0, none⟩) (by simp); have hlk := HLk.out _ hb; clear hb))
        go_ret
        exact ⟨rfl, HB3.out.alloc HB3.out.size _⟩
      | false =>
        have HD2 : Hid (V = refL (N ++ [x]) (L.drop (i + 1))) := hide (by have := HD.out; simpa using this)
        have HPut : Hid (∀ w3, Below (wr.alloc (.cells #[.string x, .string y] 34)).heap.size (wr.alloc (.cells #[.string x, .string y] 34)) w3 → ∃ w5, (Instr.mapUpdate 76 (.map (some w.heap.size)) (.string x) (.agg #[])).run Tryz.prog (w3.alloc (.cells #[] 78)) = .ok () w5 ∧ Seen w5 w.heap.size (N ++ [x]) ∧ Below w.heap.size w w5) := by
          intro w3 hb
          have hs3 : Seen (w3.alloc (.cells #[] 78)) w.heap.size N := (HSe.out.below hb).below ((Below.refl _ _).alloc (Nat.le_refl _) _)
          obtain ⟨w5, h1, h2, h3, _⟩ := hs3.put x (by
            intro hm
            have := (memB_iff x N).2 hm
            rw [HMO.out] at this; cases this)
          have hB3 := HA.out.trans (hb.mono HA.out.size)
          exact ⟨w5, h1, h2, (hB3.alloc hB3.size _).trans (h3 w.heap.size (Nat.le_refl _))⟩
        clear HD
        go_wp2_with (first
          | (go_at_call 36; refine (HNm.out _).mono ?_; rintro e w2 ⟨rfl, rfl⟩)
          | (go_at_call 37; refine (HVl.out _ (HT.out.below HA.out)).mono ?_; rintro e w3 ⟨rfl, hb⟩; have ex := hb.cell (p := ⟨wr.heap.size, 0, none⟩) (by simp); have hlk := HLk.out _ hb; obtain ⟨w5, hput, hS5, hB5⟩ := HPut.out _ hb; have ex2 := (World.cell?_of_block (w := w3) (a := ⟨wr.heap.size, 0, none⟩) (Below.heap_alloc w3 (.cells #[] 78) _ (by have := hb.size; simp at this ⊢; omega))).trans ex; have HS5 := hide hS5; have HB5 := hide hB5; clear hb hS5 hB5))
        go_roundw
        case rel => exact ⟨i + 1, _, by omega, by go_num, HB5.out, HS5.out, HD2.out⟩
        case measure => simp [intOf]; omega
    · have hz : ¬ (i : Int) < (n : Int) := by omega
      have hv : V = 0 := by
        have := HI.out.2.2
        rw [List.drop_eq_nil_of_le (by have := HN.out; omega)] at this; exact this
      subst hv
      have HB := hide HI.out.1
      clear HI HV
      go_wp2_with fail
      go_ret
      exact ⟨rfl, HB.out⟩

end Go.Proofs.YtgcmdbpanfeaaabGreatDoor

/- The text of a set. -/
import Derived.Test.YtgcmdbpanfeaaabGreatDoorL2C
import Derived.Test.YtgcmdbpanfeaaabGreatDoorL1F
import Derived.Test.YtgcmdbpanfeaaabGreatDoorL0S
namespace Go.Proofs.YtgcmdbpanfeaaabGreatDoor
open Go.RowKit
set_option linter.unusedVariables false
set_option linter.unusedSimpArgs false

/-- A label in a text. -/
def partS (x : Lab) : ByteArray := x.1 ++ ⟨#[61]⟩ ++ strOf (qtL (bytesN x.2))
/-- A set's text. -/
def textL (L : List Lab) : ByteArray := ⟨#[123]⟩ ++ (⟨(Lib.join ((L.map partS).map (·.data.toList)) [44]).toArray⟩ : ByteArray) ++ ⟨#[125]⟩

theorem joinTail_len (sep : List UInt8) (m : Nat) : ∀ r : List (List UInt8), (∀ l ∈ r, l.length ≤ m) → (Lib.joinTail sep r).length ≤ r.length * (m + sep.length)
  | [], _ => by simp [Lib.joinTail]
  | b :: r, h => by
    have h1 := h b (by simp)
    have h2 := joinTail_len sep m r (fun l hl => h l (by simp [hl]))
    have e : Lib.joinTail sep (b :: r) = (sep ++ b) ++ Lib.joinTail sep r := by simp [Lib.joinTail]
    rw [e, List.length_append, List.length_append, List.length_cons, Nat.succ_mul]; omega

theorem join_len (sep : List UInt8) (m : Nat) (ls : List (List UInt8)) (h : ∀ l ∈ ls, l.length ≤ m) : (Lib.join ls sep).length ≤ ls.length * (m + sep.length) := by
  cases ls with
  | nil => simp [Lib.join_nil]
  | cons a r =>
    have h1 := h a (by simp)
    have h2 := joinTail_len sep m r (fun l hl => h l (by simp [hl]))
    rw [Lib.join_cons, List.length_append, List.length_cons, Nat.succ_mul]; omega

theorem part_le (x : Lab) (h1 : x.1.size ≤ 1000000) (h2 : x.2.size ≤ 1000000) : (partS x).size ≤ 6000000 := by
  unfold partS
  have := qtL_le (bytesN x.2) (bytesN_lt x.2)
  rw [bytesN_length] at this
  have e : (⟨#[61]⟩ : ByteArray).size = 1 := rfl
  rw [ByteArray.size_append, ByteArray.size_append, strOf_size, e]; omega

theorem join_le2 (L : List Lab) (hs : ∀ i, (L.getD i lab0).1.size ≤ 1000000 ∧ (L.getD i lab0).2.size ≤ 1000000) (hl : L.length ≤ 10000) : (⟨(Lib.join ((L.map partS).map (·.data.toList)) [44]).toArray⟩ : ByteArray).size ≤ 100000000000 := by
  have h := join_len [44] 6000000 ((L.map partS).map (·.data.toList)) (fun l hl => by
    obtain ⟨b, hb, rfl⟩ := List.mem_map.1 hl
    obtain ⟨x, hx, rfl⟩ := List.mem_map.1 hb
    obtain ⟨i, hi, rfl⟩ := List.getElem_of_mem hx
    have := hs i
    have e : L.getD i lab0 = L[i] := by simp [List.getD, hi]
    rw [e] at this
    have := part_le _ this.1 this.2
    rw [← Lib.size_eq]; exact this)
  have e : (⟨(Lib.join ((L.map partS).map (·.data.toList)) [44]).toArray⟩ : ByteArray).size = (Lib.join ((L.map partS).map (·.data.toList)) [44]).length := by simp [ByteArray.size]
  rw [e]
  simp only [List.length_map, List.length_cons, List.length_nil] at h
  have : L.length * (6000000 + (0 + 1)) ≤ 10000 * (6000000 + (0 + 1)) := Nat.mul_le_mul_right _ hl
  omega

theorem join_le (L : List Lab) (hs : ∀ i, (L.getD i lab0).1.size ≤ 1000000 ∧ (L.getD i lab0).2.size ≤ 1000000) (hl : L.length ≤ 10000) : (Lib.join ((L.map partS).map (·.data.toList)) (⟨#[44]⟩ : ByteArray).data.toList).length ≤ 140737488355328 := by
  have h := join_le2 L hs hl
  have e : (⟨(Lib.join ((L.map partS).map (·.data.toList)) [44]).toArray⟩ : ByteArray).size = (Lib.join ((L.map partS).map (·.data.toList)) [44]).length := by simp [ByteArray.size]
  rw [e] at h
  exact Nat.le_trans h (by omega)

/-- A row of n texts of which the first i are laid. -/
def PartR (w : World) (g n : Nat) (l : List ByteArray) : Prop :=
  ∃ cs : Array Value, w.heap[g]? = some (.cells cs 9) ∧ cs.size = n ∧ ∀ j, j < l.length → cs[j]? = some (.string (l.getD j ⟨#[]⟩))

theorem PartR.below {w w' : World} {g n : Nat} {l : List ByteArray} (h : PartR w g n l) (hb : Below w.heap.size w w') : PartR w' g n l := by
  obtain ⟨cs, h1, h2⟩ := h
  exact ⟨cs, by rw [hb.block g (size_lt_of_row h1)]; exact h1, h2⟩

theorem PartR.put {w : World} {g n : Nat} {l : List ByteArray} (h : PartR w g n l) (s : ByteArray) (hi : l.length < n) : PartR (w.setCell ⟨g, l.length, none⟩ (.string s)) g n (l ++ [s]) := by
  obtain ⟨cs, h1, h2, h3⟩ := h
  refine ⟨cs.setIfInBounds l.length (.string s), ?_, by simpa using h2, fun j hj => ?_⟩
  · show (w.heap.modify g _)[g]? = _
    rw [Array.getElem?_modify, if_pos rfl, h1]; rfl
  · simp only [List.length_append, List.length_cons, List.length_nil] at hj
    by_cases hjl : j = l.length
    · subst hjl
      rw [Array.getElem?_setIfInBounds_self_of_lt (by omega)]
      simp [List.getD]
    · rw [Array.getElem?_setIfInBounds_ne (by omega), h3 j (by omega)]
      simp [List.getD, List.getElem?_append_left (show j < l.length by omega)]

theorem PartR.cell {w : World} {g n : Nat} {l : List ByteArray} (h : PartR w g n l) (j : Nat) (hj : j < n) : (∃ v, w.cell? ⟨g, j, none⟩ = some v) ∧ w.frozen? ⟨g, j, none⟩ = false := by
  obtain ⟨cs, h1, h2, _⟩ := h
  refine ⟨⟨cs[j]'(by omega), ?_⟩, frozen_of_row _ _ _ _ _ h1⟩
  rw [cell_of_row w g j cs _ (0, 0) h1, Array.getElem?_eq_getElem (by omega)]

theorem make_strs (c : Nat) (h : c ≤ 100000000) (w : World) :
    (Instr.makeSlice 46 (.int .i64 (c : Int)) (.int .i64 (c : Int))).run Tryz.prog w = .ok (.slice (some ⟨w.heap.size, 0, none⟩) c c) (w.alloc (.cells (List.replicate c (Value.string ⟨#[]⟩)).toArray 9)) := by
  have hz : (Tryz.prog.info? 9).bind (·.zero) = some (.string ⟨#[]⟩) := by kernel_rfl
  have hs : (Tryz.prog.info? 9).map (·.size) = some 1 := by kernel_rfl
  have hb : (Tryz.prog.info? 9).map (·.bytes) = some 16 := by kernel_rfl
  cases hi : Tryz.prog.info? 9 with
  | none => simp [hi] at hs
  | some i =>
    simp only [hi, Option.bind_some, Option.map_some, Option.some.injEq] at hz hs hb
    rw [run_make w 46 9 i _ Tryz.underlying46 hi hz .i64 .i64 (c : Int) (c : Int) (by omega) (by omega) (by rw [hb]; omega) (by omega)]
    have e : madeCells (Value.string ⟨#[]⟩).cells ((c : Int).toNat * i.size) = (List.replicate c (Value.string ⟨#[]⟩)).toArray := by
      rw [hs]
      apply Array.ext
      · simp [madeCells]
      · intro j h1 h2
        simp [madeCells, Value.cells, Nat.mod_one]
    rw [e]; simp

set_option maxRecDepth 100000 in
set_option maxHeartbeats 1000000 in
theorem Text_any (p : Option Addr) (n c : Nat) (L : List Lab) (w : World) (h : LR w p L) (hn : L.length = n) (hl : n ≤ 10000) (hs : ∀ x ∈ L, x.1.size ≤ 1000000 ∧ x.2.size ≤ 1000000) (hT : UT w) :
    Calls Tryz.prog 18 #[.slice p n c] w fun e w' => e = .returned (if setOk L = true then .tuple #[.string (textL L), .int .i64 0] else .tuple #[.string ⟨#[]⟩, .int .i64 134]) ∧ Below w.heap.size w w' := by
  have HI := hide (isSet_any p n c L w h hn (by omega) (fun x hx => by have := hs x hx; omega) hT)
  have HL := hide h
  have HN := hide hn
  have HT := hide hT
  have HS : Hid (∀ i, (L.getD i lab0).1.size ≤ 1000000 ∧ (L.getD i lab0).2.size ≤ 1000000) := by
    intro i
    by_cases hi : i < L.length
    · have e : L.getD i lab0 = L[i] := by simp [List.getD, hi]
      rw [e]; exact hs _ (List.getElem_mem hi)
    · have e : L.getD i lab0 = lab0 := by simp [List.getD, hi]
      rw [e]; exact ⟨Nat.zero_le _, Nat.zero_le _⟩
  obtain ⟨S, hS⟩ : ∃ S, setOk L = S := ⟨_, rfl⟩
  rw [hS] at HI ⊢
  clear hS h hs hT
  cases S with
  | false =>
    go_enter Tryz.func18, Tryz.ntmps18
    go_wp2_with (go_at_call 32; refine HI.out.mono ?_; rintro e w2 ⟨rfl, hb⟩; have HB := hide hb; clear hb)
    go_ret2
    exact ⟨rfl, HB.out⟩
  | true =>
    have hmk := fun w => make_strs n (by omega) w
    have hmkN := hide hmk
    go_enter Tryz.func18, Tryz.ntmps18
    go_wp2_with (go_at_call 32; refine HI.out.mono ?_; rintro e w2 ⟨rfl, hb⟩; have HB := hide hb; clear hb)
    have HP0 : Hid (PartR (w2.alloc (.cells (List.replicate n (Value.string ⟨#[]⟩)).toArray 9)) w2.heap.size n []) := ⟨_, heap_alloc_new w2 _, by simp, fun j hj => by simp at hj⟩
    have HB0 : Hid (Below w.heap.size w (w2.alloc (.cells (List.replicate n (Value.string ⟨#[]⟩)).toArray 9)) ∧ w.heap.size ≤ w2.heap.size) := ⟨HB.out.alloc HB.out.size _, HB.out.size⟩
    clear hmk
    go_loopw [15] (fun t15 wr => ∃ i : Nat, i ≤ n ∧ t15 = .int .i64 i ∧ Hid (Below w.heap.size w wr ∧ PartR wr w2.heap.size n ((L.take i).map partS))) (fun t15 _ => n - (intOf t15).toNat)
    case atStart => exact ⟨0, by omega, rfl, by rw [List.take_zero]; exact ⟨HB0.out.1, HP0.out⟩⟩
    case round =>
      obtain ⟨i, hi, rfl, HIv⟩ := hrel
      by_cases hlt : i < n
      · have hz : (i : Int) < (n : Int) := by omega
        have hil : i < L.length := by have := HN.out; omega
        have hlr := HL.out.below (w' := wr) HIv.out.1
        obtain ⟨b, o, rfl, hc⟩ := hlr (by omega)
        obtain ⟨e1, e2⟩ := hc i hil
        have HS1 := hide (HS.out i)
        obtain ⟨X, hX⟩ : ∃ X, L.getD i lab0 = X := ⟨_, rfl⟩
        rw [hX] at e1 e2 HS1
        obtain ⟨x, y⟩ := X
        dsimp only at e1 e2 HS1
        have HQ := hide (fun w h => Quote_any y w (by have := HS1.out; omega) h)
        have HQl : Hid ((strOf (qtL (bytesN y))).size ≤ 5000000) := hide (by rw [strOf_size]; have := qtL_le (bytesN y) (bytesN_lt y); rw [bytesN_length] at this; have := HS1.out; omega)
        obtain ⟨Y, hY⟩ : ∃ Y, strOf (qtL (bytesN y)) = Y := ⟨_, rfl⟩
        have HX : Hid ((L.take (i + 1)).map partS = (L.take i).map partS ++ [x ++ ⟨#[61]⟩ ++ Y]) := hide (by
          have e : L.take (i + 1) = L.take i ++ [L.getD i lab0] := by
            rw [List.take_add_one, List.getElem?_eq_getElem hil]; simp [List.getD, hil]
          rw [e, hX, ← hY]; simp [partS])
        rw [hY] at HQ HQl
        have hb1 : x.size + 1 ≤ 9223372036854775807 := by have := HS1.out; omega
        have hb2 : x.size + 1 + Y.size ≤ 9223372036854775807 := by have := HS1.out; have := HQl.out; omega
        clear hc hlr hX hY
        obtain ⟨W, hW⟩ : ∃ W, wr.alloc (.cells #[.string x, .string y] 34) = W := ⟨_, rfl⟩
        have hln : ((L.take i).map partS).length = i := by rw [List.length_map, List.length_take]; omega
        have HPW : Hid (PartR W w2.heap.size n ((L.take i).map partS)) := by rw [← hW]; exact HIv.out.2.below ((Below.refl _ _).alloc (Nat.le_refl _) _)
        have HBW : Hid (Below w.heap.size w W) := by rw [← hW]; exact HIv.out.1.alloc HIv.out.1.size _
        have HF : Hid (∀ w', Below W.heap.size W w' → w'.cell? ⟨wr.heap.size, 0, none⟩ = some (.string x) ∧ w'.cell? ⟨wr.heap.size, 1, none⟩ = some (.string y) ∧ (∃ v, w'.cell? ⟨w2.heap.size, i, none⟩ = some v) ∧ w'.frozen? ⟨w2.heap.size, i, none⟩ = false) := by
          intro w' hb
          have hs : W.heap.size = wr.heap.size + 1 := by rw [← hW]; simp
          have hp := (HPW.out.below hb).cell i hlt
          refine ⟨?_, ?_, hp.1, hp.2⟩
          · rw [hb.cell (p := ⟨wr.heap.size, 0, none⟩) (by simp; omega), ← hW]; simp
          · rw [hb.cell (p := ⟨wr.heap.size, 1, none⟩) (by simp; omega), ← hW]; simp
        have HEND : Hid (∀ w3, Below W.heap.size W w3 → Below w.heap.size w (w3.setCell ⟨w2.heap.size, i, none⟩ (.string (x ++ ⟨#[61]⟩ ++ Y))) ∧ PartR (w3.setCell ⟨w2.heap.size, i, none⟩ (.string (x ++ ⟨#[61]⟩ ++ Y))) w2.heap.size n ((L.take (i + 1)).map partS)) := by
          intro w3 hb
          refine ⟨(HBW.out.trans (hb.mono HBW.out.size)).setCell HB0.out.2 _, ?_⟩
          rw [HX.out]
          have h := (HPW.out.below hb).put (x ++ ⟨#[61]⟩ ++ Y) (by rw [hln]; exact hlt)
          rw [hln] at h
          exact h
        obtain ⟨a0, a1, ⟨va, a2⟩, a3⟩ := HF.out W (Below.refl _ _)
        have HTW : Hid (UT W) := HT.out.below (HBW.out.mono (by omega))
        clear HIv hln HX
        go_wp2_with fail
        clear hW
        go_region_with (go_at_call 11; refine (HQ.out _ (HTW.out.below ((Below.refl _ _).drew))).mono ?_; rintro e w3 ⟨rfl, hb⟩; have HB3 : Hid (Below W.heap.size W w3) := ((Below.refl _ _).drew).trans hb; obtain ⟨b0, b1, ⟨vb, b2⟩, b3⟩ := HF.out w3 HB3.out; clear hb)
        all_goals
          have HE := hide (HEND.out w3 HB3.out)
          go_wp2_with fail
          exact ⟨⟨i + 1, by omega, by go_num, HE.out⟩, by simp [intOf]; omega⟩
      · have hz : ¬ (i : Int) < (n : Int) := by omega
        have hin : i = n := by omega
        subst hin
        rw [List.take_of_length_le (by have := HN.out; omega)] at HIv
        have HB := hide HIv.out.1
        have HJ : Hid (Calls Tryz.prog 33 #[.slice (some ⟨w2.heap.size, 0, none⟩) i i, .string ⟨#[44]⟩] wr fun e w' => e = .returned (.string ⟨(Lib.join ((L.map partS).map (·.data.toList)) [44]).toArray⟩) ∧ Below wr.heap.size wr w') := by
          obtain ⟨cs, h1, h2, h3⟩ := HIv.out.2
          have hxl : (L.map partS).length = i := by rw [List.length_map]; exact HN.out
          have h := lay_strings_Join w2.heap.size 0 i (L.map partS) ⟨#[44]⟩ wr (fun j x hx => by
            have hj : j < (L.map partS).length := (List.getElem?_eq_some_iff.1 hx).1
            rw [Nat.zero_add, cell_of_row wr _ j cs _ (0, 0) h1, h3 j hj]
            simp [List.getD, hx]) (size_lt_of_row h1) (by omega) (by omega) (join_le L HS.out (by have := HN.out; omega))
          rw [hxl] at h
          exact h
        have HJl : Hid ((⟨(Lib.join ((L.map partS).map (·.data.toList)) [44]).toArray⟩ : ByteArray).size ≤ 100000000000) := hide (join_le2 L HS.out (by have := HN.out; omega))
        have HTx : Hid (textL L = ⟨#[123]⟩ ++ (⟨(Lib.join ((L.map partS).map (·.data.toList)) [44]).toArray⟩ : ByteArray) ++ ⟨#[125]⟩) := hide rfl
        obtain ⟨J, hJ⟩ : ∃ J, (⟨(Lib.join ((L.map partS).map (·.data.toList)) [44]).toArray⟩ : ByteArray) = J := ⟨_, rfl⟩
        rw [hJ] at HJ HJl HTx
        have j1 : 1 + J.size ≤ 9223372036854775807 := by have := HJl.out; omega
        have j2 : 1 + J.size + 1 ≤ 9223372036854775807 := by have := HJl.out; omega
        clear HIv hJ
        go_wp2_with (go_at_call 33; refine HJ.out.mono ?_; rintro e w3 ⟨rfl, hb⟩; have HB3 := hide (HB.out.trans (hb.mono HB.out.size)); clear hb)
        go_ret2
        exact ⟨by rw [HTx.out]; rfl, HB3.out⟩

end Go.Proofs.YtgcmdbpanfeaaabGreatDoor

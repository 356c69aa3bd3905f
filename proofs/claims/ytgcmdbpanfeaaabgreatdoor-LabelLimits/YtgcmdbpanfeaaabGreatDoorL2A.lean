/- Rows of labels as they lie: a value by its name, which of two stands ahead, whether two rows are alike. -/
import Derived.Test.YtgcmdbpanfeaaabGreatDoorL1B
import Derived.Test.YtgcmdbpanfeaaabGreatDoorL0S
namespace Go.Proofs.YtgcmdbpanfeaaabGreatDoor
open Go.RowKit
set_option linter.unusedVariables false
set_option linter.unusedSimpArgs false

abbrev Lab := ByteArray × ByteArray
def lab0 : Lab := (⟨#[]⟩, ⟨#[]⟩)
/-- The labels L lie where p is. -/
def LR (w : World) (p : Option Addr) (L : List Lab) : Prop :=
  0 < L.length → ∃ b o, p = some ⟨b, o, none⟩ ∧ ∀ i, i < L.length → w.cell? ⟨b, o + i * 2, none⟩ = some (.string (L.getD i lab0).1) ∧ w.cell? ⟨b, o + i * 2 + 1, none⟩ = some (.string (L.getD i lab0).2)

theorem LR.below {w w' : World} {p : Option Addr} {L : List Lab} (h : LR w p L) (hB : Below w.heap.size w w') : LR w' p L := fun h0 => by
  obtain ⟨b, o, hp, hc⟩ := h h0
  exact ⟨b, o, hp, fun i hi => ⟨by rw [hB.cell (p := ⟨b, o + i * 2, none⟩) (block_lt_of_cell (hc i hi).1)]; exact (hc i hi).1, by rw [hB.cell (p := ⟨b, o + i * 2 + 1, none⟩) (block_lt_of_cell (hc i hi).2)]; exact (hc i hi).2⟩⟩

theorem str_ne {x y : ByteArray} (h : ¬ x = y) : (x.toList == y.toList) = false := by
  rw [ByteArray.toList_eq, ByteArray.toList_eq, beq_eq_false_iff_ne]
  intro e
  exact h (ByteArray.ext (Array.toList_inj.1 e))

/-- The value of a name; nothing, if there is none. -/
def getL (L : List Lab) (n : ByteArray) : ByteArray :=
  match L with
  | [] => ⟨#[]⟩
  | x :: r => if x.1 = n then x.2 else getL r n

theorem getD_cons (L : List Lab) (i : Nat) (h : i < L.length) : L.drop i = L.getD i lab0 :: L.drop (i + 1) := by
  rw [List.drop_eq_getElem_cons h]; simp [List.getD, h]

set_option maxRecDepth 100000 in
theorem valueOf_any (p : Option Addr) (n c : Nat) (L : List Lab) (nm : ByteArray) (w : World) (h : LR w p L) (hn : L.length = n) (hl : n ≤ 1000000000) :
    Calls Tryz.prog 42 #[.slice p n c, .string nm] w fun e w' => e = .returned (.string (getL L nm)) ∧ Below w.heap.size w w' := by
  have HL := hide h
  have HN := hide hn
  obtain ⟨V, hV⟩ : ∃ V, getL L nm = V := ⟨_, rfl⟩
  have HV := hide hV
  rw [hV]
  clear h hn hV
  go_enter Tryz.func42, Tryz.ntmps42
  go_wp2_with fail
  go_loopw [9] (fun t9 wr => ∃ i : Nat, i ≤ n ∧ t9 = .int .i64 i ∧ Hid (Below w.heap.size w wr ∧ V = getL (L.drop i) nm)) (fun t9 _ => n - (intOf t9).toNat)
  case atStart => exact ⟨0, by omega, rfl, Below.refl _ _, by rw [List.drop_zero]; exact HV.out.symm⟩
  case round =>
    obtain ⟨i, hi, rfl, HI⟩ := hrel
    by_cases hlt : i < n
    · have hz : (i : Int) < (n : Int) := by omega
      have hil : i < L.length := by have := HN.out; omega
      obtain ⟨b, o, rfl, hc⟩ := HL.out (by omega)
      obtain ⟨c1, c2⟩ := hc i hil
      have e1 := HI.out.1.cell (p := ⟨b, o + i * 2, none⟩) (block_lt_of_cell c1)
      have e2 := HI.out.1.cell (p := ⟨b, o + i * 2 + 1, none⟩) (block_lt_of_cell c2)
      rw [c1] at e1
      rw [c2] at e2
      have HVV := hide HI.out.2
      have HB := hide HI.out.1
      obtain ⟨x, hx⟩ : ∃ x, (L.getD i lab0).1 = x := ⟨_, rfl⟩
      obtain ⟨y, hy⟩ : ∃ y, (L.getD i lab0).2 = y := ⟨_, rfl⟩
      have HD : Hid (V = if x = nm then y else getL (L.drop (i + 1)) nm) := by
        have := HI.out.2
        rw [getD_cons L i hil] at this
        rw [← hx, ← hy]; exact this
      rw [hx] at e1
      rw [hy] at e2
      have ha : Below w.heap.size w (wr.alloc (.cells #[.string x, .string y] 34)) := HI.out.1.alloc HI.out.1.size _
      have HA := hide ha
      clear c1 c2 hc HI hx hy ha HVV
      by_cases hq : x = nm
      · subst hq
        have hv : V = y := by have := HD.out; rw [if_pos rfl] at this; exact this
        subst hv
        clear HD
        go_wp2_with fail
        go_ret
        exact ⟨rfl, HA.out⟩
      · have hne := str_ne hq
        have HD2 : Hid (V = getL (L.drop (i + 1)) nm) := by have := HD.out; rw [if_neg hq] at this; exact this
        clear HD hq
        go_wp2_with fail
        go_roundw
        case rel => exact ⟨i + 1, by omega, by go_num, HA.out, HD2.out⟩
        case measure => simp [intOf]; omega
    · have hz : ¬ (i : Int) < (n : Int) := by omega
      have hv : V = ⟨#[]⟩ := by
        have := HI.out.2
        rw [List.drop_eq_nil_of_le (by have := HN.out; omega)] at this; exact this
      subst hv
      have HB := hide HI.out.1
      clear HI HV
      go_wp2_with fail
      go_ret
      exact ⟨rfl, HB.out⟩

/-- Which of two texts stands ahead. -/
def cmpS (a b : ByteArray) : Int := Lib.compareBytes a.data.toList b.data.toList
def cmpL (x y : Lab) : Int := if cmpS x.1 y.1 ≠ 0 then cmpS x.1 y.1 else cmpS x.2 y.2

set_option maxRecDepth 100000 in
theorem compare_any (x y : Lab) (w : World) : Calls Tryz.prog 24 #[.agg #[.string x.1, .string x.2], .agg #[.string y.1, .string y.2]] w fun e w' =>
    e = .returned (.int .i64 (cmpL x y)) ∧ w' = (w.alloc (.cells #[.string x.1, .string x.2] 34)).alloc (.cells #[.string y.1, .string y.2] 34) := by
  obtain ⟨a, b⟩ := x
  obtain ⟨c, d⟩ := y
  have HC1 := hide (fun w => lay_strings_Compare a c w)
  have HC2 := hide (fun w => lay_strings_Compare b d w)
  have HM : Hid (cmpL (a, b) (c, d) = if cmpS a c ≠ 0 then cmpS a c else cmpS b d) := hide rfl
  rw [HM.out]
  obtain ⟨r, hr⟩ : ∃ r, Lib.compareBytes a.data.toList c.data.toList = r := ⟨_, rfl⟩
  obtain ⟨q, hq⟩ : ∃ q, Lib.compareBytes b.data.toList d.data.toList = q := ⟨_, rfl⟩
  rw [hr] at HC1
  rw [hq] at HC2
  rw [show cmpS a c = r from hr, show cmpS b d = q from hq]
  dsimp only
  clear hr hq HM
  by_cases h0 : r = 0
  · subst h0
    go_enter Tryz.func24, Tryz.ntmps24
    go_wp2_with (first
      | (go_at_call 41; refine (HC1.out _).mono ?_; rintro e w2 ⟨rfl, rfl⟩)
      | (go_at_call 41; refine (HC2.out _).mono ?_; rintro e w2 ⟨rfl, rfl⟩))
    go_ret
    exact ⟨by first | rfl | simp, rfl⟩
  · go_enter Tryz.func24, Tryz.ntmps24
    go_wp2_with (first
      | (go_at_call 41; refine (HC1.out _).mono ?_; rintro e w2 ⟨rfl, rfl⟩)
      | (go_at_call 41; refine (HC2.out _).mono ?_; rintro e w2 ⟨rfl, rfl⟩))
    go_ret
    exact ⟨by first | rfl | simp [h0], rfl⟩

end Go.Proofs.YtgcmdbpanfeaaabGreatDoor

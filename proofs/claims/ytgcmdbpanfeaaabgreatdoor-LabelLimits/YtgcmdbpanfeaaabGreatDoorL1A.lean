/- Bytes of names, the front of a text, values: the program's questions about texts. -/
import Derived.Test.YtgcmdbpanfeaaabGreatDoorJ0B
import Derived.Test.YtgcmdbpanfeaaabGreatDoorL1M
import Derived.Laws.Strings3
import Derived.Laws.DeepStrings4
import Derived.Lib.Strings
import Derived.Lib.Walk
namespace Go.Proofs.YtgcmdbpanfeaaabGreatDoor
open Go.RowKit
set_option linter.unusedVariables false
set_option linter.unusedSimpArgs false

/-- May a name begin with that? -/
def mayB (x : Nat) : Bool := decide ((97 ≤ x ∧ x ≤ 122) ∨ (65 ≤ x ∧ x ≤ 90) ∨ x = 95)
def nameB (x : Nat) : Bool := mayB x || decide (48 ≤ x ∧ x ≤ 57)

theorem ret_bool {a b : Bool} (h : a = true ↔ b = true) : (Ending.returned (.bool a) : Ending) = .returned (.bool b) := by
  rw [Bool.eq_iff_iff.2 h]

set_option maxRecDepth 100000 in
theorem mayBegin_any (x : Nat) (w : World) : Calls Tryz.prog 56 #[.int .u8 (x : Int)] w fun e w' => e = .returned (.bool (mayB x)) ∧ w' = w := by
  go_enter Tryz.func56, Tryz.ntmps56
  go_wp2
  all_goals (go_ret; refine ⟨ret_bool ?_, rfl⟩; simp [mayB]; omega)

set_option maxRecDepth 100000 in
theorem isBare_any (x : Nat) (w : World) : Calls Tryz.prog 45 #[.int .u8 (x : Int)] w fun e w' => e = .returned (.bool (decide (bareN x))) ∧ w' = w := by
  go_enter Tryz.func45, Tryz.ntmps45
  by_cases h1 : 32 ≤ x
  · have e1 : (32 : Int) ≤ (x : Int) := by omega
    by_cases h2 : x = 127
    · subst h2
      go_wp2
      go_ret
      exact ⟨rfl, rfl⟩
    · have e2 : ((x : Int) != 127) = true := by simp; omega
      go_wp2_with (simp only [e2])
      go_ret
      exact ⟨by rw [decide_eq_true (show bareN x from ⟨h1, h2⟩)]; first | rfl | (rw [← e2]; rfl), rfl⟩
  · have e1 : ¬ (32 : Int) ≤ (x : Int) := by omega
    go_wp2
    go_ret
    exact ⟨by rw [decide_eq_false (show ¬ bareN x from fun h => h1 h.1)]; rfl, rfl⟩

theorem str_nonempty {s : ByteArray} (h : s.size ≠ 0) : s.toList.isEmpty = false := by
  rw [ByteArray.toList_eq, List.isEmpty_eq_false_iff]
  intro e
  have := congrArg List.length e
  rw [Array.length_toList] at this
  exact h (by simpa using this)

theorem str_empty {s : ByteArray} (h : s.size = 0) : s = ⟨#[]⟩ := ByteArray.ext (Array.eq_empty_of_size_eq_zero h)

theorem bytesN_getD (s : ByteArray) (i : Nat) (h : i < s.size) : (bytesN s).getD i 0 = (s[i]'h).toNat := by
  have : i < s.data.size := h
  have e : s.data[i]? = some (s[i]'h) := Array.getElem?_eq_getElem h
  simp [bytesN, List.getD, e]

theorem bytesN_lt (s : ByteArray) : ∀ x ∈ bytesN s, x < 256 := by
  intro x hx
  obtain ⟨y, _, rfl⟩ := List.mem_map.1 hx
  exact y.toNat_lt

theorem bytesN_extract (s : ByteArray) (a b : Nat) : bytesN (s.extract a b) = ((bytesN s).drop a).take (b - a) := by
  unfold bytesN
  rw [Lib.extract_data, List.map_take, List.map_drop]

theorem bytesN_from (s : ByteArray) (a : Nat) : bytesN (s.extract a s.size) = (bytesN s).drop a := by
  rw [bytesN_extract, List.take_of_length_le]
  rw [List.length_drop, bytesN_length]
  omega

/-- How many bytes at the front may stand in a name. -/
def nameN (l : List Nat) : Nat := (l.takeWhile nameB).length

theorem nameN_eq {l : List Nat} {i : Nat} (hi : i ≤ l.length) (h : ∀ j, j < i → nameB (l.getD j 0) = true) (he : i = l.length ∨ nameB (l.getD i 0) = false) : nameN l = i := by
  induction l generalizing i with
  | nil => simp at hi; subst hi; rfl
  | cons a r ih =>
    cases i with
    | zero =>
      have : nameB a = false := by
        rcases he with he | he
        · simp at he
        · simpa using he
      simp [nameN, List.takeWhile, this]
    | succ i =>
      have h0 := h 0 (by omega)
      simp at h0
      have := ih (i := i) (by simpa using hi) (fun j hj => by simpa using h (j + 1) (by omega)) (by simpa using he)
      simp only [nameN] at this ⊢
      simp [List.takeWhile, h0, this]

set_option maxRecDepth 100000 in
theorem nameSize_any (s : ByteArray) (w : World) (hs : s.size ≤ 1000000000000) : Calls Tryz.prog 57 #[.string s] w fun e w' => e = .returned (.int .i64 (nameN (bytesN s) : Nat)) ∧ w' = w := by
  obtain ⟨L, hL⟩ : ∃ L, s.size = L := ⟨_, rfl⟩
  go_enter Tryz.func57, Tryz.ntmps57
  go_wp2_with fail
  go_loop [3] (fun t => ∃ i : Nat, i ≤ L ∧ t = .int .i64 i ∧ Hid (∀ j, j < i → nameB ((bytesN s).getD j 0) = true)) (fun t => L - (intOf t).toNat)
  case atStart => exact ⟨0, by omega, rfl, hide fun j hj => by omega⟩
  case round =>
    obtain ⟨i, hi, rfl, HJ⟩ := hrel
    by_cases hlt : i < L
    · have hlt' : (i : Int) < (L : Int) := by omega
      have hin : i < s.size := by omega
      obtain ⟨x, hx⟩ : ∃ x, (s[i]'hin).toNat = x := ⟨_, rfl⟩
      have HX : Hid (nameB ((bytesN s).getD i 0) = nameB x) := by rw [bytesN_getD s i hin, hx]; exact rfl
      go_wp2_with (go_at_call 56; refine (mayBegin_any x _).mono ?_; rintro e w' ⟨rfl, rfl⟩)
      all_goals first
        | (refine ⟨⟨i + 1, by omega, by go_num, hide fun j hj => ?_⟩, by simp [intOf]; omega⟩
           rcases Nat.lt_or_ge j i with h | h
           · exact HJ.out j h
           · have : j = i := by omega
             subst this; rw [HX.out]; simp [nameB, *]; done)
        | (refine ⟨⟨i + 1, by omega, by go_num, hide fun j hj => ?_⟩, by simp [intOf]; omega⟩
           rcases Nat.lt_or_ge j i with h | h
           · exact HJ.out j h
           · have : j = i := by omega
             subst this; rw [HX.out]; simp [nameB, *]; omega)
        | (go_ret
           refine ⟨?_, rfl⟩
           rw [nameN_eq (i := i) (by simp; omega) HJ.out (.inr (by rw [HX.out]; simp [nameB, *]; omega))]
           rfl)
    · have hlt' : ¬ (i : Int) < (L : Int) := by omega
      go_wp2_with fail
      go_ret
      refine ⟨?_, rfl⟩
      rw [nameN_eq (i := i) (by simp; omega) HJ.out (.inl (by simp; omega))]
      rfl

/-- May a text be a label's name? -/
def nameOk (l : List Nat) : Bool := decide (l.length ≤ 64) && (!l.isEmpty && (mayB (l.getD 0 0) && decide (nameN l = l.length)))

set_option maxRecDepth 100000 in
theorem isName_any (s : ByteArray) (w : World) (hs : s.size ≤ 1000000000000) : Calls Tryz.prog 36 #[.string s] w fun e w' => e = .returned (.bool (nameOk (bytesN s))) ∧ w' = w := by
  obtain ⟨L, hL⟩ : ∃ L, s.size = L := ⟨_, rfl⟩
  obtain ⟨N, hN⟩ : ∃ N, nameN (bytesN s) = N := ⟨_, rfl⟩
  have HS := hide hs
  clear hs
  by_cases h0 : s.size = 0
  · have e : s = ⟨#[]⟩ := ByteArray.ext (Array.eq_empty_of_size_eq_zero h0)
    subst e
    go_enter Tryz.func36, Tryz.ntmps36
    go_wp2_with fail
    go_ret
    exact ⟨rfl, rfl⟩
  · have hne := str_nonempty h0
    have hne' : ¬ s.toList = [] := by simpa using hne
    obtain ⟨x, hx⟩ : ∃ x, (s[0]'(by omega)).toNat = x := ⟨_, rfl⟩
    have h00 : (bytesN s).getD 0 0 = x := by rw [bytesN_getD s 0 (by omega), hx]
    have hl : (bytesN s).length = L := by simp [hL]
    have he : (bytesN s).isEmpty = false := by
      rw [List.isEmpty_eq_false_iff]
      intro h; rw [h] at hl; simp at hl; omega
    have HE : Hid (nameOk (bytesN s) = (decide (L ≤ 64) && (mayB x && decide (N = L)))) := by
      unfold nameOk
      rw [hl, h00, he, hN]
      simp [hide]
    have h0z : ¬ (L : Int) = 0 := by omega
    have h0y : (0 : Int) < (L : Int) := by omega
    rw [HE.out]
    clear hl he h00
    by_cases h64 : L ≤ 64
    · have h64z : ¬ (64 : Int) < (L : Int) := by omega
      by_cases hm : mayB x = true
      · go_enter Tryz.func36, Tryz.ntmps36
        go_wp2_with (first
          | (go_at_call 56; refine (mayBegin_any x _).mono ?_; rintro e w' ⟨rfl, rfl⟩; simp only [hm])
          | (go_at_call 57; refine (nameSize_any s _ HS.out).mono ?_; rintro e w' ⟨rfl, rfl⟩; rw [hN]))
        go_ret
        refine ⟨ret_bool ?_, rfl⟩
        simp [h64, hm]
        omega
      · have hm' : mayB x = false := by simpa using hm
        go_enter Tryz.func36, Tryz.ntmps36
        go_wp2_with (first
          | (go_at_call 56; refine (mayBegin_any x _).mono ?_; rintro e w' ⟨rfl, rfl⟩; simp only [hm']))
        go_ret
        exact ⟨by simp [hm'], rfl⟩
    · have h64z : (64 : Int) < (L : Int) := by omega
      go_enter Tryz.func36, Tryz.ntmps36
      go_wp2_with fail
      go_ret
      exact ⟨by simp [h64], rfl⟩

end Go.Proofs.YtgcmdbpanfeaaabGreatDoor

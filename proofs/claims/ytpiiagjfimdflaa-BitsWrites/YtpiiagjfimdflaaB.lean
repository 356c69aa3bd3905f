/- The contracts of the document's own Writer: Bit, Bits, Unary, Var, Zig, where nothing is refused. -/
import Derived.Test.YtpiiagjfimdflaaC
namespace Go.Proofs.Ytpiiagjfimdflaa
open Go.RowKit
open M
set_option linter.unusedVariables false

/-- Behind a call on the document's Writer. -/
def RwPost (w : World) (b off : Nat) (r : Option Nat) (l : List Bool) (w' : World) : Prop := ∃ r', Rw w' b off r' l 0 ∧ RowStep w r r' ∧ OnlyR b off (off + 2) r w w'

theorem RwPost.refl {w : World} {b off : Nat} {r : Option Nat} {l : List Bool} (h : Rw w b off r l 0) : RwPost w b off r l w := ⟨r, h, .inl rfl, OnlyR.refl _ _ _ _ _⟩

theorem RwPost.then {u v w : World} {b off : Nat} {r r' : Option Nat} {l : List Bool} (hs : RowStep u r r') (ho : OnlyR b off (off + 2) r u v) (h : RwPost v b off r' l w) : RwPost u b off r l w := by
  obtain ⟨r'', h1, h2, h3⟩ := h
  exact ⟨r'', h1, hs.trans ho.size h2, ho.trans hs h3⟩

theorem refbit_any (b off : Nat) (r : Option Nat) (l : List Bool) (x : Bool) (w : World) (h : Rw w b off r l 0) (hlen : l.length < 100000000) :
    Calls Try.prog 41 #[.pointer (some ⟨b, off, none⟩), .bool x] w fun e w' => e = .returned (.tuple #[]) ∧ RwPost w b off r (l ++ [x]) w' := by
  cases x with
  | true =>
    go_enter Try.func41, Try.ntmps41
    go_wp2_with fail
    refine (refput_any b off r l true 1 w rfl h hlen).mono ?_
    rintro e w1 ⟨rfl, h1⟩
    go_wp2
    exact bodyPost_ret (v := .tuple #[]) (results_none rfl _ _ _) rfl ⟨rfl, h1⟩
  | false =>
    go_enter Try.func41, Try.ntmps41
    go_wp2_with fail
    refine (refput_any b off r l false 0 w rfl h hlen).mono ?_
    rintro e w1 ⟨rfl, h1⟩
    go_wp2
    go_end0
    exact ⟨rfl, h1⟩

theorem bitV_form (x j : Nat) : bitV (((x : Int) / 2 ^ j).tmod 2 == 1) = .int .u8 (((x : Int) / 2 ^ j).tmod 2 % 256) := by
  have h0 : (x : Int) / 2 ^ j = ((x / 2 ^ j : Nat) : Int) := by simp
  rw [h0, Int.tmod_eq_emod_of_nonneg (Int.natCast_nonneg _)]
  unfold bitV
  have h2 : ((x / 2 ^ j : Nat) : Int) % 2 = 0 ∨ ((x / 2 ^ j : Nat) : Int) % 2 = 1 := by omega
  rcases h2 with h2 | h2 <;> rw [h2] <;> rfl

theorem bit_next2 (L : List Bool) (Y W j : Nat) (h : j + 1 ≤ W) : L ++ bitsOf (Y / 2 ^ (j + 1)) (W - (j + 1)) ++ [(((Y : Int) / 2 ^ j).tmod 2 == 1)] = L ++ bitsOf (Y / 2 ^ j) (W - j) := by
  rw [List.append_assoc]
  congr 1
  have h1 := bitsOf_split (Y / 2 ^ j) (W - (j + 1)) 1
  rw [show W - (j + 1) + 1 = W - j from by omega, Nat.div_div_eq_div_mul, ← Nat.pow_add] at h1
  rw [h1]
  congr 1
  have e : ((Y : Int) / 2 ^ j).tmod 2 = ((Y / 2 ^ j % 2 : Nat) : Int) := by
    have h0 : (Y : Int) / 2 ^ j = ((Y / 2 ^ j : Nat) : Int) := by simp
    rw [h0, Int.tmod_eq_emod_of_nonneg (Int.natCast_nonneg _)]; omega
  rw [e]
  simp only [bitsOf, Nat.pow_zero, Nat.div_one]
  generalize Y / 2 ^ j % 2 = y
  by_cases hy : y = 1
  · subst hy; rfl
  · have : ¬ (y : Int) = 1 := by omega
    rw [beq_eq_false_iff_ne.2 hy, beq_eq_false_iff_ne.2 this]

set_option maxRecDepth 100000 in
set_option maxHeartbeats 1000000 in
theorem refbits_any (b off : Nat) (r : Option Nat) (l : List Bool) (x n : Nat) (w : World) (h : Rw w b off r l 0) (hlen : l.length + n < 100000000) (hn : n ≤ 64) (hx : x < 18446744073709551616) (hfit : x < 2 ^ n) :
    Calls Try.prog 42 #[.pointer (some ⟨b, off, none⟩), .int .u64 x, .int .i64 n] w fun e w' => e = .returned (.tuple #[]) ∧ RwPost w b off r (l ++ bitsOf x n) w' := by
  have Hh : Hid (Rw w b off r l 0) := h
  clear h
  rcases (show n = 0 ∨ (0 < n ∧ n < 64) ∨ n = 64 from by omega) with h0 | ⟨h0, h1⟩ | h0
  · subst h0
    have hx0 : x = 0 := by simp at hfit; exact hfit
    subst hx0
    go_enter Try.func42, Try.ntmps42
    go_wp2_with fail
    go_loopw [6] (fun t6 wr => ∃ (j : Nat) (t : Int), t6 = .int .i64 t ∧ -1 ≤ t ∧ t ≤ 63 ∧ Hid (t = (j : Int) - 1 ∧ j ≤ 0) ∧ Hid (RwPost w b off r (l ++ bitsOf (0 / 2 ^ j) (0 - j)) wr)) (fun t6 _ => (intOf t6 + 1).toNat)
    case atStart => exact ⟨0, -1, rfl, by omega, by omega, ⟨by omega, Nat.le_refl _⟩, by rw [Nat.sub_self]; exact (show RwPost w b off r (l ++ []) w from by rw [List.append_nil]; exact RwPost.refl Hh.out)⟩
    case round =>
      obtain ⟨j, t, rfl, ht1, ht2, Hj, HP⟩ := hrel
      by_cases htn : t < 0
      · have hj0 : j = 0 := by have := Hj.out; omega
        subst hj0
        go_wp2_with fail
        go_end0
        exact ⟨rfl, by simpa using HP.out⟩
      · have := Hj.out; omega
  · have ht : ((x : Int) / 2 / 2 ^ (n - 1) != 0) = false := by
      have e1 : (x : Int) / 2 / 2 ^ (n - 1) = ((x / 2 / 2 ^ (n - 1) : Nat) : Int) := by simp
      have e2 : x / 2 / 2 ^ (n - 1) = 0 := by
        rw [Nat.div_div_eq_div_mul, show 2 * 2 ^ (n - 1) = 2 ^ n from by rw [← Nat.pow_succ', show (n - 1).succ = n from by omega]]
        exact Nat.div_eq_of_lt hfit
      rw [e1, e2]; rfl
    have hn0 : ((n : Int) == 0) = false := by rw [beq_eq_false_iff_ne]; omega
    go_enter Try.func42, Try.ntmps42
    go_wp2_with fail
    go_loopw [6] (fun t6 wr => ∃ (j : Nat) (t : Int), t6 = .int .i64 t ∧ -1 ≤ t ∧ t ≤ 63 ∧ Hid (t = (j : Int) - 1 ∧ j ≤ n) ∧ Hid (RwPost w b off r (l ++ bitsOf (x / 2 ^ j) (n - j)) wr)) (fun t6 _ => (intOf t6 + 1).toNat)
    case atStart => exact ⟨n, (n : Int) - 1, rfl, by omega, by omega, ⟨by omega, Nat.le_refl _⟩, by rw [Nat.sub_self]; exact (show RwPost w b off r (l ++ []) w from by rw [List.append_nil]; exact RwPost.refl Hh.out)⟩
    case round =>
      obtain ⟨j, t, rfl, ht1, ht2, Hj, HP⟩ := hrel
      by_cases htn : t < 0
      · have hj0 : j = 0 := by have := Hj.out; omega
        subst hj0
        go_wp2_with fail
        go_end0
        exact ⟨rfl, by simpa using HP.out⟩
      · obtain ⟨j', rfl⟩ : ∃ j' : Nat, t = (j' : Int) := ⟨t.toNat, by omega⟩
        have hj0 : j = j' + 1 := by have := Hj.out; omega
        subst hj0
        have hjn := Hj.out.2
        obtain ⟨r1, R1, S1, O1⟩ := HP.out
        go_wp2_with fail
        refine (refput_any b off r1 _ _ _ wr (bitV_form x j') R1 (by simp; omega)).mono ?_
        rintro e w1 ⟨rfl, P1⟩
        rw [bit_next2 l x n j' hjn] at P1
        have P2 : Hid (RwPost w b off r (l ++ bitsOf (x / 2 ^ j') (n - j')) w1) := RwPost.then S1 O1 P1
        clear P1 R1 S1 O1 HP
        go_wp2_with fail
        refine ⟨⟨j', (j' : Int) - 1, by go_num, by omega, by omega, ⟨rfl, by omega⟩, P2⟩, by simp [intOf]⟩
  · subst h0
    go_enter Try.func42, Try.ntmps42
    go_wp2_with fail
    go_loopw [6] (fun t6 wr => ∃ (j : Nat) (t : Int), t6 = .int .i64 t ∧ -1 ≤ t ∧ t ≤ 63 ∧ Hid (t = (j : Int) - 1 ∧ j ≤ 64) ∧ Hid (RwPost w b off r (l ++ bitsOf (x / 2 ^ j) (64 - j)) wr)) (fun t6 _ => (intOf t6 + 1).toNat)
    case atStart => exact ⟨64, 63, rfl, by omega, by omega, ⟨by omega, Nat.le_refl _⟩, by rw [Nat.sub_self]; exact (show RwPost w b off r (l ++ []) w from by rw [List.append_nil]; exact RwPost.refl Hh.out)⟩
    case round =>
      obtain ⟨j, t, rfl, ht1, ht2, Hj, HP⟩ := hrel
      by_cases htn : t < 0
      · have hj0 : j = 0 := by have := Hj.out; omega
        subst hj0
        go_wp2_with fail
        go_end0
        exact ⟨rfl, by simpa using HP.out⟩
      · obtain ⟨j', rfl⟩ : ∃ j' : Nat, t = (j' : Int) := ⟨t.toNat, by omega⟩
        have hj0 : j = j' + 1 := by have := Hj.out; omega
        subst hj0
        have hjn := Hj.out.2
        obtain ⟨r1, R1, S1, O1⟩ := HP.out
        go_wp2_with fail
        refine (refput_any b off r1 _ _ _ wr (bitV_form x j') R1 (by simp; omega)).mono ?_
        rintro e w1 ⟨rfl, P1⟩
        rw [bit_next2 l x 64 j' hjn] at P1
        have P2 : Hid (RwPost w b off r (l ++ bitsOf (x / 2 ^ j') (64 - j')) w1) := RwPost.then S1 O1 P1
        clear P1 R1 S1 O1 HP
        go_wp2_with fail
        go_roundw
        case rel => exact ⟨_, _, _, _, _, _, _, _, _, _, _, _, _, ⟨j', (j' : Int) - 1, rfl, by omega, by omega, ⟨rfl, by omega⟩, P2⟩, rfl⟩
        case measure => simp [intOf]

set_option maxRecDepth 100000 in
theorem refunary_any (b off : Nat) (r : Option Nat) (l : List Bool) (n : Nat) (w : World) (h : Rw w b off r l 0) (hlen : l.length + n + 1 < 100000000) (hn : n ≤ 64) :
    Calls Try.prog 43 #[.pointer (some ⟨b, off, none⟩), .int .i64 n] w fun e w' => e = .returned (.tuple #[]) ∧ RwPost w b off r (l ++ (List.replicate n true ++ [false])) w' := by
  have Hh : Hid (Rw w b off r l 0) := h
  clear h
  go_enter Try.func43, Try.ntmps43
  go_wp2_with fail
  go_loopw [4] (fun t4 wr => ∃ j : Nat, t4 = .int .i64 j ∧ j ≤ n ∧ Hid (RwPost w b off r (l ++ List.replicate j true) wr)) (fun t4 _ => n - (intOf t4).toNat)
  case atStart => exact ⟨0, rfl, by omega, (show RwPost w b off r (l ++ []) w from by rw [List.append_nil]; exact RwPost.refl Hh.out)⟩
  case round =>
    obtain ⟨j, rfl, hj, HP⟩ := hrel
    obtain ⟨r1, R1, S1, O1⟩ := HP.out
    by_cases hlt : j < n
    · go_wp2_with fail
      refine (refput_any b off r1 _ true 1 wr rfl R1 (by simp; omega)).mono ?_
      rintro e w1 ⟨rfl, P1⟩
      rw [List.append_assoc, show List.replicate j true ++ [true] = List.replicate (j + 1) true from by rw [List.replicate_succ']] at P1
      have P2 : Hid (RwPost w b off r (l ++ List.replicate (j + 1) true) w1) := RwPost.then S1 O1 P1
      clear P1 R1 S1 O1 HP
      go_wp2_with fail
      refine ⟨⟨j + 1, by go_num, by omega, P2⟩, by simp [intOf]; omega⟩
    · have hjn : j = n := by omega
      subst hjn
      go_wp2_with fail
      refine (refput_any b off r1 _ false 0 wr rfl R1 (by simp; omega)).mono ?_
      rintro e w1 ⟨rfl, P1⟩
      rw [List.append_assoc] at P1
      have P2 : Hid (RwPost w b off r (l ++ (List.replicate j true ++ [false])) w1) := RwPost.then S1 O1 P1
      clear P1 R1 S1 O1 HP
      go_wp2_with fail
      go_end0
      exact ⟨rfl, P2.out⟩

set_option maxRecDepth 100000 in
set_option maxHeartbeats 400000 in
theorem refvar_any (b off : Nat) (r : Option Nat) (l : List Bool) (x : Nat) (w : World) (h : Rw w b off r l 0) (hlen : l.length + 80 < 100000000) (hx : x < 18446744073709551616) :
    Calls Try.prog 44 #[.pointer (some ⟨b, off, none⟩), .int .u64 x] w fun e w' => e = .returned (.tuple #[]) ∧ RwPost w b off r (l ++ varB x) w' := by
  have Hh : Hid (Rw w b off r l 0) := h
  clear h
  go_enter Try.func44, Try.ntmps44
  go_wp2
  go_loopw [1] (fun i wr => ∃ (k y : Nat) (pre : List Bool), k ≤ 9 ∧ Hid (pre.length = 8 * (9 - k)) ∧ y < 128 ^ (k + 1) ∧ y ≤ x ∧ i = .int .u64 y ∧ Hid (pre ++ groups k y = varB x) ∧ Hid (RwPost w b off r (l ++ pre) wr)) (fun i _ => (intOf i).toNat)
  case atStart => exact ⟨9, x, [], by omega, rfl, by omega, by omega, rfl, rfl, (show RwPost w b off r (l ++ []) w from by rw [List.append_nil]; exact RwPost.refl Hh.out)⟩
  case round =>
    obtain ⟨k, y, pre, hk, Hpre, hy, hyx, rfl, hE, HP⟩ := hrel
    obtain ⟨r1, R1, S1, O1⟩ := HP.out
    by_cases hlt : 128 ≤ y
    · obtain ⟨k, rfl⟩ : ∃ k', k = k' + 1 := by
        cases k with
        | zero => simp at hy; omega
        | succ k => exact ⟨k, rfl⟩
      obtain ⟨z, hz⟩ : ∃ z : Nat, (128 : Int) + (y : Int) % 128 = (z : Int) := ⟨128 + y % 128, by omega⟩
      have hz2 : Hid (z = 128 + y % 128) := by show _ = _; omega
      have hzb : z < 256 := by omega
      go_wp2_with fail
      refine (refbits_any b off r1 _ z 8 wr R1 (by simp [Hpre.out]; omega) (by omega) (by omega) (by omega)).mono ?_
      rintro e w1 ⟨rfl, P1⟩
      rw [hz2.out, List.append_assoc] at P1
      have P2 : Hid (RwPost w b off r (l ++ (pre ++ bitsOf (128 + y % 128) 8)) w1) := RwPost.then S1 O1 P1
      clear P1 R1 S1 O1 HP
      go_wp2_with fail
      go_roundw
      case rel =>
        refine ⟨k, y / 128, pre ++ bitsOf (128 + y % 128) 8, by omega, by show _ = _; simp [Hpre.out]; omega, ?_, by omega, by go_num, ?_, P2⟩
        · rw [Nat.pow_succ] at hy; omega
        · show _ = _; rw [← hE.out, groups_big k y (by omega)]; simp
      case measure => simp [intOf]; omega
    · go_wp2_with fail
      refine (refbits_any b off r1 _ y 8 wr R1 (by simp [Hpre.out]; omega) (by omega) (by omega) (by omega)).mono ?_
      rintro e w1 ⟨rfl, P1⟩
      have P2 : Hid (RwPost w b off r (l ++ varB x) w1) := by
        rw [← hE.out, groups_small k y (by omega), ← List.append_assoc]; exact RwPost.then S1 O1 P1
      clear P1 R1 S1 O1 HP
      go_wp2
      go_end0
      exact ⟨rfl, P2.out⟩

theorem zigzag_any (x : Int) (w : World) (h1 : -9223372036854775808 ≤ x) (h2 : x ≤ 9223372036854775807) :
    Calls Try.prog 68 #[.int .i64 x] w fun e w' => e = .returned (.int .u64 (zig x : Int)) ∧ w' = w := by
  by_cases hx : x < 0
  · go_enter Try.func68, Try.ntmps68
    go_wp2_with fail
    go_ret
    exact ⟨by show Ending.returned (.int .u64 (2 * (-1 - x) + 1)) = _; rw [show (2 * (-1 - x) + 1) = (zig x : Int) from by unfold zig; rw [if_pos hx]; omega], rfl⟩
  · go_enter Try.func68, Try.ntmps68
    go_wp2_with fail
    go_ret
    exact ⟨by show Ending.returned (.int .u64 (2 * x)) = _; rw [show 2 * x = (zig x : Int) from by unfold zig; rw [if_neg (by omega)]; omega], rfl⟩

theorem refzig_any (b off : Nat) (r : Option Nat) (l : List Bool) (x : Int) (w : World) (h : Rw w b off r l 0) (hlen : l.length + 80 < 100000000) (h1 : -9223372036854775808 ≤ x) (h2 : x ≤ 9223372036854775807) :
    Calls Try.prog 45 #[.pointer (some ⟨b, off, none⟩), .int .i64 x] w fun e w' => e = .returned (.tuple #[]) ∧ RwPost w b off r (l ++ varB (zig x)) w' := by
  go_enter Try.func45, Try.ntmps45
  go_wp2_with fail
  refine (zigzag_any x w h1 h2).mono ?_
  rintro e w1 ⟨rfl, rfl⟩
  go_wp2_with fail
  refine (refvar_any b off r l (zig x) _ h hlen (zig_lt x h1 h2)).mono ?_
  rintro e w1 ⟨rfl, h3⟩
  go_wp2
  go_end0
  exact ⟨rfl, h3⟩

end Go.Proofs.Ytpiiagjfimdflaa

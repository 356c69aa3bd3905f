/- The document's times: take. -/
import Derived.Test.YtangjkhflgkkdaaGreatB1Ra
import Derived.Test.YtangjkhflgkkdaaGreatT2B
/- The document's own Reader: the contracts of Bits and Bit. -/
namespace Go.Proofs.YtangjkhflgkkdaaGreat
open Go.RowKit
open M
set_option linter.unusedVariables false

set_option maxHeartbeats 1000000 in
theorem vbits_ok (b hi : Nat) (l : List Bool) (n : Nat) (w : World) (hR : Rr w b hi l 0) (hn : n ≤ 64) (hle : n ≤ l.length) :
    Calls Tryz.prog 43 #[.pointer (some ⟨b, 0, none⟩), .int .i64 n] w fun e w' => e = .returned (.int .u64 (num (l.take n) : Int)) ∧ Rr w' b hi (l.drop n) 0 ∧ Only b 0 2 w w' := by
  obtain ⟨_, h1, p, cap, rfl, hcap, hcells⟩ := hR.row
  have h2 := hR.err
  have hf0 := hR.fz 0 (by omega)
  have HI : Hid (IsBits w (.slice p l.length cap) b hi l) := ⟨p, cap, rfl, hcap, hcells⟩
  have hlen := hR.len
  clear hcells
  have hnl : ¬ (l.length : Int) < (n : Int) := by omega
  have hnc : n ≤ cap := by omega
  go_enter Tryz.func43, Tryz.ntmps43
  go_wp2_with fail
  refine (number_any _ b hi (l.take n) w (HI.out.front n hle) (by simp; omega)).mono ?_
  rintro e w1 ⟨rfl, rfl⟩
  go_wp2_with fail
  · go_ret
    exact ⟨rfl, hR.setRow (HI.out.none n hle (by assumption)) (by simp), (Only.refl _ _ _ w1).setCell _ (by omega) (by omega) _⟩
  · go_ret
    exact ⟨rfl, hR.setRow (HI.out.rest n hle (by assumption)) (by simp), (Only.refl _ _ _ w1).setCell _ (by omega) (by omega) _⟩

set_option maxHeartbeats 1000000 in
theorem vbits_short (b hi : Nat) (l : List Bool) (n : Nat) (w : World) (hR : Rr w b hi l 0) (hn : n ≤ 64) (hle : l.length < n) :
    Calls Tryz.prog 43 #[.pointer (some ⟨b, 0, none⟩), .int .i64 n] w fun e w' => e = .returned (.int .u64 0) ∧ Rr w' b hi l 12 ∧ Only b 0 2 w w' := by
  obtain ⟨_, h1, p, cap, rfl, hcap, hcells⟩ := hR.row
  have h2 := hR.err
  have hf0 := hR.fz 1 (by omega)
  have hlen := hR.len
  clear hcells
  have hnl : (l.length : Int) < (n : Int) := by omega
  go_enter Tryz.func43, Tryz.ntmps43
  go_wp2_with fail
  refine (vrefuse_zero b 12 w h2 hf0).mono ?_
  rintro e w1 ⟨rfl, hw1⟩
  have R1 : Rr w1 b hi l 12 := by rw [hw1]; exact hR.setErr 12
  have O1 : Only b 0 2 w w1 := by rw [hw1]; exact (Only.refl _ _ _ w).setCell _ (by omega) (by omega) _
  have h3 := R1.err
  clear hw1
  go_wp2_with fail
  go_ret
  exact ⟨rfl, R1, O1⟩

set_option maxHeartbeats 1000000 in
theorem vbits_wide (b hi : Nat) (l : List Bool) (n : Int) (w : World) (hR : Rr w b hi l 0) (hn : n < 0 ∨ 64 < n) :
    Calls Tryz.prog 43 #[.pointer (some ⟨b, 0, none⟩), .int .i64 n] w fun e w' => e = .returned (.int .u64 0) ∧ Rr w' b hi l 10 ∧ Only b 0 2 w w' := by
  have h2 := hR.err
  have hf0 := hR.fz 1 (by omega)
  rcases hn with hn | hn
  · go_enter Tryz.func43, Tryz.ntmps43
    go_wp2_with fail
    refine (vrefuse_zero b 10 w h2 hf0).mono ?_
    rintro e w1 ⟨rfl, hw1⟩
    have R1 : Rr w1 b hi l 10 := by rw [hw1]; exact hR.setErr 10
    have O1 : Only b 0 2 w w1 := by rw [hw1]; exact (Only.refl _ _ _ w).setCell _ (by omega) (by omega) _
    have h3 := R1.err
    clear hw1
    go_wp2_with fail
    go_ret
    exact ⟨rfl, R1, O1⟩
  · have hn0 : ¬ n < 0 := by omega
    go_enter Tryz.func43, Tryz.ntmps43
    go_wp2_with fail
    refine (vrefuse_zero b 10 w h2 hf0).mono ?_
    rintro e w1 ⟨rfl, hw1⟩
    have R1 : Rr w1 b hi l 10 := by rw [hw1]; exact hR.setErr 10
    have O1 : Only b 0 2 w w1 := by rw [hw1]; exact (Only.refl _ _ _ w).setCell _ (by omega) (by omega) _
    have h3 := R1.err
    clear hw1
    go_wp2_with fail
    go_ret
    exact ⟨rfl, R1, O1⟩

set_option maxHeartbeats 1000000 in
theorem vbits_bad (b hi : Nat) (l : List Bool) (n e0 : Int) (w : World) (hR : Rr w b hi l e0) (he : (e0 == 0) = false) :
    Calls Tryz.prog 43 #[.pointer (some ⟨b, 0, none⟩), .int .i64 n] w fun e w' => e = .returned (.int .u64 0) ∧ Rr w' b hi l e0 ∧ Only b 0 2 w w' := by
  have h2 := hR.err
  have hne : (e0 != 0) = true := by simp [bne, he]
  by_cases hn : n < 0
  · go_enter Tryz.func43, Tryz.ntmps43
    go_wp2_with fail
    refine (vrefuse_not b 10 e0 w h2 he).mono ?_
    rintro e w1 ⟨rfl, rfl⟩
    go_wp2_with fail
    go_ret
    exact ⟨rfl, hR, Only.refl _ _ _ _⟩
  · by_cases hn2 : 64 < n
    · go_enter Tryz.func43, Tryz.ntmps43
      go_wp2_with fail
      refine (vrefuse_not b 10 e0 w h2 he).mono ?_
      rintro e w1 ⟨rfl, rfl⟩
      go_wp2_with fail
      go_ret
      exact ⟨rfl, hR, Only.refl _ _ _ _⟩
    · go_enter Tryz.func43, Tryz.ntmps43
      go_wp2_with fail
      go_ret
      exact ⟨rfl, hR, Only.refl _ _ _ _⟩


/-- The program's Bits of a width that is none: refused. -/
theorem rbits_wide (b off : Nat) (s : ByteArray) (a : Nat) (n : Int) (w : World) (h : Rd w b off s a 0) (hn : n < 0 ∨ 64 < n) :
    Calls Tryz.prog 84 #[.pointer (some ⟨b, off, none⟩), .int .i64 n] w fun e w' => e = .returned (.int .u64 0) ∧ Rd w' b off s a 10 ∧ Only b off (off + 3) w w' := by
  have h1 := h.at_
  have h2 := h.err
  have h3 := h.fz 2 (by omega)
  rcases hn with hn | hn
  · go_enter Tryz.func84, Tryz.ntmps84
    go_wp2_with fail
    refine (rrefuse_zero b off 10 w h2 h3).mono ?_
    rintro e w1 ⟨rfl, hw1⟩
    have R1 : Rd w1 b off s a 10 := by rw [hw1]; exact h.setErr 10
    have O1 : Only b off (off + 3) w w1 := by rw [hw1]; exact (Only.refl _ _ _ w).setCell _ (by omega) (by omega) _
    have h4 := R1.err
    clear hw1
    go_wp2_with fail
    go_ret
    exact ⟨rfl, R1, O1⟩
  · have hn0 : ¬ n < 0 := by omega
    go_enter Tryz.func84, Tryz.ntmps84
    go_wp2_with fail
    refine (rrefuse_zero b off 10 w h2 h3).mono ?_
    rintro e w1 ⟨rfl, hw1⟩
    have R1 : Rd w1 b off s a 10 := by rw [hw1]; exact h.setErr 10
    have O1 : Only b off (off + 3) w w1 := by rw [hw1]; exact (Only.refl _ _ _ w).setCell _ (by omega) (by omega) _
    have h4 := R1.err
    clear hw1
    go_wp2_with fail
    go_ret
    exact ⟨rfl, R1, O1⟩

theorem rbits_bad_wide (b off : Nat) (s : ByteArray) (a : Nat) (n e0 : Int) (w : World) (h : Rd w b off s a e0) (he : (e0 == 0) = false) (hn : n < 0 ∨ 64 < n) :
    Calls Tryz.prog 84 #[.pointer (some ⟨b, off, none⟩), .int .i64 n] w fun e w' => e = .returned (.int .u64 0) ∧ Rd w' b off s a e0 ∧ Only b off (off + 3) w w' := by
  have h1 := h.at_
  have h2 := h.err
  have hne : (e0 != 0) = true := by simp [bne, he]
  rcases hn with hn | hn
  · go_enter Tryz.func84, Tryz.ntmps84
    go_wp2_with fail
    refine (rrefuse_not b off 10 e0 w h2 he).mono ?_
    rintro e w1 ⟨rfl, rfl⟩
    go_wp2_with fail
    go_ret
    exact ⟨rfl, h, Only.refl _ _ _ _⟩
  · have hn0 : ¬ n < 0 := by omega
    go_enter Tryz.func84, Tryz.ntmps84
    go_wp2_with fail
    refine (rrefuse_not b off 10 e0 w h2 he).mono ?_
    rintro e w1 ⟨rfl, rfl⟩
    go_wp2_with fail
    go_ret
    exact ⟨rfl, h, Only.refl _ _ _ _⟩

end Go.Proofs.YtangjkhflgkkdaaGreat

namespace Go.Proofs.YtangjkhflgkkdaaGreat
open Go.RowKit
open M
set_option linter.unusedVariables false

/-- The end of taking a zigzag that began with k ones. -/
theorem zb_fin (l l1 laid l' : List Bool) (k u : Nat) (e' : Int) (hk4 : k ≤ 4) (hu : u < 18446744073709551616) (hl : l = List.replicate k true ++ l1) (hz : List.replicate k true ++ laid = zb u) (hlen : (zb u).length = zlen k)
    (hs : e' = 0 → l1 = laid ++ l') (hf : laid.length ≤ l1.length → e' = 0) : (e' = 0 → l = zb u ++ l') ∧ ∀ v r, v < 18446744073709551616 → l = zb v ++ r → u = v ∧ e' = 0 := by
  have hS : e' = 0 → l = zb u ++ l' := fun h => by rw [hl, hs h, ← List.append_assoc, hz]
  refine ⟨hS, fun v r hv hr => ?_⟩
  have e3 := zb_ones v k hk4 r l1 (by rw [← hr, hl])
  have e4 : l.length = (zb v).length + r.length := by rw [hr]; simp
  have e5 : (zb u).length = k + laid.length := by rw [← hz]; simp
  have e6 : l.length = k + l1.length := by rw [hl]; simp
  have he : e' = 0 := hf (by omega)
  exact ⟨(zb_inj u v _ _ hu hv (by rw [← hr, ← hS he])).1, he⟩

/-- What the document's Bits tells. -/
def VEnd (w : World) (b hi : Nat) (l : List Bool) (e0 : Int) (n : Nat) (e : Ending) (w' : World) : Prop :=
  ∃ (x : Nat) (l' : List Bool) (e1 : Int), e = .returned (.int .u64 (x : Int)) ∧ x < 2 ^ n ∧ Rr w' b hi l' e1 ∧ Only b 0 2 w w' ∧ (e1 = 0 → e0 = 0 ∧ l = bitsOf x n ++ l') ∧ (e0 = 0 → n ≤ l.length → e1 = 0) ∧ (x ≠ 0 → e1 = 0)

theorem vtk_bits (b hi : Nat) (l : List Bool) (e0 : Int) (n : Nat) (w : World) (h : Rr w b hi l e0) (hn : n ≤ 64) :
    Calls Tryz.prog 43 #[.pointer (some ⟨b, 0, none⟩), .int .i64 n] w (VEnd w b hi l e0 n) := by
  have hpos : 0 < 2 ^ n := Nat.pos_of_ne_zero (by simp)
  by_cases he : e0 = 0
  · subst he
    by_cases hs : n ≤ l.length
    · refine (vbits_ok b hi l n w h hn hs).mono fun e w' ⟨h1, h2, h3⟩ => ?_
      have hlen : (l.take n).length = n := by simp; omega
      have hbits := bitsOf_num (l.take n)
      rw [hlen] at hbits
      refine ⟨_, l.drop n, 0, h1, ?_, h2, h3, fun _ => ⟨rfl, by rw [hbits, List.take_append_drop]⟩, fun _ _ => rfl, fun _ => rfl⟩
      have := num_lt (l.take n)
      rwa [hlen] at this
    · refine (vbits_short b hi l n w h hn (by omega)).mono fun e w' ⟨h1, h2, h3⟩ => ?_
      exact ⟨0, l, 12, h1, hpos, h2, h3, fun h => by omega, fun _ hl => absurd hl hs, fun h => absurd rfl h⟩
  · refine (vbits_bad b hi l n e0 w h (by rw [beq_eq_false_iff_ne]; exact he)).mono fun e w' ⟨h1, h2, h3⟩ => ?_
    exact ⟨0, l, e0, h1, hpos, h2, h3, fun h => absurd h he, fun h _ => absurd h he, fun h => absurd rfl h⟩

/-- What the document's take tells. -/
def RZEnd (w : World) (b hi : Nat) (l : List Bool) (e0 : Int) (e : Ending) (w' : World) : Prop :=
  ∃ (u : Nat) (ok : Bool) (l' : List Bool) (e1 : Int), e = .returned (.tuple #[.int .u64 (u : Int), .bool ok]) ∧ u < 18446744073709551616 ∧ Rr w' b hi l' e1 ∧ Only b 0 2 w w' ∧
    (ok = true → e0 = 0 ∧ e1 = 0 ∧ l = zb u ++ l') ∧ (e0 = 0 → ∀ v r, v < 18446744073709551616 → l = zb v ++ r → ok = true ∧ u = v)

/-- k ones have been read. -/
def VOnes (w wr : World) (b hi : Nat) (l l1 : List Bool) (e0 e1 : Int) (k : Nat) : Prop :=
  Rr wr b hi l1 e1 ∧ Only b 0 2 w wr ∧ k ≤ 4 ∧ (e1 = 0 → e0 = 0) ∧ (e0 = 0 → e1 = 0) ∧ (e0 = 0 → l = List.replicate k true ++ l1)

theorem VOnes.end {w wr w2 : World} {b hi : Nat} {l l1 l2 laid : List Bool} {e0 e1 e2 : Int} {k : Nat} (u : Nat) (h : VOnes w wr b hi l l1 e0 e1 k) (hR : Rr w2 b hi l2 e2) (hO : Only b 0 2 wr w2) (hu : u < 18446744073709551616)
    (hz : List.replicate k true ++ laid = zb u) (hlen : (zb u).length = zlen k) (hs : e2 = 0 → e1 = 0 ∧ l1 = laid ++ l2) (hf : e1 = 0 → laid.length ≤ l1.length → e2 = 0) (v : Bool) (hv : v = true ↔ e2 = 0) :
    RZEnd w b hi l e0 (.returned (.tuple #[.int .u64 (u : Int), .bool v])) w2 := by
  obtain ⟨_, h2, h3, h4, h5, h6⟩ := h
  refine ⟨u, v, l2, e2, rfl, hu, hR, h2.trans hO, fun hvt => ?_, fun he0 v' r hv' hr => ?_⟩
  · have he2 := hv.1 hvt
    have he0 := h4 (hs he2).1
    exact ⟨he0, he2, (zb_fin l l1 laid l2 k u e2 h3 hu (h6 he0) hz hlen (fun h => (hs h).2) (fun h => hf (h5 he0) h)).1 he2⟩
  · obtain ⟨h7, h8⟩ := (zb_fin l l1 laid l2 k u e2 h3 hu (h6 he0) hz hlen (fun h => (hs h).2) (fun h => hf (h5 he0) h)).2 v' r hv' hr
    exact ⟨hv.2 h8, h7⟩

theorem VOnes.low {w wr w2 : World} {b hi : Nat} {l l1 l2 : List Bool} {e0 e1 e2 : Int} (u : Nat) (h : VOnes w wr b hi l l1 e0 e1 4) (hR : Rr w2 b hi l2 e2) (hO : Only b 0 2 wr w2) (hu : u < 18446744073709551616) (hlow : u ≤ 1052800)
    (hs : e2 = 0 → e1 = 0 ∧ l1 = bitsOf u 64 ++ l2) (hf : e1 = 0 → 64 ≤ l1.length → e2 = 0) : RZEnd w b hi l e0 (.returned (.tuple #[.int .u64 0, .bool false])) w2 := by
  obtain ⟨_, h2, h3, h4, h5, h6⟩ := h
  refine ⟨0, false, l2, e2, rfl, by omega, hR, h2.trans hO, fun h => absurd h (by simp), fun he0 v r hv hr => ?_⟩
  exfalso
  have e3 := zb_ones v 4 (by omega) r l1 (by rw [← hr, h6 he0])
  have hz4 : zlen 4 = 68 := rfl
  rw [hz4] at e3
  have e4 : l.length = (zb v).length + r.length := by rw [hr]; simp
  have e6 : l.length = 4 + l1.length := by rw [h6 he0]; simp; omega
  have he2 : e2 = 0 := hf (h5 he0) (by omega)
  have hv4 : 1052801 ≤ v := by
    rcases Nat.lt_or_ge v 1052801 with h | h
    · have : (zb v).length ≤ 24 := by
        rw [zb_length]; unfold zbl
        repeat' split
        all_goals omega
      omega
    · exact h
  have h7 := h6 he0
  rw [hr, zb_4 v hv4, (hs he2).2] at h7
  simp only [List.replicate, List.cons_append, List.nil_append, List.cons.injEq, true_and] at h7
  have := (bits_inj _ _ 64 _ _ hv hu h7).1
  omega

set_option maxRecDepth 100000 in
set_option maxHeartbeats 2000000 in
theorem rtake_any (b hi : Nat) (l : List Bool) (e0 : Int) (w : World) (h : Rr w b hi l e0) :
    Calls Tryz.prog 44 #[.pointer (some ⟨b, 0, none⟩)] w (RZEnd w b hi l e0) := by
  have H := hide h
  clear h
  go_enter Tryz.func44, Tryz.ntmps44
  go_wp2_with fail
  go_loopw [4] (fun t4 wr => ∃ (k : Nat) (l1 : List Bool) (e1 : Int), t4 = .int .i64 (k : Int) ∧ Hid (VOnes w wr b hi l l1 e0 e1 k)) (fun t4 _ => 4 - (intOf t4).toNat)
  case atStart => exact ⟨0, l, e0, rfl, H.out, Only.refl _ _ _ _, by omega, fun h => h, fun h => h, fun _ => rfl⟩
  case round =>
    obtain ⟨k, l1, e1, rfl, HV⟩ := hrel
    have hk4 : k ≤ 4 := HV.out.2.2.1
    by_cases hlt : k < 4
    · have hlt' : decide ((k : Int) < 4) = true := by rw [decide_eq_true_iff]; omega
      go_wp2_with fail
      refine (vtk_bits b hi l1 e1 1 wr HV.out.1 (by omega)).mono ?_
      rintro e w2 ⟨x, l2, e2, rfl, hx, R2, O2, s2, f2, n2⟩
      have hx2 : x = 0 ∨ x = 1 := by omega
      rcases hx2 with rfl | rfl
      · have HS := hide (And.intro s2 f2)
        have HR := hide R2
        have HO := hide O2
        clear s2 f2 n2 R2 O2 hx
        rcases (show k = 0 ∨ k = 1 ∨ k = 2 ∨ k = 3 by omega) with rfl | rfl | rfl | rfl
        · have HR3 : Hid (Rr w2.drew b hi l2 e2) := HR.out.keep fun _ _ _ => rfl
          have cB := HR.out.err
          by_cases he3 : e2 = 0
          · have hb3 : (e2 == 0) = true := by rw [beq_iff_eq]; exact he3
            have HE3 := hide he3
            clear he3
            go_wp2_with fail
            go_region
            go_wp2_with fail
            go_ret2
            have hfin := HV.out.end (laid := [false]) 0 HR3.out HO.out.drew (by omega) rfl rfl (fun h => by obtain ⟨h1, h2⟩ := HS.out.1 h; exact ⟨h1, h2⟩) (fun h1 h2 => HS.out.2 h1 (by simpa using h2)) true ⟨fun _ => HE3.out, fun _ => rfl⟩
            exact hfin
          · have hb3 : (e2 == 0) = false := by rw [beq_eq_false_iff_ne]; exact he3
            have HE3 := hide he3
            clear he3
            go_wp2_with fail
            go_region
            go_wp2_with fail
            go_ret2
            have hfin := HV.out.end (laid := [false]) 0 HR3.out HO.out.drew (by omega) rfl rfl (fun h => by obtain ⟨h1, h2⟩ := HS.out.1 h; exact ⟨h1, h2⟩) (fun h1 h2 => HS.out.2 h1 (by simpa using h2)) false ⟨fun h => absurd h (by simp), fun h => absurd h HE3.out⟩
            exact hfin
        · go_wp2_with fail
          refine (vtk_bits b hi l2 e2 7 w2 HR.out (by omega)).mono ?_
          rintro e w3 ⟨x, l3, e3, rfl, hx, R3, O3, s3, f3, n3⟩
          have hx' : x < 128 := hx
          have HS3 := hide (And.intro s3 f3)
          have HR4 := hide R3
          have HO3 := hide O3
          have HX := hide hx'
          clear s3 f3 n3 R3 O3 hx hx'
          have HR3 : Hid (Rr w3.drew b hi l3 e3) := HR4.out.keep fun _ _ _ => rfl
          have ew : IntKind.u64.wrap ((x : Int) + 1) = ((x + 1 : Nat) : Int) := by have := HX.out; simp only [IntKind.wrap, IntKind.bits, IntKind.signed]; simp; omega
          have HZ : Hid (List.replicate 1 true ++ ([false] ++ bitsOf x 7) = zb (x + 1)) := by show _ = _; rw [zb_1 _ (by omega) (by have := HX.out; omega), Nat.add_sub_cancel]; rfl
          have cB := HR4.out.err
          by_cases he3 : e3 = 0
          · have hb3 : (e3 == 0) = true := by rw [beq_iff_eq]; exact he3
            have HE3 := hide he3
            clear he3
            go_wp2_with fail
            go_region
            go_wp2_with fail
            go_ret2
            have hfin := HV.out.end (laid := [false] ++ bitsOf x 7) (x + 1) HR3.out (HO.out.trans HO3.out.drew) (by have := HX.out; omega) HZ.out (zlen_of _ _ (by have := HX.out; omega)) (fun h => by obtain ⟨h1, h2⟩ := HS3.out.1 h; obtain ⟨h3, h4⟩ := HS.out.1 h1; exact ⟨h3, by rw [h4, h2]; rfl⟩) (fun h1 h2 => by have h5 := HS.out.2 h1 (by simp at h2; omega); have h6 := (HS.out.1 h5).2; exact HS3.out.2 h5 (by rw [h6] at h2; simp at h2; omega)) true ⟨fun _ => HE3.out, fun _ => rfl⟩
            exact hfin
          · have hb3 : (e3 == 0) = false := by rw [beq_eq_false_iff_ne]; exact he3
            have HE3 := hide he3
            clear he3
            go_wp2_with fail
            go_region
            go_wp2_with fail
            go_ret2
            have hfin := HV.out.end (laid := [false] ++ bitsOf x 7) (x + 1) HR3.out (HO.out.trans HO3.out.drew) (by have := HX.out; omega) HZ.out (zlen_of _ _ (by have := HX.out; omega)) (fun h => by obtain ⟨h1, h2⟩ := HS3.out.1 h; obtain ⟨h3, h4⟩ := HS.out.1 h1; exact ⟨h3, by rw [h4, h2]; rfl⟩) (fun h1 h2 => by have h5 := HS.out.2 h1 (by simp at h2; omega); have h6 := (HS.out.1 h5).2; exact HS3.out.2 h5 (by rw [h6] at h2; simp at h2; omega)) false ⟨fun h => absurd h (by simp), fun h => absurd h HE3.out⟩
            exact hfin
        · go_wp2_with fail
          refine (vtk_bits b hi l2 e2 12 w2 HR.out (by omega)).mono ?_
          rintro e w3 ⟨x, l3, e3, rfl, hx, R3, O3, s3, f3, n3⟩
          have hx' : x < 4096 := hx
          have HS3 := hide (And.intro s3 f3)
          have HR4 := hide R3
          have HO3 := hide O3
          have HX := hide hx'
          clear s3 f3 n3 R3 O3 hx hx'
          have HR3 : Hid (Rr w3.drew b hi l3 e3) := HR4.out.keep fun _ _ _ => rfl
          have ew : IntKind.u64.wrap ((x : Int) + 129) = ((x + 129 : Nat) : Int) := by have := HX.out; simp only [IntKind.wrap, IntKind.bits, IntKind.signed]; simp; omega
          have HZ : Hid (List.replicate 2 true ++ ([false] ++ bitsOf x 12) = zb (x + 129)) := by show _ = _; rw [zb_2 _ (by omega) (by have := HX.out; omega), Nat.add_sub_cancel]; rfl
          have cB := HR4.out.err
          by_cases he3 : e3 = 0
          · have hb3 : (e3 == 0) = true := by rw [beq_iff_eq]; exact he3
            have HE3 := hide he3
            clear he3
            go_wp2_with fail
            go_region
            go_wp2_with fail
            go_ret2
            have hfin := HV.out.end (laid := [false] ++ bitsOf x 12) (x + 129) HR3.out (HO.out.trans HO3.out.drew) (by have := HX.out; omega) HZ.out (zlen_of _ _ (by have := HX.out; omega)) (fun h => by obtain ⟨h1, h2⟩ := HS3.out.1 h; obtain ⟨h3, h4⟩ := HS.out.1 h1; exact ⟨h3, by rw [h4, h2]; rfl⟩) (fun h1 h2 => by have h5 := HS.out.2 h1 (by simp at h2; omega); have h6 := (HS.out.1 h5).2; exact HS3.out.2 h5 (by rw [h6] at h2; simp at h2; omega)) true ⟨fun _ => HE3.out, fun _ => rfl⟩
            exact hfin
          · have hb3 : (e3 == 0) = false := by rw [beq_eq_false_iff_ne]; exact he3
            have HE3 := hide he3
            clear he3
            go_wp2_with fail
            go_region
            go_wp2_with fail
            go_ret2
            have hfin := HV.out.end (laid := [false] ++ bitsOf x 12) (x + 129) HR3.out (HO.out.trans HO3.out.drew) (by have := HX.out; omega) HZ.out (zlen_of _ _ (by have := HX.out; omega)) (fun h => by obtain ⟨h1, h2⟩ := HS3.out.1 h; obtain ⟨h3, h4⟩ := HS.out.1 h1; exact ⟨h3, by rw [h4, h2]; rfl⟩) (fun h1 h2 => by have h5 := HS.out.2 h1 (by simp at h2; omega); have h6 := (HS.out.1 h5).2; exact HS3.out.2 h5 (by rw [h6] at h2; simp at h2; omega)) false ⟨fun h => absurd h (by simp), fun h => absurd h HE3.out⟩
            exact hfin
        · go_wp2_with fail
          refine (vtk_bits b hi l2 e2 20 w2 HR.out (by omega)).mono ?_
          rintro e w3 ⟨x, l3, e3, rfl, hx, R3, O3, s3, f3, n3⟩
          have hx' : x < 1048576 := hx
          have HS3 := hide (And.intro s3 f3)
          have HR4 := hide R3
          have HO3 := hide O3
          have HX := hide hx'
          clear s3 f3 n3 R3 O3 hx hx'
          have HR3 : Hid (Rr w3.drew b hi l3 e3) := HR4.out.keep fun _ _ _ => rfl
          have ew : IntKind.u64.wrap ((x : Int) + 4225) = ((x + 4225 : Nat) : Int) := by have := HX.out; simp only [IntKind.wrap, IntKind.bits, IntKind.signed]; simp; omega
          have HZ : Hid (List.replicate 3 true ++ ([false] ++ bitsOf x 20) = zb (x + 4225)) := by show _ = _; rw [zb_3 _ (by omega) (by have := HX.out; omega), Nat.add_sub_cancel]; rfl
          have cB := HR4.out.err
          by_cases he3 : e3 = 0
          · have hb3 : (e3 == 0) = true := by rw [beq_iff_eq]; exact he3
            have HE3 := hide he3
            clear he3
            go_wp2_with fail
            go_region
            go_wp2_with fail
            go_ret2
            have hfin := HV.out.end (laid := [false] ++ bitsOf x 20) (x + 4225) HR3.out (HO.out.trans HO3.out.drew) (by have := HX.out; omega) HZ.out (zlen_of _ _ (by have := HX.out; omega)) (fun h => by obtain ⟨h1, h2⟩ := HS3.out.1 h; obtain ⟨h3, h4⟩ := HS.out.1 h1; exact ⟨h3, by rw [h4, h2]; rfl⟩) (fun h1 h2 => by have h5 := HS.out.2 h1 (by simp at h2; omega); have h6 := (HS.out.1 h5).2; exact HS3.out.2 h5 (by rw [h6] at h2; simp at h2; omega)) true ⟨fun _ => HE3.out, fun _ => rfl⟩
            exact hfin
          · have hb3 : (e3 == 0) = false := by rw [beq_eq_false_iff_ne]; exact he3
            have HE3 := hide he3
            clear he3
            go_wp2_with fail
            go_region
            go_wp2_with fail
            go_ret2
            have hfin := HV.out.end (laid := [false] ++ bitsOf x 20) (x + 4225) HR3.out (HO.out.trans HO3.out.drew) (by have := HX.out; omega) HZ.out (zlen_of _ _ (by have := HX.out; omega)) (fun h => by obtain ⟨h1, h2⟩ := HS3.out.1 h; obtain ⟨h3, h4⟩ := HS.out.1 h1; exact ⟨h3, by rw [h4, h2]; rfl⟩) (fun h1 h2 => by have h5 := HS.out.2 h1 (by simp at h2; omega); have h6 := (HS.out.1 h5).2; exact HS3.out.2 h5 (by rw [h6] at h2; simp at h2; omega)) false ⟨fun h => absurd h (by simp), fun h => absurd h HE3.out⟩
            exact hfin
      · have he2 : e2 = 0 := n2 (by omega)
        subst he2
        have HN : Hid (VOnes w w2 b hi l l2 e0 0 (k + 1)) := by
          obtain ⟨_, q2, q3, q4, q5, q6⟩ := HV.out
          obtain ⟨s3, s4⟩ := s2 rfl
          refine ⟨R2, q2.trans O2, by omega, fun _ => q4 s3, fun _ => rfl, fun h0 => ?_⟩
          rw [q6 h0, s4, List.replicate_succ', List.append_assoc]; rfl
        clear s2 f2 n2 R2 O2 hx
        go_wp2_with fail
        go_roundw
        case rel => exact ⟨k + 1, l2, 0, by simp, HN.out⟩
        case measure => simp [intOf]; omega
    · obtain rfl : k = 4 := by omega
      go_wp2_with fail
      refine (vtk_bits b hi l1 e1 64 wr HV.out.1 (by omega)).mono ?_
      rintro e w3 ⟨x, l3, e3, rfl, hx, R3, O3, s3, f3, n3⟩
      have HX : Hid (x < 18446744073709551616) := hx
      have HS3 := hide (And.intro s3 f3)
      have HR4 := hide R3
      have HO3 := hide O3
      clear s3 f3 n3 R3 O3 hx
      by_cases hlow : x ≤ 1052800
      · have hd : decide ((x : Int) ≤ 1052800) = true := by rw [decide_eq_true_iff]; omega
        have HLOW := hide hlow
        clear hlow
        go_wp2_with fail
        go_ret2
        have hfin := HV.out.low x HR4.out HO3.out HX.out HLOW.out HS3.out.1 (fun h1 h2 => HS3.out.2 h1 h2)
        exact hfin
      · have hd : decide ((x : Int) ≤ 1052800) = false := by rw [decide_eq_false_iff_not]; omega
        have HLOW := hide hlow
        clear hlow
        have HR3 : Hid (Rr w3.drew b hi l3 e3) := HR4.out.keep fun _ _ _ => rfl
        have HZ : Hid (List.replicate 4 true ++ bitsOf x 64 = zb x) := by show _ = _; rw [zb_4 _ (by have := HLOW.out; omega)]; rfl
        have cB := HR4.out.err
        by_cases he3 : e3 = 0
        · have hb3 : (e3 == 0) = true := by rw [beq_iff_eq]; exact he3
          have HE3 := hide he3
          clear he3
          go_wp2_with fail
          go_region
          go_wp2_with fail
          go_ret2
          have hfin := HV.out.end (laid := bitsOf x 64) x HR3.out HO3.out.drew HX.out HZ.out (zlen_of _ _ (by have := HLOW.out; omega)) HS3.out.1 (fun h1 h2 => HS3.out.2 h1 (by simpa using h2)) true ⟨fun _ => HE3.out, fun _ => rfl⟩
          exact hfin
        · have hb3 : (e3 == 0) = false := by rw [beq_eq_false_iff_ne]; exact he3
          have HE3 := hide he3
          clear he3
          go_wp2_with fail
          go_region
          go_wp2_with fail
          go_ret2
          have hfin := HV.out.end (laid := bitsOf x 64) x HR3.out HO3.out.drew HX.out HZ.out (zlen_of _ _ (by have := HLOW.out; omega)) HS3.out.1 (fun h1 h2 => HS3.out.2 h1 (by simpa using h2)) false ⟨fun h => absurd h (by simp), fun h => absurd h HE3.out⟩
          exact hfin

end Go.Proofs.YtangjkhflgkkdaaGreat

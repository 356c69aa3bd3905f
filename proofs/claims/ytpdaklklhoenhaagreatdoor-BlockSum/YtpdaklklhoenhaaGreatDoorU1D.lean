/- Rows of times in memory; the contracts of rise, rising, same. -/
import Derived.Test.YtpdaklklhoenhaaGreatDoorT1A
/- The contracts of zigzag, unzigzag, layZigzag; of num. -/
namespace Go.Proofs.YtpdaklklhoenhaaGreatDoor
open Go.RowKit
open M
set_option linter.unusedVariables false

theorem zigzag_any (x : Int) (w : World) (hx : I64 x) : Calls Tryz.prog 108 #[.int .i64 x] w fun e w' => e = .returned (.int .u64 (zig x : Int)) ∧ w' = w := by
  obtain ⟨h1, h2⟩ := hx
  have hz := zig_xor x h1 h2
  go_enter Tryz.func108, Tryz.ntmps108
  go_wp2
  go_ret
  exact ⟨rfl, rfl⟩

theorem unzigzag_any (u : Nat) (w : World) (hu : u < 18446744073709551616) : Calls Tryz.prog 103 #[.int .u64 u] w fun e w' => e = .returned (.int .i64 (zag u)) ∧ w' = w := by
  have hz := zag_xor u hu
  go_enter Tryz.func103, Tryz.ntmps103
  go_wp2
  go_ret
  exact ⟨rfl, rfl⟩

set_option maxRecDepth 100000 in
set_option maxHeartbeats 1000000 in
theorem layZigzag_any (b off lo : Nat) (u : Nat) (w : World) (l : List Bool) (hW : Wr w lo b off l 0) (hb : b < lo) (hlo : lo ≤ w.heap.size)
    (hlen : l.length < 1000000000) (hu : u < 18446744073709551616) :
    Calls Tryz.prog 107 #[.pointer (some ⟨b, off, none⟩), .int .u64 u] w fun e w' => e = .returned (.tuple #[]) ∧ Wr w' lo b off (l ++ zb u) 0 ∧ Only b off (off + 123) w w' := by
  have HW := hide hW
  have HL := hide hlen
  have HU := hide hu
  clear hW hlen
  by_cases c1 : u < 1
  · obtain rfl : u = 0 := by omega
    have HZ := hide zb_0
    go_enter Tryz.func107, Tryz.ntmps107
    go_wp2_with fail
    refine wp_scope_fwd 4 ?_
    go_wp2_with fail
    refine (wbits_any b off lo 1 0 w l HW.out hb hlo (by have := HL.out; omega) (by omega) (by omega) (by omega)).mono ?_
    rintro e w1 ⟨rfl, W1, O1⟩
    go_wp2_with fail
    refine SJ_ret ?_
    refine bodyPost_ret (results_none rfl _ _ _) rfl ?_
    exact ⟨rfl, by rw [HZ.out]; exact W1, O1⟩
  by_cases c2 : u < 129
  · have HZ := hide (zb_1 u (by omega) (by omega))
    have k1 : (1 : Int) ≤ (u : Int) := by omega
    have k2 : ¬ (129 : Int) ≤ (u : Int) := by omega
    go_enter Tryz.func107, Tryz.ntmps107
    go_wp2_with fail
    refine wp_scope_fwd 4 ?_
    go_wp2_with fail
    refine wp_goto ?_
    refine SJ_goto 3 rfl ?_
    go_wp2_with fail
    refine (wbits_any b off lo 2 2 w l HW.out hb hlo (by have := HL.out; omega) (by omega) (by omega) (by omega)).mono ?_
    rintro e w1 ⟨rfl, W1, O1⟩
    have s1 := O1.size
    have e1 : ((u : Int) - 1) = ((u - 1 : Nat) : Int) := by omega
    go_wp2_with fail
    refine (wbits_any b off lo 7 (u - 1) w1 _ W1 hb (by omega) (by have := HL.out; simp; omega) (by omega) (by omega) (by omega)).mono ?_
    rintro e w2 ⟨rfl, W2, O2⟩
    go_wp2_with fail
    refine SJ_ret ?_
    refine bodyPost_ret (results_none rfl _ _ _) rfl ?_
    exact ⟨rfl, by rw [HZ.out, ← List.append_assoc]; exact W2, O1.trans O2⟩
  by_cases c3 : u < 4225
  · have HZ := hide (zb_2 u (by omega) (by omega))
    have k1 : (1 : Int) ≤ (u : Int) := by omega
    have k2 : (129 : Int) ≤ (u : Int) := by omega
    have k3 : ¬ (4225 : Int) ≤ (u : Int) := by omega
    go_enter Tryz.func107, Tryz.ntmps107
    go_wp2_with fail
    refine wp_scope_fwd 4 ?_
    go_wp2_with fail
    refine wp_goto ?_
    refine SJ_goto 3 rfl ?_
    go_wp2_with fail
    refine wp_goto ?_
    refine SJ_goto 2 rfl ?_
    go_wp2_with fail
    refine (wbits_any b off lo 3 6 w l HW.out hb hlo (by have := HL.out; omega) (by omega) (by omega) (by omega)).mono ?_
    rintro e w1 ⟨rfl, W1, O1⟩
    have s1 := O1.size
    have e1 : ((u : Int) - 129) = ((u - 129 : Nat) : Int) := by omega
    go_wp2_with fail
    refine (wbits_any b off lo 12 (u - 129) w1 _ W1 hb (by omega) (by have := HL.out; simp; omega) (by omega) (by omega) (by omega)).mono ?_
    rintro e w2 ⟨rfl, W2, O2⟩
    go_wp2_with fail
    refine SJ_ret ?_
    refine bodyPost_ret (results_none rfl _ _ _) rfl ?_
    exact ⟨rfl, by rw [HZ.out, ← List.append_assoc]; exact W2, O1.trans O2⟩
  by_cases c4 : u < 1052801
  · have HZ := hide (zb_3 u (by omega) (by omega))
    have k1 : (1 : Int) ≤ (u : Int) := by omega
    have k2 : (129 : Int) ≤ (u : Int) := by omega
    have k3 : (4225 : Int) ≤ (u : Int) := by omega
    have k4 : decide ((1052801 : Int) ≤ (u : Int)) = false := by rw [decide_eq_false_iff_not]; omega
    have C4 := hide c4
    clear c4
    go_enter Tryz.func107, Tryz.ntmps107
    go_wp2_with fail
    refine wp_scope_fwd 4 ?_
    go_wp2_with fail
    refine wp_goto ?_
    refine SJ_goto 3 rfl ?_
    go_wp2_with fail
    refine wp_goto ?_
    refine SJ_goto 2 rfl ?_
    go_wp2_with fail
    refine wp_goto ?_
    refine SJ_goto 1 rfl ?_
    go_wp2_with fail
    refine (wbits_any b off lo 4 14 w l HW.out hb hlo (by have := HL.out; omega) (by omega) (by omega) (by omega)).mono ?_
    rintro e w1 ⟨rfl, W1, O1⟩
    have s1 := O1.size
    have e1 : ((u : Int) - 4225) = ((u - 4225 : Nat) : Int) := by omega
    go_wp2_with fail
    refine (wbits_any b off lo 20 (u - 4225) w1 _ W1 hb (by omega) (by have := HL.out; simp; omega) (by omega) (by omega) (by have := C4.out; omega)).mono ?_
    rintro e w2 ⟨rfl, W2, O2⟩
    go_wp2_with fail
    refine SJ_ret ?_
    refine bodyPost_ret (results_none rfl _ _ _) rfl ?_
    exact ⟨rfl, by rw [HZ.out, ← List.append_assoc]; exact W2, O1.trans O2⟩
  · have HZ := hide (zb_4 u (by omega))
    have k1 : (1 : Int) ≤ (u : Int) := by omega
    have k2 : (129 : Int) ≤ (u : Int) := by omega
    have k3 : (4225 : Int) ≤ (u : Int) := by omega
    have k4 : (1052801 : Int) ≤ (u : Int) := by omega
    go_enter Tryz.func107, Tryz.ntmps107
    go_wp2_with fail
    refine wp_scope_fwd 4 ?_
    go_wp2_with fail
    refine wp_goto ?_
    refine SJ_goto 3 rfl ?_
    go_wp2_with fail
    refine wp_goto ?_
    refine SJ_goto 2 rfl ?_
    go_wp2_with fail
    refine wp_goto ?_
    refine SJ_goto 1 rfl ?_
    go_wp2_with fail
    refine wp_goto ?_
    refine SJ_goto 0 rfl ?_
    go_wp2_with fail
    refine (wbits_any b off lo 4 15 w l HW.out hb hlo (by have := HL.out; omega) (by omega) (by omega) (by omega)).mono ?_
    rintro e w1 ⟨rfl, W1, O1⟩
    have s1 := O1.size
    go_wp2_with fail
    refine (wbits_any b off lo 64 u w1 _ W1 hb (by omega) (by have := HL.out; simp; omega) (by omega) HU.out (by have := HU.out; omega)).mono ?_
    rintro e w2 ⟨rfl, W2, O2⟩
    go_wp2_with fail
    refine SJ_normal ?_
    go_end0
    exact ⟨rfl, by rw [HZ.out, ← List.append_assoc]; exact W2, O1.trans O2⟩

end Go.Proofs.YtpdaklklhoenhaaGreatDoor

/- The contract of takeZigzag, whatever the Reader's state. -/
namespace Go.Proofs.YtpdaklklhoenhaaGreatDoor
open Go.RowKit
open M
set_option linter.unusedVariables false

/-- Behind a reading: the state; where it was not refused, the bits that it took; it was not refused where there are enough. -/
structure TkT (w w' : World) (b off : Nat) (s : ByteArray) (a : Nat) (e0 : Int) (a' : Nat) (e1 : Int) (laid : List Bool) : Prop where
  rd : Rd w' b off s a' e1
  only : Only b off (off + 3) w w'
  sound : e1 = 0 → e0 = 0 ∧ (rb s).take a' = (rb s).take a ++ laid
  full : e0 = 0 → a + laid.length ≤ (rb s).length → e1 = 0

theorem rb_lengthT (s : ByteArray) : (rb s).length = 8 * s.size := by simp [rb]

theorem TkT.trans {w w1 w2 : World} {b off : Nat} {s : ByteArray} {a a1 a2 : Nat} {e0 e1 e2 : Int} {l1 l2 : List Bool} (ha : a ≤ 8 * s.size) (h : TkT w w1 b off s a e0 a1 e1 l1) (k : TkT w1 w2 b off s a1 e1 a2 e2 l2) : TkT w w2 b off s a e0 a2 e2 (l1 ++ l2) := by
  refine ⟨k.rd, h.only.trans k.only, fun he => ?_, fun he hl => ?_⟩
  · obtain ⟨h1, h2⟩ := k.sound he
    obtain ⟨h3, h4⟩ := h.sound h1
    exact ⟨h3, by rw [h2, h4, List.append_assoc]⟩
  · rw [List.length_append] at hl
    have e1 := h.full he (by omega)
    obtain ⟨_, h4⟩ := h.sound e1
    have := tkn_len _ _ _ _ h4 (by rw [rb_lengthT]; exact ha) (by rw [rb_lengthT]; exact h.rd.le)
    exact k.full e1 (by omega)

/-- What Bits tells. -/
def BitsEndT (w : World) (b off : Nat) (s : ByteArray) (a : Nat) (e0 : Int) (n : Nat) (e : Ending) (w' : World) : Prop :=
  ∃ (x a' : Nat) (e1 : Int), e = .returned (.int .u64 (x : Int)) ∧ x < 2 ^ n ∧ TkT w w' b off s a e0 a' e1 (bitsOf x n)

theorem tk_bitsT (b off : Nat) (s : ByteArray) (a n : Nat) (e0 : Int) (w : World) (h : Rd w b off s a e0) (hn : n ≤ 64) :
    Calls Tryz.prog 81 #[.pointer (some ⟨b, off, none⟩), .int .i64 n] w (BitsEndT w b off s a e0 n) := by
  have hpos : 0 < 2 ^ n := Nat.pos_of_ne_zero (by simp)
  by_cases he : e0 = 0
  · subst he
    by_cases hs : a + n ≤ 8 * s.size
    · refine (rbits_ok b off s a n w h hn hs).mono fun e w' ⟨h1, h2, h3⟩ => ?_
      have hlen : (((rb s).drop a).take n).length = n := by simp [rb]; omega
      have hbits := bitsOf_num (((rb s).drop a).take n)
      rw [hlen] at hbits
      refine ⟨_, a + n, 0, h1, ?_, h2, h3, fun _ => ⟨rfl, take_more _ _ _ _ hbits.symm⟩, fun _ _ => rfl⟩
      have := num_lt (((rb s).drop a).take n)
      rwa [hlen] at this
    · refine (rbits_short b off s a n w h hn (by omega)).mono fun e w' ⟨h1, h2, h3⟩ => ?_
      exact ⟨0, a, 12, h1, hpos, h2, h3, fun h => by omega, fun _ hl => by rw [bitsOf_length, rb_lengthT] at hl; omega⟩
  · refine (rbits_bad b off s a n e0 w h (by rw [beq_eq_false_iff_ne]; exact he) (by omega) (by omega)).mono fun e w' ⟨h1, h2, h3⟩ => ?_
    exact ⟨0, a, e0, h1, hpos, h2, h3, fun h => absurd h he, fun h _ => absurd h he⟩

/-- What Bit tells: a 1 is told only where it was read. -/
def BitEndT (w : World) (b off : Nat) (s : ByteArray) (a : Nat) (e0 : Int) (e : Ending) (w' : World) : Prop :=
  ∃ (v : Bool) (a' : Nat) (e1 : Int), e = .returned (.bool v) ∧ TkT w w' b off s a e0 a' e1 [v] ∧ (v = true → e1 = 0)

theorem tk_bitT (b off : Nat) (s : ByteArray) (a : Nat) (e0 : Int) (w : World) (h : Rd w b off s a e0) :
    Calls Tryz.prog 112 #[.pointer (some ⟨b, off, none⟩)] w (BitEndT w b off s a e0) := by
  by_cases he : e0 = 0
  · subst he
    by_cases hs : a + 1 ≤ 8 * s.size
    · refine (rbit_of b off w _ _ (rbits_ok b off s a 1 w h (by omega) hs)).mono fun e w' ⟨h1, h2, h3⟩ => ?_
      have hin : a < (rb s).length := by simp [rb]; omega
      refine ⟨_, a + 1, 0, h1, ⟨h2, h3, fun _ => ⟨rfl, take_more _ _ _ _ ?_⟩, fun _ _ => rfl⟩, fun _ => rfl⟩
      rw [bit_of _ _ hin, List.drop_eq_getElem_cons hin]
      cases (rb s)[a] <;> rfl
    · refine (rbit_of b off w 0 _ (rbits_short b off s a 1 w h (by omega) (by omega))).mono fun e w' ⟨h1, h2, h3⟩ => ?_
      exact ⟨_, a, 12, h1, ⟨h2, h3, fun h => by omega, fun _ hl => by rw [rb_lengthT] at hl; simp at hl; omega⟩, fun h => by simp at h⟩
  · refine (rbit_of b off w 0 _ (rbits_bad b off s a 1 e0 w h (by rw [beq_eq_false_iff_ne]; exact he) (by omega) (by omega))).mono fun e w' ⟨h1, h2, h3⟩ => ?_
    exact ⟨_, a, e0, h1, ⟨h2, h3, fun h => absurd h he, fun h _ => absurd h he⟩, fun h => by simp at h⟩

/-- What takeZigzag tells. -/
def ZEnd (w : World) (b off : Nat) (s : ByteArray) (a : Nat) (e0 : Int) (e : Ending) (w' : World) : Prop :=
  ∃ (u : Nat) (ok : Bool) (a' : Nat) (e1 : Int), e = .returned (.tuple #[.int .u64 (u : Int), .bool ok]) ∧ u < 18446744073709551616 ∧ Rd w' b off s a' e1 ∧ Only b off (off + 3) w w' ∧
    (e1 = 0 → ok = true → e0 = 0 ∧ (rb s).take a' = (rb s).take a ++ zb u) ∧
    (e0 = 0 → ∀ v r, v < 18446744073709551616 → (rb s).drop a = zb v ++ r → u = v ∧ ok = true ∧ e1 = 0)

/-- The end of a way that read k ones, then laid. -/
theorem zend {w wk w' : World} {b off : Nat} {s : ByteArray} {a ak a' : Nat} {e1 : Int} {laid : List Bool} (k u : Nat) (hk4 : k ≤ 4) (hu : u < 18446744073709551616) (hz : List.replicate k true ++ laid = zb u) (hl : (zb u).length = zlen k)
    (ha : a ≤ 8 * s.size) (hak : ak ≤ 8 * s.size) (hO : Only b off (off + 3) w wk) (hk : (rb s).take ak = (rb s).take a ++ List.replicate k true) (T : TkT wk w' b off s ak 0 a' e1 laid) (e0 : Int) (he : e0 = 0) :
    ZEnd w b off s a e0 (.returned (.tuple #[.int .u64 (u : Int), .bool true])) w' := by
  obtain ⟨h1, h2⟩ := zb_done (rb s) a ak a' k laid u hk4 hu hz hl hk (by rw [rb_lengthT]; exact ha) (by rw [rb_lengthT]; exact hak) e1 (fun h => (T.sound h).2) (fun h => T.full rfl h)
  refine ⟨u, true, a', e1, rfl, hu, T.rd, hO.trans T.only, fun h _ => ⟨he, h1 h⟩, fun _ v r hv hr => ?_⟩
  obtain ⟨h3, h4⟩ := h2 v r hv hr
  exact ⟨h3, rfl, h4⟩

/-- The end of the last way: a number that has a shorter form. -/
theorem zend_bad {w wk w' : World} {b off : Nat} {s : ByteArray} {a ak a' : Nat} {e1 : Int} (u : Nat) (hu : u < 18446744073709551616) (hlow : u < 1052801)
    (ha : a ≤ 8 * s.size) (hak : ak ≤ 8 * s.size) (hO : Only b off (off + 3) w wk) (hk : (rb s).take ak = (rb s).take a ++ List.replicate 4 true) (T : TkT wk w' b off s ak 0 a' e1 (bitsOf u 64)) (e0 : Int) (he : e0 = 0) :
    ZEnd w b off s a e0 (.returned (.tuple #[.int .u64 (u : Int), .bool false])) w' := by
  refine ⟨u, false, a', e1, rfl, hu, T.rd, hO.trans T.only, fun _ h => absurd h (by simp), fun _ v r hv hr => ?_⟩
  exfalso
  have e1' := take_eq_drop _ _ a ak hk
  have e2 := tkn_len _ _ a ak hk (by rw [rb_lengthT]; exact ha) (by rw [rb_lengthT]; exact hak)
  have e3 := zb_ones v 4 (by omega) r ((rb s).drop ak) (by rw [← hr, e1'])
  have e4 : ((rb s).drop a).length = (zb v).length + r.length := by rw [hr]; simp
  have hz4 : zlen 4 = 68 := rfl
  rw [hz4] at e3
  rw [List.length_drop] at e4
  simp only [List.length_replicate] at e2
  have he1 : e1 = 0 := T.full rfl (by simp only [bitsOf_length]; omega)
  have e5 := take_eq_drop _ _ ak a' (T.sound he1).2
  have hv4 : 1052801 ≤ v := by
    rcases Nat.lt_or_ge v 1052801 with h | h
    · have : (zb v).length ≤ 24 := by
        rw [zb_length]; unfold zbl
        repeat' split
        all_goals omega
      omega
    · exact h
  rw [hr, zb_4 v hv4, e5] at e1'
  simp only [List.replicate, List.cons_append, List.nil_append, List.cons.injEq, true_and] at e1'
  have := (bits_inj _ _ 64 _ _ hv hu e1').1
  omega

theorem zlen_of (u k : Nat) (h : (k = 0 ∧ u = 0) ∨ (k = 1 ∧ 1 ≤ u ∧ u ≤ 128) ∨ (k = 2 ∧ 129 ≤ u ∧ u ≤ 4224) ∨ (k = 3 ∧ 4225 ≤ u ∧ u ≤ 1052800) ∨ (k = 4 ∧ 1052801 ≤ u)) : (zb u).length = zlen k := by
  rw [zb_length]
  unfold zbl zlen
  rcases h with ⟨rfl, h⟩ | ⟨rfl, h, h'⟩ | ⟨rfl, h, h'⟩ | ⟨rfl, h, h'⟩ | ⟨rfl, h⟩
  · simp [h]
  · rw [if_neg (by omega), if_pos (by omega)]; rfl
  · rw [if_neg (by omega), if_neg (by omega), if_pos (by omega)]; rfl
  · rw [if_neg (by omega), if_neg (by omega), if_neg (by omega), if_pos (by omega)]; rfl
  · rw [if_neg (by omega), if_neg (by omega), if_neg (by omega), if_neg (by omega)]; rfl

/-- k ones have been read. -/
structure Ones (w wk : World) (b off : Nat) (s : ByteArray) (a ak k : Nat) : Prop where
  rd : Rd wk b off s ak 0
  only : Only b off (off + 3) w wk
  tk : (rb s).take ak = (rb s).take a ++ List.replicate k true

theorem Ones.next {w wk w' : World} {b off : Nat} {s : ByteArray} {a ak a' k : Nat} {e1 : Int} (h : Ones w wk b off s a ak k) (T : TkT wk w' b off s ak 0 a' e1 [true]) (he : e1 = 0) : Ones w w' b off s a a' (k + 1) := by
  subst he
  refine ⟨T.rd, h.only.trans T.only, ?_⟩
  rw [(T.sound rfl).2, h.tk, List.append_assoc, List.replicate_succ', ]

set_option maxRecDepth 100000 in
set_option maxHeartbeats 1000000 in
theorem takeZigzag_any (b off : Nat) (s : ByteArray) (a : Nat) (e0 : Int) (w : World) (h : Rd w b off s a e0) :
    Calls Tryz.prog 102 #[.pointer (some ⟨b, off, none⟩)] w (ZEnd w b off s a e0) := by
  have ha := hide h.le
  go_enter Tryz.func102, Tryz.ntmps102
  go_wp2_with fail
  refine wp_scope_fwd 4 ?_
  go_wp2_with fail
  refine (tk_bitT b off s a e0 w h).mono ?_
  rintro e w1 ⟨v1, a1, e1, rfl, T1, hv1⟩
  cases v1 with
  | false =>
    go_wp2_with fail
    refine SJ_ret ?_
    go_ret2
    refine ⟨0, true, a1, e1, rfl, by omega, T1.rd, T1.only, fun h _ => T1.sound h, fun h0 v r hv hr => ?_⟩
    subst h0
    obtain ⟨h1, h2⟩ := zb_done (rb s) a a a1 0 [false] 0 (by omega) (by omega) rfl rfl (by simp) (by rw [rb_lengthT]; exact ha.out) (by rw [rb_lengthT]; exact ha.out) e1 (fun h => (T1.sound h).2) (fun h => T1.full rfl h)
    obtain ⟨h3, h4⟩ := h2 v r hv hr
    exact ⟨h3, rfl, h4⟩
  | true =>
    obtain rfl : e1 = 0 := hv1 rfl
    obtain rfl : e0 = 0 := (T1.sound rfl).1
    have O1 : Ones w w1 b off s a a1 1 := ⟨T1.rd, T1.only, (T1.sound rfl).2⟩
    clear T1 hv1 h
    go_wp2_with fail
    refine wp_goto ?_
    refine SJ_goto 3 rfl ?_
    go_wp2_with fail
    refine (tk_bitT b off s a1 0 w1 O1.rd).mono ?_
    rintro e w2 ⟨v2, a2, e2, rfl, T2, hv2⟩
    cases v2 with
    | false =>
      go_wp2_with fail
      refine (tk_bitsT b off s a2 7 e2 w2 T2.rd (by omega)).mono ?_
      rintro e w3 ⟨x, a3, e3, rfl, hx, T3⟩
      have hx' : x < 128 := hx
      go_wp2_with fail
      refine SJ_ret ?_
      go_ret2
      have ee : (1 : Int) + (x : Int) = ((1 + x : Nat) : Int) := by omega
      have TT := T2.trans O1.rd.le T3
      have hz : List.replicate 1 true ++ ([false] ++ bitsOf x 7) = zb (1 + x) := by rw [zb_1 _ (by omega) (by omega), Nat.add_sub_cancel_left]; rfl
      have := zend (e0 := 0) 1 (1 + x) (by omega) (by omega) hz (zlen_of _ _ (by omega)) ha.out O1.rd.le O1.only O1.tk TT rfl
      rw [← ee] at this
      exact this
    | true =>
      obtain rfl : e2 = 0 := hv2 rfl
      have O2 := O1.next T2 rfl
      clear T2 hv2 O1
      go_wp2_with fail
      refine wp_goto ?_
      refine SJ_goto 2 rfl ?_
      go_wp2_with fail
      refine (tk_bitT b off s a2 0 w2 O2.rd).mono ?_
      rintro e w3 ⟨v3, a3, e3, rfl, T3, hv3⟩
      cases v3 with
      | false =>
        go_wp2_with fail
        refine (tk_bitsT b off s a3 12 e3 w3 T3.rd (by omega)).mono ?_
        rintro e w4 ⟨x, a4, e4, rfl, hx, T4⟩
        have hx' : x < 4096 := hx
        go_wp2_with fail
        refine SJ_ret ?_
        go_ret2
        have ee : (129 : Int) + (x : Int) = ((129 + x : Nat) : Int) := by omega
        have TT := T3.trans O2.rd.le T4
        have hz : List.replicate 2 true ++ ([false] ++ bitsOf x 12) = zb (129 + x) := by rw [zb_2 _ (by omega) (by omega), Nat.add_sub_cancel_left]; rfl
        have := zend (e0 := 0) 2 (129 + x) (by omega) (by omega) hz (zlen_of _ _ (by omega)) ha.out O2.rd.le O2.only O2.tk TT rfl
        rw [← ee] at this
        exact this
      | true =>
        obtain rfl : e3 = 0 := hv3 rfl
        have O3 := O2.next T3 rfl
        clear T3 hv3 O2
        go_wp2_with fail
        refine wp_goto ?_
        refine SJ_goto 1 rfl ?_
        go_wp2_with fail
        refine (tk_bitT b off s a3 0 w3 O3.rd).mono ?_
        rintro e w4 ⟨v4, a4, e4, rfl, T4, hv4⟩
        cases v4 with
        | false =>
          go_wp2_with fail
          refine (tk_bitsT b off s a4 20 e4 w4 T4.rd (by omega)).mono ?_
          rintro e w5 ⟨x, a5, e5, rfl, hx, T5⟩
          have hx' : x < 1048576 := hx
          go_wp2_with fail
          refine SJ_ret ?_
          go_ret2
          have ee : (4225 : Int) + (x : Int) = ((4225 + x : Nat) : Int) := by omega
          have TT := T4.trans O3.rd.le T5
          have hz : List.replicate 3 true ++ ([false] ++ bitsOf x 20) = zb (4225 + x) := by rw [zb_3 _ (by omega) (by omega), Nat.add_sub_cancel_left]; rfl
          have := zend (e0 := 0) 3 (4225 + x) (by omega) (by omega) hz (zlen_of _ _ (by omega)) ha.out O3.rd.le O3.only O3.tk TT rfl
          rw [← ee] at this
          exact this
        | true =>
          obtain rfl : e4 = 0 := hv4 rfl
          have O4 := O3.next T4 rfl
          clear T4 hv4 O3
          go_wp2_with fail
          refine wp_goto ?_
          refine SJ_goto 0 rfl ?_
          go_wp2_with fail
          refine (tk_bitsT b off s a4 64 0 w4 O4.rd (by omega)).mono ?_
          rintro e w5 ⟨x, a5, e5, rfl, hx, T5⟩
          have HX : Hid (x < 18446744073709551616) := hx
          clear hx
          by_cases hlow : x < 1052801
          · have k4 : decide ((1052801 : Int) ≤ (x : Int)) = false := by rw [decide_eq_false_iff_not]; omega
            have HLOW := hide hlow
            clear hlow
            go_wp2_with fail
            refine SJ_ret ?_
            go_ret2
            exact zend_bad x HX.out HLOW.out ha.out O4.rd.le O4.only O4.tk T5 0 rfl
          · have k4 : decide ((1052801 : Int) ≤ (x : Int)) = true := by rw [decide_eq_true_iff]; omega
            have HLOW := hide hlow
            clear hlow
            go_wp2_with fail
            refine SJ_ret ?_
            go_ret2
            have hz : List.replicate 4 true ++ bitsOf x 64 = zb x := by rw [zb_4 _ (by have := HLOW.out; omega)]; rfl
            exact zend (e0 := 0) 4 x (by omega) HX.out hz (zlen_of _ _ (by have := HLOW.out; omega)) ha.out O4.rd.le O4.only O4.tk T5 rfl

end Go.Proofs.YtpdaklklhoenhaaGreatDoor

namespace Go.Proofs.YtpdaklklhoenhaaGreatDoor
open Go.RowKit
open M
set_option linter.unusedVariables false

/-- The slice at p of n int64s holds f. -/
def TRow (w : World) (p : Option Addr) (n : Nat) (f : Nat → Int) : Prop :=
  0 < n → ∃ b o, p = some ⟨b, o, none⟩ ∧ ∀ i, i < n → w.cell? ⟨b, o + i, none⟩ = some (.int .i64 (f i))

theorem TRow.drewN {w : World} {p : Option Addr} {n : Nat} {f : Nat → Int} (h : TRow w p n f) (m : Nat) : TRow (w.drewN m) p n f := h

theorem TRow.below {w w' : World} {p : Option Addr} {n : Nat} {f : Nat → Int} (h : TRow w p n f) (hB : Below w.heap.size w w') : TRow w' p n f := fun h0 => by
  obtain ⟨b, o, hp, hc⟩ := h h0
  exact ⟨b, o, hp, fun i hi => by rw [hB.cell (p := ⟨b, o + i, none⟩) (block_lt_of_cell (hc i hi))]; exact hc i hi⟩

theorem TRow.take {w : World} {p : Option Addr} {n m : Nat} {f : Nat → Int} (h : TRow w p n f) (hm : m ≤ n) : TRow w p m f := fun h0 => by
  obtain ⟨b, o, hp, hc⟩ := h (by omega)
  exact ⟨b, o, hp, fun i hi => hc i (by omega)⟩

theorem TRow.nil (w : World) (p : Option Addr) (f : Nat → Int) : TRow w p 0 f := fun h => by omega

/-- A Bool that says whether P. -/
def Says (P : Prop) (w : World) (e : Ending) (w' : World) : Prop := ∃ v : Bool, e = .returned (.bool v) ∧ (v = true ↔ P) ∧ ∃ m, w' = w.drewN m

set_option maxHeartbeats 1000000 in
theorem rise_any (p : Option Addr) (n cap : Nat) (f : Nat → Int) (w : World) (h : TRow w p n f) (hn : n ≤ 281474976710656) :
    Calls Tryz.prog 86 #[.slice p n cap] w (Says (Rises f n) w) := by
  have H := hide h
  clear h
  go_enter Tryz.func86, Tryz.ntmps86
  go_wp2_with fail
  go_loopw [3] (fun i wr => ∃ k : Nat, Hid (∀ j, j < k → f j < f (j + 1)) ∧ i = .int .i64 ((k : Int) + 1) ∧ Hid (∃ m, wr = w.drewN m)) (fun i _ => n - (intOf i).toNat)
  case atStart => exact ⟨0, fun j hj => by omega, rfl, 0, rfl⟩
  case round =>
    obtain ⟨k, hr, rfl, hm⟩ := hrel
    by_cases hlt : k + 1 < n
    · obtain ⟨b, o, rfl, hc⟩ := H.out (by omega)
      have c1 : wr.cell? ⟨b, o + (k + 1), none⟩ = some (.int .i64 (f (k + 1))) := by obtain ⟨m, rfl⟩ := hm.out; exact hc (k + 1) hlt
      have c2 : wr.cell? ⟨b, o + k, none⟩ = some (.int .i64 (f k)) := by obtain ⟨m, rfl⟩ := hm.out; exact hc k (by omega)
      clear hc
      by_cases hle : f (k + 1) ≤ f k
      · go_wp2_with fail
        go_region
        go_wp2_with fail
        go_ret
        obtain ⟨m, rfl⟩ := hm.out
        exact ⟨false, rfl, ⟨fun h => (by cases h), fun h => by have := h k hlt; omega⟩, m + 1, rfl⟩
      · go_wp2_with fail
        go_region
        go_wp2_with fail
        go_roundw
        case rel => exact ⟨k + 1, fun j hj => by
          by_cases e : j = k
          · subst e; omega
          · exact hr.out j (by omega), by simp, by obtain ⟨m, rfl⟩ := hm.out; exact ⟨m + 1, rfl⟩⟩
        case measure => simp [intOf]; omega
    · go_wp2_with fail
      go_ret
      exact ⟨true, rfl, ⟨fun _ j hj => hr.out j (by omega), fun _ => rfl⟩, hm.out⟩




end Go.Proofs.YtpdaklklhoenhaaGreatDoor

/- Readings that take what was laid: a number's bits stand there, and it is told. -/
import Derived.Test.YtleffbpjjbiobaaGreatDoorP1C64
import Derived.Test.YtleffbpjjbiobaaGreatDoorP1M64
import Derived.Test.YtleffbpjjbiobaaGreatDoorP1Q64
import Derived.Test.YtleffbpjjbiobaaGreatDoorP1T
import Derived.Test.YtleffbpjjbiobaaGreatDoorT1S
/- Values that are taken one by one, whatever the coding (64 bits): what is known of them where the text begins with a column's bits. -/
namespace Go.Proofs.YtleffbpjjbiobaaGreatDoor
open Go.RowKit
open M
set_option linter.unusedVariables false
set_option linter.unusedSimpArgs false

/-- A coding that lays value after value. -/
structure Lays64 (bf : (Nat → Nat) → Nat → List Bool) (one : (Nat → Nat) → Nat → List Bool) : Prop where
  nil : ∀ h, bf h 0 = []
  step : ∀ h k, bf h (k + 1) = bf h k ++ one h k

theorem Lays64.begins {bf one : (Nat → Nat) → Nat → List Bool} (L : Lays64 bf one) (h : Nat → Nat) (k n : Nat) (hk : k ≤ n) : ∃ r, bf h n = bf h k ++ r := by
  induction n with
  | zero => exact ⟨[], by rw [show k = 0 from by omega]; simp⟩
  | succ n ih =>
    by_cases e : k = n + 1
    · exact ⟨[], by rw [e]; simp⟩
    · obtain ⟨r, hr⟩ := ih (by omega)
      exact ⟨r ++ one h n, by rw [L.step, hr, List.append_assoc]⟩

/-- The text begins with the bits of n values. -/
def Beg64 (bf : (Nat → Nat) → Nat → List Bool) (R : List Bool) (h : Nat → Nat) (n : Nat) : Prop := (∀ i, i < n → h i < 18446744073709551616) ∧ ∃ r, R = bf h n ++ r

/-- k of n values are taken. -/
structure Ln64 (bf : (Nat → Nat) → Nat → List Bool) (w wr : World) (b : Nat) (s : ByteArray) (g n k a : Nat) (e1 : Int) (f : Nat → Nat) : Prop where
  row : UW64 wr g n k f
  rd : Rd wr b 0 s a e1
  only : Only b 0 3 w wr
  size : g < wr.heap.size
  rng : ∀ i, i < k → f i < 18446744073709551616
  full : ∀ h, Beg64 bf (rb s) h n → e1 = 0 ∧ (rb s).take a = bf h k ∧ ∀ i, i < k → f i = h i

/-- One value more. -/
theorem Ln64.next {bf one : (Nat → Nat) → Nat → List Bool} (L : Lays64 bf one) {w wr w2 : World} {b : Nat} {s : ByteArray} {g n k a a' : Nat} {e1 e2 : Int} {f : Nat → Nat} (hk : k < n) (hg : w.heap.size ≤ g) (hgb : g ≠ b) (T : Ln64 bf w wr b s g n k a e1 f)
    (x : Nat) (hx : x < 18446744073709551616) (hR : Rd w2 b 0 s a' e2) (hO : Only b 0 3 wr w2)
    (hf : e1 = 0 → ∀ h r, (∀ i, i < k → f i = h i) → h k < 18446744073709551616 → (rb s).drop a = one h k ++ r → x = h k ∧ e2 = 0 ∧ (rb s).take a' = (rb s).take a ++ one h k) :
    Ln64 bf w (w2.setCell ⟨g, k, none⟩ (.int .u64 (x : Int))) b s g n (k + 1) a' e2 (fun i => if i = k then x else f i) := by
  have hs2 := hO.size
  have hsz := T.size
  refine ⟨(T.row.ofBlock (hO.block g hsz hgb)).set hk x, hR.setOther' g _ hgb _, (T.only.trans hO).setOther' g _ hg hgb _, by simp [World.setCell]; omega, fun i hi => ?_, fun h hB => ?_⟩
  · by_cases e : i = k
    · simp [e, hx]
    · simp [e]; exact T.rng i (by omega)
  · obtain ⟨h1, h2, h3⟩ := T.full h hB
    obtain ⟨hr, r, hRR⟩ := hB
    obtain ⟨r1, h4⟩ := L.begins h (k + 1) n (by omega)
    rw [h4, L.step, List.append_assoc, List.append_assoc] at hRR
    have h5 : (rb s).drop a = one h k ++ (r1 ++ r) := by
      have := List.take_append_drop a (rb s)
      rw [h2] at this
      rw [hRR] at this ⊢
      exact List.append_cancel_left this
    obtain ⟨h6, h7, h8⟩ := hf h1 h _ h3 (hr k hk) h5
    refine ⟨h7, by rw [h8, h2, L.step], fun i hi => ?_⟩
    by_cases e : i = k
    · simp [e, h6]
    · simp [e]; exact h3 i (by omega)

theorem lays_plain64 : Lays64 (plB 64) (fun h k => bitsOf (h k) 64) := ⟨fun h => rfl, fun h k => rfl⟩

/-- A value of 64 bits that is taken. -/
theorem taken_plain64 {w w' : World} {b : Nat} {s : ByteArray} {a a' : Nat} {e1 e2 : Int} {x : Nat} (hx : x < 18446744073709551616) (T : Tk w w' b 0 s a e1 a' e2 (bitsOf x 64)) (y : Nat) (r : List Bool) (he : e1 = 0) (hy : y < 18446744073709551616) (hr : (rb s).drop a = bitsOf y 64 ++ r) :
    x = y ∧ e2 = 0 ∧ (rb s).take a' = (rb s).take a ++ bitsOf y 64 := by
  have hl : ((rb s).drop a).length = 64 + r.length := by rw [hr]; simp
  rw [List.length_drop] at hl
  have e2 := T.full he (by rw [bitsOf_length]; omega)
  have h1 := (T.sound e2).2
  have h2 := take_eq_drop' _ _ a a' h1
  rw [hr] at h2
  have h3 := (pbits_inj y x 64 _ _ (by simpa using hy) (by simpa using hx) h2).1
  exact ⟨h3.symm, e2, by rw [h1, h3]⟩

end Go.Proofs.YtleffbpjjbiobaaGreatDoor

/- The contract of Plain's unpacking (64 bits). -/
namespace Go.Proofs.YtleffbpjjbiobaaGreatDoor
open Go.RowKit
open M
set_option linter.unusedVariables false
set_option linter.unusedSimpArgs false

/-- An unpacker's answer: n values in a row of their own; those whose bits the text begins with, if there are such. -/
def ValsEnd64 (bf : (Nat → Nat) → Nat → List Bool) (bs : List Nat) (n : Nat) (w : World) (e : Ending) (w' : World) : Prop :=
  ∃ (g : Nat) (f : Nat → Nat), w.heap.size ≤ g ∧ e = .returned (.tuple #[.slice (some ⟨g, 0, none⟩) n n, .int .i64 0]) ∧ UW64 w' g n n f ∧ (∀ i, i < n → f i < 18446744073709551616) ∧ Below w.heap.size w w' ∧
    ∀ h, Beg64 bf (rbits bs) h n → ∀ i, i < n → f i = h i

set_option maxRecDepth 100000 in
set_option maxHeartbeats 1000000 in
theorem unpackPlain64_any (v : Value) (bs : List Nat) (n : Nat) (w : World) (h : IsBy w v bs) (hb : ∀ n ∈ bs, n < 256) (hl : bs.length ≤ 1000000000000) (hn : n ≤ 4096) :
    Calls Tryz.prog 39 #[v, .int .i64 n] w (ValsEnd64 (plB 64) bs n w) := by
  have H := hide h
  have HB := hide hb
  have HL := hide hl
  have hmk := make_vals64 n hn
  clear h hb hl
  go_enter Tryz.func39, Tryz.ntmps39
  go_wp2_with fail
  refine (from_by w v bs H.out).mono ?_
  rintro e w1 ⟨rfl, hw1⟩
  have HR : Hid (Rd w1 w.heap.size 0 (strOf bs) 0 0 ∧ w1.heap.size = w.heap.size + 1 ∧ Below w.heap.size w w1) := by
    rw [hw1]; exact ⟨rd_new w bs HL.out, by simp, (Below.refl _ _).alloc (Nat.le_refl _) _⟩
  clear hw1
  obtain ⟨b, hbw⟩ : ∃ b, w.heap.size = b := ⟨_, rfl⟩
  have HBW := hide hbw
  obtain ⟨g, hg⟩ : ∃ g, w1.heap.size = g := ⟨_, rfl⟩
  have HA : Hid (Ln64 (plB 64) w1 (w1.alloc (.cells (Array.replicate n (Value.int .u64 0)) 39)) b (strOf bs) g n 0 0 0 (fun _ => 0)) := by
    have hA : Below w1.heap.size w1 (w1.alloc (.cells (Array.replicate n (Value.int .u64 0)) 39)) := (Below.refl _ w1).alloc (Nat.le_refl _) _
    have hbs : b < w1.heap.size := by have := HR.out.2.1; omega
    refine ⟨by rw [← hg]; exact UW64.new w1 n _, by rw [← hbw]; exact HR.out.1.below hA (by omega), ⟨hA.os, hA.tape, hA.output, hA.size, fun k hk _ => hA.block k hk, fun j _ => World.cell?_of_block (hA.block b hbs), fun j => World.frozen?_of_block (w := w1) (a := ⟨b, j, none⟩) (hA.block b hbs)⟩, by rw [← hg]; simp, fun i hi => by omega, fun h hB => ⟨rfl, by simp [plB], fun i hi => by omega⟩⟩
  have hgb : g ≠ b := by have := HR.out.2.1; omega
  have HG : Hid (w1.heap.size ≤ g) := Nat.le_of_eq hg
  rw [hbw]
  clear hbw
  go_upto_region 3 with fail
  (try rw [hg])
  clear hg hmk
  generalize w1.alloc (.cells (Array.replicate n (Value.int .u64 0)) 39) = W0 at *
  go_wp2_with fail
  go_loopw [15] (fun t15 wr => ∃ (k a : Nat) (e1 : Int) (f : Nat → Nat), t15 = .int .i64 (k : Int) ∧ Hid (k ≤ n ∧ Ln64 (plB 64) w1 wr b (strOf bs) g n k a e1 f)) (fun t15 _ => n - (intOf t15).toNat)
  case atStart => exact ⟨0, 0, 0, _, rfl, Nat.zero_le _, HA.out⟩
  case round =>
    obtain ⟨k, a, e1, f, rfl, hI⟩ := hrel
    by_cases hlt : k < n
    · go_wp2_with fail
      refine (takeValue64_any b 0 (strOf bs) a e1 wr hI.out.2.rd).mono ?_
      rintro e w2 ⟨x, a', e2, rfl, hx, T⟩
      have NX := Ln64.next lays_plain64 hlt HG.out hgb hI.out.2 x hx T.rd T.only (fun he h r hh hk hr => taken_plain64 hx T (h k) r he hk hr)
      have RW := hI.out.2.row.ofBlock (T.only.block g hI.out.2.size hgb)
      have c2 : w2.cell? ⟨g, k, none⟩ = some (.int .u64 0) := by rw [RW.cell k hlt, if_neg (by omega)]; rfl
      have c3 := RW.fz k
      have HNX := hide NX
      clear NX RW T
      go_wp2_with fail
      go_roundw
      case rel => exact ⟨k + 1, a', e2, _, by simp, hlt, HNX.out⟩
      case measure => simp [intOf]; omega
    · have hk : k = n := by have := hI.out.1; omega
      have hI' : Hid (Ln64 (plB 64) w1 wr b (strOf bs) g n n a e1 f) := by have := hI.out.2; rw [hk] at this; exact this
      go_wp2_with fail
      go_ret2
      refine ⟨g, f, ?_, rfl, hI'.out.row, hI'.out.rng, ?_, fun h hB i hi => ?_⟩
      · have := HR.out.2.1; have := HG.out; omega
      · have := hI'.out.only.below (B := w.heap.size) (by have := HBW.out; omega) (by have := HR.out.2.1; omega)
        exact HR.out.2.2.trans this
      · exact (hI'.out.full h (by rw [rb_strOf bs HB.out]; exact hB)).2.2 i hi

end Go.Proofs.YtleffbpjjbiobaaGreatDoor

namespace Go.Proofs.YtleffbpjjbiobaaGreatDoor
open Go.RowKit
open M
set_option linter.unusedVariables false
set_option linter.unusedSimpArgs false

theorem drop_of_take {R l r : List Bool} {a a' : Nat} (h : R.take a' = R.take a ++ l) (hr : R.drop a = l ++ r) : R.drop a' = r := by
  have h1 := List.take_append_drop a' R
  have h2 := List.take_append_drop a R
  rw [h] at h1
  rw [hr, ← List.append_assoc] at h2
  exact List.append_cancel_left (h1.trans h2.symm)

/-- A reading: its state behind it; what stood there it took. -/
structure Hk {α : Type} (lay : α → List Bool) (ok : α → Prop) (w w' : World) (b off : Nat) (s : ByteArray) (a : Nat) (e0 : Int) (x : α) (a' : Nat) (e1 : Int) : Prop where
  rd : Rd w' b off s a' e1
  only : Only b off (off + 3) w w'
  hit : e0 = 0 → ∀ y r, ok y → (rb s).drop a = lay y ++ r → x = y ∧ e1 = 0 ∧ (rb s).take a' = (rb s).take a ++ lay y

theorem Hk.drop {α : Type} {lay : α → List Bool} {ok : α → Prop} {w w' : World} {b off : Nat} {s : ByteArray} {a : Nat} {e0 : Int} {x : α} {a' : Nat} {e1 : Int} (h : Hk lay ok w w' b off s a e0 x a' e1) (he : e0 = 0) (y : α) (r : List Bool) (hy : ok y) (hr : (rb s).drop a = lay y ++ r) :
    x = y ∧ e1 = 0 ∧ (rb s).drop a' = r := by
  obtain ⟨h1, h2, h3⟩ := h.hit he y r hy hr
  exact ⟨h1, h2, drop_of_take h3 hr⟩

def BitsHit (n : Nat) (w : World) (b off : Nat) (s : ByteArray) (a : Nat) (e0 : Int) (e : Ending) (w' : World) : Prop :=
  ∃ (x a' : Nat) (e1 : Int), e = .returned (.int .u64 (x : Int)) ∧ x < 2 ^ n ∧ Hk (fun y => bitsOf y n) (fun y => y < 2 ^ n) w w' b off s a e0 x a' e1

theorem hk_of_tk {w w' : World} {b off n : Nat} {s : ByteArray} {a a' : Nat} {e0 e1 : Int} {x : Nat} (ha : a ≤ 8 * s.size) (hx : x < 2 ^ n) (T : Tk w w' b off s a e0 a' e1 (bitsOf x n)) : Hk (fun y => bitsOf y n) (fun y => y < 2 ^ n) w w' b off s a e0 x a' e1 := by
  refine ⟨T.rd, T.only, fun he y r hy hr => ?_⟩
  have hr' : (rb s).drop a = bitsOf y n ++ r := hr
  have hl : ((rb s).drop a).length = n + r.length := by rw [hr']; simp
  rw [List.length_drop] at hl
  have e2 : e1 = 0 := T.full he (by rw [bitsOf_length]; rw [rb_length] at hl ⊢; omega)
  have h1 := (T.sound e2).2
  have h2 := take_eq_drop' _ _ a a' h1
  rw [hr'] at h2
  have h3 := (pbits_inj y x n _ _ hy hx h2).1
  exact ⟨h3.symm, e2, by rw [h1, h3]⟩

theorem hk_bits (b off : Nat) (s : ByteArray) (a n : Nat) (e0 : Int) (w : World) (h : Rd w b off s a e0) (hn : n ≤ 64) :
    Calls Tryz.prog 69 #[.pointer (some ⟨b, off, none⟩), .int .i64 n] w (BitsHit n w b off s a e0) :=
  (tk_bits b off s a n e0 w h hn).mono fun e w' ⟨x, a', e1, h1, h2, T⟩ => ⟨x, a', e1, h1, h2, hk_of_tk h.le h2 T⟩

def VarHit (w : World) (b off : Nat) (s : ByteArray) (a : Nat) (e0 : Int) (e : Ending) (w' : World) : Prop :=
  ∃ (x a' : Nat) (e1 : Int), e = .returned (.int .u64 (x : Int)) ∧ x < 18446744073709551616 ∧ Hk varB (fun y => y < 18446744073709551616) w w' b off s a e0 x a' e1

theorem hk_var (b off : Nat) (s : ByteArray) (a : Nat) (e0 : Int) (w : World) (h : Rd w b off s a e0) :
    Calls Tryz.prog 67 #[.pointer (some ⟨b, off, none⟩)] w (VarHit w b off s a e0) := by
  by_cases he : e0 = 0
  · subst he
    rcases var_cases s a with ⟨x, en, hr, hx, hen, ht⟩ | ⟨c, hc, hr⟩
    · refine (rvar_ok b off s a x en w h hr (hen h.le)).mono fun e w' ⟨h1, h2, h3⟩ => ?_
      refine ⟨x, en, 0, h1, hx, h2, h3, fun _ y r hy hd => ?_⟩
      rw [hd, varB_read y a r hy] at hr
      simp only [Prod.mk.injEq] at hr
      exact ⟨hr.1.symm, rfl, by rw [ht, ← hr.1]⟩
    · refine (rvar_err b off s a c w h hr hc).mono fun e w' ⟨h1, h2, h3⟩ => ?_
      refine ⟨0, a, c, h1, by omega, h2, h3, fun _ y r hy hd => ?_⟩
      rw [hd, varB_read y a r hy] at hr
      simp only [Prod.mk.injEq] at hr
      omega
  · refine (rvar_bad b off s a e0 w h (by rw [beq_eq_false_iff_ne]; exact he)).mono fun e w' ⟨h1, h2, h3⟩ => ?_
    exact ⟨0, a, e0, h1, by omega, h2, h3, fun h => absurd h he⟩

def ZigHit (w : World) (b off : Nat) (s : ByteArray) (a : Nat) (e0 : Int) (e : Ending) (w' : World) : Prop :=
  ∃ (x : Int) (a' : Nat) (e1 : Int), e = .returned (.int .i64 x) ∧ (-9223372036854775808 ≤ x ∧ x ≤ 9223372036854775807) ∧ Hk (fun y => varB (zig y)) (fun y => -9223372036854775808 ≤ y ∧ y ≤ 9223372036854775807) w w' b off s a e0 x a' e1

theorem hk_zig (b off : Nat) (s : ByteArray) (a : Nat) (e0 : Int) (w : World) (h : Rd w b off s a e0) :
    Calls Tryz.prog 72 #[.pointer (some ⟨b, off, none⟩)] w (ZigHit w b off s a e0) := by
  by_cases he : e0 = 0
  · subst he
    rcases var_cases s a with ⟨x, en, hr, hx, hen, ht⟩ | ⟨c, hc, hr⟩
    · refine (rzig_of b off w x hx _ (rvar_ok b off s a x en w h hr (hen h.le))).mono fun e w' ⟨h1, h2, h3⟩ => ?_
      refine ⟨zag x, en, 0, h1, zag_range x hx, h2, h3, fun _ y r hy hd => ?_⟩
      rw [hd, varB_read (zig y) a r (zig_lt y hy.1 hy.2)] at hr
      simp only [Prod.mk.injEq] at hr
      exact ⟨by rw [← hr.1, zag_zig], rfl, by rw [ht, ← hr.1]⟩
    · refine (rzig_of b off w 0 (by omega) _ (rvar_err b off s a c w h hr hc)).mono fun e w' ⟨h1, h2, h3⟩ => ?_
      refine ⟨zag 0, a, c, h1, zag_range 0 (by omega), h2, h3, fun _ y r hy hd => ?_⟩
      rw [hd, varB_read (zig y) a r (zig_lt y hy.1 hy.2)] at hr
      simp only [Prod.mk.injEq] at hr
      omega
  · refine (rzig_of b off w 0 (by omega) _ (rvar_bad b off s a e0 w h (by rw [beq_eq_false_iff_ne]; exact he))).mono fun e w' ⟨h1, h2, h3⟩ => ?_
    exact ⟨zag 0, a, e0, h1, zag_range 0 (by omega), h2, h3, fun h => absurd h he⟩

end Go.Proofs.YtleffbpjjbiobaaGreatDoor

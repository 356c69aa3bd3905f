/- The contract of Plain's unpacking (64 bits). -/
import Derived.Test.YtpdaklklhoenhaaGreatDoorC3C64
import Derived.Test.YtpdaklklhoenhaaGreatDoorC1S64
import Derived.Test.YtpdaklklhoenhaaGreatDoorE2A
import Derived.Test.YtpdaklklhoenhaaGreatDoorC1M
/- The contract of Decimal's packing (64 bits). -/
namespace Go.Proofs.YtpdaklklhoenhaaGreatDoor
open Go.RowKit
open M
set_option linter.unusedVariables false
set_option linter.unusedSimpArgs false

theorem dm_len64 (f : Nat → Nat) (n : Nat) : (F64.dm 64 f n).length ≤ 85 + 224 * n := by
  unfold Dm.dm
  have h1 := varB_le (F64.cnt (F64.bs f n F64.mostP).1 f 0 n)
  have h2 := F64.nt_len 64 (F64.bs f n F64.mostP).1 (by omega) f 0 n 0 varB_le
  have h3 := F64.wb_len (F64.bs f n F64.mostP).1 f 0 n 0 varB_le
  simp only [List.length_append, bitsOf_length]
  omega

set_option maxRecDepth 100000 in
set_option maxHeartbeats 1000000 in
theorem packDecimal64_any (q : Option Addr) (n cap : Nat) (f : Nat → Nat) (w : World) (h : URow64 w q n f) (hn : n ≤ 4096) (hcap : n ≤ cap) (hf : ∀ i, i < n → f i < 18446744073709551616) :
    Calls Tryz.prog 136 #[.slice q n cap] w (RowEnd64 (F64.dm 64 f n) w) := by
  have H := hide h
  have HF := hide hf
  have HBS := hide (bestScale64_any q n cap f w h hn hcap hf)
  obtain ⟨p, hp⟩ : ∃ p, (F64.bs f n 22).1 = p := ⟨_, rfl⟩
  have hp22 : p ≤ 22 := by rw [← hp]; exact F64.bs_le f n 22
  rw [hp] at HBS
  have HDM : Hid (F64.dm 64 f n = bitsOf p 5 ++ (varB (F64.cnt p f 0 n) ++ (F64.nt 64 p f 0 n 0 ++ F64.wb p f 0 n 0))) := by
    show _ = _
    unfold Dm.dm
    rw [show F64.mostP = 22 from rfl, hp]
  have HLN := hide (fun lo g L w1 h1 h2 h3 h4 h5 h6 => layNothings64_any p q n cap f lo g L w1 h1 h2 hn hcap hf h3 h4 h5 h6)
  have HLW := hide (fun lo g L w1 h1 h2 h3 h4 h5 h6 => layWholes64_any p q n cap f lo g L w1 h1 h2 hn hcap hf h3 h4 h5 h6)
  clear hp h hf
  unfold scV64 at *
  obtain ⟨P, hP⟩ : ∃ P, F64.pow p = P := ⟨_, rfl⟩
  rw [hP] at HBS HLN HLW
  clear hP
  go_enter Tryz.func136, Tryz.ntmps136
  go_wp2_with fail
  refine HBS.out.mono ?_
  rintro e w1 ⟨rfl, B1⟩
  obtain ⟨g4, hg4⟩ : ∃ g4, w1.heap.size = g4 := ⟨_, rfl⟩
  obtain ⟨W2, hW2⟩ : ∃ W2, W2 = w1.alloc (.cells #[.int .i64 (p : Int), .int .u64 (P : Int)] 195) := ⟨_, rfl⟩
  have H2 : Hid (Below w.heap.size w W2 ∧ W2.heap[g4]? = some (.cells #[.int .i64 (p : Int), .int .u64 (P : Int)] 195 (0, 0)) ∧ W2.heap.size = g4 + 1) := by
    have hs := B1.size
    refine ⟨B1.trans (by rw [hW2]; exact (Below.refl _ w1).alloc (by omega) _), by rw [hW2, ← hg4]; exact heap_alloc_new w1 _, by rw [hW2, ← hg4]; simp⟩
  have HW4 : Hid (w.heap.size ≤ g4) := by have := B1.size; show w.heap.size ≤ g4; omega
  clear B1
  go_upto_region 2 with fail
  (try rw [hg4])
  (try rw [← hW2])
  clear hW2 hg4
  obtain ⟨g, hg⟩ : ∃ g, g = W2.heap.size := ⟨_, rfl⟩
  obtain ⟨W3, hW3⟩ : ∃ W3, W3 = W2.alloc (.cells zW 101) := ⟨_, rfl⟩
  have H3 : Hid (Wr W3 (g + 1) g 0 [] 0 ∧ g + 1 ≤ W3.heap.size ∧ Below w.heap.size w W3 ∧ W3.heap[g4]? = some (.cells #[.int .i64 (p : Int), .int .u64 (P : Int)] 195 (0, 0)) ∧ g4 < g ∧ w.heap.size ≤ g) := by
    have B3 : Below g W2 W3 := by rw [hW3, hg]; exact (Below.refl _ W2).alloc (Nat.le_refl _) _
    have := H2.out.2.2
    have := HW4.out
    refine ⟨by rw [hg, hW3]; exact wr_of (heap_alloc_new W2 _), by rw [hW3, hg]; simp, H2.out.1.trans (B3.mono (by omega)), by rw [B3.block g4 (by omega)]; exact H2.out.2.1, by omega, by omega⟩
  refine wp_region_list ?_
  refine wpList_build rfl 101 #[] rfl (by kernel_rfl) ?_
  simp only [Array.map_empty]
  rw [zW_built]
  refine Go.Great.wpList_boxTo rfl 101 (.tmp 8) rfl (some 9) rfl g hg.symm zW rfl ?_
  rw [← hW3]
  clear hW3 hg
  have c0 : W3.cell? ⟨g4, 0, none⟩ = some (.int .i64 (p : Int)) := cell_of_row _ _ 0 _ _ _ H3.out.2.2.2.1
  have r0 : IntKind.u64.wrap (p : Int) = (p : Int) := by rw [IntKind.wrap_u64]; omega
  have HQ : Hid (∀ b o, q = some ⟨b, o, none⟩ → 0 < n → b ≠ g) := fun b o hq h0 => by
    obtain ⟨b', o', hp', hc⟩ := H.out h0
    rw [hq] at hp'
    simp only [Option.some.injEq, Addr.mk.injEq] at hp'
    have h3 : b' < w.heap.size := block_lt_of_cell (hc 0 h0)
    have := H3.out.2.2.2.2.2
    omega
  have HRW : Hid (∀ wr, Only g 0 123 W3 wr → URow64 wr q n f ∧ wr.heap[g4]? = some (.cells #[.int .i64 (p : Int), .int .u64 (P : Int)] 195 (0, 0)) ∧ g + 1 ≤ wr.heap.size) := fun wr hO => by
    have h1 := H3.out
    refine ⟨fun h0 => ?_, by rw [hO.block g4 (by omega) (by omega)]; exact h1.2.2.2.1, by have := hO.size; omega⟩
    obtain ⟨b, o, hp', hc⟩ := H.out h0
    have hb : b < w.heap.size := block_lt_of_cell (hc 0 h0)
    exact ⟨b, o, hp', fun i hi => by rw [World.cell?_of_block (w := W3) (hO.block b (by omega) (by omega)), h1.2.2.1.cell (p := ⟨b, o + i, none⟩) hb]; exact hc i hi⟩
  go_wp2_with fail
  refine (wbits_any g 0 (g + 1) 5 p W3 [] H3.out.1 (by omega) H3.out.2.1 (by simp) (by omega) (by omega) (by omega)).mono ?_
  rintro e w4 ⟨rfl, W4, O4⟩
  have H4 : Hid (Wr w4 (g + 1) g 0 (bitsOf p 5) 0 ∧ Only g 0 123 W3 w4) := ⟨by simpa using W4, O4⟩
  clear W4 O4
  obtain ⟨h5a, h5b, h5c⟩ := HRW.out w4 H4.out.2
  have c1 : w4.cell? ⟨g4, 0, none⟩ = some (.int .i64 (p : Int)) := cell_of_row _ _ 0 _ _ _ h5b
  have c2 : w4.cell? ⟨g4, 1, none⟩ = some (.int .u64 (P : Int)) := cell_of_row _ _ 1 _ _ _ h5b
  have HN := hide (HLN.out (g + 1) g (bitsOf p 5) w4 h5a HQ H4.out.1 (by omega) h5c (by simp))
  clear h5a h5b h5c c0
  go_wp2_with fail
  refine HN.out.mono ?_
  rintro e w5 ⟨rfl, W5, O5⟩
  have H5 : Hid (Wr w5 (g + 1) g 0 (bitsOf p 5 ++ (varB (F64.cnt p f 0 n) ++ F64.nt 64 p f 0 n 0)) 0 ∧ Only g 0 123 W3 w5) := ⟨W5, H4.out.2.trans O5⟩
  clear W5 O5 c1 c2
  obtain ⟨h5a, h5b, h5c⟩ := HRW.out w5 H5.out.2
  have c1 : w5.cell? ⟨g4, 0, none⟩ = some (.int .i64 (p : Int)) := cell_of_row _ _ 0 _ _ _ h5b
  have c2 : w5.cell? ⟨g4, 1, none⟩ = some (.int .u64 (P : Int)) := cell_of_row _ _ 1 _ _ _ h5b
  have HN2 := hide (HLW.out (g + 1) g _ w5 h5a HQ H5.out.1 (by omega) h5c (by
    have h1 := varB_le (F64.cnt p f 0 n)
    have h2 := F64.nt_len 64 p (by omega) f 0 n 0 varB_le
    simp only [List.length_append, bitsOf_length]
    omega))
  clear h5a h5b h5c
  go_wp2_with fail
  refine HN2.out.mono ?_
  rintro e w6 ⟨rfl, W6, O6⟩
  have H6 : Hid (Wr w6 (g + 1) g 0 (F64.dm 64 f n) 0 ∧ Only g 0 123 W3 w6 ∧ g + 1 ≤ w6.heap.size) := by
    refine ⟨?_, H5.out.2.trans O6, (HRW.out w6 (H5.out.2.trans O6)).2.2⟩
    rw [HDM.out]
    simpa only [List.append_assoc] using W6
  clear W6 O6 c1 c2
  have HLB : Hid ((F64.dm 64 f n).length < 1000000000000) := by have := dm_len64 f n; show _ < _; omega
  obtain ⟨l, hl⟩ : ∃ l, F64.dm 64 f n = l := ⟨_, rfl⟩
  rw [hl] at H6 HLB
  have HLE := hide hl
  clear hl
  go_wp2_with fail
  refine (wdone_packed g 0 (g + 1) w6 _ H6.out.1 H6.out.2.2 HLB.out _ rfl).mono ?_
  rintro e w9 ⟨rfl, G9, B9⟩
  have HG9 := hide G9
  have HB9 := hide B9
  clear G9 B9
  go_wp2_with fail
  go_ret2
  have e3 := H3.out.2.2.1
  have e4 := H3.out.2.2.2.2.2
  have e5 := H6.out.2.1.below (B := w.heap.size) (by omega) (by have := e3.size; omega)
  rw [HLE.out]
  refine ⟨w6.heap.size, (l.length + 7) / 8, (packed_length _).symm, ?_, rfl, HG9.out, ?_⟩
  · have := e5.size; have := e3.size; omega
  · exact (e3.trans e5).trans (HB9.out.mono (by have := e5.size; have := e3.size; omega))

end Go.Proofs.YtpdaklklhoenhaaGreatDoor

/- Values that are taken one by one, whatever the coding (64 bits): what is known of them where the text begins with a column's bits. -/
namespace Go.Proofs.YtpdaklklhoenhaaGreatDoor
open Go.RowKit
open M
set_option linter.unusedVariables false
set_option linter.unusedSimpArgs false

/-- A coding that lays value after value. -/
structure Lays64 (bf : (Nat → Nat) → Nat → List Bool) (one : (Nat → Nat) → Nat → List Bool) : Prop where
  nil : ∀ h, bf h 0 = []
  step : ∀ h k, bf h (k + 1) = bf h k ++ one h k

theorem Lays64.begins {bf one : (Nat → Nat) → Nat → List Bool} (L : Lays64 bf one) (h : Nat → Nat) (k n : Nat) (hk : k ≤ n) : ∃ r, bf h n = bf h k ++ r := by
  induction n with
  | zero => exact ⟨[], by rw [show k = 0 from by omega]; simp⟩
  | succ n ih =>
    by_cases e : k = n + 1
    · exact ⟨[], by rw [e]; simp⟩
    · obtain ⟨r, hr⟩ := ih (by omega)
      exact ⟨r ++ one h n, by rw [L.step, hr, List.append_assoc]⟩

/-- The text begins with the bits of n values. -/
def Beg64 (bf : (Nat → Nat) → Nat → List Bool) (R : List Bool) (h : Nat → Nat) (n : Nat) : Prop := (∀ i, i < n → h i < 18446744073709551616) ∧ ∃ r, R = bf h n ++ r

/-- k of n values are taken. -/
structure Ln64 (bf : (Nat → Nat) → Nat → List Bool) (w wr : World) (b : Nat) (s : ByteArray) (g n k a : Nat) (e1 : Int) (f : Nat → Nat) : Prop where
  row : UW64 wr g n k f
  rd : Rd wr b 0 s a e1
  only : Only b 0 3 w wr
  size : g < wr.heap.size
  rng : ∀ i, i < k → f i < 18446744073709551616
  full : ∀ h, Beg64 bf (rb s) h n → e1 = 0 ∧ (rb s).take a = bf h k ∧ ∀ i, i < k → f i = h i

/-- One value more. -/
theorem Ln64.next {bf one : (Nat → Nat) → Nat → List Bool} (L : Lays64 bf one) {w wr w2 : World} {b : Nat} {s : ByteArray} {g n k a a' : Nat} {e1 e2 : Int} {f : Nat → Nat} (hk : k < n) (hg : w.heap.size ≤ g) (hgb : g ≠ b) (T : Ln64 bf w wr b s g n k a e1 f)
    (x : Nat) (hx : x < 18446744073709551616) (hR : Rd w2 b 0 s a' e2) (hO : Only b 0 3 wr w2)
    (hf : e1 = 0 → ∀ h r, (∀ i, i < k → f i = h i) → h k < 18446744073709551616 → (rb s).drop a = one h k ++ r → x = h k ∧ e2 = 0 ∧ (rb s).take a' = (rb s).take a ++ one h k) :
    Ln64 bf w (w2.setCell ⟨g, k, none⟩ (.int .u64 (x : Int))) b s g n (k + 1) a' e2 (fun i => if i = k then x else f i) := by
  have hs2 := hO.size
  have hsz := T.size
  refine ⟨(T.row.ofBlock (hO.block g hsz hgb)).set hk x, hR.setOther' g _ hgb _, (T.only.trans hO).setOther' g _ hg hgb _, by simp [World.setCell]; omega, fun i hi => ?_, fun h hB => ?_⟩
  · by_cases e : i = k
    · simp [e, hx]
    · simp [e]; exact T.rng i (by omega)
  · obtain ⟨h1, h2, h3⟩ := T.full h hB
    obtain ⟨hr, r, hRR⟩ := hB
    obtain ⟨r1, h4⟩ := L.begins h (k + 1) n (by omega)
    rw [h4, L.step, List.append_assoc, List.append_assoc] at hRR
    have h5 : (rb s).drop a = one h k ++ (r1 ++ r) := by
      have := List.take_append_drop a (rb s)
      rw [h2] at this
      rw [hRR] at this ⊢
      exact List.append_cancel_left this
    obtain ⟨h6, h7, h8⟩ := hf h1 h _ h3 (hr k hk) h5
    refine ⟨h7, by rw [h8, h2, L.step], fun i hi => ?_⟩
    by_cases e : i = k
    · simp [e, h6]
    · simp [e]; exact h3 i (by omega)

theorem lays_plain64 : Lays64 (plB 64) (fun h k => bitsOf (h k) 64) := ⟨fun h => rfl, fun h k => rfl⟩

/-- A value of 64 bits that is taken. -/
theorem taken_plain64 {w w' : World} {b : Nat} {s : ByteArray} {a a' : Nat} {e1 e2 : Int} {x : Nat} (hx : x < 18446744073709551616) (T : Tk w w' b 0 s a e1 a' e2 (bitsOf x 64)) (y : Nat) (r : List Bool) (he : e1 = 0) (hy : y < 18446744073709551616) (hr : (rb s).drop a = bitsOf y 64 ++ r) :
    x = y ∧ e2 = 0 ∧ (rb s).take a' = (rb s).take a ++ bitsOf y 64 := by
  have hl : ((rb s).drop a).length = 64 + r.length := by rw [hr]; simp
  rw [List.length_drop] at hl
  have e2 := T.full he (by rw [bitsOf_length]; omega)
  have h1 := (T.sound e2).2
  have h2 := take_eq_drop' _ _ a a' h1
  rw [hr] at h2
  have h3 := (pbits_inj y x 64 _ _ (by simpa using hy) (by simpa using hx) h2).1
  exact ⟨h3.symm, e2, by rw [h1, h3]⟩

end Go.Proofs.YtpdaklklhoenhaaGreatDoor

namespace Go.Proofs.YtpdaklklhoenhaaGreatDoor
open Go.RowKit
open M
set_option linter.unusedVariables false
set_option linter.unusedSimpArgs false

/-- An unpacker's answer: n values in a row of their own; those whose bits the text begins with, if there are such. -/
def ValsEnd64 (bf : (Nat → Nat) → Nat → List Bool) (bs : List Nat) (n : Nat) (w : World) (e : Ending) (w' : World) : Prop :=
  ∃ (g : Nat) (f : Nat → Nat), w.heap.size ≤ g ∧ e = .returned (.tuple #[.slice (some ⟨g, 0, none⟩) n n, .int .i64 0]) ∧ UW64 w' g n n f ∧ (∀ i, i < n → f i < 18446744073709551616) ∧ Below w.heap.size w w' ∧
    ∀ h, Beg64 bf (rbits bs) h n → ∀ i, i < n → f i = h i

set_option maxRecDepth 100000 in
set_option maxHeartbeats 1000000 in
theorem unpackPlain64_any (v : Value) (bs : List Nat) (n : Nat) (w : World) (h : IsBy w v bs) (hb : ∀ n ∈ bs, n < 256) (hl : bs.length ≤ 1000000000000) (hn : n ≤ 4096) :
    Calls Tryz.prog 119 #[v, .int .i64 n] w (ValsEnd64 (plB 64) bs n w) := by
  have H := hide h
  have HB := hide hb
  have HL := hide hl
  have hmk := make_vals64 n hn
  clear h hb hl
  go_enter Tryz.func119, Tryz.ntmps119
  go_wp2_with fail
  refine (from_by w v bs H.out).mono ?_
  rintro e w1 ⟨rfl, hw1⟩
  have HR : Hid (Rd w1 w.heap.size 0 (strOf bs) 0 0 ∧ w1.heap.size = w.heap.size + 1 ∧ Below w.heap.size w w1) := by
    rw [hw1]; exact ⟨rd_new w bs HL.out, by simp, (Below.refl _ _).alloc (Nat.le_refl _) _⟩
  clear hw1
  obtain ⟨b, hbw⟩ : ∃ b, w.heap.size = b := ⟨_, rfl⟩
  have HBW := hide hbw
  obtain ⟨g, hg⟩ : ∃ g, w1.heap.size = g := ⟨_, rfl⟩
  have HA : Hid (Ln64 (plB 64) w1 (w1.alloc (.cells (Array.replicate n (Value.int .u64 0)) 41)) b (strOf bs) g n 0 0 0 (fun _ => 0)) := by
    have hA : Below w1.heap.size w1 (w1.alloc (.cells (Array.replicate n (Value.int .u64 0)) 41)) := (Below.refl _ w1).alloc (Nat.le_refl _) _
    have hbs : b < w1.heap.size := by have := HR.out.2.1; omega
    refine ⟨by rw [← hg]; exact UW64.new w1 n _, by rw [← hbw]; exact HR.out.1.below hA (by omega), ⟨hA.os, hA.tape, hA.output, hA.size, fun k hk _ => hA.block k hk, fun j _ => World.cell?_of_block (hA.block b hbs), fun j => World.frozen?_of_block (w := w1) (a := ⟨b, j, none⟩) (hA.block b hbs)⟩, by rw [← hg]; simp, fun i hi => by omega, fun h hB => ⟨rfl, by simp [plB], fun i hi => by omega⟩⟩
  have hgb : g ≠ b := by have := HR.out.2.1; omega
  have HG : Hid (w1.heap.size ≤ g) := Nat.le_of_eq hg
  rw [hbw]
  clear hbw
  go_upto_region 3 with fail
  (try rw [hg])
  clear hg hmk
  generalize w1.alloc (.cells (Array.replicate n (Value.int .u64 0)) 41) = W0 at *
  go_wp2_with fail
  go_loopw [15] (fun t15 wr => ∃ (k a : Nat) (e1 : Int) (f : Nat → Nat), t15 = .int .i64 (k : Int) ∧ Hid (k ≤ n ∧ Ln64 (plB 64) w1 wr b (strOf bs) g n k a e1 f)) (fun t15 _ => n - (intOf t15).toNat)
  case atStart => exact ⟨0, 0, 0, _, rfl, Nat.zero_le _, HA.out⟩
  case round =>
    obtain ⟨k, a, e1, f, rfl, hI⟩ := hrel
    by_cases hlt : k < n
    · go_wp2_with fail
      refine (takeValue64_any b 0 (strOf bs) a e1 wr hI.out.2.rd).mono ?_
      rintro e w2 ⟨x, a', e2, rfl, hx, T⟩
      have NX := Ln64.next lays_plain64 hlt HG.out hgb hI.out.2 x hx T.rd T.only (fun he h r hh hk hr => taken_plain64 hx T (h k) r he hk hr)
      have RW := hI.out.2.row.ofBlock (T.only.block g hI.out.2.size hgb)
      have c2 : w2.cell? ⟨g, k, none⟩ = some (.int .u64 0) := by rw [RW.cell k hlt, if_neg (by omega)]; rfl
      have c3 := RW.fz k
      have HNX := hide NX
      clear NX RW T
      go_wp2_with fail
      go_roundw
      case rel => exact ⟨k + 1, a', e2, _, by simp, hlt, HNX.out⟩
      case measure => simp [intOf]; omega
    · have hk : k = n := by have := hI.out.1; omega
      have hI' : Hid (Ln64 (plB 64) w1 wr b (strOf bs) g n n a e1 f) := by have := hI.out.2; rw [hk] at this; exact this
      go_wp2_with fail
      go_ret2
      refine ⟨g, f, ?_, rfl, hI'.out.row, hI'.out.rng, ?_, fun h hB i hi => ?_⟩
      · have := HR.out.2.1; have := HG.out; omega
      · have := hI'.out.only.below (B := w.heap.size) (by have := HBW.out; omega) (by have := HR.out.2.1; omega)
        exact HR.out.2.2.trans this
      · exact (hI'.out.full h (by rw [rb_strOf bs HB.out]; exact hB)).2.2 i hi

end Go.Proofs.YtpdaklklhoenhaaGreatDoor

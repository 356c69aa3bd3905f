/- The walk of BitsReads. -/
import Derived.Test.YtpiiagjfimdflaaRi
namespace Go.Proofs.Ytpiiagjfimdflaa
open Go.RowKit
open M
set_option linter.unusedVariables false

theorem Two.eqN {R V : Nat} {w w1 w2 : World} {m : Nat} (h : Two R V w w1) (hw : w2 = w1.drewN m) : Two R V w w2 := by rw [hw]; exact h.more (drewN_below _ _ _)
theorem Pair.eqN {R V hi : Nat} {s : ByteArray} {a : Nat} {e : Int} {w1 w2 : World} {m : Nat} (h : Pair w1 R V hi s a e) (hw : w2 = w1.drewN m) : Pair w2 R V hi s a e := by rw [hw]; exact h.below (drewN_below _ _ _)

def StK (w : World) (A0 A1 A2 : Value) (s0 s1 : ByteArray) (k : Nat) (wr : World) : Prop :=
  (k = 0 ∧ St0 w A0 A1 A2 wr) ∨ (k = 1 ∧ St1 w A0 A1 A2 s0 wr) ∨ (k = 2 ∧ ∃ R0 V0 h0 R1 V1 h1, St2 w A0 A1 A2 s0 s1 R0 V0 h0 R1 V1 h1 wr)

theorem StK.zero {w : World} {A0 A1 A2 : Value} {s0 s1 : ByteArray} {wr : World} (h : StK w A0 A1 A2 s0 s1 0 wr) : St0 w A0 A1 A2 wr := by
  rcases h with ⟨_, h⟩ | ⟨h, _⟩ | ⟨h, _⟩
  · exact h
  · omega
  · omega
theorem StK.one {w : World} {A0 A1 A2 : Value} {s0 s1 : ByteArray} {wr : World} (h : StK w A0 A1 A2 s0 s1 1 wr) : St1 w A0 A1 A2 s0 wr := by
  rcases h with ⟨h, _⟩ | ⟨_, h⟩ | ⟨h, _⟩
  · omega
  · exact h
  · omega
theorem StK.two {w : World} {A0 A1 A2 : Value} {s0 s1 : ByteArray} {wr : World} (h : StK w A0 A1 A2 s0 s1 2 wr) : ∃ R0 V0 h0 R1 V1 h1, St2 w A0 A1 A2 s0 s1 R0 V0 h0 R1 V1 h1 wr := by
  rcases h with ⟨h, _⟩ | ⟨h, _⟩ | ⟨_, h⟩
  · omega
  · omega
  · exact h

set_option maxRecDepth 100000 in
set_option maxHeartbeats 8000000 in
theorem reads_any (p0 p1 : Option Addr) (l0 c0 l1 c1 : Nat) (B0 B1 : List Nat) (a0 : Option Addr) (b off len cap : Nat) (d n m : Nat → Int) (x : Nat → Nat) (w : World)
    (hI0 : IsBy w (.slice p0 l0 c0) B0) (hI1 : IsBy w (.slice p1 l1 c1) B1) (hl0 : B0.length = l0) (hl1 : B1.length = l1) (hb0 : ∀ n ∈ B0, n < 256) (hb1 : ∀ n ∈ B1, n < 256)
    (hlen : len ≤ 9223372036854775807) (ha0 : 0 < len → a0 = some ⟨b, off, none⟩ ∧ b < w.heap.size) (hops : ∀ i, i < len → OpAt w b (off + i * 4) (d i) (n i) (m i) (x i)) :
    Calls Try.prog 4 #[.agg #[.slice p0 l0 c0, .slice p1 l1 c1, .slice a0 len cap]] w fun e w' => e = .returned (.bool true) ∧ Below w.heap.size w w' := by
  have HO : Hid (∀ i, i < len → OpAt w b (off + i * 4) (d i) (n i) (m i) (x i)) := hops
  have HA0 : Hid (0 < len → a0 = some ⟨b, off, none⟩ ∧ b < w.heap.size) := ha0
  have HI0 : Hid (IsBy w (.slice p0 l0 c0) B0 ∧ B0.length = l0 ∧ ∀ n ∈ B0, n < 256) := ⟨hI0, hl0, hb0⟩
  have HI1 : Hid (IsBy w (.slice p1 l1 c1) B1 ∧ B1.length = l1 ∧ ∀ n ∈ B1, n < 256) := ⟨hI1, hl1, hb1⟩
  clear hops ha0 hI0 hI1 hl0 hl1 hb0 hb1
  obtain ⟨ws, hws⟩ : ∃ ws, ws = ((w.alloc (.cells #[.slice p0 l0 c0, .slice p1 l1 c1, .slice a0 len cap] 76)).alloc (.cells #[.pointer none, .pointer none] 78)).alloc (.cells #[.pointer none, .pointer none] 80) := ⟨_, rfl⟩
  have S0 : Hid (St0 w (.slice p0 l0 c0) (.slice p1 l1 c1) (.slice a0 len cap) ws) := by
    have e1 : (w.alloc (.cells #[.slice p0 l0 c0, .slice p1 l1 c1, .slice a0 len cap] 76)).heap[w.heap.size]? = some (.cells #[.slice p0 l0 c0, .slice p1 l1 c1, .slice a0 len cap] 76 (0, 0)) := heap_alloc_new _ _
    have z1 : (w.alloc (.cells #[.slice p0 l0 c0, .slice p1 l1 c1, .slice a0 len cap] 76)).heap.size = w.heap.size + 1 := by simp
    have b1 : Below w.heap.size w (w.alloc (.cells #[.slice p0 l0 c0, .slice p1 l1 c1, .slice a0 len cap] 76)) := (Below.refl _ _).alloc (Nat.le_refl _) _
    generalize w.alloc (.cells #[.slice p0 l0 c0, .slice p1 l1 c1, .slice a0 len cap] 76) = w1 at *
    have e2 : (w1.alloc (.cells #[.pointer none, .pointer none] 78)).heap[w1.heap.size]? = some (.cells #[.pointer none, .pointer none] 78 (0, 0)) := heap_alloc_new _ _
    have z2 : (w1.alloc (.cells #[.pointer none, .pointer none] 78)).heap.size = w1.heap.size + 1 := by simp
    have b2 : Below w1.heap.size w1 (w1.alloc (.cells #[.pointer none, .pointer none] 78)) := (Below.refl _ _).alloc (Nat.le_refl _) _
    generalize w1.alloc (.cells #[.pointer none, .pointer none] 78) = w2 at *
    have e3 : (w2.alloc (.cells #[.pointer none, .pointer none] 80)).heap[w2.heap.size]? = some (.cells #[.pointer none, .pointer none] 80 (0, 0)) := heap_alloc_new _ _
    have z3 : (w2.alloc (.cells #[.pointer none, .pointer none] 80)).heap.size = w2.heap.size + 1 := by simp
    have b3 : Below w2.heap.size w2 (w2.alloc (.cells #[.pointer none, .pointer none] 80)) := (Below.refl _ _).alloc (Nat.le_refl _) _
    rw [← hws] at e3 z3 b3
    clear hws
    rw [z2, z1] at e3
    rw [z1] at e2
    have f1 : ws.heap[w.heap.size]? = some (.cells #[.slice p0 l0 c0, .slice p1 l1 c1, .slice a0 len cap] 76 (0, 0)) := by rw [b3.block _ (by omega), b2.block _ (by omega)]; exact e1
    have f2 : ws.heap[w.heap.size + 1]? = some (.cells #[.pointer none, .pointer none] 78 (0, 0)) := by rw [b3.block _ (by omega)]; exact e2
    refine ⟨⟨?_, ?_, ?_, b1.trans ((b2.mono (by omega)).trans (b3.mono (by omega)))⟩, ⟨?_, ?_, frozen_of_row _ _ _ _ _ f2, frozen_of_row _ _ _ _ _ f2⟩, ⟨?_, ?_, frozen_of_row _ _ _ _ _ e3, frozen_of_row _ _ _ _ _ e3⟩, by omega⟩
    · rw [cell_of_row _ _ _ _ _ _ f1]; rfl
    · rw [cell_of_row _ _ _ _ _ _ f1]; rfl
    · rw [cell_of_row _ _ _ _ _ _ f1]; rfl
    · rw [cell_of_row _ _ _ _ _ _ f2]; rfl
    · rw [cell_of_row _ _ _ _ _ _ f2]; rfl
    · rw [cell_of_row _ _ _ _ _ _ e3]; rfl
    · rw [cell_of_row _ _ _ _ _ _ e3]; rfl
  go_enter Try.func4, Try.ntmps4
  go_wp2
  rw [← hws]
  clear hws
  obtain ⟨s0, hs0⟩ : ∃ s0, s0 = strOf B0 := ⟨_, rfl⟩
  obtain ⟨s1, hs1⟩ : ∃ s1, s1 = strOf B1 := ⟨_, rfl⟩
  have HS0 : Hid (s0 = strOf B0) := hs0
  have HS1 : Hid (s1 = strOf B1) := hs1
  clear hs0 hs1
  generalize hNV : w.heap.size + 1 + 1 = NV
  generalize hNR : w.heap.size + 1 = NR
  have HNV : Hid (w.heap.size + 2 = NV) := hNV
  have HNR : Hid (w.heap.size + 1 = NR) := hNR
  have hneR : NR ≠ w.heap.size := by omega
  have hneV : NV ≠ w.heap.size := by omega
  have hneRV : NR ≠ NV := by omega
  clear hNV hNR
  go_loopw [5] (fun t5 wr => ∃ k : Nat, k ≤ 2 ∧ t5 = .int .i64 k ∧ Hid (StK w (.slice p0 l0 c0) (.slice p1 l1 c1) (.slice a0 len cap) s0 s1 k wr)) (fun t5 _ => 2 - (intOf t5).toNat)
  case atStart => exact ⟨0, by omega, rfl, .inl ⟨rfl, S0.out⟩⟩
  case round =>
    obtain ⟨k, hk, rfl, HP⟩ := hrel
    clear S0
    rcases (show k = 0 ∨ k = 1 ∨ k = 2 from by omega) with rfl | rfl | rfl
    · -- Reader 0
      obtain ⟨C, t1, t2, hz⟩ := HP.out.zero
      have q0 := C.c0
      by_cases hbig : 65536 < l0
      · have hbig' : (65536 : Int) < (l0 : Int) := by omega
        have HB : Hid (Below w.heap.size w wr ∧ w.heap.size ≤ wr.heap.size) := ⟨C.below, by omega⟩
        clear HP C t1 t2
        go_wp2_with fail
        refine (works_any _).mono ?_
        rintro e w1 ⟨rfl, D1⟩
        go_wp2_with fail
        go_ret
        exact ⟨rfl, HB.out.1.trans (D1.mono HB.out.2)⟩
      · have hbig' : ¬ (65536 : Int) < (l0 : Int) := by omega
        obtain ⟨hI, hl, hb256⟩ := HI0.out
        have HIr : Hid (IsBy wr (.slice p0 l0 c0) B0) := isBy_wr hI C.below
        have Hc : Hid (Com w wr (.slice p0 l0 c0) (.slice p1 l1 c1) (.slice a0 len cap) ∧ w.heap.size + 3 ≤ wr.heap.size) := ⟨C, hz⟩
        have Ha1 : Hid (At2 wr NR (.pointer none) (.pointer none)) := by rw [← HNR.out]; exact t1
        have Ha2 : Hid (At2 wr NV (.pointer none) (.pointer none)) := by rw [← HNV.out]; exact t2
        have Hl : Hid (IsBy w (.slice p0 l0 c0) B0 ∧ B0.length = l0 ∧ ∀ n ∈ B0, n < 256) := ⟨hI, hl, hb256⟩
        clear C t1 t2 hI hl hb256 hz
        go_wp2_with fail
        refine (lend_any _ B0 wr HIr.out (by rw [Hl.out.2.1]; omega)).mono ?_
        rintro _ w1 ⟨g, cap1, rfl, L1, D1⟩
        rw [Hl.out.2.1]
        have HL1 : Hid (Lent w1 wr.heap.size g cap1 B0 ∧ Below wr.heap.size wr w1) := ⟨L1, D1⟩
        clear L1 D1 q0
        go_wp2_with fail
        refine (from_any w1 _ B0 (by have := HL1.out.1.bytes; rw [Hl.out.2.1] at this; exact this)).mono ?_
        rintro _ w2 ⟨rfl, hw2⟩
        have HR2 : Hid (Rd w2 w1.heap.size 0 (strOf B0) 0 0 ∧ Below w1.heap.size w1 w2) := ⟨by rw [hw2]; exact rd_new w1 _ (by rw [Hl.out.2.1]; omega), by rw [hw2]; exact (Below.refl _ _).alloc (Nat.le_refl _) _⟩
        clear hw2
        have T2 : Two NR NV wr w2 := (Two.old HL1.out.2).more HR2.out.2
        have HT2 : Hid (Two NR NV wr w2) := T2
        have u1 : At2 w2 NR (.pointer none) (.pointer none) := Ha1.out.keep ((HR2.out.2.block _ (by have := Ha1.out.lt; have := HL1.out.2.size; omega)).trans (HL1.out.2.block _ Ha1.out.lt))
        have v1 := u1.c0
        have v2 := u1.f0
        have HU1 : Hid (At2 w2 NR (.pointer none) (.pointer none)) := u1
        have C2 : Com w w2 (.slice p0 l0 c0) (.slice p1 l1 c1) (.slice a0 len cap) := Hc.out.1.two T2 (by have := HNR.out; omega) (by have := HNV.out; omega)
        have y1 := C2.c0
        clear T2 u1 C2
        go_wp2_with fail
        obtain ⟨w3, hw3⟩ : ∃ w3, w3 = w2.setCell ⟨NR, 0, none⟩ (.pointer (some ⟨w1.heap.size, 0, none⟩)) := ⟨_, rfl⟩
        rw [← hw3]
        have O3 : Only NR 0 2 w2 w3 := by rw [hw3]; exact (Only.refl _ _ _ _).setCell _ (by omega) (by omega) _
        have A3 : At2 w3 NR (pt w1.heap.size) (.pointer none) := by rw [hw3]; exact HU1.out.set0 _
        have T3 : Two NR NV wr w3 := HT2.out.trans (Two.first O3)
        have C3 : Com w w3 (.slice p0 l0 c0) (.slice p1 l1 c1) (.slice a0 len cap) := Hc.out.1.two T3 (by have := HNR.out; omega) (by have := HNV.out; omega)
        clear hw3 v1 v2 y1
        refine (vfrom_any _ B0 w3 (isBy_wr Hl.out.1 C3.below) (by rw [Hl.out.2.1]; omega) Hl.out.2.2).mono ?_
        rintro _ w4 ⟨rfl, R4, B4⟩
        have T4 : Two NR NV wr w4 := T3.more B4
        have C4 : Com w w4 (.slice p0 l0 c0) (.slice p1 l1 c1) (.slice a0 len cap) := Hc.out.1.two T4 (by have := HNR.out; omega) (by have := HNV.out; omega)
        have u4 : At2 w4 NV (.pointer none) (.pointer none) := Ha2.out.keep (by
          have z := Ha2.out.lt
          have z1 := HL1.out.2.size
          have z2 := HR2.out.2.size
          have z3 := O3.size
          rw [B4.block _ (by omega), O3.block _ (by omega) (fun h => hneRV h.symm), HR2.out.2.block _ (by omega), HL1.out.2.block _ (by omega)])
        have A4 : At2 w4 NR (pt w1.heap.size) (.pointer none) := A3.keep (B4.block _ A3.lt)
        have v1 := u4.c0
        have v2 := u4.f0
        have v3 : w4.cell? ⟨NR, 0, none⟩ = some (.pointer (some ⟨w1.heap.size, 0, none⟩)) := A4.c0
        have y1 := C4.c0
        have H4 : Hid (Only NR 0 2 w2 w3 ∧ At2 w3 NR (pt w1.heap.size) (.pointer none) ∧ Rr w4 w3.heap.size w4.heap.size (rbits B0) 0 ∧ Below w3.heap.size w3 w4 ∧ Two NR NV wr w4 ∧ At2 w4 NV (.pointer none) (.pointer none)) := ⟨O3, A3, R4, B4, T4, u4⟩
        clear O3 A3 T3 C3 R4 B4 T4 C4 u4 A4
        go_wp2_with fail
        obtain ⟨w5, hw5⟩ : ∃ w5, w5 = w4.setCell ⟨NV, 0, none⟩ (.pointer (some ⟨w3.heap.size, 0, none⟩)) := ⟨_, rfl⟩
        rw [← hw5]
        have O5 : Only NV 0 2 w4 w5 := by rw [hw5]; exact (Only.refl _ _ _ _).setCell _ (by omega) (by omega) _
        have A5 : At2 w5 NV (pt w3.heap.size) (.pointer none) := by rw [hw5]; exact H4.out.2.2.2.2.2.set0 _
        have T5 : Two NR NV wr w5 := H4.out.2.2.2.2.1.trans (Two.second O5)
        have C5 : Com w w5 (.slice p0 l0 c0) (.slice p1 l1 c1) (.slice a0 len cap) := Hc.out.1.two T5 (by have := HNR.out; omega) (by have := HNV.out; omega)
        have L5 : Lent w5 wr.heap.size g cap1 B0 := by
          obtain ⟨_, hg, hg1, _⟩ := HL1.out.1.lies
          have z0 := Hc.out.2
          have z1 := HNR.out
          have z2 := HNV.out
          exact (((HL1.out.1.below HR2.out.2).other H4.out.1 (by omega)).below H4.out.2.2.2.1).other O5 (by omega)
        clear hw5 v1 v2 v3 y1
        refine (intact_any wr.heap.size g cap1 l0 (.slice p0 l0 c0) B0 w5 Hl.out.2.1.symm (by omega) L5 (isBy_wr Hl.out.1 C5.below)).mono ?_
        rintro _ w6 ⟨rfl, m6, hw6⟩
        have B6 : Below w5.heap.size w5 w6 := by rw [hw6]; exact drewN_below _ _ _
        have L6 : Lent w6 wr.heap.size g cap1 B0 := L5.below B6
        have H5 : Hid (Only NV 0 2 w4 w5 ∧ At2 w5 NV (pt w3.heap.size) (.pointer none) ∧ Below w5.heap.size w5 w6 ∧ Lent w6 wr.heap.size g cap1 B0) := ⟨O5, A5, B6, L6⟩
        clear hw6 O5 A5 T5 C5 L5 B6 L6
        go_wp2_with fail
        refine (over_any wr.heap.size g cap1 l0 B0 w6 Hl.out.2.1.symm (by omega) H5.out.2.2.2).mono ?_
        rintro _ w7 ⟨rfl, O7⟩
        have HM := made (N := w.heap.size) Hc.out.2 Hl.out.2.2 HL1.out.2 HL1.out.1 HR2.out.1 HR2.out.2 (by rw [HNR.out]; exact H4.out.1) H4.out.2.2.1 H4.out.2.2.2.1 (by rw [HNV.out]; exact H5.out.1) H5.out.2.2.1 O7
        have HN : Hid (StK w (.slice p0 l0 c0) (.slice p1 l1 c1) (.slice a0 len cap) s0 s1 (0 + 1) w7) := .inr (.inl ⟨rfl, w1.heap.size, w3.heap.size, w4.heap.size, Hc.out.1.two HM.1 (by omega) (by omega), by
          have h := H4.out.2.1; rw [← HNR.out] at h; exact h.keep HM.2.2.1, by
          have h := H5.out.2.1; rw [← HNV.out] at h; exact h.keep HM.2.2.2.1, by have := HM.2.2.2.2; have := Hc.out.2; omega, by rw [HS0.out]; exact HM.2.1⟩)
        clear HM O7
        go_wp2_with fail
        exact ⟨⟨0 + 1, by omega, by go_num, HN⟩, by simp [intOf]⟩
    · -- Reader 1
      obtain ⟨R0, V0, h0, C, t1, t2, hz0, P0⟩ := HP.out.one
      have hz : w.heap.size + 3 ≤ wr.heap.size := by have := P0.lt; have := P0.rr.lt; have := P0.hi; omega
      have HP0 : Hid (Pair wr R0 V0 h0 s0 0 0) := P0
      clear P0
      have q1 := C.c1
      by_cases hbig : 65536 < l1
      · have hbig' : (65536 : Int) < (l1 : Int) := by omega
        have HB : Hid (Below w.heap.size w wr ∧ w.heap.size ≤ wr.heap.size) := ⟨C.below, by omega⟩
        clear HP C t1 t2
        go_wp2_with fail
        refine (works_any _).mono ?_
        rintro e w1 ⟨rfl, D1⟩
        go_wp2_with fail
        go_ret
        exact ⟨rfl, HB.out.1.trans (D1.mono HB.out.2)⟩
      · have hbig' : ¬ (65536 : Int) < (l1 : Int) := by omega
        obtain ⟨hI, hl, hb256⟩ := HI1.out
        have HIr : Hid (IsBy wr (.slice p1 l1 c1) B1) := isBy_wr hI C.below
        have Hc : Hid (Com w wr (.slice p0 l0 c0) (.slice p1 l1 c1) (.slice a0 len cap) ∧ w.heap.size + 3 ≤ wr.heap.size) := ⟨C, hz⟩
        have Ha1 : Hid (At2 wr NR (pt R0) (.pointer none)) := by rw [← HNR.out]; exact t1
        have Ha2 : Hid (At2 wr NV (pt V0) (.pointer none)) := by rw [← HNV.out]; exact t2
        have Hl : Hid (IsBy w (.slice p1 l1 c1) B1 ∧ B1.length = l1 ∧ ∀ n ∈ B1, n < 256) := ⟨hI, hl, hb256⟩
        clear C t1 t2 hI hl hb256 hz
        go_wp2_with fail
        refine (lend_any _ B1 wr HIr.out (by rw [Hl.out.2.1]; omega)).mono ?_
        rintro _ w1 ⟨g, cap1, rfl, L1, D1⟩
        rw [Hl.out.2.1]
        have HL1 : Hid (Lent w1 wr.heap.size g cap1 B1 ∧ Below wr.heap.size wr w1) := ⟨L1, D1⟩
        clear L1 D1 q1
        go_wp2_with fail
        refine (from_any w1 _ B1 (by have := HL1.out.1.bytes; rw [Hl.out.2.1] at this; exact this)).mono ?_
        rintro _ w2 ⟨rfl, hw2⟩
        have HR2 : Hid (Rd w2 w1.heap.size 0 (strOf B1) 0 0 ∧ Below w1.heap.size w1 w2) := ⟨by rw [hw2]; exact rd_new w1 _ (by rw [Hl.out.2.1]; omega), by rw [hw2]; exact (Below.refl _ _).alloc (Nat.le_refl _) _⟩
        clear hw2
        have T2 : Two NR NV wr w2 := (Two.old HL1.out.2).more HR2.out.2
        have HT2 : Hid (Two NR NV wr w2) := T2
        have u1 : At2 w2 NR (pt R0) (.pointer none) := Ha1.out.keep ((HR2.out.2.block _ (by have := Ha1.out.lt; have := HL1.out.2.size; omega)).trans (HL1.out.2.block _ Ha1.out.lt))
        have v1 := u1.c1
        have v2 := u1.f1
        have HU1 : Hid (At2 w2 NR (pt R0) (.pointer none)) := u1
        have C2 : Com w w2 (.slice p0 l0 c0) (.slice p1 l1 c1) (.slice a0 len cap) := Hc.out.1.two T2 (by have := HNR.out; omega) (by have := HNV.out; omega)
        have y1 := C2.c1
        clear T2 u1 C2
        go_wp2_with fail
        obtain ⟨w3, hw3⟩ : ∃ w3, w3 = w2.setCell ⟨NR, 1, none⟩ (.pointer (some ⟨w1.heap.size, 0, none⟩)) := ⟨_, rfl⟩
        rw [← hw3]
        have O3 : Only NR 0 2 w2 w3 := by rw [hw3]; exact (Only.refl _ _ _ _).setCell _ (by omega) (by omega) _
        have A3 : At2 w3 NR (pt R0) (pt w1.heap.size) := by rw [hw3]; exact HU1.out.set1 _
        have T3 : Two NR NV wr w3 := HT2.out.trans (Two.first O3)
        have C3 : Com w w3 (.slice p0 l0 c0) (.slice p1 l1 c1) (.slice a0 len cap) := Hc.out.1.two T3 (by have := HNR.out; omega) (by have := HNV.out; omega)
        clear hw3 v1 v2 y1
        refine (vfrom_any _ B1 w3 (isBy_wr Hl.out.1 C3.below) (by rw [Hl.out.2.1]; omega) Hl.out.2.2).mono ?_
        rintro _ w4 ⟨rfl, R4, B4⟩
        have T4 : Two NR NV wr w4 := T3.more B4
        have C4 : Com w w4 (.slice p0 l0 c0) (.slice p1 l1 c1) (.slice a0 len cap) := Hc.out.1.two T4 (by have := HNR.out; omega) (by have := HNV.out; omega)
        have u4 : At2 w4 NV (pt V0) (.pointer none) := Ha2.out.keep (by
          have z := Ha2.out.lt
          have z1 := HL1.out.2.size
          have z2 := HR2.out.2.size
          have z3 := O3.size
          rw [B4.block _ (by omega), O3.block _ (by omega) (fun h => hneRV h.symm), HR2.out.2.block _ (by omega), HL1.out.2.block _ (by omega)])
        have A4 : At2 w4 NR (pt R0) (pt w1.heap.size) := A3.keep (B4.block _ A3.lt)
        have v1 := u4.c1
        have v2 := u4.f1
        have v3 : w4.cell? ⟨NR, 1, none⟩ = some (.pointer (some ⟨w1.heap.size, 0, none⟩)) := A4.c1
        have y1 := C4.c1
        have H4 : Hid (Only NR 0 2 w2 w3 ∧ At2 w3 NR (pt R0) (pt w1.heap.size) ∧ Rr w4 w3.heap.size w4.heap.size (rbits B1) 0 ∧ Below w3.heap.size w3 w4 ∧ Two NR NV wr w4 ∧ At2 w4 NV (pt V0) (.pointer none)) := ⟨O3, A3, R4, B4, T4, u4⟩
        clear O3 A3 T3 C3 R4 B4 T4 C4 u4 A4
        go_wp2_with fail
        obtain ⟨w5, hw5⟩ : ∃ w5, w5 = w4.setCell ⟨NV, 1, none⟩ (.pointer (some ⟨w3.heap.size, 0, none⟩)) := ⟨_, rfl⟩
        rw [← hw5]
        have O5 : Only NV 0 2 w4 w5 := by rw [hw5]; exact (Only.refl _ _ _ _).setCell _ (by omega) (by omega) _
        have A5 : At2 w5 NV (pt V0) (pt w3.heap.size) := by rw [hw5]; exact H4.out.2.2.2.2.2.set1 _
        have T5 : Two NR NV wr w5 := H4.out.2.2.2.2.1.trans (Two.second O5)
        have C5 : Com w w5 (.slice p0 l0 c0) (.slice p1 l1 c1) (.slice a0 len cap) := Hc.out.1.two T5 (by have := HNR.out; omega) (by have := HNV.out; omega)
        have L5 : Lent w5 wr.heap.size g cap1 B1 := by
          obtain ⟨_, hg, hg1, _⟩ := HL1.out.1.lies
          have z0 := Hc.out.2
          have z1 := HNR.out
          have z2 := HNV.out
          exact (((HL1.out.1.below HR2.out.2).other H4.out.1 (by omega)).below H4.out.2.2.2.1).other O5 (by omega)
        clear hw5 v1 v2 v3 y1
        refine (intact_any wr.heap.size g cap1 l1 (.slice p1 l1 c1) B1 w5 Hl.out.2.1.symm (by omega) L5 (isBy_wr Hl.out.1 C5.below)).mono ?_
        rintro _ w6 ⟨rfl, m6, hw6⟩
        have B6 : Below w5.heap.size w5 w6 := by rw [hw6]; exact drewN_below _ _ _
        have L6 : Lent w6 wr.heap.size g cap1 B1 := L5.below B6
        have H5 : Hid (Only NV 0 2 w4 w5 ∧ At2 w5 NV (pt V0) (pt w3.heap.size) ∧ Below w5.heap.size w5 w6 ∧ Lent w6 wr.heap.size g cap1 B1) := ⟨O5, A5, B6, L6⟩
        clear hw6 O5 A5 T5 C5 L5 B6 L6
        go_wp2_with fail
        refine (over_any wr.heap.size g cap1 l1 B1 w6 Hl.out.2.1.symm (by omega) H5.out.2.2.2).mono ?_
        rintro _ w7 ⟨rfl, O7⟩
        have HM := made (N := w.heap.size) Hc.out.2 Hl.out.2.2 HL1.out.2 HL1.out.1 HR2.out.1 HR2.out.2 (by rw [HNR.out]; exact H4.out.1) H4.out.2.2.1 H4.out.2.2.2.1 (by rw [HNV.out]; exact H5.out.1) H5.out.2.2.1 O7
        have HN : Hid (StK w (.slice p0 l0 c0) (.slice p1 l1 c1) (.slice a0 len cap) s0 s1 (1 + 1) w7) := .inr (.inr ⟨rfl, R0, V0, h0, w1.heap.size, w3.heap.size, w4.heap.size, Hc.out.1.two HM.1 (by omega) (by omega), by
          have h := H4.out.2.1; rw [← HNR.out] at h; exact h.keep HM.2.2.1, by
          have h := H5.out.2.1; rw [← HNV.out] at h; exact h.keep HM.2.2.2.1, hz0, by have := HM.2.2.2.2; have := HP0.out.hi; omega, ⟨0, 0, HP0.out.two HM.1 (by omega) (by omega)⟩, ⟨0, 0, by rw [HS1.out]; exact HM.2.1⟩⟩)
        clear HM O7
        go_wp2_with fail
        exact ⟨⟨1 + 1, by omega, by go_num, HN⟩, by simp [intOf]⟩
    · obtain ⟨R0, V0, h0, R1, V1, h1, H2⟩ := HP.out.two
      have HS : Hid (St2 w (.slice p0 l0 c0) (.slice p1 l1 c1) (.slice a0 len cap) s0 s1 R0 V0 h0 R1 V1 h1 wr) := H2
      clear HP H2
      go_wp2_with fail
      go_loopw [7] (fun t7 wr => ∃ i : Nat, i ≤ 400 ∧ t7 = .int .i64 i ∧ Hid (i ≤ len) ∧ Hid (St2 w (.slice p0 l0 c0) (.slice p1 l1 c1) (.slice a0 len cap) s0 s1 R0 V0 h0 R1 V1 h1 wr)) (fun t7 _ => 400 - (intOf t7).toNat)
      case atStart => exact ⟨0, by omega, rfl, Nat.zero_le _, HS⟩
      case round =>
        obtain ⟨i, hi, rfl, Hi, HS⟩ := hrel
        have y2 := HS.out.1.c2
        by_cases hi1 : i < len
        · by_cases hi2 : i < 400
          · obtain ⟨ha0, hb⟩ := HA0.out (by omega)
            subst ha0
            obtain ⟨o0, o1, o2, o3, bd, bn, bx, bm⟩ := HO.out i hi1
            have ec : ∀ j, wr.cell? ⟨b, off + i * 4 + j, none⟩ = w.cell? ⟨b, off + i * 4 + j, none⟩ := fun j => HS.out.1.below.cell (p := ⟨b, off + i * 4 + j, none⟩) hb
            have e0 := (ec 0).trans o0
            have e1 := (ec 1).trans o1
            have e2 := (ec 2).trans o2
            have e3 := (ec 3).trans o3
            rw [Nat.add_zero] at e0
            clear ec o0 o1 o2 o3
            generalize d i = dd at *
            generalize n i = nn at *
            generalize m i = mm at *
            generalize x i = xx at *
            have hand := i64_and1 nn
            rcases (show nn % 2 = 0 ∨ nn % 2 = 1 from by omega) with h2 | h2 <;> rw [h2] at hand
            · obtain ⟨C, t1, t2, z, z2, ⟨q0, f0, P0⟩, ⟨q1, f1, P1⟩⟩ := HS.out
              rw [HNR.out] at t1
              rw [HNV.out] at t2
              have v1 : wr.cell? ⟨NR, 0, none⟩ = some (.pointer (some ⟨R0, 0, none⟩)) := t1.c0
              have v2 : wr.cell? ⟨NV, 0, none⟩ = some (.pointer (some ⟨V0, 0, none⟩)) := t2.c0
              have HK : Hid (∀ w', Two R0 V0 wr w' → w'.cell? ⟨NR, 0, none⟩ = some (.pointer (some ⟨R0, 0, none⟩)) ∧ w'.cell? ⟨NV, 0, none⟩ = some (.pointer (some ⟨V0, 0, none⟩)) ∧ w'.cell? ⟨w.heap.size, 2, none⟩ = some (.slice (some ⟨b, off, none⟩) len cap) ∧ w'.cell? ⟨b, off + i * 4, none⟩ = some (.int .i64 dd) ∧ w'.cell? ⟨b, off + i * 4 + 1, none⟩ = some (.int .i64 nn) ∧ w'.cell? ⟨b, off + i * 4 + 2, none⟩ = some (.int .u64 xx) ∧ w'.cell? ⟨b, off + i * 4 + 3, none⟩ = some (.int .i64 mm)) := fun w' hT => by
                have k1 := P0.lt
                have k2 := P0.rr.lt
                have k3 := P1.lt
                have k4 := HNR.out
                have k5 := HNV.out
                have r1 := hT.block NR t1.lt (by omega) (by omega)
                have r2 := hT.block NV t2.lt (by omega) (by omega)
                have r3 := hT.block w.heap.size (block_lt_of_cell y2) (by omega) (by omega)
                have r4 := hT.block b (block_lt_of_cell e0) (by omega) (by omega)
                exact ⟨(World.cell?_of_block (w := wr) r1).trans v1, (World.cell?_of_block (w := wr) r2).trans v2, (World.cell?_of_block (w := wr) r3).trans y2, (World.cell?_of_block (w := wr) r4).trans e0, (World.cell?_of_block (w := wr) r4).trans e1, (World.cell?_of_block (w := wr) r4).trans e2, (World.cell?_of_block (w := wr) r4).trans e3⟩
              have HPd : Hid (Pair wr.drew R0 V0 h0 s0 q0 f0) := P0.below ⟨rfl, rfl, rfl, Nat.le_refl _, fun _ _ => rfl⟩
              clear C t1 t2 z z2 P0 P1
              go_wp2_with fail
              go_region_held3 (fun w' => w'.cell? ⟨NR, 0, none⟩ = some (.pointer (some ⟨R0, 0, none⟩)) ∧ w'.cell? ⟨NV, 0, none⟩ = some (.pointer (some ⟨V0, 0, none⟩)) ∧ w'.cell? ⟨w.heap.size, 2, none⟩ = some (.slice (some ⟨b, off, none⟩) len cap) ∧ w'.cell? ⟨b, off + i * 4, none⟩ = some (.int .i64 dd) ∧ w'.cell? ⟨b, off + i * 4 + 1, none⟩ = some (.int .i64 nn) ∧ w'.cell? ⟨b, off + i * 4 + 2, none⟩ = some (.int .u64 xx) ∧ w'.cell? ⟨b, off + i * 4 + 3, none⟩ = some (.int .i64 mm))
                (first | exact ⟨v1, v2, y2, e0, e1, e2, e3⟩ | exact HK.out _ T8 | exact HK.out _ T6 | exact HK.out _ T5)
                (first
                  | (go_at_call 20; refine (take_any R0 V0 h0 s0 q0 f0 dd nn mm xx _ HPd.out).mono ?_; rintro _ w5 ⟨rfl, a5, e5, P5, T50⟩; have T5 : Two R0 V0 wr w5 := ⟨T50.os, T50.tape, T50.output, T50.size, T50.block⟩; clear T50)
                  | (go_at_call 21; refine (pleft P5).mono ?_; rintro _ w6 ⟨rfl, m6, hw6⟩; have T6 := T5.eqN hw6; have P6 := P5.eqN hw6; clear hw6)
                  | (go_at_call 22; refine (pvleft P6).mono ?_; rintro _ w7 ⟨rfl, rfl⟩)
                  | (go_at_call 24; refine (pend P6).mono ?_; rintro _ w8 ⟨rfl, m8, hw8⟩; have T8 := T6.eqN hw8; have P8 := P6.eqN hw8; clear hw8)
                  | (go_at_call 23; refine (num_any _ _).mono ?_; rintro _ w9 ⟨rfl, rfl⟩)
                  | (go_at_call 25; refine (pvend P8).mono ?_; rintro _ w10 ⟨rfl, rfl⟩))
              have HN : Hid _ := HS.out.step0 P8 T8
              clear P5 T5 P6 T6 P8 T8 HS HK HPd
              go_wp2_with fail
              go_roundw
              case rel => exact ⟨_, _, _, _, _, _, _, _, _, _, _, _, _, _, _, _, _, _, _, _, _, _, _, _, _, _, _, _, _, _, _, _, _, _, _, _, _, _, _, _, _, _, _, _, _, _, _, _, _, _, _, _, _, _, _, _, _, ⟨i + 1, by omega, by go_num, hi1, HN⟩, rfl⟩
              case measure => simp [intOf]; omega
            · obtain ⟨C, t1, t2, z, z2, ⟨q0, f0, P0⟩, ⟨q1, f1, P1⟩⟩ := HS.out
              rw [HNR.out] at t1
              rw [HNV.out] at t2
              have v1 : wr.cell? ⟨NR, 1, none⟩ = some (.pointer (some ⟨R1, 0, none⟩)) := t1.c1
              have v2 : wr.cell? ⟨NV, 1, none⟩ = some (.pointer (some ⟨V1, 0, none⟩)) := t2.c1
              have HK : Hid (∀ w', Two R1 V1 wr w' → w'.cell? ⟨NR, 1, none⟩ = some (.pointer (some ⟨R1, 0, none⟩)) ∧ w'.cell? ⟨NV, 1, none⟩ = some (.pointer (some ⟨V1, 0, none⟩)) ∧ w'.cell? ⟨w.heap.size, 2, none⟩ = some (.slice (some ⟨b, off, none⟩) len cap) ∧ w'.cell? ⟨b, off + i * 4, none⟩ = some (.int .i64 dd) ∧ w'.cell? ⟨b, off + i * 4 + 1, none⟩ = some (.int .i64 nn) ∧ w'.cell? ⟨b, off + i * 4 + 2, none⟩ = some (.int .u64 xx) ∧ w'.cell? ⟨b, off + i * 4 + 3, none⟩ = some (.int .i64 mm)) := fun w' hT => by
                have k1 := P0.lt
                have k2 := P0.rr.lt
                have k3 := P1.lt
                have k4 := HNR.out
                have k5 := HNV.out
                have r1 := hT.block NR t1.lt (by omega) (by omega)
                have r2 := hT.block NV t2.lt (by omega) (by omega)
                have r3 := hT.block w.heap.size (block_lt_of_cell y2) (by omega) (by omega)
                have r4 := hT.block b (block_lt_of_cell e0) (by omega) (by omega)
                exact ⟨(World.cell?_of_block (w := wr) r1).trans v1, (World.cell?_of_block (w := wr) r2).trans v2, (World.cell?_of_block (w := wr) r3).trans y2, (World.cell?_of_block (w := wr) r4).trans e0, (World.cell?_of_block (w := wr) r4).trans e1, (World.cell?_of_block (w := wr) r4).trans e2, (World.cell?_of_block (w := wr) r4).trans e3⟩
              have HPd : Hid (Pair wr.drew R1 V1 h1 s1 q1 f1) := P1.below ⟨rfl, rfl, rfl, Nat.le_refl _, fun _ _ => rfl⟩
              clear C t1 t2 z z2 P0 P1
              go_wp2_with fail
              go_region_held3 (fun w' => w'.cell? ⟨NR, 1, none⟩ = some (.pointer (some ⟨R1, 0, none⟩)) ∧ w'.cell? ⟨NV, 1, none⟩ = some (.pointer (some ⟨V1, 0, none⟩)) ∧ w'.cell? ⟨w.heap.size, 2, none⟩ = some (.slice (some ⟨b, off, none⟩) len cap) ∧ w'.cell? ⟨b, off + i * 4, none⟩ = some (.int .i64 dd) ∧ w'.cell? ⟨b, off + i * 4 + 1, none⟩ = some (.int .i64 nn) ∧ w'.cell? ⟨b, off + i * 4 + 2, none⟩ = some (.int .u64 xx) ∧ w'.cell? ⟨b, off + i * 4 + 3, none⟩ = some (.int .i64 mm))
                (first | exact ⟨v1, v2, y2, e0, e1, e2, e3⟩ | exact HK.out _ T8 | exact HK.out _ T6 | exact HK.out _ T5)
                (first
                  | (go_at_call 20; refine (take_any R1 V1 h1 s1 q1 f1 dd nn mm xx _ HPd.out).mono ?_; rintro _ w5 ⟨rfl, a5, e5, P5, T50⟩; have T5 : Two R1 V1 wr w5 := ⟨T50.os, T50.tape, T50.output, T50.size, T50.block⟩; clear T50)
                  | (go_at_call 21; refine (pleft P5).mono ?_; rintro _ w6 ⟨rfl, m6, hw6⟩; have T6 := T5.eqN hw6; have P6 := P5.eqN hw6; clear hw6)
                  | (go_at_call 22; refine (pvleft P6).mono ?_; rintro _ w7 ⟨rfl, rfl⟩)
                  | (go_at_call 24; refine (pend P6).mono ?_; rintro _ w8 ⟨rfl, m8, hw8⟩; have T8 := T6.eqN hw8; have P8 := P6.eqN hw8; clear hw8)
                  | (go_at_call 23; refine (num_any _ _).mono ?_; rintro _ w9 ⟨rfl, rfl⟩)
                  | (go_at_call 25; refine (pvend P8).mono ?_; rintro _ w10 ⟨rfl, rfl⟩))
              have HN : Hid _ := HS.out.step1 P8 T8
              clear P5 T5 P6 T6 P8 T8 HS HK HPd
              go_wp2_with fail
              go_roundw
              case rel => exact ⟨_, _, _, _, _, _, _, _, _, _, _, _, _, _, _, _, _, _, _, _, _, _, _, _, _, _, _, _, _, _, _, _, _, _, _, _, _, _, _, _, _, _, _, _, _, _, _, _, _, _, _, _, _, _, _, _, _, ⟨i + 1, by omega, by go_num, hi1, HN⟩, rfl⟩
              case measure => simp [intOf]; omega
          · have HB : Hid (Below w.heap.size w wr ∧ w.heap.size ≤ wr.heap.size) := ⟨HS.out.1.below, HS.out.1.below.size⟩
            clear HS
            go_wp2_with fail
            refine (works_any _).mono ?_
            rintro e w1 ⟨rfl, D1⟩
            go_wp2_with fail
            go_ret
            exact ⟨rfl, HB.out.1.trans (D1.mono HB.out.2)⟩
        · have HB : Hid (Below w.heap.size w wr ∧ w.heap.size ≤ wr.heap.size) := ⟨HS.out.1.below, HS.out.1.below.size⟩
          clear HS
          go_wp2_with fail
          refine (works_any _).mono ?_
          rintro e w1 ⟨rfl, D1⟩
          go_wp2_with fail
          go_ret
          exact ⟨rfl, HB.out.1.trans (D1.mono HB.out.2)⟩

end Go.Proofs.Ytpiiagjfimdflaa

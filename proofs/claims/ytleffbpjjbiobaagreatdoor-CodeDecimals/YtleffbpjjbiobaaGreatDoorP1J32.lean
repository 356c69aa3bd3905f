/- What a column's take reads, and that it is complete (32 bits). -/
import Derived.Test.YtleffbpjjbiobaaGreatDoorC1B32
import Derived.Test.YtleffbpjjbiobaaGreatDoorB1U
import Derived.Test.YtleffbpjjbiobaaGreatDoorC1S32
import Derived.Deep.Cut
/- The contracts of Decimal's packing (32 bits). -/
namespace Go.Proofs.YtleffbpjjbiobaaGreatDoor
open Go.RowKit
open M
set_option linter.unusedVariables false
set_option linter.unusedSimpArgs false

theorem only_below32 {w w' : World} {g a b : Nat} (hB : Below w.heap.size w w') (hg : g < w.heap.size) : Only g a b w w' :=
  ⟨hB.os, hB.tape, hB.output, hB.size, fun k hk _ => hB.block k hk, fun j _ => hB.cell (p := ⟨g, j, none⟩) hg, fun j => hB.frozen (p := ⟨g, j, none⟩) hg⟩

set_option maxRecDepth 100000 in
set_option maxHeartbeats 1000000 in
theorem layNothings32_any (p : Nat) (q : Option Addr) (n cap : Nat) (f : Nat → Nat) (lo g : Nat) (L : List Bool) (w : World) (h : URow32 w q n f) (HQ : Hid (∀ b o, q = some ⟨b, o, none⟩ → 0 < n → b ≠ g)) (hn : n ≤ 4096) (hcap : n ≤ cap) (hf : ∀ i, i < n → f i < 4294967296)
    (hW : Wr w lo g 0 L 0) (hg : g < lo) (hlo : lo ≤ w.heap.size) (hlen : L.length ≤ 100000000) :
    Calls Tryz.prog 102 #[.pointer (some ⟨g, 0, none⟩), scV32 p, .slice q n cap] w fun e w' => e = .returned (.tuple #[]) ∧ Wr w' lo g 0 (L ++ (varB (F32.cnt p f 0 n) ++ F32.nt 32 p f 0 n 0)) 0 ∧ Only g 0 123 w w' := by
  have HNO := hide (fun (w1 : World) (h1 : URow32 w1 q n f) => nothings32_any p q n cap f w1 h1 hn hcap hf)
  have H := hide h
  have HF := hide hf
  have HWO := hide (fun (v : Nat) (w : World) (hv : v < 4294967296) => wholeOf32_any p v w hv)
  have HWR := hide hW
  have HLL := hide hlen
  obtain ⟨g0, hg0⟩ : ∃ g0, w.heap.size = g0 := ⟨_, rfl⟩
  have hgg : g < g0 := by omega
  obtain ⟨W1, hW1⟩ : ∃ W1, W1 = w.alloc (.cells #[.int .i64 (p : Int), .int .u32 (F32.pow p : Int)] 116) := ⟨_, rfl⟩
  have HW1 : Hid (Below g0 w W1 ∧ Sc32 W1 g0 p ∧ Wr W1 lo g 0 L 0 ∧ Only g 0 123 w W1) := by
    have hB : Below w.heap.size w W1 := by rw [hW1]; exact (Below.refl _ w).alloc (Nat.le_refl _) _
    refine ⟨by rw [← hg0]; exact hB, ⟨by rw [hW1, ← hg0]; exact heap_alloc_new w _⟩, hW.below hB, only_below32 hB (by omega)⟩
  have HG0 := hide hg0
  have HROW : Hid (∀ wr, Only g 0 123 W1 wr → ∀ k, k < n → ∃ b o, q = some ⟨b, o, none⟩ ∧ wr.cell? ⟨b, o + k, none⟩ = some (.int .u32 (f k : Int))) := fun wr hO k hk => by
    obtain ⟨b, o, hp, hc⟩ := H.out (by omega)
    have hb : b < g0 := by rw [← hg0]; exact block_lt_of_cell (hc k hk)
    have hb2 := HQ.out b o hp (by omega)
    have hs : g0 < W1.heap.size := HW1.out.2.1.lt
    exact ⟨b, o, hp, by rw [World.cell?_of_block (w := W1) (hO.block b (by omega) hb2), HW1.out.1.cell (p := ⟨b, o + k, none⟩) hb]; exact hc k hk⟩
  have HSC : Hid (∀ wr, Only g 0 123 W1 wr → Sc32 wr g0 p) := fun wr hO => ⟨by rw [hO.block g0 HW1.out.2.1.lt (by omega)]; exact HW1.out.2.1.row⟩
  clear h hf hW hlen
  unfold scV32 at *
  go_enter Tryz.func102, Tryz.ntmps102
  go_upto_region 1 with fail
  (try rw [hg0])
  (try rw [← hW1])
  clear hW1 hg0
  have c0 := HW1.out.2.1.c0
  have c1 := HW1.out.2.1.c1
  have HU : Hid (URow32 W1 q n f) := fun h0 => by
    obtain ⟨b, o, hp, hc⟩ := H.out h0
    exact ⟨b, o, hp, fun i hi => by
      obtain ⟨b', o', hp', hc'⟩ := HROW.out W1 (Only.refl _ _ _ _) i hi
      rw [hp] at hp'
      simp only [Option.some.injEq, Addr.mk.injEq] at hp'
      obtain ⟨rfl, rfl, _⟩ := hp'
      exact hc'⟩
  obtain ⟨C, hC⟩ : ∃ C, F32.cnt p f 0 n = C := ⟨_, rfl⟩
  have hCn : C ≤ n := by rw [← hC]; exact F32.cnt_le p f 0 n
  have HN := hide (HNO.out W1 HU.out)
  rw [hC] at HN
  have HCC := hide hC
  obtain ⟨P, hP⟩ : ∃ P, F32.pow p = P := ⟨_, rfl⟩
  rw [hP] at c1 HN ⊢
  have HP := hide hP
  clear hP
  have r0 : IntKind.u64.wrap (C : Int) = (C : Int) := by rw [IntKind.wrap_u64]; omega
  clear hC
  go_wp2_with fail
  refine HN.out.mono ?_
  rintro e w2 ⟨rfl, B2⟩
  have H2 : Hid (Wr w2 lo g 0 L 0 ∧ Only g 0 123 W1 w2) := ⟨HW1.out.2.2.1.below B2, only_below32 B2 (by have := HW1.out.2.1.lt; omega)⟩
  clear B2 c0 c1
  go_wp2_with fail
  refine (wvar_any g 0 lo C w2 L H2.out.1 hg (by have := H2.out.2.size; have := HW1.out.2.2.2.size; omega) (by have := HLL.out; omega) (by omega)).mono ?_
  rintro e w3 ⟨rfl, W3, O3⟩
  have H3 : Hid (Wr w3 lo g 0 (L ++ varB C) 0 ∧ Only g 0 123 W1 w3) := ⟨W3, H2.out.2.trans O3⟩
  clear W3 O3
  go_wp2_with fail
  go_loopw [6, 19] (fun t6 t19 wr => ∃ (k c : Nat) (l : List Bool), t19 = .int .i64 (k : Int) ∧ t6 = .int .u64 (c : Int) ∧ Hid (k ≤ n ∧ c ≤ k ∧ l ++ F32.nt 32 p f k (n - k) c = F32.nt 32 p f 0 n 0 ∧ Wr wr lo g 0 (L ++ varB C ++ l) 0 ∧ Only g 0 123 W1 wr)) (fun _ t19 _ => n - (intOf t19).toNat)
  case atStart => exact ⟨0, 0, [], rfl, rfl, Nat.zero_le _, Nat.le_refl _, by simp, by simpa using H3.out.1, H3.out.2⟩
  case round =>
    obtain ⟨k, c, l, rfl, rfl, hI⟩ := hrel
    by_cases hlt : k < n
    · obtain ⟨b, o, rfl, c1⟩ := HROW.out wr hI.out.2.2.2.2 k hlt
      obtain ⟨x, hx⟩ : ∃ x, f k = x := ⟨_, rfl⟩
      have hxM : x < 4294967296 := by rw [← hx]; exact HF.out k hlt
      rw [hx] at c1
      have hS := HSC.out wr hI.out.2.2.2.2
      have d0 := hS.c0
      have d1 := hS.c1
      have hck : c ≤ 4096 := by have := hI.out.2.1; omega
      have HWX := hide (HWO.out x wr hxM)
      have hNT := hI.out.2.2.1
      rw [show n - k = (n - (k + 1)) + 1 from by omega, Dm.nt, hx] at hNT
      have HNT := hide hNT
      have HLB : Hid ((L ++ varB C ++ l).length ≤ 101000000) := by
        have h1 := congrArg List.length hI.out.2.2.1
        rw [List.length_append] at h1
        have h2 := F32.nt_len 32 p (by omega) f 0 n 0 varB_le
        have h3 := varB_le C
        have h4 := HLL.out
        show _ ≤ _
        rw [List.length_append, List.length_append]
        omega
      have HI := hide (And.intro hI.out.2.2.2.1 hI.out.2.2.2.2)
      have HIC := hide hI.out.2.1
      have HS2 : Hid (lo ≤ wr.heap.size ∧ g < wr.heap.size) := by have := HI.out.2.size; have := HW1.out.2.2.2.size; exact ⟨by omega, by omega⟩
      rw [HP.out] at d1 HWX
      generalize F32.wh p x = oo at *
      clear hx hS hI hNT
      go_wp2_with fail
      refine HWX.out.mono ?_
      rintro e w4 ⟨rfl, B4⟩
      have H4 : Hid (Wr w4 lo g 0 (L ++ varB C ++ l) 0 ∧ Only g 0 123 W1 w4 ∧ lo ≤ w4.heap.size) := ⟨HI.out.1.below B4, HI.out.2.trans (only_below32 B4 HS2.out.2), by have := B4.size; have := HS2.out.1; omega⟩
      clear B4
      cases oo with
      | some z =>
        simp only [nwV]
        go_wp2_with fail
        go_roundw
        case rel => exact ⟨k + 1, c + 1, l, by simp, by simp, hlt, by have := HIC.out; omega, HNT.out, H4.out.1, H4.out.2.1⟩
        case measure => simp [intOf]; omega
      | none =>
        simp only [nwV]
        go_wp2_with fail
        refine (wvar_any g 0 lo c w4 _ H4.out.1 hg H4.out.2.2 (by have := HLB.out; omega) (by omega)).mono ?_
        rintro e w5 ⟨rfl, W5, O5⟩
        have H5 : Hid (Wr w5 lo g 0 (L ++ varB C ++ l ++ varB c) 0 ∧ Only g 0 123 W1 w5 ∧ lo ≤ w5.heap.size) := ⟨W5, H4.out.2.1.trans O5, by have := O5.size; have := H4.out.2.2; omega⟩
        clear W5 O5
        go_wp2_with fail
        refine (layValue32_any g 0 lo x w5 _ H5.out.1 hg H5.out.2.2 (by have := HLB.out; have := varB_le c; rw [List.length_append]; omega) hxM).mono ?_
        rintro e w6 ⟨rfl, W6, O6⟩
        have H6 : Hid (Wr w6 lo g 0 (L ++ varB C ++ l ++ varB c ++ bitsOf x 32) 0 ∧ Only g 0 123 W1 w6) := ⟨W6, H5.out.2.1.trans O6⟩
        clear W6 O6
        go_wp2_with fail
        go_roundw
        case rel =>
          refine ⟨k + 1, 0, l ++ varB c ++ bitsOf x 32, by simp, by simp, hlt, by omega, ?_, ?_, H6.out.2⟩
          · rw [← HNT.out]; simp
          · have := H6.out.1
            simpa only [List.append_assoc] using this
        case measure => simp [intOf]; omega
    · have hk : k = n := by have := hI.out.1; omega
      subst hk
      have hl : l = F32.nt 32 p f 0 k 0 := by have := hI.out.2.2.1; rw [Nat.sub_self, Dm.nt, List.append_nil] at this; exact this
      have HE := hide hl
      clear hl
      go_wp2_with fail
      go_end0
      refine ⟨rfl, ?_, HW1.out.2.2.2.trans hI.out.2.2.2.2⟩
      have := hI.out.2.2.2.1
      rw [HE.out] at this
      rw [HCC.out]
      simpa only [List.append_assoc] using this

set_option maxRecDepth 100000 in
set_option maxHeartbeats 1000000 in
theorem layWholes32_any (p : Nat) (q : Option Addr) (n cap : Nat) (f : Nat → Nat) (lo g : Nat) (L : List Bool) (w : World) (h : URow32 w q n f) (HQ : Hid (∀ b o, q = some ⟨b, o, none⟩ → 0 < n → b ≠ g)) (hn : n ≤ 4096) (hcap : n ≤ cap) (hf : ∀ i, i < n → f i < 4294967296)
    (hW : Wr w lo g 0 L 0) (hg : g < lo) (hlo : lo ≤ w.heap.size) (hlen : L.length ≤ 110000000) :
    Calls Tryz.prog 103 #[.pointer (some ⟨g, 0, none⟩), scV32 p, .slice q n cap] w fun e w' => e = .returned (.tuple #[]) ∧ Wr w' lo g 0 (L ++ F32.wb p f 0 n 0) 0 ∧ Only g 0 123 w w' := by
  have H := hide h
  have HF := hide hf
  have HWO := hide (fun (v : Nat) (w : World) (hv : v < 4294967296) => wholeOf32_any p v w hv)
  have HWR := hide hW
  have HLL := hide hlen
  obtain ⟨g0, hg0⟩ : ∃ g0, w.heap.size = g0 := ⟨_, rfl⟩
  have hgg : g < g0 := by omega
  obtain ⟨W1, hW1⟩ : ∃ W1, W1 = w.alloc (.cells #[.int .i64 (p : Int), .int .u32 (F32.pow p : Int)] 116) := ⟨_, rfl⟩
  have HW1 : Hid (Below g0 w W1 ∧ Sc32 W1 g0 p ∧ Wr W1 lo g 0 L 0 ∧ Only g 0 123 w W1) := by
    have hB : Below w.heap.size w W1 := by rw [hW1]; exact (Below.refl _ w).alloc (Nat.le_refl _) _
    refine ⟨by rw [← hg0]; exact hB, ⟨by rw [hW1, ← hg0]; exact heap_alloc_new w _⟩, hW.below hB, only_below32 hB (by omega)⟩
  have HG0 := hide hg0
  have HROW : Hid (∀ wr, Only g 0 123 W1 wr → ∀ k, k < n → ∃ b o, q = some ⟨b, o, none⟩ ∧ wr.cell? ⟨b, o + k, none⟩ = some (.int .u32 (f k : Int))) := fun wr hO k hk => by
    obtain ⟨b, o, hp, hc⟩ := H.out (by omega)
    have hb : b < g0 := by rw [← hg0]; exact block_lt_of_cell (hc k hk)
    have hb2 := HQ.out b o hp (by omega)
    have hs : g0 < W1.heap.size := HW1.out.2.1.lt
    exact ⟨b, o, hp, by rw [World.cell?_of_block (w := W1) (hO.block b (by omega) hb2), HW1.out.1.cell (p := ⟨b, o + k, none⟩) hb]; exact hc k hk⟩
  have HSC : Hid (∀ wr, Only g 0 123 W1 wr → Sc32 wr g0 p) := fun wr hO => ⟨by rw [hO.block g0 HW1.out.2.1.lt (by omega)]; exact HW1.out.2.1.row⟩
  clear h hf hW hlen
  unfold scV32 at *
  go_enter Tryz.func103, Tryz.ntmps103
  go_upto_region 1 with fail
  (try rw [hg0])
  (try rw [← hW1])
  clear hW1 hg0
  go_wp2_with fail
  go_loopw [6, 13] (fun t6 t13 wr => ∃ (k : Nat) (a : Int) (l : List Bool), t13 = .int .i64 (k : Int) ∧ t6 = .int .i64 a ∧ Hid (k ≤ n ∧ (-999999 ≤ a ∧ a ≤ 999999) ∧ l ++ F32.wb p f k (n - k) a = F32.wb p f 0 n 0 ∧ Wr wr lo g 0 (L ++ l) 0 ∧ Only g 0 123 W1 wr)) (fun _ t13 _ => n - (intOf t13).toNat)
  case atStart => exact ⟨0, 0, [], rfl, rfl, Nat.zero_le _, by omega, by simp, by simpa using HW1.out.2.2.1, Only.refl _ _ _ _⟩
  case round =>
    obtain ⟨k, a, l, rfl, rfl, hI⟩ := hrel
    by_cases hlt : k < n
    · obtain ⟨b, o, rfl, c1⟩ := HROW.out wr hI.out.2.2.2.2 k hlt
      obtain ⟨x, hx⟩ : ∃ x, f k = x := ⟨_, rfl⟩
      have hxM : x < 4294967296 := by rw [← hx]; exact HF.out k hlt
      rw [hx] at c1
      have hS := HSC.out wr hI.out.2.2.2.2
      have d0 := hS.c0
      have d1 := hS.c1
      have HWX := hide (HWO.out x wr hxM)
      have hNT := hI.out.2.2.1
      rw [show n - k = (n - (k + 1)) + 1 from by omega, Dm.wb, hx] at hNT
      have HNT := hide hNT
      have HLB : Hid ((L ++ l).length ≤ 111000000) := by
        have h1 := congrArg List.length hI.out.2.2.1
        rw [List.length_append] at h1
        have h2 := F32.wb_len p f 0 n 0 varB_le
        have h4 := HLL.out
        show _ ≤ _
        rw [List.length_append]
        omega
      have HI := hide (And.intro hI.out.2.2.2.1 hI.out.2.2.2.2)
      have HIA := hide hI.out.2.1
      have HS2 : Hid (lo ≤ wr.heap.size ∧ g < wr.heap.size) := by have := HI.out.2.size; have := HW1.out.2.2.2.size; exact ⟨by omega, by omega⟩
      have HKR : Hid (∀ z, F32.wh p x = some z → -999999 ≤ z ∧ z ≤ 999999) := fun z hz => (F32.wh_val hz).2
      generalize F32.pow p = P at *
      generalize F32.wh p x = oo at *
      clear hx hS hI hNT
      go_wp2_with fail
      refine HWX.out.mono ?_
      rintro e w4 ⟨rfl, B4⟩
      have H4 : Hid (Wr w4 lo g 0 (L ++ l) 0 ∧ Only g 0 123 W1 w4 ∧ lo ≤ w4.heap.size) := ⟨HI.out.1.below B4, HI.out.2.trans (only_below32 B4 HS2.out.2), by have := B4.size; have := HS2.out.1; omega⟩
      clear B4
      cases oo with
      | none =>
        simp only [nwV]
        go_wp2_with fail
        go_roundw
        case rel => exact ⟨k + 1, a, l, by simp, by simp, hlt, HIA.out, HNT.out, H4.out.1, H4.out.2.1⟩
        case measure => simp [intOf]; omega
      | some z =>
        simp only [nwV]
        have hz := HKR.out z rfl
        have ha := HIA.out
        have r1 : IntKind.i64.wrap (z - a) = z - a := by rw [IntKind.wrap_i64]; omega
        have r2 : wrap64 (z - a) = z - a := by unfold wrap64; omega
        have hza : -9223372036854775808 ≤ z - a ∧ z - a ≤ 9223372036854775807 := by omega
        have HZ := hide hz
        have HZA := hide hza
        clear ha hz hza
        go_wp2_with fail
        refine (wzig_any g 0 lo (z - a) w4 _ H4.out.1 hg H4.out.2.2 (by have := HLB.out; omega) HZA.out.1 HZA.out.2).mono ?_
        rintro e w5 ⟨rfl, W5, O5⟩
        have H5 : Hid (Wr w5 lo g 0 (L ++ l ++ varB (zig (z - a))) 0 ∧ Only g 0 123 W1 w5) := ⟨W5, H4.out.2.1.trans O5⟩
        clear W5 O5
        go_wp2_with fail
        go_roundw
        case rel =>
          refine ⟨k + 1, z, l ++ varB (zig (z - a)), by simp, by simp, hlt, HZ.out, ?_, ?_, H5.out.2⟩
          · rw [← HNT.out]; simp
          · have := H5.out.1
            simpa only [List.append_assoc] using this
        case measure => simp [intOf]; omega
    · have hk : k = n := by have := hI.out.1; omega
      subst hk
      have hl : l = F32.wb p f 0 k 0 := by have := hI.out.2.2.1; rw [Nat.sub_self, Dm.wb, List.append_nil] at this; exact this
      have HE := hide hl
      clear hl
      go_wp2_with fail
      go_end0
      refine ⟨rfl, ?_, HW1.out.2.2.2.trans hI.out.2.2.2.2⟩
      have := hI.out.2.2.2.1
      rw [HE.out] at this
      exact this

end Go.Proofs.YtleffbpjjbiobaaGreatDoor

/- The contract of Decimal's packing (32 bits). -/
namespace Go.Proofs.YtleffbpjjbiobaaGreatDoor
open Go.RowKit
open M
set_option linter.unusedVariables false
set_option linter.unusedSimpArgs false

theorem dm_len32 (f : Nat → Nat) (n : Nat) : (F32.dm 32 f n).length ≤ 85 + 224 * n := by
  unfold Dm.dm
  have h1 := varB_le (F32.cnt (F32.bs f n F32.mostP).1 f 0 n)
  have h2 := F32.nt_len 32 (F32.bs f n F32.mostP).1 (by omega) f 0 n 0 varB_le
  have h3 := F32.wb_len (F32.bs f n F32.mostP).1 f 0 n 0 varB_le
  simp only [List.length_append, bitsOf_length]
  omega

set_option maxRecDepth 100000 in
set_option maxHeartbeats 1000000 in
theorem packDecimal32_any (q : Option Addr) (n cap : Nat) (f : Nat → Nat) (w : World) (h : URow32 w q n f) (hn : n ≤ 4096) (hcap : n ≤ cap) (hf : ∀ i, i < n → f i < 4294967296) :
    Calls Tryz.prog 62 #[.slice q n cap] w (RowEnd32 (F32.dm 32 f n) w) := by
  have H := hide h
  have HF := hide hf
  have HBS := hide (bestScale32_any q n cap f w h hn hcap hf)
  obtain ⟨p, hp⟩ : ∃ p, (F32.bs f n 10).1 = p := ⟨_, rfl⟩
  have hp22 : p ≤ 10 := by rw [← hp]; exact F32.bs_le f n 10
  rw [hp] at HBS
  have HDM : Hid (F32.dm 32 f n = bitsOf p 5 ++ (varB (F32.cnt p f 0 n) ++ (F32.nt 32 p f 0 n 0 ++ F32.wb p f 0 n 0))) := by
    show _ = _
    unfold Dm.dm
    rw [show F32.mostP = 10 from rfl, hp]
  have HLN := hide (fun lo g L w1 h1 h2 h3 h4 h5 h6 => layNothings32_any p q n cap f lo g L w1 h1 h2 hn hcap hf h3 h4 h5 h6)
  have HLW := hide (fun lo g L w1 h1 h2 h3 h4 h5 h6 => layWholes32_any p q n cap f lo g L w1 h1 h2 hn hcap hf h3 h4 h5 h6)
  clear hp h hf
  unfold scV32 at *
  obtain ⟨P, hP⟩ : ∃ P, F32.pow p = P := ⟨_, rfl⟩
  rw [hP] at HBS HLN HLW
  clear hP
  go_enter Tryz.func62, Tryz.ntmps62
  go_wp2_with fail
  refine HBS.out.mono ?_
  rintro e w1 ⟨rfl, B1⟩
  obtain ⟨g4, hg4⟩ : ∃ g4, w1.heap.size = g4 := ⟨_, rfl⟩
  obtain ⟨W2, hW2⟩ : ∃ W2, W2 = w1.alloc (.cells #[.int .i64 (p : Int), .int .u32 (P : Int)] 116) := ⟨_, rfl⟩
  have H2 : Hid (Below w.heap.size w W2 ∧ W2.heap[g4]? = some (.cells #[.int .i64 (p : Int), .int .u32 (P : Int)] 116 (0, 0)) ∧ W2.heap.size = g4 + 1) := by
    have hs := B1.size
    refine ⟨B1.trans (by rw [hW2]; exact (Below.refl _ w1).alloc (by omega) _), by rw [hW2, ← hg4]; exact heap_alloc_new w1 _, by rw [hW2, ← hg4]; simp⟩
  have HW4 : Hid (w.heap.size ≤ g4) := by have := B1.size; show w.heap.size ≤ g4; omega
  clear B1
  go_upto_region 2 with fail
  (try rw [hg4])
  (try rw [← hW2])
  clear hW2 hg4
  obtain ⟨g, hg⟩ : ∃ g, g = W2.heap.size := ⟨_, rfl⟩
  obtain ⟨W3, hW3⟩ : ∃ W3, W3 = W2.alloc (.cells zW 125) := ⟨_, rfl⟩
  have H3 : Hid (Wr W3 (g + 1) g 0 [] 0 ∧ g + 1 ≤ W3.heap.size ∧ Below w.heap.size w W3 ∧ W3.heap[g4]? = some (.cells #[.int .i64 (p : Int), .int .u32 (P : Int)] 116 (0, 0)) ∧ g4 < g ∧ w.heap.size ≤ g) := by
    have B3 : Below g W2 W3 := by rw [hW3, hg]; exact (Below.refl _ W2).alloc (Nat.le_refl _) _
    have := H2.out.2.2
    have := HW4.out
    refine ⟨by rw [hg, hW3]; exact wr_of (heap_alloc_new W2 _), by rw [hW3, hg]; simp, H2.out.1.trans (B3.mono (by omega)), by rw [B3.block g4 (by omega)]; exact H2.out.2.1, by omega, by omega⟩
  refine wp_region_list ?_
  refine wpList_build rfl 125 #[] rfl (by kernel_rfl) ?_
  simp only [Array.map_empty]
  rw [zW_built]
  refine Go.Great.wpList_boxTo rfl 125 (.tmp 8) rfl (some 9) rfl g hg.symm zW rfl ?_
  rw [← hW3]
  clear hW3 hg
  have c0 : W3.cell? ⟨g4, 0, none⟩ = some (.int .i64 (p : Int)) := cell_of_row _ _ 0 _ _ _ H3.out.2.2.2.1
  have r0 : IntKind.u64.wrap (p : Int) = (p : Int) := by rw [IntKind.wrap_u64]; omega
  have HQ : Hid (∀ b o, q = some ⟨b, o, none⟩ → 0 < n → b ≠ g) := fun b o hq h0 => by
    obtain ⟨b', o', hp', hc⟩ := H.out h0
    rw [hq] at hp'
    simp only [Option.some.injEq, Addr.mk.injEq] at hp'
    have h3 : b' < w.heap.size := block_lt_of_cell (hc 0 h0)
    have := H3.out.2.2.2.2.2
    omega
  have HRW : Hid (∀ wr, Only g 0 123 W3 wr → URow32 wr q n f ∧ wr.heap[g4]? = some (.cells #[.int .i64 (p : Int), .int .u32 (P : Int)] 116 (0, 0)) ∧ g + 1 ≤ wr.heap.size) := fun wr hO => by
    have h1 := H3.out
    refine ⟨fun h0 => ?_, by rw [hO.block g4 (by omega) (by omega)]; exact h1.2.2.2.1, by have := hO.size; omega⟩
    obtain ⟨b, o, hp', hc⟩ := H.out h0
    have hb : b < w.heap.size := block_lt_of_cell (hc 0 h0)
    exact ⟨b, o, hp', fun i hi => by rw [World.cell?_of_block (w := W3) (hO.block b (by omega) (by omega)), h1.2.2.1.cell (p := ⟨b, o + i, none⟩) hb]; exact hc i hi⟩
  go_wp2_with fail
  refine (wbits_any g 0 (g + 1) 5 p W3 [] H3.out.1 (by omega) H3.out.2.1 (by simp) (by omega) (by omega) (by omega)).mono ?_
  rintro e w4 ⟨rfl, W4, O4⟩
  have H4 : Hid (Wr w4 (g + 1) g 0 (bitsOf p 5) 0 ∧ Only g 0 123 W3 w4) := ⟨by simpa using W4, O4⟩
  clear W4 O4
  obtain ⟨h5a, h5b, h5c⟩ := HRW.out w4 H4.out.2
  have c1 : w4.cell? ⟨g4, 0, none⟩ = some (.int .i64 (p : Int)) := cell_of_row _ _ 0 _ _ _ h5b
  have c2 : w4.cell? ⟨g4, 1, none⟩ = some (.int .u32 (P : Int)) := cell_of_row _ _ 1 _ _ _ h5b
  have HN := hide (HLN.out (g + 1) g (bitsOf p 5) w4 h5a HQ H4.out.1 (by omega) h5c (by simp))
  clear h5a h5b h5c c0
  go_wp2_with fail
  refine HN.out.mono ?_
  rintro e w5 ⟨rfl, W5, O5⟩
  have H5 : Hid (Wr w5 (g + 1) g 0 (bitsOf p 5 ++ (varB (F32.cnt p f 0 n) ++ F32.nt 32 p f 0 n 0)) 0 ∧ Only g 0 123 W3 w5) := ⟨W5, H4.out.2.trans O5⟩
  clear W5 O5 c1 c2
  obtain ⟨h5a, h5b, h5c⟩ := HRW.out w5 H5.out.2
  have c1 : w5.cell? ⟨g4, 0, none⟩ = some (.int .i64 (p : Int)) := cell_of_row _ _ 0 _ _ _ h5b
  have c2 : w5.cell? ⟨g4, 1, none⟩ = some (.int .u32 (P : Int)) := cell_of_row _ _ 1 _ _ _ h5b
  have HN2 := hide (HLW.out (g + 1) g _ w5 h5a HQ H5.out.1 (by omega) h5c (by
    have h1 := varB_le (F32.cnt p f 0 n)
    have h2 := F32.nt_len 32 p (by omega) f 0 n 0 varB_le
    simp only [List.length_append, bitsOf_length]
    omega))
  clear h5a h5b h5c
  go_wp2_with fail
  refine HN2.out.mono ?_
  rintro e w6 ⟨rfl, W6, O6⟩
  have H6 : Hid (Wr w6 (g + 1) g 0 (F32.dm 32 f n) 0 ∧ Only g 0 123 W3 w6 ∧ g + 1 ≤ w6.heap.size) := by
    refine ⟨?_, H5.out.2.trans O6, (HRW.out w6 (H5.out.2.trans O6)).2.2⟩
    rw [HDM.out]
    simpa only [List.append_assoc] using W6
  clear W6 O6 c1 c2
  have HLB : Hid ((F32.dm 32 f n).length < 1000000000000) := by have := dm_len32 f n; show _ < _; omega
  obtain ⟨l, hl⟩ : ∃ l, F32.dm 32 f n = l := ⟨_, rfl⟩
  rw [hl] at H6 HLB
  have HLE := hide hl
  clear hl
  go_wp2_with fail
  refine (wdone_packed g 0 (g + 1) w6 _ H6.out.1 H6.out.2.2 HLB.out _ rfl).mono ?_
  rintro e w9 ⟨rfl, G9, B9⟩
  have HG9 := hide G9
  have HB9 := hide B9
  clear G9 B9
  go_wp2_with fail
  go_ret2
  have e3 := H3.out.2.2.1
  have e4 := H3.out.2.2.2.2.2
  have e5 := H6.out.2.1.below (B := w.heap.size) (by omega) (by have := e3.size; omega)
  rw [HLE.out]
  refine ⟨w6.heap.size, (l.length + 7) / 8, (packed_length _).symm, ?_, rfl, HG9.out, ?_⟩
  · have := e5.size; have := e3.size; omega
  · exact (e3.trans e5).trans (HB9.out.mono (by have := e5.size; have := e3.size; omega))

end Go.Proofs.YtleffbpjjbiobaaGreatDoor

namespace Go.Proofs.YtleffbpjjbiobaaGreatDoor
open Go.RowKit
open M
set_option linter.unusedVariables false
set_option linter.unusedSimpArgs false

/-- What takeWindow tells. -/
def TwEnd32 (w : World) (b : Nat) (s : ByteArray) (a : Nat) (e0 : Int) (e : Ending) (w' : World) : Prop :=
  ∃ (l n N a' : Nat) (e1 : Int), e = .returned (.agg #[.int .i64 (l : Int), .int .i64 (N : Int)]) ∧ n + 1 = N ∧ l < 32 ∧ n < 32 ∧ Tk w w' b 0 s a e0 a' e1 (bitsOf l 5 ++ bitsOf n 5)

set_option maxRecDepth 100000 in
set_option maxHeartbeats 1000000 in
theorem takeWindow32_any (b : Nat) (s : ByteArray) (a : Nat) (e0 : Int) (w : World) (h : Rd w b 0 s a e0) :
    Calls Tryz.prog 154 #[.pointer (some ⟨b, 0, none⟩)] w (TwEnd32 w b s a e0) := by
  have hbs : b < w.heap.size := block_lt_of_cell h.text
  have HM : Hid (Rd (w.alloc (.cells #[.int .i64 0, .int .i64 0] 162)) b 0 s a e0 ∧ Only b 0 3 w (w.alloc (.cells #[.int .i64 0, .int .i64 0] 162)) ∧
      (w.alloc (.cells #[.int .i64 0, .int .i64 0] 162)).heap[w.heap.size]? = some (.cells #[.int .i64 0, .int .i64 0] 162 (0, 0))) :=
    ⟨h.below ((Below.refl _ w).alloc (Nat.le_refl _) _) hbs, (Only.refl b 0 3 w).alloc hbs _, heap_alloc_new w _⟩
  have ha := hide h.le
  clear h
  go_enter Tryz.func154, Tryz.ntmps154
  go_wp2_with fail
  generalize w.alloc (.cells #[.int .i64 0, .int .i64 0] 162) = w0 at *
  refine (fieldWidth32_any _).mono ?_
  rintro e wy ⟨rfl, hwy⟩
  have hwy := hwy.symm
  subst hwy
  go_wp2_with fail
  refine (tk_bits b 0 s a 5 e0 _ HM.out.1 (by omega)).mono ?_
  rintro e w1 ⟨l, a1, e1, rfl, hl, T1⟩
  have hl' : l < 32 := hl
  have l1 : wrap64 (l : Int) = (l : Int) := by unfold wrap64; omega
  have l2 : IntKind.i64.wrap (l : Int) = (l : Int) := by rw [IntKind.wrap_i64]; omega
  go_wp2_with fail
  refine (fieldWidth32_any _).mono ?_
  rintro e wy ⟨rfl, hwy⟩
  have hwy := hwy.symm
  subst hwy
  go_wp2_with fail
  refine (tk_bits b 0 s a1 5 e1 _ T1.rd (by omega)).mono ?_
  rintro e w2 ⟨n, a2, e2, rfl, hn, T2⟩
  have hn' : n < 32 := hn
  obtain ⟨N, hN⟩ : ∃ N, n + 1 = N := ⟨_, rfl⟩
  have n1 : wrap64 (n : Int) = (n : Int) := by unfold wrap64; omega
  have n2 : IntKind.i64.wrap (n : Int) = (n : Int) := by rw [IntKind.wrap_i64]; omega
  have n3 : (n : Int) + 1 = (N : Int) := by omega
  have n4 : wrap64 (N : Int) = (N : Int) := by unfold wrap64; omega
  have O2 : Only b 0 3 w0 w2 := T1.only.trans T2.only
  have hs0 := size_lt_of_row HM.out.2.2
  have hGb : w.heap.size ≠ b := by omega
  have g0 : w2.cell? ⟨w.heap.size, 0, none⟩ = some (.int .i64 0) := by rw [World.cell?_of_block (O2.block w.heap.size hs0 hGb), cell_of_row _ _ _ _ _ _ HM.out.2.2]; rfl
  have g1 : w2.cell? ⟨w.heap.size, 1, none⟩ = some (.int .i64 0) := by rw [World.cell?_of_block (O2.block w.heap.size hs0 hGb), cell_of_row _ _ _ _ _ _ HM.out.2.2]; rfl
  have f0 : w2.frozen? ⟨w.heap.size, 0, none⟩ = false := by rw [World.frozen?_of_block (w := w0) (w' := w2) (a := ⟨w.heap.size, 0, none⟩) (O2.block w.heap.size hs0 hGb)]; exact frozen_of_row _ _ _ _ _ HM.out.2.2
  have f1 : w2.frozen? ⟨w.heap.size, 1, none⟩ = false := by rw [World.frozen?_of_block (w := w0) (w' := w2) (a := ⟨w.heap.size, 1, none⟩) (O2.block w.heap.size hs0 hGb)]; exact frozen_of_row _ _ _ _ _ HM.out.2.2
  have HTT := hide (T1.trans ha.out T2)
  have HN := hide (And.intro hN (And.intro hl' hn'))
  clear T1 T2 O2 hl hn hl' hn' hN
  go_wp2_with fail
  obtain ⟨r0, r1⟩ := set_two (v := .int .i64 (l : Int)) (v' := .int .i64 (N : Int)) g0 g1
  refine bodyPost_ret (v := .agg #[.int .i64 (l : Int), .int .i64 (N : Int)]) (by
    have r2 := cell_setCell_eq w2 w.heap.size 0 (.int .i64 (l : Int)) _ g0
    have r3 := cell_setCell_eq (w2.setCell ⟨w.heap.size, 0, none⟩ (.int .i64 (l : Int))) w.heap.size 1 (.int .i64 (N : Int)) (.int .i64 0) (by rw [cell_setCell_ne _ _ _ _ _ (by omega)]; exact g1)
    simp [results, Tryz.results154, go_sem, r0, r1, r2, r3]) rfl ?_
  refine ⟨l, n, N, a2, e2, rfl, HN.out.1, HN.out.2.1, HN.out.2.2, (HTT.out.rd.setOther' w.heap.size 0 hGb _).setOther' w.heap.size 1 hGb _, ?_, HTT.out.sound, HTT.out.full⟩
  exact ((HM.out.2.1.trans HTT.out.only).setOther' w.heap.size 0 (Nat.le_refl _) hGb _).setOther' w.heap.size 1 (Nat.le_refl _) hGb _

end Go.Proofs.YtleffbpjjbiobaaGreatDoor

namespace Go.Proofs.YtleffbpjjbiobaaGreatDoor
open Go.RowKit
open M
set_option linter.unusedVariables false
set_option linter.unusedSimpArgs false

theorem full_at32 {w w' : World} {b off : Nat} {s : ByteArray} {a a' : Nat} {e1 : Int} {laid X r : List Bool} (T : Tk w w' b off s a 0 a' e1 laid) (ha : a ≤ 8 * s.size) (h : (rb s).drop a = X ++ r) (hl : laid.length ≤ X.length) :
    e1 = 0 ∧ ∃ r', X ++ r = laid ++ r' := by
  have h1 := congrArg List.length h
  rw [List.length_drop, rb_length, List.length_append] at h1
  have e : e1 = 0 := by
    by_cases h0 : laid.length = 0
    · exact T.full rfl (by rw [rb_length]; omega)
    · exact T.full rfl (by rw [rb_length]; omega)
  exact ⟨e, _, by rw [← h]; exact take_eq_drop' _ _ _ _ (T.sound e).2⟩

theorem xb_first32 (W K L N y : Nat) (h0 : y ≠ 0) : ∃ t, xb W K L N y = true :: (!decide (sut W K L N y)) :: t := by
  by_cases h : sut W K L N y
  · rw [xb_old _ _ _ _ _ h0 h]; exact ⟨_, by simp [h]; rfl⟩
  · rw [xb_new _ _ _ _ _ h0 h]; exact ⟨_, by simp [h]; rfl⟩

/-- The first bit is a nought. -/
theorem zero_done32 {w w' : World} {b off : Nat} {s : ByteArray} {a a' : Nat} {e1 : Int} {L N y : Nat} {r : List Bool} (T : Tk w w' b off s a 0 a' e1 [false]) (ha : a ≤ 8 * s.size) (h : (rb s).drop a = xb 32 5 L N y ++ r) : e1 = 0 ∧ y = 0 := by
  by_cases h0 : y = 0
  · subst h0
    exact ⟨(full_at32 T ha h (by simp [xb_0])).1, rfl⟩
  · obtain ⟨t, ht⟩ := xb_first32 32 5 L N y h0
    obtain ⟨h1, r', h2⟩ := full_at32 T ha h (by rw [ht]; simp)
    rw [ht] at h2
    simp at h2

/-- A 1, then v. -/
theorem second_done32 {w w' : World} {b off : Nat} {s : ByteArray} {a a' : Nat} {e1 : Int} {L N y : Nat} {v : Bool} {r : List Bool} (hr : (rb s).drop a = true :: r) (T : Tk w w' b off s a 0 a' e1 [true, v]) (ha : a ≤ 8 * s.size) {r2 : List Bool} (h : (rb s).drop a = xb 32 5 L N y ++ r2) :
    e1 = 0 ∧ y ≠ 0 ∧ (v = true ↔ ¬ sut 32 5 L N y) := by
  have h0 : y ≠ 0 := by
    rintro rfl
    rw [h, xb_0] at hr
    simp at hr
  obtain ⟨t, ht⟩ := xb_first32 32 5 L N y h0
  obtain ⟨h1, r', h2⟩ := full_at32 T ha h (by rw [ht]; simp)
  rw [ht] at h2
  simp only [List.cons_append, List.nil_append, List.cons.injEq, true_and] at h2
  refine ⟨h1, h0, ?_⟩
  rw [← h2.1]
  by_cases hs : sut 32 5 L N y <;> simp [hs]

/-- In the old window. -/
theorem old_done32 {w w' : World} {b off : Nat} {s : ByteArray} {a a' : Nat} {e1 : Int} {L N y v : Nat} {r : List Bool} (T : Tk w w' b off s a 0 a' e1 ([true, false] ++ bitsOf v N)) (ha : a ≤ 8 * s.size) (hy : y < 4294967296) (hw : L + N ≤ 32) (hv : v < 2 ^ N)
    (h0 : y ≠ 0) (hs : sut 32 5 L N y) (h : (rb s).drop a = xb 32 5 L N y ++ r) : e1 = 0 ∧ v * 2 ^ (32 - L - N) = y := by
  have h' := h
  rw [xb_old _ _ _ _ _ h0 hs] at h'
  obtain ⟨h1, r', h2⟩ := full_at32 T ha h' (by simp)
  refine ⟨h1, ?_⟩
  simp only [List.cons_append, List.nil_append, List.cons.injEq, true_and] at h2
  have h3 := (pbits_inj _ _ _ _ _ (old_fits 32 5 L N y hy hw hs) hv h2).1
  rw [← h3]
  exact cut_back y _ h0 (lt64 (W := 32) hy (by omega)) hs.2.2.1

/-- A window of its own. -/
theorem new_done32 {w w' : World} {b off : Nat} {s : ByteArray} {a a' : Nat} {e1 : Int} {L N y l n : Nat} {r : List Bool} (T : Tk w w' b off s a 0 a' e1 ([true, true] ++ (bitsOf l 5 ++ bitsOf n 5))) (ha : a ≤ 8 * s.size) (hy : y < 4294967296) (hl : l < 32) (hn : n < 32)
    (h0 : y ≠ 0) (hs : ¬ sut 32 5 L N y) (h : (rb s).drop a = xb 32 5 L N y ++ r) : e1 = 0 ∧ l = 32 - bitLen y ∧ n + 1 = wl y := by
  have h' := h
  rw [xb_new _ _ _ _ _ h0 hs] at h'
  have hy6 := lt64 (W := 32) hy (by omega)
  have q1 := bitLen_le y 32 hy
  have q2 := bitLen_pos y h0
  have q3 := wl_pos y h0 hy6
  have q4 : wl y ≤ 32 := by unfold wl; omega
  obtain ⟨h1, r', h2⟩ := full_at32 T ha h' (by simp; omega)
  refine ⟨h1, ?_⟩
  simp only [List.cons_append, List.nil_append, List.cons.injEq, true_and, List.append_assoc] at h2
  obtain ⟨h3, h4⟩ := pbits_inj _ _ 5 _ _ (by omega) (by omega) h2
  obtain ⟨h5, h6⟩ := pbits_inj _ _ 5 _ _ (by omega) (by omega) h4
  omega

theorem own_done32 {w w' : World} {b off : Nat} {s : ByteArray} {a a' : Nat} {e1 : Int} {L N y l n v m : Nat} {r : List Bool} (T : Tk w w' b off s a 0 a' e1 ([true, true] ++ (bitsOf l 5 ++ bitsOf n 5) ++ bitsOf v m)) (ha : a ≤ 8 * s.size) (hy : y < 4294967296) (hv : v < 2 ^ m)
    (h0 : y ≠ 0) (hs : ¬ sut 32 5 L N y) (h : (rb s).drop a = xb 32 5 L N y ++ r) (el : l = 32 - bitLen y) (en : n + 1 = wl y) (em : m = n + 1) : e1 = 0 ∧ v * 2 ^ (32 - l - m) = y := by
  have h' := h
  have hy6 := lt64 (W := 32) hy (by omega)
  have q1 := bitLen_le y 32 hy
  have q2 := tz_lt y h0 hy6
  have q3 : wl y = bitLen y - tz y := rfl
  have em' : wl y = m := by omega
  rw [xb_new _ _ _ _ _ h0 hs, show 32 - bitLen y = l from el.symm, show wl y - 1 = n from by omega, em'] at h'
  obtain ⟨h1, r', h2⟩ := full_at32 T ha h' (by simp)
  refine ⟨h1, ?_⟩
  simp only [List.cons_append, List.nil_append, List.cons.injEq, true_and, List.append_assoc, List.append_cancel_left_eq] at h2
  have h3 := (pbits_inj _ _ _ _ _ (by rw [← em']; exact new_fits y h0 hy6) hv h2).1
  rw [← h3, show 32 - l - m = tz y from by omega]
  exact cut_back y _ h0 hy6 (Nat.le_refl _)

/-- What a value that was read tells: in the old window. -/
theorem old_back32 (L N v : Nat) (hw : L + N ≤ 32) (hv : v < 2 ^ N) : v * 2 ^ (32 - L - N) < 4294967296 ∧ v * 2 ^ (32 - L - N) / 2 ^ (32 - L - N) = v := by
  refine ⟨?_, Nat.mul_div_cancel _ (Nat.two_pow_pos _)⟩
  have h1 : v * 2 ^ (32 - L - N) < 2 ^ N * 2 ^ (32 - L - N) := (Nat.mul_lt_mul_right (Nat.two_pow_pos _)).2 hv
  rw [← Nat.pow_add] at h1
  exact Nat.lt_of_lt_of_le h1 (Nat.le_trans (Nat.pow_le_pow_right (by omega) (show N + (32 - L - N) ≤ 32 by omega)) (by decide))

theorem put_win32 {w1 w3 : World} {b : Nat} {s : ByteArray} {a1 a2 : Nat} {e2 : Int} {l : List Bool} {H : Nat} {u u' v v' : Value} (T : Tk w1 w3 b 0 s a1 0 a2 e2 l) (hH : w1.heap.size ≤ H) (hHb : H ≠ b) (hs : H < w3.heap.size)
    (g0 : w3.cell? ⟨H, 0, none⟩ = some u) (g1 : w3.cell? ⟨H, 1, none⟩ = some u') (hf : ∀ i, w3.frozen? ⟨H, i, none⟩ = false) :
    Tk w1 ((w3.setCell ⟨H, 0, none⟩ v).setCell ⟨H, 1, none⟩ v') b 0 s a1 0 a2 e2 l ∧ H < ((w3.setCell ⟨H, 0, none⟩ v).setCell ⟨H, 1, none⟩ v').heap.size ∧
      ((w3.setCell ⟨H, 0, none⟩ v).setCell ⟨H, 1, none⟩ v').cell? ⟨H, 0, none⟩ = some v ∧ ((w3.setCell ⟨H, 0, none⟩ v).setCell ⟨H, 1, none⟩ v').cell? ⟨H, 1, none⟩ = some v' ∧
      ∀ i, ((w3.setCell ⟨H, 0, none⟩ v).setCell ⟨H, 1, none⟩ v').frozen? ⟨H, i, none⟩ = false := by
  obtain ⟨r0, r1⟩ := set_two (v := v) (v' := v') g0 g1
  refine ⟨⟨(T.rd.setOther' H 0 hHb _).setOther' H 1 hHb _, (T.only.setOther' H 0 hH hHb _).setOther' H 1 hH hHb _, T.sound, T.full⟩, by simp [World.setCell]; exact hs, r0, r1, fun i => by rw [frozen_setCell, frozen_setCell]; exact hf i⟩

theorem cell_setOther32 (w : World) (g i c j : Nat) (v : Value) (h : g ≠ c) : (w.setCell ⟨g, i, none⟩ v).cell? ⟨c, j, none⟩ = w.cell? ⟨c, j, none⟩ :=
  World.cell?_of_block (Below.heap_setCell _ _ _ _ (fun e => h e.symm))

theorem Tk.more32 {w w' w2 : World} {b off : Nat} {s : ByteArray} {a a' : Nat} {e0 e1 : Int} {laid : List Bool} (T : Tk w w' b off s a e0 a' e1 laid) (hB : Below w'.heap.size w' w2) : Tk w w2 b off s a e0 a' e1 laid := by
  have hb : b < w'.heap.size := block_lt_of_cell T.rd.text
  refine ⟨T.rd.below hB hb, T.only.trans ⟨hB.os, hB.tape, hB.output, hB.size, fun k hk _ => hB.block k hk, fun j _ => World.cell?_of_block (hB.block b hb), fun j => World.frozen?_of_block (w := w') (w' := w2) (a := ⟨b, j, none⟩) (hB.block b hb)⟩, T.sound, T.full⟩
theorem wrap_nat32 {x : Nat} (h : x < 4294967296) : IntKind.u32.wrap (x : Int) = (x : Int) := by rw [IntKind.wrap_u32]; omega
theorem wrap_val32 {v n : Nat} (h : v < 2 ^ n) (hn : n ≤ 32) : IntKind.u32.wrap (v : Int) = (v : Int) := wrap_nat32 (Nat.lt_of_lt_of_le h (Nat.le_trans (Nat.pow_le_pow_right (by omega) hn) (by decide)))

/-- What take tells. -/
def TakeEnd32 (w : World) (b c : Nat) (s : ByteArray) (a : Nat) (e0 : Int) (p L N : Nat) (e : Ending) (w' : World) : Prop :=
  ∃ (ok : Bool) (x a' : Nat) (e1 : Int), e = .returned (.bool ok) ∧ Rd w' b 0 s a' e1 ∧ Two32 b c w w' ∧ x < 4294967296 ∧
    (ok = true → Col32 w' c (p ^^^ x) (nxt 32 5 (L, N) x).1 (nxt 32 5 (L, N) x).2 ∧ (e1 = 0 → e0 = 0 ∧ (rb s).take a' = (rb s).take a ++ xb 32 5 L N x)) ∧
    (e0 = 0 → ∀ y r, y < 4294967296 → (rb s).drop a = xb 32 5 L N y ++ r → ok = true ∧ x = y ∧ e1 = 0)

end Go.Proofs.YtleffbpjjbiobaaGreatDoor

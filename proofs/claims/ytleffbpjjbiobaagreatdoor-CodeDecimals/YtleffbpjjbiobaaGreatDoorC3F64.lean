/- The contract of Decimal's packing (64 bits). -/
import Derived.Test.YtleffbpjjbiobaaGreatDoorP1C64
import Derived.Test.YtleffbpjjbiobaaGreatDoorNF
import Derived.Test.YtleffbpjjbiobaaGreatDoorC3E64
import Derived.Test.YtleffbpjjbiobaaGreatDoorB1U
/- The contract of Plain's packing (64 bits). -/
namespace Go.Proofs.YtleffbpjjbiobaaGreatDoor
open Go.RowKit
open M
set_option linter.unusedVariables false
set_option linter.unusedSimpArgs false

/-- A packer's answer: the bytes of these bits, in a row of their own. -/
def RowEnd64 (l : List Bool) (w : World) (e : Ending) (w' : World) : Prop :=
  ∃ (g L : Nat), L = (packed l).length ∧ w.heap.size ≤ g ∧ e = .returned (.tuple #[.slice (some ⟨g, 0, none⟩) L L, .int .i64 0]) ∧
    w'.heap[g]? = some (.cells (bytesV (packed l)).toArray 5 (0, 0)) ∧ Below w.heap.size w w'

set_option maxRecDepth 100000 in
set_option maxHeartbeats 1000000 in
theorem packPlain64_any (p : Option Addr) (n cap : Nat) (f : Nat → Nat) (w : World) (h : URow64 w p n f) (hn : n ≤ 4096) (hcap : n ≤ cap) (hf : ∀ i, i < n → f i < 18446744073709551616) :
    Calls Tryz.prog 51 #[.slice p n cap] w (RowEnd64 (plB 64 f n) w) := by
  have H := hide h
  have HF := hide hf
  obtain ⟨g, hg⟩ : ∃ g, g = w.heap.size := ⟨_, rfl⟩
  obtain ⟨W1, hW1⟩ : ∃ W1, W1 = w.alloc (.cells zW 125) := ⟨_, rfl⟩
  have HM : Hid (Wr W1 (g + 1) g 0 [] 0 ∧ g + 1 ≤ W1.heap.size ∧ Below w.heap.size w W1 ∧ URow64 W1 p n f) := by
    have B1 : Below w.heap.size w W1 := by rw [hW1]; exact (Below.refl _ w).alloc (Nat.le_refl _) _
    refine ⟨?_, by rw [hW1, hg]; simp, B1, h.below B1⟩
    rw [hg, hW1]; exact wr_of (heap_alloc_new w _)
  have HP : Hid (∀ a, p = some a → 0 < n → a.block < g) := fun a ha h0 => by
    obtain ⟨b, o, hp, hc⟩ := H.out h0
    rw [hp] at ha
    simp only [Option.some.injEq] at ha
    rw [← ha, hg]
    exact block_lt_of_cell (hc 0 h0)
  have HG := hide hg
  clear h hf
  go_enter Tryz.func51, Tryz.ntmps51
  go_upto_region 1 with fail
  refine wp_region_list ?_
  refine wpList_build rfl 125 #[] rfl (by kernel_rfl) ?_
  simp only [Array.map_empty]
  rw [zW_built]
  refine Go.Great.wpList_boxTo rfl 125 (.tmp 7) rfl (some 8) rfl g hg.symm zW rfl ?_
  rw [← hW1]
  clear hW1 hg
  go_wp2_with fail
  go_loopw [11] (fun t11 wr => ∃ k : Nat, t11 = .int .i64 (k : Int) ∧ Hid (k ≤ n ∧ Wr wr (g + 1) g 0 (plB 64 f k) 0 ∧ Only g 0 123 W1 wr)) (fun t11 _ => n - (intOf t11).toNat)
  case atStart => exact ⟨0, rfl, Nat.zero_le _, HM.out.1, Only.refl _ _ _ _⟩
  case round =>
    obtain ⟨k, rfl, hI⟩ := hrel
    by_cases hlt : k < n
    · obtain ⟨rb0, ro, rfl, hc⟩ := HM.out.2.2.2 (by omega)
      have hrb : rb0 < g := HP.out _ rfl (by omega)
      obtain ⟨v, hv⟩ : ∃ v, f k = v := ⟨_, rfl⟩
      have hs1 := HM.out.2.1
      have c1 : wr.cell? ⟨rb0, ro + k, none⟩ = some (.int .u64 (v : Int)) := by
        rw [World.cell?_of_block (w := W1) (hI.out.2.2.block rb0 (by omega) (by omega)), ← hv]
        exact hc k hlt
      have hvM : v < 18446744073709551616 := by rw [← hv]; exact HF.out k hlt
      have HV := hide hv
      clear hv hc hs1
      go_wp2_with fail
      refine (layValue64_any g 0 (g + 1) v wr _ hI.out.2.1 (by omega) (Nat.le_trans HM.out.2.1 hI.out.2.2.size) (by rw [plB_length]; omega) hvM).mono ?_
      rintro e w3 ⟨rfl, W3, O3⟩
      go_wp2_with fail
      go_roundw
      case rel =>
        refine ⟨k + 1, by simp, hlt, ?_, hI.out.2.2.trans O3⟩
        rw [plB, HV.out]; exact W3
      case measure => simp [intOf]; omega
    · have hk : k = n := by have := hI.out.1; omega
      go_wp2_with fail
      refine (wdone_packed g 0 (g + 1) wr _ hI.out.2.1 (Nat.le_trans HM.out.2.1 hI.out.2.2.size) (by rw [plB_length]; omega) _ rfl).mono ?_
      rintro e w3 ⟨rfl, G3, B3⟩
      go_wp2_with fail
      go_ret2
      have e3 := HM.out.2.2.1
      have e4 := HG.out
      have e5 := hI.out.2.2.below (B := w.heap.size) (by omega) (by have := e3.size; omega)
      refine ⟨wr.heap.size, ((plB 64 f n).length + 7) / 8, (packed_length _).symm, ?_, rfl, (by first | exact G3 | (rw [hk] at G3; exact G3)), ?_⟩
      · have := e5.size; have := e3.size; omega
      · exact (e3.trans e5).trans (B3.mono (by have := e5.size; have := e3.size; omega))

end Go.Proofs.YtleffbpjjbiobaaGreatDoor

/- The contracts of Decimal's packing (64 bits). -/
namespace Go.Proofs.YtleffbpjjbiobaaGreatDoor
open Go.RowKit
open M
set_option linter.unusedVariables false
set_option linter.unusedSimpArgs false

theorem only_below64 {w w' : World} {g a b : Nat} (hB : Below w.heap.size w w') (hg : g < w.heap.size) : Only g a b w w' :=
  ⟨hB.os, hB.tape, hB.output, hB.size, fun k hk _ => hB.block k hk, fun j _ => hB.cell (p := ⟨g, j, none⟩) hg, fun j => hB.frozen (p := ⟨g, j, none⟩) hg⟩

set_option maxRecDepth 100000 in
set_option maxHeartbeats 1000000 in
theorem layNothings64_any (p : Nat) (q : Option Addr) (n cap : Nat) (f : Nat → Nat) (lo g : Nat) (L : List Bool) (w : World) (h : URow64 w q n f) (HQ : Hid (∀ b o, q = some ⟨b, o, none⟩ → 0 < n → b ≠ g)) (hn : n ≤ 4096) (hcap : n ≤ cap) (hf : ∀ i, i < n → f i < 18446744073709551616)
    (hW : Wr w lo g 0 L 0) (hg : g < lo) (hlo : lo ≤ w.heap.size) (hlen : L.length ≤ 100000000) :
    Calls Tryz.prog 94 #[.pointer (some ⟨g, 0, none⟩), scV64 p, .slice q n cap] w fun e w' => e = .returned (.tuple #[]) ∧ Wr w' lo g 0 (L ++ (varB (F64.cnt p f 0 n) ++ F64.nt 64 p f 0 n 0)) 0 ∧ Only g 0 123 w w' := by
  have HNO := hide (fun (w1 : World) (h1 : URow64 w1 q n f) => nothings64_any p q n cap f w1 h1 hn hcap hf)
  have H := hide h
  have HF := hide hf
  have HWO := hide (fun (v : Nat) (w : World) (hv : v < 18446744073709551616) => wholeOf64_any p v w hv)
  have HWR := hide hW
  have HLL := hide hlen
  obtain ⟨g0, hg0⟩ : ∃ g0, w.heap.size = g0 := ⟨_, rfl⟩
  have hgg : g < g0 := by omega
  obtain ⟨W1, hW1⟩ : ∃ W1, W1 = w.alloc (.cells #[.int .i64 (p : Int), .int .u64 (F64.pow p : Int)] 103) := ⟨_, rfl⟩
  have HW1 : Hid (Below g0 w W1 ∧ Sc64 W1 g0 p ∧ Wr W1 lo g 0 L 0 ∧ Only g 0 123 w W1) := by
    have hB : Below w.heap.size w W1 := by rw [hW1]; exact (Below.refl _ w).alloc (Nat.le_refl _) _
    refine ⟨by rw [← hg0]; exact hB, ⟨by rw [hW1, ← hg0]; exact heap_alloc_new w _⟩, hW.below hB, only_below64 hB (by omega)⟩
  have HG0 := hide hg0
  have HROW : Hid (∀ wr, Only g 0 123 W1 wr → ∀ k, k < n → ∃ b o, q = some ⟨b, o, none⟩ ∧ wr.cell? ⟨b, o + k, none⟩ = some (.int .u64 (f k : Int))) := fun wr hO k hk => by
    obtain ⟨b, o, hp, hc⟩ := H.out (by omega)
    have hb : b < g0 := by rw [← hg0]; exact block_lt_of_cell (hc k hk)
    have hb2 := HQ.out b o hp (by omega)
    have hs : g0 < W1.heap.size := HW1.out.2.1.lt
    exact ⟨b, o, hp, by rw [World.cell?_of_block (w := W1) (hO.block b (by omega) hb2), HW1.out.1.cell (p := ⟨b, o + k, none⟩) hb]; exact hc k hk⟩
  have HSC : Hid (∀ wr, Only g 0 123 W1 wr → Sc64 wr g0 p) := fun wr hO => ⟨by rw [hO.block g0 HW1.out.2.1.lt (by omega)]; exact HW1.out.2.1.row⟩
  clear h hf hW hlen
  unfold scV64 at *
  go_enter Tryz.func94, Tryz.ntmps94
  go_upto_region 1 with fail
  (try rw [hg0])
  (try rw [← hW1])
  clear hW1 hg0
  have c0 := HW1.out.2.1.c0
  have c1 := HW1.out.2.1.c1
  have HU : Hid (URow64 W1 q n f) := fun h0 => by
    obtain ⟨b, o, hp, hc⟩ := H.out h0
    exact ⟨b, o, hp, fun i hi => by
      obtain ⟨b', o', hp', hc'⟩ := HROW.out W1 (Only.refl _ _ _ _) i hi
      rw [hp] at hp'
      simp only [Option.some.injEq, Addr.mk.injEq] at hp'
      obtain ⟨rfl, rfl, _⟩ := hp'
      exact hc'⟩
  obtain ⟨C, hC⟩ : ∃ C, F64.cnt p f 0 n = C := ⟨_, rfl⟩
  have hCn : C ≤ n := by rw [← hC]; exact F64.cnt_le p f 0 n
  have HN := hide (HNO.out W1 HU.out)
  rw [hC] at HN
  have HCC := hide hC
  obtain ⟨P, hP⟩ : ∃ P, F64.pow p = P := ⟨_, rfl⟩
  rw [hP] at c1 HN ⊢
  have HP := hide hP
  clear hP
  have r0 : IntKind.u64.wrap (C : Int) = (C : Int) := by rw [IntKind.wrap_u64]; omega
  clear hC
  go_wp2_with fail
  refine HN.out.mono ?_
  rintro e w2 ⟨rfl, B2⟩
  have H2 : Hid (Wr w2 lo g 0 L 0 ∧ Only g 0 123 W1 w2) := ⟨HW1.out.2.2.1.below B2, only_below64 B2 (by have := HW1.out.2.1.lt; omega)⟩
  clear B2 c0 c1
  go_wp2_with fail
  refine (wvar_any g 0 lo C w2 L H2.out.1 hg (by have := H2.out.2.size; have := HW1.out.2.2.2.size; omega) (by have := HLL.out; omega) (by omega)).mono ?_
  rintro e w3 ⟨rfl, W3, O3⟩
  have H3 : Hid (Wr w3 lo g 0 (L ++ varB C) 0 ∧ Only g 0 123 W1 w3) := ⟨W3, H2.out.2.trans O3⟩
  clear W3 O3
  go_wp2_with fail
  go_loopw [6, 19] (fun t6 t19 wr => ∃ (k c : Nat) (l : List Bool), t19 = .int .i64 (k : Int) ∧ t6 = .int .u64 (c : Int) ∧ Hid (k ≤ n ∧ c ≤ k ∧ l ++ F64.nt 64 p f k (n - k) c = F64.nt 64 p f 0 n 0 ∧ Wr wr lo g 0 (L ++ varB C ++ l) 0 ∧ Only g 0 123 W1 wr)) (fun _ t19 _ => n - (intOf t19).toNat)
  case atStart => exact ⟨0, 0, [], rfl, rfl, Nat.zero_le _, Nat.le_refl _, by simp, by simpa using H3.out.1, H3.out.2⟩
  case round =>
    obtain ⟨k, c, l, rfl, rfl, hI⟩ := hrel
    by_cases hlt : k < n
    · obtain ⟨b, o, rfl, c1⟩ := HROW.out wr hI.out.2.2.2.2 k hlt
      obtain ⟨x, hx⟩ : ∃ x, f k = x := ⟨_, rfl⟩
      have hxM : x < 18446744073709551616 := by rw [← hx]; exact HF.out k hlt
      rw [hx] at c1
      have hS := HSC.out wr hI.out.2.2.2.2
      have d0 := hS.c0
      have d1 := hS.c1
      have hck : c ≤ 4096 := by have := hI.out.2.1; omega
      have HWX := hide (HWO.out x wr hxM)
      have hNT := hI.out.2.2.1
      rw [show n - k = (n - (k + 1)) + 1 from by omega, Dm.nt, hx] at hNT
      have HNT := hide hNT
      have HLB : Hid ((L ++ varB C ++ l).length ≤ 101000000) := by
        have h1 := congrArg List.length hI.out.2.2.1
        rw [List.length_append] at h1
        have h2 := F64.nt_len 64 p (by omega) f 0 n 0 varB_le
        have h3 := varB_le C
        have h4 := HLL.out
        show _ ≤ _
        rw [List.length_append, List.length_append]
        omega
      have HI := hide (And.intro hI.out.2.2.2.1 hI.out.2.2.2.2)
      have HIC := hide hI.out.2.1
      have HS2 : Hid (lo ≤ wr.heap.size ∧ g < wr.heap.size) := by have := HI.out.2.size; have := HW1.out.2.2.2.size; exact ⟨by omega, by omega⟩
      rw [HP.out] at d1 HWX
      generalize F64.wh p x = oo at *
      clear hx hS hI hNT
      go_wp2_with fail
      refine HWX.out.mono ?_
      rintro e w4 ⟨rfl, B4⟩
      have H4 : Hid (Wr w4 lo g 0 (L ++ varB C ++ l) 0 ∧ Only g 0 123 W1 w4 ∧ lo ≤ w4.heap.size) := ⟨HI.out.1.below B4, HI.out.2.trans (only_below64 B4 HS2.out.2), by have := B4.size; have := HS2.out.1; omega⟩
      clear B4
      cases oo with
      | some z =>
        simp only [nwV]
        go_wp2_with fail
        go_roundw
        case rel => exact ⟨k + 1, c + 1, l, by simp, by simp, hlt, by have := HIC.out; omega, HNT.out, H4.out.1, H4.out.2.1⟩
        case measure => simp [intOf]; omega
      | none =>
        simp only [nwV]
        go_wp2_with fail
        refine (wvar_any g 0 lo c w4 _ H4.out.1 hg H4.out.2.2 (by have := HLB.out; omega) (by omega)).mono ?_
        rintro e w5 ⟨rfl, W5, O5⟩
        have H5 : Hid (Wr w5 lo g 0 (L ++ varB C ++ l ++ varB c) 0 ∧ Only g 0 123 W1 w5 ∧ lo ≤ w5.heap.size) := ⟨W5, H4.out.2.1.trans O5, by have := O5.size; have := H4.out.2.2; omega⟩
        clear W5 O5
        go_wp2_with fail
        refine (layValue64_any g 0 lo x w5 _ H5.out.1 hg H5.out.2.2 (by have := HLB.out; have := varB_le c; rw [List.length_append]; omega) hxM).mono ?_
        rintro e w6 ⟨rfl, W6, O6⟩
        have H6 : Hid (Wr w6 lo g 0 (L ++ varB C ++ l ++ varB c ++ bitsOf x 64) 0 ∧ Only g 0 123 W1 w6) := ⟨W6, H5.out.2.1.trans O6⟩
        clear W6 O6
        go_wp2_with fail
        go_roundw
        case rel =>
          refine ⟨k + 1, 0, l ++ varB c ++ bitsOf x 64, by simp, by simp, hlt, by omega, ?_, ?_, H6.out.2⟩
          · rw [← HNT.out]; simp
          · have := H6.out.1
            simpa only [List.append_assoc] using this
        case measure => simp [intOf]; omega
    · have hk : k = n := by have := hI.out.1; omega
      subst hk
      have hl : l = F64.nt 64 p f 0 k 0 := by have := hI.out.2.2.1; rw [Nat.sub_self, Dm.nt, List.append_nil] at this; exact this
      have HE := hide hl
      clear hl
      go_wp2_with fail
      go_end0
      refine ⟨rfl, ?_, HW1.out.2.2.2.trans hI.out.2.2.2.2⟩
      have := hI.out.2.2.2.1
      rw [HE.out] at this
      rw [HCC.out]
      simpa only [List.append_assoc] using this

set_option maxRecDepth 100000 in
set_option maxHeartbeats 1000000 in
theorem layWholes64_any (p : Nat) (q : Option Addr) (n cap : Nat) (f : Nat → Nat) (lo g : Nat) (L : List Bool) (w : World) (h : URow64 w q n f) (HQ : Hid (∀ b o, q = some ⟨b, o, none⟩ → 0 < n → b ≠ g)) (hn : n ≤ 4096) (hcap : n ≤ cap) (hf : ∀ i, i < n → f i < 18446744073709551616)
    (hW : Wr w lo g 0 L 0) (hg : g < lo) (hlo : lo ≤ w.heap.size) (hlen : L.length ≤ 110000000) :
    Calls Tryz.prog 95 #[.pointer (some ⟨g, 0, none⟩), scV64 p, .slice q n cap] w fun e w' => e = .returned (.tuple #[]) ∧ Wr w' lo g 0 (L ++ F64.wb p f 0 n 0) 0 ∧ Only g 0 123 w w' := by
  have H := hide h
  have HF := hide hf
  have HWO := hide (fun (v : Nat) (w : World) (hv : v < 18446744073709551616) => wholeOf64_any p v w hv)
  have HWR := hide hW
  have HLL := hide hlen
  obtain ⟨g0, hg0⟩ : ∃ g0, w.heap.size = g0 := ⟨_, rfl⟩
  have hgg : g < g0 := by omega
  obtain ⟨W1, hW1⟩ : ∃ W1, W1 = w.alloc (.cells #[.int .i64 (p : Int), .int .u64 (F64.pow p : Int)] 103) := ⟨_, rfl⟩
  have HW1 : Hid (Below g0 w W1 ∧ Sc64 W1 g0 p ∧ Wr W1 lo g 0 L 0 ∧ Only g 0 123 w W1) := by
    have hB : Below w.heap.size w W1 := by rw [hW1]; exact (Below.refl _ w).alloc (Nat.le_refl _) _
    refine ⟨by rw [← hg0]; exact hB, ⟨by rw [hW1, ← hg0]; exact heap_alloc_new w _⟩, hW.below hB, only_below64 hB (by omega)⟩
  have HG0 := hide hg0
  have HROW : Hid (∀ wr, Only g 0 123 W1 wr → ∀ k, k < n → ∃ b o, q = some ⟨b, o, none⟩ ∧ wr.cell? ⟨b, o + k, none⟩ = some (.int .u64 (f k : Int))) := fun wr hO k hk => by
    obtain ⟨b, o, hp, hc⟩ := H.out (by omega)
    have hb : b < g0 := by rw [← hg0]; exact block_lt_of_cell (hc k hk)
    have hb2 := HQ.out b o hp (by omega)
    have hs : g0 < W1.heap.size := HW1.out.2.1.lt
    exact ⟨b, o, hp, by rw [World.cell?_of_block (w := W1) (hO.block b (by omega) hb2), HW1.out.1.cell (p := ⟨b, o + k, none⟩) hb]; exact hc k hk⟩
  have HSC : Hid (∀ wr, Only g 0 123 W1 wr → Sc64 wr g0 p) := fun wr hO => ⟨by rw [hO.block g0 HW1.out.2.1.lt (by omega)]; exact HW1.out.2.1.row⟩
  clear h hf hW hlen
  unfold scV64 at *
  go_enter Tryz.func95, Tryz.ntmps95
  go_upto_region 1 with fail
  (try rw [hg0])
  (try rw [← hW1])
  clear hW1 hg0
  go_wp2_with fail
  go_loopw [6, 13] (fun t6 t13 wr => ∃ (k : Nat) (a : Int) (l : List Bool), t13 = .int .i64 (k : Int) ∧ t6 = .int .i64 a ∧ Hid (k ≤ n ∧ (-999999999999999 ≤ a ∧ a ≤ 999999999999999) ∧ l ++ F64.wb p f k (n - k) a = F64.wb p f 0 n 0 ∧ Wr wr lo g 0 (L ++ l) 0 ∧ Only g 0 123 W1 wr)) (fun _ t13 _ => n - (intOf t13).toNat)
  case atStart => exact ⟨0, 0, [], rfl, rfl, Nat.zero_le _, by omega, by simp, by simpa using HW1.out.2.2.1, Only.refl _ _ _ _⟩
  case round =>
    obtain ⟨k, a, l, rfl, rfl, hI⟩ := hrel
    by_cases hlt : k < n
    · obtain ⟨b, o, rfl, c1⟩ := HROW.out wr hI.out.2.2.2.2 k hlt
      obtain ⟨x, hx⟩ : ∃ x, f k = x := ⟨_, rfl⟩
      have hxM : x < 18446744073709551616 := by rw [← hx]; exact HF.out k hlt
      rw [hx] at c1
      have hS := HSC.out wr hI.out.2.2.2.2
      have d0 := hS.c0
      have d1 := hS.c1
      have HWX := hide (HWO.out x wr hxM)
      have hNT := hI.out.2.2.1
      rw [show n - k = (n - (k + 1)) + 1 from by omega, Dm.wb, hx] at hNT
      have HNT := hide hNT
      have HLB : Hid ((L ++ l).length ≤ 111000000) := by
        have h1 := congrArg List.length hI.out.2.2.1
        rw [List.length_append] at h1
        have h2 := F64.wb_len p f 0 n 0 varB_le
        have h4 := HLL.out
        show _ ≤ _
        rw [List.length_append]
        omega
      have HI := hide (And.intro hI.out.2.2.2.1 hI.out.2.2.2.2)
      have HIA := hide hI.out.2.1
      have HS2 : Hid (lo ≤ wr.heap.size ∧ g < wr.heap.size) := by have := HI.out.2.size; have := HW1.out.2.2.2.size; exact ⟨by omega, by omega⟩
      have HKR : Hid (∀ z, F64.wh p x = some z → -999999999999999 ≤ z ∧ z ≤ 999999999999999) := fun z hz => (F64.wh_val hz).2
      generalize F64.pow p = P at *
      generalize F64.wh p x = oo at *
      clear hx hS hI hNT
      go_wp2_with fail
      refine HWX.out.mono ?_
      rintro e w4 ⟨rfl, B4⟩
      have H4 : Hid (Wr w4 lo g 0 (L ++ l) 0 ∧ Only g 0 123 W1 w4 ∧ lo ≤ w4.heap.size) := ⟨HI.out.1.below B4, HI.out.2.trans (only_below64 B4 HS2.out.2), by have := B4.size; have := HS2.out.1; omega⟩
      clear B4
      cases oo with
      | none =>
        simp only [nwV]
        go_wp2_with fail
        go_roundw
        case rel => exact ⟨k + 1, a, l, by simp, by simp, hlt, HIA.out, HNT.out, H4.out.1, H4.out.2.1⟩
        case measure => simp [intOf]; omega
      | some z =>
        simp only [nwV]
        have hz := HKR.out z rfl
        have ha := HIA.out
        have r1 : IntKind.i64.wrap (z - a) = z - a := by rw [IntKind.wrap_i64]; omega
        have r2 : wrap64 (z - a) = z - a := by unfold wrap64; omega
        have hza : -9223372036854775808 ≤ z - a ∧ z - a ≤ 9223372036854775807 := by omega
        have HZ := hide hz
        have HZA := hide hza
        clear ha hz hza
        go_wp2_with fail
        refine (wzig_any g 0 lo (z - a) w4 _ H4.out.1 hg H4.out.2.2 (by have := HLB.out; omega) HZA.out.1 HZA.out.2).mono ?_
        rintro e w5 ⟨rfl, W5, O5⟩
        have H5 : Hid (Wr w5 lo g 0 (L ++ l ++ varB (zig (z - a))) 0 ∧ Only g 0 123 W1 w5) := ⟨W5, H4.out.2.1.trans O5⟩
        clear W5 O5
        go_wp2_with fail
        go_roundw
        case rel =>
          refine ⟨k + 1, z, l ++ varB (zig (z - a)), by simp, by simp, hlt, HZ.out, ?_, ?_, H5.out.2⟩
          · rw [← HNT.out]; simp
          · have := H5.out.1
            simpa only [List.append_assoc] using this
        case measure => simp [intOf]; omega
    · have hk : k = n := by have := hI.out.1; omega
      subst hk
      have hl : l = F64.wb p f 0 k 0 := by have := hI.out.2.2.1; rw [Nat.sub_self, Dm.wb, List.append_nil] at this; exact this
      have HE := hide hl
      clear hl
      go_wp2_with fail
      go_end0
      refine ⟨rfl, ?_, HW1.out.2.2.2.trans hI.out.2.2.2.2⟩
      have := hI.out.2.2.2.1
      rw [HE.out] at this
      exact this

end Go.Proofs.YtleffbpjjbiobaaGreatDoor

namespace Go.Proofs.YtleffbpjjbiobaaGreatDoor
open Go.RowKit
open M
set_option linter.unusedVariables false
set_option linter.unusedSimpArgs false

theorem dm_len64 (f : Nat → Nat) (n : Nat) : (F64.dm 64 f n).length ≤ 85 + 224 * n := by
  unfold Dm.dm
  have h1 := varB_le (F64.cnt (F64.bs f n F64.mostP).1 f 0 n)
  have h2 := F64.nt_len 64 (F64.bs f n F64.mostP).1 (by omega) f 0 n 0 varB_le
  have h3 := F64.wb_len (F64.bs f n F64.mostP).1 f 0 n 0 varB_le
  simp only [List.length_append, bitsOf_length]
  omega

set_option maxRecDepth 100000 in
set_option maxHeartbeats 1000000 in
theorem packDecimal64_any (q : Option Addr) (n cap : Nat) (f : Nat → Nat) (w : World) (h : URow64 w q n f) (hn : n ≤ 4096) (hcap : n ≤ cap) (hf : ∀ i, i < n → f i < 18446744073709551616) :
    Calls Tryz.prog 56 #[.slice q n cap] w (RowEnd64 (F64.dm 64 f n) w) := by
  have H := hide h
  have HF := hide hf
  have HBS := hide (bestScale64_any q n cap f w h hn hcap hf)
  obtain ⟨p, hp⟩ : ∃ p, (F64.bs f n 22).1 = p := ⟨_, rfl⟩
  have hp22 : p ≤ 22 := by rw [← hp]; exact F64.bs_le f n 22
  rw [hp] at HBS
  have HDM : Hid (F64.dm 64 f n = bitsOf p 5 ++ (varB (F64.cnt p f 0 n) ++ (F64.nt 64 p f 0 n 0 ++ F64.wb p f 0 n 0))) := by
    show _ = _
    unfold Dm.dm
    rw [show F64.mostP = 22 from rfl, hp]
  have HLN := hide (fun lo g L w1 h1 h2 h3 h4 h5 h6 => layNothings64_any p q n cap f lo g L w1 h1 h2 hn hcap hf h3 h4 h5 h6)
  have HLW := hide (fun lo g L w1 h1 h2 h3 h4 h5 h6 => layWholes64_any p q n cap f lo g L w1 h1 h2 hn hcap hf h3 h4 h5 h6)
  clear hp h hf
  unfold scV64 at *
  obtain ⟨P, hP⟩ : ∃ P, F64.pow p = P := ⟨_, rfl⟩
  rw [hP] at HBS HLN HLW
  clear hP
  go_enter Tryz.func56, Tryz.ntmps56
  go_wp2_with fail
  refine HBS.out.mono ?_
  rintro e w1 ⟨rfl, B1⟩
  obtain ⟨g4, hg4⟩ : ∃ g4, w1.heap.size = g4 := ⟨_, rfl⟩
  obtain ⟨W2, hW2⟩ : ∃ W2, W2 = w1.alloc (.cells #[.int .i64 (p : Int), .int .u64 (P : Int)] 103) := ⟨_, rfl⟩
  have H2 : Hid (Below w.heap.size w W2 ∧ W2.heap[g4]? = some (.cells #[.int .i64 (p : Int), .int .u64 (P : Int)] 103 (0, 0)) ∧ W2.heap.size = g4 + 1) := by
    have hs := B1.size
    refine ⟨B1.trans (by rw [hW2]; exact (Below.refl _ w1).alloc (by omega) _), by rw [hW2, ← hg4]; exact heap_alloc_new w1 _, by rw [hW2, ← hg4]; simp⟩
  have HW4 : Hid (w.heap.size ≤ g4) := by have := B1.size; show w.heap.size ≤ g4; omega
  clear B1
  go_upto_region 2 with fail
  (try rw [hg4])
  (try rw [← hW2])
  clear hW2 hg4
  obtain ⟨g, hg⟩ : ∃ g, g = W2.heap.size := ⟨_, rfl⟩
  obtain ⟨W3, hW3⟩ : ∃ W3, W3 = W2.alloc (.cells zW 125) := ⟨_, rfl⟩
  have H3 : Hid (Wr W3 (g + 1) g 0 [] 0 ∧ g + 1 ≤ W3.heap.size ∧ Below w.heap.size w W3 ∧ W3.heap[g4]? = some (.cells #[.int .i64 (p : Int), .int .u64 (P : Int)] 103 (0, 0)) ∧ g4 < g ∧ w.heap.size ≤ g) := by
    have B3 : Below g W2 W3 := by rw [hW3, hg]; exact (Below.refl _ W2).alloc (Nat.le_refl _) _
    have := H2.out.2.2
    have := HW4.out
    refine ⟨by rw [hg, hW3]; exact wr_of (heap_alloc_new W2 _), by rw [hW3, hg]; simp, H2.out.1.trans (B3.mono (by omega)), by rw [B3.block g4 (by omega)]; exact H2.out.2.1, by omega, by omega⟩
  refine wp_region_list ?_
  refine wpList_build rfl 125 #[] rfl (by kernel_rfl) ?_
  simp only [Array.map_empty]
  rw [zW_built]
  refine Go.Great.wpList_boxTo rfl 125 (.tmp 8) rfl (some 9) rfl g hg.symm zW rfl ?_
  rw [← hW3]
  clear hW3 hg
  have c0 : W3.cell? ⟨g4, 0, none⟩ = some (.int .i64 (p : Int)) := cell_of_row _ _ 0 _ _ _ H3.out.2.2.2.1
  have r0 : IntKind.u64.wrap (p : Int) = (p : Int) := by rw [IntKind.wrap_u64]; omega
  have HQ : Hid (∀ b o, q = some ⟨b, o, none⟩ → 0 < n → b ≠ g) := fun b o hq h0 => by
    obtain ⟨b', o', hp', hc⟩ := H.out h0
    rw [hq] at hp'
    simp only [Option.some.injEq, Addr.mk.injEq] at hp'
    have h3 : b' < w.heap.size := block_lt_of_cell (hc 0 h0)
    have := H3.out.2.2.2.2.2
    omega
  have HRW : Hid (∀ wr, Only g 0 123 W3 wr → URow64 wr q n f ∧ wr.heap[g4]? = some (.cells #[.int .i64 (p : Int), .int .u64 (P : Int)] 103 (0, 0)) ∧ g + 1 ≤ wr.heap.size) := fun wr hO => by
    have h1 := H3.out
    refine ⟨fun h0 => ?_, by rw [hO.block g4 (by omega) (by omega)]; exact h1.2.2.2.1, by have := hO.size; omega⟩
    obtain ⟨b, o, hp', hc⟩ := H.out h0
    have hb : b < w.heap.size := block_lt_of_cell (hc 0 h0)
    exact ⟨b, o, hp', fun i hi => by rw [World.cell?_of_block (w := W3) (hO.block b (by omega) (by omega)), h1.2.2.1.cell (p := ⟨b, o + i, none⟩) hb]; exact hc i hi⟩
  go_wp2_with fail
  refine (wbits_any g 0 (g + 1) 5 p W3 [] H3.out.1 (by omega) H3.out.2.1 (by simp) (by omega) (by omega) (by omega)).mono ?_
  rintro e w4 ⟨rfl, W4, O4⟩
  have H4 : Hid (Wr w4 (g + 1) g 0 (bitsOf p 5) 0 ∧ Only g 0 123 W3 w4) := ⟨by simpa using W4, O4⟩
  clear W4 O4
  obtain ⟨h5a, h5b, h5c⟩ := HRW.out w4 H4.out.2
  have c1 : w4.cell? ⟨g4, 0, none⟩ = some (.int .i64 (p : Int)) := cell_of_row _ _ 0 _ _ _ h5b
  have c2 : w4.cell? ⟨g4, 1, none⟩ = some (.int .u64 (P : Int)) := cell_of_row _ _ 1 _ _ _ h5b
  have HN := hide (HLN.out (g + 1) g (bitsOf p 5) w4 h5a HQ H4.out.1 (by omega) h5c (by simp))
  clear h5a h5b h5c c0
  go_wp2_with fail
  refine HN.out.mono ?_
  rintro e w5 ⟨rfl, W5, O5⟩
  have H5 : Hid (Wr w5 (g + 1) g 0 (bitsOf p 5 ++ (varB (F64.cnt p f 0 n) ++ F64.nt 64 p f 0 n 0)) 0 ∧ Only g 0 123 W3 w5) := ⟨W5, H4.out.2.trans O5⟩
  clear W5 O5 c1 c2
  obtain ⟨h5a, h5b, h5c⟩ := HRW.out w5 H5.out.2
  have c1 : w5.cell? ⟨g4, 0, none⟩ = some (.int .i64 (p : Int)) := cell_of_row _ _ 0 _ _ _ h5b
  have c2 : w5.cell? ⟨g4, 1, none⟩ = some (.int .u64 (P : Int)) := cell_of_row _ _ 1 _ _ _ h5b
  have HN2 := hide (HLW.out (g + 1) g _ w5 h5a HQ H5.out.1 (by omega) h5c (by
    have h1 := varB_le (F64.cnt p f 0 n)
    have h2 := F64.nt_len 64 p (by omega) f 0 n 0 varB_le
    simp only [List.length_append, bitsOf_length]
    omega))
  clear h5a h5b h5c
  go_wp2_with fail
  refine HN2.out.mono ?_
  rintro e w6 ⟨rfl, W6, O6⟩
  have H6 : Hid (Wr w6 (g + 1) g 0 (F64.dm 64 f n) 0 ∧ Only g 0 123 W3 w6 ∧ g + 1 ≤ w6.heap.size) := by
    refine ⟨?_, H5.out.2.trans O6, (HRW.out w6 (H5.out.2.trans O6)).2.2⟩
    rw [HDM.out]
    simpa only [List.append_assoc] using W6
  clear W6 O6 c1 c2
  have HLB : Hid ((F64.dm 64 f n).length < 1000000000000) := by have := dm_len64 f n; show _ < _; omega
  obtain ⟨l, hl⟩ : ∃ l, F64.dm 64 f n = l := ⟨_, rfl⟩
  rw [hl] at H6 HLB
  have HLE := hide hl
  clear hl
  go_wp2_with fail
  refine (wdone_packed g 0 (g + 1) w6 _ H6.out.1 H6.out.2.2 HLB.out _ rfl).mono ?_
  rintro e w9 ⟨rfl, G9, B9⟩
  have HG9 := hide G9
  have HB9 := hide B9
  clear G9 B9
  go_wp2_with fail
  go_ret2
  have e3 := H3.out.2.2.1
  have e4 := H3.out.2.2.2.2.2
  have e5 := H6.out.2.1.below (B := w.heap.size) (by omega) (by have := e3.size; omega)
  rw [HLE.out]
  refine ⟨w6.heap.size, (l.length + 7) / 8, (packed_length _).symm, ?_, rfl, HG9.out, ?_⟩
  · have := e5.size; have := e3.size; omega
  · exact (e3.trans e5).trans (HB9.out.mono (by have := e5.size; have := e3.size; omega))

end Go.Proofs.YtleffbpjjbiobaaGreatDoor

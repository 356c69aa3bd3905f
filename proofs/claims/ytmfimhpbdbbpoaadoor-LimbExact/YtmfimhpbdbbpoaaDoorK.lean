/- divide by one limb; DivMod. -/
import Derived.Test.YtmfimhpbdbbpoaaDoorJ
namespace Go.Proofs.YtmfimhpbdbbpoaaDoor
open Go.RowKit
open M
set_option linter.unusedVariables false
set_option linter.unusedSimpArgs false

/-- What divide tells: quotient and remainder, rows that may lie where a lies. -/
def Parts (w : World) (q r : Value) (A C : Nat) : Prop :=
  (∃ n, Row w q n (A / C) ∧ Nrm n (A / C)) ∧ ∃ n, Row w r n (A % C) ∧ Nrm n (A % C)

set_option maxRecDepth 100000 in
set_option maxHeartbeats 400000 in
theorem divide_less {S S' : Nat → Prop} (v u : Value) (k A m C : Nat) (w : World) (h : RowX S w v k A) (h' : RowX S' w u m C) (hn : Nrm k A) (hn' : Nrm m C) (hlt : A < C) :
    Calls Tryd.prog 81 #[v, u] w fun e w' => ∃ q r, e = .returned (.tuple #[q, r]) ∧ Parts w' q r A C ∧ Below w.heap.size w w' := by
  have H := hide (And.intro h h')
  have HN := hide (And.intro hn hn')
  have hcmp : cmpI A C < 0 := cmpI_neg.2 hlt
  have HE : Hid (A / C = 0 ∧ A % C = A) := ⟨Nat.div_eq_of_lt hlt, Nat.mod_eq_of_lt hlt⟩
  clear h h' hn hn'
  go_enter Tryd.func81, Tryd.ntmps81
  go_wp2_with fail
  refine (compare_below v u k A m C _ H.out.1 H.out.2 HN.out.1 HN.out.2).mono ?_
  rintro e w2 ⟨rfl, hb2⟩
  have HB2 := hide hb2
  clear hb2
  generalize cmpI A C = cc at *
  go_wp2_with fail
  go_ret2
  refine ⟨_, v, rfl, ⟨⟨0, ?_, ?_⟩, k, ?_, ?_⟩, HB2.out⟩
  · rw [HE.out.1]; exact Row.nil _
  · rw [HE.out.1]; exact nrm_zero
  · rw [HE.out.2]; exact (H.out.1.below HB2.out).row
  · rw [HE.out.2]; exact HN.out.1

set_option maxRecDepth 100000 in
set_option maxHeartbeats 1000000 in
theorem divide_one {S S' : Nat → Prop} (v u : Value) (k A C : Nat) (w : World) (h : RowX S w v k A) (h' : RowX S' w u 1 C) (hn : Nrm k A) (hn' : Nrm 1 C) (hle : C ≤ A) :
    Calls Tryd.prog 81 #[v, u] w fun e w' => ∃ q r, e = .returned (.tuple #[q, r]) ∧ Parts w' q r A C ∧ Below w.heap.size w w' := by
  have hC1 : C < 4294967296 := by simpa using h'.1
  have hC0 : 0 < C := by
    rcases hn'.2 with h0 | h0
    · omega
    · simp at h0; omega
  have H := hide (And.intro h.row h'.row)
  have HN := hide (And.intro hn hn')
  have hcmp : ¬ cmpI A C < 0 := by rw [cmpI_neg]; omega
  have HU := hide (Row.old h'.row)
  obtain ⟨_, hk', adu, capu, rfl, hcu, hcellu⟩ := Row.old h'.row
  obtain ⟨gu, ou, rfl, hgu, hju⟩ := hcellu (by omega)
  have hd0 : dg C 0 = C := by unfold dg; simp; omega
  have hcu0 := hju 0 (by omega)
  rw [hd0] at hcu0
  have Hcu0 := hide hcu0
  clear h h' hn hn' hcellu hju hd0 hcu0
  obtain ⟨n1, hn1⟩ := nrm_exists (A / C)
  obtain ⟨n2, hn2⟩ := nrm_exists (A % C)
  have HQR := hide (And.intro hn1 hn2)
  clear hn1 hn2
  go_enter Tryd.func81, Tryd.ntmps81
  go_wp2_with fail
  refine (compare_below v _ k A 1 C _ H.out.1 H.out.2 HN.out.1 HN.out.2).mono ?_
  rintro e w2 ⟨rfl, hb2⟩
  have HB2 := hide hb2
  clear hb2
  generalize cmpI A C = cc at *
  go_wp2_with fail
  refine (fresh_any v k A _ (H.out.1.below HB2.out)).mono ?_
  rintro e w3 ⟨r, rfl, hown, hb3⟩
  have HB3 := hide (HB2.out.trans (hb3.mono HB2.out.size))
  have hc3 : w3.cell? ⟨gu, ou, none⟩ = some (.int .u32 (C : Nat)) := by rw [HB3.out.cell (p := ⟨gu, ou, none⟩) hgu]; exact Hcu0.out
  obtain ⟨ad, g, cap, rfl, hc, hg, had, hwk⟩ := hown.wk
  have HO := hide (And.intro hwk had)
  have hg' : w.heap.size ≤ g := Nat.le_trans HB2.out.size hg
  have hkb : k ≤ 70368744177664 := hown.2.1
  clear hown hb3 hwk had
  go_wp2_with fail
  refine (shrink_any ad g 0 k cap A C w3 HO.out.1 hkb hc (fun h => (HO.out.2 h).1) hC0 hC1).mono ?_
  rintro e w4 ⟨rfl, hW4, hO4⟩
  have H4 : Hid (RowX (w.heap.size ≤ ·) w4 (.slice ad k cap) k (A / C) ∧ Below w.heap.size w w4) :=
    ⟨hW4.row hkb hc hg' _ (fun h => (HO.out.2 h).1), HB3.out.trans (hO4.below hg' HB3.out.size)⟩
  clear hW4 hO4
  have hrl : A % C < C := Nat.mod_lt _ hC0
  have HRR : Hid (RowX (w.heap.size ≤ ·) (w4.alloc (.cells #[.int .u32 (A % C : Nat)] 98)) (.slice (some ⟨w4.heap.size, 0, none⟩) 1 1) 1 (A % C)) := by
    refine ⟨by simp; omega, by omega, _, 1, rfl, Nat.le_refl _, fun _ => ⟨w4.heap.size, 0, rfl, H4.out.2.size, fun j hj => ?_⟩⟩
    obtain rfl : j = 0 := by omega
    rw [Nat.zero_add, cell_of_row _ _ _ _ _ _ (heap_alloc_new _ _)]
    have : dg (A % C) 0 = A % C := by unfold dg; simp; omega
    rw [this]; rfl
  have H5 : Hid (RowX (w.heap.size ≤ ·) (w4.alloc (.cells #[.int .u32 (A % C : Nat)] 98)) (.slice ad k cap) k (A / C) ∧ Below w.heap.size w (w4.alloc (.cells #[.int .u32 (A % C : Nat)] 98))) :=
    ⟨H4.out.1.below ((Below.refl _ _).alloc (Nat.le_refl _) _), H4.out.2.alloc H4.out.2.size _⟩
  have hcast : ((A : Int) % (C : Int)) = ((A % C : Nat) : Int) := by simp
  have HF : Hid (Parts (w4.alloc (.cells #[.int .u32 (A % C : Nat)] 98)) (.slice ad n1 n1) (.slice (some ⟨w4.heap.size, 0, none⟩) n2 n2) A C) :=
    ⟨⟨n1, (trim_row H5.out.1 HQR.out.1).1.row, HQR.out.1⟩, n2, (trim_row HRR.out HQR.out.2).1.row, HQR.out.2⟩
  have HT1 : Hid (∀ n, Calls Tryd.prog 55 #[.slice ad k cap] ((w4.alloc (.cells #[.int .u32 (A % C : Nat)] 98)).drewN n) fun e w' => e = .returned (.slice ad n1 n1) ∧ w' = (w4.alloc (.cells #[.int .u32 (A % C : Nat)] 98)).drewN n) :=
    fun n => trim_val ad cap k (A / C) n1 _ (H5.out.1.drewN n) HQR.out.1
  have HT2 : Hid (∀ n, Calls Tryd.prog 55 #[.slice (some ⟨w4.heap.size, 0, none⟩) 1 1] ((w4.alloc (.cells #[.int .u32 (A % C : Nat)] 98)).drewN n) fun e w' => e = .returned (.slice (some ⟨w4.heap.size, 0, none⟩) n2 n2) ∧ w' = (w4.alloc (.cells #[.int .u32 (A % C : Nat)] 98)).drewN n) :=
    fun n => trim_val _ 1 1 (A % C) n2 _ (HRR.out.drewN n) HQR.out.2
  clear HRR
  generalize A % C = rm at *
  go_wp2_with fail
  generalize hww : w4.alloc (.cells #[.int .u32 (rm : Nat)] 98) = w5 at *
  have Hww := hide hww
  clear hww
  go_quiet (first | (go_at_call_of 55 (Value.slice ad k cap); exact Calls.quiet_of_same (HT1.out _)) | (go_at_call_of 55 (Value.slice (some (Addr.mk w4.heap.size 0 none)) 1 1); exact Calls.quiet_of_same (HT2.out _)))
  go_wp2_with fail
  go_ret2
  exact ⟨_, _, rfl, HF.out, below_drewN H5.out.2 nq⟩

end Go.Proofs.YtmfimhpbdbbpoaaDoor

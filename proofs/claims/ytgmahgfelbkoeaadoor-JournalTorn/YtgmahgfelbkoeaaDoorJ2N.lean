/- Is a record there again, and is it sure: the law's works. -/
import Derived.Test.YtgmahgfelbkoeaaDoorJ2M
import Derived.Great.BuildSlice
import Derived.Lib.SmallJoins
namespace Go.Proofs.YtgmahgfelbkoeaaDoor
open Go.RowKit
set_option linter.unusedVariables false
set_option linter.unusedSimpArgs false

theorem con1 : Con.lay [] nmJ headB = [(nmJ, headB, 8)] := by decide +kernel
theorem con2 : Con.lay [(nmJ, headB, 8)] nmJ (recP qw 2) = [(nmJ, headB ++ recP qw 2, 25)] := by decide +kernel
theorem len2 : (recP qw 2).length = 17 ∧ (bodyP qw 2).length = 9 ∧ (headB ++ recP qw 2).length = 25 := by decide +kernel

theorem parts97 {w2 : World} : PartsOf ((w2.alloc (.cells #[.int .u8 97] 5 (1, 2))).alloc (.cells #[.slice (some ⟨w2.heap.size, 0, none⟩) 1 1, .slice none 0 0] 38)) (some ⟨w2.heap.size + 1, 0, none⟩) 2 qw := by
  have h1 : ((w2.alloc (.cells #[.int .u8 97] 5 (1, 2))).alloc (.cells #[.slice (some ⟨w2.heap.size, 0, none⟩) 1 1, .slice none 0 0] 38)).heap[w2.heap.size]? = some (.cells #[.int .u8 97] 5 (1, 2)) := new_kept (heap_alloc_new w2 _) _
  have h2 : ((w2.alloc (.cells #[.int .u8 97] 5 (1, 2))).alloc (.cells #[.slice (some ⟨w2.heap.size, 0, none⟩) 1 1, .slice none 0 0] 38)).heap[w2.heap.size + 1]? = some (.cells #[.slice (some ⟨w2.heap.size, 0, none⟩) 1 1, .slice none 0 0] 38 (0, 0)) := by have := heap_alloc_new (w2.alloc (.cells #[.int .u8 97] 5 (1, 2))) (.cells #[.slice (some ⟨w2.heap.size, 0, none⟩) 1 1, .slice none 0 0] 38); simpa using this
  intro i hi
  match i, hi with
  | 0, _ => exact ⟨_, 0, _, rfl, by rw [cell_of_row _ _ _ _ _ _ h2]; rfl, isBy_cells (bs := [97]) h1⟩
  | 1, _ => exact ⟨_, 0, .slice none 0 0, rfl, by rw [cell_of_row _ _ _ _ _ _ h2]; rfl, .inl (.inl ⟨rfl, rfl⟩)⟩

/-- A slice literal of integers where its guard says that it is wanted. -/
theorem wpList_flatOn {P : Program} {ops : Array Oper} {rest : List Oper} {o : Oper} {a : Act} {w : World} {Q : Exit → Act → World → Prop} (t e : TypeId) (len : Nat) (parts : Array (Nat × Operand)) (ho : o.op = .buildSlice t len parts)
    (hw : Region.wanted o (yielded ops a.tmps) = true) (k : IntKind) (zs : List Int) (N : Nat) (hN : w.heap.size = N)
    (hu : P.underlying t = some (.slice e)) (hsz : (P.info? e).map (·.size) = some 1) (hz : ((P.info? e).bind (·.zero)).isSome = true)
    (hlen : len = zs.length) (hpos : 0 < len) (hsmall : len ≤ 2 ^ 24)
    (hparts : parts.toList = (zs.zipIdx 0).map fun x => (x.2, Operand.const (Value.int k x.1)))
    (h : wpList P ops Q rest (a.put o.dst (.slice (some ⟨N, 0, none⟩) len len)) (w.alloc (.cells (zs.map (Value.int k)).toArray e))) : wpList P ops Q (o :: rest) a w := by
  subst hN
  cases hie : P.info? e with
  | none => simp [hie] at hsz
  | some ie =>
    simp only [hie, Option.map_some, Option.some.injEq, Option.bind_some] at hsz hz
    obtain ⟨z, hzz⟩ := Option.isSome_iff_exists.1 hz
    refine wpList_step fun K hK => ?_
    rw [if_pos hw]
    refine wp_buildSlice t e len parts ho _ ie z hu hie hzz (by rw [hsz]; omega) (by rw [hsz]; omega) ?_ (hK _ _ h)
    rw [parts_eval a parts k zs hparts, hsz]
    exact Great.fill_flat _ _ (fun v hv => by obtain ⟨n, _, rfl⟩ := List.mem_map.1 hv; rfl) (by simp [hlen])

theorem crc_digits : crcO [49, 50, 51, 52, 53, 54, 55, 56, 57] = 3421780262 := by decide +kernel
theorem own_at {w : World} {lo : Nat} {t : TypeId} {v : Value} {n : Nat} {vals : List Value} (h : w.ownsRow lo t 1 v n vals) (hn : 0 < n) : ∃ g cap, v = .slice (some ⟨g, 0, none⟩) n cap ∧ ∀ i u, i < n → vals[i]? = some u → w.cell? ⟨g, i, none⟩ = some u := by
  rcases h.2 with ⟨h1, h2⟩ | ⟨g, cap, cur, h1, hb, hg, hc, hm, hs, ht⟩
  · omega
  · refine ⟨g, cap, h1, fun i u hi hu => ?_⟩
    rw [cell_of_row w g i cur _ (0, 0) hg, ← hu, ← ht, List.getElem?_take, if_pos (by omega)]
    simp

theorem recs97 {w : World} {lo hi : Nat} {v : Value} (h : RecsAt w lo hi v [[[97], []]]) : ∃ g cg r cr p c, v = .slice (some ⟨g, 0, none⟩) 1 cg ∧ w.cell? ⟨g, 0, none⟩ = some (.slice (some ⟨r, 0, none⟩) 2 cr) ∧ w.cell? ⟨r, 0, none⟩ = some (.slice p 1 c) ∧ IsBy w (.slice p 1 c) [97] := by
  obtain ⟨vals, h1, _, h3, h4⟩ := h
  obtain ⟨g, cg, rfl, h5⟩ := own_at h1 (by decide)
  match vals, h3 with
  | [v0], _ =>
    have h6 := h5 0 v0 (by decide) rfl
    obtain ⟨us, k1, _, k3, k4⟩ := h4 0 v0 rfl
    obtain ⟨r, cr, rfl, k5⟩ := own_at k1 (by decide)
    match us, k3 with
    | [u0, u1], _ =>
      have k6 := k5 0 u0 (by decide) rfl
      have k7 := (k4 0 u0 rfl).1
      obtain ⟨p, c, rfl, _⟩ := by_slice k7
      exact ⟨g, cg, r, cr, p, c, rfl, h6, k6, k7⟩

theorem str97 : strOf [97] = { data := #[97] } := by decide +kernel

theorem bel_fr {B : Nat} {w a b : World} {F F' : Nat → Prop} (h0 : Below B w a) (hB : B ≤ w.heap.size) (hf : Fr a F b F') (hF : ∀ k, F k → B ≤ k) : Below B w b := h0.trans (hf.below hF (Nat.le_trans hB h0.size))
theorem bel_fx {B : Nat} {l : Nat} {w a b : World} {F F' : Nat → Prop} (h0 : Below B w a) (hB : B ≤ w.heap.size) (hf : Fx l a F b F') (hF : ∀ k, F k → B ≤ k) (hl : B ≤ l) : Below B w b :=
  h0.trans ⟨hf.os, hf.tape, hf.output, hf.size, fun k hk => (hf.block k (by have := h0.size; omega) (fun e => by have := hF k e; omega)).2 (by omega)⟩

set_option maxRecDepth 100000 in
set_option maxHeartbeats 8000000 in
theorem works_any (w : World) (hT : TabC w) : Calls Tryd.prog 6 #[] w fun e w' => e = .returned (.bool true) ∧ Below w.heap.size w w' := by
  have HNW := hide (di_new w w.heap.size (Nat.le_refl _) 1000 (by decide) (by decide))
  have HT := hide hT
  have HGL : Hid (0 < w.heap.size) := World.block_lt_of_cell? _ _ (hT 0 (by decide))
  obtain ⟨q0, hq0⟩ : ∃ q0 : PS, q0 = { con := [], room := 1000, off := false, ain := 0, keep := 0, lose := 0, wr := 0 } := ⟨_, rfl⟩
  obtain ⟨q1, hq1⟩ : ∃ q1 : PS, q1 = { con := [(nmJ, headB, 8)], room := 1000, off := false, ain := 0, keep := 0, lose := 0, wr := 2 } := ⟨_, rfl⟩
  obtain ⟨q2, hq2⟩ : ∃ q2 : PS, q2 = { con := [(nmJ, headB ++ recP qw 2, 25)], room := 1000, off := false, ain := 0, keep := 0, lose := 0, wr := 4 } := ⟨_, rfl⟩
  rw [← hq0] at HNW
  have HOP1 : Hid (∀ w1 d F, Di w.heap.size w1 d q0 F → Calls Tryd.prog 7 #[.pointer (some ⟨d, 0, none⟩), .string nmJ] w1 fun e w' => ∃ l F', e = .returned (.tuple #[.pointer (some ⟨l, 0, none⟩), .slice none 0 0, .int .i64 0]) ∧ Di w.heap.size w' d q1 F' ∧ Lg w' l d nmJ 8 0 ∧ ¬ F' l ∧ w1.heap.size ≤ l ∧ Fr w1 F w' F') := fun w1 d F h1 => by
    have := open_new w1 h1 nmJ (by rw [hq0]) (by rw [hq0]) (by rw [hq0]; exact Nat.zero_le _) okJ ⟨by rw [hq0]; simp, by rw [hq0]; decide⟩ (by rw [hq0]; decide)
    rw [show ({ q0 with con := Con.lay q0.con nmJ headB, wr := q0.wr + 2 } : PS) = q1 from by rw [hq0, hq1]; simp only [con1]] at this
    exact this
  have HAP : Hid (∀ w2 l d F, Di w.heap.size w2 d q1 F → Lg w2 l d nmJ 8 0 → ¬ F l → TabC w2 → Calls Tryd.prog 11 #[.pointer (some ⟨l, 0, none⟩), .slice (some ⟨w2.heap.size + 1, 0, none⟩) 2 2] ((w2.alloc (.cells #[.int .u8 97] 5 (1, 2))).alloc (.cells #[.slice (some ⟨w2.heap.size, 0, none⟩) 1 1, .slice none 0 0] 38)) fun e w' => e = .returned (.int .i64 0) ∧ ∃ F', Di w.heap.size w' d q2 F' ∧ Fx l w2 F w' F') := fun w2 l d F h1 h2 h3 h4 => by
    have hb : Below w2.heap.size w2 ((w2.alloc (.cells #[.int .u8 97] 5 (1, 2))).alloc (.cells #[.slice (some ⟨w2.heap.size, 0, none⟩) 1 1, .slice none 0 0] 38)) := ((Below.refl _ _).alloc (Nat.le_refl _) _).alloc (by simp) _
    have hl := len2
    refine (lappend_ok _ (h1.below hb) (h2.below hb) h3 (by rw [hq1]) (by rw [hq1]) (by rw [hq1]; decide) okJ ⟨_, by rw [hq1]; exact List.mem_singleton.2 rfl, rfl⟩ (some ⟨w2.heap.size + 1, 0, none⟩) 2 2 qw parts97 (fun i _ n hn => by unfold qw at hn; split at hn <;> simp at hn; omega) (by decide) (by rw [hl.2.1]; decide) (by rw [hl.1, hq1]; decide) (by decide) (by decide) (h4.below hb)).mono ?_
    rintro e w' ⟨rfl, F', e1, e2, e3, e4⟩
    refine ⟨rfl, F', ?_, (Fr.of_below hb).fx.trans e4⟩
    rw [show ({ q1 with con := Con.lay q1.con nmJ (recP qw 2), wr := q1.wr + 2 } : PS) = q2 from by rw [hq1, hq2]; simp only [con2]] at e1
    exact e1
  have HSU : Hid (∀ w4 d F, Di w.heap.size w4 d q2 F → Calls Tryd.prog 17 #[.pointer (some ⟨d, 0, none⟩), .string nmJ] w4 fun e w' => e = .returned (.tuple #[.int .i64 25, .int .i64 0]) ∧ Di w.heap.size w' d q2 F ∧ Fr w4 F w' F) := fun w4 d F h1 => di_sure w4 h1 (by rw [hq2]) nmJ okJ (headB ++ recP qw 2) 25 (by rw [hq2]; exact List.mem_singleton.2 rfl)
  have HOP2 : Hid (∀ w5 d F, Di w.heap.size w5 d q2 F → TabC w5 → Calls Tryd.prog 7 #[.pointer (some ⟨d, 0, none⟩), .string nmJ] w5 fun e w' => ∃ l v, e = .returned (.tuple #[.pointer (some ⟨l, 0, none⟩), v, .int .i64 0]) ∧ Fr w5 F w' F ∧ RecsAt w' w5.heap.size w'.heap.size v [[[97], []]]) := fun w5 d F h1 h2 => by
    have hl := len2
    refine (open_full w5 h1 nmJ (by rw [hq2]) okJ (headB ++ recP qw 2) 25 (by rw [hq2]; exact List.mem_singleton.2 rfl) (by rw [hl.2.2]; decide) (by rw [hl.2.2]; decide) (by decide +kernel) [[[97], []]] tk_works h2 (fun e => by have := h1.ge _ e; have := HGL.out; omega)).mono ?_
    rintro e w' ⟨l, v, rfl, e1, e2, e3, e4, e5⟩
    exact ⟨l, v, rfl, e4, e5⟩
  have e1 : (Array.size (α := Value) #[.int .u8 97]) = 1 := rfl
  have e9 : (Array.size (α := Value) #[.int .u8 49, .int .u8 50, .int .u8 51, .int .u8 52, .int .u8 53, .int .u8 54, .int .u8 55, .int .u8 56, .int .u8 57]) = 9 := rfl
  clear hT hq0 hq1 hq2
  go_enter Tryd.func6, Tryd.ntmps6
  go_wp2_with (first
    | (go_at_call 5; refine (num_any _ _).mono ?_; rintro e wn ⟨rfl, hwn⟩; have hwn2 := hwn.symm; subst hwn2)
    | (go_at_call 4; refine HNW.out.mono ?_; rintro e w1 ⟨d, F1, rfl, hD1, hB1, hG1⟩; have H1 : Hid (Di w.heap.size w1 d q0 F1 ∧ Below w.heap.size w w1) := ⟨hD1, hB1⟩; clear hD1 hB1 hG1 HNW)
    | (go_at_call 7; refine (HOP1.out _ _ _ H1.out.1).mono ?_; rintro e w2 ⟨l, F2, rfl, hD2, hL2, hn2, hge2, hF2⟩; have H2 : Hid (Di w.heap.size w2 d q1 F2 ∧ Lg w2 l d nmJ 8 0 ∧ ¬ F2 l ∧ w.heap.size ≤ l ∧ Below w.heap.size w w2) := ⟨hD2, hL2, hn2, Nat.le_trans H1.out.2.size hge2, bel_fr H1.out.2 (Nat.le_refl _) hF2 H1.out.1.ge⟩; have hcv := Go.Joins.run_convert_bytes_const_at (P := Tryd.prog) w2 38 5 #[.int .u8 97] 1 1 w2.heap.size rfl Tryd.underlying38 (by kernel_rfl); rw [e1] at hcv; clear hD2 hL2 hn2 hge2 hF2 H1 HOP1)
    | (go_at_call 11; refine (HAP.out w2 l d F2 H2.out.1 H2.out.2.1 H2.out.2.2.1 (HT.out.below H2.out.2.2.2.2)).mono ?_; rintro e w4 ⟨rfl, F4, hD4, hF4⟩; have H4 : Hid (Di w.heap.size w4 d q2 F4 ∧ Below w.heap.size w w4) := ⟨hD4, bel_fx H2.out.2.2.2.2 (Nat.le_refl _) hF4 H2.out.1.ge H2.out.2.2.2.1⟩; clear hD4 hF4 H2 hcv HAP)
    | (go_at_call 17; refine (HSU.out _ _ _ H4.out.1).mono ?_; rintro e w5 ⟨rfl, hD5, hF5⟩; have H5 : Hid (Di w.heap.size w5 d q2 F4 ∧ Below w.heap.size w w5) := ⟨hD5, bel_fr H4.out.2 (Nat.le_refl _) hF5 H4.out.1.ge⟩; clear hD5 hF5 H4 HSU)
    | (go_at_call 7; refine (HOP2.out _ _ _ H5.out.1 (HT.out.below H5.out.2)).mono ?_; rintro e w6 ⟨l2, v, rfl, hF6, hR6⟩; have H6 : Hid (Below w.heap.size w w6) := bel_fr H5.out.2 (Nat.le_refl _) hF6 H5.out.1.ge; obtain ⟨g, cg, r, cr, p, c, rfl, c1, c2, hby⟩ := recs97 hR6; have hcs := convert_by w6 _ [97] hby; rw [str97] at hcs; have hcv := Go.Joins.run_convert_bytes_const_at (P := Tryd.prog) w6 38 5 #[.int .u8 49, .int .u8 50, .int .u8 51, .int .u8 52, .int .u8 53, .int .u8 54, .int .u8 55, .int .u8 56, .int .u8 57] 9 9 w6.heap.size rfl Tryd.underlying38 (by kernel_rfl); rw [e9] at hcv; clear hF6 hR6 H5 HOP2 hby)
    | (refine wpList_flatOn 38 5 9 _ rfl (by rfl) .u8 [49, 50, 51, 52, 53, 54, 55, 56, 57] w6.heap.size rfl Tryd.underlying38 (by kernel_rfl) (by kernel_rfl) rfl (by decide) (by decide) rfl ?_)
    | (simp only [hcv])
    | (simp only [hcs])
    | (go_at_call 18; refine (jsum_any _ [49, 50, 51, 52, 53, 54, 55, 56, 57] _ (isBy_cells (heap_alloc_new w6 _)) (by decide) (by decide) (HT.out.below (H6.out.alloc H6.out.size _))).mono ?_; rintro e w7 ⟨rfl, hw7⟩; rw [crc_digits]; have HF : Hid (Below w.heap.size w w7) := (by rw [hw7]; exact H6.out.alloc H6.out.size _); clear hw7))
  go_ret
  exact ⟨rfl, HF.out⟩

end Go.Proofs.YtgmahgfelbkoeaaDoor

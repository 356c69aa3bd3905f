/- count, over, share, Sum. -/
import Derived.Test.YtolaaemkcmiabaaDoorT
import Derived.Test.YtolaaemkcmiabaaDoorZ
import Derived.Test.YtolaaemkcmiabaaDoorXE
import Derived.Test.YtolaaemkcmiabaaDoorFA
/- Small. -/
namespace Go.Proofs.YtolaaemkcmiabaaDoor
open Go.RowKit
open M
set_option linter.unusedVariables false
set_option linter.unusedSimpArgs false

theorem copy_new_t {S : Nat → Prop} (w : World) (v : Value) (k N m g : Nat) (dT sT ty bt : TypeId) (hu : Tryd.prog.underlying dT = some (.slice 97)) (h : RowX S w v k N) (hkm : k ≤ m) (hg : w.heap[g]? = some (.cells (limbsV m 0).toArray bt (0, 0))) :
    ∃ w', (Builtin.copy_ #[dT, sT] ty #[.slice (some ⟨g, 0, none⟩) m m, v]).run Tryd.prog w = .ok (goInt k) w' ∧ w'.heap[g]? = some (.cells (limbsV m N).toArray bt (0, 0)) ∧ Below g w w' := by
  obtain ⟨hN, hk, ad, cap, rfl, hc, hcell⟩ := h
  have hmin : (limbsV k N).length = Nat.min k m := by rw [limbsV_length]; exact (Nat.min_eq_left hkm).symm
  have hsp : (limbsV m 0).take 0 ++ limbsV k N ++ (limbsV m 0).drop (0 + (limbsV k N).length) = limbsV m N := by
    apply List.ext_getElem?
    intro j
    simp only [List.take_zero, List.nil_append, limbsV_length, Nat.zero_add]
    rcases Nat.lt_or_ge j k with h | h
    · rw [List.getElem?_append_left (by simpa using h), limbsV_get k N j h, limbsV_get m N j (by omega)]
    · rw [List.getElem?_append_right (by simpa using h), limbsV_length, List.getElem?_drop, show k + (j - k) = j from by omega]
      rcases Nat.lt_or_ge j m with h1 | h1
      · rw [limbsV_get m 0 j h1, limbsV_get m N j h1, dg_high hN h, dg_zero]
      · rw [List.getElem?_eq_none (by simpa using h1), List.getElem?_eq_none (by simpa using h1)]
  by_cases h0 : k = 0
  · subst h0
    have hz : N = 0 := by simpa using hN
    subst hz
    exact ⟨w, run_copy_none w dT sT ty _ _ _ _ _ _ _ hu size32 (by simp), hg, Below.refl _ _⟩
  · obtain ⟨g', o, rfl, _, hj⟩ := hcell (by omega)
    have hr := run_copy_row (P := Tryd.prog) w dT sT ty 97 g 0 m m ⟨g', o, none⟩ k cap (limbsV m 0).toArray bt (limbsV k N) hu size32 hg hmin ?_ (by simpa using hkm) (limbsV_cell k N)
    · rw [limbsV_length] at hr
      refine ⟨_, hr, ?_, below_setRow (Below.refl _ _) (Nat.le_refl _) _⟩
      rw [setRow_heap w g _ _ _ _ hg]
      rw [limbsV_length] at hsp
      simp only [Option.some.injEq, Obj.cells.injEq, and_true]
      exact congrArg List.toArray hsp
    · intro j u hju
      have hjk : j < k := by
        rcases Nat.lt_or_ge j k with h | h
        · exact h
        · rw [List.getElem?_eq_none (by simpa using h)] at hju; cases hju
      rw [limbsV_get k N j hjk] at hju
      rw [← hju, show (⟨g', o, none⟩ : Addr).add j = ⟨g', o + j, none⟩ from by unfold Addr.add; split <;> simp_all]
      exact hj j hjk

theorem limbs_two (N : Nat) : (limbsV 2 N).toArray = #[.int .u32 (dg N 0 : Nat), .int .u32 (dg N 1 : Nat)] := rfl

set_option maxRecDepth 100000 in
set_option maxHeartbeats 1000000 in
theorem Small_row {S : Nat → Prop} (v : Value) (k N : Nat) (w : World) (h : RowX S w v k N) (hn : Nrm k N) (hk : k ≤ 2) :
    Calls Tryd.prog 41 #[v] w fun e w' => e = .returned (.tuple #[.int .u64 N, .bool true]) ∧ Below w.heap.size w w' := by
  have HC := hide (check_ok v k N w h hn (by omega))
  have hb1 : Below w.heap.size w (w.alloc (.cells (limbsV 2 0).toArray 98)) := (Below.refl _ _).alloc (Nat.le_refl _) _
  obtain ⟨w', hrun, hg', hb'⟩ := copy_new_t (w.alloc (.cells (limbsV 2 0).toArray 98)) v k N 2 w.heap.size 45 46 3 98 Tryd.underlying45 (h.below hb1) hk (heap_alloc_new w _)
  have e0 : (limbsV 2 0).toArray = #[.int .u32 0, .int .u32 0] := by rw [limbs_two, dg_zero, dg_zero]; rfl
  rw [limbs_two] at hg'
  rw [e0] at hrun
  have HB : Hid (Below w.heap.size w w') := hb1.trans hb'
  have hc0 : w'.cell? ⟨w.heap.size, 0, none⟩ = some (.int .u32 (dg N 0 : Nat)) := by rw [cell_of_row _ _ 0 _ _ (0, 0) hg']; rfl
  have hc1 : w'.cell? ⟨w.heap.size, 1, none⟩ = some (.int .u32 (dg N 1 : Nat)) := by rw [cell_of_row _ _ 1 _ _ (0, 0) hg']; rfl
  have HE : Hid (dg N 1 * 4294967296 + dg N 0 = N) := by
    have hlt : N < 4294967296 ^ 2 := Nat.lt_of_lt_of_le hn.1 (Nat.pow_le_pow_right (by omega) hk)
    show _ = _
    unfold dg
    simp
    omega
  have hd0 := dg_lt N 0
  have hd1 := dg_lt N 1
  obtain ⟨_, _, ad, cap, rfl, hc, _⟩ := h
  clear hg' hb' hb1 hn e0
  generalize dg N 0 = x at *
  generalize dg N 1 = y at *
  have ho1 := or_hi y x hd1 hd0
  have ho2 := or_hi_w y x hd1 hd0
  have hk2 : ¬ (2 : Int) < (k : Int) := by omega
  go_enter Tryd.func41, Tryd.ntmps41
  go_wp2_with fail
  refine HC.out.mono ?_
  rintro e w1 ⟨rfl, hw1⟩
  subst hw1
  go_wp2_with fail
  go_ret2
  exact ⟨by rw [← HE.out]; rfl, HB.out⟩

end Go.Proofs.YtolaaemkcmiabaaDoor

/- Package exact: nearest, quotient, checkRatio. -/
namespace Go.Proofs.YtolaaemkcmiabaaDoor
open Go.RowKit
open M
set_option linter.unusedVariables false
set_option linter.unusedSimpArgs false

theorem num_row {ad : Option Addr} {k cap N : Nat} {w : World} (h : Num w (.slice ad k cap) N) : Row w (.slice ad k cap) k N := by
  obtain ⟨m, h1, h2, h3⟩ := h
  have : m = k := by
    obtain ⟨_, _, ad', cap', hv, _⟩ := h1
    simp only [Value.slice.injEq] at hv
    exact hv.2.1.symm
  rw [this] at h1
  exact h1

/-- A pattern with its sign. -/
def wdX (neg : Bool) (sgn p : Nat) : Nat := if neg then sgn + p else p

/-- Leading bits as they may be. -/
def LeadOk (n : Nat) (e : Int) : Prop := (n = 0 ∨ (4611686018427387904 ≤ n ∧ n < 18446744073709551616)) ∧ -4000000 ≤ e ∧ e ≤ 4000000

theorem or_sign (n p : Nat) (k : Nat) (hk : k ≤ 63) (hp : p < 2 ^ k) : bits BinOp.or IntKind.u64 (p : Int) ((2 ^ k : Nat) : Int) = ((2 ^ k + p : Nat) : Int) := by
  have h63 : 2 ^ k ≤ 2 ^ 63 := Nat.pow_le_pow_right (by omega) hk
  have h64 : (2 : Nat) ^ 63 = 9223372036854775808 := by decide
  rw [u64_or_nat p _ (by omega) (by omega), Nat.or_comm]
  have := Nat.two_pow_add_eq_or_of_lt (i := k) (b := p) hp 1
  rw [Nat.mul_one] at this
  rw [← this]

theorem uns64_le (n : Nat) (more : Bool) (e0 : Int) : unsF 53 1074 9218868437227405312 n more e0 ≤ 9218868437227405312 := by
  unfold unsF
  split
  · exact Nat.zero_le _
  · exact Nat.min_le_right ..
theorem uns64_any (n : Nat) (more : Bool) (e0 : Int) (w : World) (h : LeadOk n e0) : Calls Tryd.prog 36 #[.agg #[.int .i64 53, .int .i64 (-1074), .int .u64 9218868437227405312, .int .u64 9223372036854775808], .agg #[.int .u64 n, .bool more, .int .i64 e0]] w fun e w' => e = .returned (.int .u64 (unsF 53 1074 9218868437227405312 n more e0 : Nat)) ∧ Below w.heap.size w w' := by
  obtain ⟨h1 | h1, h2, h3⟩ := h
  · subst h1
    unfold unsF
    rw [if_pos rfl]
    exact uns64_zero more e0 w
  · exact uns64_num n more e0 w h1.1 h1.2 h2 h3

set_option maxRecDepth 100000 in
set_option maxHeartbeats 2000000 in
theorem nearest64_any (neg : Bool) (n : Nat) (more : Bool) (e0 : Int) (w : World) (h : LeadOk n e0) : Calls Tryd.prog 22 #[.agg #[.int .i64 53, .int .i64 (-1074), .int .u64 9218868437227405312, .int .u64 9223372036854775808], .bool neg, .agg #[.int .u64 n, .bool more, .int .i64 e0]] w fun e w' => e = .returned (.int .u64 (wdX neg 9223372036854775808 (unsF 53 1074 9218868437227405312 n more e0) : Nat)) ∧ Below w.heap.size w w' := by
  have HU := hide (fun w : World => uns64_any n more e0 w h)
  have hle := uns64_le n more e0
  generalize unsF 53 1074 9218868437227405312 n more e0 = p at *
  have hor : bits BinOp.or IntKind.u64 (p : Int) 9223372036854775808 = ((9223372036854775808 + p : Nat) : Int) := or_sign 0 p 63 (by omega) (by omega)
  unfold wdX
  clear hle h
  cases neg
  · go_enter Tryd.func22, Tryd.ntmps22
    go_wp2_with fail
    refine (HU.out _).mono ?_
    rintro e x1 ⟨rfl, hb⟩
    have HB := hide ((((Below.refl _ w).alloc (Nat.le_refl _) _).alloc (by simp) _).trans (hb.mono (by simp; omega)))
    clear hb
    go_wp2_with fail
    go_ret
    exact ⟨rfl, HB.out⟩
  · obtain ⟨q, hq⟩ : ∃ q : Nat, 9223372036854775808 + p = q := ⟨_, rfl⟩
    rw [hq] at hor
    go_enter Tryd.func22, Tryd.ntmps22
    go_wp2_with fail
    refine (HU.out _).mono ?_
    rintro e x1 ⟨rfl, hb⟩
    have hc : x1.cell? ⟨w.heap.size, 3, none⟩ = some (.int .u64 9223372036854775808) := by
      rw [hb.cell (p := ⟨w.heap.size, 3, none⟩) (by simp; omega)]
      have h2 : Below (w.alloc (.cells #[.int .i64 53, .int .i64 (-1074), .int .u64 9218868437227405312, .int .u64 9223372036854775808] 51)).heap.size (w.alloc (.cells #[.int .i64 53, .int .i64 (-1074), .int .u64 9218868437227405312, .int .u64 9223372036854775808] 51)) ((w.alloc (.cells #[.int .i64 53, .int .i64 (-1074), .int .u64 9218868437227405312, .int .u64 9223372036854775808] 51)).alloc (.cells #[.int .u64 n, .bool more, .int .i64 e0] 55)) := (Below.refl _ _).alloc (Nat.le_refl _) _
      rw [h2.cell (p := ⟨w.heap.size, 3, none⟩) (by simp)]
      exact cell_row w _ _ 3 _ rfl
    have HB := hide ((((Below.refl _ w).alloc (Nat.le_refl _) _).alloc (by simp) _).trans (hb.mono (by simp; omega)))
    have HQ := hide hq
    clear hb hq
    go_wp2_with (simp only [hor])
    go_ret
    exact ⟨ret_int (by rw [← HQ.out]; rfl), HB.out⟩


/-- What a quotient's leading bits are. -/
def LeadQ (P Q : Nat) (e : Int) (head : Nat) (more : Bool) (e' : Int) : Prop :=
  (P = 0 ∧ head = 0 ∧ more = false ∧ e' = 0) ∨ (0 < P ∧ ∃ N D, 0 < D ∧ N * (Q * 2 ^ (-upI P Q 64).toNat) = P * 2 ^ (upI P Q 64).toNat * D ∧ head = N / D ∧ more = mrB N D ∧ e' = nr e - upI P Q 64 ∧ 4611686018427387904 ≤ head ∧ head < 18446744073709551616)

theorem upI_bits {P Q s : Nat} (hP : 0 < P) (hQ : 0 < Q) : bitLen (P * 2 ^ (upI P Q s).toNat) + 1 = bitLen (Q * 2 ^ (-upI P Q s).toNat) + s := by
  rw [bitLen_mul _ _ (by omega), bitLen_mul _ _ (by omega)]
  unfold upI
  omega

theorem quot_head {P Q N D s : Nat} (hP : 0 < P) (hQ : 0 < Q) (hs : 2 ≤ s) (hD : 0 < D) (h : N * (Q * 2 ^ (-upI P Q s).toNat) = P * 2 ^ (upI P Q s).toNat * D) : 2 ^ (s - 2) ≤ N / D ∧ N / D < 2 ^ s := by
  have hq : 0 < Q * 2 ^ (-upI P Q s).toNat := Nat.mul_pos hQ (Nat.two_pow_pos _)
  have hp : 0 < P * 2 ^ (upI P Q s).toNat := Nat.mul_pos hP (Nat.two_pow_pos _)
  rw [(cross_div hD hq h).1]
  exact quot_size hp hq hs (by have := upI_bits (s := s) hP hQ; omega)

theorem upI_bd {P Q s : Nat} (hP : Fits P) (hQ : Fits Q) (hs : s ≤ 200) : -300000 ≤ upI P Q s ∧ upI P Q s ≤ 300000 := by
  have h1 := fits_bits.1 hP
  have h2 := fits_bits.1 hQ
  unfold upI; omega

theorem nr_bd (e : Int) : -1048576 ≤ nr e ∧ nr e ≤ 1048576 := by unfold nr; omega

theorem LeadQ.ok {P Q : Nat} {e : Int} {head : Nat} {more : Bool} {e' : Int} (h : LeadQ P Q e head more e') (hP : Fits P) (hQ : Fits Q) : LeadOk head e' := by
  have := nr_bd e
  have := upI_bd (s := 64) hP hQ (by omega)
  rcases h with ⟨_, h1, _, h2⟩ | ⟨_, N, D, _, _, h1, _, h2, h3, h4⟩
  · exact ⟨.inl h1, by omega, by omega⟩
  · exact ⟨.inr ⟨h3, h4⟩, by omega, by omega⟩

theorem num_small {w : World} {v : Value} {N : Nat} (h : Num w v N) (hN : N < 18446744073709551616) : Calls Tryd.prog 41 #[v] w fun e w' => e = .returned (.tuple #[.int .u64 N, .bool true]) ∧ Below w.heap.size w w' := by
  obtain ⟨k, h1, h2, h3⟩ := h
  exact Small_row v k N w h1 h2 (h2.le (by have : (4294967296 : Nat) ^ 2 = 18446744073709551616 := by decide
                                           omega))

/-- Three cells of one's own. -/
theorem lead_put {w1 : World} {h : Nat} {a b c x y z : Value} (c0 : w1.cell? ⟨h, 0, none⟩ = some x) (c1 : w1.cell? ⟨h, 1, none⟩ = some y) (c2 : w1.cell? ⟨h, 2, none⟩ = some z) :
    (((w1.setCell ⟨h, 0, none⟩ a).setCell ⟨h, 1, none⟩ b).setCell ⟨h, 2, none⟩ c).cell? ⟨h, 0, none⟩ = some a ∧ (((w1.setCell ⟨h, 0, none⟩ a).setCell ⟨h, 1, none⟩ b).setCell ⟨h, 2, none⟩ c).cell? ⟨h, 1, none⟩ = some b ∧ (((w1.setCell ⟨h, 0, none⟩ a).setCell ⟨h, 1, none⟩ b).setCell ⟨h, 2, none⟩ c).cell? ⟨h, 2, none⟩ = some c ∧
    (∀ D (w : World), D ≤ h → Below D w w1 → Below D w (((w1.setCell ⟨h, 0, none⟩ a).setCell ⟨h, 1, none⟩ b).setCell ⟨h, 2, none⟩ c)) := by
  have e1 : (w1.setCell ⟨h, 0, none⟩ a).cell? ⟨h, 1, none⟩ = some y := by rw [cell_setCell_ne _ _ _ _ _ (by omega)]; exact c1
  have e2 : ((w1.setCell ⟨h, 0, none⟩ a).setCell ⟨h, 1, none⟩ b).cell? ⟨h, 2, none⟩ = some z := by rw [cell_setCell_ne _ _ _ _ _ (by omega), cell_setCell_ne _ _ _ _ _ (by omega)]; exact c2
  refine ⟨?_, ?_, cell_setCell_eq _ _ _ _ _ e2, fun D w hD hb => ((hb.setCell hD _).setCell hD _).setCell hD _⟩
  · rw [cell_setCell_ne _ _ _ _ _ (by omega), cell_setCell_ne _ _ _ _ _ (by omega)]; exact cell_setCell_eq _ _ _ _ _ c0
  · rw [cell_setCell_ne _ _ _ _ _ (by omega)]; exact cell_setCell_eq _ _ _ _ _ e1

def QuotEnd (P Q : Nat) (e0 : Int) (w : World) (e : Ending) (w' : World) : Prop :=
  ∃ head more e', e = .returned (.agg #[.int .u64 (head : Nat), .bool more, .int .i64 e']) ∧ LeadQ P Q e0 head more e' ∧ Below w.heap.size w w'

set_option maxRecDepth 100000 in
set_option maxHeartbeats 4000000 in
theorem quotient_num {v u : Value} {P Q : Nat} {w : World} (e0 : Int) (h : Num w v P) (h' : Num w u Q) (hQ : 0 < Q) :
    Calls Tryd.prog 54 #[v, u, .int .i64 e0] w fun e w' => QuotEnd P Q e0 w e w' := by
  obtain ⟨ad, k, cap, rfl, hk⟩ := num_slice h
  obtain ⟨W, hW⟩ : ∃ W, W = w.alloc (.cells #[.int .u64 0, .bool false, .int .i64 0] 55) := ⟨_, rfl⟩
  have hbW : Below w.heap.size w W := by rw [hW]; exact (Below.refl _ w).alloc (Nat.le_refl _) _
  have hsz : w.heap.size < W.heap.size := by rw [hW]; simp
  have c0 : W.cell? ⟨w.heap.size, 0, none⟩ = some (.int .u64 0) := by rw [hW]; exact cell_row w _ _ 0 _ rfl
  have c1 : W.cell? ⟨w.heap.size, 1, none⟩ = some (.bool false) := by rw [hW]; exact cell_row w _ _ 1 _ rfl
  have c2 : W.cell? ⟨w.heap.size, 2, none⟩ = some (.int .i64 0) := by rw [hW]; exact cell_row w _ _ 2 _ rfl
  have f0 : ∀ o, W.frozen? ⟨w.heap.size, o, none⟩ = false := fun o => by rw [hW]; exact World.frozen?_alloc_new w _ _ o
  by_cases hP : P = 0
  · obtain rfl : k = 0 := hk.2 hP
    have HL := hide (show LeadQ P Q e0 0 false 0 from .inl ⟨hP, rfl, rfl, rfl⟩)
    have HB := hide hbW
    clear h h' hQ hk hP hbW hsz
    go_enter Tryd.func54, Tryd.ntmps54
    go_wp2_with fail
    refine bodyPost_ret (v := .agg #[.int .u64 0, .bool false, .int .i64 0]) (by simp [results, Tryd.results54, go_sem]) rfl ?_
    exact ⟨0, false, 0, rfl, HL.out, (Below.refl _ w).alloc (Nat.le_refl _) _⟩
  · have hk0 : ((k : Int) == 0) = false := by
      have : k ≠ 0 := fun e => hP (hk.1 e)
      simp; omega
    have hk1 : ¬ k = 0 := fun e => hP (hk.1 e)
    have HD := hide (divide_num (s := 64) (h.below hbW) (h'.below hbW) (by omega) hQ (by omega) (by omega))
    have HX : Hid (∀ N D : Nat, 0 < D → N * (Q * 2 ^ (-upI P Q 64).toNat) = P * 2 ^ (upI P Q 64).toNat * D → 4611686018427387904 ≤ N / D ∧ N / D < 18446744073709551616) := by
      intro N D hD hN
      have := quot_head (s := 64) (by omega) hQ (by omega) hD hN
      simpa using this
    have hP0 : 0 < P := by omega
    have hub := upI_bd (s := 64) h.fits h'.fits (by omega)
    have hnb := nr_bd e0
    obtain ⟨e', he', heb⟩ : ∃ e' : Int, nr e0 - upI P Q 64 = e' ∧ (-4000000 ≤ e' ∧ e' ≤ 4000000) := ⟨_, rfl, by omega⟩
    have HL : Hid (∀ N D : Nat, 0 < D → N * (Q * 2 ^ (-upI P Q 64).toNat) = P * 2 ^ (upI P Q 64).toNat * D → LeadQ P Q e0 (N / D) (mrB N D) e') := fun N D hD hN => .inr ⟨hP0, N, D, hD, hN, rfl, rfl, he'.symm, HX.out N D hD hN⟩
    have HN := hide (fun w : World => near_any e0 w)
    have HB := hide (And.intro hbW hsz)
    have HF := hide f0
    generalize hu : upI P Q 64 = up at HD he' hub HL HX
    generalize nr e0 = ne at *
    clear h h' hQ hk hP hbW hsz hP0 f0 hu
    go_enter Tryd.func54, Tryd.ntmps54
    go_wp2_with fail
    rw [← hW]
    have HWW := hide hW
    clear hW
    refine HD.out.mono ?_
    rintro e x1 ⟨r, N, D, rfl, n1, hD, hN, b1⟩
    obtain ⟨hh1, hh2⟩ := HX.out N D hD hN
    have HS := hide (num_small n1 hh2)
    have HLL := hide (HL.out N D hD hN)
    generalize N / D = head at *
    generalize mrB N D = more at *
    have J1 := hide b1
    clear n1 hD hN b1 HD hh1 hh2 HX HL
    go_wp2_with fail
    refine HS.out.mono ?_
    rintro e x2 ⟨rfl, b2⟩
    have J2 := hide (J1.out.trans (b2.mono J1.out.size))
    clear b2 J1
    go_wp2_with fail
    refine (HN.out _).mono ?_
    rintro e x3 ⟨rfl, hw3⟩
    have hw3 := hw3.symm
    subst hw3
    have d0 : x2.cell? ⟨w.heap.size, 0, none⟩ = some (.int .u64 0) := by rw [J2.out.cell (p := ⟨w.heap.size, 0, none⟩) HB.out.2]; exact c0
    have d1 : x2.cell? ⟨w.heap.size, 1, none⟩ = some (.bool false) := by rw [J2.out.cell (p := ⟨w.heap.size, 1, none⟩) HB.out.2]; exact c1
    have d2 : x2.cell? ⟨w.heap.size, 2, none⟩ = some (.int .i64 0) := by rw [J2.out.cell (p := ⟨w.heap.size, 2, none⟩) HB.out.2]; exact c2
    have g0 : ∀ o, x2.frozen? ⟨w.heap.size, o, none⟩ = false := fun o => by rw [J2.out.frozen (p := ⟨w.heap.size, o, none⟩) HB.out.2]; exact HF.out o
    clear c0 c1 c2 HN HS
    go_wp2_with (simp only [he'])
    obtain ⟨r0, r1, r2, r3⟩ := lead_put (a := .int .u64 (head : Nat)) (b := .bool more) (c := .int .i64 e') d0 d1 d2
    refine bodyPost_ret (v := .agg #[.int .u64 (head : Nat), .bool more, .int .i64 e']) (by simp [results, Tryd.results54, go_sem, r0, r1, r2]) rfl ?_
    exact ⟨head, more, e', rfl, HLL.out, r3 _ _ (Nat.le_refl _) (HB.out.1.trans (J2.out.mono HB.out.1.size))⟩
end Go.Proofs.YtolaaemkcmiabaaDoor

namespace Go.Proofs.YtolaaemkcmiabaaDoor
open Go.RowKit
open M
open Flt
set_option linter.unusedVariables false
set_option linter.unusedSimpArgs false

set_option maxRecDepth 100000 in
set_option maxHeartbeats 1000000 in
theorem count_any (n : Nat) (w : World) (hn : n < 18446744073709551616) : Calls Tryd.prog 20 #[.int .u64 n] w fun e w' => ∃ v, e = .returned (.agg #[.bool false, v]) ∧ Num w' v n ∧ Below w.heap.size w w' := by
  have HFr := hide (fun w : World => From_any n w hn)
  obtain ⟨Wa, hWa⟩ : ∃ Wa, Wa = w.alloc (.cells #[.bool false, .slice none 0 0] 48) := ⟨_, rfl⟩
  have hBa : Below w.heap.size w Wa := by rw [hWa]; exact (Below.refl _ w).alloc (Nat.le_refl _) _
  have hza : w.heap.size < Wa.heap.size := by rw [hWa]; simp
  have ka0 : Wa.cell? ⟨w.heap.size, 0, none⟩ = some (.bool false) := by rw [hWa]; exact cell_of_row _ _ 0 _ _ _ (heap_alloc_new w _)
  have ka1 : Wa.cell? ⟨w.heap.size, 1, none⟩ = some (.slice none 0 0) := by rw [hWa]; exact cell_of_row _ _ 1 _ _ _ (heap_alloc_new w _)
  have kz : ∀ j, Wa.frozen? ⟨w.heap.size, j, none⟩ = false := fun j => by rw [hWa]; exact frozen_of_row _ _ _ _ _ (heap_alloc_new w _)
  clear hn
  go_enter Tryd.func20, Tryd.ntmps20
  go_wp2_with fail
  rw [← hWa]
  refine (HFr.out _).mono ?_
  rintro e w2 ⟨r, rfl, k, ho, hnr, hk, b2⟩
  have k0 : w2.cell? ⟨w.heap.size, 0, none⟩ = some (.bool false) := by rw [b2.cell (p := ⟨w.heap.size, 0, none⟩) hza]; exact ka0
  have k1 : w2.cell? ⟨w.heap.size, 1, none⟩ = some (.slice none 0 0) := by rw [b2.cell (p := ⟨w.heap.size, 1, none⟩) hza]; exact ka1
  have z0 : w2.frozen? ⟨w.heap.size, 0, none⟩ = false := by rw [b2.frozen (p := ⟨w.heap.size, 0, none⟩) hza]; exact kz 0
  have z1 : w2.frozen? ⟨w.heap.size, 1, none⟩ = false := by rw [b2.frozen (p := ⟨w.heap.size, 1, none⟩) hza]; exact kz 1
  have hx := ho.rowX
  obtain ⟨q1, q2, ad, cap, rfl, q3, q4⟩ := hx
  have HE := hide (And.intro (hBa.trans (b2.mono hBa.size)) (And.intro ho.rowX (And.intro hnr hk)))
  have hgz := hide hza
  clear hWa hBa ka0 ka1 kz b2 ho hnr q1 q2 q3 q4 HFr
  go_wp2_with fail
  have r0 : ((w2.setCell ⟨w.heap.size, 0, none⟩ (.bool false)).setCell ⟨w.heap.size, 1, none⟩ (.slice ad k cap)).cell? ⟨w.heap.size, 0, none⟩ = some (.bool false) := by rw [cell_setCell_ne _ _ _ _ _ (by omega)]; exact cell_setCell_eq _ _ _ _ _ k0
  have r1 : ((w2.setCell ⟨w.heap.size, 0, none⟩ (.bool false)).setCell ⟨w.heap.size, 1, none⟩ (.slice ad k cap)).cell? ⟨w.heap.size, 1, none⟩ = some (.slice ad k cap) := cell_setCell_eq _ _ _ _ (.slice none 0 0) (by rw [cell_setCell_ne _ _ _ _ _ (by omega)]; exact k1)
  refine bodyPost_ret (v := .agg #[.bool false, .slice ad k cap]) (by simp [results, Tryd.results20, go_sem, r0, r1]) rfl ⟨_, rfl, ?_, (HE.out.1.setCell (Nat.le_refl _) _).setCell (Nat.le_refl _) _⟩
  refine ⟨k, (HE.out.2.1.keep fun g o hg _ => ?_).row, HE.out.2.2.1, by have := HE.out.2.2.2; omega⟩
  have hg' : w.heap.size < g := Nat.lt_of_lt_of_le hgz.out hg
  rw [cell_other _ _ _ _ _ _ (by omega), cell_other _ _ _ _ _ _ (by omega)]

def OverEnd (neg : Bool) (P Q : Nat) (e0 : Int) (w : World) (e : Ending) (w' : World) : Prop :=
  ∃ head more e', e = .returned (.int .u64 (wdX neg 9223372036854775808 (unsF 53 1074 9218868437227405312 head more e') : Nat)) ∧ LeadQ P Q e0 head more e' ∧ Below w.heap.size w w'

set_option maxRecDepth 100000 in
set_option maxHeartbeats 2000000 in
theorem over_any {v u : Value} {P Q : Nat} {w : World} (neg qn : Bool) (e0 : Int) (h : Num w v P) (h' : Num w u Q) (hQ : 0 < Q) :
    Calls Tryd.prog 33 #[.agg #[.bool neg, v], .agg #[.bool qn, u], .int .i64 e0] w fun e w' => OverEnd neg P Q e0 w e w' := by
  have HQ := hide (fun (w' : World) (hb : Below w.heap.size w w') => quotient_num (w := w') e0 (h.below hb) (h'.below hb) hQ)
  have HF := hide (And.intro h.fits h'.fits)
  obtain ⟨a1, l1, p1, rfl, _⟩ := num_slice h
  obtain ⟨a2, l2, p2, rfl, _⟩ := num_slice h'
  clear h h' hQ
  unfold OverEnd
  unfold QuotEnd at HQ
  go_enter Tryd.func33, Tryd.ntmps33
  go_wp2_with fail
  obtain ⟨W, hW⟩ : ∃ W, W = (w.alloc (.cells #[.bool neg, .slice a1 l1 p1] 48)).alloc (.cells #[.bool qn, .slice a2 l2 p2] 48) := ⟨_, rfl⟩
  rw [← hW]
  have hz : (w.alloc (.cells #[.bool neg, .slice a1 l1 p1] 48)).heap.size = w.heap.size + 1 := by simp
  have B1 : Below (w.alloc (.cells #[.bool neg, .slice a1 l1 p1] 48)).heap.size (w.alloc (.cells #[.bool neg, .slice a1 l1 p1] 48)) W := by rw [hW]; exact (Below.refl _ _).alloc (Nat.le_refl _) _
  have k0 : W.drew.cell? ⟨w.heap.size, 0, none⟩ = some (.bool neg) := by
    show W.cell? _ = _
    rw [B1.cell (p := ⟨w.heap.size, 0, none⟩) (by simp)]; exact cell_of_row _ _ 0 _ _ _ (heap_alloc_new w _)
  have k1 : W.drew.cell? ⟨w.heap.size, 1, none⟩ = some (.slice a1 l1 p1) := by
    show W.cell? _ = _
    rw [B1.cell (p := ⟨w.heap.size, 1, none⟩) (by simp)]; exact cell_of_row _ _ 1 _ _ _ (heap_alloc_new w _)
  have k2 : W.drew.cell? ⟨w.heap.size + 1, 1, none⟩ = some (.slice a2 l2 p2) := by
    show W.cell? _ = _
    rw [← hz, hW]; exact cell_of_row _ _ 1 _ _ _ (heap_alloc_new _ _)
  have HI : Hid (Below w.heap.size w W.drew) := by rw [hW]; exact (((Below.refl _ w).alloc (Nat.le_refl _) _).alloc (by simp) _).drew
  clear hW hz B1
  go_region_held3 (fun w' => w'.cell? ⟨w.heap.size, 0, none⟩ = some (.bool neg) ∧ w'.cell? ⟨w.heap.size, 1, none⟩ = some (.slice a1 l1 p1) ∧ w'.cell? ⟨w.heap.size + 1, 1, none⟩ = some (.slice a2 l2 p2)) (exact ⟨k0, k1, k2⟩)
    (first | (go_at_call 21; go_must (refine (layout64 _).mono ?_); rintro _ w5 ⟨rfl, B5⟩; have HI := hide (HI.out.trans (B5.mono HI.out.size)); have k0 : w5.cell? ⟨w.heap.size, 0, none⟩ = some (.bool neg) := (by rw [B5.cell (p := ⟨w.heap.size, 0, none⟩) (block_lt_of_cell k0)]; exact k0); have k1 : w5.cell? ⟨w.heap.size, 1, none⟩ = some (.slice a1 l1 p1) := (by rw [B5.cell (p := ⟨w.heap.size, 1, none⟩) (block_lt_of_cell k1)]; exact k1); have k2 : w5.cell? ⟨w.heap.size + 1, 1, none⟩ = some (.slice a2 l2 p2) := (by rw [B5.cell (p := ⟨w.heap.size + 1, 1, none⟩) (block_lt_of_cell k2)]; exact k2); clear B5) | (go_at_call 54; go_must (refine (HQ.out _ HI.out).mono ?_); rintro _ w5 ⟨head, more, e', rfl, hl, B5⟩; have HL := hide hl; have HN := hide (fun w => nearest64_any neg head more e' w (hl.ok HF.out.1 HF.out.2)); have HI := hide (HI.out.trans (B5.mono HI.out.size)); have k0 : w5.cell? ⟨w.heap.size, 0, none⟩ = some (.bool neg) := (by rw [B5.cell (p := ⟨w.heap.size, 0, none⟩) (block_lt_of_cell k0)]; exact k0); have k1 : w5.cell? ⟨w.heap.size, 1, none⟩ = some (.slice a1 l1 p1) := (by rw [B5.cell (p := ⟨w.heap.size, 1, none⟩) (block_lt_of_cell k1)]; exact k1); have k2 : w5.cell? ⟨w.heap.size + 1, 1, none⟩ = some (.slice a2 l2 p2) := (by rw [B5.cell (p := ⟨w.heap.size + 1, 1, none⟩) (block_lt_of_cell k2)]; exact k2); clear B5 hl) | (go_at_call 22; go_must (refine (HN.out _).mono ?_); rintro _ w5 ⟨rfl, B5⟩; have HI := hide (HI.out.trans (B5.mono HI.out.size)); have k0 : w5.cell? ⟨w.heap.size, 0, none⟩ = some (.bool neg) := (by rw [B5.cell (p := ⟨w.heap.size, 0, none⟩) (block_lt_of_cell k0)]; exact k0); have k1 : w5.cell? ⟨w.heap.size, 1, none⟩ = some (.slice a1 l1 p1) := (by rw [B5.cell (p := ⟨w.heap.size, 1, none⟩) (block_lt_of_cell k1)]; exact k1); have k2 : w5.cell? ⟨w.heap.size + 1, 1, none⟩ = some (.slice a2 l2 p2) := (by rw [B5.cell (p := ⟨w.heap.size + 1, 1, none⟩) (block_lt_of_cell k2)]; exact k2); clear B5))
  go_wp2_with fail
  go_ret
  exact ⟨head, more, e', rfl, HL.out, HI.out⟩

end Go.Proofs.YtolaaemkcmiabaaDoor

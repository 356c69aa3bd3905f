/- The law's do with bytes as long as may come in. -/
import Derived.Test.YtlandfghodfjdaaGreatJ12Y
namespace Go.Proofs.YtlandfghodfjdaaGreat
open Go.RowKit
set_option linter.unusedVariables false
set_option linter.unusedSimpArgs false

set_option maxRecDepth 100000 in
theorem copy_big (v : Value) (bs : List Nat) (w : World) (h : IsBy w v bs) (hl : bs.length ≤ 140737488355328) :
    Calls Tryz.prog 32 #[v] w fun e w' => ∃ v2, e = .returned v2 ∧ OB w.heap.size w bs v2 w' := by
  obtain ⟨i5, hi5⟩ := info5
  have Hi := hide hi5
  clear hi5
  have HO : Hid (OB w.heap.size w [] (.slice none 0 0) w) := OB.nil w
  have HO1 : Hid (w.ownsRow w.heap.size 5 1 (.slice none 0 0) 0 []) := World.ownsRow_nil _ _ _ _
  rcases by_news h with ⟨rfl, rfl⟩ | ⟨ad, cap, rfl, hnews⟩
  · clear h
    go_enter Tryz.func32, Tryz.ntmps32
    go_wp2_with (at_builtin; refine wpList_append_own_none rfl _ _ _ rfl w.heap.size 5 i5 1 Tryz.underlying33 Hi.out.1 (.slice none 0 0) 0 [] rfl HO1.out rfl ?c6)
    go_ret
    exact ⟨_, rfl, HO.out⟩
  · have HN := hide hnews
    clear h hnews
    obtain ⟨n, hn⟩ : ∃ n, bs.length = n := ⟨_, rfl⟩
    rw [hn] at hl ⊢
    have Hn := hide hn
    clear hn
    go_enter Tryz.func32, Tryz.ntmps32
    go_wp2_with (at_builtin; refine wpList_append_own _ rfl _ _ _ rfl w.heap.size 5 i5 (.int .u8 0) 1 1 Tryz.underlying33 Hi.out.1 Hi.out.2.1 Hi.out.2.2.1 Hi.out.2.2.2 rfl (by decide) (.slice none 0 0) 0 [] rfl HO1.out ad n cap (bytesV bs) rfl ?f2 ?f3 (bytesV_cell bs) ?f4 ?f5 ?f7 ?f6)
    case f2 => rw [Nat.mul_one, ← Hn.out]; simp
    case f3 => exact HN.out
    case f4 => unfold maxLen; omega
    case f5 => omega
    case f7 => omega
    case f6 =>
      intro v2 w2 ho2 hg2 _
      have HF : Hid (OB w.heap.size w bs v2 w2) := by
        have h2 := HO.out.more (cs := bs) (v2 := v2) (w4 := w2) (by simpa [Hn.out, bytesV] using ho2) hg2
        rw [List.nil_append] at h2
        exact h2
      clear ho2 hg2
      go_wp2_with fail
      go_ret
      exact ⟨_, rfl, HF.out⟩

set_option maxRecDepth 100000 in
set_option maxHeartbeats 4000000 in
theorem do_appendB {B : Nat} {S : DS} (w : World) (h : Dk B w 0 S) (dw on : Int) (nm tt : ByteArray) (pb : Option Addr) (nb cb : Nat) (z kp ls : Int) (fl : Value) (bs : List Nat) (hnb : nb = bs.length) (hby : IsBy w (.slice pb nb cb) bs) (hbb : ∀ n ∈ bs, n < 256) (hn : nb ≤ 140737488355328) (hz : nm.size ≤ 140737488355328) (hzt : tt.size ≤ 140737488355328) (hA : S.ps.arms) (hwr : S.wr ≤ 1000000000) (hd : dw = 1) :
    Calls Tryz.prog 12 #[.pointer (some ⟨S.d, 0, none⟩), opV dw on nm tt (.slice pb nb cb) z kp ls fl] w fun e w' => ∃ (c : Int) (is : Bool) (S' : DS), e = .returned (.tuple #[.int .i64 c, .bool is]) ∧ S'.d = S.d ∧ DoR S.ps dw nm tt bs z c is S'.ps ∧ Dk B w' 0 S' ∧ Fr w (Fp S) w' (Fp S') := by
  subst hd
  have hb0 : Below w.heap.size w (w.alloc (.cells #[.int .i64 (1), .int .i64 on, .string nm, .string tt, .slice pb nb cb, .int .i64 z, .int .i64 kp, .int .i64 ls, fl] 36)) := (Below.refl _ _).alloc (Nat.le_refl _) _
  have HB : Hid (Below w.heap.size w (w.alloc (.cells #[.int .i64 (1), .int .i64 on, .string nm, .string tt, .slice pb nb cb, .int .i64 z, .int .i64 kp, .int .i64 ls, fl] 36)).drew) := ⟨hb0.os, hb0.tape, hb0.output, hb0.size, hb0.block⟩
  have HW : Hid (Dk B (w.alloc (.cells #[.int .i64 (1), .int .i64 on, .string nm, .string tt, .slice pb nb cb, .int .i64 z, .int .i64 kp, .int .i64 ls, fl] 36)).drew 0 S) := h.below HB.out
  have q1 : (w.alloc (.cells #[.int .i64 (1), .int .i64 on, .string nm, .string tt, .slice pb nb cb, .int .i64 z, .int .i64 kp, .int .i64 ls, fl] 36)).drew.cell? ⟨w.heap.size, 2, none⟩ = some (.string nm) := cell_of_row _ _ _ _ _ _ (heap_alloc_new w (.cells #[.int .i64 (1), .int .i64 on, .string nm, .string tt, .slice pb nb cb, .int .i64 z, .int .i64 kp, .int .i64 ls, fl] 36))
  have q2 : (w.alloc (.cells #[.int .i64 (1), .int .i64 on, .string nm, .string tt, .slice pb nb cb, .int .i64 z, .int .i64 kp, .int .i64 ls, fl] 36)).drew.cell? ⟨w.heap.size, 4, none⟩ = some (.slice pb nb cb) := cell_of_row _ _ _ _ _ _ (heap_alloc_new w (.cells #[.int .i64 (1), .int .i64 on, .string nm, .string tt, .slice pb nb cb, .int .i64 z, .int .i64 kp, .int .i64 ls, fl] 36))
  have HZ : Hid (w.heap.size < (w.alloc (.cells #[.int .i64 (1), .int .i64 on, .string nm, .string tt, .slice pb nb cb, .int .i64 z, .int .i64 kp, .int .i64 ls, fl] 36)).drew.heap.size) := by show w.heap.size < (w.alloc (.cells #[.int .i64 (1), .int .i64 on, .string nm, .string tt, .slice pb nb cb, .int .i64 z, .int .i64 kp, .int .i64 ls, fl] 36)).heap.size; simp
  have HC := hide (copy_big (.slice pb nb cb) bs (w.alloc (.cells #[.int .i64 (1), .int .i64 on, .string nm, .string tt, .slice pb nb cb, .int .i64 z, .int .i64 kp, .int .i64 ls, fl] 36)).drew (isBy_below hby HB.out) (by omega))
  have HN : Hid (∀ k, Fp S k → k < w.heap.size) := h.fpLt
  have HA1 : Hid (∀ w3 v2, OB (w.alloc (.cells #[.int .i64 (1), .int .i64 on, .string nm, .string tt, .slice pb nb cb, .int .i64 z, .int .i64 kp, .int .i64 ls, fl] 36)).drew.heap.size (w.alloc (.cells #[.int .i64 (1), .int .i64 on, .string nm, .string tt, .slice pb nb cb, .int .i64 z, .int .i64 kp, .int .i64 ls, fl] 36)).drew bs v2 w3 → Calls Tryz.prog 24 #[.pointer (some ⟨S.d, 0, none⟩), .string nm, v2] w3 fun e w' => ∃ (c : Int) (S' : DS), e = .returned (.int .i64 c) ∧ S'.d = S.d ∧ AppR S.ps nm bs c S'.ps ∧ Dk B w' 0 S' ∧ Fr w3 (Fp S) w' (Fp S')) := fun w3 v2 hO => by
    have hlt : ∀ k, v2.ownBlock = some k → ¬ Fp S k := fun k hk hf => by
      have h1 := (hO.own.lt k hk).1
      have h2 := HW.out.fpLt k hf
      omega
    have hD3 := HW.out.below hO.bel
    have hi := hO.by_
    rcases hO.own.2 with ⟨e1, e2⟩ | ⟨g, cap, cur, e1, q1, q2, q3, q4, q5, q6⟩
    · subst e1
      exact append_all w3 hD3 nm hz none 0 0 bs (by omega) hi hlt (Nat.le_refl _) (fun _ => rfl) hbb (by omega) hA hwr
    · subst e1
      exact append_all w3 hD3 nm hz (some ⟨g, 0, none⟩) bs.length cap bs rfl hi hlt q3 (fun e => by simp at e) hbb (by omega) hA hwr
  clear h hby hnb hb0
  unfold opV
  go_enter Tryz.func12, Tryz.ntmps12
  go_upto_region 3 with fail
  refine wp_region_held_drew (S := fun w' => w'.cell? ⟨w.heap.size, 2, none⟩ = some (.string nm) ∧ w'.cell? ⟨w.heap.size, 4, none⟩ = some (.slice pb nb cb)) (by kernel_rfl) ⟨q1, q2⟩ (fun hHeld => ?_)
  refine wpAnyH_take (i := 0) (v := ?_) rfl (by kernel_rfl) (by kernel_rfl) (by kernel_rfl) (fun _ _ _ h => h) (Or.inl ⟨by rfl, ?_⟩) hHeld ?_
  rotate_left
  · (intro wq hSw; (try dsimp only at hSw); (try obtain ⟨s0, s1⟩ := hSw); (go_simp <;> with_reducible rfl))
  try simp only [Act.put, List.getElem_toArray, List.getElem_cons_zero, List.getElem_cons_succ, List.setIfInBounds_toArray, List.set_cons_zero, List.set_cons_succ]
  refine wpAnyH_take (i := 1) (v := ?_) rfl (by kernel_rfl) (by kernel_rfl) (by kernel_rfl) (fun _ _ _ h => h) (Or.inl ⟨by rfl, ?_⟩) hHeld ?_
  rotate_left
  · (intro wq hSw; (try dsimp only at hSw); (try obtain ⟨s0, s1⟩ := hSw); (go_simp <;> with_reducible rfl))
  try simp only [Act.put, List.getElem_toArray, List.getElem_cons_zero, List.getElem_cons_succ, List.setIfInBounds_toArray, List.set_cons_zero, List.set_cons_succ]
  refine wpAnyH_take (i := 2) (v := ?_) rfl (by kernel_rfl) (by kernel_rfl) (by kernel_rfl) (fun _ _ _ h => h) (Or.inl ⟨by rfl, ?_⟩) hHeld ?_
  rotate_left
  · (intro wq hSw; (try dsimp only at hSw); (try obtain ⟨s0, s1⟩ := hSw); (go_simp <;> with_reducible rfl))
  try simp only [Act.put, List.getElem_toArray, List.getElem_cons_zero, List.getElem_cons_succ, List.setIfInBounds_toArray, List.set_cons_zero, List.set_cons_succ]
  refine wpAnyH_take (i := 3) (v := ?_) rfl (by kernel_rfl) (by kernel_rfl) (by kernel_rfl) (fun _ _ _ h => h) (Or.inl ⟨by rfl, ?_⟩) hHeld ?_
  rotate_left
  · (intro wq hSw; (try dsimp only at hSw); (try obtain ⟨s0, s1⟩ := hSw); (go_simp <;> with_reducible rfl))
  try simp only [Act.put, List.getElem_toArray, List.getElem_cons_zero, List.getElem_cons_succ, List.setIfInBounds_toArray, List.set_cons_zero, List.set_cons_succ]
  refine wpAnyH_take (i := 4) (v := ?_) rfl (by kernel_rfl) (by kernel_rfl) (by kernel_rfl) (fun _ _ _ h => h) (Or.inl ⟨by rfl, ?_⟩) hHeld ?_
  rotate_left
  · (intro wq hSw; (try dsimp only at hSw); (try obtain ⟨s0, s1⟩ := hSw); (go_simp <;> with_reducible rfl))
  try simp only [Act.put, List.getElem_toArray, List.getElem_cons_zero, List.getElem_cons_succ, List.setIfInBounds_toArray, List.set_cons_zero, List.set_cons_succ]
  refine wpAnyH_ready (rs := [5]) (by kernel_rfl) (by simp) ?_
  refine AllReadyH.cons rfl (fun K hK => ?_) AllReadyH.nil
  go_simp
  refine HC.out.mono ?_
  rintro _ w3 ⟨v2, rfl, hO⟩
  obtain ⟨p2, c2, hv2⟩ := ob_slice hO
  subst hv2
  have HO := hide hO
  have r1 : w3.cell? ⟨w.heap.size, 2, none⟩ = some (.string nm) := (hO.bel.cell HZ.out).trans q1
  have r2 : w3.cell? ⟨w.heap.size, 4, none⟩ = some (.slice pb nb cb) := (hO.bel.cell HZ.out).trans q2
  clear hO HC
  refine hK.out _ _ ⟨r1, r2⟩ (fun hHeld => ?_)
  clear hK K
  try simp only [Act.put, List.getElem_toArray, List.getElem_cons_zero, List.getElem_cons_succ, List.setIfInBounds_toArray, List.set_cons_zero, List.set_cons_succ]
  refine wpAnyH_ready (rs := [6]) (by kernel_rfl) (by simp) ?_
  refine AllReadyH.cons rfl (fun K hK => ?_) AllReadyH.nil
  go_simp
  refine (HA1.out w3 (.slice p2 bs.length c2) HO.out).mono ?_
  rintro _ w4 ⟨c, S', rfl, e1, e2, e3, e4⟩
  have HE : Hid (S'.d = S.d ∧ AppR S.ps nm bs c S'.ps ∧ Dk B w4 0 S' ∧ Fr w (Fp S) w4 (Fp S')) := ⟨e1, e2, e3, ((Fr.of_below HB.out).trans (Fr.of_below HO.out.bel)).trans e4⟩
  have hbk := (e4.block w.heap.size (Nat.lt_of_lt_of_le HZ.out HO.out.bel.size) (fun hf => Nat.lt_irrefl _ (HN.out _ hf))).2
  have u1 : w4.cell? ⟨w.heap.size, 2, none⟩ = some (.string nm) := (World.cell?_of_block (w := w3) hbk).trans r1
  have u2 : w4.cell? ⟨w.heap.size, 4, none⟩ = some (.slice pb nb cb) := (World.cell?_of_block (w := w3) hbk).trans r2
  clear e1 e2 e3 e4 HA1 hbk
  refine hK.out _ _ ⟨u1, u2⟩ (fun hHeld => ?_)
  clear hK K
  try simp only [Act.put, List.getElem_toArray, List.getElem_cons_zero, List.getElem_cons_succ, List.setIfInBounds_toArray, List.set_cons_zero, List.set_cons_succ]
  refine wpAnyH_take (i := 7) (v := ?_) rfl (by kernel_rfl) (by kernel_rfl) (by kernel_rfl) (fun _ _ _ h => h) (Or.inl ⟨by rfl, ?_⟩) hHeld ?_
  rotate_left
  · (intro wq hSw; (try dsimp only at hSw); (try obtain ⟨s0, s1⟩ := hSw); (go_simp <;> with_reducible rfl))
  try simp only [Act.put, List.getElem_toArray, List.getElem_cons_zero, List.getElem_cons_succ, List.setIfInBounds_toArray, List.set_cons_zero, List.set_cons_succ]
  refine wpAnyH_take (i := 8) (v := ?_) rfl (by kernel_rfl) (by kernel_rfl) (by kernel_rfl) (fun _ _ _ h => h) (Or.inl ⟨by rfl, ?_⟩) hHeld ?_
  rotate_left
  · (intro wq hSw; (try dsimp only at hSw); (try obtain ⟨s0, s1⟩ := hSw); (go_simp <;> with_reducible rfl))
  try simp only [Act.put, List.getElem_toArray, List.getElem_cons_zero, List.getElem_cons_succ, List.setIfInBounds_toArray, List.set_cons_zero, List.set_cons_succ]
  refine wpAnyH_done (by kernel_rfl) ?_ _
  go_wp2_with fail
  go_ret2
  exact ⟨c, true, S', rfl, HE.out.1, .inl ⟨rfl, rfl, HE.out.2.1⟩, HE.out.2.2.1, HE.out.2.2.2⟩

set_option maxRecDepth 100000 in
set_option maxHeartbeats 4000000 in
theorem do_cutB {B : Nat} {S : DS} (w : World) (h : Dk B w 0 S) (dw on : Int) (nm tt : ByteArray) (pb : Option Addr) (nb cb : Nat) (z kp ls : Int) (fl : Value) (bs : List Nat) (hnb : nb = bs.length) (hby : IsBy w (.slice pb nb cb) bs) (hbb : ∀ n ∈ bs, n < 256) (hn : nb ≤ 140737488355328) (hz : nm.size ≤ 140737488355328) (hzt : tt.size ≤ 140737488355328) (hA : S.ps.arms) (hwr : S.wr ≤ 1000000000) (hd : dw = 2) :
    Calls Tryz.prog 12 #[.pointer (some ⟨S.d, 0, none⟩), opV dw on nm tt (.slice pb nb cb) z kp ls fl] w fun e w' => ∃ (c : Int) (is : Bool) (S' : DS), e = .returned (.tuple #[.int .i64 c, .bool is]) ∧ S'.d = S.d ∧ DoR S.ps dw nm tt bs z c is S'.ps ∧ Dk B w' 0 S' ∧ Fr w (Fp S) w' (Fp S') := by
  subst hd
  have HB := hide (show Below w.heap.size w (w.alloc (.cells #[.int .i64 (2), .int .i64 on, .string nm, .string tt, .slice pb nb cb, .int .i64 z, .int .i64 kp, .int .i64 ls, fl] 36)) from (Below.refl _ _).alloc (Nat.le_refl _) _)
  have HW : Hid (Dk B (w.alloc (.cells #[.int .i64 (2), .int .i64 on, .string nm, .string tt, .slice pb nb cb, .int .i64 z, .int .i64 kp, .int .i64 ls, fl] 36)) 0 S) := h.below HB.out
  have HA1 := hide (cut_all _ HW.out nm hz z hA hwr)
  clear h hby hnb
  unfold opV
  go_enter Tryz.func12, Tryz.ntmps12
  go_wp2_with (go_at_call 33; refine HA1.out.mono ?_; rintro e w4 ⟨c, S', rfl, e1, e2, e3, e4⟩; have HE : Hid (S'.d = S.d ∧ CutR S.ps nm z c S'.ps ∧ Dk B w4 0 S' ∧ Fr w (Fp S) w4 (Fp S')) := ⟨e1, e2, e3, (Fr.of_below HB.out).trans e4⟩; clear e1 e2 e3 e4 HA1)
  go_ret2
  exact ⟨c, true, S', rfl, HE.out.1, .inr (.inl ⟨rfl, rfl, HE.out.2.1⟩), HE.out.2.2.1, HE.out.2.2.2⟩

set_option maxRecDepth 100000 in
set_option maxHeartbeats 4000000 in
theorem do_renameB {B : Nat} {S : DS} (w : World) (h : Dk B w 0 S) (dw on : Int) (nm tt : ByteArray) (pb : Option Addr) (nb cb : Nat) (z kp ls : Int) (fl : Value) (bs : List Nat) (hnb : nb = bs.length) (hby : IsBy w (.slice pb nb cb) bs) (hbb : ∀ n ∈ bs, n < 256) (hn : nb ≤ 140737488355328) (hz : nm.size ≤ 140737488355328) (hzt : tt.size ≤ 140737488355328) (hA : S.ps.arms) (hwr : S.wr ≤ 1000000000) (hd : dw = 3) :
    Calls Tryz.prog 12 #[.pointer (some ⟨S.d, 0, none⟩), opV dw on nm tt (.slice pb nb cb) z kp ls fl] w fun e w' => ∃ (c : Int) (is : Bool) (S' : DS), e = .returned (.tuple #[.int .i64 c, .bool is]) ∧ S'.d = S.d ∧ DoR S.ps dw nm tt bs z c is S'.ps ∧ Dk B w' 0 S' ∧ Fr w (Fp S) w' (Fp S') := by
  subst hd
  have HB := hide (show Below w.heap.size w (w.alloc (.cells #[.int .i64 (3), .int .i64 on, .string nm, .string tt, .slice pb nb cb, .int .i64 z, .int .i64 kp, .int .i64 ls, fl] 36)) from (Below.refl _ _).alloc (Nat.le_refl _) _)
  have HW : Hid (Dk B (w.alloc (.cells #[.int .i64 (3), .int .i64 on, .string nm, .string tt, .slice pb nb cb, .int .i64 z, .int .i64 kp, .int .i64 ls, fl] 36)) 0 S) := h.below HB.out
  have HA1 := hide (rename_all _ HW.out nm tt hz hzt hA hwr)
  clear h hby hnb
  unfold opV
  go_enter Tryz.func12, Tryz.ntmps12
  go_wp2_with (go_at_call 34; refine HA1.out.mono ?_; rintro e w4 ⟨c, S', rfl, e1, e2, e3, e4⟩; have HE : Hid (S'.d = S.d ∧ RenR S.ps nm tt c S'.ps ∧ Dk B w4 0 S' ∧ Fr w (Fp S) w4 (Fp S')) := ⟨e1, e2, e3, (Fr.of_below HB.out).trans e4⟩; clear e1 e2 e3 e4 HA1)
  go_ret2
  exact ⟨c, true, S', rfl, HE.out.1, .inr (.inr (.inl ⟨rfl, rfl, HE.out.2.1⟩)), HE.out.2.2.1, HE.out.2.2.2⟩

set_option maxRecDepth 100000 in
set_option maxHeartbeats 4000000 in
theorem do_removeB {B : Nat} {S : DS} (w : World) (h : Dk B w 0 S) (dw on : Int) (nm tt : ByteArray) (pb : Option Addr) (nb cb : Nat) (z kp ls : Int) (fl : Value) (bs : List Nat) (hnb : nb = bs.length) (hby : IsBy w (.slice pb nb cb) bs) (hbb : ∀ n ∈ bs, n < 256) (hn : nb ≤ 140737488355328) (hz : nm.size ≤ 140737488355328) (hzt : tt.size ≤ 140737488355328) (hA : S.ps.arms) (hwr : S.wr ≤ 1000000000) (hd : dw = 4) :
    Calls Tryz.prog 12 #[.pointer (some ⟨S.d, 0, none⟩), opV dw on nm tt (.slice pb nb cb) z kp ls fl] w fun e w' => ∃ (c : Int) (is : Bool) (S' : DS), e = .returned (.tuple #[.int .i64 c, .bool is]) ∧ S'.d = S.d ∧ DoR S.ps dw nm tt bs z c is S'.ps ∧ Dk B w' 0 S' ∧ Fr w (Fp S) w' (Fp S') := by
  subst hd
  have HB := hide (show Below w.heap.size w (w.alloc (.cells #[.int .i64 (4), .int .i64 on, .string nm, .string tt, .slice pb nb cb, .int .i64 z, .int .i64 kp, .int .i64 ls, fl] 36)) from (Below.refl _ _).alloc (Nat.le_refl _) _)
  have HW : Hid (Dk B (w.alloc (.cells #[.int .i64 (4), .int .i64 on, .string nm, .string tt, .slice pb nb cb, .int .i64 z, .int .i64 kp, .int .i64 ls, fl] 36)) 0 S) := h.below HB.out
  have HA1 := hide (remove_all _ HW.out nm hz hA hwr)
  clear h hby hnb
  unfold opV
  go_enter Tryz.func12, Tryz.ntmps12
  go_wp2_with (go_at_call 35; refine HA1.out.mono ?_; rintro e w4 ⟨c, S', rfl, e1, e2, e3, e4⟩; have HE : Hid (S'.d = S.d ∧ OpR S.ps nm (removeF nm) c S'.ps ∧ Dk B w4 0 S' ∧ Fr w (Fp S) w4 (Fp S')) := ⟨e1, e2, e3, (Fr.of_below HB.out).trans e4⟩; clear e1 e2 e3 e4 HA1)
  go_ret2
  exact ⟨c, true, S', rfl, HE.out.1, .inr (.inr (.inr (.inl ⟨rfl, rfl, HE.out.2.1⟩))), HE.out.2.2.1, HE.out.2.2.2⟩

set_option maxRecDepth 100000 in
set_option maxHeartbeats 4000000 in
theorem do_syncB {B : Nat} {S : DS} (w : World) (h : Dk B w 0 S) (dw on : Int) (nm tt : ByteArray) (pb : Option Addr) (nb cb : Nat) (z kp ls : Int) (fl : Value) (bs : List Nat) (hnb : nb = bs.length) (hby : IsBy w (.slice pb nb cb) bs) (hbb : ∀ n ∈ bs, n < 256) (hn : nb ≤ 140737488355328) (hz : nm.size ≤ 140737488355328) (hzt : tt.size ≤ 140737488355328) (hA : S.ps.arms) (hwr : S.wr ≤ 1000000000) (hd : dw = 5) :
    Calls Tryz.prog 12 #[.pointer (some ⟨S.d, 0, none⟩), opV dw on nm tt (.slice pb nb cb) z kp ls fl] w fun e w' => ∃ (c : Int) (is : Bool) (S' : DS), e = .returned (.tuple #[.int .i64 c, .bool is]) ∧ S'.d = S.d ∧ DoR S.ps dw nm tt bs z c is S'.ps ∧ Dk B w' 0 S' ∧ Fr w (Fp S) w' (Fp S') := by
  subst hd
  have HB := hide (show Below w.heap.size w (w.alloc (.cells #[.int .i64 (5), .int .i64 on, .string nm, .string tt, .slice pb nb cb, .int .i64 z, .int .i64 kp, .int .i64 ls, fl] 36)) from (Below.refl _ _).alloc (Nat.le_refl _) _)
  have HW : Hid (Dk B (w.alloc (.cells #[.int .i64 (5), .int .i64 on, .string nm, .string tt, .slice pb nb cb, .int .i64 z, .int .i64 kp, .int .i64 ls, fl] 36)) 0 S) := h.below HB.out
  have HA1 := hide (sync_all _ HW.out nm hz hA hwr)
  clear h hby hnb
  unfold opV
  go_enter Tryz.func12, Tryz.ntmps12
  go_wp2_with (go_at_call 25; refine HA1.out.mono ?_; rintro e w4 ⟨c, S', rfl, e1, e2, e3, e4⟩; have HE : Hid (S'.d = S.d ∧ OpR S.ps nm (syncF nm) c S'.ps ∧ Dk B w4 0 S' ∧ Fr w (Fp S) w4 (Fp S')) := ⟨e1, e2, e3, (Fr.of_below HB.out).trans e4⟩; clear e1 e2 e3 e4 HA1)
  go_ret2
  exact ⟨c, true, S', rfl, HE.out.1, .inr (.inr (.inr (.inr (.inl ⟨rfl, rfl, HE.out.2.1⟩)))), HE.out.2.2.1, HE.out.2.2.2⟩

set_option maxRecDepth 100000 in
set_option maxHeartbeats 4000000 in
theorem do_noneB {B : Nat} {S : DS} (w : World) (h : Dk B w 0 S) (dw on : Int) (nm tt : ByteArray) (pb : Option Addr) (nb cb : Nat) (z kp ls : Int) (fl : Value) (bs : List Nat) (hnb : nb = bs.length) (hby : IsBy w (.slice pb nb cb) bs) (hbb : ∀ n ∈ bs, n < 256) (hn : nb ≤ 140737488355328) (hz : nm.size ≤ 140737488355328) (hzt : tt.size ≤ 140737488355328) (hA : S.ps.arms) (hwr : S.wr ≤ 1000000000) (hd : ¬ dw = 1 ∧ ¬ dw = 2 ∧ ¬ dw = 3 ∧ ¬ dw = 4 ∧ ¬ dw = 5) :
    Calls Tryz.prog 12 #[.pointer (some ⟨S.d, 0, none⟩), opV dw on nm tt (.slice pb nb cb) z kp ls fl] w fun e w' => ∃ (c : Int) (is : Bool) (S' : DS), e = .returned (.tuple #[.int .i64 c, .bool is]) ∧ S'.d = S.d ∧ DoR S.ps dw nm tt bs z c is S'.ps ∧ Dk B w' 0 S' ∧ Fr w (Fp S) w' (Fp S') := by
  obtain ⟨d1, d2, d3, d4, d5⟩ := hd
  have HB := hide (show Below w.heap.size w (w.alloc (.cells #[.int .i64 dw, .int .i64 on, .string nm, .string tt, .slice pb nb cb, .int .i64 z, .int .i64 kp, .int .i64 ls, fl] 36)) from (Below.refl _ _).alloc (Nat.le_refl _) _)
  have HW : Hid (Dk B (w.alloc (.cells #[.int .i64 dw, .int .i64 on, .string nm, .string tt, .slice pb nb cb, .int .i64 z, .int .i64 kp, .int .i64 ls, fl] 36)) 0 S) := h.below HB.out
  clear h hby hnb
  unfold opV
  go_enter Tryz.func12, Tryz.ntmps12
  go_wp2_with fail
  go_ret2
  exact ⟨0, false, S, rfl, rfl, .inr (.inr (.inr (.inr (.inr ⟨⟨d1, d2, d3, d4, d5⟩, rfl, rfl, rfl⟩)))), HW.out, Fr.of_below HB.out⟩

theorem do_anyB {B : Nat} {S : DS} (w : World) (h : Dk B w 0 S) (dw on : Int) (nm tt : ByteArray) (pb : Option Addr) (nb cb : Nat) (z kp ls : Int) (fl : Value) (bs : List Nat) (hnb : nb = bs.length) (hby : IsBy w (.slice pb nb cb) bs) (hbb : ∀ n ∈ bs, n < 256) (hn : nb ≤ 140737488355328) (hz : nm.size ≤ 140737488355328) (hzt : tt.size ≤ 140737488355328) (hA : S.ps.arms) (hwr : S.wr ≤ 1000000000) :
    Calls Tryz.prog 12 #[.pointer (some ⟨S.d, 0, none⟩), opV dw on nm tt (.slice pb nb cb) z kp ls fl] w fun e w' => ∃ (c : Int) (is : Bool) (S' : DS), e = .returned (.tuple #[.int .i64 c, .bool is]) ∧ S'.d = S.d ∧ DoR S.ps dw nm tt bs z c is S'.ps ∧ Dk B w' 0 S' ∧ Fr w (Fp S) w' (Fp S') := by
  by_cases d1 : dw = 1
  · exact do_appendB w h dw on nm tt pb nb cb z kp ls fl bs hnb hby hbb hn hz hzt hA hwr d1
  by_cases d2 : dw = 2
  · exact do_cutB w h dw on nm tt pb nb cb z kp ls fl bs hnb hby hbb hn hz hzt hA hwr d2
  by_cases d3 : dw = 3
  · exact do_renameB w h dw on nm tt pb nb cb z kp ls fl bs hnb hby hbb hn hz hzt hA hwr d3
  by_cases d4 : dw = 4
  · exact do_removeB w h dw on nm tt pb nb cb z kp ls fl bs hnb hby hbb hn hz hzt hA hwr d4
  by_cases d5 : dw = 5
  · exact do_syncB w h dw on nm tt pb nb cb z kp ls fl bs hnb hby hbb hn hz hzt hA hwr d5
  exact do_noneB w h dw on nm tt pb nb cb z kp ls fl bs hnb hby hbb hn hz hzt hA hwr ⟨d1, d2, d3, d4, d5⟩

end Go.Proofs.YtlandfghodfjdaaGreat

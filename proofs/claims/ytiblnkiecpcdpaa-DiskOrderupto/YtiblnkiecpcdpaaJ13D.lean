/- The law's still: what is sure behind a write. -/
import Derived.Test.YtiblnkiecpcdpaaJ13C
namespace Go.Proofs.Ytiblnkiecpcdpaa
open Go.RowKit
set_option linter.unusedVariables false
set_option linter.unusedSimpArgs false

/-- A slice that may be cut, whose block is such a one. -/
def Gv (Q : Nat → Prop) (u : Value) : Prop := ∃ (p : Option Addr) (l c : Nat), u = .slice p l c ∧ l ≤ c ∧ (p = none → c = 0) ∧ ∀ k, (Value.slice p l c).ownBlock = some k → Q k

def nilV : Value := .slice none 0 0
theorem Gv.none {Q : Nat → Prop} : Gv Q nilV := ⟨_, 0, 0, rfl, Nat.le_refl _, fun _ => rfl, fun k e => by simp [Value.ownBlock] at e⟩
theorem isBy_nil (w : World) : IsBy w nilV [] := .inl (.inl ⟨rfl, rfl⟩)

/-- Rows of bytes that lie somewhere, may be cut, and whose blocks are such ones. -/
def RowsG (w : World) (Q : Nat → Prop) (vals : List Value) (fs : List (ByteArray × List Nat)) : Prop := ∀ i, i < fs.length → IsBy w (vals.getD i nilV) (fs.getD i (.empty, [])).2 ∧ Gv Q (vals.getD i nilV)

theorem RowsG.tail {w : World} {Q : Nat → Prop} {u : Value} {us : List Value} {x : ByteArray × List Nat} {fs : List (ByteArray × List Nat)} (h : RowsG w Q (u :: us) (x :: fs)) : RowsG w Q us fs := fun i hi => by
  have := h (i + 1) (by simpa using hi)
  simpa using this

theorem look_is {w : World} {Q : Nat → Prop} (n : ByteArray) : ∀ (fs : List (ByteArray × List Nat)) (us : List Value), us.length = fs.length → RowsG w Q us fs → IsBy w ((lookF fs us n).getD nilV) (lookB fs n) ∧ Gv Q ((lookF fs us n).getD nilV)
  | [], [], _, _ => ⟨isBy_nil w, Gv.none⟩
  | x :: fs, u :: us, hl, h => by
    by_cases e : x.1 = n
    · have h0 := h 0 (by simp)
      have e1 : lookF (x :: fs) (u :: us) n = some u := if_pos e
      have e2 : lookB (x :: fs) n = x.2 := by unfold lookB; simp [List.find?, e]
      rw [e1, e2]
      exact h0
    · have e1 : lookF (x :: fs) (u :: us) n = lookF fs us n := if_neg e
      have e2 : lookB (x :: fs) n = lookB fs n := by unfold lookB; simp [List.find?, e]
      rw [e1, e2]
      exact look_is n fs us (by simpa using hl) h.tail
  | [], _ :: _, h, _ => by simp at h
  | _ :: _, [], h, _ => by simp at h

/-- What still makes of files. -/
def stillL (dw : Int) (nm tt : ByteArray) (z : Int) (fs gs : List (ByteArray × List Nat)) : List (ByteArray × List Nat) := gs.map fun g => (g.1, stillB dw nm tt z (lookB fs) g.1 g.2)

theorem stillL_take (dw : Int) (nm tt : ByteArray) (z : Int) (fs gs : List (ByteArray × List Nat)) (i : Nat) (h : i < gs.length) : stillL dw nm tt z fs (gs.take (i + 1)) = stillL dw nm tt z fs (gs.take i) ++ [((gs.getD i (.empty, [])).1, stillB dw nm tt z (lookB fs) (gs.getD i (.empty, [])).1 (gs.getD i (.empty, [])).2)] := by
  unfold stillL
  rw [List.take_add_one, List.getElem?_eq_getElem h, List.map_append]
  simp [List.getD, List.getElem?_eq_getElem h]

theorem RowsG.more {w : World} {Q : Nat → Prop} {us : List Value} {fs : List (ByteArray × List Nat)} (h : RowsG w Q us fs) (hl : us.length = fs.length) {u : Value} {x : ByteArray × List Nat} (h1 : IsBy w u x.2) (h2 : Gv Q u) : RowsG w Q (us ++ [u]) (fs ++ [x]) := fun i hi => by
  rcases Nat.lt_or_ge i fs.length with hi' | hi'
  · have e1 : (us ++ [u]).getD i nilV = us.getD i nilV := by simp [List.getD, List.getElem?_append_left (show i < us.length by omega)]
    have e2 : (fs ++ [x]).getD i (.empty, []) = fs.getD i (.empty, []) := by simp [List.getD, List.getElem?_append_left hi']
    rw [e1, e2]; exact h i hi'
  · have hi2 : i = fs.length := by simp at hi; omega
    have e1 : (us ++ [u]).getD i nilV = u := by rw [hi2, ← hl]; simp [List.getD]
    have e2 : (fs ++ [x]).getD i (.empty, []) = x := by rw [hi2]; simp [List.getD]
    rw [e1, e2]; exact ⟨h1, h2⟩

/-- While still goes on. -/
structure StI (w wa wr : World) (Q : Nat → Prop) (v : Value) (i : Nat) (us : List Value) (L : List (ByteArray × List Nat)) : Prop where
  own : wr.ownsRow wa.heap.size 45 2 v i (fcells L us)
  len : us.length = i ∧ L.length = i
  row : RowsG w Q us L
  bel : Below wa.heap.size wa wr

theorem StI.next {w wa wr w5 w6 : World} {Q : Nat → Prop} {v v6 : Value} {i : Nat} {us : List Value} {L : List (ByteArray × List Nat)} (h : StI w wa wr Q v i us L) {X : Obj} {n : ByteArray} {b : Value} {bs : List Nat} (h5 : w5.heap = wr.heap ∧ w5.os = wr.os ∧ w5.tape = wr.tape ∧ w5.output = wr.output) (hb : IsBy w b bs) (hg : Gv Q b)
    (ho : w6.ownsRow wa.heap.size 45 2 v6 (i + 1) (fcells L us ++ [.string n, b])) (hgr : (w5.alloc X).grownBy w6 v.ownBlock) : StI w wa w6 Q v6 (i + 1) (us ++ [b]) (L ++ [(n, bs)]) := by
  refine ⟨by rw [fcells_more _ _ _ _ (h.len.1.trans h.len.2.symm)]; exact ho, by simp [h.len.1, h.len.2], h.row.more (h.len.1.trans h.len.2.symm) hb hg, ?_⟩
  have hs5 : w5.heap.size = wr.heap.size := by rw [h5.1]
  have hsz : wr.heap.size ≤ w6.heap.size := by have := hgr.size; simp at this; omega
  refine ⟨hgr.os.trans (h5.2.1.trans h.bel.os), hgr.tape.trans (h5.2.2.1.trans h.bel.tape), hgr.output.trans (h5.2.2.2.trans h.bel.output), Nat.le_trans h.bel.size hsz, fun k hk => ?_⟩
  have hk2 : k < wr.heap.size := Nat.lt_of_lt_of_le hk h.bel.size
  refine ((hgr.block k (by simp; omega) fun e => ?_).trans ((Below.heap_alloc _ _ _ (by omega)).trans ?_)).trans (h.bel.block k hk)
  · have := (h.own.lt k e.symm).1; omega
  · rw [h5.1]

theorem cut_by {w : World} {p : Option Addr} {l c : Nat} {bs : List Nat} (h : IsBy w (.slice p l c) bs) (hl : l = bs.length) (k : Nat) (hk : k ≤ l) : IsBy w (.slice p k c) (bs.take k) := isBy_pre h hl k hk

set_option maxRecDepth 100000 in
set_option maxHeartbeats 8000000 in
theorem still_any (vS vN : Value) (xs ys : List Value) (fs gs : List (ByteArray × List Nat)) (dw on : Int) (nm tt : ByteArray) (pb : Option Addr) (nb cb : Nat) (z kp ls : Int) (fl : Value) (w : World) (Q : Nat → Prop) (hS : FilesR w vS xs fs) (rS : RowsG w Q xs fs) (hN : FilesR w vN ys gs) (rN : RowsG w Q ys gs) (hl : fs.length ≤ 1000000) (hl2 : gs.length ≤ 1000000) (hz : dw = 2 → 0 ≤ z) :
    Calls Try.prog 12 #[vS, vN, opV dw on nm tt (.slice pb nb cb) z kp ls fl] w fun e w' => ∃ (p : Option Addr) (m c : Nat), e = .returned (.slice p m c) ∧ ∃ us : List Value, (m = gs.length ∧ us.length = gs.length) ∧ w'.ownsRow w.heap.size 45 2 (.slice p m c) gs.length (fcells (stillL dw nm tt z fs gs) us) ∧ RowsG w Q us (stillL dw nm tt z fs gs) ∧ Below w.heap.size w w' := by
  obtain ⟨pN, cN, hvN⟩ : ∃ p c, vN = .slice p gs.length c := by obtain ⟨_, p, c, e, _⟩ := hN; exact ⟨p, c, e⟩
  obtain ⟨pS, cS, hvS⟩ : ∃ p c, vS = .slice p fs.length c := by obtain ⟨_, p, c, e, _⟩ := hS; exact ⟨p, c, e⟩
  subst hvN
  subst hvS
  have HS0 := hide hS
  have RS := hide rS
  have HN0 := hide hN
  have RN := hide rN
  have HZ := hide hz
  have HLF := hide hl
  obtain ⟨n, hn⟩ : ∃ n, gs.length = n := ⟨_, rfl⟩
  obtain ⟨nS, hnS⟩ : ∃ n, fs.length = n := ⟨_, rfl⟩
  have HL := hide hn
  have HLS := hide hnS
  rw [hn] at hl2 ⊢
  rw [hnS] at hl ⊢
  clear hS rS hN rN hz hn hnS
  unfold opV
  have HBW : Hid (Below w.heap.size w (w.alloc (.cells #[.int .i64 dw, .int .i64 on, .string nm, .string tt, .slice pb nb cb, .int .i64 z, .int .i64 kp, .int .i64 ls, fl] 36))) := (Below.refl _ _).alloc (Nat.le_refl _) _
  have HO := hide (heap_alloc_new w (.cells #[.int .i64 dw, .int .i64 on, .string nm, .string tt, .slice pb nb cb, .int .i64 z, .int .i64 kp, .int .i64 ls, fl] 36))
  go_enter Try.func12, Try.ntmps12
  go_wp2_with fail
  obtain ⟨wa, hwa⟩ : ∃ wa, w.alloc (.cells #[.int .i64 dw, .int .i64 on, .string nm, .string tt, .slice pb nb cb, .int .i64 z, .int .i64 kp, .int .i64 ls, fl] 36) = wa := ⟨_, rfl⟩
  have HSZ : Hid (w.heap.size < wa.heap.size) := by show _ < _; rw [← hwa]; simp
  rw [hwa] at HBW HO ⊢
  clear hwa
  obtain ⟨iF, hiF⟩ := infoFile
  have Hi := hide hiF
  clear hiF
  go_loopw [7, 8] (fun t7 t8 wr => ∃ (pv : Option Addr) (cv i : Nat), t7 = .slice pv i cv ∧ t8 = .int .i64 (i : Int) ∧ i ≤ n ∧ ∃ us, Hid (StI w wa wr Q (.slice pv i cv) i us (stillL dw nm tt z fs (gs.take i)))) (fun _ t8 _ => n - (intOf t8).toNat)
  case atStart => exact ⟨none, 0, 0, rfl, rfl, Nat.zero_le _, [], ⟨World.ownsRow_nil _ _ _ _, ⟨rfl, by simp [stillL]⟩, fun i hi => by simp [stillL] at hi, Below.refl _ _⟩⟩
  case round =>
    obtain ⟨pv, cv, i, rfl, rfl, hi, us, HS⟩ := hrel
    by_cases hlt : i < n
    · have hlt' : (i : Int) < (n : Int) := by omega
      have HI : Hid (i < gs.length) := by show _ < _; rw [HL.out]; exact hlt
      have HBR : Hid (Below w.heap.size w wr) := HBW.out.trans (HS.out.bel.mono HBW.out.size)
      obtain ⟨_, pN', cN', eN, hcN⟩ := HN0.out.below HBR.out
      obtain ⟨gN, oN, hpN, a1, a2⟩ := hcN i HI.out
      simp only [Value.slice.injEq] at eN
      obtain ⟨rfl, -, rfl⟩ := eN
      subst hpN
      obtain ⟨hbX, pX, lX, cX, eX, gX⟩ := RN.out i HI.out
      have HTK := hide (stillL_take dw nm tt z fs gs i HI.out)
      obtain ⟨x, hx⟩ : ∃ x, gs.getD i (.empty, []) = x := ⟨_, rfl⟩
      rw [hx] at a1 hbX HTK
      obtain ⟨nx, bx⟩ := x
      change wr.cell? _ = some (.string nx) at a1
      rw [show ys.getD i (.slice none 0 0) = .slice pX lX cX from eX] at a2
      rw [show ys.getD i nilV = .slice pX lX cX from eX] at hbX
      have HBX : Hid (IsBy w (.slice pX lX cX) bx ∧ Gv Q (.slice pX lX cX)) := ⟨hbX, pX, lX, cX, rfl, gX⟩
      obtain ⟨p0, l0, c0, e0, -⟩ := (look_is (w := w) (Q := Q) nx fs xs HS0.out.1 RS.out).2
      have HB0 : Hid (IsBy w (.slice p0 l0 c0) (lookB fs nx) ∧ Gv Q (.slice p0 l0 c0)) := by have := look_is (w := w) (Q := Q) nx fs xs HS0.out.1 RS.out; rw [e0] at this; exact this
      have HL0 : Hid (l0 = (lookB fs nx).length) := by
        obtain ⟨p', c', e, _⟩ := by_slice HB0.out.1
        simp only [Value.slice.injEq] at e
        exact e.2.1
      obtain ⟨p1, l1, c1, e1, -⟩ := (look_is (w := w) (Q := Q) nm fs xs HS0.out.1 RS.out).2
      have HB1 : Hid (IsBy w (.slice p1 l1 c1) (lookB fs nm) ∧ Gv Q (.slice p1 l1 c1)) := by have := look_is (w := w) (Q := Q) nm fs xs HS0.out.1 RS.out; rw [e1] at this; exact this
      have HFL : Hid (∀ n' w1, w1.heap = wr.heap → Calls Try.prog 33 #[.slice pS nS cS, .string n'] w1 fun e w' => (e = .returned (.tuple #[(lookF fs xs n').getD nilV, .bool (lookF fs xs n').isSome])) ∧ w'.heap = w1.heap ∧ w'.os = w1.os ∧ w'.tape = w1.tape ∧ w'.output = w1.output) := fun n' w1 h1 => by
        have hb1 : FilesR w1 (.slice pS nS cS) xs fs := by
          have h2 := HS0.out.below HBR.out
          rw [HLS.out] at h2
          obtain ⟨k1, p, c, k2, k3⟩ := h2
          refine ⟨k1, p, c, k2, fun j hj => ?_⟩
          obtain ⟨g, o, k4, k5, k6⟩ := k3 j hj
          exact ⟨g, o, k4, (World.cell?_of_block (w := wr) (w' := w1) (a := ⟨g, o + j * 2, none⟩) (by rw [h1])).trans k5, (World.cell?_of_block (w := wr) (w' := w1) (a := ⟨g, o + j * 2 + 1, none⟩) (by rw [h1])).trans k6⟩
        refine (file_any (.slice pS nS cS) xs fs n' w1 hb1 HLF.out).mono ?_
        rintro e w' ⟨rfl, N, rfl⟩
        exact ⟨rfl, rfl, rfl, rfl, rfl⟩
      have HF : Hid (Calls Try.prog 33 #[.slice pS nS cS, .string nx] wr fun e w' => (e = .returned (.tuple #[.slice p0 l0 c0, .bool (lookF fs xs nx).isSome])) ∧ w'.heap = wr.heap ∧ w'.os = wr.os ∧ w'.tape = wr.tape ∧ w'.output = wr.output) := by
        have := HFL.out nx wr rfl
        rw [e0] at this
        exact this
      have HF2 : Hid (∀ w1, w1.heap = wr.heap → Calls Try.prog 33 #[.slice pS nS cS, .string nm] w1 fun e w' => (e = .returned (.tuple #[.slice p1 l1 c1, .bool (lookF fs xs nm).isSome])) ∧ w'.heap = w1.heap ∧ w'.os = w1.os ∧ w'.tape = w1.tape ∧ w'.output = w1.output) := fun w1 h1 => by
        have := HFL.out nm w1 h1
        rw [e1] at this
        exact this
      have HQ0 : Hid (∀ w5 : World, w5.heap = wr.heap → w5.cell? ⟨w.heap.size, 0, none⟩ = some (.int .i64 dw) ∧ w5.cell? ⟨w.heap.size, 2, none⟩ = some (.string nm) ∧ w5.cell? ⟨w.heap.size, 3, none⟩ = some (.string tt) ∧ w5.cell? ⟨w.heap.size, 5, none⟩ = some (.int .i64 z) ∧ w5.cell? ⟨gN, oN + i * 2 + 1, none⟩ = some (.slice pX lX cX)) := fun w5 h5 => by
        have h6 := HO.out
        rw [← HS.out.bel.block _ HSZ.out, ← h5] at h6
        exact ⟨cell_of_row _ _ _ _ _ _ h6, cell_of_row _ _ _ _ _ _ h6, cell_of_row _ _ _ _ _ _ h6, cell_of_row _ _ _ _ _ _ h6, (World.cell?_of_block (w := wr) (w' := w5) (a := ⟨gN, oN + i * 2 + 1, none⟩) (by rw [h5])).trans a2⟩
      clear e0 e1 HFL hx eX gX hbX hcN a2
      by_cases hd : dw = 3
      · by_cases hnt : nx = tt
        · by_cases hn2 : tt = nm
          · have HQ : Hid (∀ w5 : World, w5.heap = wr.heap → w5.cell? ⟨w.heap.size, 0, none⟩ = some (.int .i64 3) ∧ w5.cell? ⟨w.heap.size, 2, none⟩ = some (.string nx) ∧ w5.cell? ⟨w.heap.size, 3, none⟩ = some (.string nx) ∧ w5.cell? ⟨w.heap.size, 5, none⟩ = some (.int .i64 z) ∧ w5.cell? ⟨gN, oN + i * 2 + 1, none⟩ = some (.slice pX lX cX)) := fun w5 h5 => by
              have hq := HQ0.out w5 h5
              rw [hd, ← hn2, ← hnt] at hq
              exact hq
            have HFIN : Hid (IsBy w (.slice p0 l0 c0) (stillB dw nm tt z (lookB fs) nx bx) ∧ Gv Q (.slice p0 l0 c0)) := by
              refine ⟨?_, HB0.out.2⟩
              rw [show stillB dw nm tt z (lookB fs) nx bx = lookB fs nx from by unfold stillB; dsimp only; rw [if_neg (show ¬ (dw = 5 ∧ nx = nm) by omega), if_neg (show ¬ (dw = 3 ∧ nx = tt ∧ ¬ tt = nm) from fun e => e.2.2 hn2), if_neg (fun e => by have := e.1; omega)]]
              exact HB0.out.1
            clear hd hnt hn2
            as_aux_lemma =>
              go_wp2_with (first
                | (go_at_call 33; refine HF.out.mono ?_; rintro e w5 ⟨he, hN⟩; subst he; have q0 : w5.cell? ⟨w.heap.size, 0, none⟩ = some (.int .i64 3) := (HQ.out w5 hN.1).1; have q2 : w5.cell? ⟨w.heap.size, 2, none⟩ = some (.string nx) := (HQ.out w5 hN.1).2.1; have q3 : w5.cell? ⟨w.heap.size, 3, none⟩ = some (.string nx) := (HQ.out w5 hN.1).2.2.1; have q5 : w5.cell? ⟨w.heap.size, 5, none⟩ = some (.int .i64 z) := (HQ.out w5 hN.1).2.2.2.1; have q6 : w5.cell? ⟨gN, oN + i * 2 + 1, none⟩ = some (.slice pX lX cX) := (HQ.out w5 hN.1).2.2.2.2; have H5 := hide hN; clear hN HF)
                | (at_builtin; refine wpList_append_own_at _ rfl _ _ _ rfl wa.heap.size 45 iF (.agg #[.string ByteArray.empty, .slice none 0 0]) 2 40 Try.underlying33 Hi.out.1 Hi.out.2.1 Hi.out.2.2.1 Hi.out.2.2.2 rfl (by decide) (.slice pv i cv) i (fcells (stillL dw nm tt z fs (gs.take i)) us) rfl ?f0 ⟨w5.heap.size, 0, none⟩ 1 1 [.string nx, .slice p0 l0 c0] rfl rfl (World.news_of_block (heap_alloc_new w5 _)) ?f1 ?f4 ?f5 ?f7 ?f6))
              case f0 => exact (ownsRow_keep HS.out.own fun g hg => by rw [H5.out.1]).alloc _
              case f1 => first | exact ⟨rfl, rfl⟩ | (intro u hu; rcases List.mem_cons.1 hu with rfl | hu; rfl; rw [List.mem_singleton.1 hu]; rfl)
              case f4 => unfold maxLen; omega
              case f5 => omega
              case f7 => have h1 := HS.out.bel.size; have h2 : w5.heap.size = wr.heap.size := (by rw [H5.out.1]); simp; omega
              case f6 =>
                intro v6 w6 ho6 hg6 _ hat6
                have hv6 : ∃ p c, v6 = .slice p (i + 1) c := by
                  rcases ho6.2 with ⟨_, e2⟩ | ⟨g', cap, cur, e1, _⟩
                  · omega
                  · exact ⟨_, _, e1⟩
                have H6 : Hid (StI w wa w6 Q v6 (i + 1) (us ++ [.slice p0 l0 c0]) (stillL dw nm tt z fs (gs.take (i + 1)))) := by
                  have := HS.out.next H5.out HFIN.out.1 HFIN.out.2 ho6 hg6
                  rw [← HTK.out] at this
                  exact this
                obtain ⟨p6, c6, hv6⟩ := hv6
                subst hv6
                clear ho6 hg6 hat6
                go_wp2_with fail
                go_roundw
                case rel => exact ⟨p6, c6, i + 1, by simp, by simp, by omega, _, H6.out⟩
                case measure => simp [intOf]; omega
          · have HQ : Hid (∀ w5 : World, w5.heap = wr.heap → w5.cell? ⟨w.heap.size, 0, none⟩ = some (.int .i64 3) ∧ w5.cell? ⟨w.heap.size, 2, none⟩ = some (.string nm) ∧ w5.cell? ⟨w.heap.size, 3, none⟩ = some (.string nx) ∧ w5.cell? ⟨w.heap.size, 5, none⟩ = some (.int .i64 z) ∧ w5.cell? ⟨gN, oN + i * 2 + 1, none⟩ = some (.slice pX lX cX)) := fun w5 h5 => by
              have hq := HQ0.out w5 h5
              rw [hd, ← hnt] at hq
              exact hq
            have HFIN : Hid (IsBy w (.slice p1 l1 c1) (stillB dw nm tt z (lookB fs) nx bx) ∧ Gv Q (.slice p1 l1 c1)) := by
              refine ⟨?_, HB1.out.2⟩
              rw [show stillB dw nm tt z (lookB fs) nx bx = lookB fs nm from by unfold stillB; dsimp only; rw [if_neg (show ¬ (dw = 5 ∧ nx = nm) by omega), if_pos (show (dw = 3 ∧ nx = tt ∧ ¬ tt = nm) from ⟨hd, hnt, hn2⟩), if_neg (fun e => by have := e.1; omega)]]
              exact HB1.out.1
            have hne := str_ne (show ¬ nx = nm by rw [hnt]; exact hn2)
            clear hd hnt hn2
            as_aux_lemma =>
              go_wp2_with (first
                | (go_at_call 33; refine HF.out.mono ?_; rintro e w5 ⟨he, hN⟩; subst he; have q0 : w5.cell? ⟨w.heap.size, 0, none⟩ = some (.int .i64 3) := (HQ.out w5 hN.1).1; have q2 : w5.cell? ⟨w.heap.size, 2, none⟩ = some (.string nm) := (HQ.out w5 hN.1).2.1; have q3 : w5.cell? ⟨w.heap.size, 3, none⟩ = some (.string nx) := (HQ.out w5 hN.1).2.2.1; have q5 : w5.cell? ⟨w.heap.size, 5, none⟩ = some (.int .i64 z) := (HQ.out w5 hN.1).2.2.2.1; have q6 : w5.cell? ⟨gN, oN + i * 2 + 1, none⟩ = some (.slice pX lX cX) := (HQ.out w5 hN.1).2.2.2.2; have H5 := hide hN; clear hN HF)
                | (go_at_call 33; refine (HF2.out w5 H5.out.1).mono ?_; rintro e w7 ⟨he, hN⟩; subst he; have r0 : w7.cell? ⟨w.heap.size, 0, none⟩ = some (.int .i64 3) := (World.cell?_of_block (w := w5) (w' := w7) (a := ⟨w.heap.size, 0, none⟩) (by rw [hN.1])).trans q0; have H7 : Hid (w7.heap = wr.heap ∧ w7.os = wr.os ∧ w7.tape = wr.tape ∧ w7.output = wr.output) := ⟨hN.1.trans H5.out.1, hN.2.1.trans H5.out.2.1, hN.2.2.1.trans H5.out.2.2.1, hN.2.2.2.trans H5.out.2.2.2⟩; clear hN HF2)
                | (simp only [hne])
                | (at_builtin; refine wpList_append_own_at _ rfl _ _ _ rfl wa.heap.size 45 iF (.agg #[.string ByteArray.empty, .slice none 0 0]) 2 40 Try.underlying33 Hi.out.1 Hi.out.2.1 Hi.out.2.2.1 Hi.out.2.2.2 rfl (by decide) (.slice pv i cv) i (fcells (stillL dw nm tt z fs (gs.take i)) us) rfl ?f0 ⟨w7.heap.size, 0, none⟩ 1 1 [.string nx, .slice p1 l1 c1] rfl rfl (World.news_of_block (heap_alloc_new w7 _)) ?f1 ?f4 ?f5 ?f7 ?f6))
              case f0 => exact (ownsRow_keep HS.out.own fun g hg => by rw [H7.out.1]).alloc _
              case f1 => first | exact ⟨rfl, rfl⟩ | (intro u hu; rcases List.mem_cons.1 hu with rfl | hu; rfl; rw [List.mem_singleton.1 hu]; rfl)
              case f4 => unfold maxLen; omega
              case f5 => omega
              case f7 => have h1 := HS.out.bel.size; have h2 : w7.heap.size = wr.heap.size := (by rw [H7.out.1]); simp; omega
              case f6 =>
                intro v6 w6 ho6 hg6 _ hat6
                have hv6 : ∃ p c, v6 = .slice p (i + 1) c := by
                  rcases ho6.2 with ⟨_, e2⟩ | ⟨g', cap, cur, e1, _⟩
                  · omega
                  · exact ⟨_, _, e1⟩
                have H6 : Hid (StI w wa w6 Q v6 (i + 1) (us ++ [.slice p1 l1 c1]) (stillL dw nm tt z fs (gs.take (i + 1)))) := by
                  have := HS.out.next H7.out HFIN.out.1 HFIN.out.2 ho6 hg6
                  rw [← HTK.out] at this
                  exact this
                obtain ⟨p6, c6, hv6⟩ := hv6
                subst hv6
                clear ho6 hg6 hat6
                go_wp2_with fail
                go_roundw
                case rel => exact ⟨p6, c6, i + 1, by simp, by simp, by omega, _, H6.out⟩
                case measure => simp [intOf]; omega
        · have HQ : Hid (∀ w5 : World, w5.heap = wr.heap → w5.cell? ⟨w.heap.size, 0, none⟩ = some (.int .i64 3) ∧ w5.cell? ⟨w.heap.size, 2, none⟩ = some (.string nm) ∧ w5.cell? ⟨w.heap.size, 3, none⟩ = some (.string tt) ∧ w5.cell? ⟨w.heap.size, 5, none⟩ = some (.int .i64 z) ∧ w5.cell? ⟨gN, oN + i * 2 + 1, none⟩ = some (.slice pX lX cX)) := fun w5 h5 => by
            have hq := HQ0.out w5 h5
            rw [hd] at hq
            exact hq
          have HFIN : Hid (IsBy w (.slice p0 l0 c0) (stillB dw nm tt z (lookB fs) nx bx) ∧ Gv Q (.slice p0 l0 c0)) := by
            refine ⟨?_, HB0.out.2⟩
            rw [show stillB dw nm tt z (lookB fs) nx bx = lookB fs nx from by unfold stillB; dsimp only; rw [if_neg (show ¬ (dw = 5 ∧ nx = nm) by omega), if_neg (show ¬ (dw = 3 ∧ nx = tt ∧ ¬ tt = nm) from fun e => hnt e.2.1), if_neg (fun e => by have := e.1; omega)]]
            exact HB0.out.1
          have hne := str_ne hnt
          clear hd hnt
          as_aux_lemma =>
            go_wp2_with (first
              | (go_at_call 33; refine HF.out.mono ?_; rintro e w5 ⟨he, hN⟩; subst he; have q0 : w5.cell? ⟨w.heap.size, 0, none⟩ = some (.int .i64 3) := (HQ.out w5 hN.1).1; have q2 : w5.cell? ⟨w.heap.size, 2, none⟩ = some (.string nm) := (HQ.out w5 hN.1).2.1; have q3 : w5.cell? ⟨w.heap.size, 3, none⟩ = some (.string tt) := (HQ.out w5 hN.1).2.2.1; have q5 : w5.cell? ⟨w.heap.size, 5, none⟩ = some (.int .i64 z) := (HQ.out w5 hN.1).2.2.2.1; have q6 : w5.cell? ⟨gN, oN + i * 2 + 1, none⟩ = some (.slice pX lX cX) := (HQ.out w5 hN.1).2.2.2.2; have H5 := hide hN; clear hN HF)
              | (simp only [hne])
              | (at_builtin; refine wpList_append_own_at _ rfl _ _ _ rfl wa.heap.size 45 iF (.agg #[.string ByteArray.empty, .slice none 0 0]) 2 40 Try.underlying33 Hi.out.1 Hi.out.2.1 Hi.out.2.2.1 Hi.out.2.2.2 rfl (by decide) (.slice pv i cv) i (fcells (stillL dw nm tt z fs (gs.take i)) us) rfl ?f0 ⟨w5.heap.size, 0, none⟩ 1 1 [.string nx, .slice p0 l0 c0] rfl rfl (World.news_of_block (heap_alloc_new w5 _)) ?f1 ?f4 ?f5 ?f7 ?f6))
            case f0 => exact (ownsRow_keep HS.out.own fun g hg => by rw [H5.out.1]).alloc _
            case f1 => first | exact ⟨rfl, rfl⟩ | (intro u hu; rcases List.mem_cons.1 hu with rfl | hu; rfl; rw [List.mem_singleton.1 hu]; rfl)
            case f4 => unfold maxLen; omega
            case f5 => omega
            case f7 => have h1 := HS.out.bel.size; have h2 : w5.heap.size = wr.heap.size := (by rw [H5.out.1]); simp; omega
            case f6 =>
              intro v6 w6 ho6 hg6 _ hat6
              have hv6 : ∃ p c, v6 = .slice p (i + 1) c := by
                rcases ho6.2 with ⟨_, e2⟩ | ⟨g', cap, cur, e1, _⟩
                · omega
                · exact ⟨_, _, e1⟩
              have H6 : Hid (StI w wa w6 Q v6 (i + 1) (us ++ [.slice p0 l0 c0]) (stillL dw nm tt z fs (gs.take (i + 1)))) := by
                have := HS.out.next H5.out HFIN.out.1 HFIN.out.2 ho6 hg6
                rw [← HTK.out] at this
                exact this
              obtain ⟨p6, c6, hv6⟩ := hv6
              subst hv6
              clear ho6 hg6 hat6
              go_wp2_with fail
              go_roundw
              case rel => exact ⟨p6, c6, i + 1, by simp, by simp, by omega, _, H6.out⟩
              case measure => simp [intOf]; omega
      by_cases hd5 : dw = 5
      · have hd := hd5
        clear hd5
        by_cases hnt : nx = nm
        · have HQ : Hid (∀ w5 : World, w5.heap = wr.heap → w5.cell? ⟨w.heap.size, 0, none⟩ = some (.int .i64 5) ∧ w5.cell? ⟨w.heap.size, 2, none⟩ = some (.string nx) ∧ w5.cell? ⟨w.heap.size, 3, none⟩ = some (.string tt) ∧ w5.cell? ⟨w.heap.size, 5, none⟩ = some (.int .i64 z) ∧ w5.cell? ⟨gN, oN + i * 2 + 1, none⟩ = some (.slice pX lX cX)) := fun w5 h5 => by
            have hq := HQ0.out w5 h5
            rw [hd, ← hnt] at hq
            exact hq
          have HFIN : Hid (IsBy w (.slice pX lX cX) (stillB dw nm tt z (lookB fs) nx bx) ∧ Gv Q (.slice pX lX cX)) := by
            refine ⟨?_, HBX.out.2⟩
            rw [show stillB dw nm tt z (lookB fs) nx bx = bx from by unfold stillB; dsimp only; rw [if_pos (show (dw = 5 ∧ nx = nm) from ⟨hd, hnt⟩), if_neg (fun e => by have := e.1; omega)]]
            exact HBX.out.1
          clear hd hnt
          as_aux_lemma =>
            go_wp2_with (first
              | (go_at_call 33; refine HF.out.mono ?_; rintro e w5 ⟨he, hN⟩; subst he; have q0 : w5.cell? ⟨w.heap.size, 0, none⟩ = some (.int .i64 5) := (HQ.out w5 hN.1).1; have q2 : w5.cell? ⟨w.heap.size, 2, none⟩ = some (.string nx) := (HQ.out w5 hN.1).2.1; have q3 : w5.cell? ⟨w.heap.size, 3, none⟩ = some (.string tt) := (HQ.out w5 hN.1).2.2.1; have q5 : w5.cell? ⟨w.heap.size, 5, none⟩ = some (.int .i64 z) := (HQ.out w5 hN.1).2.2.2.1; have q6 : w5.cell? ⟨gN, oN + i * 2 + 1, none⟩ = some (.slice pX lX cX) := (HQ.out w5 hN.1).2.2.2.2; have H5 := hide hN; clear hN HF)
              | (at_builtin; refine wpList_append_own_at _ rfl _ _ _ rfl wa.heap.size 45 iF (.agg #[.string ByteArray.empty, .slice none 0 0]) 2 40 Try.underlying33 Hi.out.1 Hi.out.2.1 Hi.out.2.2.1 Hi.out.2.2.2 rfl (by decide) (.slice pv i cv) i (fcells (stillL dw nm tt z fs (gs.take i)) us) rfl ?f0 ⟨w5.heap.size, 0, none⟩ 1 1 [.string nx, .slice pX lX cX] rfl rfl (World.news_of_block (heap_alloc_new w5 _)) ?f1 ?f4 ?f5 ?f7 ?f6))
            case f0 => exact (ownsRow_keep HS.out.own fun g hg => by rw [H5.out.1]).alloc _
            case f1 => first | exact ⟨rfl, rfl⟩ | (intro u hu; rcases List.mem_cons.1 hu with rfl | hu; rfl; rw [List.mem_singleton.1 hu]; rfl)
            case f4 => unfold maxLen; omega
            case f5 => omega
            case f7 => have h1 := HS.out.bel.size; have h2 : w5.heap.size = wr.heap.size := (by rw [H5.out.1]); simp; omega
            case f6 =>
              intro v6 w6 ho6 hg6 _ hat6
              have hv6 : ∃ p c, v6 = .slice p (i + 1) c := by
                rcases ho6.2 with ⟨_, e2⟩ | ⟨g', cap, cur, e1, _⟩
                · omega
                · exact ⟨_, _, e1⟩
              have H6 : Hid (StI w wa w6 Q v6 (i + 1) (us ++ [.slice pX lX cX]) (stillL dw nm tt z fs (gs.take (i + 1)))) := by
                have := HS.out.next H5.out HFIN.out.1 HFIN.out.2 ho6 hg6
                rw [← HTK.out] at this
                exact this
              obtain ⟨p6, c6, hv6⟩ := hv6
              subst hv6
              clear ho6 hg6 hat6
              go_wp2_with fail
              go_roundw
              case rel => exact ⟨p6, c6, i + 1, by simp, by simp, by omega, _, H6.out⟩
              case measure => simp [intOf]; omega
        · have HQ : Hid (∀ w5 : World, w5.heap = wr.heap → w5.cell? ⟨w.heap.size, 0, none⟩ = some (.int .i64 5) ∧ w5.cell? ⟨w.heap.size, 2, none⟩ = some (.string nm) ∧ w5.cell? ⟨w.heap.size, 3, none⟩ = some (.string tt) ∧ w5.cell? ⟨w.heap.size, 5, none⟩ = some (.int .i64 z) ∧ w5.cell? ⟨gN, oN + i * 2 + 1, none⟩ = some (.slice pX lX cX)) := fun w5 h5 => by
            have hq := HQ0.out w5 h5
            rw [hd] at hq
            exact hq
          have HFIN : Hid (IsBy w (.slice p0 l0 c0) (stillB dw nm tt z (lookB fs) nx bx) ∧ Gv Q (.slice p0 l0 c0)) := by
            refine ⟨?_, HB0.out.2⟩
            rw [show stillB dw nm tt z (lookB fs) nx bx = lookB fs nx from by unfold stillB; dsimp only; rw [if_neg (show ¬ (dw = 5 ∧ nx = nm) from fun e => hnt e.2), if_neg (show ¬ (dw = 3 ∧ nx = tt ∧ ¬ tt = nm) by omega), if_neg (fun e => by have := e.1; omega)]]
            exact HB0.out.1
          have hne := str_ne hnt
          clear hd hnt
          as_aux_lemma =>
            go_wp2_with (first
              | (go_at_call 33; refine HF.out.mono ?_; rintro e w5 ⟨he, hN⟩; subst he; have q0 : w5.cell? ⟨w.heap.size, 0, none⟩ = some (.int .i64 5) := (HQ.out w5 hN.1).1; have q2 : w5.cell? ⟨w.heap.size, 2, none⟩ = some (.string nm) := (HQ.out w5 hN.1).2.1; have q3 : w5.cell? ⟨w.heap.size, 3, none⟩ = some (.string tt) := (HQ.out w5 hN.1).2.2.1; have q5 : w5.cell? ⟨w.heap.size, 5, none⟩ = some (.int .i64 z) := (HQ.out w5 hN.1).2.2.2.1; have q6 : w5.cell? ⟨gN, oN + i * 2 + 1, none⟩ = some (.slice pX lX cX) := (HQ.out w5 hN.1).2.2.2.2; have H5 := hide hN; clear hN HF)
              | (simp only [hne])
              | (at_builtin; refine wpList_append_own_at _ rfl _ _ _ rfl wa.heap.size 45 iF (.agg #[.string ByteArray.empty, .slice none 0 0]) 2 40 Try.underlying33 Hi.out.1 Hi.out.2.1 Hi.out.2.2.1 Hi.out.2.2.2 rfl (by decide) (.slice pv i cv) i (fcells (stillL dw nm tt z fs (gs.take i)) us) rfl ?f0 ⟨w5.heap.size, 0, none⟩ 1 1 [.string nx, .slice p0 l0 c0] rfl rfl (World.news_of_block (heap_alloc_new w5 _)) ?f1 ?f4 ?f5 ?f7 ?f6))
            case f0 => exact (ownsRow_keep HS.out.own fun g hg => by rw [H5.out.1]).alloc _
            case f1 => first | exact ⟨rfl, rfl⟩ | (intro u hu; rcases List.mem_cons.1 hu with rfl | hu; rfl; rw [List.mem_singleton.1 hu]; rfl)
            case f4 => unfold maxLen; omega
            case f5 => omega
            case f7 => have h1 := HS.out.bel.size; have h2 : w5.heap.size = wr.heap.size := (by rw [H5.out.1]); simp; omega
            case f6 =>
              intro v6 w6 ho6 hg6 _ hat6
              have hv6 : ∃ p c, v6 = .slice p (i + 1) c := by
                rcases ho6.2 with ⟨_, e2⟩ | ⟨g', cap, cur, e1, _⟩
                · omega
                · exact ⟨_, _, e1⟩
              have H6 : Hid (StI w wa w6 Q v6 (i + 1) (us ++ [.slice p0 l0 c0]) (stillL dw nm tt z fs (gs.take (i + 1)))) := by
                have := HS.out.next H5.out HFIN.out.1 HFIN.out.2 ho6 hg6
                rw [← HTK.out] at this
                exact this
              obtain ⟨p6, c6, hv6⟩ := hv6
              subst hv6
              clear ho6 hg6 hat6
              go_wp2_with fail
              go_roundw
              case rel => exact ⟨p6, c6, i + 1, by simp, by simp, by omega, _, H6.out⟩
              case measure => simp [intOf]; omega
      by_cases hd2 : dw = 2
      · have hd := hd2
        clear hd2
        by_cases hnt : nx = nm
        · obtain ⟨zn, hzn⟩ : ∃ zn : Nat, z = (zn : Int) := ⟨z.toNat, by have := HZ.out hd; omega⟩
          by_cases hlt0 : zn < l0
          · have HQ : Hid (∀ w5 : World, w5.heap = wr.heap → w5.cell? ⟨w.heap.size, 0, none⟩ = some (.int .i64 2) ∧ w5.cell? ⟨w.heap.size, 2, none⟩ = some (.string nx) ∧ w5.cell? ⟨w.heap.size, 3, none⟩ = some (.string tt) ∧ w5.cell? ⟨w.heap.size, 5, none⟩ = some (.int .i64 (zn : Int)) ∧ w5.cell? ⟨gN, oN + i * 2 + 1, none⟩ = some (.slice pX lX cX)) := fun w5 h5 => by
              have hq := HQ0.out w5 h5
              rw [hd, ← hnt, hzn] at hq
              exact hq
            have HFIN : Hid (IsBy w (.slice p0 zn c0) (stillB dw nm tt z (lookB fs) nx bx) ∧ Gv Q (.slice p0 zn c0)) := by
              have hl0 := HL0.out
              refine ⟨?_, ?_⟩
              · rw [show stillB dw nm tt z (lookB fs) nx bx = (lookB fs nx).take zn from by
                  unfold stillB
                  dsimp only
                  rw [if_neg (show ¬ (dw = 5 ∧ nx = nm) by omega), if_neg (show ¬ (dw = 3 ∧ nx = tt ∧ ¬ tt = nm) by omega), if_pos ⟨hd, hnt, by rw [hzn, ← hl0]; omega⟩, hzn]; simp]
                exact cut_by HB0.out.1 hl0 zn (by omega)
              · obtain ⟨p', l', c', e, h1, h2, h3⟩ := HB0.out.2
                simp only [Value.slice.injEq] at e
                obtain ⟨rfl, rfl, rfl⟩ := e
                exact ⟨_, zn, _, rfl, by omega, h2, fun k hk => h3 k (by
                  cases p0 with
                  | none => simp [Value.ownBlock] at hk
                  | some a => simpa [Value.ownBlock] using hk)⟩
            have hzc : zn ≤ c0 := by
              obtain ⟨p', l', c', e, h1, h2, h3⟩ := HB0.out.2
              simp only [Value.slice.injEq] at e
              omega
            have hlt0' : (zn : Int) < (l0 : Int) := by omega
            clear hd hnt hzn hlt0
            as_aux_lemma =>
              go_wp2_with (first
                | (go_at_call 33; refine HF.out.mono ?_; rintro e w5 ⟨he, hN⟩; subst he; have q0 : w5.cell? ⟨w.heap.size, 0, none⟩ = some (.int .i64 2) := (HQ.out w5 hN.1).1; have q2 : w5.cell? ⟨w.heap.size, 2, none⟩ = some (.string nx) := (HQ.out w5 hN.1).2.1; have q3 : w5.cell? ⟨w.heap.size, 3, none⟩ = some (.string tt) := (HQ.out w5 hN.1).2.2.1; have q5 : w5.cell? ⟨w.heap.size, 5, none⟩ = some (.int .i64 (zn : Int)) := (HQ.out w5 hN.1).2.2.2.1; have q6 : w5.cell? ⟨gN, oN + i * 2 + 1, none⟩ = some (.slice pX lX cX) := (HQ.out w5 hN.1).2.2.2.2; have H5 := hide hN; clear hN HF)
                | (at_builtin; refine wpList_append_own_at _ rfl _ _ _ rfl wa.heap.size 45 iF (.agg #[.string ByteArray.empty, .slice none 0 0]) 2 40 Try.underlying33 Hi.out.1 Hi.out.2.1 Hi.out.2.2.1 Hi.out.2.2.2 rfl (by decide) (.slice pv i cv) i (fcells (stillL dw nm tt z fs (gs.take i)) us) rfl ?f0 ⟨w5.heap.size, 0, none⟩ 1 1 [.string nx, .slice p0 zn c0] rfl rfl (World.news_of_block (heap_alloc_new w5 _)) ?f1 ?f4 ?f5 ?f7 ?f6))
              case f0 => exact (ownsRow_keep HS.out.own fun g hg => by rw [H5.out.1]).alloc _
              case f1 => first | exact ⟨rfl, rfl⟩ | (intro u hu; rcases List.mem_cons.1 hu with rfl | hu; rfl; rw [List.mem_singleton.1 hu]; rfl)
              case f4 => unfold maxLen; omega
              case f5 => omega
              case f7 => have h1 := HS.out.bel.size; have h2 : w5.heap.size = wr.heap.size := (by rw [H5.out.1]); simp; omega
              case f6 =>
                intro v6 w6 ho6 hg6 _ hat6
                have hv6 : ∃ p c, v6 = .slice p (i + 1) c := by
                  rcases ho6.2 with ⟨_, e2⟩ | ⟨g', cap, cur, e1, _⟩
                  · omega
                  · exact ⟨_, _, e1⟩
                have H6 : Hid (StI w wa w6 Q v6 (i + 1) (us ++ [.slice p0 zn c0]) (stillL dw nm tt z fs (gs.take (i + 1)))) := by
                  have := HS.out.next H5.out HFIN.out.1 HFIN.out.2 ho6 hg6
                  rw [← HTK.out] at this
                  exact this
                obtain ⟨p6, c6, hv6⟩ := hv6
                subst hv6
                clear ho6 hg6 hat6
                go_wp2_with fail
                go_roundw
                case rel => exact ⟨p6, c6, i + 1, by simp, by simp, by omega, _, H6.out⟩
                case measure => simp [intOf]; omega
          · have HQ : Hid (∀ w5 : World, w5.heap = wr.heap → w5.cell? ⟨w.heap.size, 0, none⟩ = some (.int .i64 2) ∧ w5.cell? ⟨w.heap.size, 2, none⟩ = some (.string nx) ∧ w5.cell? ⟨w.heap.size, 3, none⟩ = some (.string tt) ∧ w5.cell? ⟨w.heap.size, 5, none⟩ = some (.int .i64 z) ∧ w5.cell? ⟨gN, oN + i * 2 + 1, none⟩ = some (.slice pX lX cX)) := fun w5 h5 => by
              have hq := HQ0.out w5 h5
              rw [hd, ← hnt] at hq
              exact hq
            have HFIN : Hid (IsBy w (.slice p0 l0 c0) (stillB dw nm tt z (lookB fs) nx bx) ∧ Gv Q (.slice p0 l0 c0)) := by
              have hl0 := HL0.out
              refine ⟨?_, HB0.out.2⟩
              rw [show stillB dw nm tt z (lookB fs) nx bx = lookB fs nx from by unfold stillB; dsimp only; rw [if_neg (show ¬ (dw = 5 ∧ nx = nm) by omega), if_neg (show ¬ (dw = 3 ∧ nx = tt ∧ ¬ tt = nm) by omega), if_neg (fun e => by have := e.2.2; rw [← hl0] at this; omega)]]
              exact HB0.out.1
            have hlt0' : ¬ z < (l0 : Int) := by rw [hzn]; omega
            clear hd hnt hzn hlt0
            as_aux_lemma =>
              go_wp2_with (first
                | (go_at_call 33; refine HF.out.mono ?_; rintro e w5 ⟨he, hN⟩; subst he; have q0 : w5.cell? ⟨w.heap.size, 0, none⟩ = some (.int .i64 2) := (HQ.out w5 hN.1).1; have q2 : w5.cell? ⟨w.heap.size, 2, none⟩ = some (.string nx) := (HQ.out w5 hN.1).2.1; have q3 : w5.cell? ⟨w.heap.size, 3, none⟩ = some (.string tt) := (HQ.out w5 hN.1).2.2.1; have q5 : w5.cell? ⟨w.heap.size, 5, none⟩ = some (.int .i64 z) := (HQ.out w5 hN.1).2.2.2.1; have q6 : w5.cell? ⟨gN, oN + i * 2 + 1, none⟩ = some (.slice pX lX cX) := (HQ.out w5 hN.1).2.2.2.2; have H5 := hide hN; clear hN HF)
                | (at_builtin; refine wpList_append_own_at _ rfl _ _ _ rfl wa.heap.size 45 iF (.agg #[.string ByteArray.empty, .slice none 0 0]) 2 40 Try.underlying33 Hi.out.1 Hi.out.2.1 Hi.out.2.2.1 Hi.out.2.2.2 rfl (by decide) (.slice pv i cv) i (fcells (stillL dw nm tt z fs (gs.take i)) us) rfl ?f0 ⟨w5.heap.size, 0, none⟩ 1 1 [.string nx, .slice p0 l0 c0] rfl rfl (World.news_of_block (heap_alloc_new w5 _)) ?f1 ?f4 ?f5 ?f7 ?f6))
              case f0 => exact (ownsRow_keep HS.out.own fun g hg => by rw [H5.out.1]).alloc _
              case f1 => first | exact ⟨rfl, rfl⟩ | (intro u hu; rcases List.mem_cons.1 hu with rfl | hu; rfl; rw [List.mem_singleton.1 hu]; rfl)
              case f4 => unfold maxLen; omega
              case f5 => omega
              case f7 => have h1 := HS.out.bel.size; have h2 : w5.heap.size = wr.heap.size := (by rw [H5.out.1]); simp; omega
              case f6 =>
                intro v6 w6 ho6 hg6 _ hat6
                have hv6 : ∃ p c, v6 = .slice p (i + 1) c := by
                  rcases ho6.2 with ⟨_, e2⟩ | ⟨g', cap, cur, e1, _⟩
                  · omega
                  · exact ⟨_, _, e1⟩
                have H6 : Hid (StI w wa w6 Q v6 (i + 1) (us ++ [.slice p0 l0 c0]) (stillL dw nm tt z fs (gs.take (i + 1)))) := by
                  have := HS.out.next H5.out HFIN.out.1 HFIN.out.2 ho6 hg6
                  rw [← HTK.out] at this
                  exact this
                obtain ⟨p6, c6, hv6⟩ := hv6
                subst hv6
                clear ho6 hg6 hat6
                go_wp2_with fail
                go_roundw
                case rel => exact ⟨p6, c6, i + 1, by simp, by simp, by omega, _, H6.out⟩
                case measure => simp [intOf]; omega
        · have HQ : Hid (∀ w5 : World, w5.heap = wr.heap → w5.cell? ⟨w.heap.size, 0, none⟩ = some (.int .i64 2) ∧ w5.cell? ⟨w.heap.size, 2, none⟩ = some (.string nm) ∧ w5.cell? ⟨w.heap.size, 3, none⟩ = some (.string tt) ∧ w5.cell? ⟨w.heap.size, 5, none⟩ = some (.int .i64 z) ∧ w5.cell? ⟨gN, oN + i * 2 + 1, none⟩ = some (.slice pX lX cX)) := fun w5 h5 => by
            have hq := HQ0.out w5 h5
            rw [hd] at hq
            exact hq
          have HFIN : Hid (IsBy w (.slice p0 l0 c0) (stillB dw nm tt z (lookB fs) nx bx) ∧ Gv Q (.slice p0 l0 c0)) := by
            refine ⟨?_, HB0.out.2⟩
            rw [show stillB dw nm tt z (lookB fs) nx bx = lookB fs nx from by unfold stillB; dsimp only; rw [if_neg (show ¬ (dw = 5 ∧ nx = nm) by omega), if_neg (show ¬ (dw = 3 ∧ nx = tt ∧ ¬ tt = nm) by omega), if_neg fun e => hnt e.2.1]]
            exact HB0.out.1
          have hne := str_ne hnt
          clear hd hnt
          as_aux_lemma =>
            go_wp2_with (first
              | (go_at_call 33; refine HF.out.mono ?_; rintro e w5 ⟨he, hN⟩; subst he; have q0 : w5.cell? ⟨w.heap.size, 0, none⟩ = some (.int .i64 2) := (HQ.out w5 hN.1).1; have q2 : w5.cell? ⟨w.heap.size, 2, none⟩ = some (.string nm) := (HQ.out w5 hN.1).2.1; have q3 : w5.cell? ⟨w.heap.size, 3, none⟩ = some (.string tt) := (HQ.out w5 hN.1).2.2.1; have q5 : w5.cell? ⟨w.heap.size, 5, none⟩ = some (.int .i64 z) := (HQ.out w5 hN.1).2.2.2.1; have q6 : w5.cell? ⟨gN, oN + i * 2 + 1, none⟩ = some (.slice pX lX cX) := (HQ.out w5 hN.1).2.2.2.2; have H5 := hide hN; clear hN HF)
              | (simp only [hne])
              | (at_builtin; refine wpList_append_own_at _ rfl _ _ _ rfl wa.heap.size 45 iF (.agg #[.string ByteArray.empty, .slice none 0 0]) 2 40 Try.underlying33 Hi.out.1 Hi.out.2.1 Hi.out.2.2.1 Hi.out.2.2.2 rfl (by decide) (.slice pv i cv) i (fcells (stillL dw nm tt z fs (gs.take i)) us) rfl ?f0 ⟨w5.heap.size, 0, none⟩ 1 1 [.string nx, .slice p0 l0 c0] rfl rfl (World.news_of_block (heap_alloc_new w5 _)) ?f1 ?f4 ?f5 ?f7 ?f6))
            case f0 => exact (ownsRow_keep HS.out.own fun g hg => by rw [H5.out.1]).alloc _
            case f1 => first | exact ⟨rfl, rfl⟩ | (intro u hu; rcases List.mem_cons.1 hu with rfl | hu; rfl; rw [List.mem_singleton.1 hu]; rfl)
            case f4 => unfold maxLen; omega
            case f5 => omega
            case f7 => have h1 := HS.out.bel.size; have h2 : w5.heap.size = wr.heap.size := (by rw [H5.out.1]); simp; omega
            case f6 =>
              intro v6 w6 ho6 hg6 _ hat6
              have hv6 : ∃ p c, v6 = .slice p (i + 1) c := by
                rcases ho6.2 with ⟨_, e2⟩ | ⟨g', cap, cur, e1, _⟩
                · omega
                · exact ⟨_, _, e1⟩
              have H6 : Hid (StI w wa w6 Q v6 (i + 1) (us ++ [.slice p0 l0 c0]) (stillL dw nm tt z fs (gs.take (i + 1)))) := by
                have := HS.out.next H5.out HFIN.out.1 HFIN.out.2 ho6 hg6
                rw [← HTK.out] at this
                exact this
              obtain ⟨p6, c6, hv6⟩ := hv6
              subst hv6
              clear ho6 hg6 hat6
              go_wp2_with fail
              go_roundw
              case rel => exact ⟨p6, c6, i + 1, by simp, by simp, by omega, _, H6.out⟩
              case measure => simp [intOf]; omega
      have HQ : Hid (∀ w5 : World, w5.heap = wr.heap → w5.cell? ⟨w.heap.size, 0, none⟩ = some (.int .i64 dw) ∧ w5.cell? ⟨w.heap.size, 2, none⟩ = some (.string nm) ∧ w5.cell? ⟨w.heap.size, 3, none⟩ = some (.string tt) ∧ w5.cell? ⟨w.heap.size, 5, none⟩ = some (.int .i64 z) ∧ w5.cell? ⟨gN, oN + i * 2 + 1, none⟩ = some (.slice pX lX cX)) := fun w5 h5 => by
        have hq := HQ0.out w5 h5
        skip
        exact hq
      have HFIN : Hid (IsBy w (.slice p0 l0 c0) (stillB dw nm tt z (lookB fs) nx bx) ∧ Gv Q (.slice p0 l0 c0)) := by
        refine ⟨?_, HB0.out.2⟩
        rw [show stillB dw nm tt z (lookB fs) nx bx = lookB fs nx from by unfold stillB; dsimp only; rw [if_neg (show ¬ (dw = 5 ∧ nx = nm) by omega), if_neg (show ¬ (dw = 3 ∧ nx = tt ∧ ¬ tt = nm) by omega), if_neg (fun e => by have := e.1; omega)]]
        exact HB0.out.1
      skip
      as_aux_lemma =>
        go_wp2_with (first
          | (go_at_call 33; refine HF.out.mono ?_; rintro e w5 ⟨he, hN⟩; subst he; have q0 : w5.cell? ⟨w.heap.size, 0, none⟩ = some (.int .i64 dw) := (HQ.out w5 hN.1).1; have q2 : w5.cell? ⟨w.heap.size, 2, none⟩ = some (.string nm) := (HQ.out w5 hN.1).2.1; have q3 : w5.cell? ⟨w.heap.size, 3, none⟩ = some (.string tt) := (HQ.out w5 hN.1).2.2.1; have q5 : w5.cell? ⟨w.heap.size, 5, none⟩ = some (.int .i64 z) := (HQ.out w5 hN.1).2.2.2.1; have q6 : w5.cell? ⟨gN, oN + i * 2 + 1, none⟩ = some (.slice pX lX cX) := (HQ.out w5 hN.1).2.2.2.2; have H5 := hide hN; clear hN HF)
          | (at_builtin; refine wpList_append_own_at _ rfl _ _ _ rfl wa.heap.size 45 iF (.agg #[.string ByteArray.empty, .slice none 0 0]) 2 40 Try.underlying33 Hi.out.1 Hi.out.2.1 Hi.out.2.2.1 Hi.out.2.2.2 rfl (by decide) (.slice pv i cv) i (fcells (stillL dw nm tt z fs (gs.take i)) us) rfl ?f0 ⟨w5.heap.size, 0, none⟩ 1 1 [.string nx, .slice p0 l0 c0] rfl rfl (World.news_of_block (heap_alloc_new w5 _)) ?f1 ?f4 ?f5 ?f7 ?f6))
        case f0 => exact (ownsRow_keep HS.out.own fun g hg => by rw [H5.out.1]).alloc _
        case f1 => first | exact ⟨rfl, rfl⟩ | (intro u hu; rcases List.mem_cons.1 hu with rfl | hu; rfl; rw [List.mem_singleton.1 hu]; rfl)
        case f4 => unfold maxLen; omega
        case f5 => omega
        case f7 => have h1 := HS.out.bel.size; have h2 : w5.heap.size = wr.heap.size := (by rw [H5.out.1]); simp; omega
        case f6 =>
          intro v6 w6 ho6 hg6 _ hat6
          have hv6 : ∃ p c, v6 = .slice p (i + 1) c := by
            rcases ho6.2 with ⟨_, e2⟩ | ⟨g', cap, cur, e1, _⟩
            · omega
            · exact ⟨_, _, e1⟩
          have H6 : Hid (StI w wa w6 Q v6 (i + 1) (us ++ [.slice p0 l0 c0]) (stillL dw nm tt z fs (gs.take (i + 1)))) := by
            have := HS.out.next H5.out HFIN.out.1 HFIN.out.2 ho6 hg6
            rw [← HTK.out] at this
            exact this
          obtain ⟨p6, c6, hv6⟩ := hv6
          subst hv6
          clear ho6 hg6 hat6
          go_wp2_with fail
          go_roundw
          case rel => exact ⟨p6, c6, i + 1, by simp, by simp, by omega, _, H6.out⟩
          case measure => simp [intOf]; omega
    · have hlt' : ¬ (i : Int) < (n : Int) := by omega
      have HE : Hid (i = n) := by show _ = _; omega
      have HR : Hid (stillL dw nm tt z fs (gs.take i) = stillL dw nm tt z fs gs) := by show _ = _; rw [List.take_of_length_le (by have := HL.out; omega)]
      go_wp2_with fail
      go_ret
      have hs := HS.out
      rw [HR.out] at hs
      refine ⟨pv, i, cv, rfl, us, ⟨HE.out, by rw [← HE.out]; exact hs.len.1⟩, ?_, hs.row, HBW.out.trans (hs.bel.mono HBW.out.size)⟩
      have := own_low hs.own HBW.out.size
      rw [HE.out] at this ⊢
      exact this

end Go.Proofs.Ytiblnkiecpcdpaa

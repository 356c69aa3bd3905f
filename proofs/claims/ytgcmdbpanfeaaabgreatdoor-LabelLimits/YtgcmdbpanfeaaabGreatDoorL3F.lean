/- A label, read. -/
import Derived.Test.YtgcmdbpanfeaaabGreatDoorL3C
import Derived.Test.YtgcmdbpanfeaaabGreatDoorL2E
namespace Go.Proofs.YtgcmdbpanfeaaabGreatDoor
open Go.RowKit
set_option linter.unusedVariables false
set_option linter.unusedSimpArgs false

/-- A label read from place a on, and where the reader stands then. -/
def labF (l : List Nat) (a : Nat) : Option (List Nat × List Nat) × Nat :=
  if skipB l a < l.length ∧ mayB (l.getD (skipB l a) 0) = true then
    if nextB l (skipB l a + nameN (l.drop (skipB l a))) 61 = true then
      match unqL (l.drop (skipB l (skipB l (skipB l a + nameN (l.drop (skipB l a))) + 1))) with
      | some p => (some ((l.drop (skipB l a)).take (nameN (l.drop (skipB l a))), p.1), skipB l (skipB l (skipB l a + nameN (l.drop (skipB l a))) + 1) + p.2)
      | none => (none, skipB l (skipB l (skipB l a + nameN (l.drop (skipB l a))) + 1))
    else (none, skipB l (skipB l a + nameN (l.drop (skipB l a))))
  else (none, skipB l a)

theorem results_labB {fn : Func} {p u : Tmp} (h : fn.results = #[.cell p 34, .tmp u]) (tmps : Array Value) (w : World) (g : Nat) (hp : tmps.getD p undef = .pointer (some ⟨g, 0, none⟩)) (x y : Value)
    (c0 : w.cell? ⟨g, 0, none⟩ = some x) (c1 : w.cell? ⟨g, 1, none⟩ = some y) : (results fn tmps).run Tryz.prog w = .ok (.tuple #[.agg #[x, y], tmps.getD u undef]) w := by
  rw [results_cell_tmp h, hp]
  simp [asAddr, load_lab w g 0 x y c0 c1, Result.andThen]

theorem Row2.c0 {w : World} {k : Nat} {x y : Value} {t : TypeId} (h : w.heap[k]? = some (.cells #[x, y] t)) : w.cell? ⟨k, 0, none⟩ = some x := by rw [cell_of_row w k 0 _ _ (0, 0) h]; rfl
theorem Row2.c1 {w : World} {k : Nat} {x y : Value} {t : TypeId} (h : w.heap[k]? = some (.cells #[x, y] t)) : w.cell? ⟨k, 1, none⟩ = some y := by rw [cell_of_row w k 1 _ _ (0, 0) h]; rfl
theorem Row2.f {w : World} {k : Nat} {x y : Value} {t : TypeId} (h : w.heap[k]? = some (.cells #[x, y] t)) (j : Nat) : w.frozen? ⟨k, j, none⟩ = false := frozen_of_row _ _ _ _ _ h

theorem nameN_le (l : List Nat) : nameN l ≤ l.length := (List.takeWhile_sublist _).length_le

/-- What is told of a label. -/
def AnsL (R : Option (List Nat × List Nat)) (e : Ending) : Prop :=
  match R with
  | some p => e = .returned (.tuple #[.agg #[.string (strOf p.1), .string (strOf p.2)], .bool true])
  | none => ∃ x y, e = .returned (.tuple #[.agg #[.string x, .string y], .bool false])

theorem unqL_pos {l : List Nat} {p : List Nat × Nat} (h : unqL l = some p) : 0 < p.2 := by
  unfold unqL at h
  split at h
  · rw [Option.map_eq_some_iff] at h
    obtain ⟨q, _, rfl⟩ := h
    simp
  · simp at h

theorem letL_le {l : List Nat} {x n : Nat} (h : letL l = some (x, n)) : n ≤ l.length := by
  cases l with
  | nil => simp [letL] at h
  | cons c r =>
    simp only [letL] at h
    split at h
    · split at h
      · simp at h; simp; omega
      · simp at h
    · cases r with
      | nil => simp at h
      | cons d r2 =>
        simp only at h
        split at h
        · simp at h; simp; omega
        · split at h
          · simp at h; simp; omega
          · split at h
            · match r2, h with
              | [], h => simp [hex2] at h
              | [_], h => simp [hex2] at h
              | a :: b :: r3, h =>
                cases hx : hex2 (a :: b :: r3) with
                | none => rw [hx] at h; simp at h
                | some y => rw [hx] at h; simp at h; simp; omega
            · simp at h

theorem unqF_le : ∀ (f : Nat) (l : List Nat) (p : List Nat × Nat), unqF f l = some p → p.2 ≤ l.length
  | 0, l, p, h => by simp [unqF] at h
  | f + 1, [], p, h => by simp [unqF] at h
  | f + 1, c :: r, p, h => by
    rw [unqF] at h
    split at h
    · simp at h; rw [← h]; simp
    · cases hl : letL (c :: r) with
      | none => rw [hl] at h; simp at h
      | some y =>
        obtain ⟨x, n⟩ := y
        have hn := letL_le hl
        rw [hl, Option.bind_some, Option.map_eq_some_iff] at h
        obtain ⟨q, hq, rfl⟩ := h
        have := unqF_le f _ q hq
        rw [List.length_drop] at this
        dsimp only at this ⊢
        omega

theorem unqL_le {l : List Nat} {p : List Nat × Nat} (h : unqL l = some p) : p.2 ≤ l.length := by
  unfold unqL at h
  split at h
  · rename_i hh
    rw [Option.map_eq_some_iff] at h
    obtain ⟨q, hq, rfl⟩ := h
    have := unqF_le _ _ q hq
    cases l with
    | nil => simp at hh
    | cons a r => simp at this ⊢; omega
  · simp at h

theorem conv_nil (w : World) : (convert 42 9 (.slice none 0 0)).run Tryz.prog w = .ok (.string ⟨#[]⟩) w := convert_bytes w _ [] (.inl ⟨rfl, rfl⟩)

theorem conv_set {w5 w6 : World} {g : Nat} {bs : List Nat} {v : Value} (ho : OB w5.heap.size w5 bs v w6) (x : Int) (hg : g < w5.heap.size) : (convert 42 9 v).run Tryz.prog (w6.setCell ⟨g, 1, none⟩ (.int .i64 x)) = .ok (.string (strOf bs)) (w6.setCell ⟨g, 1, none⟩ (.int .i64 x)) := by
  have ob : OB w5.heap.size (w6.setCell ⟨g, 1, none⟩ (.int .i64 x)) bs v (w6.setCell ⟨g, 1, none⟩ (.int .i64 x)) :=
    ⟨ownsRow_keep ho.own fun k hk => Below.heap_setCell w6 ⟨g, 1, none⟩ _ k (by have := (ho.own.lt k hk).1; simp; omega), Below.refl _ _, by simp [World.setCell]; exact ho.bel.size⟩
  exact convert_by _ v bs ob.by_

theorem ends_lab {g q P : Nat} {s : ByteArray} {w W w3 : World} {R : Option (List Nat × List Nat)} {fn : Func} {a : Act} {x y u v : Value} (hfn : fn.results = #[.cell 2 34, .tmp 3]) (hd : a.defers = []) (hp : a.tmps.getD 2 undef = .pointer (some ⟨q, 0, none⟩))
    (hB : Below w.heap.size w W) (hq : w.heap.size ≤ q) (hg : g < w.heap.size) (hr : RD w3 g s P) (hc : Ch g W w3) (c0 : w3.cell? ⟨q, 0, none⟩ = some u) (c1 : w3.cell? ⟨q, 1, none⟩ = some v)
    (hA : AnsL R (.returned (.tuple #[.agg #[x, y], a.tmps.getD 3 undef]))) :
    bodyPost Tryz.prog fn (fun e w' => AnsL R e ∧ RD w' g s P ∧ Ch g w w') .ret a ((w3.setCell ⟨q, 0, none⟩ x).setCell ⟨q, 1, none⟩ y) := by
  refine bodyPost_ret (results_labB hfn a.tmps _ q hp x y ?_ ?_) hd ⟨hA, ⟨?_⟩, ?_⟩
  · rw [cell_setCell_ne _ _ _ _ _ (by decide), cell_setCell_eq _ _ _ _ _ c0]
  · rw [cell_setCell_eq _ _ _ _ v (by rw [cell_setCell_ne _ _ _ _ _ (by decide)]; exact c1)]
  · rw [Below.heap_setCell _ ⟨q, 1, none⟩ _ g (by simp; omega), Below.heap_setCell _ ⟨q, 0, none⟩ _ g (by simp; omega)]; exact hr.row
  · have h1 : Ch g w w3 := (Ch.of hB).trans hc
    refine ⟨h1.os, h1.tape, h1.output, by simp [World.setCell]; exact h1.size, fun k hk hne => ?_⟩
    rw [Below.heap_setCell _ ⟨q, 1, none⟩ _ k (by simp; omega), Below.heap_setCell _ ⟨q, 0, none⟩ _ k (by simp; omega)]
    exact h1.blk k hk hne

set_option maxRecDepth 100000 in
set_option maxHeartbeats 2000000 in
theorem label_any (g : Nat) (s : ByteArray) (a : Nat) (w : World) (h : RD w g s a) (ha : a ≤ s.size) (hs : s.size ≤ 1000000000) (hE : ES w) (hgE : g ≠ 3) :
    Calls Tryz.prog 47 #[.pointer (some ⟨g, 0, none⟩)] w fun e w' => AnsL (labF (bytesN s) a).1 e ∧ RD w' g s (labF (bytesN s) a).2 ∧ Ch g w w' := by
  have HR := hide h
  have hgl : g < w.heap.size := size_lt_of_row h.row
  obtain ⟨W, hW⟩ : ∃ W, w.alloc (.cells #[.string ⟨#[]⟩, .string ⟨#[]⟩] 34) = W := ⟨_, rfl⟩
  have HB0 : Hid (Below w.heap.size w W ∧ W.heap.size = w.heap.size + 1 ∧ RD W g s a) := by rw [← hW]; exact ⟨(Below.refl _ _).alloc (Nat.le_refl _) _, by simp, h.below ((Below.refl _ _).alloc (Nat.le_refl _) _)⟩
  have HF : Hid (∀ w', Ch g W w' → w'.heap[w.heap.size]? = some (.cells #[.string ⟨#[]⟩, .string ⟨#[]⟩] 34)) := by
    intro w' hc
    rw [hc.blk w.heap.size (by rw [HB0.out.2.1]; omega) (by omega), ← hW]
    exact heap_alloc_new w _
  have HES : Hid (∀ w', Ch g W w' → ES w') := by
    intro w' hc
    obtain ⟨ev, h1, h2⟩ := hE.below HB0.out.1
    have hlt := block_lt_of_cell h1
    exact ⟨ev, by rw [World.cell?_of_block (w := W) (hc.blk _ hlt (fun e => hgE e.symm))]; exact h1, h2⟩
  have HRs : Hid (∀ w' b, RD w' g s b → b ≤ s.size → Calls Tryz.prog 48 #[.pointer (some ⟨g, 0, none⟩)] w' fun e w2 => e = .returned (.string (s.extract (skipB (bytesN s) b) s.size)) ∧ RD w2 g s (skipB (bytesN s) b) ∧ Ch g w' w2) := fun w' b h hb => rest_any g s b w' h hb hs
  have HTk : Hid (∀ w' b, RD w' g s b → b ≤ s.size → Calls Tryz.prog 46 #[.pointer (some ⟨g, 0, none⟩), .int .u8 61] w' fun e w2 => e = .returned (.bool (nextB (bytesN s) b 61)) ∧ RD w2 g s (if nextB (bytesN s) b 61 = true then skipB (bytesN s) b + 1 else skipB (bytesN s) b) ∧ Ch g w' w2) := fun w' b h hb => take_any g s b 61 w' h hb hs
  have hA := skipB_le (bytesN s) a (by rw [bytesN_length]; exact ha)
  rw [bytesN_length] at hA
  have HRs1 := hide (HRs.out W a HB0.out.2.2 ha)
  obtain ⟨LF, hLF⟩ : ∃ LF, labF (bytesN s) a = LF := ⟨_, rfl⟩
  have HLF : Hid (labF (bytesN s) a = LF) := hLF
  have hdef : labF (bytesN s) a = labF (bytesN s) a := rfl
  conv at hdef => rhs; unfold labF
  rw [bytesN_length, hLF] at hdef
  rw [hLF]
  obtain ⟨A, hAA⟩ : ∃ A, skipB (bytesN s) a = A := ⟨_, rfl⟩
  rw [hAA] at hA HRs1 hdef
  clear h hE hLF hAA
  by_cases hlt : A < s.size
  · obtain ⟨x, hx⟩ : ∃ x, (bytesN s).getD A 0 = x := ⟨_, rfl⟩
    rw [hx] at hdef
    obtain ⟨t, htb, htl, hpos, hx0, hne, ht⟩ : ∃ t, bytesN t = (bytesN s).drop A ∧ t.size = s.size - A ∧ ∃ hp : 0 < t.size, (t[0]'hp).toNat = x ∧ t.toList.isEmpty = false ∧ s.extract A s.size = t := by
      have hsz : (s.extract A s.size).size = s.size - A := by simp
      have hpos : 0 < (s.extract A s.size).size := by rw [hsz]; omega
      refine ⟨_, bytesN_from s A, hsz, hpos, ?_, str_nonempty (by omega), rfl⟩
      rw [← bytesN_getD (s.extract A s.size) 0 hpos, bytesN_from, ← hx]; simp [List.getD]
    have hne' : ¬ t.toList = [] := by simpa using hne
    have HMB := hide (fun w => mayBegin_any x w)
    rw [ht] at HRs1
    cases hm : mayB x with
    | false =>
      rw [if_neg (by rw [hm]; simp)] at hdef
      rw [hm] at HMB
      subst hdef
      have HBw := HB0
      go_enter Tryz.func47, Tryz.ntmps47
      go_wp2_with (first
        | (go_at_call 48; refine HRs1.out.mono ?_; rintro e w2 ⟨rfl, hr, hch⟩; have hrw := HF.out _ hch; have d0 := Row2.c0 hrw; have d1 := Row2.c1 hrw; have z0 := Row2.f hrw 0; have z1 := Row2.f hrw 1; clear hrw; have HR2 := hide (And.intro hr hch); clear hr hch)
        | (go_at_call 56; refine (HMB.out _).mono ?_; rintro e w3 ⟨rfl, rfl⟩))
      exact ends_lab rfl rfl rfl HB0.out.1 (Nat.le_refl _) hgl HR2.out.1 HR2.out.2 d0 d1 ⟨_, _, rfl⟩
    | true =>
      have hif : A < s.size ∧ mayB x = true := ⟨hlt, hm⟩
      rw [if_pos hif] at hdef
      rw [hm] at HMB
      have HNS := hide (fun w => nameSize_any t w (by omega))
      have hnl := nameN_le ((bytesN s).drop A)
      rw [List.length_drop, bytesN_length] at hnl
      rw [htb] at HNS
      obtain ⟨n, hn⟩ : ∃ n, nameN ((bytesN s).drop A) = n := ⟨_, rfl⟩
      rw [hn] at HNS hnl hdef
      have HNm : Hid (t.extract 0 n = strOf (((bytesN s).drop A).take n) ∧ (t.extract 0 n).size = n) := hide ⟨by rw [← strOf_bytesN (t.extract 0 n), bytesN_extract, htb]; simp, by simp; omega⟩
      have n1 : (0 : Int) ≤ (n : Int) := by omega
      have n2 : (n : Int) ≤ (t.size : Int) := by omega
      obtain ⟨nm, hnm⟩ : ∃ nm, t.extract 0 n = nm := ⟨_, rfl⟩
      rw [hnm] at HNm
      have hnms : nm.size = n := HNm.out.2
      have HK2 := hide (fun w' (h : RD w' g s (A + n)) => HTk.out w' (A + n) h (by omega))
      have hA2 := skipB_le (bytesN s) (A + n) (by rw [bytesN_length]; omega)
      rw [bytesN_length] at hA2
      obtain ⟨NB, hNB⟩ : ∃ b, nextB (bytesN s) (A + n) 61 = b := ⟨_, rfl⟩
      rw [hNB] at HK2 hdef
      have HNB := hide hNB
      clear hn hm hNB hx hif
      cases NB with
      | false =>
        rw [if_neg (by simp)] at hdef
        subst hdef
        go_enter Tryz.func47, Tryz.ntmps47
        go_wp2_with (first
          | (go_at_call 48; refine HRs1.out.mono ?_; rintro e w2 ⟨rfl, hr, hch⟩; have c1 := hr.c1; have f1 := hr.f1; have HR2 := hide (And.intro hr hch); clear hr hch)
          | (go_at_call 56; refine (HMB.out _).mono ?_; rintro e w3 ⟨rfl, rfl⟩)
          | (go_at_call 57; refine (HNS.out _).mono ?_; rintro e w3 ⟨rfl, rfl⟩)
          | (go_at_call 46; refine (HK2.out _ (by have h := HR2.out.1.put (A + n); rw [show ((A + n : Nat) : Int) = (A : Int) + (n : Int) by omega] at h; exact h)).mono ?_; rintro e w4 ⟨rfl, hr, hch⟩; have hch4 := (HR2.out.2.trans (Ch.set _ _ _)).trans hch; have hrw := HF.out _ hch4; have d0 := Row2.c0 hrw; have d1 := Row2.c1 hrw; have z0 := Row2.f hrw 0; have z1 := Row2.f hrw 1; clear hrw; have HR4 := hide (And.intro hr hch4); clear hr hch hch4))
        exact ends_lab rfl rfl rfl HB0.out.1 (Nat.le_refl _) hgl HR4.out.1 HR4.out.2 d0 d1 ⟨_, _, rfl⟩
      | true =>
        rw [if_pos rfl] at hdef
        obtain ⟨C, hC⟩ : ∃ C, skipB (bytesN s) (A + n) + 1 = C := ⟨_, rfl⟩
        have hCl : C ≤ s.size := by
          have h := HNB.out
          unfold nextB at h
          rw [bytesN_length] at h
          simp at h
          omega
        rw [hC] at hdef
        simp only [if_true, hC] at HK2
        have hD := skipB_le (bytesN s) C (by rw [bytesN_length]; omega)
        rw [bytesN_length] at hD
        have HK3 := hide (fun w' (h : RD w' g s C) => HRs.out w' C h hCl)
        obtain ⟨D, hDD⟩ : ∃ D, skipB (bytesN s) C = D := ⟨_, rfl⟩
        rw [hDD] at hdef hD HK3
        obtain ⟨t2, ht2⟩ : ∃ t2, s.extract D s.size = t2 := ⟨_, rfl⟩
        have hb2 : bytesN t2 = (bytesN s).drop D := by rw [← ht2]; exact bytesN_from s D
        have hl2 : t2.size ≤ 1000000000 := by rw [← ht2]; simp; omega
        have HU := hide (fun w h => unquoted_any t2 w (by omega) h)
        rw [hb2] at HU
        rw [ht2] at HK3
        obtain ⟨U, hU⟩ : ∃ U, unqL ((bytesN s).drop D) = U := ⟨_, rfl⟩
        rw [hU] at HU hdef
        have HUm : Hid (∀ p : List Nat × Nat, U = some p → 0 < p.2 ∧ D + p.2 ≤ s.size) := hide (by
          intro p hp
          rw [← hU] at hp
          have h1 := unqL_le hp
          rw [List.length_drop, bytesN_length] at h1
          have h2 := unqL_pos hp
          exact ⟨h2, by omega⟩)
        have hcv0 := fun w => conv_nil w
        clear hC hDD ht2 hb2 hU HNB
        cases U with
        | none =>
          subst hdef
          go_enter Tryz.func47, Tryz.ntmps47
          go_wp2_with (first
            | (go_at_call 48; refine HRs1.out.mono ?_; rintro e w2 ⟨rfl, hr, hch⟩; have c1 := hr.c1; have f1 := hr.f1; have HR2 := hide (And.intro hr hch); clear hr hch)
            | (go_at_call 56; refine (HMB.out _).mono ?_; rintro e w3 ⟨rfl, rfl⟩)
            | (go_at_call 57; refine (HNS.out _).mono ?_; rintro e w3 ⟨rfl, rfl⟩)
            | (go_at_call 46; refine (HK2.out _ (by have h := HR2.out.1.put (A + n); rw [show ((A + n : Nat) : Int) = (A : Int) + (n : Int) by omega] at h; exact h)).mono ?_; rintro e w4 ⟨rfl, hr, hch⟩; have HR4 := hide (And.intro hr ((HR2.out.2.trans (Ch.set _ _ _)).trans hch)); clear hr hch)
            | (go_at_call 48; refine (HK3.out _ HR4.out.1).mono ?_; rintro e w5 ⟨rfl, hr, hch⟩; have HR5 := hide (And.intro hr (HR4.out.2.trans hch)); clear hr hch)
            | (go_at_call 49; refine (HU.out _ (HES.out _ HR5.out.2)).mono ?_; rintro e w6 ⟨rfl, hb⟩; have hr6 := HR5.out.1.below hb; have hch6 := HR5.out.2.trans (Ch.of hb); have c6 := hr6.c1; have f6 := hr6.f1; have hrw := HF.out _ hch6; have d0 := Row2.c0 hrw; have d1 := Row2.c1 hrw; have z0 := Row2.f hrw 0; have z1 := Row2.f hrw 1; clear hrw; have HR6 := hide (And.intro hr6 hch6); clear hb hr6 hch6))
          have hp := HR6.out.1.put D
          exact ends_lab rfl rfl rfl HB0.out.1 (Nat.le_refl _) hgl hp (HR6.out.2.trans (Ch.set _ _ _)) (by rw [World.cell?_of_block (w := w6) (Below.heap_setCell w6 ⟨g, 1, none⟩ _ w.heap.size (by simp; omega))]; exact d0) (by rw [World.cell?_of_block (w := w6) (Below.heap_setCell w6 ⟨g, 1, none⟩ _ w.heap.size (by simp; omega))]; exact d1) ⟨_, _, rfl⟩
        | some p =>
          obtain ⟨bs, m⟩ := p
          dsimp only at hdef
          subst hdef
          have hm0 : 0 < m := (HUm.out _ rfl).1
          have hmD : D + m ≤ 1000000000 := by have h := (HUm.out _ rfl).2; dsimp only at h; omega
          have hmDz : (D : Int) + (m : Int) ≤ 1000000000 := by omega
          have hm0z : (0 : Int) < (m : Int) := by omega
          go_enter Tryz.func47, Tryz.ntmps47
          go_wp2_with (first
            | (go_at_call 48; refine HRs1.out.mono ?_; rintro e w2 ⟨rfl, hr, hch⟩; have c1 := hr.c1; have f1 := hr.f1; have HR2 := hide (And.intro hr hch); clear hr hch)
            | (go_at_call 56; refine (HMB.out _).mono ?_; rintro e w3 ⟨rfl, rfl⟩)
            | (go_at_call 57; refine (HNS.out _).mono ?_; rintro e w3 ⟨rfl, rfl⟩)
            | (go_at_call 46; refine (HK2.out _ (by have h := HR2.out.1.put (A + n); rw [show ((A + n : Nat) : Int) = (A : Int) + (n : Int) by omega] at h; exact h)).mono ?_; rintro e w4 ⟨rfl, hr, hch⟩; have HR4 := hide (And.intro hr ((HR2.out.2.trans (Ch.set _ _ _)).trans hch)); clear hr hch)
            | (go_at_call 48; refine (HK3.out _ HR4.out.1).mono ?_; rintro e w5 ⟨rfl, hr, hch⟩; have HR5 := hide (And.intro hr (HR4.out.2.trans hch)); clear hr hch)
            | (go_at_call 49; refine (HU.out _ (HES.out _ HR5.out.2)).mono ?_; rintro e w6 ⟨v, rfl, ho⟩; have hb := ho.bel; have hr6 := HR5.out.1.below hb; have hch6 := HR5.out.2.trans (Ch.of hb); have c6 := hr6.c1; have f6 := hr6.f1; have hgw := size_lt_of_row HR5.out.1.row; have hcv := conv_set ho ((D : Int) + (m : Int)) hgw; have hrw := HF.out _ hch6; have d0 := Row2.c0 hrw; have d1 := Row2.c1 hrw; have z0 := Row2.f hrw 0; have z1 := Row2.f hrw 1; clear hrw; have HR6 := hide (And.intro hr6 hch6); clear hb hr6 hch6 ho hgw))
          have hp := HR6.out.1.put (D + m)
          rw [show ((D + m : Nat) : Int) = (D : Int) + (m : Int) by omega] at hp
          refine ends_lab rfl rfl rfl HB0.out.1 (Nat.le_refl _) hgl hp (HR6.out.2.trans (Ch.set _ _ _)) (by rw [World.cell?_of_block (w := w6) (Below.heap_setCell w6 ⟨g, 1, none⟩ _ w.heap.size (by simp; omega))]; exact d0) (by rw [World.cell?_of_block (w := w6) (Below.heap_setCell w6 ⟨g, 1, none⟩ _ w.heap.size (by simp; omega))]; exact d1) ?_
          show Ending.returned _ = Ending.returned (.tuple #[.agg #[.string (strOf (((bytesN s).drop A).take n)), .string (strOf bs)], .bool true])
          rw [← HNm.out.1]
          rfl
  · have hAn : A = s.size := by omega
    rw [if_neg (by omega)] at hdef
    subst hdef
    have ht : s.extract A s.size = ⟨#[]⟩ := str_empty (by simp; omega)
    rw [ht] at HRs1
    clear ht
    go_enter Tryz.func47, Tryz.ntmps47
    go_wp2_with (go_at_call 48; refine HRs1.out.mono ?_; rintro e w2 ⟨rfl, hr, hch⟩; have hrw := HF.out _ hch; have d0 := Row2.c0 hrw; have d1 := Row2.c1 hrw; have z0 := Row2.f hrw 0; have z1 := Row2.f hrw 1; clear hrw; have HR2 := hide (And.intro hr hch); clear hr hch)
    exact ends_lab rfl rfl rfl HB0.out.1 (Nat.le_refl _) hgl HR2.out.1 HR2.out.2 d0 d1 ⟨_, _, rfl⟩



end Go.Proofs.YtgcmdbpanfeaaabGreatDoor

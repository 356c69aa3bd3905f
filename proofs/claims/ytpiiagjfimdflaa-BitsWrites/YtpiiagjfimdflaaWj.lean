/- The law's Book: the walk of Bytes. -/
import Derived.Test.YtpiiagjfimdflaaWi
namespace Go.Proofs.Ytpiiagjfimdflaa
open Go.RowKit
open M
set_option linter.unusedVariables false

theorem marks_set (m i : Nat) (bs : List Nat) (hi : i < bs.length) : (bytesV (marksOf m i ++ bs.drop i)).set i (.int .u8 (mk m i : Nat)) = bytesV (marksOf m (i + 1) ++ bs.drop (i + 1)) := by
  have hl : (marksOf m i).length = i := by simp
  have e : (marksOf m i ++ bs.drop i).set i (mk m i) = marksOf m (i + 1) ++ bs.drop (i + 1) := by
    rw [List.set_append_right _ _ (by omega), hl, Nat.sub_self, List.drop_eq_getElem_cons hi, List.set_cons_zero, marksOf_succ, List.append_assoc]
    rfl
  rw [← e]; simp [bytesV, List.map_set]

/-- Of the row v only. -/
theorem row_store {w : World} {base : Nat} {n cap : Nat} {xs : List Value} {g : Nat} (h : w.ownsRow base 5 1 (.slice (some ⟨g, 0, none⟩) n cap) n xs) (i : Nat) (hi : i < n) : (∃ y, w.cell? ⟨g, i, none⟩ = some y) ∧ w.frozen? ⟨g, i, none⟩ = false := by
  obtain ⟨h1, h2⟩ := h
  rcases h2 with ⟨h2, _⟩ | ⟨g', cap', cur, h0, h4, h5, h6, _, h7, h8⟩
  · simp at h2
  · simp only [Value.slice.injEq, Option.some.injEq, Addr.mk.injEq] at h0
    obtain ⟨⟨rfl, _⟩, _, rfl⟩ := h0
    refine ⟨?_, frozen_of_row _ _ _ _ _ h5⟩
    rw [cell_of_row _ _ _ _ _ _ h5]
    exact ⟨cur[i]'(by omega), by rw [Array.getElem?_eq_getElem]⟩

/-- Behind Bytes. -/
def BytesPost (w : World) (NB base : Nat) (rb ro : Option Nat) (E : List Ent) (A T D : Nat) (e : Ent) (w' : World) : Prop :=
  ∃ rb' ro' E' U', BookSt w' NB base rb' ro' E' A (T + 1) D U' ∧ (E' = E ∨ E' = E ++ [e]) ∧ RowStep w rb rb' ∧ RowStep w ro ro' ∧ Chg (fun k => k = NB ∨ rb = some k ∨ ro = some k ∨ e.v.ownBlock = some k) w w'

set_option maxRecDepth 100000 in
set_option maxHeartbeats 8000000 in
theorem bytes_any (NB base : Nat) (rb ro : Option Nat) (E : List Ent) (A T D U n : Nat) (p : Option Addr) (bs : List Nat) (w : World) (h : BookSt w NB base rb ro E A T D U) (hv : w.ownsRow base 5 1 (.slice p n n) n (bytesV bs)) (hn : n ≤ 5000) (hT : T < 1000000) (hE : E.length < 1000000) (hbase : base ≤ w.heap.size)
    (hap : ∀ e ∈ E, ∀ g, (Value.slice p n n).ownBlock = some g → e.v.ownBlock ≠ some g) :
    Calls Try.prog 49 #[.pointer (some ⟨NB, 0, none⟩), .slice p n n] w fun q w' => q = .returned (.tuple #[]) ∧ BytesPost w NB base rb ro E A T D ⟨.slice p n n, n, T + 1⟩ w' := by
  have hbl : bs.length = n := by have := hv.1; simpa using this
  have c1 := h.turn
  have f1 := h.nil.fz 69 (by omega)
  obtain ⟨T1, hT1⟩ : ∃ T1 : Nat, (T : Int) + 1 = (T1 : Int) := ⟨T + 1, by omega⟩
  have HT1 : Hid (T1 = T + 1) := by show _ = _; omega
  obtain ⟨wA, hwA⟩ : ∃ wA, wA = w.setCell ⟨NB, 69, none⟩ (.int .i64 (T1 : Int)) := ⟨_, rfl⟩
  have hle := h.le
  have BA : BookSt wA NB base rb ro E A T1 D U := by rw [hwA]; exact h.setT T1 (by have := HT1.out; omega)
  have vA : wA.ownsRow base 5 1 (.slice p n n) n (bytesV bs) := by rw [hwA]; exact ownsRow_setOther hv _ _ _ hle.2.2.2.1
  have CA : Chg (fun k => k = NB) w wA := by rw [hwA]; exact Chg.set _ _ _ _ rfl
  have HA : Hid (BookSt wA NB base rb ro E A T1 D U ∧ wA.ownsRow base 5 1 (.slice p n n) n (bytesV bs) ∧ Chg (fun k => k = NB) w wA) := ⟨BA, vA, CA⟩
  have Hh : Hid (BookSt w NB base rb ro E A T D U) := h
  have Hap : Hid (∀ e ∈ E, ∀ g, (Value.slice p n n).ownBlock = some g → e.v.ownBlock ≠ some g) := hap
  have Hbl : Hid (bs.length = n) := hbl
  have hcT : wA.cell? ⟨NB, 69, none⟩ = some (.int .i64 (T1 : Int)) := BA.turn
  have hT1b : T1 ≤ 1000000 := by have := HT1.out; omega
  clear h hv hap hbl BA vA CA hle
  go_enter Try.func49, Try.ntmps49
  go_wp2_with fail
  rw [← hwA]
  clear hwA c1 f1 hcT
  go_loopw [5] (fun t5 wr => ∃ i : Nat, i ≤ n ∧ t5 = .int .i64 i ∧ Hid (wr.ownsRow base 5 1 (.slice p n n) n (bytesV (marksOf T1 i ++ bs.drop i)) ∧ Chg (fun k => (Value.slice p n n).ownBlock = some k) wA wr)) (fun t5 _ => n - (intOf t5).toNat)
  case atStart => exact ⟨0, by omega, rfl, ⟨by simpa [marksOf] using HA.out.2.1, Chg.refl _ _⟩⟩
  case round =>
    obtain ⟨i, hi, rfl, HS⟩ := hrel
    by_cases hlt : i < n
    · have hlt' : (i : Int) < (n : Int) := by omega
      obtain ⟨g, rfl, hg1, hg2, _⟩ := row_at HS.out.1 rfl (by omega)
      obtain ⟨⟨y, hc⟩, hf⟩ := row_store HS.out.1 i hlt
      have HN : Hid ((wr.setCell ⟨g, i, none⟩ (.int .u8 (mk T1 i : Nat))).ownsRow base 5 1 (.slice (some ⟨g, 0, none⟩) n n) n (bytesV (marksOf T1 (i + 1) ++ bs.drop (i + 1))) ∧ Chg (fun k => (Value.slice (some ⟨g, 0, none⟩) n n).ownBlock = some k) wA (wr.setCell ⟨g, i, none⟩ (.int .u8 (mk T1 i : Nat)))) := by
        refine ⟨?_, HS.out.2.trans' (Chg.set _ _ _ _ rfl)⟩
        rw [← marks_set T1 i bs (by have := Hbl.out; omega)]
        exact ownsRow_set (v := .slice none 0 0) HS.out.1 i _ hlt
      have HAt : Hid (Calls Try.prog 70 #[.int .i64 T1, .int .i64 i] wr fun e w' => e = .returned (.int .u8 (mk T1 i : Nat)) ∧ w' = wr) := at_any T1 i wr hT1b (by omega)
      clear HS
      generalize mk T1 i = yy at *
      go_wp2_with fail
      refine HAt.out.mono ?_
      rintro e w1 ⟨rfl, rfl⟩
      go_wp2_with fail
      exact ⟨⟨i + 1, by omega, by go_num, HN⟩, by simp [intOf]; omega⟩
    · have hin : i = n := by omega
      subst hin
      have hdrop : bs.drop i = [] := List.drop_eq_nil_of_le (by have := Hbl.out; omega)
      have vB : wr.ownsRow base 5 1 (.slice p i i) i (bytesV (marksOf T1 i)) := by have := HS.out.1; rwa [hdrop, List.append_nil] at this
      have CB := HS.out.2
      have BB : BookSt wr NB base rb ro E A T1 D U := HA.out.1.chg CB (fun k hk hh => by
        have hrow := HA.out.2.1
        obtain ⟨vb, b1, b2, b3⟩ := HA.out.1.rows
        obtain ⟨vo, o1, o2, o3⟩ := HA.out.1.marks
        rcases hk with hk | hk | hk | ⟨e, he, hk⟩
        · subst hk; have := (row_ge hrow hh).1; have := HA.out.1.le.2.2.2.1; omega
        · exact rows_ne hrow b2 (by decide) hh (b3.trans hk)
        · exact rows_ne hrow o2 (by decide) hh (o3.trans hk)
        · exact Hap.out e he k hh hk)
      have HB : Hid (BookSt wr NB base rb ro E A T1 D U ∧ wr.ownsRow base 5 1 (.slice p i i) i (bytesV (marksOf T1 i)) ∧ Chg (fun k => k = NB ∨ rb = some k ∨ ro = some k ∨ (Value.slice p i i).ownBlock = some k) w wr) := ⟨BB, vB, (HA.out.2.2.mono fun k _ hk => .inl hk).trans' (CB.mono fun k _ hk => .inr (.inr (.inr hk)))⟩
      have cU := BB.used
      have fU := BB.nil.fz 71 (by omega)
      have hUle := BB.le.2.2.1
      obtain ⟨xx, hxx⟩ : ∃ xx : Nat, (1200 : Int) + 3 * (i : Int) = (xx : Int) := ⟨1200 + 3 * i, by omega⟩
      have hxx2 : xx ≤ 100000 := by omega
      clear HS hdrop vB CB BB
      by_cases htight : 16777216 < U + xx
      · have HTi : Hid (Calls Try.prog 71 #[.pointer (some ⟨NB, 0, none⟩), .int .i64 xx] wr fun e w' => e = .returned (.bool true) ∧ w' = wr) := tight_yes NB xx U wr cU htight (by omega)
        clear cU fU
        go_wp2_with fail
        refine HTi.out.mono ?_
        rintro e w1 ⟨rfl, rfl⟩
        go_wp2_with fail
        exact bodyPost_ret (v := .tuple #[]) (results_none rfl _ _ _) rfl ⟨rfl, rb, ro, E, U, by rw [← HT1.out]; exact HB.out.1, .inl rfl, .inl rfl, .inl rfl, HB.out.2.2⟩
      · have HTi : Hid (Calls Try.prog 71 #[.pointer (some ⟨NB, 0, none⟩), .int .i64 xx] wr fun e w' => e = .returned (.bool false) ∧ w' = wr.setCell ⟨NB, 71, none⟩ (.int .i64 ((U + xx : Nat) : Int))) := tight_no NB xx U wr cU fU (by omega)
        clear cU fU
        go_wp2_with fail
        refine HTi.out.mono ?_
        rintro e wC ⟨rfl, hwC⟩
        have BC : BookSt wC NB base rb ro E A T1 D (U + xx) := by rw [hwC]; exact HB.out.1.setU (U + xx) (by omega)
        have vC : wC.ownsRow base 5 1 (.slice p i i) i (bytesV (marksOf T1 i)) := by rw [hwC]; exact ownsRow_setOther HB.out.2.1 _ _ _ HB.out.1.le.2.2.2.1
        have CC : Chg (fun k => k = NB ∨ rb = some k ∨ ro = some k ∨ (Value.slice p i i).ownBlock = some k) w wC := HB.out.2.2.trans' (by rw [hwC]; exact Chg.set _ _ _ _ (.inl rfl))
        obtain ⟨vb, b1, b2, b3⟩ := BC.rows
        obtain ⟨vo, q1, q2, q3⟩ := BC.marks
        have f0 := BC.nil.fz 0 (by omega)
        have f1 := BC.nil.fz 1 (by omega)
        have hbC : base ≤ wC.heap.size := Nat.le_trans hbase CC.size
        have nrb : rb ≠ some NB := fun hh => by have := (row_ge b2 (b3.trans hh)).1; have := BC.le.2.2.2.1; omega
        have nro : ro ≠ some NB := fun hh => by have := (row_ge q2 (q3.trans hh)).1; have := BC.le.2.2.2.1; omega
        have Hn : Hid (rb ≠ some NB ∧ ro ≠ some NB ∧ vb.ownBlock = rb ∧ vo.ownBlock = ro ∧ NB < base) := ⟨nrb, nro, b3, q3, BC.le.2.2.2.1⟩
        have HC : Hid (BookSt wC NB base rb ro E A T1 D (U + xx) ∧ wC.ownsRow base 5 1 (.slice p i i) i (bytesV (marksOf T1 i)) ∧ Chg (fun k => k = NB ∨ rb = some k ∨ ro = some k ∨ (Value.slice p i i).ownBlock = some k) w wC) := ⟨BC, vC, CC⟩
        have HR1 : Hid (wC.ownsRow base 29 1 vb E.length (E.map Ent.v)) := b2
        have HR2 : Hid (wC.ownsRow base 3 1 vo E.length (E.map fun e => Value.int .i64 (e.m : Int))) := q2
        obtain ⟨i29, h29⟩ := info29
        obtain ⟨i3, h3⟩ := info3
        have H29 : Hid (Try.prog.info? 29 = some i29 ∧ i29.zero = some (.slice none 0 0) ∧ i29.size = 1 ∧ i29.bytes = 24) := h29
        have H3 : Hid (Try.prog.info? 3 = some i3 ∧ i3.zero = some (.int .i64 0) ∧ i3.size = 1 ∧ i3.bytes = 8) := h3
        clear hwC BC vC CC b2 b3 q2 q3 nrb nro HB h29 h3 HTi
        go_wp2_with (at_builtin; refine wpList_append_lies _ rfl _ _ _ rfl base 29 i29 (.slice none 0 0) 1 24 Try.underlying34 H29.out.1 H29.out.2.1 H29.out.2.2.1 H29.out.2.2.2 rfl (by decide) vb E.length (E.map Ent.v) rfl (HR1.out.alloc _) ⟨wC.heap.size, 0, none⟩ 1 1 [.slice p i i] rfl rfl ?d2 ?d3 (by decide) ?d4 ?d5 ?d7 _ rfl ?d6)
        case d2 => intro j u hj; exact cell_new1 wC _ 29 j u hj
        case d3 => intro u hu; simp at hu; subst hu; rfl
        case d4 => unfold maxLen; omega
        case d5 => omega
        case d7 => simp; omega
        case d6 =>
          intro g1 cap1 wD o1 gr1 at1 lt1
          rw [Hn.out.2.2.1] at gr1 at1
          have C1 : Chg (fun k => rb = some k) wC wD := (Chg.below ((Below.refl _ _).alloc (Nat.le_refl _) _)).trans' (Chg.grown gr1 fun g hg => hg)
          have c0D := cell_chg b1 C1 Hn.out.1
          have c1D := cell_chg q1 C1 Hn.out.1
          have fD : ∀ j, wD.frozen? ⟨NB, j, none⟩ = wC.frozen? ⟨NB, j, none⟩ := fun j => World.frozen?_of_block (w := wC) (C1.block NB (block_lt_of_cell b1) Hn.out.1)
          have f0D := (fD 0).trans f0
          have f1D := (fD 1).trans f1
          have q2D : wD.ownsRow base 3 1 vo E.length (E.map fun e => Value.int .i64 (e.m : Int)) := ownsRow_chg HR2.out C1 (fun g hg hh => rows_ne HR2.out HR1.out (by decide) hg (Hn.out.2.2.1.trans hh))
          have HR2E : Hid ((wD.setCell ⟨NB, 0, none⟩ (.slice (some ⟨g1, 0, none⟩) (E.length + 1) cap1)).ownsRow base 3 1 vo E.length (E.map fun e => Value.int .i64 (e.m : Int))) := ownsRow_setOther q2D _ _ _ Hn.out.2.2.2.2
          have zE : (wD.setCell ⟨NB, 0, none⟩ (.slice (some ⟨g1, 0, none⟩) (E.length + 1) cap1)).heap.size = wD.heap.size := by simp [World.setCell]
          have hbE : base ≤ wD.heap.size := Nat.le_trans hbC C1.size
          have H1 : Hid (wD.ownsRow base 29 1 (.slice (some ⟨g1, 0, none⟩) (E.length + 1) cap1) (E.length + 1) (E.map Ent.v ++ [.slice p i i]) ∧ (wC.alloc (.cells #[.slice p i i] 29)).grownBy wD rb ∧ (rb = (Value.slice (some ⟨g1, 0, none⟩) (E.length + 1) cap1).ownBlock ∨ (Value.slice (some ⟨g1, 0, none⟩) (E.length + 1) cap1).ownBlock = some (wC.heap.size + 1))) := ⟨o1, gr1, by rcases at1 with at1 | at1; exact .inl at1; right; rw [at1]; simp [Value.ownBlock]⟩
          have c1E : (wD.setCell ⟨NB, 0, none⟩ (.slice (some ⟨g1, 0, none⟩) (E.length + 1) cap1)).cell? ⟨NB, 1, none⟩ = some vo := by rw [cell_setCell_ne _ _ _ _ _ (by omega)]; exact c1D
          have f1E : (wD.setCell ⟨NB, 0, none⟩ (.slice (some ⟨g1, 0, none⟩) (E.length + 1) cap1)).frozen? ⟨NB, 1, none⟩ = false := by rw [frozen_setCell]; exact f1D
          have HcE : Hid ((wD.setCell ⟨NB, 0, none⟩ (.slice (some ⟨g1, 0, none⟩) (E.length + 1) cap1)).cell? ⟨NB, 1, none⟩ = some vo ∧ (wD.setCell ⟨NB, 0, none⟩ (.slice (some ⟨g1, 0, none⟩) (E.length + 1) cap1)).frozen? ⟨NB, 1, none⟩ = false) := ⟨c1E, f1E⟩
          clear o1 gr1 at1 lt1 C1 fD q2D HR2 c1E f1E
          go_wp2_with (at_builtin; refine wpList_append_lies _ rfl _ _ _ rfl base 3 i3 (.int .i64 0) 1 8 Try.underlying35 H3.out.1 H3.out.2.1 H3.out.2.2.1 H3.out.2.2.2 rfl (by decide) vo E.length (E.map fun e => Value.int .i64 (e.m : Int)) rfl (HR2E.out.alloc _) ⟨wD.heap.size, 0, none⟩ 1 1 [.int .i64 T1] rfl rfl ?e2 ?e3 (by decide) ?e4 ?e5 ?e7 _ rfl ?e6)
          case e2 => intro j u hj; have h := cell_new1 (wD.setCell ⟨NB, 0, none⟩ (.slice (some ⟨g1, 0, none⟩) (E.length + 1) cap1)) _ 3 j u hj; rw [zE] at h; exact h
          case e3 => intro u hu; simp at hu; subst hu; rfl
          case e4 => unfold maxLen; omega
          case e5 => omega
          case e7 => simp [zE]; omega
          case e6 =>
            intro g2 cap2 wF o2 gr2 at2 lt2
            rw [Hn.out.2.2.2.1] at gr2 at2
            have C3 : Chg (fun k => ro = some k) (wD.setCell ⟨NB, 0, none⟩ (.slice (some ⟨g1, 0, none⟩) (E.length + 1) cap1)) wF := (Chg.below ((Below.refl _ _).alloc (Nat.le_refl _) _)).trans' (Chg.grown gr2 fun g hg => hg)
            have c1F := cell_chg HcE.out.1 C3 Hn.out.2.1
            have f1F : wF.frozen? ⟨NB, 1, none⟩ = false := (World.frozen?_of_block (w := wD.setCell ⟨NB, 0, none⟩ (.slice (some ⟨g1, 0, none⟩) (E.length + 1) cap1)) (C3.block NB (block_lt_of_cell HcE.out.1) Hn.out.2.1)).trans HcE.out.2
            have HF : Hid (BytesPost w NB base rb ro E A T D ⟨.slice p i i, i, T + 1⟩ (wF.setCell ⟨NB, 1, none⟩ (.slice (some ⟨g2, 0, none⟩) (E.length + 1) cap2))) := by
              have he : EOk wC base ⟨.slice p i i, i, T1⟩ := ⟨HC.out.2.1, by show i ≤ 100000; omega, hT1b⟩
              obtain ⟨k1, k2, k3, k4⟩ := HC.out.1.add ⟨.slice p i i, i, T1⟩ he H1.out.1 H1.out.2.1 H1.out.2.2 rfl o2 gr2 (by rcases at2 with at2 | at2; exact .inl at2; right; rw [at2]; simp [Value.ownBlock, zE]) rfl
              rw [HT1.out] at k1
              refine ⟨_, _, _, _, k1, .inr rfl, ?_, ?_, ?_⟩
              · rcases k2 with k2 | ⟨gg, k2, k5⟩
                · exact .inl k2
                · exact .inr ⟨gg, k2, Nat.le_trans HC.out.2.2.size k5⟩
              · rcases k3 with k3 | ⟨gg, k3, k5⟩
                · exact .inl k3
                · exact .inr ⟨gg, k3, Nat.le_trans HC.out.2.2.size k5⟩
              · exact HC.out.2.2.trans' (k4.mono fun k _ hk => by rcases hk with hk | hk | hk; exact .inl hk; exact .inr (.inl hk); exact .inr (.inr (.inl hk)))
            clear o2 gr2 at2 lt2 C3 H1 HR2E HcE
            go_wp2_with fail
            go_end0
            exact ⟨rfl, HF.out⟩

end Go.Proofs.Ytpiiagjfimdflaa

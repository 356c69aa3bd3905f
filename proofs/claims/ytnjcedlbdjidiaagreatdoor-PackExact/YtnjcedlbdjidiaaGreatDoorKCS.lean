/- The Book takes a list of uint32s. -/
import Derived.Test.YtnjcedlbdjidiaaGreatDoorKN
import Derived.Test.YtnjcedlbdjidiaaGreatDoorKCB
import Derived.BigQuiet
/- The Book's lists hold what they held. -/
namespace Go.Proofs.YtnjcedlbdjidiaaGreatDoor
open Go.RowKit
open M
set_option linter.unusedVariables false
set_option linter.unusedSimpArgs false

/-- What a kind's lists hold, for reading. -/
theorem KSt.read {K : Kd} {w : World} {NB base : Nat} {rb ro : Option Nat} {E : List Ent} {A : Nat} (h : KSt K w NB base rb ro E A) :
    ∃ (pb : Option Addr) (capb : Nat) (po : Option Addr) (capo : Nat), w.cell? ⟨NB, 3 * K.c, none⟩ = some (.slice pb E.length capb) ∧ w.cell? ⟨NB, 3 * K.c + 1, none⟩ = some (.slice po E.length capo) ∧
      ∀ k, k < E.length → ∃ (gb go : Nat) (p : Option Addr) (n cp m : Nat), pb = some ⟨gb, 0, none⟩ ∧ po = some ⟨go, 0, none⟩ ∧ w.cell? ⟨gb, k, none⟩ = some (.slice p n cp) ∧ w.cell? ⟨go, k, none⟩ = some (.int .i64 (m : Int)) ∧ n ≤ 100000 ∧ m ≤ 1000000 ∧
        (0 < n → ∃ g, p = some ⟨g, 0, none⟩ ∧ ∀ j, j < n → w.cell? ⟨g, j, none⟩ = some (K.mv m j)) := by
  obtain ⟨vb, cb, ob, _⟩ := h.rows
  obtain ⟨vo, co, oo, _⟩ := h.nums
  obtain ⟨pb, capb, hvb, -⟩ := row_form ob
  obtain ⟨po, capo, hvo, -⟩ := row_form oo
  refine ⟨pb, capb, po, capo, by rw [cb, hvb], by rw [co, hvo], fun k hk => ?_⟩
  obtain ⟨e, he⟩ : ∃ e, E[k]? = some e := ⟨E[k], List.getElem?_eq_getElem hk⟩
  obtain ⟨gb, h1, _, _, h2⟩ := row_at ob hvb (by omega)
  obtain ⟨go, h3, _, _, h4⟩ := row_at oo hvo (by omega)
  obtain ⟨hok, hn, hm⟩ := h.ok e (List.mem_of_getElem? he)
  obtain ⟨p, c, hv, -⟩ := row_form hok
  refine ⟨gb, go, p, e.n, c, e.m, h1, h3, ?_, ?_, hn, hm, fun h0 => ?_⟩
  · rw [h2 k e.v (by simp [he]), hv]
  · exact h4 k _ (by simp [numsV, he])
  · obtain ⟨g, h5, _, _, h6⟩ := row_at hok hv h0
    exact ⟨g, h5, fun j hj => h6 j _ (Kd.marks_get K e.m e.n j hj)⟩

set_option maxRecDepth 100000 in
set_option maxHeartbeats 8000000 in
theorem plainB_any (NB base : Nat) (rbB roB : Option Nat) (EB : List Ent) (AB : Nat) (w : World) (hB : KSt kB w NB base rbB roB EB AB) (hEB : EB.length ≤ 10000000) (c3 : w.cell? ⟨NB, 3, none⟩ = some (.slice none 0 0)) :
    Calls Tryz.prog 56 #[.pointer (some ⟨NB, 0, none⟩)] w fun e w' => e = .returned (.bool true) ∧ ∃ m, w' = w.drewN m := by
  obtain ⟨pbB, capbB, poB, capoB, cbB, coB, heB⟩ := hB.read
  have HEB := hideB heB
  have cbB : w.cell? ⟨NB, 0, none⟩ = some (.slice pbB EB.length capbB) := cbB
  have coB : w.cell? ⟨NB, 1, none⟩ = some (.slice poB EB.length capoB) := coB
  clear hB heB
  generalize EB.length = nEB at *
  have HCB : Hid (w.cell? ⟨NB, 0, none⟩ = some (.slice pbB nEB capbB) ∧ w.cell? ⟨NB, 1, none⟩ = some (.slice poB nEB capoB)) := ⟨cbB, coB⟩
  have HC3 := hideB c3
  have Hm : Hid (∃ m, w = w.drewN m) := ⟨0, rfl⟩
  clear cbB coB c3
  go_enter Tryz.func56, Tryz.ntmps56
  go_wp2_with fail
  go_loopw [3] (fun t wr => ∃ k : Nat, k ≤ nEB ∧ t = .int .i64 k ∧ Hid (∃ m, wr = w.drewN m)) (fun t _ => nEB - (intOf t).toNat)
  case atStart => exact ⟨0, by omega, rfl, Hm⟩
  case round =>
    clear Hm
    obtain ⟨k, hk, rfl, Hm⟩ := hrel
    have hcell : ∀ a, wr.cell? a = w.cell? a := fun a => by obtain ⟨m, rfl⟩ := Hm.out; rfl
    have cb' := (hcell ⟨NB, 0, none⟩).trans HCB.out.1
    have co' := (hcell ⟨NB, 1, none⟩).trans HCB.out.2
    by_cases hlt : k < nEB
    · obtain ⟨gb, go, p, n, cp, m, rfl, rfl, d1, d2, hn, hm, hx⟩ := HEB.out k hlt
      have D1 := hideB d1
      have D2 := hideB d2
      have HX := hideB hx
      have d1 := (hcell ⟨gb, k, none⟩).trans D1.out
      clear d2 hx hcell HEB
      go_wp2_with fail
      have Hm0 : Hid (∃ m, wr = w.drewN m) := Hm
      clear Hm cb' co' d1
      go_loopw [4] (fun t4 wr => ∃ j : Nat, j ≤ n ∧ t4 = .int .i64 j ∧ Hid (∃ m, wr = w.drewN m)) (fun t4 _ => n - (intOf t4).toNat)
      case atStart => exact ⟨0, by omega, rfl, Hm0⟩
      case round =>
        clear Hm0
        obtain ⟨j, hj, rfl, Hm⟩ := hrel
        have hcell : ∀ a, wr.cell? a = w.cell? a := fun a => by obtain ⟨m, rfl⟩ := Hm.out; rfl
        have cb' := (hcell ⟨NB, 0, none⟩).trans HCB.out.1
        have co' := (hcell ⟨NB, 1, none⟩).trans HCB.out.2
        have d1 := (hcell ⟨gb, k, none⟩).trans D1.out
        have d2 := (hcell ⟨go, k, none⟩).trans D2.out
        by_cases hjn : j < n
        · obtain ⟨g, rfl, hg⟩ := HX.out (by omega)
          obtain ⟨yy, hyy⟩ : ∃ yy : Int, ((mk m j : Nat) : Int) = yy := ⟨_, rfl⟩
          have d3 : wr.cell? ⟨g, j, none⟩ = some (.int .u8 yy) := by rw [(hcell ⟨g, j, none⟩).trans (hg j hjn), ← hyy]; rfl
          have HA : Hid (∀ w, Calls Tryz.prog 43 #[.int .i64 m, .int .i64 j] w fun e w' => e = .returned (.int .u8 yy) ∧ w' = w) := fun w => by rw [← hyy]; exact at_any m j w hm (by omega)
          clear hg hcell hyy
          have hjI : (j : Int) < (n : Int) := by omega
          have hkI : (k : Int) < (nEB : Int) := by omega
          go_wp2_with fail
          go_quiet ((go_at_call 43; exact Calls.quiet_of_same (HA.out _)))
          go_wp2_with fail
          go_roundw
          case rel =>
            refine ⟨j + 1, by omega, by go_num, ?_⟩
            obtain ⟨m, rfl⟩ := Hm.out
            exact ⟨m + nq, World.drewN_drewN _ _ _⟩
          case measure => simp [intOf]; omega
        · clear hcell
          go_wp2_with fail
          go_roundw
          case rel => exact ⟨k + 1, by omega, by go_num, Hm⟩
          case measure => simp [intOf]; omega
    · clear hcell HEB
      go_wp2_with fail
      clear cb' co'
      go_loopw [5] (fun t wr => t = .int .i64 0 ∧ Hid (∃ m, wr = w.drewN m)) (fun _ _ => 0)
      case atStart => exact ⟨rfl, Hm⟩
      case round =>
        clear Hm
        obtain ⟨rfl, Hm⟩ := hrel
        have c3 : wr.cell? ⟨NB, 3, none⟩ = some (.slice none 0 0) := by obtain ⟨m, rfl⟩ := Hm.out; exact HC3.out
        go_wp2_with fail
        clear c3
        go_ret
        exact ⟨rfl, Hm.out⟩


end Go.Proofs.YtnjcedlbdjidiaaGreatDoor

/- The Book takes a list of uint64s. -/
namespace Go.Proofs.YtnjcedlbdjidiaaGreatDoor
open Go.RowKit
open M
set_option linter.unusedVariables false
set_option linter.unusedSimpArgs false

/-- Lists of uint64s. -/
def kW : Kd := ⟨4, 71, 54, fun m _ => .int .u64 ((m * 1048576 : Nat) : Int)⟩

theorem infoW : ∃ i, Tryz.prog.info? 54 = some i ∧ i.zero = some (.slice none 0 0) ∧ i.size = 1 ∧ i.bytes = 24 := by
  have hz : (Tryz.prog.info? 54).bind (·.zero) = some (.slice none 0 0) := by kernel_rfl
  have hs : (Tryz.prog.info? 54).map (·.size) = some 1 := by kernel_rfl
  have hb : (Tryz.prog.info? 54).map (·.bytes) = some 24 := by kernel_rfl
  cases hi : Tryz.prog.info? 54 with
  | none => simp [hi] at hs
  | some i =>
    simp only [hi, Option.bind_some, Option.map_some, Option.some.injEq] at hz hs hb
    exact ⟨i, rfl, hz, hs, hb⟩

theorem markW_any (m : Nat) (w : World) (hm : m ≤ 1000000) : Calls Tryz.prog 54 #[.int .i64 m] w fun e w' => e = .returned (.int .u64 ((m * 1048576 : Nat) : Int)) ∧ w' = w := by
  obtain ⟨y, hy⟩ : ∃ y : Nat, m * 1048576 = y := ⟨_, rfl⟩
  rw [hy]
  have q1 : (m : Int) * 1048576 = (y : Int) := by omega
  have q2 : IntKind.u64.wrap (m : Int) = (m : Int) := by rw [IntKind.wrap_u64]; omega
  have q3 : IntKind.u64.wrap (y : Int) = (y : Int) := by rw [IntKind.wrap_u64]; omega
  clear hy
  go_enter Tryz.func54, Tryz.ntmps54
  go_wp2
  go_ret
  refine ⟨?_, rfl⟩
  first | rfl | (congr 2; first | omega | (simp; omega))

set_option maxRecDepth 100000 in
set_option maxHeartbeats 8000000 in
theorem addW_any (NB base : Nat) (rb ro : Option Nat) (E : List Ent) (A T D U n : Nat) (p : Option Addr) (xs : List Value) (w : World) (h : KSt kW w NB base rb ro E A) (hC : Com w NB T D U) (hv : w.ownsRow base 71 1 (.slice p n n) n xs) (hn : n ≤ 50000) (hT : T < 1000000) (hE : E.length < 1000000) (hbase : base ≤ w.heap.size)
    (hap : ∀ e ∈ E, ∀ g, (Value.slice p n n).ownBlock = some g → e.v.ownBlock ≠ some g) :
    Calls Tryz.prog 35 #[.pointer (some ⟨NB, 0, none⟩), .slice p n n] w fun q w' => q = .returned (.tuple #[]) ∧ AddPost kW w NB base rb ro E A T D ⟨.slice p n n, n, T + 1⟩ w' := by
  have hbl : xs.length = n := by have := hv.1; simpa using this
  have c1 := hC.turn
  have f1 := hC.fz 69 (by omega) (by omega)
  obtain ⟨T1, hT1⟩ : ∃ T1 : Nat, (T : Int) + 1 = (T1 : Int) := ⟨T + 1, by omega⟩
  have HT1 : Hid (T1 = T + 1) := by show _ = _; omega
  obtain ⟨wA, hwA⟩ : ∃ wA, wA = w.setCell ⟨NB, 69, none⟩ (.int .i64 (T1 : Int)) := ⟨_, rfl⟩
  have HA : Hid (wA.ownsRow base 71 1 (.slice p n n) n xs) := by rw [hwA]; exact ownsRow_setOther hv _ _ _ h.le.2.1
  have HwA := hideB hwA
  have hcT : wA.cell? ⟨NB, 69, none⟩ = some (.int .i64 (T1 : Int)) := by rw [hwA]; exact cell_setCell_eq _ _ _ _ _ c1
  have HFU : Hid (∀ wr, wr.ownsRow base 71 1 (.slice p n n) n (kW.marks T1 n) → Chg (fun k => (Value.slice p n n).ownBlock = some k) wA wr → FullSt kW w NB base rb ro E A T1 D U n p wr) := fun wr h1 h2 =>
    FullSt.of h hC (by decide) (by decide) (by decide) (by have := HT1.out; omega) hv hap h1 (by rw [← hwA]; exact h2)
  have Hbl := hideB hbl
  have hT1b : T1 ≤ 1000000 := by have := HT1.out; omega
  clear h hC hv hap hbl
  go_enter Tryz.func35, Tryz.ntmps35
  go_wp2_with fail
  rw [← hwA]
  clear hwA c1 f1
  refine (markW_any T1 wA hT1b).mono ?_
  rintro e wn ⟨rfl, hwn⟩
  have hwn := hwn.symm
  subst hwn
  obtain ⟨mv, hmv⟩ : ∃ mv : Int, mv = ((T1 * 1048576 : Nat) : Int) := ⟨_, rfl⟩
  rw [← hmv]
  have HMV : Hid (∀ i, kW.mv T1 i = .int .u64 mv) := fun i => by rw [hmv]; rfl
  clear hmv
  go_wp2_with fail
  clear hcT
  go_loopw [6] (fun ti wr => ∃ i : Nat, i ≤ n ∧ ti = .int .i64 i ∧ Hid (wr.ownsRow base 71 1 (.slice p n n) n (kW.marks T1 i ++ xs.drop i) ∧ Chg (fun k => (Value.slice p n n).ownBlock = some k) wA wr)) (fun ti _ => n - (intOf ti).toNat)
  case atStart => exact ⟨0, by omega, rfl, ⟨by simpa [Kd.marks] using HA.out, Chg.refl _ _⟩⟩
  case round =>
    obtain ⟨i, hi, rfl, HS⟩ := hrel
    by_cases hlt : i < n
    · have hlt' : (i : Int) < (n : Int) := by omega
      obtain ⟨g, rfl, hg1, hg2, _⟩ := row_at HS.out.1 rfl (by omega)
      obtain ⟨⟨y, hc⟩, hf⟩ := row_store HS.out.1 i hlt
      have HN : Hid ((wr.setCell ⟨g, i, none⟩ (.int .u64 mv)).ownsRow base 71 1 (.slice (some ⟨g, 0, none⟩) n n) n (kW.marks T1 (i + 1) ++ xs.drop (i + 1)) ∧ Chg (fun k => (Value.slice (some ⟨g, 0, none⟩) n n).ownBlock = some k) wA (wr.setCell ⟨g, i, none⟩ (.int .u64 mv))) := by
        have := fill_step (K := kW) HS.out.1 hlt Hbl.out
        rw [HMV.out i] at this
        exact ⟨this, HS.out.2.trans' (Chg.set _ _ _ _ rfl)⟩
      clear HS
      go_wp2_with fail
      go_roundw
      case rel => exact ⟨i + 1, by omega, by simp, HN.out⟩
      case measure => simp [intOf]; omega
    · obtain rfl : n = i := by omega
      have hdrop : xs.drop n = [] := List.drop_eq_nil_of_le (by have := Hbl.out; omega)
      have vB : wr.ownsRow base 71 1 (.slice p n n) n (kW.marks T1 n) := by have := HS.out.1; rwa [hdrop, List.append_nil] at this
      have HF := hideB (HFU.out wr vB HS.out.2)
      have cU := HF.out.com.used
      have fU := HF.out.com.fz 71 (by omega) (by omega)
      have hUle := HF.out.com.le.2
      obtain ⟨xx, hxx⟩ : ∃ xx : Nat, (8000 : Int) + 300 * (n : Int) = (xx : Int) := ⟨8000 + 300 * n, by omega⟩
      have hxx2 : xx ≤ 100000000 := by omega
      clear HS hdrop vB HFU
      by_cases htight : 16777216 < U + xx
      · have HTi := hideB (tight_yes NB xx U wr cU htight (by omega))
        clear cU fU
        go_wp2_with fail
        refine HTi.out.mono ?_
        rintro e w1 ⟨rfl, hw1⟩
        have hw1 := hw1.symm
        subst hw1
        go_wp2_with fail
        refine bodyPost_ret (v := .tuple #[]) (results_none rfl _ _ _) rfl ⟨rfl, ?_⟩
        have := HF.out
        rw [HT1.out] at this
        exact this.no
      · have HTi := hideB (tight_no NB xx U wr cU fU (by omega))
        clear cU fU
        go_wp2_with fail
        refine HTi.out.mono ?_
        rintro e wC ⟨rfl, hwC⟩
        have HFC : Hid (FullSt kW w NB base rb ro E A T1 D (U + xx) n p wC) := by rw [hwC]; exact HF.out.setU (by decide) (U + xx) (by omega)
        obtain ⟨vb, b1, b2, b3⟩ := HFC.out.st.rows
        obtain ⟨vo, q1, q2, q3⟩ := HFC.out.st.nums
        have b1 : wC.cell? ⟨NB, 12, none⟩ = some vb := b1
        have q1 : wC.cell? ⟨NB, 13, none⟩ = some vo := q1
        have f0 : wC.frozen? ⟨NB, 12, none⟩ = false := HFC.out.st.fz 0 (by omega)
        have f1 : wC.frozen? ⟨NB, 13, none⟩ = false := HFC.out.st.fz 1 (by omega)
        have hbC : base ≤ wC.heap.size := Nat.le_trans hbase HFC.out.chg.size
        have hNb := HFC.out.st.le.2.1
        have Hn : Hid (rb ≠ some NB ∧ ro ≠ some NB ∧ vb.ownBlock = rb ∧ vo.ownBlock = ro ∧ NB < base) := ⟨fun hh => by have := (row_ge b2 (b3.trans hh)).1; omega, fun hh => by have := (row_ge q2 (q3.trans hh)).1; omega, b3, q3, hNb⟩
        have HR1 : Hid (wC.ownsRow base 54 1 vb E.length (E.map Ent.v)) := b2
        have HR2 : Hid (wC.ownsRow base 3 1 vo E.length (numsV E)) := q2
        obtain ⟨i29, h29⟩ := infoW
        obtain ⟨i3, h3⟩ := infoI
        have H29 := hideB h29
        have H3 := hideB h3
        clear hwC b2 b3 q2 q3 HF h29 h3 HTi
        go_wp2_with (at_builtin; refine wpList_append_lies _ rfl _ _ _ rfl base 54 i29 (.slice none 0 0) 1 24 Tryz.underlying22 H29.out.1 H29.out.2.1 H29.out.2.2.1 H29.out.2.2.2 rfl (by decide) vb E.length (E.map Ent.v) rfl (HR1.out.alloc _) ⟨wC.heap.size, 0, none⟩ 1 1 [.slice p n n] rfl rfl ?d2 ?d3 (by decide) ?d4 ?d5 ?d7 _ rfl ?d6)
        case d2 => intro j u hj; exact cell_newB wC _ 54 j u hj
        case d3 => intro u hu; simp at hu; subst hu; rfl
        case d4 => unfold maxLen; omega
        case d5 => omega
        case d7 => simp; omega
        case d6 =>
          intro g1 cap1 wD o1 gr1 at1 lt1
          rw [Hn.out.2.2.1] at gr1 at1
          have C1 : Chg (fun k => rb = some k) wC wD := (Chg.below ((Below.refl _ _).alloc (Nat.le_refl _) _)).trans' (Chg.grown gr1 fun g hg => hg)
          have c0D := cell_chg b1 C1 Hn.out.1
          have c1D := cell_chg q1 C1 Hn.out.1
          have fD : ∀ j, wD.frozen? ⟨NB, j, none⟩ = wC.frozen? ⟨NB, j, none⟩ := fun j => World.frozen?_of_block (w := wC) (a := ⟨NB, j, none⟩) (C1.block NB (block_lt_of_cell b1) Hn.out.1)
          have f0D := (fD 12).trans f0
          have f1D := (fD 13).trans f1
          have q2D : wD.ownsRow base 3 1 vo E.length (numsV E) := ownsRow_chg HR2.out C1 (fun g hg hh => rows_ne HR2.out HR1.out (by decide) hg (Hn.out.2.2.1.trans hh))
          have HR2E : Hid ((wD.setCell ⟨NB, 12, none⟩ (Value.slice (some ⟨g1, 0, none⟩) (E.length + 1) cap1)).ownsRow base 3 1 vo E.length (numsV E)) := ownsRow_setOther q2D _ _ _ Hn.out.2.2.2.2
          have zE : (wD.setCell ⟨NB, 12, none⟩ (Value.slice (some ⟨g1, 0, none⟩) (E.length + 1) cap1)).heap.size = wD.heap.size := by simp [World.setCell]
          have hbE : base ≤ wD.heap.size := Nat.le_trans hbC C1.size
          have H1 : Hid (wD.ownsRow base 54 1 (Value.slice (some ⟨g1, 0, none⟩) (E.length + 1) cap1) (E.length + 1) (E.map Ent.v ++ [.slice p n n]) ∧ (wC.alloc (.cells #[.slice p n n] 54)).grownBy wD rb ∧ (rb = (Value.slice (some ⟨g1, 0, none⟩) (E.length + 1) cap1).ownBlock ∨ (Value.slice (some ⟨g1, 0, none⟩) (E.length + 1) cap1).ownBlock = some (wC.heap.size + 1))) := ⟨o1, gr1, by rcases at1 with at1 | at1; exact .inl at1; right; rw [at1]; simp [Value.ownBlock]⟩
          have HcE : Hid ((wD.setCell ⟨NB, 12, none⟩ (Value.slice (some ⟨g1, 0, none⟩) (E.length + 1) cap1)).cell? ⟨NB, 13, none⟩ = some vo ∧ (wD.setCell ⟨NB, 12, none⟩ (Value.slice (some ⟨g1, 0, none⟩) (E.length + 1) cap1)).frozen? ⟨NB, 13, none⟩ = false) := ⟨by rw [cell_setCell_ne _ _ _ _ _ (by omega)]; exact c1D, by rw [frozen_setCell]; exact f1D⟩
          have c1E := HcE.out.1
          have f1E := HcE.out.2
          clear o1 gr1 at1 lt1 C1 fD q2D HR2
          go_wp2_with (at_builtin; refine wpList_append_lies _ rfl _ _ _ rfl base 3 i3 (.int .i64 0) 1 8 Tryz.underlying25 H3.out.1 H3.out.2.1 H3.out.2.2.1 H3.out.2.2.2 rfl (by decide) vo E.length (numsV E) rfl (HR2E.out.alloc _) ⟨wD.heap.size, 0, none⟩ 1 1 [.int .i64 T1] rfl rfl ?e2 ?e3 (by decide) ?e4 ?e5 ?e7 _ rfl ?e6)
          case e2 => intro j u hj; have h := cell_newB (wD.setCell ⟨NB, 12, none⟩ (Value.slice (some ⟨g1, 0, none⟩) (E.length + 1) cap1)) _ 3 j u hj; rw [zE] at h; exact h
          case e3 => intro u hu; simp at hu; subst hu; rfl
          case e4 => unfold maxLen; omega
          case e5 => omega
          case e7 => simp [zE]; omega
          case e6 =>
            intro g2 cap2 wF o2 gr2 at2 lt2
            rw [Hn.out.2.2.2.1] at gr2 at2
            have C3 : Chg (fun k => ro = some k) (wD.setCell ⟨NB, 12, none⟩ (Value.slice (some ⟨g1, 0, none⟩) (E.length + 1) cap1)) wF := (Chg.below ((Below.refl _ _).alloc (Nat.le_refl _) _)).trans' (Chg.grown gr2 fun g hg => hg)
            have c1F := cell_chg HcE.out.1 C3 Hn.out.2.1
            have f1F : wF.frozen? ⟨NB, 13, none⟩ = false := (World.frozen?_of_block (w := wD.setCell ⟨NB, 12, none⟩ (Value.slice (some ⟨g1, 0, none⟩) (E.length + 1) cap1)) (a := ⟨NB, 13, none⟩) (C3.block NB (block_lt_of_cell HcE.out.1) Hn.out.2.1)).trans HcE.out.2
            have HFF : Hid (AddPost kW w NB base rb ro E A T D ⟨.slice p n n, n, T + 1⟩ (wF.setCell ⟨NB, 13, none⟩ (.slice (some ⟨g2, 0, none⟩) (E.length + 1) cap2))) := by
              have hh := HFC.out
              rw [HT1.out] at hh o2
              exact hh.added (by decide) (by decide) (by decide) (by decide) (by omega) (by omega) H1.out.1 H1.out.2.1 H1.out.2.2 rfl o2 gr2 (by rcases at2 with at2 | at2; exact .inl at2; right; rw [at2]; simp [Value.ownBlock, zE]) rfl
            clear o2 gr2 at2 lt2 C3
            go_wp2_with fail
            go_end0
            exact ⟨rfl, HFF.out⟩

end Go.Proofs.YtnjcedlbdjidiaaGreatDoor

namespace Go.Proofs.YtnjcedlbdjidiaaGreatDoor
open Go.RowKit
open M
set_option linter.unusedVariables false
set_option linter.unusedSimpArgs false

/-- Lists of uint32s. -/
def kS : Kd := ⟨5, 80, 57, fun m _ => .int .u32 ((m * 256 : Nat) : Int)⟩

theorem infoS : ∃ i, Tryz.prog.info? 57 = some i ∧ i.zero = some (.slice none 0 0) ∧ i.size = 1 ∧ i.bytes = 24 := by
  have hz : (Tryz.prog.info? 57).bind (·.zero) = some (.slice none 0 0) := by kernel_rfl
  have hs : (Tryz.prog.info? 57).map (·.size) = some 1 := by kernel_rfl
  have hb : (Tryz.prog.info? 57).map (·.bytes) = some 24 := by kernel_rfl
  cases hi : Tryz.prog.info? 57 with
  | none => simp [hi] at hs
  | some i =>
    simp only [hi, Option.bind_some, Option.map_some, Option.some.injEq] at hz hs hb
    exact ⟨i, rfl, hz, hs, hb⟩

theorem markS_any (m : Nat) (w : World) (hm : m ≤ 1000000) : Calls Tryz.prog 55 #[.int .i64 m] w fun e w' => e = .returned (.int .u32 ((m * 256 : Nat) : Int)) ∧ w' = w := by
  obtain ⟨y, hy⟩ : ∃ y : Nat, m * 256 = y := ⟨_, rfl⟩
  rw [hy]
  have q1 : (m : Int) * 256 = (y : Int) := by omega
  have q2 : IntKind.u32.wrap (m : Int) = (m : Int) := by rw [IntKind.wrap_u32]; omega
  have q3 : IntKind.u32.wrap (y : Int) = (y : Int) := by rw [IntKind.wrap_u32]; omega
  clear hy
  go_enter Tryz.func55, Tryz.ntmps55
  go_wp2
  go_ret
  refine ⟨?_, rfl⟩
  first | rfl | (congr 2; first | omega | (simp; omega))

set_option maxRecDepth 100000 in
set_option maxHeartbeats 8000000 in
theorem addS_any (NB base : Nat) (rb ro : Option Nat) (E : List Ent) (A T D U n : Nat) (p : Option Addr) (xs : List Value) (w : World) (h : KSt kS w NB base rb ro E A) (hC : Com w NB T D U) (hv : w.ownsRow base 80 1 (.slice p n n) n xs) (hn : n ≤ 50000) (hT : T < 1000000) (hE : E.length < 1000000) (hbase : base ≤ w.heap.size)
    (hap : ∀ e ∈ E, ∀ g, (Value.slice p n n).ownBlock = some g → e.v.ownBlock ≠ some g) :
    Calls Tryz.prog 36 #[.pointer (some ⟨NB, 0, none⟩), .slice p n n] w fun q w' => q = .returned (.tuple #[]) ∧ AddPost kS w NB base rb ro E A T D ⟨.slice p n n, n, T + 1⟩ w' := by
  have hbl : xs.length = n := by have := hv.1; simpa using this
  have c1 := hC.turn
  have f1 := hC.fz 69 (by omega) (by omega)
  obtain ⟨T1, hT1⟩ : ∃ T1 : Nat, (T : Int) + 1 = (T1 : Int) := ⟨T + 1, by omega⟩
  have HT1 : Hid (T1 = T + 1) := by show _ = _; omega
  obtain ⟨wA, hwA⟩ : ∃ wA, wA = w.setCell ⟨NB, 69, none⟩ (.int .i64 (T1 : Int)) := ⟨_, rfl⟩
  have HA : Hid (wA.ownsRow base 80 1 (.slice p n n) n xs) := by rw [hwA]; exact ownsRow_setOther hv _ _ _ h.le.2.1
  have HwA := hideB hwA
  have hcT : wA.cell? ⟨NB, 69, none⟩ = some (.int .i64 (T1 : Int)) := by rw [hwA]; exact cell_setCell_eq _ _ _ _ _ c1
  have HFU : Hid (∀ wr, wr.ownsRow base 80 1 (.slice p n n) n (kS.marks T1 n) → Chg (fun k => (Value.slice p n n).ownBlock = some k) wA wr → FullSt kS w NB base rb ro E A T1 D U n p wr) := fun wr h1 h2 =>
    FullSt.of h hC (by decide) (by decide) (by decide) (by have := HT1.out; omega) hv hap h1 (by rw [← hwA]; exact h2)
  have Hbl := hideB hbl
  have hT1b : T1 ≤ 1000000 := by have := HT1.out; omega
  clear h hC hv hap hbl
  go_enter Tryz.func36, Tryz.ntmps36
  go_wp2_with fail
  rw [← hwA]
  clear hwA c1 f1
  refine (markS_any T1 wA hT1b).mono ?_
  rintro e wn ⟨rfl, hwn⟩
  have hwn := hwn.symm
  subst hwn
  obtain ⟨mv, hmv⟩ : ∃ mv : Int, mv = ((T1 * 256 : Nat) : Int) := ⟨_, rfl⟩
  rw [← hmv]
  have HMV : Hid (∀ i, kS.mv T1 i = .int .u32 mv) := fun i => by rw [hmv]; rfl
  clear hmv
  go_wp2_with fail
  clear hcT
  go_loopw [6] (fun ti wr => ∃ i : Nat, i ≤ n ∧ ti = .int .i64 i ∧ Hid (wr.ownsRow base 80 1 (.slice p n n) n (kS.marks T1 i ++ xs.drop i) ∧ Chg (fun k => (Value.slice p n n).ownBlock = some k) wA wr)) (fun ti _ => n - (intOf ti).toNat)
  case atStart => exact ⟨0, by omega, rfl, ⟨by simpa [Kd.marks] using HA.out, Chg.refl _ _⟩⟩
  case round =>
    obtain ⟨i, hi, rfl, HS⟩ := hrel
    by_cases hlt : i < n
    · have hlt' : (i : Int) < (n : Int) := by omega
      obtain ⟨g, rfl, hg1, hg2, _⟩ := row_at HS.out.1 rfl (by omega)
      obtain ⟨⟨y, hc⟩, hf⟩ := row_store HS.out.1 i hlt
      have HN : Hid ((wr.setCell ⟨g, i, none⟩ (.int .u32 mv)).ownsRow base 80 1 (.slice (some ⟨g, 0, none⟩) n n) n (kS.marks T1 (i + 1) ++ xs.drop (i + 1)) ∧ Chg (fun k => (Value.slice (some ⟨g, 0, none⟩) n n).ownBlock = some k) wA (wr.setCell ⟨g, i, none⟩ (.int .u32 mv))) := by
        have := fill_step (K := kS) HS.out.1 hlt Hbl.out
        rw [HMV.out i] at this
        exact ⟨this, HS.out.2.trans' (Chg.set _ _ _ _ rfl)⟩
      clear HS
      go_wp2_with fail
      go_roundw
      case rel => exact ⟨i + 1, by omega, by simp, HN.out⟩
      case measure => simp [intOf]; omega
    · obtain rfl : n = i := by omega
      have hdrop : xs.drop n = [] := List.drop_eq_nil_of_le (by have := Hbl.out; omega)
      have vB : wr.ownsRow base 80 1 (.slice p n n) n (kS.marks T1 n) := by have := HS.out.1; rwa [hdrop, List.append_nil] at this
      have HF := hideB (HFU.out wr vB HS.out.2)
      have cU := HF.out.com.used
      have fU := HF.out.com.fz 71 (by omega) (by omega)
      have hUle := HF.out.com.le.2
      obtain ⟨xx, hxx⟩ : ∃ xx : Nat, (8000 : Int) + 300 * (n : Int) = (xx : Int) := ⟨8000 + 300 * n, by omega⟩
      have hxx2 : xx ≤ 100000000 := by omega
      clear HS hdrop vB HFU
      by_cases htight : 16777216 < U + xx
      · have HTi := hideB (tight_yes NB xx U wr cU htight (by omega))
        clear cU fU
        go_wp2_with fail
        refine HTi.out.mono ?_
        rintro e w1 ⟨rfl, hw1⟩
        have hw1 := hw1.symm
        subst hw1
        go_wp2_with fail
        refine bodyPost_ret (v := .tuple #[]) (results_none rfl _ _ _) rfl ⟨rfl, ?_⟩
        have := HF.out
        rw [HT1.out] at this
        exact this.no
      · have HTi := hideB (tight_no NB xx U wr cU fU (by omega))
        clear cU fU
        go_wp2_with fail
        refine HTi.out.mono ?_
        rintro e wC ⟨rfl, hwC⟩
        have HFC : Hid (FullSt kS w NB base rb ro E A T1 D (U + xx) n p wC) := by rw [hwC]; exact HF.out.setU (by decide) (U + xx) (by omega)
        obtain ⟨vb, b1, b2, b3⟩ := HFC.out.st.rows
        obtain ⟨vo, q1, q2, q3⟩ := HFC.out.st.nums
        have b1 : wC.cell? ⟨NB, 15, none⟩ = some vb := b1
        have q1 : wC.cell? ⟨NB, 16, none⟩ = some vo := q1
        have f0 : wC.frozen? ⟨NB, 15, none⟩ = false := HFC.out.st.fz 0 (by omega)
        have f1 : wC.frozen? ⟨NB, 16, none⟩ = false := HFC.out.st.fz 1 (by omega)
        have hbC : base ≤ wC.heap.size := Nat.le_trans hbase HFC.out.chg.size
        have hNb := HFC.out.st.le.2.1
        have Hn : Hid (rb ≠ some NB ∧ ro ≠ some NB ∧ vb.ownBlock = rb ∧ vo.ownBlock = ro ∧ NB < base) := ⟨fun hh => by have := (row_ge b2 (b3.trans hh)).1; omega, fun hh => by have := (row_ge q2 (q3.trans hh)).1; omega, b3, q3, hNb⟩
        have HR1 : Hid (wC.ownsRow base 57 1 vb E.length (E.map Ent.v)) := b2
        have HR2 : Hid (wC.ownsRow base 3 1 vo E.length (numsV E)) := q2
        obtain ⟨i29, h29⟩ := infoS
        obtain ⟨i3, h3⟩ := infoI
        have H29 := hideB h29
        have H3 := hideB h3
        clear hwC b2 b3 q2 q3 HF h29 h3 HTi
        go_wp2_with (at_builtin; refine wpList_append_lies _ rfl _ _ _ rfl base 57 i29 (.slice none 0 0) 1 24 Tryz.underlying23 H29.out.1 H29.out.2.1 H29.out.2.2.1 H29.out.2.2.2 rfl (by decide) vb E.length (E.map Ent.v) rfl (HR1.out.alloc _) ⟨wC.heap.size, 0, none⟩ 1 1 [.slice p n n] rfl rfl ?d2 ?d3 (by decide) ?d4 ?d5 ?d7 _ rfl ?d6)
        case d2 => intro j u hj; exact cell_newB wC _ 57 j u hj
        case d3 => intro u hu; simp at hu; subst hu; rfl
        case d4 => unfold maxLen; omega
        case d5 => omega
        case d7 => simp; omega
        case d6 =>
          intro g1 cap1 wD o1 gr1 at1 lt1
          rw [Hn.out.2.2.1] at gr1 at1
          have C1 : Chg (fun k => rb = some k) wC wD := (Chg.below ((Below.refl _ _).alloc (Nat.le_refl _) _)).trans' (Chg.grown gr1 fun g hg => hg)
          have c0D := cell_chg b1 C1 Hn.out.1
          have c1D := cell_chg q1 C1 Hn.out.1
          have fD : ∀ j, wD.frozen? ⟨NB, j, none⟩ = wC.frozen? ⟨NB, j, none⟩ := fun j => World.frozen?_of_block (w := wC) (a := ⟨NB, j, none⟩) (C1.block NB (block_lt_of_cell b1) Hn.out.1)
          have f0D := (fD 15).trans f0
          have f1D := (fD 16).trans f1
          have q2D : wD.ownsRow base 3 1 vo E.length (numsV E) := ownsRow_chg HR2.out C1 (fun g hg hh => rows_ne HR2.out HR1.out (by decide) hg (Hn.out.2.2.1.trans hh))
          have HR2E : Hid ((wD.setCell ⟨NB, 15, none⟩ (Value.slice (some ⟨g1, 0, none⟩) (E.length + 1) cap1)).ownsRow base 3 1 vo E.length (numsV E)) := ownsRow_setOther q2D _ _ _ Hn.out.2.2.2.2
          have zE : (wD.setCell ⟨NB, 15, none⟩ (Value.slice (some ⟨g1, 0, none⟩) (E.length + 1) cap1)).heap.size = wD.heap.size := by simp [World.setCell]
          have hbE : base ≤ wD.heap.size := Nat.le_trans hbC C1.size
          have H1 : Hid (wD.ownsRow base 57 1 (Value.slice (some ⟨g1, 0, none⟩) (E.length + 1) cap1) (E.length + 1) (E.map Ent.v ++ [.slice p n n]) ∧ (wC.alloc (.cells #[.slice p n n] 57)).grownBy wD rb ∧ (rb = (Value.slice (some ⟨g1, 0, none⟩) (E.length + 1) cap1).ownBlock ∨ (Value.slice (some ⟨g1, 0, none⟩) (E.length + 1) cap1).ownBlock = some (wC.heap.size + 1))) := ⟨o1, gr1, by rcases at1 with at1 | at1; exact .inl at1; right; rw [at1]; simp [Value.ownBlock]⟩
          have HcE : Hid ((wD.setCell ⟨NB, 15, none⟩ (Value.slice (some ⟨g1, 0, none⟩) (E.length + 1) cap1)).cell? ⟨NB, 16, none⟩ = some vo ∧ (wD.setCell ⟨NB, 15, none⟩ (Value.slice (some ⟨g1, 0, none⟩) (E.length + 1) cap1)).frozen? ⟨NB, 16, none⟩ = false) := ⟨by rw [cell_setCell_ne _ _ _ _ _ (by omega)]; exact c1D, by rw [frozen_setCell]; exact f1D⟩
          have c1E := HcE.out.1
          have f1E := HcE.out.2
          clear o1 gr1 at1 lt1 C1 fD q2D HR2
          go_wp2_with (at_builtin; refine wpList_append_lies _ rfl _ _ _ rfl base 3 i3 (.int .i64 0) 1 8 Tryz.underlying25 H3.out.1 H3.out.2.1 H3.out.2.2.1 H3.out.2.2.2 rfl (by decide) vo E.length (numsV E) rfl (HR2E.out.alloc _) ⟨wD.heap.size, 0, none⟩ 1 1 [.int .i64 T1] rfl rfl ?e2 ?e3 (by decide) ?e4 ?e5 ?e7 _ rfl ?e6)
          case e2 => intro j u hj; have h := cell_newB (wD.setCell ⟨NB, 15, none⟩ (Value.slice (some ⟨g1, 0, none⟩) (E.length + 1) cap1)) _ 3 j u hj; rw [zE] at h; exact h
          case e3 => intro u hu; simp at hu; subst hu; rfl
          case e4 => unfold maxLen; omega
          case e5 => omega
          case e7 => simp [zE]; omega
          case e6 =>
            intro g2 cap2 wF o2 gr2 at2 lt2
            rw [Hn.out.2.2.2.1] at gr2 at2
            have C3 : Chg (fun k => ro = some k) (wD.setCell ⟨NB, 15, none⟩ (Value.slice (some ⟨g1, 0, none⟩) (E.length + 1) cap1)) wF := (Chg.below ((Below.refl _ _).alloc (Nat.le_refl _) _)).trans' (Chg.grown gr2 fun g hg => hg)
            have c1F := cell_chg HcE.out.1 C3 Hn.out.2.1
            have f1F : wF.frozen? ⟨NB, 16, none⟩ = false := (World.frozen?_of_block (w := wD.setCell ⟨NB, 15, none⟩ (Value.slice (some ⟨g1, 0, none⟩) (E.length + 1) cap1)) (a := ⟨NB, 16, none⟩) (C3.block NB (block_lt_of_cell HcE.out.1) Hn.out.2.1)).trans HcE.out.2
            have HFF : Hid (AddPost kS w NB base rb ro E A T D ⟨.slice p n n, n, T + 1⟩ (wF.setCell ⟨NB, 16, none⟩ (.slice (some ⟨g2, 0, none⟩) (E.length + 1) cap2))) := by
              have hh := HFC.out
              rw [HT1.out] at hh o2
              exact hh.added (by decide) (by decide) (by decide) (by decide) (by omega) (by omega) H1.out.1 H1.out.2.1 H1.out.2.2 rfl o2 gr2 (by rcases at2 with at2 | at2; exact .inl at2; right; rw [at2]; simp [Value.ownBlock, zE]) rfl
            clear o2 gr2 at2 lt2 C3
            go_wp2_with fail
            go_end0
            exact ⟨rfl, HFF.out⟩

end Go.Proofs.YtnjcedlbdjidiaaGreatDoor

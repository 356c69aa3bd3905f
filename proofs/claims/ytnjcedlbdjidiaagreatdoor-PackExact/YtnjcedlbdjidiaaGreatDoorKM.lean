/- The law's Late: what it holds, Add. -/
import Derived.Test.YtnjcedlbdjidiaaGreatDoorKN
import Derived.Test.YtnjcedlbdjidiaaGreatDoorKCS
import Derived.Deep.AppendLies
import Derived.Test.YtnjcedlbdjidiaaGreatDoorKCB
import Derived.Test.YtnjcedlbdjidiaaGreatDoorKEW
import Derived.BigQuiet
import Derived.Test.YtnjcedlbdjidiaaGreatDoorB1T
import Derived.Lib.ConvBytes
/- The Book's lists of uint32s grow. -/
namespace Go.Proofs.YtnjcedlbdjidiaaGreatDoor
open Go.RowKit
open M
set_option linter.unusedVariables false
set_option linter.unusedSimpArgs false

theorem infoES : ∃ i, Tryz.prog.info? 80 = some i ∧ i.zero = some (.int .u32 0) ∧ i.size = 1 ∧ i.bytes = 4 := by
  have hz : (Tryz.prog.info? 80).bind (·.zero) = some (.int .u32 0) := by kernel_rfl
  have hs : (Tryz.prog.info? 80).map (·.size) = some 1 := by kernel_rfl
  have hb : (Tryz.prog.info? 80).map (·.bytes) = some 4 := by kernel_rfl
  cases hi : Tryz.prog.info? 80 with
  | none => simp [hi] at hs
  | some i =>
    simp only [hi, Option.bind_some, Option.map_some, Option.some.injEq] at hz hs hb
    exact ⟨i, rfl, hz, hs, hb⟩

/-- append of one where there is room. -/
theorem roomS {w : World} {ops : Array Oper} {rest : List Oper} {o : Oper} {a : Act} {Q : Exit → Act → World → Prop} (hg : o.guard = none) (s x : Operand) (hop : o.op = Op.call { callee := Callee.builtin Builtin.append, args := #[s, x], argTypes := #[57, 57] })
    {base g L cap : Nat} {xs : List Value} (y : Int) (hs : a.eval s = .slice (some ⟨g, 0, none⟩) L cap) (hrow : w.ownsRow base 80 1 (.slice (some ⟨g, 0, none⟩) L cap) L xs) (ad : Addr) (hx : a.eval x = .slice (some ad) 1 1) (hc : ∀ j u, ([.int .u32 y] : List Value)[j]? = some u → w.cell? (ad.add j) = some u) (hroom : L + 1 ≤ cap) (hL : L ≤ 1000000)
    (h : Hid (∀ w', Hid (w' = w.setCell ⟨g, L, none⟩ (.int .u32 y)) → wpList Tryz.prog ops Q rest (a.put o.dst (.slice (some ⟨g, 0, none⟩) (L + 1) cap)) w')) : wpList Tryz.prog ops Q (o :: rest) a w := by
  obtain ⟨i5, h1, h2, h3, h4⟩ := infoES
  refine wpList_append_arg w hg s x 57 hop 80 i5 (.int .u32 0) 1 4 Tryz.underlying57 h1 h2 h3 h4 rfl (by decide) g 0 L cap xs hs (by simpa using hrow.1) ?_ ad 1 1 [.int .u32 y] hx rfl hc (by intro u hu; simp at hu; subst hu; rfl) ?_ (by unfold maxLen; omega) (by omega) (fun _ => ?_) (fun h9 => by omega)
  · intro j u hj
    obtain ⟨_, _, _, _, _, h5⟩ := row_form hrow
    rw [Nat.zero_add]; exact (h5 g rfl).2.2.2 j u hj
  · intro _ j hj
    have hj0 : j = 0 := by simp at hj; omega
    subst hj0
    simpa using (row_next hrow (.int .u32 0) hroom).2
  · exact h.out _ (by rw [Nat.zero_add, Nat.mul_one]; rfl)

/-- append of one where there is none. -/
theorem fullS {w : World} {ops : Array Oper} {rest : List Oper} {o : Oper} {a : Act} {Q : Exit → Act → World → Prop} (hg : o.guard = none) (s x : Operand) (hop : o.op = Op.call { callee := Callee.builtin Builtin.append, args := #[s, x], argTypes := #[57, 57] })
    {base L cap : Nat} {p : Option Addr} {xs : List Value} (y : Int) (hs : a.eval s = .slice p L cap) (hrow : w.ownsRow base 80 1 (.slice p L cap) L xs) (ad : Addr) (hx : a.eval x = .slice (some ad) 1 1) (hc : ∀ j u, ([.int .u32 y] : List Value)[j]? = some u → w.cell? (ad.add j) = some u) (hfull : cap < L + 1) (hL : L ≤ 1000000)
    (h : Hid (∀ v' w', w'.ownsRow w.heap.size 80 1 v' (L + 1) (xs ++ [.int .u32 y]) → w.grownBy w' none → wpList Tryz.prog ops Q rest (a.put o.dst v') w')) : wpList Tryz.prog ops Q (o :: rest) a w := by
  obtain ⟨i5, h1, h2, h3, h4⟩ := infoES
  refine wpList_append_grows w hg s x 57 hop 80 i5 (.int .u32 0) 1 4 Tryz.underlying57 h1 h2 h3 h4 rfl (by decide) p L cap xs hs ?_ (by simpa using hrow.1) ?_ ad 1 1 [.int .u32 y] hx rfl hc (by intro u hu; simp at hu; subst hu; rfl) hfull (by unfold maxLen; omega) (by omega) h.out
  · intro h0
    obtain ⟨_, _, hv, h5, h6, _⟩ := row_form hrow
    simp only [Value.slice.injEq] at hv
    have := h6 (hv.1 ▸ h0)
    omega
  · intro bb hbb j u hj
    obtain ⟨g, rfl⟩ : ∃ g, bb = ⟨g, 0, none⟩ := by
      rcases hrow.2 with ⟨h8, _⟩ | ⟨g, c9, cur, h8, _⟩
      · simp only [Value.slice.injEq] at h8; rw [h8.1] at hbb; simp at hbb
      · simp only [Value.slice.injEq] at h8; rw [h8.1] at hbb; simp only [Option.some.injEq] at hbb; exact ⟨g, hbb.symm⟩
    subst hbb
    obtain ⟨_, _, _, _, _, h5⟩ := row_form hrow
    rw [Addr.add_mid, Nat.zero_add]
    exact (h5 g rfl).2.2.2 j u hj

/-- append of one slice to a row of them. -/
theorem listsS {w : World} {ops : Array Oper} {rest : List Oper} {o : Oper} {a : Act} {Q : Exit → Act → World → Prop} (hg : o.guard = none) (s x : Operand) (hop : o.op = Op.call { callee := Callee.builtin Builtin.append, args := #[s, x], argTypes := #[23, 23] })
    {base n : Nat} {v : Value} {xs : List Value} (y : Value) (hy : y.oneCell' = true) (hs : a.eval s = v) (hrow : w.ownsRow base 57 1 v n xs) (ad : Addr) (hx : a.eval x = .slice (some ad) 1 1) (hc : ∀ j u, ([y] : List Value)[j]? = some u → w.cell? (ad.add j) = some u) (hn : n ≤ 100000000) (hb : base ≤ w.heap.size)
    (h : Hid (∀ g cap w', w'.ownsRow base 57 1 (.slice (some ⟨g, 0, none⟩) (n + 1) cap) (n + 1) (xs ++ [y]) → w.grownBy w' v.ownBlock → (v.ownBlock = some g ∨ g = w.heap.size) → wpList Tryz.prog ops Q rest (a.put o.dst (.slice (some ⟨g, 0, none⟩) (n + 1) cap)) w')) : wpList Tryz.prog ops Q (o :: rest) a w := by
  obtain ⟨i, h1, h2, h3, h4⟩ := infoS
  exact wpList_append_lies w hg s x 23 hop base 57 i (.slice none 0 0) 1 24 Tryz.underlying23 h1 h2 h3 h4 rfl (by decide) v n xs hs hrow ad 1 1 [y] hx rfl hc (by intro u hu; simp at hu; subst hu; exact hy) (by decide) (by unfold maxLen; omega) (by omega) hb _ rfl (fun g cap w' k1 k2 k3 k4 => h.out g cap w' k1 k2 k3)

/-- append of one number to a row of them. -/
theorem numsS {w : World} {ops : Array Oper} {rest : List Oper} {o : Oper} {a : Act} {Q : Exit → Act → World → Prop} (hg : o.guard = none) (s x : Operand) (hop : o.op = Op.call { callee := Callee.builtin Builtin.append, args := #[s, x], argTypes := #[25, 25] })
    {base n : Nat} {v : Value} {xs : List Value} (y : Value) (hy : y.oneCell' = true) (hs : a.eval s = v) (hrow : w.ownsRow base 3 1 v n xs) (ad : Addr) (hx : a.eval x = .slice (some ad) 1 1) (hc : ∀ j u, ([y] : List Value)[j]? = some u → w.cell? (ad.add j) = some u) (hn : n ≤ 100000000) (hb : base ≤ w.heap.size)
    (h : Hid (∀ g cap w', w'.ownsRow base 3 1 (.slice (some ⟨g, 0, none⟩) (n + 1) cap) (n + 1) (xs ++ [y]) → w.grownBy w' v.ownBlock → (v.ownBlock = some g ∨ g = w.heap.size) → wpList Tryz.prog ops Q rest (a.put o.dst (.slice (some ⟨g, 0, none⟩) (n + 1) cap)) w')) : wpList Tryz.prog ops Q (o :: rest) a w := by
  obtain ⟨i, h1, h2, h3, h4⟩ := infoI
  exact wpList_append_lies w hg s x 25 hop base 3 i (.int .i64 0) 1 8 Tryz.underlying25 h1 h2 h3 h4 rfl (by decide) v n xs hs hrow ad 1 1 [y] hx rfl hc (by intro u hu; simp at hu; subst hu; exact hy) (by decide) (by unfold maxLen; omega) (by omega) hb _ rfl (fun g cap w' k1 k2 k3 k4 => h.out g cap w' k1 k2 k3)

set_option maxRecDepth 100000 in
set_option maxHeartbeats 16000000 in
theorem growS_any (NB base : Nat) (rb ro : Option Nat) (E : List Ent) (A : Nat) (w : World) (h : KSt kS w NB base rb ro E A) (hE : E.length ≤ 200000) (hbase : base ≤ w.heap.size) (hfr : ∀ i e, A ≤ i → E[i]? = some e → e.n ≤ 50000 ∧ ∃ p, e.v = .slice p e.n e.n) :
    Calls Tryz.prog 68 #[.pointer (some ⟨NB, 0, none⟩)] w fun q w' => q = .returned (.tuple #[]) ∧ GrownPost kS w NB base rb ro E A 32 w' := by
  have hA := h.le.1
  have c2 : w.cell? ⟨NB, 17, none⟩ = some (.int .i64 (A : Int)) := h.at_
  obtain ⟨vb, b1, b2, _⟩ := h.rows
  obtain ⟨pb, capb, hvb, -⟩ := row_form b2
  subst hvb
  have b1 : w.cell? ⟨NB, 15, none⟩ = some (.slice pb E.length capb) := b1
  have HS0 : Hid (GrowSt kS w NB base rb ro E A (32 * (A - A)) w) := ⟨rb, ro, [], GC.start h⟩
  have Hfr : Hid (∀ i e, A ≤ i → E[i]? = some e → e.n ≤ 50000 ∧ ∃ p, e.v = .slice p e.n e.n) := hfr
  obtain ⟨nE, hnE⟩ : ∃ nE, nE = E.length := ⟨_, rfl⟩
  have HnE : Hid (nE = E.length) := hnE
  rw [← hnE] at b1 hE hA
  clear h b2 hfr hnE
  go_enter Tryz.func68, Tryz.ntmps68
  go_wp2_with fail
  clear b1 c2
  go_loopw [3] (fun t3 wr => ∃ k : Nat, A ≤ k ∧ k ≤ nE ∧ t3 = .int .i64 k ∧ Hid (GrowSt kS w NB base rb ro E A (32 * (k - A)) wr)) (fun t3 _ => nE - (intOf t3).toNat)
  case atStart => exact ⟨A, by omega, by omega, rfl, HS0⟩
  case round =>
    obtain ⟨k, hkA, hk, rfl, HS⟩ := hrel
    by_cases hlt : k < nE
    · have hlt' : (k : Int) < (nE : Int) := by omega
      obtain ⟨e, he⟩ : ∃ e, E[k]? = some e := ⟨E[k]'(by have := HnE.out; omega), List.getElem?_eq_getElem _⟩
      obtain ⟨hn5, pe, hve⟩ := Hfr.out k e hkA he
      obtain ⟨rb', ro', X, G⟩ := HS.out
      have heX : (E ++ X)[k]? = some e := by rw [List.getElem?_append_left (by have := HnE.out; omega)]; exact he
      obtain ⟨hok, _, hm6⟩ := G.st.ok e (List.mem_of_getElem? heX)
      obtain ⟨vb, b1, b2, b3⟩ := G.st.rows
      obtain ⟨vo, q1, q2, q3⟩ := G.st.nums
      obtain ⟨pb, capb, hvb, -⟩ := row_form b2
      obtain ⟨po, capo, hvo, -⟩ := row_form q2
      have hlen : 0 < (E ++ X).length := by rw [List.length_append, ← HnE.out]; omega
      obtain ⟨gb, rfl, _, _, hb4⟩ := row_at b2 hvb hlen
      obtain ⟨go, rfl, _, _, hq4⟩ := row_at q2 hvo hlen
      have d1 : wr.cell? ⟨gb, k, none⟩ = some (.slice pe e.n e.n) := by rw [hb4 k e.v (by simp only [List.getElem?_map, heX, Option.map_some]), hve]
      have d2 : wr.cell? ⟨go, k, none⟩ = some (.int .i64 (e.m : Int)) := hq4 k _ (by simp only [numsV, List.getElem?_map, heX, Option.map_some])
      rw [hvb] at b1
      rw [hvo] at q1
      have b1 : wr.cell? ⟨NB, 15, none⟩ = some (.slice (some ⟨gb, 0, none⟩) (E ++ X).length capb) := b1
      have q1 : wr.cell? ⟨NB, 16, none⟩ = some (.slice (some ⟨go, 0, none⟩) (E ++ X).length capo) := q1
      have HI0 : Hid (InSt kS w NB base rb ro E A (32 * (k - A) + (1 - 1)) e.m (e.n + (1 - 1)) (.slice pe e.n e.n) wr) := ⟨rb', ro', X, G, by rw [← hve]; exact hok, .inl ⟨pe, rfl⟩⟩
      obtain ⟨nX, hnX⟩ : ∃ nX, nX = (E ++ X).length := ⟨_, rfl⟩
      have hnX2 : (k : Int) < (nX : Int) := by rw [hnX, List.length_append, ← HnE.out]; omega
      rw [← hnX] at b1 q1
      clear HS G heX hok b2 b3 q2 q3 hvb hvo hlen hb4 hq4 hve he hnX
      generalize e.n = n0 at *
      generalize e.m = m0 at *
      go_wp2_with fail
      clear b1 q1 d1 d2
      go_loopw [4, 6] (fun t4 t6 wr => ∃ i : Nat, 1 ≤ i ∧ i ≤ 33 ∧ t6 = .int .i64 i ∧ Hid (InSt kS w NB base rb ro E A (32 * (k - A) + (i - 1)) m0 (n0 + (i - 1)) t4 wr)) (fun _ t6 _ => 33 - (intOf t6).toNat)
      case atStart => exact ⟨1, by omega, by omega, rfl, HI0⟩
      case round =>
        obtain ⟨i, hi1, hi97, rfl, HI⟩ := hrel
        by_cases hi : i ≤ 32
        · have hi' : (i : Int) ≤ 32 := by omega
          obtain ⟨L, hL⟩ : ∃ L, L = n0 + (i - 1) := ⟨_, rfl⟩
          obtain ⟨cc, hcc⟩ : ∃ cc, cc = 32 * (k - A) + (i - 1) := ⟨_, rfl⟩
          have HI2 : Hid (InSt kS w NB base rb ro E A cc m0 L u4 wr) := by rw [hL, hcc]; exact HI.out
          have hLb : L ≤ 60000 := by omega
          have Hcb : Hid (cc ≤ 19300000) := by show _ ≤ _; omega
          have Hnx : Hid (n0 + (i + 1 - 1) = L + 1 ∧ 32 * (k - A) + (i + 1 - 1) = cc + 1) := ⟨by omega, by omega⟩
          obtain ⟨p2, cap2, hv2, hle2, hp2, _⟩ := row_form (show wr.ownsRow base 80 1 _ L _ from (by obtain ⟨_, _, _, _, h7, _⟩ := HI2.out; exact h7))
          obtain ⟨yy, hyy⟩ : ∃ yy : Int, ((m0 * 256 : Nat) : Int) = yy := ⟨_, rfl⟩
          have HAt : Hid (Calls Tryz.prog 55 #[.int .i64 m0] wr fun e w' => e = .returned (.int .u32 yy) ∧ w' = wr) := by rw [← hyy]; exact markS_any m0 wr hm6
          have Hyy : Hid (kS.mv m0 L = .int .u32 yy) := by rw [← hyy]; rfl
          subst hv2
          clear HI hL hcc hyy
          by_cases hroom : L + 1 ≤ cap2
          · obtain ⟨g, rfl⟩ : ∃ g, p2 = some ⟨g, 0, none⟩ := by
              obtain ⟨_, _, _, _, h7, _⟩ := HI2.out
              rcases h7.2 with ⟨h8, _⟩ | ⟨g, c9, cur, h8, _⟩
              · simp only [Value.slice.injEq] at h8; omega
              · simp only [Value.slice.injEq] at h8; exact ⟨g, h8.1⟩
            have HR : Hid (wr.ownsRow base 80 1 (.slice (some ⟨g, 0, none⟩) L cap2) L (kS.marks m0 L)) := (by obtain ⟨_, _, _, _, h7, _⟩ := HI2.out; exact h7)
            have HN : Hid (∀ o, InR kS w NB base rb ro E A cc m0 (L + 1) (.slice (some ⟨g, 0, none⟩) (L + 1) cap2) ((wr.alloc o).setCell ⟨g, L, none⟩ (.int .u32 yy))) := fun o => by rw [← Hyy.out]; exact HI2.out.room (by decide) (by decide) hroom
            clear HI2
            go_wp2_with fail
            refine HAt.out.mono ?_
            rintro ee w1 ⟨rfl, rfl⟩
            go_wp2_with (at_builtin; refine roomS rfl _ _ rfl yy rfl (HR.out.alloc _) ⟨w1.heap.size, 0, none⟩ rfl ?r3 ?r5 ?r6 ?r8)
            case r3 => intro j u hj; exact cell_newB w1 _ 80 j u hj
            case r5 => omega
            case r6 => omega
            case r8 =>
              show ∀ w', _
              intro wC hwC
              have HQ : Hid (InR kS w NB base rb ro E A cc m0 (L + 1) (.slice (some ⟨g, 0, none⟩) (L + 1) cap2) wC) := by rw [hwC.out]; exact HN.out _
              clear hwC HN HR
              by_cases hi4 : i < 4
              · have hi4' : (i : Int) < 4 := by omega
                obtain ⟨rb', ro', X, G, hv5, hu5⟩ := HQ.out
                obtain ⟨vb, b1, b2, b3⟩ := G.st.rows
                obtain ⟨vo, q1, q2, q3⟩ := G.st.nums
                have b1 : wC.cell? ⟨NB, 15, none⟩ = some vb := b1
                have q1 : wC.cell? ⟨NB, 16, none⟩ = some vo := q1
                have f0 : wC.frozen? ⟨NB, 15, none⟩ = false := G.st.fz 0 (by omega)
                have f1 : wC.frozen? ⟨NB, 16, none⟩ = false := G.st.fz 1 (by omega)
                have hbC : base ≤ wC.heap.size := Nat.le_trans hbase G.chg.size
                have nrb : rb' ≠ some NB := fun hh => by have := (row_ge b2 (b3.trans hh)).1; have := G.st.le.2.1; omega
                have nro : ro' ≠ some NB := fun hh => by have := (row_ge q2 (q3.trans hh)).1; have := G.st.le.2.1; omega
                have Hn : Hid (rb' ≠ some NB ∧ ro' ≠ some NB ∧ vb.ownBlock = rb' ∧ vo.ownBlock = ro' ∧ NB < base) := ⟨nrb, nro, b3, q3, G.st.le.2.1⟩
                have HR1 : Hid (wC.ownsRow base 57 1 vb (E ++ X).length ((E ++ X).map Ent.v)) := b2
                have HR2 : Hid (wC.ownsRow base 3 1 vo (E ++ X).length (numsV (E ++ X))) := q2
                have hXb : (E ++ X).length ≤ 20000000 := by rw [List.length_append, ← HnE.out]; have := Hcb.out; have := G.len; omega
                have HA5 : Hid (∀ {wD wE wF wG : World} {vb' vo' : Value} {c1 c2 : Obj}, wD.ownsRow base 57 1 vb' ((E ++ X).length + 1) ((E ++ X).map Ent.v ++ [(.slice (some ⟨g, 0, none⟩) (L + 1) cap2)]) → (wC.alloc c1).grownBy wD rb' → (rb' = vb'.ownBlock ∨ vb'.ownBlock = some (wC.heap.size + 1)) → wE = wD.setCell ⟨NB, 15, none⟩ vb' → wF.ownsRow base 3 1 vo' ((E ++ X).length + 1) (numsV (E ++ X) ++ [.int .i64 (m0 : Int)]) → (wE.alloc c2).grownBy wF ro' → (ro' = vo'.ownBlock ∨ vo'.ownBlock = some (wE.heap.size + 1)) → wG = wF.setCell ⟨NB, 16, none⟩ vo' → InSt kS w NB base rb ro E A (cc + 1) m0 (L + 1) (.slice (some ⟨g, 0, none⟩) (L + 1) cap2) wG) :=
                  fun o1 g1 a1 e1 o2 g2 a2 e2 => InSt.add (by decide) (by decide) (by decide) G hv5 hu5 (by omega) hm6 o1 g1 a1 e1 o2 g2 a2 e2
                obtain ⟨nX, hnX⟩ : ∃ nX, nX = (E ++ X).length := ⟨_, rfl⟩
                clear HQ G hv5 hu5 b2 b3 q2 q3 nrb nro
                rw [← hnX] at HR1 HR2 HA5 hXb
                clear hnX
                generalize (E ++ X).map Ent.v = ev at *
                generalize numsV (E ++ X) = em at *
                have HbC1 : Hid (base ≤ (wC.alloc (.cells #[(.slice (some ⟨g, 0, none⟩) (L + 1) cap2)] 57)).heap.size) := by show _ ≤ _; simp; omega
                have HXb : Hid (nX ≤ 100000000) := by show _ ≤ _; omega
                go_wp2_with (at_builtin; go_loud (refine listsS rfl _ _ rfl (.slice (some ⟨g, 0, none⟩) (L + 1) cap2) rfl rfl (HR1.out.alloc _) ⟨wC.heap.size, 0, none⟩ rfl (fun j u hj => cell_newB wC _ 57 j u hj) HXb.out HbC1.out ?d6))
                case d6 =>
                  show ∀ g cap w', _
                  intro g1 cap1 wD o1 gr1 at1
                  rw [Hn.out.2.2.1] at gr1 at1
                  have C1 : Chg (fun k => rb' = some k) wC wD := (Chg.below ((Below.refl _ _).alloc (Nat.le_refl _) _)).trans' (Chg.grown gr1 fun g hg => hg)
                  have c0D := cell_chg b1 C1 Hn.out.1
                  have c1D := cell_chg q1 C1 Hn.out.1
                  have fD : ∀ j, wD.frozen? ⟨NB, j, none⟩ = wC.frozen? ⟨NB, j, none⟩ := fun j => World.frozen?_of_block (w := wC) (a := ⟨NB, j, none⟩) (C1.block NB (block_lt_of_cell b1) Hn.out.1)
                  have f0D := (fD 15).trans f0
                  have f1D := (fD 16).trans f1
                  have q2D : wD.ownsRow base 3 1 vo nX em := ownsRow_chg HR2.out C1 (fun g hg hh => rows_ne HR2.out HR1.out (by decide) hg (Hn.out.2.2.1.trans hh))
                  have HR2E : Hid ((wD.setCell ⟨NB, 15, none⟩ (.slice (some ⟨g1, 0, none⟩) (nX + 1) cap1)).ownsRow base 3 1 vo nX em) := ownsRow_setOther q2D _ _ _ Hn.out.2.2.2.2
                  have zE : (wD.setCell ⟨NB, 15, none⟩ (.slice (some ⟨g1, 0, none⟩) (nX + 1) cap1)).heap.size = wD.heap.size := by simp [World.setCell]
                  have hbE : base ≤ wD.heap.size := Nat.le_trans hbC C1.size
                  have H1 : Hid (wD.ownsRow base 57 1 (.slice (some ⟨g1, 0, none⟩) (nX + 1) cap1) (nX + 1) (ev ++ [(.slice (some ⟨g, 0, none⟩) (L + 1) cap2)]) ∧ (wC.alloc (.cells #[(.slice (some ⟨g, 0, none⟩) (L + 1) cap2)] 57)).grownBy wD rb' ∧ (rb' = (Value.slice (some ⟨g1, 0, none⟩) (nX + 1) cap1).ownBlock ∨ (Value.slice (some ⟨g1, 0, none⟩) (nX + 1) cap1).ownBlock = some (wC.heap.size + 1))) := ⟨o1, gr1, by rcases at1 with at1 | at1; exact .inl at1; right; rw [at1]; simp [Value.ownBlock]⟩
                  have c1E : (wD.setCell ⟨NB, 15, none⟩ (.slice (some ⟨g1, 0, none⟩) (nX + 1) cap1)).cell? ⟨NB, 16, none⟩ = some vo := by rw [cell_setCell_ne _ _ _ _ _ (by omega)]; exact c1D
                  have f1E : (wD.setCell ⟨NB, 15, none⟩ (.slice (some ⟨g1, 0, none⟩) (nX + 1) cap1)).frozen? ⟨NB, 16, none⟩ = false := by rw [frozen_setCell]; exact f1D
                  have HcE : Hid ((wD.setCell ⟨NB, 15, none⟩ (.slice (some ⟨g1, 0, none⟩) (nX + 1) cap1)).cell? ⟨NB, 16, none⟩ = some vo ∧ (wD.setCell ⟨NB, 15, none⟩ (.slice (some ⟨g1, 0, none⟩) (nX + 1) cap1)).frozen? ⟨NB, 16, none⟩ = false) := ⟨c1E, f1E⟩
                  clear o1 gr1 at1 C1 fD q2D HR2 c1E f1E
                  have HbE1 : Hid (base ≤ ((wD.setCell ⟨NB, 15, none⟩ (.slice (some ⟨g1, 0, none⟩) (nX + 1) cap1)).alloc (.cells #[.int .i64 (m0 : Int)] 3)).heap.size) := by show _ ≤ _; simp [zE]; omega
                  have HcN : Hid (∀ j u, ([.int .i64 (m0 : Int)] : List Value)[j]? = some u → ((wD.setCell ⟨NB, 15, none⟩ (.slice (some ⟨g1, 0, none⟩) (nX + 1) cap1)).alloc (.cells #[.int .i64 (m0 : Int)] 3)).cell? ((⟨wD.heap.size, 0, none⟩ : Addr).add j) = some u) := fun j u hj => by have h := cell_newB (wD.setCell ⟨NB, 15, none⟩ (.slice (some ⟨g1, 0, none⟩) (nX + 1) cap1)) _ 3 j u hj; rw [zE] at h; exact h
                  go_wp2_with (at_builtin; refine numsS rfl _ _ rfl (.int .i64 (m0 : Int)) rfl rfl (HR2E.out.alloc _) ⟨wD.heap.size, 0, none⟩ rfl HcN.out HXb.out HbE1.out ?e6)
                  case e6 =>
                    show ∀ g cap w', _
                    intro g2 cap3 wF o2 gr2 at2
                    rw [Hn.out.2.2.2.1] at gr2 at2
                    have C3 : Chg (fun k => ro' = some k) (wD.setCell ⟨NB, 15, none⟩ (.slice (some ⟨g1, 0, none⟩) (nX + 1) cap1)) wF := (Chg.below ((Below.refl _ _).alloc (Nat.le_refl _) _)).trans' (Chg.grown gr2 fun g hg => hg)
                    have c1F := cell_chg HcE.out.1 C3 Hn.out.2.1
                    have f1F : wF.frozen? ⟨NB, 16, none⟩ = false := (World.frozen?_of_block (w := (wD.setCell ⟨NB, 15, none⟩ (.slice (some ⟨g1, 0, none⟩) (nX + 1) cap1))) (a := ⟨NB, 16, none⟩) (C3.block NB (block_lt_of_cell HcE.out.1) Hn.out.2.1)).trans HcE.out.2
                    have HF : Hid (InSt kS w NB base rb ro E A (32 * (k - A) + (i + 1 - 1)) m0 (n0 + (i + 1 - 1)) (.slice (some ⟨g, 0, none⟩) (L + 1) cap2) (wF.setCell ⟨NB, 16, none⟩ (.slice (some ⟨g2, 0, none⟩) (nX + 1) cap3))) := by
                      rw [Hnx.out.1, Hnx.out.2]
                      exact HA5.out H1.out.1 H1.out.2.1 H1.out.2.2 rfl o2 gr2 (by rcases at2 with at2 | at2; exact .inl at2; right; rw [at2]; simp [Value.ownBlock, zE]) rfl
                    clear o2 gr2 at2 C3 H1 HR2E HcE HA5 HbE1 HcN
                    go_wp2_with fail
                    go_roundw
                    case rel => exact ⟨i + 1, by omega, by omega, by go_num, HF⟩
                    case measure => simp [intOf]; omega
              · have hi4' : ¬ (i : Int) < 4 := by omega
                by_cases h16 : i % 16 = 0
                · have h16' : ((i : Int) % 16 == 0) = true := by rw [beq_iff_eq]; omega
                  obtain ⟨rb', ro', X, G, hv5, hu5⟩ := HQ.out
                  obtain ⟨vb, b1, b2, b3⟩ := G.st.rows
                  obtain ⟨vo, q1, q2, q3⟩ := G.st.nums
                  have b1 : wC.cell? ⟨NB, 15, none⟩ = some vb := b1
                  have q1 : wC.cell? ⟨NB, 16, none⟩ = some vo := q1
                  have f0 : wC.frozen? ⟨NB, 15, none⟩ = false := G.st.fz 0 (by omega)
                  have f1 : wC.frozen? ⟨NB, 16, none⟩ = false := G.st.fz 1 (by omega)
                  have hbC : base ≤ wC.heap.size := Nat.le_trans hbase G.chg.size
                  have nrb : rb' ≠ some NB := fun hh => by have := (row_ge b2 (b3.trans hh)).1; have := G.st.le.2.1; omega
                  have nro : ro' ≠ some NB := fun hh => by have := (row_ge q2 (q3.trans hh)).1; have := G.st.le.2.1; omega
                  have Hn : Hid (rb' ≠ some NB ∧ ro' ≠ some NB ∧ vb.ownBlock = rb' ∧ vo.ownBlock = ro' ∧ NB < base) := ⟨nrb, nro, b3, q3, G.st.le.2.1⟩
                  have HR1 : Hid (wC.ownsRow base 57 1 vb (E ++ X).length ((E ++ X).map Ent.v)) := b2
                  have HR2 : Hid (wC.ownsRow base 3 1 vo (E ++ X).length (numsV (E ++ X))) := q2
                  have hXb : (E ++ X).length ≤ 20000000 := by rw [List.length_append, ← HnE.out]; have := Hcb.out; have := G.len; omega
                  have HA5 : Hid (∀ {wD wE wF wG : World} {vb' vo' : Value} {c1 c2 : Obj}, wD.ownsRow base 57 1 vb' ((E ++ X).length + 1) ((E ++ X).map Ent.v ++ [(.slice (some ⟨g, 0, none⟩) (L + 1) cap2)]) → (wC.alloc c1).grownBy wD rb' → (rb' = vb'.ownBlock ∨ vb'.ownBlock = some (wC.heap.size + 1)) → wE = wD.setCell ⟨NB, 15, none⟩ vb' → wF.ownsRow base 3 1 vo' ((E ++ X).length + 1) (numsV (E ++ X) ++ [.int .i64 (m0 : Int)]) → (wE.alloc c2).grownBy wF ro' → (ro' = vo'.ownBlock ∨ vo'.ownBlock = some (wE.heap.size + 1)) → wG = wF.setCell ⟨NB, 16, none⟩ vo' → InSt kS w NB base rb ro E A (cc + 1) m0 (L + 1) (.slice (some ⟨g, 0, none⟩) (L + 1) cap2) wG) :=
                    fun o1 g1 a1 e1 o2 g2 a2 e2 => InSt.add (by decide) (by decide) (by decide) G hv5 hu5 (by omega) hm6 o1 g1 a1 e1 o2 g2 a2 e2
                  obtain ⟨nX, hnX⟩ : ∃ nX, nX = (E ++ X).length := ⟨_, rfl⟩
                  clear HQ G hv5 hu5 b2 b3 q2 q3 nrb nro
                  rw [← hnX] at HR1 HR2 HA5 hXb
                  clear hnX
                  generalize (E ++ X).map Ent.v = ev at *
                  generalize numsV (E ++ X) = em at *
                  have HbC1 : Hid (base ≤ (wC.alloc (.cells #[(.slice (some ⟨g, 0, none⟩) (L + 1) cap2)] 57)).heap.size) := by show _ ≤ _; simp; omega
                  have HXb : Hid (nX ≤ 100000000) := by show _ ≤ _; omega
                  go_wp2_with (at_builtin; go_loud (refine listsS rfl _ _ rfl (.slice (some ⟨g, 0, none⟩) (L + 1) cap2) rfl rfl (HR1.out.alloc _) ⟨wC.heap.size, 0, none⟩ rfl (fun j u hj => cell_newB wC _ 57 j u hj) HXb.out HbC1.out ?d6))
                  case d6 =>
                    show ∀ g cap w', _
                    intro g1 cap1 wD o1 gr1 at1
                    rw [Hn.out.2.2.1] at gr1 at1
                    have C1 : Chg (fun k => rb' = some k) wC wD := (Chg.below ((Below.refl _ _).alloc (Nat.le_refl _) _)).trans' (Chg.grown gr1 fun g hg => hg)
                    have c0D := cell_chg b1 C1 Hn.out.1
                    have c1D := cell_chg q1 C1 Hn.out.1
                    have fD : ∀ j, wD.frozen? ⟨NB, j, none⟩ = wC.frozen? ⟨NB, j, none⟩ := fun j => World.frozen?_of_block (w := wC) (a := ⟨NB, j, none⟩) (C1.block NB (block_lt_of_cell b1) Hn.out.1)
                    have f0D := (fD 15).trans f0
                    have f1D := (fD 16).trans f1
                    have q2D : wD.ownsRow base 3 1 vo nX em := ownsRow_chg HR2.out C1 (fun g hg hh => rows_ne HR2.out HR1.out (by decide) hg (Hn.out.2.2.1.trans hh))
                    have HR2E : Hid ((wD.setCell ⟨NB, 15, none⟩ (.slice (some ⟨g1, 0, none⟩) (nX + 1) cap1)).ownsRow base 3 1 vo nX em) := ownsRow_setOther q2D _ _ _ Hn.out.2.2.2.2
                    have zE : (wD.setCell ⟨NB, 15, none⟩ (.slice (some ⟨g1, 0, none⟩) (nX + 1) cap1)).heap.size = wD.heap.size := by simp [World.setCell]
                    have hbE : base ≤ wD.heap.size := Nat.le_trans hbC C1.size
                    have H1 : Hid (wD.ownsRow base 57 1 (.slice (some ⟨g1, 0, none⟩) (nX + 1) cap1) (nX + 1) (ev ++ [(.slice (some ⟨g, 0, none⟩) (L + 1) cap2)]) ∧ (wC.alloc (.cells #[(.slice (some ⟨g, 0, none⟩) (L + 1) cap2)] 57)).grownBy wD rb' ∧ (rb' = (Value.slice (some ⟨g1, 0, none⟩) (nX + 1) cap1).ownBlock ∨ (Value.slice (some ⟨g1, 0, none⟩) (nX + 1) cap1).ownBlock = some (wC.heap.size + 1))) := ⟨o1, gr1, by rcases at1 with at1 | at1; exact .inl at1; right; rw [at1]; simp [Value.ownBlock]⟩
                    have c1E : (wD.setCell ⟨NB, 15, none⟩ (.slice (some ⟨g1, 0, none⟩) (nX + 1) cap1)).cell? ⟨NB, 16, none⟩ = some vo := by rw [cell_setCell_ne _ _ _ _ _ (by omega)]; exact c1D
                    have f1E : (wD.setCell ⟨NB, 15, none⟩ (.slice (some ⟨g1, 0, none⟩) (nX + 1) cap1)).frozen? ⟨NB, 16, none⟩ = false := by rw [frozen_setCell]; exact f1D
                    have HcE : Hid ((wD.setCell ⟨NB, 15, none⟩ (.slice (some ⟨g1, 0, none⟩) (nX + 1) cap1)).cell? ⟨NB, 16, none⟩ = some vo ∧ (wD.setCell ⟨NB, 15, none⟩ (.slice (some ⟨g1, 0, none⟩) (nX + 1) cap1)).frozen? ⟨NB, 16, none⟩ = false) := ⟨c1E, f1E⟩
                    clear o1 gr1 at1 C1 fD q2D HR2 c1E f1E
                    have HbE1 : Hid (base ≤ ((wD.setCell ⟨NB, 15, none⟩ (.slice (some ⟨g1, 0, none⟩) (nX + 1) cap1)).alloc (.cells #[.int .i64 (m0 : Int)] 3)).heap.size) := by show _ ≤ _; simp [zE]; omega
                    have HcN : Hid (∀ j u, ([.int .i64 (m0 : Int)] : List Value)[j]? = some u → ((wD.setCell ⟨NB, 15, none⟩ (.slice (some ⟨g1, 0, none⟩) (nX + 1) cap1)).alloc (.cells #[.int .i64 (m0 : Int)] 3)).cell? ((⟨wD.heap.size, 0, none⟩ : Addr).add j) = some u) := fun j u hj => by have h := cell_newB (wD.setCell ⟨NB, 15, none⟩ (.slice (some ⟨g1, 0, none⟩) (nX + 1) cap1)) _ 3 j u hj; rw [zE] at h; exact h
                    go_wp2_with (at_builtin; refine numsS rfl _ _ rfl (.int .i64 (m0 : Int)) rfl rfl (HR2E.out.alloc _) ⟨wD.heap.size, 0, none⟩ rfl HcN.out HXb.out HbE1.out ?e6)
                    case e6 =>
                      show ∀ g cap w', _
                      intro g2 cap3 wF o2 gr2 at2
                      rw [Hn.out.2.2.2.1] at gr2 at2
                      have C3 : Chg (fun k => ro' = some k) (wD.setCell ⟨NB, 15, none⟩ (.slice (some ⟨g1, 0, none⟩) (nX + 1) cap1)) wF := (Chg.below ((Below.refl _ _).alloc (Nat.le_refl _) _)).trans' (Chg.grown gr2 fun g hg => hg)
                      have c1F := cell_chg HcE.out.1 C3 Hn.out.2.1
                      have f1F : wF.frozen? ⟨NB, 16, none⟩ = false := (World.frozen?_of_block (w := (wD.setCell ⟨NB, 15, none⟩ (.slice (some ⟨g1, 0, none⟩) (nX + 1) cap1))) (a := ⟨NB, 16, none⟩) (C3.block NB (block_lt_of_cell HcE.out.1) Hn.out.2.1)).trans HcE.out.2
                      have HF : Hid (InSt kS w NB base rb ro E A (32 * (k - A) + (i + 1 - 1)) m0 (n0 + (i + 1 - 1)) (.slice (some ⟨g, 0, none⟩) (L + 1) cap2) (wF.setCell ⟨NB, 16, none⟩ (.slice (some ⟨g2, 0, none⟩) (nX + 1) cap3))) := by
                        rw [Hnx.out.1, Hnx.out.2]
                        exact HA5.out H1.out.1 H1.out.2.1 H1.out.2.2 rfl o2 gr2 (by rcases at2 with at2 | at2; exact .inl at2; right; rw [at2]; simp [Value.ownBlock, zE]) rfl
                      clear o2 gr2 at2 C3 H1 HR2E HcE HA5 HbE1 HcN
                      go_wp2_with fail
                      go_roundw
                      case rel => exact ⟨i + 1, by omega, by omega, by go_num, HF⟩
                      case measure => simp [intOf]; omega
                · have h16' : ((i : Int) % 16 == 0) = false := by rw [beq_eq_false_iff_ne]; omega
                  have HF : Hid (InSt kS w NB base rb ro E A (32 * (k - A) + (i + 1 - 1)) m0 (n0 + (i + 1 - 1)) (.slice (some ⟨g, 0, none⟩) (L + 1) cap2) wC) := by
                    rw [Hnx.out.1, Hnx.out.2]; exact HQ.out.st.more (by omega)
                  clear HQ
                  go_wp2_with fail
                  go_roundw
                  case rel => exact ⟨i + 1, by omega, by omega, by go_num, HF⟩
                  case measure => simp [intOf]; omega
          · have hfull : cap2 < L + 1 := by omega
            have HI3 : Hid (InSt kS w NB base rb ro E A cc m0 L (.slice p2 L cap2) wr) := HI2.out
            have HR : Hid (wr.ownsRow base 80 1 (.slice p2 L cap2) L (kS.marks m0 L)) := (by obtain ⟨_, _, _, _, h7, _⟩ := HI2.out; exact h7)
            have Hp2 : Hid (p2 = none → cap2 = 0) := hp2
            clear HI2 hp2
            go_wp2_with fail
            refine HAt.out.mono ?_
            rintro ee w1 ⟨rfl, rfl⟩
            go_wp2_with (at_builtin; refine fullS rfl _ _ rfl yy rfl (HR.out.alloc _) ⟨w1.heap.size, 0, none⟩ rfl ?r3 ?r5 ?r6 ?r8)
            case r3 => intro j u hj; exact cell_newB w1 _ 80 j u hj
            case r5 => omega
            case r6 => omega
            case r8 =>
              show ∀ v' w', _
              intro v4 wC ho4 hg4
              have HQ0 : InR kS w NB base rb ro E A cc m0 (L + 1) v4 wC := HI3.out.full hbase (by rw [Hyy.out]; first | exact ho4 | (have h9 := ho4; simp at h9; exact h9)) hg4
              obtain ⟨g, cap2, hv4, _, _⟩ := ho4.form (by omega)
              subst hv4
              have HQ : Hid (InR kS w NB base rb ro E A cc m0 (L + 1) (.slice (some ⟨g, 0, none⟩) (L + 1) cap2) wC) := HQ0
              clear HQ0 ho4 hg4 HR HI3 Hp2
              by_cases hi4 : i < 4
              · have hi4' : (i : Int) < 4 := by omega
                obtain ⟨rb', ro', X, G, hv5, hu5⟩ := HQ.out
                obtain ⟨vb, b1, b2, b3⟩ := G.st.rows
                obtain ⟨vo, q1, q2, q3⟩ := G.st.nums
                have b1 : wC.cell? ⟨NB, 15, none⟩ = some vb := b1
                have q1 : wC.cell? ⟨NB, 16, none⟩ = some vo := q1
                have f0 : wC.frozen? ⟨NB, 15, none⟩ = false := G.st.fz 0 (by omega)
                have f1 : wC.frozen? ⟨NB, 16, none⟩ = false := G.st.fz 1 (by omega)
                have hbC : base ≤ wC.heap.size := Nat.le_trans hbase G.chg.size
                have nrb : rb' ≠ some NB := fun hh => by have := (row_ge b2 (b3.trans hh)).1; have := G.st.le.2.1; omega
                have nro : ro' ≠ some NB := fun hh => by have := (row_ge q2 (q3.trans hh)).1; have := G.st.le.2.1; omega
                have Hn : Hid (rb' ≠ some NB ∧ ro' ≠ some NB ∧ vb.ownBlock = rb' ∧ vo.ownBlock = ro' ∧ NB < base) := ⟨nrb, nro, b3, q3, G.st.le.2.1⟩
                have HR1 : Hid (wC.ownsRow base 57 1 vb (E ++ X).length ((E ++ X).map Ent.v)) := b2
                have HR2 : Hid (wC.ownsRow base 3 1 vo (E ++ X).length (numsV (E ++ X))) := q2
                have hXb : (E ++ X).length ≤ 20000000 := by rw [List.length_append, ← HnE.out]; have := Hcb.out; have := G.len; omega
                have HA5 : Hid (∀ {wD wE wF wG : World} {vb' vo' : Value} {c1 c2 : Obj}, wD.ownsRow base 57 1 vb' ((E ++ X).length + 1) ((E ++ X).map Ent.v ++ [(.slice (some ⟨g, 0, none⟩) (L + 1) cap2)]) → (wC.alloc c1).grownBy wD rb' → (rb' = vb'.ownBlock ∨ vb'.ownBlock = some (wC.heap.size + 1)) → wE = wD.setCell ⟨NB, 15, none⟩ vb' → wF.ownsRow base 3 1 vo' ((E ++ X).length + 1) (numsV (E ++ X) ++ [.int .i64 (m0 : Int)]) → (wE.alloc c2).grownBy wF ro' → (ro' = vo'.ownBlock ∨ vo'.ownBlock = some (wE.heap.size + 1)) → wG = wF.setCell ⟨NB, 16, none⟩ vo' → InSt kS w NB base rb ro E A (cc + 1) m0 (L + 1) (.slice (some ⟨g, 0, none⟩) (L + 1) cap2) wG) :=
                  fun o1 g1 a1 e1 o2 g2 a2 e2 => InSt.add (by decide) (by decide) (by decide) G hv5 hu5 (by omega) hm6 o1 g1 a1 e1 o2 g2 a2 e2
                obtain ⟨nX, hnX⟩ : ∃ nX, nX = (E ++ X).length := ⟨_, rfl⟩
                clear HQ G hv5 hu5 b2 b3 q2 q3 nrb nro
                rw [← hnX] at HR1 HR2 HA5 hXb
                clear hnX
                generalize (E ++ X).map Ent.v = ev at *
                generalize numsV (E ++ X) = em at *
                have HbC1 : Hid (base ≤ (wC.alloc (.cells #[(.slice (some ⟨g, 0, none⟩) (L + 1) cap2)] 57)).heap.size) := by show _ ≤ _; simp; omega
                have HXb : Hid (nX ≤ 100000000) := by show _ ≤ _; omega
                go_wp2_with (at_builtin; go_loud (refine listsS rfl _ _ rfl (.slice (some ⟨g, 0, none⟩) (L + 1) cap2) rfl rfl (HR1.out.alloc _) ⟨wC.heap.size, 0, none⟩ rfl (fun j u hj => cell_newB wC _ 57 j u hj) HXb.out HbC1.out ?d6))
                case d6 =>
                  show ∀ g cap w', _
                  intro g1 cap1 wD o1 gr1 at1
                  rw [Hn.out.2.2.1] at gr1 at1
                  have C1 : Chg (fun k => rb' = some k) wC wD := (Chg.below ((Below.refl _ _).alloc (Nat.le_refl _) _)).trans' (Chg.grown gr1 fun g hg => hg)
                  have c0D := cell_chg b1 C1 Hn.out.1
                  have c1D := cell_chg q1 C1 Hn.out.1
                  have fD : ∀ j, wD.frozen? ⟨NB, j, none⟩ = wC.frozen? ⟨NB, j, none⟩ := fun j => World.frozen?_of_block (w := wC) (a := ⟨NB, j, none⟩) (C1.block NB (block_lt_of_cell b1) Hn.out.1)
                  have f0D := (fD 15).trans f0
                  have f1D := (fD 16).trans f1
                  have q2D : wD.ownsRow base 3 1 vo nX em := ownsRow_chg HR2.out C1 (fun g hg hh => rows_ne HR2.out HR1.out (by decide) hg (Hn.out.2.2.1.trans hh))
                  have HR2E : Hid ((wD.setCell ⟨NB, 15, none⟩ (.slice (some ⟨g1, 0, none⟩) (nX + 1) cap1)).ownsRow base 3 1 vo nX em) := ownsRow_setOther q2D _ _ _ Hn.out.2.2.2.2
                  have zE : (wD.setCell ⟨NB, 15, none⟩ (.slice (some ⟨g1, 0, none⟩) (nX + 1) cap1)).heap.size = wD.heap.size := by simp [World.setCell]
                  have hbE : base ≤ wD.heap.size := Nat.le_trans hbC C1.size
                  have H1 : Hid (wD.ownsRow base 57 1 (.slice (some ⟨g1, 0, none⟩) (nX + 1) cap1) (nX + 1) (ev ++ [(.slice (some ⟨g, 0, none⟩) (L + 1) cap2)]) ∧ (wC.alloc (.cells #[(.slice (some ⟨g, 0, none⟩) (L + 1) cap2)] 57)).grownBy wD rb' ∧ (rb' = (Value.slice (some ⟨g1, 0, none⟩) (nX + 1) cap1).ownBlock ∨ (Value.slice (some ⟨g1, 0, none⟩) (nX + 1) cap1).ownBlock = some (wC.heap.size + 1))) := ⟨o1, gr1, by rcases at1 with at1 | at1; exact .inl at1; right; rw [at1]; simp [Value.ownBlock]⟩
                  have c1E : (wD.setCell ⟨NB, 15, none⟩ (.slice (some ⟨g1, 0, none⟩) (nX + 1) cap1)).cell? ⟨NB, 16, none⟩ = some vo := by rw [cell_setCell_ne _ _ _ _ _ (by omega)]; exact c1D
                  have f1E : (wD.setCell ⟨NB, 15, none⟩ (.slice (some ⟨g1, 0, none⟩) (nX + 1) cap1)).frozen? ⟨NB, 16, none⟩ = false := by rw [frozen_setCell]; exact f1D
                  have HcE : Hid ((wD.setCell ⟨NB, 15, none⟩ (.slice (some ⟨g1, 0, none⟩) (nX + 1) cap1)).cell? ⟨NB, 16, none⟩ = some vo ∧ (wD.setCell ⟨NB, 15, none⟩ (.slice (some ⟨g1, 0, none⟩) (nX + 1) cap1)).frozen? ⟨NB, 16, none⟩ = false) := ⟨c1E, f1E⟩
                  clear o1 gr1 at1 C1 fD q2D HR2 c1E f1E
                  have HbE1 : Hid (base ≤ ((wD.setCell ⟨NB, 15, none⟩ (.slice (some ⟨g1, 0, none⟩) (nX + 1) cap1)).alloc (.cells #[.int .i64 (m0 : Int)] 3)).heap.size) := by show _ ≤ _; simp [zE]; omega
                  have HcN : Hid (∀ j u, ([.int .i64 (m0 : Int)] : List Value)[j]? = some u → ((wD.setCell ⟨NB, 15, none⟩ (.slice (some ⟨g1, 0, none⟩) (nX + 1) cap1)).alloc (.cells #[.int .i64 (m0 : Int)] 3)).cell? ((⟨wD.heap.size, 0, none⟩ : Addr).add j) = some u) := fun j u hj => by have h := cell_newB (wD.setCell ⟨NB, 15, none⟩ (.slice (some ⟨g1, 0, none⟩) (nX + 1) cap1)) _ 3 j u hj; rw [zE] at h; exact h
                  go_wp2_with (at_builtin; refine numsS rfl _ _ rfl (.int .i64 (m0 : Int)) rfl rfl (HR2E.out.alloc _) ⟨wD.heap.size, 0, none⟩ rfl HcN.out HXb.out HbE1.out ?e6)
                  case e6 =>
                    show ∀ g cap w', _
                    intro g2 cap3 wF o2 gr2 at2
                    rw [Hn.out.2.2.2.1] at gr2 at2
                    have C3 : Chg (fun k => ro' = some k) (wD.setCell ⟨NB, 15, none⟩ (.slice (some ⟨g1, 0, none⟩) (nX + 1) cap1)) wF := (Chg.below ((Below.refl _ _).alloc (Nat.le_refl _) _)).trans' (Chg.grown gr2 fun g hg => hg)
                    have c1F := cell_chg HcE.out.1 C3 Hn.out.2.1
                    have f1F : wF.frozen? ⟨NB, 16, none⟩ = false := (World.frozen?_of_block (w := (wD.setCell ⟨NB, 15, none⟩ (.slice (some ⟨g1, 0, none⟩) (nX + 1) cap1))) (a := ⟨NB, 16, none⟩) (C3.block NB (block_lt_of_cell HcE.out.1) Hn.out.2.1)).trans HcE.out.2
                    have HF : Hid (InSt kS w NB base rb ro E A (32 * (k - A) + (i + 1 - 1)) m0 (n0 + (i + 1 - 1)) (.slice (some ⟨g, 0, none⟩) (L + 1) cap2) (wF.setCell ⟨NB, 16, none⟩ (.slice (some ⟨g2, 0, none⟩) (nX + 1) cap3))) := by
                      rw [Hnx.out.1, Hnx.out.2]
                      exact HA5.out H1.out.1 H1.out.2.1 H1.out.2.2 rfl o2 gr2 (by rcases at2 with at2 | at2; exact .inl at2; right; rw [at2]; simp [Value.ownBlock, zE]) rfl
                    clear o2 gr2 at2 C3 H1 HR2E HcE HA5 HbE1 HcN
                    go_wp2_with fail
                    go_roundw
                    case rel => exact ⟨i + 1, by omega, by omega, by go_num, HF⟩
                    case measure => simp [intOf]; omega
              · have hi4' : ¬ (i : Int) < 4 := by omega
                by_cases h16 : i % 16 = 0
                · have h16' : ((i : Int) % 16 == 0) = true := by rw [beq_iff_eq]; omega
                  obtain ⟨rb', ro', X, G, hv5, hu5⟩ := HQ.out
                  obtain ⟨vb, b1, b2, b3⟩ := G.st.rows
                  obtain ⟨vo, q1, q2, q3⟩ := G.st.nums
                  have b1 : wC.cell? ⟨NB, 15, none⟩ = some vb := b1
                  have q1 : wC.cell? ⟨NB, 16, none⟩ = some vo := q1
                  have f0 : wC.frozen? ⟨NB, 15, none⟩ = false := G.st.fz 0 (by omega)
                  have f1 : wC.frozen? ⟨NB, 16, none⟩ = false := G.st.fz 1 (by omega)
                  have hbC : base ≤ wC.heap.size := Nat.le_trans hbase G.chg.size
                  have nrb : rb' ≠ some NB := fun hh => by have := (row_ge b2 (b3.trans hh)).1; have := G.st.le.2.1; omega
                  have nro : ro' ≠ some NB := fun hh => by have := (row_ge q2 (q3.trans hh)).1; have := G.st.le.2.1; omega
                  have Hn : Hid (rb' ≠ some NB ∧ ro' ≠ some NB ∧ vb.ownBlock = rb' ∧ vo.ownBlock = ro' ∧ NB < base) := ⟨nrb, nro, b3, q3, G.st.le.2.1⟩
                  have HR1 : Hid (wC.ownsRow base 57 1 vb (E ++ X).length ((E ++ X).map Ent.v)) := b2
                  have HR2 : Hid (wC.ownsRow base 3 1 vo (E ++ X).length (numsV (E ++ X))) := q2
                  have hXb : (E ++ X).length ≤ 20000000 := by rw [List.length_append, ← HnE.out]; have := Hcb.out; have := G.len; omega
                  have HA5 : Hid (∀ {wD wE wF wG : World} {vb' vo' : Value} {c1 c2 : Obj}, wD.ownsRow base 57 1 vb' ((E ++ X).length + 1) ((E ++ X).map Ent.v ++ [(.slice (some ⟨g, 0, none⟩) (L + 1) cap2)]) → (wC.alloc c1).grownBy wD rb' → (rb' = vb'.ownBlock ∨ vb'.ownBlock = some (wC.heap.size + 1)) → wE = wD.setCell ⟨NB, 15, none⟩ vb' → wF.ownsRow base 3 1 vo' ((E ++ X).length + 1) (numsV (E ++ X) ++ [.int .i64 (m0 : Int)]) → (wE.alloc c2).grownBy wF ro' → (ro' = vo'.ownBlock ∨ vo'.ownBlock = some (wE.heap.size + 1)) → wG = wF.setCell ⟨NB, 16, none⟩ vo' → InSt kS w NB base rb ro E A (cc + 1) m0 (L + 1) (.slice (some ⟨g, 0, none⟩) (L + 1) cap2) wG) :=
                    fun o1 g1 a1 e1 o2 g2 a2 e2 => InSt.add (by decide) (by decide) (by decide) G hv5 hu5 (by omega) hm6 o1 g1 a1 e1 o2 g2 a2 e2
                  obtain ⟨nX, hnX⟩ : ∃ nX, nX = (E ++ X).length := ⟨_, rfl⟩
                  clear HQ G hv5 hu5 b2 b3 q2 q3 nrb nro
                  rw [← hnX] at HR1 HR2 HA5 hXb
                  clear hnX
                  generalize (E ++ X).map Ent.v = ev at *
                  generalize numsV (E ++ X) = em at *
                  have HbC1 : Hid (base ≤ (wC.alloc (.cells #[(.slice (some ⟨g, 0, none⟩) (L + 1) cap2)] 57)).heap.size) := by show _ ≤ _; simp; omega
                  have HXb : Hid (nX ≤ 100000000) := by show _ ≤ _; omega
                  go_wp2_with (at_builtin; go_loud (refine listsS rfl _ _ rfl (.slice (some ⟨g, 0, none⟩) (L + 1) cap2) rfl rfl (HR1.out.alloc _) ⟨wC.heap.size, 0, none⟩ rfl (fun j u hj => cell_newB wC _ 57 j u hj) HXb.out HbC1.out ?d6))
                  case d6 =>
                    show ∀ g cap w', _
                    intro g1 cap1 wD o1 gr1 at1
                    rw [Hn.out.2.2.1] at gr1 at1
                    have C1 : Chg (fun k => rb' = some k) wC wD := (Chg.below ((Below.refl _ _).alloc (Nat.le_refl _) _)).trans' (Chg.grown gr1 fun g hg => hg)
                    have c0D := cell_chg b1 C1 Hn.out.1
                    have c1D := cell_chg q1 C1 Hn.out.1
                    have fD : ∀ j, wD.frozen? ⟨NB, j, none⟩ = wC.frozen? ⟨NB, j, none⟩ := fun j => World.frozen?_of_block (w := wC) (a := ⟨NB, j, none⟩) (C1.block NB (block_lt_of_cell b1) Hn.out.1)
                    have f0D := (fD 15).trans f0
                    have f1D := (fD 16).trans f1
                    have q2D : wD.ownsRow base 3 1 vo nX em := ownsRow_chg HR2.out C1 (fun g hg hh => rows_ne HR2.out HR1.out (by decide) hg (Hn.out.2.2.1.trans hh))
                    have HR2E : Hid ((wD.setCell ⟨NB, 15, none⟩ (.slice (some ⟨g1, 0, none⟩) (nX + 1) cap1)).ownsRow base 3 1 vo nX em) := ownsRow_setOther q2D _ _ _ Hn.out.2.2.2.2
                    have zE : (wD.setCell ⟨NB, 15, none⟩ (.slice (some ⟨g1, 0, none⟩) (nX + 1) cap1)).heap.size = wD.heap.size := by simp [World.setCell]
                    have hbE : base ≤ wD.heap.size := Nat.le_trans hbC C1.size
                    have H1 : Hid (wD.ownsRow base 57 1 (.slice (some ⟨g1, 0, none⟩) (nX + 1) cap1) (nX + 1) (ev ++ [(.slice (some ⟨g, 0, none⟩) (L + 1) cap2)]) ∧ (wC.alloc (.cells #[(.slice (some ⟨g, 0, none⟩) (L + 1) cap2)] 57)).grownBy wD rb' ∧ (rb' = (Value.slice (some ⟨g1, 0, none⟩) (nX + 1) cap1).ownBlock ∨ (Value.slice (some ⟨g1, 0, none⟩) (nX + 1) cap1).ownBlock = some (wC.heap.size + 1))) := ⟨o1, gr1, by rcases at1 with at1 | at1; exact .inl at1; right; rw [at1]; simp [Value.ownBlock]⟩
                    have c1E : (wD.setCell ⟨NB, 15, none⟩ (.slice (some ⟨g1, 0, none⟩) (nX + 1) cap1)).cell? ⟨NB, 16, none⟩ = some vo := by rw [cell_setCell_ne _ _ _ _ _ (by omega)]; exact c1D
                    have f1E : (wD.setCell ⟨NB, 15, none⟩ (.slice (some ⟨g1, 0, none⟩) (nX + 1) cap1)).frozen? ⟨NB, 16, none⟩ = false := by rw [frozen_setCell]; exact f1D
                    have HcE : Hid ((wD.setCell ⟨NB, 15, none⟩ (.slice (some ⟨g1, 0, none⟩) (nX + 1) cap1)).cell? ⟨NB, 16, none⟩ = some vo ∧ (wD.setCell ⟨NB, 15, none⟩ (.slice (some ⟨g1, 0, none⟩) (nX + 1) cap1)).frozen? ⟨NB, 16, none⟩ = false) := ⟨c1E, f1E⟩
                    clear o1 gr1 at1 C1 fD q2D HR2 c1E f1E
                    have HbE1 : Hid (base ≤ ((wD.setCell ⟨NB, 15, none⟩ (.slice (some ⟨g1, 0, none⟩) (nX + 1) cap1)).alloc (.cells #[.int .i64 (m0 : Int)] 3)).heap.size) := by show _ ≤ _; simp [zE]; omega
                    have HcN : Hid (∀ j u, ([.int .i64 (m0 : Int)] : List Value)[j]? = some u → ((wD.setCell ⟨NB, 15, none⟩ (.slice (some ⟨g1, 0, none⟩) (nX + 1) cap1)).alloc (.cells #[.int .i64 (m0 : Int)] 3)).cell? ((⟨wD.heap.size, 0, none⟩ : Addr).add j) = some u) := fun j u hj => by have h := cell_newB (wD.setCell ⟨NB, 15, none⟩ (.slice (some ⟨g1, 0, none⟩) (nX + 1) cap1)) _ 3 j u hj; rw [zE] at h; exact h
                    go_wp2_with (at_builtin; refine numsS rfl _ _ rfl (.int .i64 (m0 : Int)) rfl rfl (HR2E.out.alloc _) ⟨wD.heap.size, 0, none⟩ rfl HcN.out HXb.out HbE1.out ?e6)
                    case e6 =>
                      show ∀ g cap w', _
                      intro g2 cap3 wF o2 gr2 at2
                      rw [Hn.out.2.2.2.1] at gr2 at2
                      have C3 : Chg (fun k => ro' = some k) (wD.setCell ⟨NB, 15, none⟩ (.slice (some ⟨g1, 0, none⟩) (nX + 1) cap1)) wF := (Chg.below ((Below.refl _ _).alloc (Nat.le_refl _) _)).trans' (Chg.grown gr2 fun g hg => hg)
                      have c1F := cell_chg HcE.out.1 C3 Hn.out.2.1
                      have f1F : wF.frozen? ⟨NB, 16, none⟩ = false := (World.frozen?_of_block (w := (wD.setCell ⟨NB, 15, none⟩ (.slice (some ⟨g1, 0, none⟩) (nX + 1) cap1))) (a := ⟨NB, 16, none⟩) (C3.block NB (block_lt_of_cell HcE.out.1) Hn.out.2.1)).trans HcE.out.2
                      have HF : Hid (InSt kS w NB base rb ro E A (32 * (k - A) + (i + 1 - 1)) m0 (n0 + (i + 1 - 1)) (.slice (some ⟨g, 0, none⟩) (L + 1) cap2) (wF.setCell ⟨NB, 16, none⟩ (.slice (some ⟨g2, 0, none⟩) (nX + 1) cap3))) := by
                        rw [Hnx.out.1, Hnx.out.2]
                        exact HA5.out H1.out.1 H1.out.2.1 H1.out.2.2 rfl o2 gr2 (by rcases at2 with at2 | at2; exact .inl at2; right; rw [at2]; simp [Value.ownBlock, zE]) rfl
                      clear o2 gr2 at2 C3 H1 HR2E HcE HA5 HbE1 HcN
                      go_wp2_with fail
                      go_roundw
                      case rel => exact ⟨i + 1, by omega, by omega, by go_num, HF⟩
                      case measure => simp [intOf]; omega
                · have h16' : ((i : Int) % 16 == 0) = false := by rw [beq_eq_false_iff_ne]; omega
                  have HF : Hid (InSt kS w NB base rb ro E A (32 * (k - A) + (i + 1 - 1)) m0 (n0 + (i + 1 - 1)) (.slice (some ⟨g, 0, none⟩) (L + 1) cap2) wC) := by
                    rw [Hnx.out.1, Hnx.out.2]; exact HQ.out.st.more (by omega)
                  clear HQ
                  go_wp2_with fail
                  go_roundw
                  case rel => exact ⟨i + 1, by omega, by omega, by go_num, HF⟩
                  case measure => simp [intOf]; omega
        · have hi2 : i = 33 := by omega
          subst hi2
          have HG : Hid (GrowSt kS w NB base rb ro E A (32 * (k + 1 - A)) wr) := by
            have := HI.out.out
            rwa [show 32 * (k - A) + (33 - 1) = 32 * (k + 1 - A) from by omega] at this
          clear HI
          go_wp2_with fail
          go_roundw
          case rel => exact ⟨k + 1, by omega, by omega, by go_num, HG⟩
          case measure => simp [intOf]; omega
    · have hkn : k = nE := by omega
      obtain ⟨rb', ro', X, G⟩ := HS.out
      obtain ⟨vb, b1, b2, b3⟩ := G.st.rows
      obtain ⟨pb, capb, hvb, -⟩ := row_form b2
      rw [hvb] at b1
      have b1 : wr.cell? ⟨NB, 15, none⟩ = some (.slice pb (E ++ X).length capb) := b1
      have c2 : wr.cell? ⟨NB, 17, none⟩ = some (.int .i64 (A : Int)) := G.st.at_
      have f2 : wr.frozen? ⟨NB, 17, none⟩ = false := G.st.fz 2 (by omega)
      have HF : Hid (GrownPost kS w NB base rb ro E A 32 (wr.setCell ⟨NB, 17, none⟩ (.int .i64 ((E ++ X).length : Nat)))) := by
        rw [hkn, HnE.out] at G
        exact G.done
      obtain ⟨nX, hnX⟩ : ∃ nX, nX = (E ++ X).length := ⟨_, rfl⟩
      rw [← hnX] at b1 HF
      clear HS G b2 b3 hvb hnX
      go_wp2_with fail
      go_end0
      exact ⟨rfl, HF.out⟩

end Go.Proofs.YtnjcedlbdjidiaaGreatDoor

/- The law's Book of bytes, words and smalls: holds, grow, Look. -/
namespace Go.Proofs.YtnjcedlbdjidiaaGreatDoor
open Go.RowKit
open M
set_option linter.unusedVariables false
set_option linter.unusedSimpArgs false

def LQ : List Kd := [kB, kW, kS]

theorem LQ_ok : KOk LQ := by
  refine ⟨?_, ?_, ?_, ?_, ?_, ?_⟩
  · intro K hK; simp only [LQ, List.mem_cons, List.not_mem_nil, or_false] at hK; rcases hK with rfl | rfl | rfl <;> decide
  · intro K hK; simp only [LQ, List.mem_cons, List.not_mem_nil, or_false] at hK; rcases hK with rfl | rfl | rfl <;> decide
  · intro K hK; simp only [LQ, List.mem_cons, List.not_mem_nil, or_false] at hK; rcases hK with rfl | rfl | rfl <;> decide
  · intro K hK K' hK' hc
    simp only [LQ, List.mem_cons, List.not_mem_nil, or_false] at hK hK'
    rcases hK with rfl | rfl | rfl <;> rcases hK' with rfl | rfl | rfl <;> first | rfl | exact absurd hc (by decide)
  · intro K hK K' hK'
    simp only [LQ, List.mem_cons, List.not_mem_nil, or_false] at hK hK'
    rcases hK with rfl | rfl | rfl <;> rcases hK' with rfl | rfl | rfl <;> decide
  · intro K hK K' hK' hc
    simp only [LQ, List.mem_cons, List.not_mem_nil, or_false] at hK hK'
    rcases hK with rfl | rfl | rfl <;> rcases hK' with rfl | rfl | rfl <;> first | exact absurd rfl hc | exact ⟨by decide, by decide⟩

set_option maxRecDepth 100000 in
set_option maxHeartbeats 4000000 in
theorem holds_any (NB base : Nat) (F : Nat → KV) (T D U : Nat) (w : World) (h : BkSt LQ w NB base F T D U) (hE : ∀ K ∈ LQ, (F K.c).E.length ≤ 10000000) :
    Calls Tryz.prog 37 #[.pointer (some ⟨NB, 0, none⟩)] w fun e w' => e = .returned (.bool true) ∧ ∃ m, w' = w.drewN m := by
  have HB := hideB h
  have HE := hideB hE
  have Hm : Hid (∃ m, w = w.drewN m) := ⟨0, rfl⟩
  have HC0 := hideB (plainB_any NB base _ _ _ _ w (HB.out.st kB (by simp [LQ])) (HE.out kB (by simp [LQ])) (HB.out.nil.nils 1 (by omega) (by decide)).1)
  clear h hE
  go_enter Tryz.func37, Tryz.ntmps37
  go_wp2_with fail
  refine HC0.out.mono ?_
  rintro e w1 ⟨rfl, m0, hw0⟩
  have HB0 : Hid (BkSt LQ w1 NB base F T D U) := by rw [hw0]; exact HB.out.drewN m0
  have Hm0 : Hid (∃ m, w1 = w.drewN m) := by
    exact ⟨m0, hw0⟩
  clear hw0 HC0
  have HC1 := hideB (keptWS_any NB base _ _ _ _ _ _ _ _ w1 (HB0.out.st kW (by simp [LQ])) (HE.out kW (by simp [LQ])) (HB0.out.st kS (by simp [LQ])) (HE.out kS (by simp [LQ])) (HB0.out.nil.nils 2 (by omega) (by decide)).1 (HB0.out.nil.nils 3 (by omega) (by decide)).1)
  go_wp2_with fail
  refine HC1.out.mono ?_
  rintro e w2 ⟨rfl, m1, hw1⟩
  have HB1 : Hid (BkSt LQ w2 NB base F T D U) := by rw [hw1]; exact HB0.out.drewN m1
  have Hm1 : Hid (∃ m, w2 = w.drewN m) := by
    obtain ⟨m, hm⟩ := Hm0.out
    exact ⟨m + m1, by rw [hw1, hm]; exact World.drewN_drewN _ _ _⟩
  clear hw1 HC1
  have HC2 := hideB (told_nil (kin LQ) NB w2 HB1.out.nil (by decide) (by decide) (by decide) (by decide))
  go_wp2_with fail
  refine HC2.out.mono ?_
  rintro e w3 ⟨rfl, hw2⟩
  have HB2 : Hid (BkSt LQ w3 NB base F T D U) := by rw [hw2]; exact HB1.out
  have Hm2 : Hid (∃ m, w3 = w.drewN m) := by rw [hw2]; exact Hm1.out
  clear hw2 HC2
  have HC3 := hideB (held_nil (kin LQ) NB w3 HB2.out.nil (by decide) (by decide) (by decide) (by decide))
  go_wp2_with fail
  refine HC3.out.mono ?_
  rintro e w4 ⟨rfl, hw3⟩
  have HB3 : Hid (BkSt LQ w4 NB base F T D U) := by rw [hw3]; exact HB2.out
  have Hm3 : Hid (∃ m, w4 = w.drewN m) := by rw [hw3]; exact Hm2.out
  clear hw3 HC3
  have HC4 := hideB (sent_nil (kin LQ) NB w4 HB3.out.nil (by decide) (by decide) (by decide) (by decide))
  go_wp2_with fail
  refine HC4.out.mono ?_
  rintro e w5 ⟨rfl, hw4⟩
  have HB4 : Hid (BkSt LQ w5 NB base F T D U) := by rw [hw4]; exact HB3.out
  have Hm4 : Hid (∃ m, w5 = w.drewN m) := by rw [hw4]; exact Hm3.out
  clear hw4 HC4
  have HC5 := hideB (given_nil (kin LQ) NB w5 HB4.out.nil (by decide) (by decide) (by decide) (by decide))
  go_wp2_with fail
  refine HC5.out.mono ?_
  rintro e w6 ⟨rfl, hw5⟩
  have HB5 : Hid (BkSt LQ w6 NB base F T D U) := by rw [hw5]; exact HB4.out
  have Hm5 : Hid (∃ m, w6 = w.drewN m) := by rw [hw5]; exact Hm4.out
  clear hw5 HC5
  have HC6 := hideB (seen_nil (kin LQ) NB w6 HB5.out.nil (by decide))
  go_wp2_with fail
  refine HC6.out.mono ?_
  rintro e w7 ⟨rfl, hw6⟩
  have HB6 : Hid (BkSt LQ w7 NB base F T D U) := by rw [hw6]; exact HB5.out
  have Hm6 : Hid (∃ m, w7 = w.drewN m) := by rw [hw6]; exact Hm5.out
  clear hw6 HC6
  go_wp2_with fail
  go_ret
  exact ⟨rfl, Hm6.out⟩

set_option maxRecDepth 100000 in
set_option maxHeartbeats 4000000 in
theorem grow_any (NB base : Nat) (F : Nat → KV) (T D U : Nat) (w : World) (h : BkSt LQ w NB base F T D U) (hE : ∀ K ∈ LQ, (F K.c).E.length ≤ 200000) (hbase : base ≤ w.heap.size) (hfr : ∀ K ∈ LQ, Fresh (F K.c)) :
    Calls Tryz.prog 38 #[.pointer (some ⟨NB, 0, none⟩)] w fun q w' => q = .returned (.tuple #[]) ∧ ∃ F', LookSt LQ w NB base F T U F' w' := by
  have HE := hideB hE
  have HF := hideB hfr
  have HG : Hid (GAcc LQ w NB base F T D U [] F w) := GAcc.start h
  clear h hE hfr
  go_enter Tryz.func38, Tryz.ntmps38
  have HC0 := hideB (growB_any NB base (F kB.c).rb (F kB.c).ro (F kB.c).E (F kB.c).A w (HG.out.st.st kB (by simp [LQ])) (by rw [HG.out.rest kB (by simp [LQ]) (by decide)]; exact HE.out kB (by simp [LQ])) (Nat.le_trans hbase HG.out.chg.size) (by have hh := HF.out kB (by simp [LQ]); rw [← HG.out.rest kB (by simp [LQ]) (by decide)] at hh; exact hh))
  go_wp2_with fail
  refine HC0.out.mono ?_
  rintro e w1 ⟨rfl, hp0⟩
  obtain ⟨F0, hg0⟩ := HG.out.step LQ_ok (by simp [LQ]) (by decide) (by omega) hp0
  have HG0 := hideB hg0
  clear hp0 hg0 HC0
  have HC1 := hideB (growRows_nil (kin LQ) NB w1 HG0.out.st.nil (by decide))
  go_wp2_with fail
  refine HC1.out.mono ?_
  rintro e w2 ⟨rfl, hw1⟩
  have hw1 := hw1.symm
  subst hw1
  clear HC1
  have HC2 := hideB (growTexts_nil (kin LQ) NB w1 HG0.out.st.nil (by decide))
  go_wp2_with fail
  refine HC2.out.mono ?_
  rintro e w3 ⟨rfl, hw2⟩
  have hw2 := hw2.symm
  subst hw2
  clear HC2
  have HC3 := hideB (growInts_nil (kin LQ) NB w1 HG0.out.st.nil (by decide))
  go_wp2_with fail
  refine HC3.out.mono ?_
  rintro e w4 ⟨rfl, hw3⟩
  have hw3 := hw3.symm
  subst hw3
  clear HC3
  have HC4 := hideB (growW_any NB base (F0 kW.c).rb (F0 kW.c).ro (F0 kW.c).E (F0 kW.c).A w1 (HG0.out.st.st kW (by simp [LQ])) (by rw [HG0.out.rest kW (by simp [LQ]) (by decide)]; exact HE.out kW (by simp [LQ])) (Nat.le_trans hbase HG0.out.chg.size) (by have hh := HF.out kW (by simp [LQ]); rw [← HG0.out.rest kW (by simp [LQ]) (by decide)] at hh; exact hh))
  go_wp2_with fail
  refine HC4.out.mono ?_
  rintro e w5 ⟨rfl, hp4⟩
  obtain ⟨F4, hg4⟩ := HG0.out.step LQ_ok (by simp [LQ]) (by decide) (by omega) hp4
  have HG4 := hideB hg4
  clear hp4 hg4 HC4
  have HC5 := hideB (growS_any NB base (F4 kS.c).rb (F4 kS.c).ro (F4 kS.c).E (F4 kS.c).A w5 (HG4.out.st.st kS (by simp [LQ])) (by rw [HG4.out.rest kS (by simp [LQ]) (by decide)]; exact HE.out kS (by simp [LQ])) (Nat.le_trans hbase HG4.out.chg.size) (by have hh := HF.out kS (by simp [LQ]); rw [← HG4.out.rest kS (by simp [LQ]) (by decide)] at hh; exact hh))
  go_wp2_with fail
  refine HC5.out.mono ?_
  rintro e w6 ⟨rfl, hp5⟩
  obtain ⟨F5, hg5⟩ := HG4.out.step LQ_ok (by simp [LQ]) (by decide) (by omega) hp5
  have HG5 := hideB hg5
  clear hp5 hg5 HC5
  have HC6 := hideB (growTimes_nil (kin LQ) NB w6 HG5.out.st.nil (by decide))
  go_wp2_with fail
  refine HC6.out.mono ?_
  rintro e w7 ⟨rfl, hw6⟩
  have hw6 := hw6.symm
  subst hw6
  clear HC6
  have HC7 := hideB (growPoints_nil (kin LQ) NB w6 HG5.out.st.nil (by decide))
  go_wp2_with fail
  refine HC7.out.mono ?_
  rintro e w8 ⟨rfl, hw7⟩
  have hw7 := hw7.symm
  subst hw7
  clear HC7
  have HC8 := hideB (growSpans_nil (kin LQ) NB w6 HG5.out.st.nil (by decide))
  go_wp2_with fail
  refine HC8.out.mono ?_
  rintro e w9 ⟨rfl, hw8⟩
  have hw8 := hw8.symm
  subst hw8
  clear HC8
  have HC9 := hideB (growLabels_nil (kin LQ) NB w6 HG5.out.st.nil (by decide))
  go_wp2_with fail
  refine HC9.out.mono ?_
  rintro e w10 ⟨rfl, hw9⟩
  have hw9 := hw9.symm
  subst hw9
  clear HC9
  have HC10 := hideB (growSegments_nil (kin LQ) NB w6 HG5.out.st.nil (by decide))
  go_wp2_with fail
  refine HC10.out.mono ?_
  rintro e w11 ⟨rfl, hw10⟩
  have hw10 := hw10.symm
  subst hw10
  clear HC10
  have HC11 := hideB (growParts_nil (kin LQ) NB w6 HG5.out.st.nil (by decide))
  go_wp2_with fail
  refine HC11.out.mono ?_
  rintro e w12 ⟨rfl, hw11⟩
  have hw11 := hw11.symm
  subst hw11
  clear HC11
  have HC12 := hideB (growFiles_nil (kin LQ) NB w6 HG5.out.st.nil (by decide))
  go_wp2_with fail
  refine HC12.out.mono ?_
  rintro e w13 ⟨rfl, hw12⟩
  have hw12 := hw12.symm
  subst hw12
  clear HC12
  have HC13 := hideB (growRuns_nil (kin LQ) NB w6 HG5.out.st.nil (by decide))
  go_wp2_with fail
  refine HC13.out.mono ?_
  rintro e w14 ⟨rfl, hw13⟩
  have hw13 := hw13.symm
  subst hw13
  clear HC13
  have HC14 := hideB (growHelds_nil (kin LQ) NB w6 HG5.out.st.nil (by decide))
  go_wp2_with fail
  refine HC14.out.mono ?_
  rintro e w15 ⟨rfl, hw14⟩
  have hw14 := hw14.symm
  subst hw14
  clear HC14
  have HC15 := hideB (growSeries_nil (kin LQ) NB w6 HG5.out.st.nil (by decide))
  go_wp2_with fail
  refine HC15.out.mono ?_
  rintro e w16 ⟨rfl, hw15⟩
  have hw15 := hw15.symm
  subst hw15
  clear HC15
  have HC16 := hideB (growCells_nil (kin LQ) NB w6 HG5.out.st.nil (by decide))
  go_wp2_with fail
  refine HC16.out.mono ?_
  rintro e w17 ⟨rfl, hw16⟩
  have hw16 := hw16.symm
  subst hw16
  clear HC16
  have HC17 := hideB (growCellses_nil (kin LQ) NB w6 HG5.out.st.nil (by decide))
  go_wp2_with fail
  refine HC17.out.mono ?_
  rintro e w18 ⟨rfl, hw17⟩
  have hw17 := hw17.symm
  subst hw17
  clear HC17
  have HC18 := hideB (growMatches_nil (kin LQ) NB w6 HG5.out.st.nil (by decide))
  go_wp2_with fail
  refine HC18.out.mono ?_
  rintro e w19 ⟨rfl, hw18⟩
  have hw18 := hw18.symm
  subst hw18
  clear HC18
  have HC19 := hideB (growNodes_nil (kin LQ) NB w6 HG5.out.st.nil (by decide))
  go_wp2_with fail
  refine HC19.out.mono ?_
  rintro e w20 ⟨rfl, hw19⟩
  have hw19 := hw19.symm
  subst hw19
  clear HC19
  have HC20 := hideB (growInstrs_nil (kin LQ) NB w6 HG5.out.st.nil (by decide))
  go_wp2_with fail
  refine HC20.out.mono ?_
  rintro e w21 ⟨rfl, hw20⟩
  have hw20 := hw20.symm
  subst hw20
  clear HC20
  have HC21 := hideB (growNeeds_nil (kin LQ) NB w6 HG5.out.st.nil (by decide))
  go_wp2_with fail
  refine HC21.out.mono ?_
  rintro e w22 ⟨rfl, hw21⟩
  have hw21 := hw21.symm
  subst hw21
  clear HC21
  have HC22 := hideB (growWrites_nil (kin LQ) NB w6 HG5.out.st.nil (by decide))
  go_wp2_with fail
  refine HC22.out.mono ?_
  rintro e w23 ⟨rfl, hw22⟩
  have hw22 := hw22.symm
  subst hw22
  clear HC22
  have cT := HG5.out.st.com.turn
  have cD := HG5.out.st.com.done
  have fD := HG5.out.st.com.fz 70 (by omega) (by omega)
  go_wp2_with fail
  go_end0
  exact ⟨rfl, _, HG5.out.look LQ_ok (by intro K hK; simp only [LQ, List.mem_cons, List.not_mem_nil, or_false] at hK; rcases hK with rfl | rfl | rfl <;> decide)⟩

set_option maxRecDepth 100000 in
set_option maxHeartbeats 4000000 in
theorem look_book (NB base : Nat) (F : Nat → KV) (T D U : Nat) (w : World) (h : BkSt LQ w NB base F T D U) (hE : ∀ K ∈ LQ, (F K.c).E.length + 96 * ((F K.c).E.length - (F K.c).A) ≤ 200000) (hbase : base ≤ w.heap.size) (hfr : ∀ K ∈ LQ, Fresh (F K.c)) :
    Calls Tryz.prog 13 #[.pointer (some ⟨NB, 0, none⟩)] w fun q w' => q = .returned (.bool true) ∧ ∃ F', LookSt LQ w NB base F T U F' w' := by
  have HH := hideB (holds_any NB base F T D U w h (fun K hK => by have := hE K hK; omega))
  have Hh : Hid (BkSt LQ w NB base F T D U ∧ (∀ K ∈ LQ, Fresh (F K.c)) ∧ ∀ K ∈ LQ, (F K.c).E.length + 96 * ((F K.c).E.length - (F K.c).A) ≤ 200000) := ⟨h, hfr, hE⟩
  clear h hfr hE
  go_enter Tryz.func13, Tryz.ntmps13
  go_wp2_with fail
  refine HH.out.mono ?_
  rintro e w1 ⟨rfl, m, hw⟩
  have B1 : BkSt LQ w1 NB base F T D U := by rw [hw]; exact Hh.out.1.drewN m
  have cT := B1.com.turn
  have cD := B1.com.done
  have H1 : Hid (BkSt LQ w1 NB base F T D U ∧ w1 = w.drewN m) := ⟨B1, hw⟩
  clear hw B1
  by_cases hDT : D = T
  · have hb : ((D : Int) == (T : Int)) = true := by rw [beq_iff_eq]; omega
    go_wp2_with fail
    go_quiet (fail)
    go_wp2_with fail
    go_ret
    refine ⟨rfl, F, ?_⟩
    rw [H1.out.2]
    exact ((LookSt.same Hh.out.1).drewN m).drewN _
  · have hb : ((D : Int) == (T : Int)) = false := by rw [beq_eq_false_iff_ne]; omega
    go_wp2_with fail
    go_quiet (fail)
    have B2 : BkSt LQ (w1.drewN nq) NB base F T D U := H1.out.1.drewN nq
    have e2 : w1.drewN nq = w.drewN (m + nq) := by rw [H1.out.2]; exact World.drewN_drewN _ _ _
    have HG := hideB (grow_any NB base F T D U (w1.drewN nq) B2 (fun K hK => by have := Hh.out.2.2 K hK; omega) (by rw [e2]; exact hbase) Hh.out.2.1)
    have HE2 := hideB e2
    clear B2 H1 cT cD e2
    generalize w1.drewN nq = w2 at *
    go_wp2_with fail
    refine HG.out.mono ?_
    rintro e w3 ⟨rfl, F', hl⟩
    obtain ⟨D', hB3⟩ := hl.st
    have HH3 := hideB (holds_any NB base F' T D' U w3 hB3 (fun K hK => by obtain ⟨X, x1, x2, _⟩ := hl.E K hK; have := Hh.out.2.2 K hK; rw [x1, List.length_append]; omega))
    have HL : Hid (∀ m, LookSt LQ w NB base F T U F' (w3.drewN m)) := fun m => by
      have hl2 := hl
      rw [HE2.out] at hl2
      exact hl2.undrew.drewN m
    clear hl hB3
    go_wp2_with fail
    refine HH3.out.mono ?_
    rintro e w4 ⟨rfl, m', rfl⟩
    have HL2 := hideB (HL.out m')
    clear HL
    go_wp2_with fail
    go_ret
    exact ⟨rfl, F', HL2.out⟩

end Go.Proofs.YtnjcedlbdjidiaaGreatDoor

namespace Go.Proofs.YtnjcedlbdjidiaaGreatDoor
open Go.RowKit
open M
set_option linter.unusedVariables false

/-- The block's first cell is no pointer. -/
def NP (w : World) (k : Nat) : Prop := ∀ p, w.cell? ⟨k, 0, none⟩ ≠ some (.pointer p)

theorem np_row {w : World} {base : Nat} {t : TypeId} {v : Value} {n : Nat} {xs : List Value} (h : w.ownsRow base t 1 v n xs) (hx : ∀ x ∈ xs, ∀ p, x ≠ .pointer p) (hn : 0 < n) {k : Nat} (hk : v.ownBlock = some k) : NP w k := by
  intro p hp
  obtain ⟨_, _, _, _, _, h4⟩ := row_form h
  have hl : 0 < xs.length := by have := h.1; omega
  have := (h4 k hk).2.2.2 0 xs[0] (by rw [List.getElem?_eq_getElem])
  rw [this] at hp
  exact hx _ (List.getElem_mem hl) p (by simpa using hp)

/-- An answer that is kept: what was got, what it must hold, its bytes. -/
structure Got where
  v : Value
  u : Value
  bs : List Nat

structure GOk (w : World) (base : Nat) (g : Got) : Prop where
  got : w.ownsRow base 5 1 g.v g.bs.length (bytesV g.bs)
  full : ∃ p, g.v = .slice p g.bs.length g.bs.length
  want : ∃ b cap, g.u = .slice (some ⟨b, 0, none⟩) g.bs.length cap ∧ base ≤ b ∧ b < w.heap.size ∧ ∀ i, i < g.bs.length → w.cell? ⟨b, i, none⟩ = some (.int .u8 (g.bs.getD i 0 : Nat))
  small : ∀ n ∈ g.bs, n < 256
  short : g.bs.length ≤ 50000

/-- The block of what it must hold. -/
def Got.ub (g : Got) : Option Nat := g.u.ownBlock

structure LateSt (w : World) (NL base : Nat) (rg rw_ : Option Nat) (G : List Got) : Prop where
  gots : ∃ vg, w.cell? ⟨NL, 0, none⟩ = some vg ∧ w.ownsRow base 59 1 vg G.length (G.map Got.v) ∧ vg.ownBlock = rg
  wants : ∃ vw, w.cell? ⟨NL, 1, none⟩ = some vw ∧ w.ownsRow base 59 1 vw G.length (G.map Got.u) ∧ vw.ownBlock = rw_
  f0 : w.frozen? ⟨NL, 0, none⟩ = false
  f1 : w.frozen? ⟨NL, 1, none⟩ = false
  ok : ∀ g ∈ G, GOk w base g
  ne : ∀ k, rg = some k → rw_ ≠ some k
  lt : NL < base
  nil : G = [] → rg = none ∧ rw_ = none

theorem GOk.chg {S : Nat → Prop} {w w' : World} {base : Nat} {g : Got} (h : GOk w base g) (hc : Chg S w w') (h1 : ∀ k, g.v.ownBlock = some k → ¬ S k) (h2 : ∀ k, g.u.ownBlock = some k → 0 < g.bs.length → ¬ S k) : GOk w' base g := by
  refine ⟨ownsRow_chg h.got hc h1, h.full, ?_, h.small, h.short⟩
  obtain ⟨b, cap, k1, k2, k3, k4⟩ := h.want
  exact ⟨b, cap, k1, k2, Nat.lt_of_lt_of_le k3 hc.size, fun i hi => cell_chg (k4 i hi) hc (h2 b (by rw [k1]; rfl) (by omega))⟩

theorem LateSt.chg {S : Nat → Prop} {w w' : World} {NL base : Nat} {rg rw_ : Option Nat} {G : List Got} (h : LateSt w NL base rg rw_ G) (hc : Chg S w w') (h1 : ¬ S NL) (h2 : ∀ k, rg = some k ∨ rw_ = some k → ¬ S k) (h3 : ∀ g ∈ G, ∀ k, g.v.ownBlock = some k → ¬ S k) (h4 : ∀ g ∈ G, ∀ k, g.u.ownBlock = some k → 0 < g.bs.length → ¬ S k) : LateSt w' NL base rg rw_ G := by
  obtain ⟨vg, a1, a2, a3⟩ := h.gots
  obtain ⟨vw, b1, b2, b3⟩ := h.wants
  have hl := block_lt_of_cell a1
  refine ⟨⟨vg, cell_chg a1 hc h1, ownsRow_chg a2 hc (fun g hg => h2 g (.inl (a3 ▸ hg))), a3⟩, ⟨vw, cell_chg b1 hc h1, ownsRow_chg b2 hc (fun g hg => h2 g (.inr (b3 ▸ hg))), b3⟩, ?_, ?_, fun g hg => (h.ok g hg).chg hc (h3 g hg) (h4 g hg), h.ne, h.lt, h.nil⟩
  · rw [World.frozen?_of_block (w := w) (w' := w') (a := ⟨NL, 0, none⟩) (hc.block NL hl h1)]; exact h.f0
  · rw [World.frozen?_of_block (w := w) (w' := w') (a := ⟨NL, 1, none⟩) (hc.block NL hl h1)]; exact h.f1

theorem LateSt.np {w : World} {NL base : Nat} {rg rw_ : Option Nat} {G : List Got} (h : LateSt w NL base rg rw_ G) {k : Nat} (hk : rg = some k ∨ rw_ = some k) : NP w k := by
  obtain ⟨vg, a1, a2, a3⟩ := h.gots
  obtain ⟨vw, b1, b2, b3⟩ := h.wants
  have hG : 0 < G.length := by
    rcases Nat.eq_zero_or_pos G.length with h0 | h0
    · have := h.nil (List.length_eq_zero_iff.1 h0)
      rcases hk with hk | hk <;> simp [this] at hk
    · exact h0
  rcases hk with hk | hk
  · refine np_row a2 (fun x hx p => ?_) hG (a3.trans hk)
    simp only [List.mem_map] at hx
    obtain ⟨e, he, rfl⟩ := hx
    obtain ⟨q, hv⟩ := (h.ok e he).full
    rw [hv]; simp
  · refine np_row b2 (fun x hx p => ?_) hG (b3.trans hk)
    simp only [List.mem_map] at hx
    obtain ⟨e, he, rfl⟩ := hx
    obtain ⟨_, _, hv, _⟩ := (h.ok e he).want
    rw [hv]; simp

/-- What it must hold lies apart from rows of slices. -/
theorem GOk.apart {w : World} {base : Nat} {g : Got} (h : GOk w base g) (h0 : 0 < g.bs.length) {k : Nat} (hk : g.u.ownBlock = some k) {b2 : Nat} {v : Value} {n : Nat} {xs : List Value} (hr : w.ownsRow b2 59 1 v n xs) (hx : ∀ x ∈ xs, ∀ a b, x ≠ .int a b) (hn : 0 < n) : v.ownBlock ≠ some k := by
  intro hh
  obtain ⟨b, cap, k1, k2, k3, k4⟩ := h.want
  have hb : b = k := by rw [k1] at hk; simpa [Value.ownBlock] using hk
  subst hb
  have c1 := k4 0 h0
  obtain ⟨_, _, _, _, _, h4⟩ := row_form hr
  have hl : 0 < xs.length := by have := hr.1; omega
  have c2 := (h4 b hh).2.2.2 0 xs[0] (by rw [List.getElem?_eq_getElem])
  rw [c1] at c2
  exact hx _ (List.getElem_mem hl) _ _ (by simpa using c2.symm)

end Go.Proofs.YtnjcedlbdjidiaaGreatDoor

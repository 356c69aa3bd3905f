/- The law's Book: the walk of growBytes. -/
import Derived.Test.YtpiiagjfimdflaaWk
import Derived.ArgAppend
namespace Go.Proofs.Ytpiiagjfimdflaa
open Go.RowKit
open M
set_option linter.unusedVariables false

theorem BookSt.setA {w : World} {NB base : Nat} {rb ro : Option Nat} {E : List Ent} {A T D U : Nat} (h : BookSt w NB base rb ro E A T D U) (A' : Nat) (hA : A' ≤ E.length) : BookSt (w.setCell ⟨NB, 2, none⟩ (.int .i64 A')) NB base rb ro E A' T D U := by
  obtain ⟨vb, b1, b2, b3⟩ := h.rows
  obtain ⟨vo, o1, o2, o3⟩ := h.marks
  have hb := h.le.2.2.2.1
  have ne : ∀ j v, j ≠ 2 → w.cell? ⟨NB, j, none⟩ = some v → (w.setCell ⟨NB, 2, none⟩ (.int .i64 A')).cell? ⟨NB, j, none⟩ = some v := fun j v hj hc => by rw [cell_setCell_ne _ _ _ _ _ hj]; exact hc
  exact ⟨h.nil.set 2 _ (by omega), ⟨vb, ne _ _ (by omega) b1, ownsRow_setOther b2 _ _ _ hb, b3⟩, ⟨vo, ne _ _ (by omega) o1, ownsRow_setOther o2 _ _ _ hb, o3⟩, cell_setCell_eq _ _ _ _ _ h.at_, ne _ _ (by omega) h.turn, ne _ _ (by omega) h.done, ne _ _ (by omega) h.used,
    fun e he => ⟨ownsRow_setOther (h.ok e he).1 _ _ _ hb, (h.ok e he).2⟩, hA, h.le.2⟩

/-- append of one byte where there is room. -/
theorem append_room {w : World} {ops : Array Oper} {rest : List Oper} {o : Oper} {a : Act} {Q : Exit → Act → World → Prop} (hg : o.guard = none) (s x : Operand) (hop : o.op = Op.call { callee := Callee.builtin Builtin.append, args := #[s, x], argTypes := #[29, 29] })
    {base g L cap : Nat} {xs : List Value} (y : Nat) (hs : a.eval s = .slice (some ⟨g, 0, none⟩) L cap) (hrow : w.ownsRow base 5 1 (.slice (some ⟨g, 0, none⟩) L cap) L xs) (ad : Addr) (hx : a.eval x = .slice (some ad) 1 1) (hc : ∀ j u, ([.int .u8 (y : Int)] : List Value)[j]? = some u → w.cell? (ad.add j) = some u) (hroom : L + 1 ≤ cap) (hL : L ≤ 1000000)
    (h : Hid (∀ w', Hid (w' = w.setCell ⟨g, L, none⟩ (.int .u8 (y : Int))) → wpList Try.prog ops Q rest (a.put o.dst (.slice (some ⟨g, 0, none⟩) (L + 1) cap)) w')) : wpList Try.prog ops Q (o :: rest) a w := by
  obtain ⟨i5, h1, h2, h3, h4⟩ := info5
  refine wpList_append_arg w hg s x 29 hop 5 i5 (.int .u8 0) 1 1 Try.underlying29 h1 h2 h3 h4 rfl (by decide) g 0 L cap xs hs (by simpa using hrow.1) ?_ ad 1 1 [.int .u8 (y : Int)] hx rfl hc (by intro u hu; simp at hu; subst hu; rfl) ?_ (by unfold maxLen; omega) (by omega) (fun _ => ?_) (fun h9 => by omega)
  · intro j u hj
    obtain ⟨_, _, _, _, _, h5⟩ := row_form hrow
    rw [Nat.zero_add]; exact (h5 g rfl).2.2.2 j u hj
  · intro _ j hj
    have hj0 : j = 0 := by simp at hj; omega
    subst hj0
    simpa using (row_next hrow (.int .u8 0) hroom).2
  · exact h.out _ (by rw [Nat.zero_add, Nat.mul_one]; rfl)

/-- append of one byte where there is none. -/
theorem append_full {w : World} {ops : Array Oper} {rest : List Oper} {o : Oper} {a : Act} {Q : Exit → Act → World → Prop} (hg : o.guard = none) (s x : Operand) (hop : o.op = Op.call { callee := Callee.builtin Builtin.append, args := #[s, x], argTypes := #[29, 29] })
    {base L cap : Nat} {p : Option Addr} {xs : List Value} (y : Nat) (hs : a.eval s = .slice p L cap) (hrow : w.ownsRow base 5 1 (.slice p L cap) L xs) (ad : Addr) (hx : a.eval x = .slice (some ad) 1 1) (hc : ∀ j u, ([.int .u8 (y : Int)] : List Value)[j]? = some u → w.cell? (ad.add j) = some u) (hfull : cap < L + 1) (hL : L ≤ 1000000)
    (h : Hid (∀ v' w', w'.ownsRow w.heap.size 5 1 v' (L + 1) (xs ++ [.int .u8 (y : Int)]) → w.grownBy w' none → wpList Try.prog ops Q rest (a.put o.dst v') w')) : wpList Try.prog ops Q (o :: rest) a w := by
  obtain ⟨i5, h1, h2, h3, h4⟩ := info5
  refine wpList_append_grows w hg s x 29 hop 5 i5 (.int .u8 0) 1 1 Try.underlying29 h1 h2 h3 h4 rfl (by decide) p L cap xs hs ?_ (by simpa using hrow.1) ?_ ad 1 1 [.int .u8 (y : Int)] hx rfl hc (by intro u hu; simp at hu; subst hu; rfl) hfull (by unfold maxLen; omega) (by omega) h.out
  · intro h0
    obtain ⟨_, _, hv, h5, h6, _⟩ := row_form hrow
    simp only [Value.slice.injEq] at hv
    have := h6 (hv.1 ▸ h0)
    omega
  · intro bb hbb j u hj
    obtain ⟨g, rfl⟩ : ∃ g, bb = ⟨g, 0, none⟩ := by
      rcases hrow.2 with ⟨h8, _⟩ | ⟨g, c9, cur, h8, _⟩
      · simp only [Value.slice.injEq] at h8; rw [h8.1] at hbb; simp at hbb
      · simp only [Value.slice.injEq] at h8; rw [h8.1] at hbb; simp only [Option.some.injEq] at hbb; exact ⟨g, hbb.symm⟩
    subst hbb
    obtain ⟨_, _, _, _, _, h5⟩ := row_form hrow
    rw [Addr.add_mid, Nat.zero_add]
    exact (h5 g rfl).2.2.2 j u hj

/-- append of one slice to a row of them. -/
theorem append_29 {w : World} {ops : Array Oper} {rest : List Oper} {o : Oper} {a : Act} {Q : Exit → Act → World → Prop} (hg : o.guard = none) (s x : Operand) (hop : o.op = Op.call { callee := Callee.builtin Builtin.append, args := #[s, x], argTypes := #[34, 34] })
    {base n : Nat} {v : Value} {xs : List Value} (y : Value) (hy : y.oneCell' = true) (hs : a.eval s = v) (hrow : w.ownsRow base 29 1 v n xs) (ad : Addr) (hx : a.eval x = .slice (some ad) 1 1) (hc : ∀ j u, ([y] : List Value)[j]? = some u → w.cell? (ad.add j) = some u) (hn : n ≤ 100000000) (hb : base ≤ w.heap.size)
    (h : Hid (∀ g cap w', w'.ownsRow base 29 1 (.slice (some ⟨g, 0, none⟩) (n + 1) cap) (n + 1) (xs ++ [y]) → w.grownBy w' v.ownBlock → (v.ownBlock = some g ∨ g = w.heap.size) → wpList Try.prog ops Q rest (a.put o.dst (.slice (some ⟨g, 0, none⟩) (n + 1) cap)) w')) : wpList Try.prog ops Q (o :: rest) a w := by
  obtain ⟨i, h1, h2, h3, h4⟩ := info29
  exact wpList_append_lies w hg s x 34 hop base 29 i (.slice none 0 0) 1 24 Try.underlying34 h1 h2 h3 h4 rfl (by decide) v n xs hs hrow ad 1 1 [y] hx rfl hc (by intro u hu; simp at hu; subst hu; exact hy) (by decide) (by unfold maxLen; omega) (by omega) hb _ rfl (fun g cap w' k1 k2 k3 k4 => h.out g cap w' k1 k2 k3)

/-- append of one number to a row of them. -/
theorem append_3 {w : World} {ops : Array Oper} {rest : List Oper} {o : Oper} {a : Act} {Q : Exit → Act → World → Prop} (hg : o.guard = none) (s x : Operand) (hop : o.op = Op.call { callee := Callee.builtin Builtin.append, args := #[s, x], argTypes := #[35, 35] })
    {base n : Nat} {v : Value} {xs : List Value} (y : Value) (hy : y.oneCell' = true) (hs : a.eval s = v) (hrow : w.ownsRow base 3 1 v n xs) (ad : Addr) (hx : a.eval x = .slice (some ad) 1 1) (hc : ∀ j u, ([y] : List Value)[j]? = some u → w.cell? (ad.add j) = some u) (hn : n ≤ 100000000) (hb : base ≤ w.heap.size)
    (h : Hid (∀ g cap w', w'.ownsRow base 3 1 (.slice (some ⟨g, 0, none⟩) (n + 1) cap) (n + 1) (xs ++ [y]) → w.grownBy w' v.ownBlock → (v.ownBlock = some g ∨ g = w.heap.size) → wpList Try.prog ops Q rest (a.put o.dst (.slice (some ⟨g, 0, none⟩) (n + 1) cap)) w')) : wpList Try.prog ops Q (o :: rest) a w := by
  obtain ⟨i, h1, h2, h3, h4⟩ := info3
  exact wpList_append_lies w hg s x 35 hop base 3 i (.int .i64 0) 1 8 Try.underlying35 h1 h2 h3 h4 rfl (by decide) v n xs hs hrow ad 1 1 [y] hx rfl hc (by intro u hu; simp at hu; subst hu; exact hy) (by decide) (by unfold maxLen; omega) (by omega) hb _ rfl (fun g cap w' k1 k2 k3 k4 => h.out g cap w' k1 k2 k3)

/-- Behind growBytes. -/
def GrownPost (w : World) (NB base : Nat) (rb ro : Option Nat) (E : List Ent) (A T D U : Nat) (w' : World) : Prop :=
  ∃ rb' ro' X, BookSt w' NB base rb' ro' (E ++ X) (E ++ X).length T D U ∧ X.length ≤ 96 * (E.length - A) ∧ RowStep w rb rb' ∧ RowStep w ro ro' ∧ (∀ e ∈ X, ∀ g, e.v.ownBlock = some g → w.heap.size ≤ g) ∧ Chg (fun k => k = NB ∨ rb = some k ∨ ro = some k) w w'

set_option maxRecDepth 100000 in
set_option maxHeartbeats 16000000 in
theorem growBytes_any (NB base : Nat) (rb ro : Option Nat) (E : List Ent) (A T D U : Nat) (w : World) (h : BookSt w NB base rb ro E A T D U) (hE : E.length ≤ 100000) (hbase : base ≤ w.heap.size) (hfr : ∀ i e, A ≤ i → E[i]? = some e → e.n ≤ 5000 ∧ ∃ p, e.v = .slice p e.n e.n) :
    Calls Try.prog 79 #[.pointer (some ⟨NB, 0, none⟩)] w fun q w' => q = .returned (.tuple #[]) ∧ GrownPost w NB base rb ro E A T D U w' := by
  have hA := h.le.1
  have c2 := h.at_
  obtain ⟨vb, b1, b2, _⟩ := h.rows
  obtain ⟨pb, capb, hvb, -⟩ := row_form b2
  subst hvb
  obtain ⟨i5, hi5⟩ := info5
  obtain ⟨i29, h29⟩ := info29
  obtain ⟨i3, h3⟩ := info3
  have Hi : Hid (Try.prog.info? 5 = some i5 ∧ i5.zero = some (.int .u8 0) ∧ i5.size = 1 ∧ i5.bytes = 1) := hi5
  have H29 : Hid (Try.prog.info? 29 = some i29 ∧ i29.zero = some (.slice none 0 0) ∧ i29.size = 1 ∧ i29.bytes = 24) := h29
  have H3 : Hid (Try.prog.info? 3 = some i3 ∧ i3.zero = some (.int .i64 0) ∧ i3.size = 1 ∧ i3.bytes = 8) := h3
  have HS0 : Hid (GrowSt w NB base rb ro E A T D U (96 * (A - A)) w) := ⟨rb, ro, [], by rw [List.append_nil]; exact h, by simp, .inl rfl, .inl rfl, fun e he => by simp at he, Chg.refl _ _⟩
  have Hfr : Hid (∀ i e, A ≤ i → E[i]? = some e → e.n ≤ 5000 ∧ ∃ p, e.v = .slice p e.n e.n) := hfr
  obtain ⟨nE, hnE⟩ : ∃ nE, nE = E.length := ⟨_, rfl⟩
  have HnE : Hid (nE = E.length) := hnE
  rw [← hnE] at b1 hE hA
  clear h b2 hfr hi5 h29 h3 hnE
  go_enter Try.func79, Try.ntmps79
  go_wp2_with fail
  clear b1 c2
  go_loopw [3] (fun t3 wr => ∃ k : Nat, A ≤ k ∧ k ≤ nE ∧ t3 = .int .i64 k ∧ Hid (GrowSt w NB base rb ro E A T D U (96 * (k - A)) wr)) (fun t3 _ => nE - (intOf t3).toNat)
  case atStart => exact ⟨A, by omega, by omega, rfl, HS0⟩
  case round =>
    obtain ⟨k, hkA, hk, rfl, HS⟩ := hrel
    by_cases hlt : k < nE
    · have hlt' : (k : Int) < (nE : Int) := by omega
      obtain ⟨e, he⟩ : ∃ e, E[k]? = some e := ⟨E[k]'(by have := HnE.out; omega), List.getElem?_eq_getElem _⟩
      obtain ⟨hn5, pe, hve⟩ := Hfr.out k e hkA he
      obtain ⟨rb', ro', X, BS, hX, s1, s2, xn, C⟩ := HS.out
      have heX : (E ++ X)[k]? = some e := by rw [List.getElem?_append_left (by have := HnE.out; omega)]; exact he
      obtain ⟨hok, _, hm6⟩ := BS.ok e (List.mem_of_getElem? heX)
      obtain ⟨vb, b1, b2, b3⟩ := BS.rows
      obtain ⟨vo, q1, q2, q3⟩ := BS.marks
      obtain ⟨pb, capb, hvb, -⟩ := row_form b2
      obtain ⟨po, capo, hvo, -⟩ := row_form q2
      have hlen : 0 < (E ++ X).length := by rw [List.length_append, ← HnE.out]; omega
      obtain ⟨gb, rfl, _, _, hb4⟩ := row_at b2 hvb hlen
      obtain ⟨go, rfl, _, _, hq4⟩ := row_at q2 hvo hlen
      have d1 : wr.cell? ⟨gb, k, none⟩ = some (.slice pe e.n e.n) := by rw [hb4 k e.v (by simp only [List.getElem?_map, heX, Option.map_some]), hve]
      have d2 : wr.cell? ⟨go, k, none⟩ = some (.int .i64 (e.m : Int)) := hq4 k _ (by simp only [List.getElem?_map, heX, Option.map_some])
      rw [hvb] at b1
      rw [hvo] at q1
      have hI : InSt w NB base rb ro E A T D U (96 * (k - A) + (1 - 1)) e.m (e.n + (1 - 1)) (.slice pe e.n e.n) wr := ⟨rb', ro', X, BS, by omega, s1, s2, xn, C, by rw [← hve]; exact hok, .inl ⟨pe, rfl⟩⟩
      have HI0 : Hid (InSt w NB base rb ro E A T D U (96 * (k - A) + (1 - 1)) e.m (e.n + (1 - 1)) (.slice pe e.n e.n) wr) := hI
      obtain ⟨nX, hnX⟩ : ∃ nX, nX = (E ++ X).length := ⟨_, rfl⟩
      have hnX2 : (k : Int) < (nX : Int) := by rw [hnX, List.length_append, ← HnE.out]; omega
      rw [← hnX] at b1 q1
      clear HS BS s1 s2 xn C heX hok b2 b3 q2 q3 hvb hvo hlen hb4 hq4 hI hve he hnX hX
      generalize e.n = n0 at *
      generalize e.m = m0 at *
      go_wp2_with fail
      clear b1 q1 d1 d2
      go_loopw [4, 6] (fun t4 t6 wr => ∃ i : Nat, 1 ≤ i ∧ i ≤ 97 ∧ t6 = .int .i64 i ∧ Hid (InSt w NB base rb ro E A T D U (96 * (k - A) + (i - 1)) m0 (n0 + (i - 1)) t4 wr)) (fun _ t6 _ => 97 - (intOf t6).toNat)
      case atStart => exact ⟨1, by omega, by omega, rfl, HI0⟩
      case round =>
        obtain ⟨i, hi1, hi97, rfl, HI⟩ := hrel
        by_cases hi : i ≤ 96
        · have hi' : (i : Int) ≤ 96 := by omega
          obtain ⟨L, hL⟩ : ∃ L, L = n0 + (i - 1) := ⟨_, rfl⟩
          obtain ⟨cc, hcc⟩ : ∃ cc, cc = 96 * (k - A) + (i - 1) := ⟨_, rfl⟩
          have HI2 : Hid (InSt w NB base rb ro E A T D U cc m0 L u4 wr) := by rw [hL, hcc]; exact HI.out
          have hLb : L ≤ 6000 := by omega
          have Hcb : Hid (cc ≤ 9700000) := by show _ ≤ _; omega
          have Hnx : Hid (n0 + (i + 1 - 1) = L + 1 ∧ 96 * (k - A) + (i + 1 - 1) = cc + 1) := ⟨by omega, by omega⟩
          obtain ⟨p2, cap2, hv2, hle2, hp2, _⟩ := row_form (show wr.ownsRow base 5 1 _ L _ from by obtain ⟨_, _, _, _, _, _, _, _, _, h7, _⟩ := HI2.out; exact h7)
          have HAt : Hid (Calls Try.prog 70 #[.int .i64 m0, .int .i64 L] wr fun e w' => e = .returned (.int .u8 (mk m0 L : Nat)) ∧ w' = wr) := at_any m0 L wr hm6 (by omega)
          subst hv2
          clear HI hL hcc
          by_cases hroom : L + 1 ≤ cap2
          · obtain ⟨g, rfl⟩ : ∃ g, p2 = some ⟨g, 0, none⟩ := by
              obtain ⟨_, _, _, _, _, _, _, _, _, h7, _⟩ := HI2.out
              rcases h7.2 with ⟨h8, _⟩ | ⟨g, c9, cur, h8, _⟩
              · simp only [Value.slice.injEq] at h8; omega
              · simp only [Value.slice.injEq] at h8; exact ⟨g, h8.1⟩
            have hrow : wr.ownsRow base 5 1 (.slice (some ⟨g, 0, none⟩) L cap2) L (bytesV (marksOf m0 L)) := by obtain ⟨_, _, _, _, _, _, _, _, _, h7, _⟩ := HI2.out; exact h7
            have HN : Hid (∀ o, InR w NB base rb ro E A T D U cc m0 (L + 1) (.slice (some ⟨g, 0, none⟩) (L + 1) cap2) ((wr.alloc o).setCell ⟨g, L, none⟩ (.int .u8 (mk m0 L : Nat)))) := fun o => HI2.out.room hroom
            have HR : Hid (wr.ownsRow base 5 1 (.slice (some ⟨g, 0, none⟩) L cap2) L (bytesV (marksOf m0 L))) := hrow
            clear hrow HI2
            generalize mk m0 L = yy at *
            go_wp2_with fail
            refine HAt.out.mono ?_
            rintro ee w1 ⟨rfl, rfl⟩
            go_wp2_with (at_builtin; refine append_room rfl _ _ rfl yy rfl (HR.out.alloc _) ⟨w1.heap.size, 0, none⟩ rfl ?r3 ?r5 ?r6 ?r8)
            case r3 => intro j u hj; exact cell_new1 w1 _ 5 j u hj
            case r5 => omega
            case r6 => omega
            case r8 =>
              show ∀ w', _
              intro wC hwC
              have HQ : Hid (InR w NB base rb ro E A T D U cc m0 (L + 1) (.slice (some ⟨g, 0, none⟩) (L + 1) cap2) wC) := by rw [hwC.out]; exact HN.out _
              clear hwC HN HR
              by_cases hi4 : i < 4
              · have hi4' : (i : Int) < 4 := by omega
                obtain ⟨rb', ro', X, BS, hX, s1, s2, xn, C, hv5, hu5⟩ := HQ.out
                have hu6 : ∀ g', (Value.slice (some ⟨g, 0, none⟩) (L + 1) cap2).ownBlock = some g' → w.heap.size ≤ g' ∧ ∀ e ∈ E ++ X, e.v.ownBlock = some g' → e.n ≤ L + 1 := hu5
                obtain ⟨vb, b1, b2, b3⟩ := BS.rows
                obtain ⟨vo, q1, q2, q3⟩ := BS.marks
                have f0 := BS.nil.fz 0 (by omega)
                have f1 := BS.nil.fz 1 (by omega)
                have hbC : base ≤ wC.heap.size := Nat.le_trans hbase C.size
                have nrb : rb' ≠ some NB := fun hh => by have := (row_ge b2 (b3.trans hh)).1; have := BS.le.2.2.2.1; omega
                have nro : ro' ≠ some NB := fun hh => by have := (row_ge q2 (q3.trans hh)).1; have := BS.le.2.2.2.1; omega
                have Hn : Hid (rb' ≠ some NB ∧ ro' ≠ some NB ∧ vb.ownBlock = rb' ∧ vo.ownBlock = ro' ∧ NB < base) := ⟨nrb, nro, b3, q3, BS.le.2.2.2.1⟩
                have HR1 : Hid (wC.ownsRow base 29 1 vb (E ++ X).length ((E ++ X).map Ent.v)) := b2
                have HR2 : Hid (wC.ownsRow base 3 1 vo (E ++ X).length ((E ++ X).map fun e => Value.int .i64 (e.m : Int))) := q2
                have hXb : (E ++ X).length ≤ 20000000 := by rw [List.length_append, ← HnE.out]; have := Hcb.out; omega
                have HA5 : Hid (∀ {wD wE wF wG : World} {vb' vo' : Value} {c1 c2 : Obj}, wD.ownsRow base 29 1 vb' ((E ++ X).length + 1) ((E ++ X).map Ent.v ++ [.slice (some ⟨g, 0, none⟩) (L + 1) cap2]) → (wC.alloc c1).grownBy wD rb' → (rb' = vb'.ownBlock ∨ vb'.ownBlock = some (wC.heap.size + 1)) → wE = wD.setCell ⟨NB, 0, none⟩ vb' → wF.ownsRow base 3 1 vo' ((E ++ X).length + 1) (((E ++ X).map fun e => Value.int .i64 (e.m : Int)) ++ [.int .i64 (m0 : Int)]) → (wE.alloc c2).grownBy wF ro' → (ro' = vo'.ownBlock ∨ vo'.ownBlock = some (wE.heap.size + 1)) → wG = wF.setCell ⟨NB, 1, none⟩ vo' → InSt w NB base rb ro E A T D U (cc + 1) m0 (L + 1) (.slice (some ⟨g, 0, none⟩) (L + 1) cap2) wG) :=
                  fun o1 g1 a1 e1 o2 g2 a2 e2 => InSt.add BS hX s1 s2 xn C hv5 hu6 (by omega) hm6 o1 g1 a1 e1 o2 g2 a2 e2
                obtain ⟨nX, hnX⟩ : ∃ nX, nX = (E ++ X).length := ⟨_, rfl⟩
                clear HQ BS s1 s2 xn C hv5 hu5 hu6 b2 b3 q2 q3 nrb nro hX
                rw [← hnX] at HR1 HR2 HA5 hXb
                clear hnX
                generalize (E ++ X).map Ent.v = ev at *
                generalize ((E ++ X).map fun e => Value.int .i64 (e.m : Int)) = em at *
                have hbC1 : base ≤ (wC.alloc (.cells #[.slice (some ⟨g, 0, none⟩) (L + 1) cap2] 29)).heap.size := by simp; omega
                have HbC1 : Hid (base ≤ (wC.alloc (.cells #[.slice (some ⟨g, 0, none⟩) (L + 1) cap2] 29)).heap.size) := hbC1
                have HXb : Hid (nX ≤ 100000000) := by show _ ≤ _; omega
                clear hbC1
                go_wp2_with (at_builtin; go_loud (refine append_29 rfl _ _ rfl (.slice (some ⟨g, 0, none⟩) (L + 1) cap2) rfl rfl (HR1.out.alloc _) ⟨wC.heap.size, 0, none⟩ rfl (fun j u hj => cell_new1 wC _ 29 j u hj) HXb.out HbC1.out ?d6))
                case d6 =>
                  show ∀ g cap w', _
                  intro g1 cap1 wD o1 gr1 at1
                  rw [Hn.out.2.2.1] at gr1 at1
                  have C1 : Chg (fun k => rb' = some k) wC wD := (Chg.below ((Below.refl _ _).alloc (Nat.le_refl _) _)).trans' (Chg.grown gr1 fun g hg => hg)
                  have c0D := cell_chg b1 C1 Hn.out.1
                  have c1D := cell_chg q1 C1 Hn.out.1
                  have fD : ∀ j, wD.frozen? ⟨NB, j, none⟩ = wC.frozen? ⟨NB, j, none⟩ := fun j => World.frozen?_of_block (w := wC) (C1.block NB (block_lt_of_cell b1) Hn.out.1)
                  have f0D := (fD 0).trans f0
                  have f1D := (fD 1).trans f1
                  have q2D : wD.ownsRow base 3 1 vo nX em := ownsRow_chg HR2.out C1 (fun g hg hh => rows_ne HR2.out HR1.out (by decide) hg (Hn.out.2.2.1.trans hh))
                  have HR2E : Hid ((wD.setCell ⟨NB, 0, none⟩ (.slice (some ⟨g1, 0, none⟩) (nX + 1) cap1)).ownsRow base 3 1 vo nX em) := ownsRow_setOther q2D _ _ _ Hn.out.2.2.2.2
                  have zE : (wD.setCell ⟨NB, 0, none⟩ (.slice (some ⟨g1, 0, none⟩) (nX + 1) cap1)).heap.size = wD.heap.size := by simp [World.setCell]
                  have hbE : base ≤ wD.heap.size := Nat.le_trans hbC C1.size
                  have H1 : Hid (wD.ownsRow base 29 1 (.slice (some ⟨g1, 0, none⟩) (nX + 1) cap1) (nX + 1) (ev ++ [.slice (some ⟨g, 0, none⟩) (L + 1) cap2]) ∧ (wC.alloc (.cells #[.slice (some ⟨g, 0, none⟩) (L + 1) cap2] 29)).grownBy wD rb' ∧ (rb' = (Value.slice (some ⟨g1, 0, none⟩) (nX + 1) cap1).ownBlock ∨ (Value.slice (some ⟨g1, 0, none⟩) (nX + 1) cap1).ownBlock = some (wC.heap.size + 1))) := ⟨o1, gr1, by rcases at1 with at1 | at1; exact .inl at1; right; rw [at1]; simp [Value.ownBlock]⟩
                  have c1E : (wD.setCell ⟨NB, 0, none⟩ (.slice (some ⟨g1, 0, none⟩) (nX + 1) cap1)).cell? ⟨NB, 1, none⟩ = some vo := by rw [cell_setCell_ne _ _ _ _ _ (by omega)]; exact c1D
                  have f1E : (wD.setCell ⟨NB, 0, none⟩ (.slice (some ⟨g1, 0, none⟩) (nX + 1) cap1)).frozen? ⟨NB, 1, none⟩ = false := by rw [frozen_setCell]; exact f1D
                  have HcE : Hid ((wD.setCell ⟨NB, 0, none⟩ (.slice (some ⟨g1, 0, none⟩) (nX + 1) cap1)).cell? ⟨NB, 1, none⟩ = some vo ∧ (wD.setCell ⟨NB, 0, none⟩ (.slice (some ⟨g1, 0, none⟩) (nX + 1) cap1)).frozen? ⟨NB, 1, none⟩ = false) := ⟨c1E, f1E⟩
                  clear o1 gr1 at1 C1 fD q2D HR2 c1E f1E
                  have HbE1 : Hid (base ≤ ((wD.setCell ⟨NB, 0, none⟩ (.slice (some ⟨g1, 0, none⟩) (nX + 1) cap1)).alloc (.cells #[.int .i64 (m0 : Int)] 3)).heap.size) := by show _ ≤ _; simp [zE]; omega
                  have HcN : Hid (∀ j u, ([.int .i64 (m0 : Int)] : List Value)[j]? = some u → ((wD.setCell ⟨NB, 0, none⟩ (.slice (some ⟨g1, 0, none⟩) (nX + 1) cap1)).alloc (.cells #[.int .i64 (m0 : Int)] 3)).cell? ((⟨wD.heap.size, 0, none⟩ : Addr).add j) = some u) := fun j u hj => by have h := cell_new1 (wD.setCell ⟨NB, 0, none⟩ (.slice (some ⟨g1, 0, none⟩) (nX + 1) cap1)) _ 3 j u hj; rw [zE] at h; exact h
                  go_wp2_with (at_builtin; refine append_3 rfl _ _ rfl (.int .i64 (m0 : Int)) rfl rfl (HR2E.out.alloc _) ⟨wD.heap.size, 0, none⟩ rfl HcN.out HXb.out HbE1.out ?e6)
                  case e6 =>
                    show ∀ g cap w', _
                    intro g2 cap3 wF o2 gr2 at2
                    rw [Hn.out.2.2.2.1] at gr2 at2
                    have C3 : Chg (fun k => ro' = some k) (wD.setCell ⟨NB, 0, none⟩ (.slice (some ⟨g1, 0, none⟩) (nX + 1) cap1)) wF := (Chg.below ((Below.refl _ _).alloc (Nat.le_refl _) _)).trans' (Chg.grown gr2 fun g hg => hg)
                    have c1F := cell_chg HcE.out.1 C3 Hn.out.2.1
                    have f1F : wF.frozen? ⟨NB, 1, none⟩ = false := (World.frozen?_of_block (w := wD.setCell ⟨NB, 0, none⟩ (.slice (some ⟨g1, 0, none⟩) (nX + 1) cap1)) (C3.block NB (block_lt_of_cell HcE.out.1) Hn.out.2.1)).trans HcE.out.2
                    have HF : Hid (InSt w NB base rb ro E A T D U (96 * (k - A) + (i + 1 - 1)) m0 (n0 + (i + 1 - 1)) (.slice (some ⟨g, 0, none⟩) (L + 1) cap2) (wF.setCell ⟨NB, 1, none⟩ (.slice (some ⟨g2, 0, none⟩) (nX + 1) cap3))) := by
                      rw [Hnx.out.1, Hnx.out.2]
                      exact HA5.out H1.out.1 H1.out.2.1 H1.out.2.2 rfl o2 gr2 (by rcases at2 with at2 | at2; exact .inl at2; right; rw [at2]; simp [Value.ownBlock, zE]) rfl
                    clear o2 gr2 at2 C3 H1 HR2E HcE HA5 HbE1 HcN
                    go_wp2_with fail
                    go_roundw
                    case rel => exact ⟨i + 1, by omega, by omega, by go_num, HF⟩
                    case measure => simp [intOf]; omega
              · have hi4' : ¬ (i : Int) < 4 := by omega
                by_cases h16 : i % 16 = 0
                · have h16' : ((i : Int) % 16 == 0) = true := by rw [beq_iff_eq]; omega
                  obtain ⟨rb', ro', X, BS, hX, s1, s2, xn, C, hv5, hu5⟩ := HQ.out
                  have hu6 : ∀ g', (Value.slice (some ⟨g, 0, none⟩) (L + 1) cap2).ownBlock = some g' → w.heap.size ≤ g' ∧ ∀ e ∈ E ++ X, e.v.ownBlock = some g' → e.n ≤ L + 1 := hu5
                  obtain ⟨vb, b1, b2, b3⟩ := BS.rows
                  obtain ⟨vo, q1, q2, q3⟩ := BS.marks
                  have f0 := BS.nil.fz 0 (by omega)
                  have f1 := BS.nil.fz 1 (by omega)
                  have hbC : base ≤ wC.heap.size := Nat.le_trans hbase C.size
                  have nrb : rb' ≠ some NB := fun hh => by have := (row_ge b2 (b3.trans hh)).1; have := BS.le.2.2.2.1; omega
                  have nro : ro' ≠ some NB := fun hh => by have := (row_ge q2 (q3.trans hh)).1; have := BS.le.2.2.2.1; omega
                  have Hn : Hid (rb' ≠ some NB ∧ ro' ≠ some NB ∧ vb.ownBlock = rb' ∧ vo.ownBlock = ro' ∧ NB < base) := ⟨nrb, nro, b3, q3, BS.le.2.2.2.1⟩
                  have HR1 : Hid (wC.ownsRow base 29 1 vb (E ++ X).length ((E ++ X).map Ent.v)) := b2
                  have HR2 : Hid (wC.ownsRow base 3 1 vo (E ++ X).length ((E ++ X).map fun e => Value.int .i64 (e.m : Int))) := q2
                  have hXb : (E ++ X).length ≤ 20000000 := by rw [List.length_append, ← HnE.out]; have := Hcb.out; omega
                  have HA5 : Hid (∀ {wD wE wF wG : World} {vb' vo' : Value} {c1 c2 : Obj}, wD.ownsRow base 29 1 vb' ((E ++ X).length + 1) ((E ++ X).map Ent.v ++ [.slice (some ⟨g, 0, none⟩) (L + 1) cap2]) → (wC.alloc c1).grownBy wD rb' → (rb' = vb'.ownBlock ∨ vb'.ownBlock = some (wC.heap.size + 1)) → wE = wD.setCell ⟨NB, 0, none⟩ vb' → wF.ownsRow base 3 1 vo' ((E ++ X).length + 1) (((E ++ X).map fun e => Value.int .i64 (e.m : Int)) ++ [.int .i64 (m0 : Int)]) → (wE.alloc c2).grownBy wF ro' → (ro' = vo'.ownBlock ∨ vo'.ownBlock = some (wE.heap.size + 1)) → wG = wF.setCell ⟨NB, 1, none⟩ vo' → InSt w NB base rb ro E A T D U (cc + 1) m0 (L + 1) (.slice (some ⟨g, 0, none⟩) (L + 1) cap2) wG) :=
                    fun o1 g1 a1 e1 o2 g2 a2 e2 => InSt.add BS hX s1 s2 xn C hv5 hu6 (by omega) hm6 o1 g1 a1 e1 o2 g2 a2 e2
                  obtain ⟨nX, hnX⟩ : ∃ nX, nX = (E ++ X).length := ⟨_, rfl⟩
                  clear HQ BS s1 s2 xn C hv5 hu5 hu6 b2 b3 q2 q3 nrb nro hX
                  rw [← hnX] at HR1 HR2 HA5 hXb
                  clear hnX
                  generalize (E ++ X).map Ent.v = ev at *
                  generalize ((E ++ X).map fun e => Value.int .i64 (e.m : Int)) = em at *
                  have hbC1 : base ≤ (wC.alloc (.cells #[.slice (some ⟨g, 0, none⟩) (L + 1) cap2] 29)).heap.size := by simp; omega
                  have HbC1 : Hid (base ≤ (wC.alloc (.cells #[.slice (some ⟨g, 0, none⟩) (L + 1) cap2] 29)).heap.size) := hbC1
                  have HXb : Hid (nX ≤ 100000000) := by show _ ≤ _; omega
                  clear hbC1
                  go_wp2_with (at_builtin; go_loud (refine append_29 rfl _ _ rfl (.slice (some ⟨g, 0, none⟩) (L + 1) cap2) rfl rfl (HR1.out.alloc _) ⟨wC.heap.size, 0, none⟩ rfl (fun j u hj => cell_new1 wC _ 29 j u hj) HXb.out HbC1.out ?d6))
                  case d6 =>
                    show ∀ g cap w', _
                    intro g1 cap1 wD o1 gr1 at1
                    rw [Hn.out.2.2.1] at gr1 at1
                    have C1 : Chg (fun k => rb' = some k) wC wD := (Chg.below ((Below.refl _ _).alloc (Nat.le_refl _) _)).trans' (Chg.grown gr1 fun g hg => hg)
                    have c0D := cell_chg b1 C1 Hn.out.1
                    have c1D := cell_chg q1 C1 Hn.out.1
                    have fD : ∀ j, wD.frozen? ⟨NB, j, none⟩ = wC.frozen? ⟨NB, j, none⟩ := fun j => World.frozen?_of_block (w := wC) (C1.block NB (block_lt_of_cell b1) Hn.out.1)
                    have f0D := (fD 0).trans f0
                    have f1D := (fD 1).trans f1
                    have q2D : wD.ownsRow base 3 1 vo nX em := ownsRow_chg HR2.out C1 (fun g hg hh => rows_ne HR2.out HR1.out (by decide) hg (Hn.out.2.2.1.trans hh))
                    have HR2E : Hid ((wD.setCell ⟨NB, 0, none⟩ (.slice (some ⟨g1, 0, none⟩) (nX + 1) cap1)).ownsRow base 3 1 vo nX em) := ownsRow_setOther q2D _ _ _ Hn.out.2.2.2.2
                    have zE : (wD.setCell ⟨NB, 0, none⟩ (.slice (some ⟨g1, 0, none⟩) (nX + 1) cap1)).heap.size = wD.heap.size := by simp [World.setCell]
                    have hbE : base ≤ wD.heap.size := Nat.le_trans hbC C1.size
                    have H1 : Hid (wD.ownsRow base 29 1 (.slice (some ⟨g1, 0, none⟩) (nX + 1) cap1) (nX + 1) (ev ++ [.slice (some ⟨g, 0, none⟩) (L + 1) cap2]) ∧ (wC.alloc (.cells #[.slice (some ⟨g, 0, none⟩) (L + 1) cap2] 29)).grownBy wD rb' ∧ (rb' = (Value.slice (some ⟨g1, 0, none⟩) (nX + 1) cap1).ownBlock ∨ (Value.slice (some ⟨g1, 0, none⟩) (nX + 1) cap1).ownBlock = some (wC.heap.size + 1))) := ⟨o1, gr1, by rcases at1 with at1 | at1; exact .inl at1; right; rw [at1]; simp [Value.ownBlock]⟩
                    have c1E : (wD.setCell ⟨NB, 0, none⟩ (.slice (some ⟨g1, 0, none⟩) (nX + 1) cap1)).cell? ⟨NB, 1, none⟩ = some vo := by rw [cell_setCell_ne _ _ _ _ _ (by omega)]; exact c1D
                    have f1E : (wD.setCell ⟨NB, 0, none⟩ (.slice (some ⟨g1, 0, none⟩) (nX + 1) cap1)).frozen? ⟨NB, 1, none⟩ = false := by rw [frozen_setCell]; exact f1D
                    have HcE : Hid ((wD.setCell ⟨NB, 0, none⟩ (.slice (some ⟨g1, 0, none⟩) (nX + 1) cap1)).cell? ⟨NB, 1, none⟩ = some vo ∧ (wD.setCell ⟨NB, 0, none⟩ (.slice (some ⟨g1, 0, none⟩) (nX + 1) cap1)).frozen? ⟨NB, 1, none⟩ = false) := ⟨c1E, f1E⟩
                    clear o1 gr1 at1 C1 fD q2D HR2 c1E f1E
                    have HbE1 : Hid (base ≤ ((wD.setCell ⟨NB, 0, none⟩ (.slice (some ⟨g1, 0, none⟩) (nX + 1) cap1)).alloc (.cells #[.int .i64 (m0 : Int)] 3)).heap.size) := by show _ ≤ _; simp [zE]; omega
                    have HcN : Hid (∀ j u, ([.int .i64 (m0 : Int)] : List Value)[j]? = some u → ((wD.setCell ⟨NB, 0, none⟩ (.slice (some ⟨g1, 0, none⟩) (nX + 1) cap1)).alloc (.cells #[.int .i64 (m0 : Int)] 3)).cell? ((⟨wD.heap.size, 0, none⟩ : Addr).add j) = some u) := fun j u hj => by have h := cell_new1 (wD.setCell ⟨NB, 0, none⟩ (.slice (some ⟨g1, 0, none⟩) (nX + 1) cap1)) _ 3 j u hj; rw [zE] at h; exact h
                    go_wp2_with (at_builtin; refine append_3 rfl _ _ rfl (.int .i64 (m0 : Int)) rfl rfl (HR2E.out.alloc _) ⟨wD.heap.size, 0, none⟩ rfl HcN.out HXb.out HbE1.out ?e6)
                    case e6 =>
                      show ∀ g cap w', _
                      intro g2 cap3 wF o2 gr2 at2
                      rw [Hn.out.2.2.2.1] at gr2 at2
                      have C3 : Chg (fun k => ro' = some k) (wD.setCell ⟨NB, 0, none⟩ (.slice (some ⟨g1, 0, none⟩) (nX + 1) cap1)) wF := (Chg.below ((Below.refl _ _).alloc (Nat.le_refl _) _)).trans' (Chg.grown gr2 fun g hg => hg)
                      have c1F := cell_chg HcE.out.1 C3 Hn.out.2.1
                      have f1F : wF.frozen? ⟨NB, 1, none⟩ = false := (World.frozen?_of_block (w := wD.setCell ⟨NB, 0, none⟩ (.slice (some ⟨g1, 0, none⟩) (nX + 1) cap1)) (C3.block NB (block_lt_of_cell HcE.out.1) Hn.out.2.1)).trans HcE.out.2
                      have HF : Hid (InSt w NB base rb ro E A T D U (96 * (k - A) + (i + 1 - 1)) m0 (n0 + (i + 1 - 1)) (.slice (some ⟨g, 0, none⟩) (L + 1) cap2) (wF.setCell ⟨NB, 1, none⟩ (.slice (some ⟨g2, 0, none⟩) (nX + 1) cap3))) := by
                        rw [Hnx.out.1, Hnx.out.2]
                        exact HA5.out H1.out.1 H1.out.2.1 H1.out.2.2 rfl o2 gr2 (by rcases at2 with at2 | at2; exact .inl at2; right; rw [at2]; simp [Value.ownBlock, zE]) rfl
                      clear o2 gr2 at2 C3 H1 HR2E HcE HA5 HbE1 HcN
                      go_wp2_with fail
                      go_roundw
                      case rel => exact ⟨i + 1, by omega, by omega, by go_num, HF⟩
                      case measure => simp [intOf]; omega

                · have h16' : ((i : Int) % 16 == 0) = false := by rw [beq_eq_false_iff_ne]; omega
                  have HF : Hid (InSt w NB base rb ro E A T D U (96 * (k - A) + (i + 1 - 1)) m0 (n0 + (i + 1 - 1)) (.slice (some ⟨g, 0, none⟩) (L + 1) cap2) wC) := by
                    rw [Hnx.out.1, Hnx.out.2]; exact HQ.out.st.more (by omega)
                  clear HQ
                  go_wp2_with fail
                  go_roundw
                  case rel => exact ⟨i + 1, by omega, by omega, by go_num, HF⟩
                  case measure => simp [intOf]; omega
          · have hfull : cap2 < L + 1 := by omega
            have HI3 : Hid (InSt w NB base rb ro E A T D U cc m0 L (.slice p2 L cap2) wr) := HI2.out
            have HR : Hid (wr.ownsRow base 5 1 (.slice p2 L cap2) L (bytesV (marksOf m0 L))) := by obtain ⟨_, _, _, _, _, _, _, _, _, h7, _⟩ := HI2.out; exact h7
            have Hp2 : Hid (p2 = none → cap2 = 0) := hp2
            clear HI2 hp2
            generalize hyy : mk m0 L = yy at *
            have Hyy : Hid (mk m0 L = yy) := hyy
            clear hyy
            go_wp2_with fail
            refine HAt.out.mono ?_
            rintro ee w1 ⟨rfl, rfl⟩
            go_wp2_with (at_builtin; refine append_full rfl _ _ rfl yy rfl (HR.out.alloc _) ⟨w1.heap.size, 0, none⟩ rfl ?r3 ?r5 ?r6 ?r8)
            case r3 => intro j u hj; exact cell_new1 w1 _ 5 j u hj
            case r5 => omega
            case r6 => omega
            case r8 =>
              show ∀ v' w', _
              intro v4 wC ho4 hg4
              have HQ0 : InR w NB base rb ro E A T D U cc m0 (L + 1) v4 wC := HI3.out.full hbase (by rw [Hyy.out]; exact ho4) hg4
              obtain ⟨g, cap2, hv4, _, _⟩ := ho4.form (by omega)
              subst hv4
              have HQ : Hid (InR w NB base rb ro E A T D U cc m0 (L + 1) (.slice (some ⟨g, 0, none⟩) (L + 1) cap2) wC) := HQ0
              clear HQ0 ho4 hg4 HR HI3 Hp2
              by_cases hi4 : i < 4
              · have hi4' : (i : Int) < 4 := by omega
                obtain ⟨rb', ro', X, BS, hX, s1, s2, xn, C, hv5, hu5⟩ := HQ.out
                have hu6 : ∀ g', (Value.slice (some ⟨g, 0, none⟩) (L + 1) cap2).ownBlock = some g' → w.heap.size ≤ g' ∧ ∀ e ∈ E ++ X, e.v.ownBlock = some g' → e.n ≤ L + 1 := hu5
                obtain ⟨vb, b1, b2, b3⟩ := BS.rows
                obtain ⟨vo, q1, q2, q3⟩ := BS.marks
                have f0 := BS.nil.fz 0 (by omega)
                have f1 := BS.nil.fz 1 (by omega)
                have hbC : base ≤ wC.heap.size := Nat.le_trans hbase C.size
                have nrb : rb' ≠ some NB := fun hh => by have := (row_ge b2 (b3.trans hh)).1; have := BS.le.2.2.2.1; omega
                have nro : ro' ≠ some NB := fun hh => by have := (row_ge q2 (q3.trans hh)).1; have := BS.le.2.2.2.1; omega
                have Hn : Hid (rb' ≠ some NB ∧ ro' ≠ some NB ∧ vb.ownBlock = rb' ∧ vo.ownBlock = ro' ∧ NB < base) := ⟨nrb, nro, b3, q3, BS.le.2.2.2.1⟩
                have HR1 : Hid (wC.ownsRow base 29 1 vb (E ++ X).length ((E ++ X).map Ent.v)) := b2
                have HR2 : Hid (wC.ownsRow base 3 1 vo (E ++ X).length ((E ++ X).map fun e => Value.int .i64 (e.m : Int))) := q2
                have hXb : (E ++ X).length ≤ 20000000 := by rw [List.length_append, ← HnE.out]; have := Hcb.out; omega
                have HA5 : Hid (∀ {wD wE wF wG : World} {vb' vo' : Value} {c1 c2 : Obj}, wD.ownsRow base 29 1 vb' ((E ++ X).length + 1) ((E ++ X).map Ent.v ++ [.slice (some ⟨g, 0, none⟩) (L + 1) cap2]) → (wC.alloc c1).grownBy wD rb' → (rb' = vb'.ownBlock ∨ vb'.ownBlock = some (wC.heap.size + 1)) → wE = wD.setCell ⟨NB, 0, none⟩ vb' → wF.ownsRow base 3 1 vo' ((E ++ X).length + 1) (((E ++ X).map fun e => Value.int .i64 (e.m : Int)) ++ [.int .i64 (m0 : Int)]) → (wE.alloc c2).grownBy wF ro' → (ro' = vo'.ownBlock ∨ vo'.ownBlock = some (wE.heap.size + 1)) → wG = wF.setCell ⟨NB, 1, none⟩ vo' → InSt w NB base rb ro E A T D U (cc + 1) m0 (L + 1) (.slice (some ⟨g, 0, none⟩) (L + 1) cap2) wG) :=
                  fun o1 g1 a1 e1 o2 g2 a2 e2 => InSt.add BS hX s1 s2 xn C hv5 hu6 (by omega) hm6 o1 g1 a1 e1 o2 g2 a2 e2
                obtain ⟨nX, hnX⟩ : ∃ nX, nX = (E ++ X).length := ⟨_, rfl⟩
                clear HQ BS s1 s2 xn C hv5 hu5 hu6 b2 b3 q2 q3 nrb nro hX
                rw [← hnX] at HR1 HR2 HA5 hXb
                clear hnX
                generalize (E ++ X).map Ent.v = ev at *
                generalize ((E ++ X).map fun e => Value.int .i64 (e.m : Int)) = em at *
                have hbC1 : base ≤ (wC.alloc (.cells #[.slice (some ⟨g, 0, none⟩) (L + 1) cap2] 29)).heap.size := by simp; omega
                have HbC1 : Hid (base ≤ (wC.alloc (.cells #[.slice (some ⟨g, 0, none⟩) (L + 1) cap2] 29)).heap.size) := hbC1
                have HXb : Hid (nX ≤ 100000000) := by show _ ≤ _; omega
                clear hbC1
                go_wp2_with (at_builtin; go_loud (refine append_29 rfl _ _ rfl (.slice (some ⟨g, 0, none⟩) (L + 1) cap2) rfl rfl (HR1.out.alloc _) ⟨wC.heap.size, 0, none⟩ rfl (fun j u hj => cell_new1 wC _ 29 j u hj) HXb.out HbC1.out ?d6))
                case d6 =>
                  show ∀ g cap w', _
                  intro g1 cap1 wD o1 gr1 at1
                  rw [Hn.out.2.2.1] at gr1 at1
                  have C1 : Chg (fun k => rb' = some k) wC wD := (Chg.below ((Below.refl _ _).alloc (Nat.le_refl _) _)).trans' (Chg.grown gr1 fun g hg => hg)
                  have c0D := cell_chg b1 C1 Hn.out.1
                  have c1D := cell_chg q1 C1 Hn.out.1
                  have fD : ∀ j, wD.frozen? ⟨NB, j, none⟩ = wC.frozen? ⟨NB, j, none⟩ := fun j => World.frozen?_of_block (w := wC) (C1.block NB (block_lt_of_cell b1) Hn.out.1)
                  have f0D := (fD 0).trans f0
                  have f1D := (fD 1).trans f1
                  have q2D : wD.ownsRow base 3 1 vo nX em := ownsRow_chg HR2.out C1 (fun g hg hh => rows_ne HR2.out HR1.out (by decide) hg (Hn.out.2.2.1.trans hh))
                  have HR2E : Hid ((wD.setCell ⟨NB, 0, none⟩ (.slice (some ⟨g1, 0, none⟩) (nX + 1) cap1)).ownsRow base 3 1 vo nX em) := ownsRow_setOther q2D _ _ _ Hn.out.2.2.2.2
                  have zE : (wD.setCell ⟨NB, 0, none⟩ (.slice (some ⟨g1, 0, none⟩) (nX + 1) cap1)).heap.size = wD.heap.size := by simp [World.setCell]
                  have hbE : base ≤ wD.heap.size := Nat.le_trans hbC C1.size
                  have H1 : Hid (wD.ownsRow base 29 1 (.slice (some ⟨g1, 0, none⟩) (nX + 1) cap1) (nX + 1) (ev ++ [.slice (some ⟨g, 0, none⟩) (L + 1) cap2]) ∧ (wC.alloc (.cells #[.slice (some ⟨g, 0, none⟩) (L + 1) cap2] 29)).grownBy wD rb' ∧ (rb' = (Value.slice (some ⟨g1, 0, none⟩) (nX + 1) cap1).ownBlock ∨ (Value.slice (some ⟨g1, 0, none⟩) (nX + 1) cap1).ownBlock = some (wC.heap.size + 1))) := ⟨o1, gr1, by rcases at1 with at1 | at1; exact .inl at1; right; rw [at1]; simp [Value.ownBlock]⟩
                  have c1E : (wD.setCell ⟨NB, 0, none⟩ (.slice (some ⟨g1, 0, none⟩) (nX + 1) cap1)).cell? ⟨NB, 1, none⟩ = some vo := by rw [cell_setCell_ne _ _ _ _ _ (by omega)]; exact c1D
                  have f1E : (wD.setCell ⟨NB, 0, none⟩ (.slice (some ⟨g1, 0, none⟩) (nX + 1) cap1)).frozen? ⟨NB, 1, none⟩ = false := by rw [frozen_setCell]; exact f1D
                  have HcE : Hid ((wD.setCell ⟨NB, 0, none⟩ (.slice (some ⟨g1, 0, none⟩) (nX + 1) cap1)).cell? ⟨NB, 1, none⟩ = some vo ∧ (wD.setCell ⟨NB, 0, none⟩ (.slice (some ⟨g1, 0, none⟩) (nX + 1) cap1)).frozen? ⟨NB, 1, none⟩ = false) := ⟨c1E, f1E⟩
                  clear o1 gr1 at1 C1 fD q2D HR2 c1E f1E
                  have HbE1 : Hid (base ≤ ((wD.setCell ⟨NB, 0, none⟩ (.slice (some ⟨g1, 0, none⟩) (nX + 1) cap1)).alloc (.cells #[.int .i64 (m0 : Int)] 3)).heap.size) := by show _ ≤ _; simp [zE]; omega
                  have HcN : Hid (∀ j u, ([.int .i64 (m0 : Int)] : List Value)[j]? = some u → ((wD.setCell ⟨NB, 0, none⟩ (.slice (some ⟨g1, 0, none⟩) (nX + 1) cap1)).alloc (.cells #[.int .i64 (m0 : Int)] 3)).cell? ((⟨wD.heap.size, 0, none⟩ : Addr).add j) = some u) := fun j u hj => by have h := cell_new1 (wD.setCell ⟨NB, 0, none⟩ (.slice (some ⟨g1, 0, none⟩) (nX + 1) cap1)) _ 3 j u hj; rw [zE] at h; exact h
                  go_wp2_with (at_builtin; refine append_3 rfl _ _ rfl (.int .i64 (m0 : Int)) rfl rfl (HR2E.out.alloc _) ⟨wD.heap.size, 0, none⟩ rfl HcN.out HXb.out HbE1.out ?e6)
                  case e6 =>
                    show ∀ g cap w', _
                    intro g2 cap3 wF o2 gr2 at2
                    rw [Hn.out.2.2.2.1] at gr2 at2
                    have C3 : Chg (fun k => ro' = some k) (wD.setCell ⟨NB, 0, none⟩ (.slice (some ⟨g1, 0, none⟩) (nX + 1) cap1)) wF := (Chg.below ((Below.refl _ _).alloc (Nat.le_refl _) _)).trans' (Chg.grown gr2 fun g hg => hg)
                    have c1F := cell_chg HcE.out.1 C3 Hn.out.2.1
                    have f1F : wF.frozen? ⟨NB, 1, none⟩ = false := (World.frozen?_of_block (w := wD.setCell ⟨NB, 0, none⟩ (.slice (some ⟨g1, 0, none⟩) (nX + 1) cap1)) (C3.block NB (block_lt_of_cell HcE.out.1) Hn.out.2.1)).trans HcE.out.2
                    have HF : Hid (InSt w NB base rb ro E A T D U (96 * (k - A) + (i + 1 - 1)) m0 (n0 + (i + 1 - 1)) (.slice (some ⟨g, 0, none⟩) (L + 1) cap2) (wF.setCell ⟨NB, 1, none⟩ (.slice (some ⟨g2, 0, none⟩) (nX + 1) cap3))) := by
                      rw [Hnx.out.1, Hnx.out.2]
                      exact HA5.out H1.out.1 H1.out.2.1 H1.out.2.2 rfl o2 gr2 (by rcases at2 with at2 | at2; exact .inl at2; right; rw [at2]; simp [Value.ownBlock, zE]) rfl
                    clear o2 gr2 at2 C3 H1 HR2E HcE HA5 HbE1 HcN
                    go_wp2_with fail
                    go_roundw
                    case rel => exact ⟨i + 1, by omega, by omega, by go_num, HF⟩
                    case measure => simp [intOf]; omega
              · have hi4' : ¬ (i : Int) < 4 := by omega
                by_cases h16 : i % 16 = 0
                · have h16' : ((i : Int) % 16 == 0) = true := by rw [beq_iff_eq]; omega
                  obtain ⟨rb', ro', X, BS, hX, s1, s2, xn, C, hv5, hu5⟩ := HQ.out
                  have hu6 : ∀ g', (Value.slice (some ⟨g, 0, none⟩) (L + 1) cap2).ownBlock = some g' → w.heap.size ≤ g' ∧ ∀ e ∈ E ++ X, e.v.ownBlock = some g' → e.n ≤ L + 1 := hu5
                  obtain ⟨vb, b1, b2, b3⟩ := BS.rows
                  obtain ⟨vo, q1, q2, q3⟩ := BS.marks
                  have f0 := BS.nil.fz 0 (by omega)
                  have f1 := BS.nil.fz 1 (by omega)
                  have hbC : base ≤ wC.heap.size := Nat.le_trans hbase C.size
                  have nrb : rb' ≠ some NB := fun hh => by have := (row_ge b2 (b3.trans hh)).1; have := BS.le.2.2.2.1; omega
                  have nro : ro' ≠ some NB := fun hh => by have := (row_ge q2 (q3.trans hh)).1; have := BS.le.2.2.2.1; omega
                  have Hn : Hid (rb' ≠ some NB ∧ ro' ≠ some NB ∧ vb.ownBlock = rb' ∧ vo.ownBlock = ro' ∧ NB < base) := ⟨nrb, nro, b3, q3, BS.le.2.2.2.1⟩
                  have HR1 : Hid (wC.ownsRow base 29 1 vb (E ++ X).length ((E ++ X).map Ent.v)) := b2
                  have HR2 : Hid (wC.ownsRow base 3 1 vo (E ++ X).length ((E ++ X).map fun e => Value.int .i64 (e.m : Int))) := q2
                  have hXb : (E ++ X).length ≤ 20000000 := by rw [List.length_append, ← HnE.out]; have := Hcb.out; omega
                  have HA5 : Hid (∀ {wD wE wF wG : World} {vb' vo' : Value} {c1 c2 : Obj}, wD.ownsRow base 29 1 vb' ((E ++ X).length + 1) ((E ++ X).map Ent.v ++ [.slice (some ⟨g, 0, none⟩) (L + 1) cap2]) → (wC.alloc c1).grownBy wD rb' → (rb' = vb'.ownBlock ∨ vb'.ownBlock = some (wC.heap.size + 1)) → wE = wD.setCell ⟨NB, 0, none⟩ vb' → wF.ownsRow base 3 1 vo' ((E ++ X).length + 1) (((E ++ X).map fun e => Value.int .i64 (e.m : Int)) ++ [.int .i64 (m0 : Int)]) → (wE.alloc c2).grownBy wF ro' → (ro' = vo'.ownBlock ∨ vo'.ownBlock = some (wE.heap.size + 1)) → wG = wF.setCell ⟨NB, 1, none⟩ vo' → InSt w NB base rb ro E A T D U (cc + 1) m0 (L + 1) (.slice (some ⟨g, 0, none⟩) (L + 1) cap2) wG) :=
                    fun o1 g1 a1 e1 o2 g2 a2 e2 => InSt.add BS hX s1 s2 xn C hv5 hu6 (by omega) hm6 o1 g1 a1 e1 o2 g2 a2 e2
                  obtain ⟨nX, hnX⟩ : ∃ nX, nX = (E ++ X).length := ⟨_, rfl⟩
                  clear HQ BS s1 s2 xn C hv5 hu5 hu6 b2 b3 q2 q3 nrb nro hX
                  rw [← hnX] at HR1 HR2 HA5 hXb
                  clear hnX
                  generalize (E ++ X).map Ent.v = ev at *
                  generalize ((E ++ X).map fun e => Value.int .i64 (e.m : Int)) = em at *
                  have hbC1 : base ≤ (wC.alloc (.cells #[.slice (some ⟨g, 0, none⟩) (L + 1) cap2] 29)).heap.size := by simp; omega
                  have HbC1 : Hid (base ≤ (wC.alloc (.cells #[.slice (some ⟨g, 0, none⟩) (L + 1) cap2] 29)).heap.size) := hbC1
                  have HXb : Hid (nX ≤ 100000000) := by show _ ≤ _; omega
                  clear hbC1
                  go_wp2_with (at_builtin; go_loud (refine append_29 rfl _ _ rfl (.slice (some ⟨g, 0, none⟩) (L + 1) cap2) rfl rfl (HR1.out.alloc _) ⟨wC.heap.size, 0, none⟩ rfl (fun j u hj => cell_new1 wC _ 29 j u hj) HXb.out HbC1.out ?d6))
                  case d6 =>
                    show ∀ g cap w', _
                    intro g1 cap1 wD o1 gr1 at1
                    rw [Hn.out.2.2.1] at gr1 at1
                    have C1 : Chg (fun k => rb' = some k) wC wD := (Chg.below ((Below.refl _ _).alloc (Nat.le_refl _) _)).trans' (Chg.grown gr1 fun g hg => hg)
                    have c0D := cell_chg b1 C1 Hn.out.1
                    have c1D := cell_chg q1 C1 Hn.out.1
                    have fD : ∀ j, wD.frozen? ⟨NB, j, none⟩ = wC.frozen? ⟨NB, j, none⟩ := fun j => World.frozen?_of_block (w := wC) (C1.block NB (block_lt_of_cell b1) Hn.out.1)
                    have f0D := (fD 0).trans f0
                    have f1D := (fD 1).trans f1
                    have q2D : wD.ownsRow base 3 1 vo nX em := ownsRow_chg HR2.out C1 (fun g hg hh => rows_ne HR2.out HR1.out (by decide) hg (Hn.out.2.2.1.trans hh))
                    have HR2E : Hid ((wD.setCell ⟨NB, 0, none⟩ (.slice (some ⟨g1, 0, none⟩) (nX + 1) cap1)).ownsRow base 3 1 vo nX em) := ownsRow_setOther q2D _ _ _ Hn.out.2.2.2.2
                    have zE : (wD.setCell ⟨NB, 0, none⟩ (.slice (some ⟨g1, 0, none⟩) (nX + 1) cap1)).heap.size = wD.heap.size := by simp [World.setCell]
                    have hbE : base ≤ wD.heap.size := Nat.le_trans hbC C1.size
                    have H1 : Hid (wD.ownsRow base 29 1 (.slice (some ⟨g1, 0, none⟩) (nX + 1) cap1) (nX + 1) (ev ++ [.slice (some ⟨g, 0, none⟩) (L + 1) cap2]) ∧ (wC.alloc (.cells #[.slice (some ⟨g, 0, none⟩) (L + 1) cap2] 29)).grownBy wD rb' ∧ (rb' = (Value.slice (some ⟨g1, 0, none⟩) (nX + 1) cap1).ownBlock ∨ (Value.slice (some ⟨g1, 0, none⟩) (nX + 1) cap1).ownBlock = some (wC.heap.size + 1))) := ⟨o1, gr1, by rcases at1 with at1 | at1; exact .inl at1; right; rw [at1]; simp [Value.ownBlock]⟩
                    have c1E : (wD.setCell ⟨NB, 0, none⟩ (.slice (some ⟨g1, 0, none⟩) (nX + 1) cap1)).cell? ⟨NB, 1, none⟩ = some vo := by rw [cell_setCell_ne _ _ _ _ _ (by omega)]; exact c1D
                    have f1E : (wD.setCell ⟨NB, 0, none⟩ (.slice (some ⟨g1, 0, none⟩) (nX + 1) cap1)).frozen? ⟨NB, 1, none⟩ = false := by rw [frozen_setCell]; exact f1D
                    have HcE : Hid ((wD.setCell ⟨NB, 0, none⟩ (.slice (some ⟨g1, 0, none⟩) (nX + 1) cap1)).cell? ⟨NB, 1, none⟩ = some vo ∧ (wD.setCell ⟨NB, 0, none⟩ (.slice (some ⟨g1, 0, none⟩) (nX + 1) cap1)).frozen? ⟨NB, 1, none⟩ = false) := ⟨c1E, f1E⟩
                    clear o1 gr1 at1 C1 fD q2D HR2 c1E f1E
                    have HbE1 : Hid (base ≤ ((wD.setCell ⟨NB, 0, none⟩ (.slice (some ⟨g1, 0, none⟩) (nX + 1) cap1)).alloc (.cells #[.int .i64 (m0 : Int)] 3)).heap.size) := by show _ ≤ _; simp [zE]; omega
                    have HcN : Hid (∀ j u, ([.int .i64 (m0 : Int)] : List Value)[j]? = some u → ((wD.setCell ⟨NB, 0, none⟩ (.slice (some ⟨g1, 0, none⟩) (nX + 1) cap1)).alloc (.cells #[.int .i64 (m0 : Int)] 3)).cell? ((⟨wD.heap.size, 0, none⟩ : Addr).add j) = some u) := fun j u hj => by have h := cell_new1 (wD.setCell ⟨NB, 0, none⟩ (.slice (some ⟨g1, 0, none⟩) (nX + 1) cap1)) _ 3 j u hj; rw [zE] at h; exact h
                    go_wp2_with (at_builtin; refine append_3 rfl _ _ rfl (.int .i64 (m0 : Int)) rfl rfl (HR2E.out.alloc _) ⟨wD.heap.size, 0, none⟩ rfl HcN.out HXb.out HbE1.out ?e6)
                    case e6 =>
                      show ∀ g cap w', _
                      intro g2 cap3 wF o2 gr2 at2
                      rw [Hn.out.2.2.2.1] at gr2 at2
                      have C3 : Chg (fun k => ro' = some k) (wD.setCell ⟨NB, 0, none⟩ (.slice (some ⟨g1, 0, none⟩) (nX + 1) cap1)) wF := (Chg.below ((Below.refl _ _).alloc (Nat.le_refl _) _)).trans' (Chg.grown gr2 fun g hg => hg)
                      have c1F := cell_chg HcE.out.1 C3 Hn.out.2.1
                      have f1F : wF.frozen? ⟨NB, 1, none⟩ = false := (World.frozen?_of_block (w := wD.setCell ⟨NB, 0, none⟩ (.slice (some ⟨g1, 0, none⟩) (nX + 1) cap1)) (C3.block NB (block_lt_of_cell HcE.out.1) Hn.out.2.1)).trans HcE.out.2
                      have HF : Hid (InSt w NB base rb ro E A T D U (96 * (k - A) + (i + 1 - 1)) m0 (n0 + (i + 1 - 1)) (.slice (some ⟨g, 0, none⟩) (L + 1) cap2) (wF.setCell ⟨NB, 1, none⟩ (.slice (some ⟨g2, 0, none⟩) (nX + 1) cap3))) := by
                        rw [Hnx.out.1, Hnx.out.2]
                        exact HA5.out H1.out.1 H1.out.2.1 H1.out.2.2 rfl o2 gr2 (by rcases at2 with at2 | at2; exact .inl at2; right; rw [at2]; simp [Value.ownBlock, zE]) rfl
                      clear o2 gr2 at2 C3 H1 HR2E HcE HA5 HbE1 HcN
                      go_wp2_with fail
                      go_roundw
                      case rel => exact ⟨i + 1, by omega, by omega, by go_num, HF⟩
                      case measure => simp [intOf]; omega

                · have h16' : ((i : Int) % 16 == 0) = false := by rw [beq_eq_false_iff_ne]; omega
                  have HF : Hid (InSt w NB base rb ro E A T D U (96 * (k - A) + (i + 1 - 1)) m0 (n0 + (i + 1 - 1)) (.slice (some ⟨g, 0, none⟩) (L + 1) cap2) wC) := by
                    rw [Hnx.out.1, Hnx.out.2]; exact HQ.out.st.more (by omega)
                  clear HQ
                  go_wp2_with fail
                  go_roundw
                  case rel => exact ⟨i + 1, by omega, by omega, by go_num, HF⟩
                  case measure => simp [intOf]; omega
        · have hi2 : i = 97 := by omega
          subst hi2
          have HG : Hid (GrowSt w NB base rb ro E A T D U (96 * (k + 1 - A)) wr) := by
            have := HI.out.out
            rwa [show 96 * (k - A) + (97 - 1) = 96 * (k + 1 - A) from by omega] at this
          clear HI
          go_wp2_with fail
          go_roundw
          case rel => exact ⟨k + 1, by omega, by omega, by go_num, HG⟩
          case measure => simp [intOf]; omega
    · have hkn : k = nE := by omega
      obtain ⟨rb', ro', X, BS, hX, s1, s2, xn, C⟩ := HS.out
      obtain ⟨vb, b1, b2, b3⟩ := BS.rows
      obtain ⟨pb, capb, hvb, -⟩ := row_form b2
      rw [hvb] at b1
      have c2 := BS.at_
      have f2 := BS.nil.fz 2 (by omega)
      have HF : Hid (GrownPost w NB base rb ro E A T D U (wr.setCell ⟨NB, 2, none⟩ (.int .i64 ((E ++ X).length : Nat)))) := ⟨rb', ro', X, BS.setA _ (Nat.le_refl _), by rw [← HnE.out, ← hkn]; exact hX, s1, s2, xn, C.trans' (Chg.set _ _ _ _ (.inl rfl))⟩
      obtain ⟨nX, hnX⟩ : ∃ nX, nX = (E ++ X).length := ⟨_, rfl⟩
      rw [← hnX] at b1 HF
      clear HS BS s1 s2 xn C b2 b3 hvb hX hnX
      go_wp2_with fail
      go_end0
      exact ⟨rfl, HF.out⟩

end Go.Proofs.Ytpiiagjfimdflaa

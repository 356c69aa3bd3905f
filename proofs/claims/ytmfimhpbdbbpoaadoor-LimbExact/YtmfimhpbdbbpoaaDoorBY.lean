/- The document's Plus, Less, Down. -/
import Derived.Test.YtmfimhpbdbbpoaaDoorS
import Derived.Test.YtmfimhpbdbbpoaaDoorBX
/- The document's trim and fit; append of another type's slice. -/
namespace Go.Proofs.YtmfimhpbdbbpoaaDoor
open Go.RowKit
open M
set_option linter.unusedVariables false
set_option linter.unusedSimpArgs false

/-- append looks at the second type only for whether it is an integer's. -/
theorem append_types {P : Program} {t u e e' : TypeId} {i : TypeInfo} (ht : P.underlying t = some (.slice e)) (hu : P.underlying u = some (.slice e')) (hi : P.info? e = some i) (ty : TypeId) (b : Option Addr) (n c : Nat) (x : Value) (w : World) :
    (Builtin.append_ #[t, u] ty #[.slice b n c, x]).run P w = (Builtin.append_ #[t, t] ty #[.slice b n c, x]).run P w := by
  simp [Builtin.append_, run_underlying ht, run_underlying hu, sizeOf, typeInfo, hi]

theorem wpList_append_two {P : Program} (w : World) {ops : Array Oper} {rest : List Oper} {o : Oper} {a : Act} {Q : Exit → Act → World → Prop} (hgd : o.guard = none) (s x : Operand) (t u : TypeId)
    (ho : o.op = .call { callee := .builtin .append, args := #[s, x], argTypes := #[t, u] })
    (base : Nat) (e : TypeId) (i : TypeInfo) (z : Value) (size bytes : Nat) (ht : P.underlying t = some (.slice e)) (hu : P.underlying u = some (.slice e)) (hi : P.info? e = some i) (hz : i.zero = some z)
    (hsize : i.size = size) (hby : i.bytes = bytes) (hzs : z.cells.size = size) (hsz : 0 < size)
    (b : Option Addr) (n k : Nat) (xs : List Value) (hs : a.eval s = .slice b n k) (hown : w.ownsRow base e size (.slice b n k) n xs)
    (ad : Addr) (m c : Nat) (news : List Value) (hx : a.eval x = .slice (some ad) m c) (hl : news.length = m * size) (hnews : ∀ j u, news[j]? = some u → w.cell? (ad.add j) = some u) (h1 : ∀ u ∈ news, u.oneCell' = true)
    (hm : 0 < m) (h63 : n + m ≤ maxLen) (hbytes : (n + m) * bytes ≤ 140737488355328) (hbase : base ≤ w.heap.size)
    (h : ∀ g cap w', w'.ownsRow base e size (.slice (some ⟨g, 0, none⟩) (n + m) cap) (n + m) (xs ++ news) → w.grownBy w' (Value.ownBlock (.slice b n k)) → g < w'.heap.size → wpList P ops Q rest (a.put o.dst (.slice (some ⟨g, 0, none⟩) (n + m) cap)) w') : wpList P ops Q (o :: rest) a w := by
  obtain ⟨g, cap, w', hr, h2, h3, _, h5⟩ := run_append_lies (P := P) w t o.type base e i z size bytes ht hi hz hsize hby hzs hsz (.slice b n k) n xs hown ad m c news hl hnews h1 hm h63 hbytes hbase _ rfl
  rw [← append_types ht hu hi] at hr
  refine wpList_plain hgd fun K hK => ?_
  unfold Oper.wp execOp
  simp only [ho, resolve, invoke, builtin, Sem.run_bind, Sem.run_pure, Result.andThen_ok, List.map_toArray, List.map_cons, List.map_nil, hs, hx, hr]
  exact hK _ _ (h g cap w' h2 h3 h5)

theorem wpList_append_zero {P : Program} (w : World) {ops : Array Oper} {rest : List Oper} {o : Oper} {a : Act} {Q : Exit → Act → World → Prop} (hgd : o.guard = none) (s x : Operand) (t u : TypeId)
    (ho : o.op = .call { callee := .builtin .append, args := #[s, x], argTypes := #[t, u] }) (y : Value) (hr : (Builtin.append_ #[t, u] o.type #[.slice none 0 0, y]).run P w = .ok (.slice none 0 0) w)
    (hs : a.eval s = .slice none 0 0) (hx : a.eval x = y) (h : wpList P ops Q rest (a.put o.dst (.slice none 0 0)) w) : wpList P ops Q (o :: rest) a w := by
  refine wpList_plain hgd fun K hK => ?_
  unfold Oper.wp execOp
  simp only [ho, resolve, invoke, builtin, Sem.run_bind, Sem.run_pure, Result.andThen_ok, List.map_toArray, List.map_cons, List.map_nil, hs, hx, hr]
  exact hK _ _ h

/-- Nothing is appended to nothing. -/
theorem append_none {P : Program} {t u e e' : TypeId} {i : TypeInfo} (ht : P.underlying t = some (.slice e)) (hu : P.underlying u = some (.slice e')) (hi : P.info? e = some i) (ty : TypeId) (ad : Option Addr) (c : Nat) (w : World) :
    (Builtin.append_ #[t, u] ty #[.slice none 0 0, .slice ad 0 c]).run P w = .ok (.slice none 0 0) w := by
  cases ad <;> simp [Builtin.append_, run_underlying ht, run_underlying hu, sizeOf, typeInfo, hi, Builtin.lenOf, Builtin.firstCells, loadCells, loadCellsFrom]

theorem append_none_nat (ty : TypeId) (ad : Option Addr) (c : Nat) (w : World) : (Builtin.append_ #[32, 23] ty #[.slice none 0 0, .slice ad 0 c]).run Tryd.prog w = .ok (.slice none 0 0) w := by
  obtain ⟨i5, hi5, _⟩ := info32
  exact append_none Tryd.underlying32 Tryd.underlying23 hi5 ty ad c w

theorem limbs_at {w : World} {g o k n N : Nat} (hj : ∀ j, j < k → w.cell? ⟨g, o + j, none⟩ = some (.int .u32 (dg N j : Nat))) (hn : n ≤ k) : ∀ j u, (limbsV n N)[j]? = some u → w.cell? ((⟨g, o, none⟩ : Addr).add j) = some u := by
  intro j u h
  have hjl : j < n := by rw [← limbsV_length n N]; exact (List.getElem?_eq_some_iff.1 h).1
  have := hj j (by omega)
  rw [limbsV_get _ _ _ hjl] at h
  rw [show (⟨g, o, none⟩ : Addr).add j = ⟨g, o + j, none⟩ from by unfold Addr.add; split <;> simp_all, this, h]

set_option maxRecDepth 100000 in
set_option maxHeartbeats 2000000 in
theorem rtrim_any {S : Nat → Prop} (v : Value) (k N : Nat) (w : World) (h : RowX S w v k N) (hkb : k ≤ 1000000) :
    Calls Tryd.prog 56 #[v] w fun e w' => ∃ r, e = .returned r ∧ ∃ n, Own w' w.heap.size r n N ∧ Nrm n N ∧ n ≤ k ∧ Below w.heap.size w w' := by
  obtain ⟨i5, hi5⟩ := info32
  have Hi := hide hi5
  clear hi5
  obtain ⟨hN, hk, ad, cap, rfl, hc, hcell⟩ := h
  have HC : Hid (0 < k → ∃ g o, ad = some ⟨g, o, none⟩ ∧ S g ∧ ∀ j, j < k → w.cell? ⟨g, o + j, none⟩ = some (.int .u32 (dg N j : Nat))) := hcell
  have HN : Hid (N < 4294967296 ^ k) := hN
  have HA := hide append_none_nat
  clear hcell hN
  go_enter Tryd.func56, Tryd.ntmps56
  go_wp2_with fail
  go_loop [3] (fun t3 => ∃ n : Nat, n ≤ k ∧ t3 = .int .i64 n ∧ Hid (N < 4294967296 ^ n)) (fun t3 => (intOf t3).toNat)
  case atStart => exact ⟨k, by omega, rfl, HN⟩
  case round =>
    obtain ⟨n, hn, rfl, Hn⟩ := hrel
    have hncap : n ≤ cap := by omega
    by_cases h0 : n = 0
    · subst h0
      have H0 : Hid (N = 0) := by show _ = _; have := Hn.out; omega
      go_wp2_with (at_builtin; refine wpList_append_zero _ rfl _ _ _ _ rfl (.slice ad 0 cap) (HA.out _ ad cap w) rfl rfl ?_)
      go_ret
      exact ⟨_, rfl, 0, by rw [H0.out]; exact Own.nil _ _, by rw [H0.out]; exact nrm_zero, Nat.zero_le _, Below.refl _ _⟩
    · obtain ⟨m, rfl⟩ : ∃ m, n = m + 1 := ⟨n - 1, by omega⟩
      obtain ⟨g, o, rfl, hS, hj⟩ := HC.out (by omega)
      have hci := hj m (by omega)
      have h2' : (0 : Int) < ((m + 1 : Nat) : Int) := by omega
      have Hd : Hid (dg N m = 0 → N < 4294967296 ^ m) := fun h => Nrm.drop Hn.out h
      have Ht : Hid (dg N m ≠ 0 → Nrm (m + 1) N) := fun h => Nrm.of_top Hn.out h
      have HJ := hide (limbs_at (n := m + 1) hj hn)
      clear hj h0 HC HN
      generalize dg N m = x at *
      by_cases hx : x = 0
      · subst hx
        go_wp2_with fail
        go_round
        case rel => exact ⟨m, by omega, by go_num, Hd.out rfl⟩
        case measure => simp [intOf]
      · have hx' : ((x : Int) == 0) = false := by rw [beq_eq_false_iff_ne]; omega
        have HNr := hide (Ht.out hx)
        clear hx
        have HO := hide (Own.nil w w.heap.size)
        go_wp2_with (at_builtin; refine wpList_append_two _ rfl _ _ _ _ rfl w.heap.size 24 i5 (.int .u32 0) 1 4 Tryd.underlying32 Tryd.underlying23 Hi.out.1 Hi.out.2.1 Hi.out.2.2.1 Hi.out.2.2.2 rfl (by decide) none 0 0 [] rfl HO.out.2.2 ⟨g, o, none⟩ (m + 1) cap (limbsV (m + 1) N) rfl (by simp) HJ.out (limbsV_cell _ _) (by omega) (by unfold maxLen; omega) (by omega) (Nat.le_refl _) ?d6)
        case d6 =>
          intro g4 cap4 w4 ho4 hg4 _
          have HF : Hid (Own w4 w.heap.size (.slice (some ⟨g4, 0, none⟩) (m + 1) cap4) (m + 1) N ∧ Below w.heap.size w w4) :=
            ⟨⟨Hn.out, by omega, by simpa using ho4⟩, grown_below hg4 (fun g hg => by cases hg) (Nat.le_refl _)⟩
          clear ho4 hg4
          go_wp2_with fail
          go_ret
          exact ⟨_, rfl, m + 1, HF.out.1, HNr.out, hn, HF.out.2⟩

set_option maxRecDepth 100000 in
theorem fit_any {S : Nat → Prop} (v : Value) (k N : Nat) (w : World) (h : RowX S w v k N) (hkb : k ≤ 1000000) :
    Calls Tryd.prog 67 #[v] w fun e w' => ∃ u c, e = .returned (.tuple #[u, .int .i64 c]) ∧ Told w' w.heap.size u c N ∧ Below w.heap.size w w' := by
  have HT := hide (rtrim_any v k N w h hkb)
  clear h
  go_enter Tryd.func67, Tryd.ntmps67
  go_wp2_with fail
  refine HT.out.mono ?_
  rintro e w1 ⟨r, rfl, n, ho, hn, hnk, hb⟩
  have H1 := hide (And.intro ho (And.intro hn hb))
  obtain ⟨_, _, ad, cap, rfl, _, _⟩ := ho.row
  clear ho hn hb
  have Hf := hide H1.out.2.1.fits
  by_cases hle : n ≤ 8192
  · have hle' : ¬ (8192 : Int) < (n : Int) := by omega
    go_wp2_with fail
    go_ret2
    exact ⟨_, 0, rfl, .inl ⟨Hf.out.1 hle, rfl, n, H1.out.1, H1.out.2.1⟩, H1.out.2.2⟩
  · have hle' : (8192 : Int) < (n : Int) := by omega
    go_wp2_with fail
    go_ret2
    exact ⟨_, 21, rfl, .inr ⟨fun h => hle (Hf.out.2 h), rfl, rfl⟩, H1.out.2.2⟩

end Go.Proofs.YtmfimhpbdbbpoaaDoor

namespace Go.Proofs.YtmfimhpbdbbpoaaDoor
open Go.RowKit
open M
set_option linter.unusedVariables false
set_option linter.unusedSimpArgs false

theorem addC_end {A C i k m : Nat} (hA : A < 4294967296 ^ k) (hC : C < 4294967296 ^ m) (hk : k ≤ i) (hm : m ≤ i) : addC A C i = (A + C) / 4294967296 ^ i := by
  unfold addC
  rw [Nat.mod_eq_of_lt (Nat.lt_of_lt_of_le hA (Nat.pow_le_pow_right (by omega) hk)), Nat.mod_eq_of_lt (Nat.lt_of_lt_of_le hC (Nat.pow_le_pow_right (by omega) hm))]

theorem NatSt.own {w wr : World} {N i : Nat} {v : Value} (h : NatSt w N i v wr) (hN : N < 4294967296 ^ i) (hi : i ≤ 70368744177664) : Own wr w.heap.size v i N := ⟨hN, hi, h.1⟩

set_option maxRecDepth 100000 in
set_option maxHeartbeats 2000000 in
theorem rplus_any {S S' : Nat → Prop} (v u : Value) (k A m C : Nat) (w : World) (h : RowX S w v k A) (h' : RowX S' w u m C) (hkb : k ≤ 100000) (hmb : m ≤ 100000) :
    Calls Tryd.prog 68 #[v, u] w fun e w' => ∃ r, e = .returned r ∧ ∃ n, Own w' w.heap.size r n (A + C) ∧ Nrm n (A + C) ∧ n ≤ max k m + 1 ∧ Below w.heap.size w w' := by
  obtain ⟨i5, hi5⟩ := info32
  have Hi := hide hi5
  clear hi5
  have HR := hide (And.intro h.row h'.row)
  have HL := hide (And.intro h.1 h'.1)
  obtain ⟨_, _, ad, cap, rfl, _, _⟩ := h
  obtain ⟨_, _, ad', cap', rfl, _, _⟩ := h'
  go_enter Tryd.func68, Tryd.ntmps68
  go_wp2_with fail
  go_loopw [5, 6, 7] (fun t5 t6 t7 wr => ∃ i : Nat, i ≤ max k m + 1 ∧ t6 = .int .u64 (addC A C i : Nat) ∧ t7 = .int .i64 i ∧ Hid (NatSt w (A + C) i t5 wr)) (fun _ _ t7 _ => max k m + 1 - (intOf t7).toNat)
  case atStart => exact ⟨0, by omega, by rw [addC_zero]; rfl, rfl, (Own.nil w w.heap.size).2.2, Below.refl _ _⟩
  case round =>
    obtain ⟨i, hi, rfl, rfl, HS⟩ := hrel
    have hcl := addC_le A C i
    have Hst := hide (add_step A C i)
    have HA : Hid (Calls Tryd.prog 86 #[.slice ad k cap, .int .i64 i] wr fun e w' => e = .returned (.int .u64 (dg A i : Nat)) ∧ w' = wr) := rat_any _ k A i _ (HR.out.1.below HS.out.2) (by omega)
    have HC : Hid (Calls Tryd.prog 86 #[.slice ad' m cap', .int .i64 i] wr fun e w' => e = .returned (.int .u64 (dg C i : Nat)) ∧ w' = wr) := rat_any _ m C i _ (HR.out.2.below HS.out.2) (by omega)
    have hxl := dg_lt A i
    have hyl := dg_lt C i
    by_cases hgo : i < k ∨ i < m ∨ addC A C i ≠ 0
    · have hle : i ≤ max k m := by
        rcases hgo with h1 | h1 | h1
        · omega
        · omega
        · rcases Nat.lt_or_ge (max k m) i with h2 | h2
          · exfalso
            apply h1
            rw [addC_end HL.out.1 HL.out.2 (by omega) (by omega)]
            have e1 : A < 4294967296 ^ (max k m) := Nat.lt_of_lt_of_le HL.out.1 (Nat.pow_le_pow_right (by omega) (by omega))
            have e2 : C < 4294967296 ^ (max k m) := Nat.lt_of_lt_of_le HL.out.2 (Nat.pow_le_pow_right (by omega) (by omega))
            have e3 : i = max k m + 1 := by omega
            rw [e3, pw_succ]
            exact Nat.div_eq_of_lt (by omega)
          · exact h2
      have Hnext := hide (fun (w4 : World) (g4 cap4 : Nat) => NatSt.next (w4 := w4) (g := g4) (cap := cap4) HS.out)
      have Hd : Hid (dg (A + C) i = (addC A C i + (dg A i + dg C i)) % 4294967296 ∧ addC A C (i + 1) = (addC A C i + (dg A i + dg C i)) / 4294967296) := ⟨Hst.out.1.symm, Hst.out.2.symm⟩
      rw [Hd.out.1] at Hnext
      clear Hst
      generalize dg A i = x at *
      generalize dg C i = y at *
      generalize addC A C i = c at *
      obtain ⟨z, hz, hz1⟩ : ∃ z : Nat, c + (x + y) = z ∧ (x : Int) + (y : Int) + (c : Int) = (z : Int) := ⟨_, rfl, by omega⟩
      have hzl : z < 18446744073709551616 := by omega
      rw [hz] at Hnext Hd
      obtain ⟨d, hd, hd1⟩ : ∃ d : Nat, z % 4294967296 = d ∧ (z : Int) % 4294967296 = (d : Int) := ⟨_, rfl, by omega⟩
      obtain ⟨q, hq, hq1⟩ : ∃ q : Nat, z / 4294967296 = q ∧ (z : Int) / 4294967296 = (q : Int) := ⟨_, rfl, by omega⟩
      have hdl : d < 4294967296 := by omega
      rw [hd] at Hnext Hd
      rw [hq] at Hd
      have HO := hide HS.out
      clear hz hd hq
      have h3 : (i < k) ∨ (¬ i < k ∧ i < m) ∨ (¬ i < k ∧ ¬ i < m ∧ 0 < c) := by omega
      clear hgo
      rcases h3 with h1 | ⟨h1, h2⟩ | ⟨h1, h2, h3⟩
      · have h1' : (i : Int) < (k : Int) := by omega
        go_wp2_with fail
        refine HA.out.mono ?_
        rintro e w1 ⟨rfl, rfl⟩
        go_wp2_with fail
        refine HC.out.mono ?_
        rintro e w1 ⟨rfl, rfl⟩
        clear HA HC
        go_wp2_with (at_builtin; refine wpList_append_lies _ rfl _ _ _ rfl w.heap.size 24 i5 (.int .u32 0) 1 4 Tryd.underlying23 Hi.out.1 Hi.out.2.1 Hi.out.2.2.1 Hi.out.2.2.2 rfl (by decide) _ i (limbsV i (A + C)) rfl (HO.out.1.alloc _) ⟨w1.heap.size, 0, none⟩ 1 1 [.int .u32 (d : Nat)] rfl rfl (fun j u hj => cell_new1 w1 _ 24 j u hj) (fun u hu => by simp at hu; subst hu; rfl) (by decide) (by unfold maxLen; omega) (by omega) (by have := HO.out.2.size; simp; omega) _ rfl ?d6)
        case d6 =>
          intro g4 cap4 w4 ho4 hg4 _ _
          have H4 := hide (Hnext.out w4 g4 cap4 ho4 hg4)
          clear ho4 hg4 Hnext
          go_wp2_with fail
          go_roundw
          case rel => exact ⟨i + 1, by omega, by rw [Hd.out.2], by go_num, H4⟩
          case measure => simp [intOf]; omega
      · have h1' : ¬ (i : Int) < (k : Int) := by omega
        have h2' : (i : Int) < (m : Int) := by omega
        go_wp2_with fail
        refine HA.out.mono ?_
        rintro e w1 ⟨rfl, rfl⟩
        go_wp2_with fail
        refine HC.out.mono ?_
        rintro e w1 ⟨rfl, rfl⟩
        clear HA HC
        go_wp2_with (at_builtin; refine wpList_append_lies _ rfl _ _ _ rfl w.heap.size 24 i5 (.int .u32 0) 1 4 Tryd.underlying23 Hi.out.1 Hi.out.2.1 Hi.out.2.2.1 Hi.out.2.2.2 rfl (by decide) _ i (limbsV i (A + C)) rfl (HO.out.1.alloc _) ⟨w1.heap.size, 0, none⟩ 1 1 [.int .u32 (d : Nat)] rfl rfl (fun j u hj => cell_new1 w1 _ 24 j u hj) (fun u hu => by simp at hu; subst hu; rfl) (by decide) (by unfold maxLen; omega) (by omega) (by have := HO.out.2.size; simp; omega) _ rfl ?d6)
        case d6 =>
          intro g4 cap4 w4 ho4 hg4 _ _
          have H4 := hide (Hnext.out w4 g4 cap4 ho4 hg4)
          clear ho4 hg4 Hnext
          go_wp2_with fail
          go_roundw
          case rel => exact ⟨i + 1, by omega, by rw [Hd.out.2], by go_num, H4⟩
          case measure => simp [intOf]; omega
      · have h1' : ¬ (i : Int) < (k : Int) := by omega
        have h2' : ¬ (i : Int) < (m : Int) := by omega
        have h3' : (0 : Int) < (c : Int) := by omega
        go_wp2_with fail
        refine HA.out.mono ?_
        rintro e w1 ⟨rfl, rfl⟩
        go_wp2_with fail
        refine HC.out.mono ?_
        rintro e w1 ⟨rfl, rfl⟩
        clear HA HC
        go_wp2_with (at_builtin; refine wpList_append_lies _ rfl _ _ _ rfl w.heap.size 24 i5 (.int .u32 0) 1 4 Tryd.underlying23 Hi.out.1 Hi.out.2.1 Hi.out.2.2.1 Hi.out.2.2.2 rfl (by decide) _ i (limbsV i (A + C)) rfl (HO.out.1.alloc _) ⟨w1.heap.size, 0, none⟩ 1 1 [.int .u32 (d : Nat)] rfl rfl (fun j u hj => cell_new1 w1 _ 24 j u hj) (fun u hu => by simp at hu; subst hu; rfl) (by decide) (by unfold maxLen; omega) (by omega) (by have := HO.out.2.size; simp; omega) _ rfl ?d6)
        case d6 =>
          intro g4 cap4 w4 ho4 hg4 _ _
          have H4 := hide (Hnext.out w4 g4 cap4 ho4 hg4)
          clear ho4 hg4 Hnext
          go_wp2_with fail
          go_roundw
          case rel => exact ⟨i + 1, by omega, by rw [Hd.out.2], by go_num, H4⟩
          case measure => simp [intOf]; omega
    · have h1 : ¬ (i : Int) < (k : Int) := by omega
      have h2 : ¬ (i : Int) < (m : Int) := by omega
      have h3 : addC A C i = 0 := by omega
      have HE : Hid (Own wr w.heap.size u5 i (A + C) ∧ Below w.heap.size w wr) := by
        refine ⟨HS.out.own ?_ (by omega), HS.out.2⟩
        rw [addC_end HL.out.1 HL.out.2 (by omega) (by omega)] at h3
        rcases Nat.lt_or_ge (A + C) (4294967296 ^ i) with h | h
        · exact h
        · have := Nat.div_pos h (pw_pos i); omega
      rw [h3]
      clear HA HC Hst HS
      go_wp2_with fail
      refine (rtrim_any _ i (A + C) wr HE.out.1.row (by omega)).mono ?_
      rintro e w3 ⟨r, rfl, n, ho, hn, hnk, hb⟩
      have HF : Hid (Own w3 w.heap.size r n (A + C) ∧ Nrm n (A + C) ∧ n ≤ max k m + 1 ∧ Below w.heap.size w w3) := ⟨ho.mono HE.out.2.size, hn, by omega, HE.out.2.trans (hb.mono HE.out.2.size)⟩
      clear ho hn hb
      go_wp2_with fail
      go_ret
      exact ⟨r, rfl, n, HF.out⟩

end Go.Proofs.YtmfimhpbdbbpoaaDoor

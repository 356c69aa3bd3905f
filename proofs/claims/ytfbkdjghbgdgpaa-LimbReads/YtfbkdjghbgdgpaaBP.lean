/- The document's trim and fit; append of another type's slice. -/
import Derived.Test.YtfbkdjghbgdgpaaS
namespace Go.Proofs.Ytfbkdjghbgdgpaa
open Go.RowKit
open M
set_option linter.unusedVariables false
set_option linter.unusedSimpArgs false

/-- append looks at the second type only for whether it is an integer's. -/
theorem append_types {P : Program} {t u e e' : TypeId} {i : TypeInfo} (ht : P.underlying t = some (.slice e)) (hu : P.underlying u = some (.slice e')) (hi : P.info? e = some i) (ty : TypeId) (b : Option Addr) (n c : Nat) (x : Value) (w : World) :
    (Builtin.append_ #[t, u] ty #[.slice b n c, x]).run P w = (Builtin.append_ #[t, t] ty #[.slice b n c, x]).run P w := by
  simp [Builtin.append_, run_underlying ht, run_underlying hu, sizeOf, typeInfo, hi]

theorem wpList_append_two {P : Program} (w : World) {ops : Array Oper} {rest : List Oper} {o : Oper} {a : Act} {Q : Exit → Act → World → Prop} (hgd : o.guard = none) (s x : Operand) (t u : TypeId)
    (ho : o.op = .call { callee := .builtin .append, args := #[s, x], argTypes := #[t, u] })
    (base : Nat) (e : TypeId) (i : TypeInfo) (z : Value) (size bytes : Nat) (ht : P.underlying t = some (.slice e)) (hu : P.underlying u = some (.slice e)) (hi : P.info? e = some i) (hz : i.zero = some z)
    (hsize : i.size = size) (hby : i.bytes = bytes) (hzs : z.cells.size = size) (hsz : 0 < size)
    (b : Option Addr) (n k : Nat) (xs : List Value) (hs : a.eval s = .slice b n k) (hown : w.ownsRow base e size (.slice b n k) n xs)
    (ad : Addr) (m c : Nat) (news : List Value) (hx : a.eval x = .slice (some ad) m c) (hl : news.length = m * size) (hnews : ∀ j u, news[j]? = some u → w.cell? (ad.add j) = some u) (h1 : ∀ u ∈ news, u.oneCell' = true)
    (hm : 0 < m) (h63 : n + m ≤ maxLen) (hbytes : (n + m) * bytes ≤ 140737488355328) (hbase : base ≤ w.heap.size)
    (h : ∀ g cap w', w'.ownsRow base e size (.slice (some ⟨g, 0, none⟩) (n + m) cap) (n + m) (xs ++ news) → w.grownBy w' (Value.ownBlock (.slice b n k)) → g < w'.heap.size → wpList P ops Q rest (a.put o.dst (.slice (some ⟨g, 0, none⟩) (n + m) cap)) w') : wpList P ops Q (o :: rest) a w := by
  obtain ⟨g, cap, w', hr, h2, h3, _, h5⟩ := run_append_lies (P := P) w t o.type base e i z size bytes ht hi hz hsize hby hzs hsz (.slice b n k) n xs hown ad m c news hl hnews h1 hm h63 hbytes hbase _ rfl
  rw [← append_types ht hu hi] at hr
  refine wpList_plain hgd fun K hK => ?_
  unfold Oper.wp execOp
  simp only [ho, resolve, invoke, builtin, Sem.run_bind, Sem.run_pure, Result.andThen_ok, List.map_toArray, List.map_cons, List.map_nil, hs, hx, hr]
  exact hK _ _ (h g cap w' h2 h3 h5)

theorem wpList_append_zero {P : Program} (w : World) {ops : Array Oper} {rest : List Oper} {o : Oper} {a : Act} {Q : Exit → Act → World → Prop} (hgd : o.guard = none) (s x : Operand) (t u : TypeId)
    (ho : o.op = .call { callee := .builtin .append, args := #[s, x], argTypes := #[t, u] }) (y : Value) (hr : (Builtin.append_ #[t, u] o.type #[.slice none 0 0, y]).run P w = .ok (.slice none 0 0) w)
    (hs : a.eval s = .slice none 0 0) (hx : a.eval x = y) (h : wpList P ops Q rest (a.put o.dst (.slice none 0 0)) w) : wpList P ops Q (o :: rest) a w := by
  refine wpList_plain hgd fun K hK => ?_
  unfold Oper.wp execOp
  simp only [ho, resolve, invoke, builtin, Sem.run_bind, Sem.run_pure, Result.andThen_ok, List.map_toArray, List.map_cons, List.map_nil, hs, hx, hr]
  exact hK _ _ h

/-- Nothing is appended to nothing. -/
theorem append_none {P : Program} {t u e e' : TypeId} {i : TypeInfo} (ht : P.underlying t = some (.slice e)) (hu : P.underlying u = some (.slice e')) (hi : P.info? e = some i) (ty : TypeId) (ad : Option Addr) (c : Nat) (w : World) :
    (Builtin.append_ #[t, u] ty #[.slice none 0 0, .slice ad 0 c]).run P w = .ok (.slice none 0 0) w := by
  cases ad <;> simp [Builtin.append_, run_underlying ht, run_underlying hu, sizeOf, typeInfo, hi, Builtin.lenOf, Builtin.firstCells, loadCells, loadCellsFrom]

theorem append_none_nat (ty : TypeId) (ad : Option Addr) (c : Nat) (w : World) : (Builtin.append_ #[28, 27] ty #[.slice none 0 0, .slice ad 0 c]).run Try.prog w = .ok (.slice none 0 0) w := by
  obtain ⟨i5, hi5, _⟩ := info32
  exact append_none Try.underlying28 Try.underlying27 hi5 ty ad c w

theorem limbs_at {w : World} {g o k n N : Nat} (hj : ∀ j, j < k → w.cell? ⟨g, o + j, none⟩ = some (.int .u32 (dg N j : Nat))) (hn : n ≤ k) : ∀ j u, (limbsV n N)[j]? = some u → w.cell? ((⟨g, o, none⟩ : Addr).add j) = some u := by
  intro j u h
  have hjl : j < n := by rw [← limbsV_length n N]; exact (List.getElem?_eq_some_iff.1 h).1
  have := hj j (by omega)
  rw [limbsV_get _ _ _ hjl] at h
  rw [show (⟨g, o, none⟩ : Addr).add j = ⟨g, o + j, none⟩ from by unfold Addr.add; split <;> simp_all, this, h]

set_option maxRecDepth 100000 in
set_option maxHeartbeats 2000000 in
theorem rtrim_any {S : Nat → Prop} (v : Value) (k N : Nat) (w : World) (h : RowX S w v k N) (hkb : k ≤ 1000000) :
    Calls Try.prog 27 #[v] w fun e w' => ∃ r, e = .returned r ∧ ∃ n, Own w' w.heap.size r n N ∧ Nrm n N ∧ n ≤ k ∧ Below w.heap.size w w' := by
  obtain ⟨i5, hi5⟩ := info32
  have Hi := hide hi5
  clear hi5
  obtain ⟨hN, hk, ad, cap, rfl, hc, hcell⟩ := h
  have HC : Hid (0 < k → ∃ g o, ad = some ⟨g, o, none⟩ ∧ S g ∧ ∀ j, j < k → w.cell? ⟨g, o + j, none⟩ = some (.int .u32 (dg N j : Nat))) := hcell
  have HN : Hid (N < 4294967296 ^ k) := hN
  have HA := hide append_none_nat
  clear hcell hN
  go_enter Try.func27, Try.ntmps27
  go_wp2_with fail
  go_loop [3] (fun t3 => ∃ n : Nat, n ≤ k ∧ t3 = .int .i64 n ∧ Hid (N < 4294967296 ^ n)) (fun t3 => (intOf t3).toNat)
  case atStart => exact ⟨k, by omega, rfl, HN⟩
  case round =>
    obtain ⟨n, hn, rfl, Hn⟩ := hrel
    have hncap : n ≤ cap := by omega
    by_cases h0 : n = 0
    · subst h0
      have H0 : Hid (N = 0) := by show _ = _; have := Hn.out; omega
      go_wp2_with (at_builtin; refine wpList_append_zero _ rfl _ _ _ _ rfl (.slice ad 0 cap) (HA.out _ ad cap w) rfl rfl ?_)
      go_ret
      exact ⟨_, rfl, 0, by rw [H0.out]; exact Own.nil _ _, by rw [H0.out]; exact nrm_zero, Nat.zero_le _, Below.refl _ _⟩
    · obtain ⟨m, rfl⟩ : ∃ m, n = m + 1 := ⟨n - 1, by omega⟩
      obtain ⟨g, o, rfl, hS, hj⟩ := HC.out (by omega)
      have hci := hj m (by omega)
      have h2' : (0 : Int) < ((m + 1 : Nat) : Int) := by omega
      have Hd : Hid (dg N m = 0 → N < 4294967296 ^ m) := fun h => Nrm.drop Hn.out h
      have Ht : Hid (dg N m ≠ 0 → Nrm (m + 1) N) := fun h => Nrm.of_top Hn.out h
      have HJ := hide (limbs_at (n := m + 1) hj hn)
      clear hj h0 HC HN
      generalize dg N m = x at *
      by_cases hx : x = 0
      · subst hx
        go_wp2_with fail
        go_round
        case rel => exact ⟨m, by omega, by go_num, Hd.out rfl⟩
        case measure => simp [intOf]
      · have hx' : ((x : Int) == 0) = false := by rw [beq_eq_false_iff_ne]; omega
        have HNr := hide (Ht.out hx)
        clear hx
        have HO := hide (Own.nil w w.heap.size)
        go_wp2_with (at_builtin; refine wpList_append_two _ rfl _ _ _ _ rfl w.heap.size 58 i5 (.int .u32 0) 1 4 Try.underlying28 Try.underlying27 Hi.out.1 Hi.out.2.1 Hi.out.2.2.1 Hi.out.2.2.2 rfl (by decide) none 0 0 [] rfl HO.out.2.2 ⟨g, o, none⟩ (m + 1) cap (limbsV (m + 1) N) rfl (by simp) HJ.out (limbsV_cell _ _) (by omega) (by unfold maxLen; omega) (by omega) (Nat.le_refl _) ?d6)
        case d6 =>
          intro g4 cap4 w4 ho4 hg4 _
          have HF : Hid (Own w4 w.heap.size (.slice (some ⟨g4, 0, none⟩) (m + 1) cap4) (m + 1) N ∧ Below w.heap.size w w4) :=
            ⟨⟨Hn.out, by omega, by simpa using ho4⟩, grown_below hg4 (fun g hg => by cases hg) (Nat.le_refl _)⟩
          clear ho4 hg4
          go_wp2_with fail
          go_ret
          exact ⟨_, rfl, m + 1, HF.out.1, HNr.out, hn, HF.out.2⟩

set_option maxRecDepth 100000 in
theorem fit_any {S : Nat → Prop} (v : Value) (k N : Nat) (w : World) (h : RowX S w v k N) (hkb : k ≤ 1000000) :
    Calls Try.prog 32 #[v] w fun e w' => ∃ u c, e = .returned (.tuple #[u, .int .i64 c]) ∧ Told w' w.heap.size u c N ∧ Below w.heap.size w w' := by
  have HT := hide (rtrim_any v k N w h hkb)
  clear h
  go_enter Try.func32, Try.ntmps32
  go_wp2_with fail
  refine HT.out.mono ?_
  rintro e w1 ⟨r, rfl, n, ho, hn, hnk, hb⟩
  have H1 := hide (And.intro ho (And.intro hn hb))
  obtain ⟨_, _, ad, cap, rfl, _, _⟩ := ho.row
  clear ho hn hb
  have Hf := hide H1.out.2.1.fits
  by_cases hle : n ≤ 8192
  · have hle' : ¬ (8192 : Int) < (n : Int) := by omega
    go_wp2_with fail
    go_ret2
    exact ⟨_, 0, rfl, .inl ⟨Hf.out.1 hle, rfl, n, H1.out.1, H1.out.2.1⟩, H1.out.2.2⟩
  · have hle' : (8192 : Int) < (n : Int) := by omega
    go_wp2_with fail
    go_ret2
    exact ⟨_, 21, rfl, .inr ⟨fun h => hle (Hf.out.2 h), rfl, rfl⟩, H1.out.2.2⟩

end Go.Proofs.Ytfbkdjghbgdgpaa

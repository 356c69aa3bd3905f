/- The document's whole numbers: Less. -/
import Derived.Test.YtmkploknoohliaaGreatNK
namespace Go.Proofs.YtmkploknoohliaaGreat
open Go.RowKit
open M
set_option linter.unusedVariables false
set_option linter.unusedSimpArgs false

/-- A step of Less, with a sign. -/
theorem less_step (P Y k i : Nat) (hi : i < k) : ∃ d : Nat, dg (subN P Y k) i = d ∧ d < 4294967296 ∧ (-(brw P Y i : Int) + (dg P i : Int) - (dg Y i : Int)) % 4294967296 = (d : Int) ∧ (-(brw P Y i : Int) + (dg P i : Int) - (dg Y i : Int)) / 4294967296 = -(brw P Y (i + 1) : Int) := by
  obtain ⟨h1, h2⟩ := sub_step P Y k i hi _ _ _ rfl rfl rfl
  have hx := dg_lt P i
  have hy := dg_lt Y i
  have hb := brw_le P Y i
  refine ⟨_, rfl, dg_lt _ _, ?_⟩
  by_cases h : brw P Y i + dg Y i ≤ dg P i
  · obtain ⟨e1, e2⟩ := h1 h
    rw [e1, e2]
    generalize dg P i = x at *
    generalize dg Y i = y at *
    generalize brw P Y i = b at *
    omega
  · obtain ⟨e1, e2⟩ := h2 (by omega)
    rw [e1, e2]
    generalize dg P i = x at *
    generalize dg Y i = y at *
    generalize brw P Y i = b at *
    omega

set_option maxRecDepth 100000 in
set_option maxHeartbeats 2000000 in
theorem nLess {S S' : Nat → Prop} (v u : Value) (k A m C : Nat) (w : World) (h : RowX S w v k A) (h' : RowX S' w u m C) (hmk : m ≤ k) (hCA : C ≤ A) (hkb : k ≤ 100000) :
    Calls Tryz.prog 102 #[v, u] w fun e w' => ∃ r, e = .returned r ∧ ∃ n, RowX (w.heap.size ≤ ·) w' r n (A - C) ∧ Nrm n (A - C) ∧ n ≤ k ∧ Below w.heap.size w w' := by
  obtain ⟨i5, hi5⟩ := info32
  have Hi := hide hi5
  clear hi5
  have HR := hide (And.intro h.row h'.row)
  have HL := hide (And.intro h.1 h'.1)
  have HD : Hid (subN A C k = A - C ∧ A - C < 4294967296 ^ k) := ⟨subN_ge hCA h.1, Nat.lt_of_le_of_lt (Nat.sub_le _ _) h.1⟩
  obtain ⟨_, _, ad, cap, rfl, _, _⟩ := h
  obtain ⟨_, _, ad', cap', rfl, _, _⟩ := h'
  go_enter Tryz.func102, Tryz.ntmps102
  go_wp2_with fail
  go_loopw [5, 6, 7] (fun t5 t6 t7 wr => ∃ i : Nat, i ≤ k ∧ t6 = .int .i64 (-(brw A C i : Int)) ∧ t7 = .int .i64 i ∧ Hid (NatSt w (A - C) i t5 wr)) (fun _ _ t7 _ => k - (intOf t7).toNat)
  case atStart => exact ⟨0, by omega, by rw [brw_zero]; rfl, rfl, (Own.nil w w.heap.size).2.2, Below.refl _ _⟩
  case round =>
    obtain ⟨i, hi, rfl, rfl, HS⟩ := hrel
    have Hnext := hide (fun (w4 : World) (g4 cap4 : Nat) => NatSt.next (w4 := w4) (g := g4) (cap := cap4) HS.out)
    have HO := hide HS.out
    by_cases hgo : i < k
    · obtain ⟨d, hd0, hdl, hd1, hq1⟩ := less_step A C k i hgo
      rw [HD.out.1] at hd0
      rw [hd0] at Hnext
      have h1' : (i : Int) < (k : Int) := by omega
      have hle : i + 1 ≤ k := by omega
      have hxl := dg_lt A i
      have hyl := dg_lt C i
      have hbl := brw_le A C i
      obtain ⟨g, o, rfl, hcx⟩ : ∃ g o, ad = some ⟨g, o, none⟩ ∧ wr.cell? ⟨g, o + i, none⟩ = some (.int .u32 (dg A i : Nat)) := by
        obtain ⟨_, _, ad1, cap1, e1, _, hc1⟩ := HR.out.1.below HO.out.2
        cases e1
        obtain ⟨g, o, e, _, hj⟩ := hc1 (by omega)
        exact ⟨g, o, e, hj i hgo⟩
      have HY : Hid (i < m → ∃ g o, ad' = some ⟨g, o, none⟩ ∧ wr.cell? ⟨g, o + i, none⟩ = some (.int .u32 (dg C i : Nat))) := by
        intro him
        obtain ⟨_, _, ad1, cap1, e1, _, hc1⟩ := HR.out.2.below HO.out.2
        cases e1
        obtain ⟨g, o, e, _, hj⟩ := hc1 (by omega)
        exact ⟨g, o, e, hj i him⟩
      have HZ : Hid (¬ i < m → dg C i = 0) := fun h => dg_high HL.out.2 (by omega)
      obtain ⟨t, ht⟩ : ∃ t : Int, -(brw A C i : Int) + (dg A i : Int) - (dg C i : Int) = t := ⟨_, rfl⟩
      have htb : -4294967296 ≤ t ∧ t < 4294967296 := by omega
      rw [ht] at hd1 hq1
      have hu1 : IntKind.u64.wrap t % 4294967296 = (d : Int) := by rw [IntKind.wrap_u64]; omega
      have hu2 : t % 18446744073709551616 % 4294967296 = (d : Int) := by omega
      have Hq := hide hq1
      clear hd0 HR HL hgo hd1 hq1
      obtain ⟨b', hb'⟩ : ∃ b' : Int, -(brw A C (i + 1) : Int) = b' := ⟨_, rfl⟩
      rw [hb'] at Hq
      have HB' := hide hb'
      clear hb'
      generalize dg A i = x at *
      generalize dg C i = y at *
      obtain ⟨bb, hbb⟩ : ∃ bb : Int, -(brw A C i : Int) = bb := ⟨_, rfl⟩
      rw [hbb] at ht
      rw [hbb]
      have hbb2 : -1 ≤ bb ∧ bb ≤ 0 := by omega
      clear hbb hbl
      have hq3 := Hq.out
      by_cases him : i < m
      · have h2' : (i : Int) < (m : Int) := by omega
        obtain ⟨g', o', rfl, hcy⟩ := HY.out him
        obtain ⟨t0, ht0⟩ : ∃ t0 : Int, bb + (x : Int) = t0 := ⟨_, rfl⟩
        rw [ht0] at ht
        have ht0b : -1 ≤ t0 ∧ t0 < 4294967296 := by omega
        have w1 : wrap64 t0 = t0 := by unfold wrap64; omega
        have w2 : wrap64 t = t := by unfold wrap64; omega
        clear HY HZ him
        go_wp2_with (first | (simp only [ht0, ht, w1, w2, hu1, hu2, hq3]; done) | (at_builtin; refine wpList_append_lies _ rfl _ _ _ rfl w.heap.size 38 i5 (.int .u32 0) 1 4 Tryz.underlying69 Hi.out.1 Hi.out.2.1 Hi.out.2.2.1 Hi.out.2.2.2 rfl (by decide) _ i (limbsV i (A - C)) rfl (HO.out.1.alloc _) ⟨wr.heap.size, 0, none⟩ 1 1 [.int .u32 (d : Nat)] rfl rfl (fun j u hj => cell_new1 wr _ 38 j u hj) (fun u hu => by simp at hu; subst hu; rfl) (by decide) (by unfold maxLen; omega) (by omega) (by have := HO.out.2.size; simp; omega) _ rfl ?d6))
        case d6 =>
          intro g4 cap4 w4 ho4 hg4 _ _
          have H4 := hide (Hnext.out w4 g4 cap4 ho4 hg4)
          clear ho4 hg4 Hnext
          go_wp2_with (simp only [hq3])
          go_roundw
          case rel => exact ⟨i + 1, by omega, by rw [HB'.out], by go_num, H4⟩
          case measure => simp [intOf]; omega
      · have h2' : ¬ (i : Int) < (m : Int) := by omega
        have y0 := HZ.out him
        subst y0
        have ht2 : bb + (x : Int) = t := by omega
        have w2 : wrap64 t = t := by unfold wrap64; omega
        clear HY HZ him ht
        go_wp2_with (first | (simp only [ht2, w2, hu1, hu2, hq3]; done) | (at_builtin; refine wpList_append_lies _ rfl _ _ _ rfl w.heap.size 38 i5 (.int .u32 0) 1 4 Tryz.underlying69 Hi.out.1 Hi.out.2.1 Hi.out.2.2.1 Hi.out.2.2.2 rfl (by decide) _ i (limbsV i (A - C)) rfl (HO.out.1.alloc _) ⟨wr.heap.size, 0, none⟩ 1 1 [.int .u32 (d : Nat)] rfl rfl (fun j u hj => cell_new1 wr _ 38 j u hj) (fun u hu => by simp at hu; subst hu; rfl) (by decide) (by unfold maxLen; omega) (by omega) (by have := HO.out.2.size; simp; omega) _ rfl ?d6))
        case d6 =>
          intro g4 cap4 w4 ho4 hg4 _ _
          have H4 := hide (Hnext.out w4 g4 cap4 ho4 hg4)
          clear ho4 hg4 Hnext
          go_wp2_with (simp only [hq3])
          go_roundw
          case rel => exact ⟨i + 1, by omega, by rw [HB'.out], by go_num, H4⟩
          case measure => simp [intOf]; omega
    · have h1' : ¬ (i : Int) < (k : Int) := by omega
      obtain rfl : i = k := by omega
      have HW := hide (HO.out.own HD.out.2 (by omega)).rowX
      clear Hnext
      go_wp2_with fail
      refine (nTrim _ i (A - C) _ HW.out).mono ?_
      rintro e w5 ⟨r5, rfl, n5, hr5, hn5, hnk5, rfl⟩
      have H5 := hide (And.intro hr5 (And.intro hn5 hnk5))
      clear hr5 hn5 hnk5
      go_wp2_with fail
      go_ret
      exact ⟨r5, rfl, n5, H5.out.1, H5.out.2.1, H5.out.2.2, HO.out.2⟩
end Go.Proofs.YtmkploknoohliaaGreat

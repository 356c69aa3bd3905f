/- The document's Pack and Unpack where they refuse. -/
import Derived.Test.YtangjkhflgkkdaaGreatT2D
/- The document's times: Unpack, the walk. -/
namespace Go.Proofs.YtangjkhflgkkdaaGreat
open Go.RowKit
open M
set_option linter.unusedVariables false

/-- What the document's Unpack tells. -/
def RUnpackEnd (w : World) (bs : List Nat) (n : Nat) (e : Ending) (w' : World) : Prop :=
  (e = .returned (.tuple #[.slice none 0 0, .int .i64 62]) ∧ Below w.heap.size w w' ∧ ¬ ∃ h, Packs bs h n) ∨
    ∃ (v : Value) (f : Nat → Int) (B : Nat), e = .returned (.tuple #[v, .int .i64 0]) ∧ w.heap.size ≤ B ∧ TSt B w' f n v w' ∧ Below w.heap.size w w' ∧ Packs bs f n ∧ ∀ h, Packs bs h n → ∀ i, i < n → f i = h i

theorem RTn.ended {w W0 wr : World} {bs : List Nat} {n : Nat} {f h : Nat → Int} {v : Value} {l1 : List Bool} {e1 : Int} (T : RTn w W0 wr bs n n f v l1 e1) (hP : Packs bs h n) : endL l1 e1 = 0 := by
  obtain ⟨h1, h2⟩ := T.full h hP
  subst h1
  have h3 := T.sound rfl
  rw [tbn_congr _ _ _ h2, ← hP.2.2, rbits_packed] at h3
  have h4 := List.append_cancel_left h3
  unfold endL
  rw [if_pos rfl, ← h4, if_neg (by simp; omega), num_zeros, if_pos rfl]

theorem RTn.packs {w W0 wr : World} {bs : List Nat} {n : Nat} {f : Nat → Int} {v : Value} {l1 : List Bool} {e1 : Int} (hb : ∀ x ∈ bs, x < 256) (T : RTn w W0 wr bs n n f v l1 e1) (hE : endL l1 e1 = 0) : Packs bs f n := by
  refine ⟨T.rng, T.ris, ?_⟩
  unfold endL at hE
  by_cases he : e1 = 0
  · rw [if_pos he] at hE
    by_cases h8 : 8 ≤ l1.length
    · rw [if_pos h8] at hE; cases hE
    · rw [if_neg h8] at hE
      by_cases hz : num l1 = 0
      · have h1 := T.sound he
        have hlen : 8 * bs.length = (tbn f n).length + l1.length := by rw [← rbits_length, h1, List.length_append]
        have hd : (rbits bs).drop (tbn f n).length = l1 := by rw [h1, List.drop_left' rfl]
        have ht : (rbits bs).take (tbn f n).length = tbn f n := by rw [h1, List.take_left' rfl]
        have := packed_back bs hb (tbn f n).length (by omega) (by omega) (by rw [hd]; exact hz)
        rw [ht] at this
        exact this
      · rw [if_neg hz] at hE; cases hE
  · rw [if_neg he] at hE; exact absurd hE he

set_option maxRecDepth 100000 in
set_option maxHeartbeats 4000000 in
theorem runpack_any (v : Value) (bs : List Nat) (n : Nat) (w : World) (h : IsBy w v bs) (hb : ∀ x ∈ bs, x < 256) (hl : bs.length ≤ 1000000) (hn : n ≤ 4096) :
    Calls Tryz.prog 24 #[v, .int .i64 n] w (RUnpackEnd w bs n) := by
  obtain ⟨i5, hi5⟩ := info64
  have Hi := hide hi5
  have H := hide h
  have HB := hide hb
  have HL := hide hl
  clear h hb hl hi5
  go_enter Tryz.func24, Tryz.ntmps24
  go_wp2_with fail
  refine (vfrom_any v bs w H.out HL.out HB.out).mono ?_
  rintro e W0 ⟨rfl, R0, B0⟩
  have HT0 := hide (RTn.start (n := n) R0 B0)
  have hbB : w.heap.size < W0.heap.size := R0.lt
  clear R0 B0
  go_wp2_with fail
  go_loopw [7, 8, 9] (fun t7 t8 t9 wr => ∃ (i : Nat) (f : Nat → Int) (l1 : List Bool) (e1 : Int), t8 = .int .u64 (ahd f (i - 1) : Int) ∧ t9 = .int .i64 (i : Int) ∧ Hid (i ≤ n ∧ (i = 0 → l1 = rbits bs ∧ e1 = 0)) ∧ Hid (RTn w W0 wr bs n i f t7 l1 e1)) (fun _ _ t9 _ => n - (intOf t9).toNat)
  case atStart => exact ⟨0, _, _, _, rfl, rfl, ⟨by omega, fun _ => ⟨rfl, rfl⟩⟩, HT0.out⟩
  case round =>
    obtain ⟨i, f, l1, e1, rfl, rfl, hI, HT⟩ := hrel
    have hin : i ≤ n := hI.out.1
    by_cases hlt : i < n
    · by_cases h0 : i = 0
      · subst h0
        obtain ⟨rfl, rfl⟩ := hI.out.2 rfl
        go_wp2_with fail
        refine (vtk_bits w.heap.size W0.heap.size (rbits bs) 0 64 wr HT.out.rd (by omega)).mono ?_
        rintro e w2 ⟨x, l2, e2, rfl, hx, R2, O2, s2, f2, n2⟩
        have HX : Hid (x < 18446744073709551616) := hx
        obtain ⟨y, hy⟩ : ∃ y : Int, y = wrap64 (x : Int) := ⟨_, rfl⟩
        have HS : Hid (TSt W0.heap.size w2 (fun _ => y) 0 u7 w2) := (HT.out.own.only O2 hbB).congr fun j hj => absurd hj (Nat.not_lt_zero j)
        have ey : wrap64 (x : Int) = y := hy.symm
        have HY := hide hy
        clear hy
        have HN := hide (fun (w4 : World) (g4 cap4 : Nat) (hN : TSt W0.heap.size w2 (fun _ => y) 1 (.slice (some ⟨g4, 0, none⟩) 1 cap4) w4) => HT.out.first HY.out hlt R2 O2 HX.out (fun h => (s2 h).2) (fun h => f2 rfl h) hN)
        clear s2 f2 n2 R2 O2 hx
        go_wp2_with (at_builtin; refine wpList_append_lies _ rfl _ _ _ rfl W0.heap.size 2 i5 (.int .i64 0) 1 8 Tryz.underlying54 Hi.out.1 Hi.out.2.1 Hi.out.2.2.1 Hi.out.2.2.2 rfl (by decide) _ 0 (timesV 0 (fun _ => y)) rfl (HS.out.1.alloc _) ⟨w2.heap.size, 0, none⟩ 1 1 [.int .i64 y] rfl rfl ?d2 ?d3 (by decide) ?d4 ?d5 ?d7 _ rfl ?d6)
        case d2 => intro j u hj; exact cell_new1 w2 _ 2 j u hj
        case d3 => intro u hu; simp at hu; subst hu; rfl
        case d4 => unfold maxLen; omega
        case d5 => omega
        case d7 => have := HS.out.2.2; simp; omega
        case d6 =>
          intro g4 cap4 w4 ho4 hg4 hat4 hlt4
          have H4 := hide (HN.out w4 g4 cap4 (TSt.next (t := y) (f := fun _ => y) HS.out rfl ho4 hg4))
          clear ho4 hg4 hat4 hlt4 HN HS
          go_wp2_with fail
          go_roundw
          case rel => exact ⟨1, fun _ => y, l2, e2, rfl, by simp, ⟨hlt, fun h => absurd h (by simp)⟩, H4.out⟩
          case measure => simp [intOf]; omega
      · obtain ⟨k, rfl⟩ : ∃ k, i = k + 1 := ⟨i - 1, by omega⟩
        have hk0 : ((k : Int) + 1 == 0) = false := by rw [beq_eq_false_iff_ne]; omega
        clear h0
        rw [Nat.add_sub_cancel]
        obtain ⟨A, hA⟩ : ∃ A, A = ahd f k := ⟨_, rfl⟩
        have hA2 : A < 18446744073709551616 := by rw [hA]; exact ahd_lt _ _
        rw [← hA]
        have HA := hide hA
        have HA2 := hide hA2
        clear hA hA2
        go_wp2_with fail
        refine (rtake_any w.heap.size W0.heap.size l1 e1 wr HT.out.rd).mono ?_
        rintro e w2 ⟨u, ok, l2, e2, rfl, hu, R2, O2, s2, f2⟩
        have HU := hide hu
        have HSS := hide (And.intro s2 f2)
        have HR2 := hide R2
        have HO2 := hide O2
        have HB2 : Hid (Below w.heap.size w w2) := HT.out.bel.trans (O2.below (Nat.le_refl _) HT.out.bel.size)
        clear s2 f2 R2 O2 hu
        cases ok with
        | false =>
          go_wp2_with fail
          go_ret2
          refine .inl ⟨rfl, HB2.out, fun ⟨h, hP⟩ => ?_⟩
          obtain ⟨r, hr⟩ := HT.out.bits hlt hP
          have h1 := (HT.out.full h hP).1
          have := (HSS.out.2 h1 (zg h k) r (zg_lt h k) hr).1
          cases this
        | true =>
          have HS : Hid (TSt W0.heap.size w2 f (k + 1) u7 w2) := HT.out.own.only HO2.out hbB
          obtain ⟨q1, q2, q3⟩ := HSS.out.1 (by trivial)
          have HQ := hide (And.intro q1 (And.intro q2 q3))
          clear q1 q2 q3
          obtain ⟨ad, cap, hv, hcap, hrow⟩ := HS.out.row
          subst hv
          obtain ⟨pb, po, rfl, hc⟩ := hrow (by omega)
          have c1 : w2.cell? ⟨pb, po + k, none⟩ = some (.int .i64 (f k)) := hc k (by omega)
          clear hc hrow
          go_wp2_with fail
          refine (rback_any u w2 HU.out).mono ?_
          rintro e w3 ⟨rfl, hw3⟩
          have hw32 := hw3.symm
          subst hw32
          obtain ⟨z, hz⟩ : ∃ z, z = zag u := ⟨_, rfl⟩
          have hzr := zag_range u HU.out
          rw [← hz] at hzr ⊢
          obtain ⟨Z, hZ⟩ : ∃ Z : Nat, Z = (z % 18446744073709551616).toNat := ⟨_, rfl⟩
          obtain ⟨D, hD⟩ : ∃ D : Nat, D = (((A : Int) + z) % 18446744073709551616).toNat := ⟨_, rfl⟩
          have hDi : (D : Int) = ((A : Int) + z) % 18446744073709551616 := by rw [hD]; exact Int.toNat_of_nonneg (Int.emod_nonneg _ (by decide))
          have HDi := hide hDi
          clear hDi
          obtain ⟨fk, hfk⟩ : ∃ fk, fk = f k := ⟨_, rfl⟩
          have hfr := HT.out.rng k (by omega)
          rw [← hfk] at hfr c1
          obtain ⟨X, hX⟩ : ∃ X : Nat, X = (fk % 18446744073709551616).toNat := ⟨_, rfl⟩
          obtain ⟨Y, hY⟩ : ∃ Y : Nat, Y = ((fk + (D : Int)) % 18446744073709551616).toNat := ⟨_, rfl⟩
          obtain ⟨t, ht⟩ : ∃ t : Int, t = (fk + (D : Int) + 9223372036854775808) % 18446744073709551616 - 9223372036854775808 := ⟨_, rfl⟩
          have q1 : IntKind.u64.wrap z = (Z : Int) := by rw [hZ]; simp only [IntKind.wrap, IntKind.bits, IntKind.signed]; simp; omega
          have q2 : IntKind.u64.wrap ((A : Int) + (Z : Int)) = (D : Int) := by rw [hZ, hD]; simp only [IntKind.wrap, IntKind.bits, IntKind.signed]; simp; omega
          have q3 : IntKind.u64.wrap fk = (X : Int) := by rw [hX]; simp only [IntKind.wrap, IntKind.bits, IntKind.signed]; simp; omega
          have q4 : IntKind.u64.wrap ((X : Int) + (D : Int)) = (Y : Int) := by rw [hX, hY]; simp only [IntKind.wrap, IntKind.bits, IntKind.signed]; simp; omega
          have q5 : wrap64 (Y : Int) = t := by rw [hY, ht]; unfold wrap64; omega
          have HZ := hide hZ
          have HD := hide hD
          have HX := hide hX
          have HY := hide hY
          have HTT := hide ht
          have Hz := hide hz
          have Hfk := hide hfk
          clear hZ hD hX hY ht hz hfk hzr hfr
          have HD2 : Hid ((D : Int) = ((ahd f k : Nat) + zag u) % 18446744073709551616) := by show _ = _; rw [← HA.out, ← Hz.out]; exact HDi.out
          have HT2 : Hid (t = (f k + (D : Int) + 9223372036854775808) % 18446744073709551616 - 9223372036854775808) := by show _ = _; rw [← Hfk.out]; exact HTT.out
          by_cases hup : t ≤ fk
          · have hup' : decide (t ≤ fk) = true := by rw [decide_eq_true_iff]; exact hup
            have HUP := hide hup
            clear hup
            go_wp2_with fail
            go_ret2
            exact .inl ⟨rfl, HB2.out, HT.out.down hlt HU.out HQ.out.2.2 HD2.out HT2.out (by rw [← Hfk.out]; exact HUP.out)⟩
          · have hup' : decide (t ≤ fk) = false := by rw [decide_eq_false_iff_not]; exact hup
            have HUP := hide hup
            clear hup
            obtain ⟨F, hF⟩ : ∃ F : Nat → Int, F = fun i => if i = k + 1 then t else f i := ⟨_, rfl⟩
            have HS2 : Hid (TSt W0.heap.size w2 F (k + 1) (.slice (some ⟨pb, po, none⟩) (k + 1) cap) w2) := HS.out.congr fun j hj => by rw [hF]; simp; omega
            have HF1 : Hid (t = F (k + 1)) := by show _ = _; rw [hF]; simp
            have HN : Hid (∀ (w4 : World) (g4 cap4 : Nat), TSt W0.heap.size w2 F (k + 2) (.slice (some ⟨g4, 0, none⟩) (k + 2) cap4) w4 → RTn w W0 w4 bs n (k + 2) F (.slice (some ⟨g4, 0, none⟩) (k + 2) cap4) l2 e2 ∧ ahd F (k + 1) = D) := by
              intro w4 g4 cap4 hN
              rw [hF] at hN ⊢
              exact HT.out.next hlt HR2.out HO2.out HU.out HQ.out HD2.out HT2.out (by rw [← Hfk.out]; have := HUP.out; omega) hN
            clear hF HS
            go_wp2_with (at_builtin; refine wpList_append_lies _ rfl _ _ _ rfl W0.heap.size 2 i5 (.int .i64 0) 1 8 Tryz.underlying54 Hi.out.1 Hi.out.2.1 Hi.out.2.2.1 Hi.out.2.2.2 rfl (by decide) _ (k + 1) (timesV (k + 1) F) rfl (HS2.out.1.alloc _) ⟨w2.heap.size, 0, none⟩ 1 1 [.int .i64 t] rfl rfl ?d2 ?d3 (by decide) ?d4 ?d5 ?d7 _ rfl ?d6)
            case d2 => intro j u hj; exact cell_new1 w2 _ 2 j u hj
            case d3 => intro u hu; simp at hu; subst hu; rfl
            case d4 => unfold maxLen; omega
            case d5 => omega
            case d7 => have := HS2.out.2.2; simp; omega
            case d6 =>
              intro g4 cap4 w4 ho4 hg4 hat4 hlt4
              have H4 := hide (HN.out w4 g4 cap4 (TSt.next (t := t) (f := F) HS2.out HF1.out ho4 hg4))
              clear ho4 hg4 hat4 hlt4 HN HS2
              go_wp2_with fail
              go_roundw
              case rel => exact ⟨k + 2, F, l2, e2, (by show Value.int .u64 (D : Int) = .int .u64 ((ahd F (k + 1) : Nat) : Int); rw [H4.out.2]), by simp; omega, ⟨hlt, fun h => absurd h (by simp)⟩, H4.out.1⟩
              case measure => simp [intOf]; omega
    · obtain rfl : i = n := by omega
      go_wp2_with fail
      refine (vend_any w.heap.size W0.heap.size l1 e1 wr HT.out.rd).mono ?_
      rintro e w3 ⟨rfl, hw3⟩
      have hw32 := hw3.symm
      subst hw32
      by_cases hE : endL l1 e1 = 0
      · rw [hE]
        have HE := hide hE
        clear hE
        go_wp2_with fail
        go_ret2
        exact .inr ⟨u7, f, W0.heap.size, rfl, by omega, HT.out.own, HT.out.bel, HT.out.packs HB.out HE.out, fun h hP => (HT.out.full h hP).2⟩
      · have hE' : (endL l1 e1 != 0) = true := by simp [hE]
        have HE := hide hE
        clear hE
        go_wp2_with fail
        go_ret2
        exact .inl ⟨rfl, HT.out.bel, fun ⟨h, hP⟩ => HE.out (HT.out.ended hP)⟩

end Go.Proofs.YtangjkhflgkkdaaGreat

namespace Go.Proofs.YtangjkhflgkkdaaGreat
open Go.RowKit
open M
set_option linter.unusedVariables false

set_option maxHeartbeats 1000000 in
theorem rpack_bad (p : Option Addr) (n cap : Nat) (f : Nat → Int) (w : World) (h : TRow w p n f) (hn : n ≤ 4096) (hr : ¬ Rises f n) :
    Calls Tryz.prog 17 #[.slice p n cap] w fun e w' => e = .returned (.tuple #[.slice none 0 0, .int .i64 61]) ∧ ∃ m, w' = w.drewN m := by
  have H := hide h
  have HR := hide hr
  clear h hr
  go_enter Tryz.func17, Tryz.ntmps17
  go_wp2_with fail
  refine (rrising_any p n cap f w H.out (by omega)).mono ?_
  rintro e w1 ⟨v, rfl, hv, m, rfl⟩
  obtain rfl : v = false := by cases v with
    | false => rfl
    | true => exact absurd (hv.1 rfl) HR.out
  go_wp2_with fail
  go_ret2
  exact ⟨rfl, m, rfl⟩

theorem rpack_many (p : Option Addr) (n cap : Nat) (w : World) (hn : 4096 < n) :
    Calls Tryz.prog 17 #[.slice p n cap] w fun e w' => e = .returned (.tuple #[.slice none 0 0, .int .i64 60]) ∧ w' = w := by
  go_enter Tryz.func17, Tryz.ntmps17
  go_wp2_with fail
  go_ret2
  exact ⟨rfl, rfl⟩

theorem runpack_count (v : Value) (n : Int) (w : World) (hn : n < 0 ∨ 4096 < n) :
    Calls Tryz.prog 24 #[v, .int .i64 n] w fun e w' => e = .returned (.tuple #[.slice none 0 0, .int .i64 60]) ∧ w' = w := by
  by_cases h0 : n < 0
  · go_enter Tryz.func24, Tryz.ntmps24
    go_wp2_with fail
    go_ret2
    exact ⟨rfl, rfl⟩
  · have h1 : 4096 < n := by omega
    go_enter Tryz.func24, Tryz.ntmps24
    go_wp2_with fail
    go_ret2
    exact ⟨rfl, rfl⟩

end Go.Proofs.YtangjkhflgkkdaaGreat

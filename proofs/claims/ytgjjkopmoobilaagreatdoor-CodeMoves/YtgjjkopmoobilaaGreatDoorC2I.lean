/- A map of whole numbers of any kind that the call makes: an entry put, one looked up. -/
import Derived.Test.YtgjjkopmoobilaaGreatDoorC3G64
import Derived.Test.YtgjjkopmoobilaaGreatDoorC1A64
import Derived.Laws.MathBits
import Derived.Test.YtgjjkopmoobilaaGreatDoorB1P
import Derived.Maps.Own
import Derived.WideMake
/- The contract of Decimal's unpacking (64 bits). -/
namespace Go.Proofs.YtgjjkopmoobilaaGreatDoor
open Go.RowKit
open M
set_option linter.unusedVariables false
set_option linter.unusedSimpArgs false

/-- The text begins with the bits of n values h by Decimal, at the scale p. -/
def LayM64 (R : List Bool) (n p : Nat) (h : Nat → Nat) : Prop := (∀ i, i < n → h i < 18446744073709551616) ∧ (F64.bs h n 22).1 = p ∧ ∃ r, R = F64.dm 64 h n ++ r

/-- i of n values are told. -/
structure Ud64 (w wr : World) (b : Nat) (s : ByteArray) (g7 p gl gb n i a : Nat) (e : Int) (k : Int) (f : Nat → Nat) (z : Nat → Bool) : Prop where
  nb : NB64 wr gl gb n f z
  rd : Rd wr b 0 s a e
  bel : Below b w wr
  sc : Sc64 wr g7 p
  rng : ∀ j, j < n → f j < 18446744073709551616
  full : ∀ h, LayM64 (rb s) n p h → e = 0 ∧ (-999999999999999 ≤ k ∧ k ≤ 999999999999999) ∧ (∃ r, (rb s).drop a = F64.wb p h i (n - i) k ++ r) ∧ (∀ j, j < i → f j = h j) ∧ (∀ j, j < n → z j = !(F64.wh p (h j)).isSome) ∧ ∀ j, i ≤ j → j < n → z j = true → f j = h j

theorem NB64.owns {w : World} {gl gb n : Nat} {f : Nat → Nat} {z : Nat → Bool} {B : Nat} (h : NB64 w gl gb n f z) (hB : B ≤ gl) (hn : n ≤ 4096) : w.ownsRow B 39 1 (.slice (some ⟨gl, 0, none⟩) n n) n (valsV64 n f) :=
  UW64.owns (g := gl) ⟨fun i hi => by rw [h.l i hi, if_pos hi], h.fl, h.bl⟩ hB hn

set_option maxRecDepth 100000 in
set_option maxHeartbeats 2000000 in
theorem unpackDecimal64_any (v : Value) (bs : List Nat) (n : Nat) (w : World) (h : IsBy w v bs) (hb : ∀ n ∈ bs, n < 256) (hl : bs.length ≤ 1000000000000) (hn : n ≤ 4096) :
    Calls Tryz.prog 44 #[v, .int .i64 n] w (UnEnd64 (fun f => some (F64.dm 64 f n)) bs n w) := by
  have H := hide h
  have HB := hide hb
  have HL := hide hl
  have HSA := hide (fun (p : Nat) (w : World) (hp : p ≤ 1000) => scaleAt64_any p w hp)
  have HVO := hide (fun (p : Nat) (k : Int) (w : World) => valueOf64_any p k w)
  unfold scV64 at HSA HVO
  clear h hb hl
  go_enter Tryz.func44, Tryz.ntmps44
  go_wp2_with fail
  refine (from_by w v bs H.out).mono ?_
  rintro e w1 ⟨rfl, hw1⟩
  obtain ⟨b, hbw⟩ : ∃ b, w.heap.size = b := ⟨_, rfl⟩
  have HR : Hid (Rd w1 b 0 (strOf bs) 0 0 ∧ w1.heap.size = b + 1 ∧ Below b w w1) := by
    rw [hw1, ← hbw]; exact ⟨rd_new w bs HL.out, by simp, (Below.refl _ _).alloc (Nat.le_refl _) _⟩
  have HBW := hide hbw
  have HU : Hid (∀ h, LayC64 (fun f => some (F64.dm 64 f n)) bs n h → 0 < n → ∀ p, (F64.bs h n 22).1 = p → LayM64 (rb (strOf bs)) n p h) := fun h hL h0 p hp => by
    obtain ⟨l, r, q1, q2⟩ := hL.2.2 h0
    simp only [Option.some.injEq] at q1
    exact ⟨hL.1, hp, r, by rw [rb_strOf bs HB.out, q1]; exact q2⟩
  rw [hbw]
  clear hw1 hbw
  go_wp2_with fail
  refine (hk_bits b 0 (strOf bs) 0 5 0 w1 HR.out.1 (by omega)).mono ?_
  rintro e w2 ⟨p, a2, e2, rfl, hp, T2⟩
  have hp32 : p < 32 := hp
  have HT2 := hide T2
  have hs2 : b + 1 ≤ w2.heap.size := by have := T2.only.size; have := HR.out.2.1; omega
  clear hp T2
  have HCP : Hid (∀ h r, (∀ i, i < n → h i < 18446744073709551616) → rb (strOf bs) = F64.dm 64 h n ++ r → (F64.bs h n 22).1 = p ∧ Cp64 (strOf bs) a2 e2 n p h (F64.wb p h 0 n 0 ++ r)) := fun h r hr hB => by
    have q0 : (rb (strOf bs)).drop 0 = bitsOf (F64.bs h n 22).1 5 ++ (varB (F64.cnt (F64.bs h n 22).1 h 0 n) ++ (F64.nt 64 (F64.bs h n 22).1 h 0 n 0 ++ (F64.wb (F64.bs h n 22).1 h 0 n 0 ++ r))) := by
      rw [List.drop_zero, hB]
      unfold Dm.dm
      rw [show F64.mostP = 22 from rfl]
      simp only [List.append_assoc]
    have q1 := F64.bs_le h n 22
    obtain ⟨q2, q3, q4⟩ := HT2.out.drop rfl _ _ (show (F64.bs h n 22).1 < 2 ^ 5 by omega) q0
    rw [← q2] at q4
    exact ⟨q2.symm, q3, hr, q4⟩
  have r0 : IntKind.i64.wrap (p : Int) = (p : Int) := by rw [IntKind.wrap_i64]; omega
  go_wp2_with fail
  refine (HSA.out p w2 (by omega)).mono ?_
  rintro e w3 ⟨rfl, B3⟩
  obtain ⟨P, hP⟩ : ∃ P, F64.pow p = P := ⟨_, rfl⟩
  rw [hP]
  obtain ⟨g7, hg7⟩ : ∃ g7, w3.heap.size = g7 := ⟨_, rfl⟩
  obtain ⟨W4, hW4⟩ : ∃ W4, W4 = w3.alloc (.cells #[.int .i64 (p : Int), .int .u64 (P : Int)] 103) := ⟨_, rfl⟩
  have H4 : Hid (Sc64 W4 g7 p ∧ Below b w W4 ∧ Rd W4 b 0 (strOf bs) a2 e2 ∧ b < g7 ∧ W4.heap.size = g7 + 1) := by
    have hA : Below g7 w3 W4 := by rw [hW4, ← hg7]; exact (Below.refl _ w3).alloc (Nat.le_refl _) _
    have hs3 := B3.size
    have hBB : Below w2.heap.size w2 W4 := B3.trans (hA.mono (by omega))
    exact ⟨⟨by rw [hW4, ← hg7, hP]; exact heap_alloc_new w3 _⟩, (HR.out.2.2.trans (HT2.out.only.below (Nat.le_refl _) (by have := HR.out.2.1; omega))).trans (hBB.mono (by omega)), HT2.out.rd.below hBB (by omega), by omega, by rw [hW4, ← hg7]; simp⟩
  have HP := hide hP
  clear B3 hP
  go_upto_region 3 with fail
  (try rw [hg7])
  (try rw [← hW4])
  clear hW4 hg7 hs2
  go_wp2_with fail
  refine (takeNothings64_any b (strOf bs) a2 n e2 W4 H4.out.2.2.1 hn (by have := H4.out.2.2.2; omega)).mono ?_
  rintro e w5 hT
  rcases hT with ⟨rfl, B5, hno, hem⟩ | ⟨gl, gb, i0, a5, e5, f, z, rfl, hTn, hgl, hgb, hi0⟩
  · have HFIN : Hid (UnEnd64 (fun f => some (F64.dm 64 f n)) bs n w (.returned (.tuple #[.slice none 0 0, .int .i64 83])) w5) := by
      refine .inl ⟨83, by decide, rfl, by rw [HBW.out]; exact H4.out.2.1.trans B5, fun h hL => ?_⟩
      by_cases h0 : n = 0
      · exact hem ⟨h0, by rw [hL.2.1 h0]; rfl⟩
      · obtain ⟨q1, q2, r, q3⟩ := HU.out h hL (by omega) _ rfl
        obtain ⟨q4, q5⟩ := HCP.out h r q1 q3
        exact hno p h _ q5
    clear B5 hno hem
    go_wp2_with fail
    go_ret2
    exact HFIN.out
  · have HGL : Hid (b < gl ∧ b < gb ∧ g7 < gl ∧ g7 < gb ∧ b < g7) := by have := H4.out.2.2.2; exact ⟨by omega, by omega, by omega, by omega, by omega⟩
    have HST : Hid (Ud64 w w5 b (strOf bs) g7 p gl gb n 0 a5 e5 0 f z) := by
      have h4 := H4.out
      refine ⟨hTn.nb, hTn.rd, h4.2.1.trans hTn.bel, ⟨by rw [hTn.oth g7 (by omega) (by omega)]; exact h4.1.row⟩, hTn.rng, fun h hL => ?_⟩
      obtain ⟨q1, q2, r, q3⟩ := hL
      obtain ⟨q4, q5⟩ := HCP.out h r q1 q3
      obtain ⟨t1, t2, t3, t4, t5⟩ := hTn.full p h _ q5
      obtain ⟨t6, t7⟩ := F64.nt_none 64 p h i0 (n - i0) 0 t2.symm
      rw [t6, List.nil_append] at t3
      refine ⟨t1, by omega, ⟨r, by rw [t3, Nat.sub_zero]⟩, fun j hj => by omega, fun j hj => ?_, fun j _ hj hz => ?_⟩
      · by_cases e : j < i0
        · exact (t4 j e).1
        · rw [t5 j (by omega), t7 j (by omega) (by omega)]; rfl
      · by_cases e : j < i0
        · exact (t4 j e).2 hz
        · rw [t5 j (by omega)] at hz; cases hz
    have HGE : Hid (W4.heap.size ≤ gl) := hgl
    clear hTn hgl hgb hi0
    go_wp2_with fail
    go_loopw [11, 30] (fun t11 t30 wr => ∃ (i a : Nat) (e k : Int) (f : Nat → Nat), t30 = .int .i64 (i : Int) ∧ t11 = .int .i64 k ∧ Hid (i ≤ n ∧ (-9223372036854775808 ≤ k ∧ k ≤ 9223372036854775807) ∧ Ud64 w wr b (strOf bs) g7 p gl gb n i a e k f z)) (fun _ t30 _ => n - (intOf t30).toNat)
    case atStart => exact ⟨0, a5, e5, 0, f, rfl, rfl, Nat.zero_le _, by omega, HST.out⟩
    case round =>
      obtain ⟨i, a, e, k, f, rfl, rfl, hI⟩ := hrel
      by_cases hlt : i < n
      · have cb := hI.out.2.2.nb.b i hlt
        cases hz : z i with
        | true =>
          rw [hz] at cb
          have HNX : Hid (Ud64 w wr b (strOf bs) g7 p gl gb n (i + 1) a e k f z) := by
            have D := hI.out.2.2
            refine ⟨D.nb, D.rd, D.bel, D.sc, D.rng, fun h hL => ?_⟩
            obtain ⟨q1, q2, ⟨r, q3⟩, q4, q5, q6⟩ := D.full h hL
            have hwn : F64.wh p (h i) = none := by
              have := q5 i hlt
              rw [hz] at this
              cases hw : F64.wh p (h i) with
              | none => rfl
              | some x => rw [hw] at this; cases this
            rw [show n - i = (n - (i + 1)) + 1 from by omega, Dm.wb, hwn] at q3
            refine ⟨q1, q2, ⟨r, q3⟩, fun j hj => ?_, q5, fun j h1 h2 h3 => q6 j (by omega) h2 h3⟩
            by_cases e : j = i
            · rw [e]; exact q6 i (Nat.le_refl _) hlt hz
            · exact q4 j (by omega)
          have HKR := hide hI.out.2.1
          clear hz hI
          go_wp2_with fail
          go_roundw
          case rel => exact ⟨i + 1, a, e, k, f, by simp, by simp, hlt, HKR.out, HNX.out⟩
          case measure => simp [intOf]; omega
        | false =>
          rw [hz] at cb
          have HZ := hide hz
          clear hz
          go_wp2_with fail
          refine (hk_zig b 0 (strOf bs) a e wr hI.out.2.2.rd).mono ?_
          rintro e' w6 ⟨y, a6, e6, rfl, hy, T6⟩
          have HT6 := hide T6
          obtain ⟨k', hk', hkr⟩ : ∃ k', wrap64 (k + y) = k' ∧ (-9223372036854775808 ≤ k' ∧ k' ≤ 9223372036854775807) := ⟨_, rfl, by unfold wrap64; omega⟩
          have HKE : Hid (-9223372036854775808 ≤ k + y ∧ k + y ≤ 9223372036854775807 → k' = k + y) := fun hh => by rw [← hk']; unfold wrap64; omega
          have hk2 : IntKind.i64.wrap (k + y) = k' := by rw [← hk', IntKind.wrap_i64]; unfold wrap64; omega
          have HNB : Hid (NB64 w6 gl gb n f z ∧ Sc64 w6 g7 p ∧ Below b w w6) := by
            have D := hI.out.2.2
            have O := T6.only
            have hh := HGL.out
            have hl7 := D.sc.lt
            exact ⟨D.nb.keep (O.block gl D.nb.ll (by omega)) (O.block gb D.nb.lb (by omega)) O.size, ⟨by rw [O.block g7 hl7 (by omega)]; exact D.sc.row⟩, D.bel.trans (O.below (Nat.le_refl _) (by omega))⟩
          have HKR := hide hkr
          have c0 := HNB.out.2.1.c0
          have c1 := HNB.out.2.1.c1
          rw [HP.out] at c1
          have HV := hide (HVO.out p k' w6)
          rw [HP.out] at HV
          obtain ⟨x, hx⟩ : ∃ x, F64.val p k' = x := ⟨_, rfl⟩
          have hxM : x < 18446744073709551616 := by rw [← hx]; exact F64_div_lt _ _
          rw [hx] at HV
          have HX := hide hx
          clear T6 hkr hx
          go_wp2_with fail
          refine HV.out.mono ?_
          rintro e' w7 ⟨rfl, B7⟩
          have HN7 : Hid (NB64 w7 gl gb n f z ∧ Sc64 w7 g7 p ∧ Below b w w7 ∧ Rd w7 b 0 (strOf bs) a6 e6) := by
            have N := HNB.out
            have hh := HGL.out
            have hl7 := N.2.1.lt
            exact ⟨N.1.keep (B7.block gl N.1.ll) (B7.block gb N.1.lb) B7.size, N.2.1.below B7 hl7, N.2.2.trans (B7.mono (by omega)), HT6.out.rd.below B7 (by omega)⟩
          clear B7 c0 c1
          have d1 := HN7.out.1.l i hlt
          have d2 := HN7.out.1.fl i
          have HNX : Hid (Ud64 w (w7.setCell ⟨gl, i, none⟩ (.int .u64 (x : Int))) b (strOf bs) g7 p gl gb n (i + 1) a6 e6 k' (fun j => if j = i then x else f j) z) := by
            have D := hI.out.2.2
            have hh := HGL.out
            refine ⟨HN7.out.1.setL i x hlt, HN7.out.2.2.2.setOther' gl _ (by omega) _, HN7.out.2.2.1.setCell (p := ⟨gl, i, none⟩) (show b ≤ gl by omega) _, ⟨by rw [Below.heap_setCell _ _ _ _ (show g7 ≠ gl by omega)]; exact HN7.out.2.1.row⟩, fun j hj => ?_, fun h hL => ?_⟩
            · by_cases e : j = i
              · simp only [e, if_true]; exact hxM
              · simp only [e, if_false]; exact D.rng j hj
            · obtain ⟨q1, q2, ⟨r, q3⟩, q4, q5, q6⟩ := D.full h hL
              obtain ⟨kk, hkk⟩ : ∃ kk, F64.wh p (h i) = some kk := by
                have := q5 i hlt
                rw [HZ.out] at this
                cases hw : F64.wh p (h i) with
                | none => rw [hw] at this; cases this
                | some x => exact ⟨x, rfl⟩
              have hkv := F64.wh_val hkk
              have hkm : -999999999999999 ≤ kk ∧ kk ≤ 999999999999999 := hkv.2
              rw [show n - i = (n - (i + 1)) + 1 from by omega, Dm.wb, hkk] at q3
              simp only [List.append_assoc] at q3
              obtain ⟨t1, t2, t3⟩ := HT6.out.drop q1 (kk - k) _ (show _ ∧ _ by omega) q3
              have hke : k' = kk := by
                have := HKE.out (by rw [t1]; omega)
                rw [this, t1]; omega
              refine ⟨t2, by rw [hke]; exact hkm, ⟨r, by rw [hke]; exact t3⟩, fun j hj => ?_, q5, fun j h1 h2 h3 => ?_⟩
              · by_cases e : j = i
                · simp only [e, if_true]; rw [← HX.out, hke]; exact hkv.1
                · simp only [e, if_false]; exact q4 j (by omega)
              · simp only [show j ≠ i by omega, if_false]; exact q6 j (by omega) h2 h3
          clear hI
          go_wp2_with fail
          go_roundw
          case rel => exact ⟨i + 1, a6, e6, k', _, by simp, by simp, hlt, HKR.out, HNX.out⟩
          case measure => simp [intOf]; omega
      · have hi : i = n := by have := hI.out.1; omega
        have hI' : Hid (Ud64 w wr b (strOf bs) g7 p gl gb n n a e k f z) := by have := hI.out.2.2; rw [hi] at this; exact this
        clear hI
        go_wp2_with fail
        go_ret2
        refine .inr ⟨_, f, rfl, ⟨hI'.out.nb.owns (by have := HGE.out; have := HBW.out; have := H4.out.2.2.2; omega) hn, (by rw [HBW.out]; exact hI'.out.bel), Nat.le_refl _⟩, hI'.out.rng, fun h hL j hj => ?_⟩
        have hLM := HU.out h hL (by omega) _ rfl
        obtain ⟨q1, q2, r, q3⟩ := hLM
        have hp := (HCP.out h r q1 q3).1
        exact (hI'.out.full h ⟨q1, hp, r, q3⟩).2.2.2.1 j hj

end Go.Proofs.YtgjjkopmoobilaaGreatDoor

/- The bits of a column by Dict. Plain mathematics. -/
namespace Go.Proofs.YtgjjkopmoobilaaGreatDoor
open M
set_option linter.unusedVariables false

/-- The unlike values of the first n, in the order in which each comes first. -/
def uq (f : Nat → Nat) : Nat → List Nat
  | 0 => []
  | n + 1 => if f n ∈ uq f n then uq f n else uq f n ++ [f n]

theorem uq_congr (f g : Nat → Nat) (n : Nat) (h : ∀ i, i < n → f i = g i) : uq f n = uq g n := by
  induction n with
  | zero => rfl
  | succ n ih => rw [uq, uq, ih fun i hi => h i (by omega), h n (by omega)]

theorem uq_len (f : Nat → Nat) (n : Nat) : (uq f n).length ≤ n := by
  induction n with
  | zero => exact Nat.le_refl _
  | succ n ih =>
    rw [uq]
    split
    · omega
    · simp; omega

theorem uq_mono (f : Nat → Nat) (v n : Nat) (h : v ∈ uq f n) : v ∈ uq f (n + 1) := by
  rw [uq]; split
  · exact h
  · exact List.mem_append_left _ h

theorem uq_mem (f : Nat → Nat) (i n : Nat) (h : i < n) : f i ∈ uq f n := by
  induction n with
  | zero => omega
  | succ n ih =>
    by_cases e : i = n
    · subst e; rw [uq]; split
      · assumption
      · simp
    · exact uq_mono f _ n (ih (by omega))

theorem uq_pos (f : Nat → Nat) (n : Nat) (h : 0 < n) : 0 < (uq f n).length := List.length_pos_of_mem (uq_mem f 0 n h)

theorem uq_of (f : Nat → Nat) (v n : Nat) (h : v ∈ uq f n) : ∃ i, i < n ∧ f i = v := by
  induction n with
  | zero => simp [uq] at h
  | succ n ih =>
    rw [uq] at h
    split at h
    · obtain ⟨i, h1, h2⟩ := ih h
      exact ⟨i, by omega, h2⟩
    · rcases List.mem_append.1 h with h | h
      · obtain ⟨i, h1, h2⟩ := ih h
        exact ⟨i, by omega, h2⟩
      · simp at h
        exact ⟨n, by omega, h.symm⟩

theorem uq_lt (f : Nat → Nat) (M n : Nat) (hf : ∀ i, i < n → f i < M) (v : Nat) (h : v ∈ uq f n) : v < M := by
  obtain ⟨i, h1, h2⟩ := uq_of f v n h
  rw [← h2]; exact hf i h1

/-- Values of W bits, one behind the other. -/
def plL (W : Nat) : List Nat → List Bool
  | [] => []
  | v :: t => bitsOf v W ++ plL W t

theorem plL_append (W : Nat) (a b : List Nat) : plL W (a ++ b) = plL W a ++ plL W b := by
  induction a with
  | nil => rfl
  | cons v t ih => rw [List.cons_append, plL, plL, ih, List.append_assoc]

theorem plL_length (W : Nat) (a : List Nat) : (plL W a).length = W * a.length := by
  induction a with
  | nil => rfl
  | cons v t ih => rw [plL, List.length_append, ih, bitsOf_length, List.length_cons, Nat.mul_succ]; omega

/-- The places of the first n values, of p bits each. -/
def pcB (U : List Nat) (p : Nat) (f : Nat → Nat) : Nat → List Bool
  | 0 => []
  | n + 1 => pcB U p f n ++ bitsOf (U.idxOf (f n)) p

theorem pcB_length (U : List Nat) (p : Nat) (f : Nat → Nat) (n : Nat) : (pcB U p f n).length = p * n := by
  induction n with
  | zero => rfl
  | succ n ih => rw [pcB, List.length_append, ih, bitsOf_length, Nat.mul_succ]

theorem pcB_congr (U : List Nat) (p : Nat) (f g : Nat → Nat) (n : Nat) (h : ∀ i, i < n → f i = g i) : pcB U p f n = pcB U p g n := by
  induction n with
  | zero => rfl
  | succ n ih => rw [pcB, pcB, ih fun i hi => h i (by omega), h n (by omega)]

/-- The bits of a column by Dict, if it has so few unlike values. -/
def dcB (W : Nat) (f : Nat → Nat) (n : Nat) : List Bool :=
  bitsOf ((uq f n).length - 1) 8 ++ plL W (uq f n) ++ pcB (uq f n) (bitLen ((uq f n).length - 1)) f n

theorem dcB_congr (W : Nat) (f g : Nat → Nat) (n : Nat) (h : ∀ i, i < n → f i = g i) : dcB W f n = dcB W g n := by
  rw [dcB, dcB, uq_congr f g n h, pcB_congr _ _ f g n h]

/-- The places of m values from k on. -/
def pcF (U : List Nat) (p : Nat) (f : Nat → Nat) : Nat → Nat → List Bool
  | _, 0 => []
  | k, m + 1 => bitsOf (U.idxOf (f k)) p ++ pcF U p f (k + 1) m

theorem pcF_end (U : List Nat) (p : Nat) (f : Nat → Nat) (k m : Nat) : pcF U p f k (m + 1) = pcF U p f k m ++ bitsOf (U.idxOf (f (k + m))) p := by
  induction m generalizing k with
  | zero => simp [pcF]
  | succ m ih => rw [pcF, ih (k + 1), pcF, List.append_assoc, show k + 1 + m = k + (m + 1) from by omega]

theorem pcB_pcF (U : List Nat) (p : Nat) (f : Nat → Nat) (n : Nat) : pcB U p f n = pcF U p f 0 n := by
  induction n with
  | zero => rfl
  | succ n ih => rw [pcB, pcF_end, ih, Nat.zero_add]

/-- The coding's bits where it takes the column. -/
def dcO (W : Nat) (f : Nat → Nat) (n : Nat) : Option (List Bool) := if (uq f n).length ≤ 256 then some (dcB W f n) else none

end Go.Proofs.YtgjjkopmoobilaaGreatDoor

/- A map of whole numbers that the call makes by a literal: each entry put, one looked up (whatever its elements are). -/
namespace Go.Proofs.YtgjjkopmoobilaaGreatDoor
open Go.RowKit
set_option linter.unusedVariables false
set_option linter.unusedSimpArgs false

theorem run_put {P : Program} {w : World} (mty kt et : TypeId) (r clock : Nat) (es : Array MapEntry) (k : Int) (val : Value) (hm : P.underlying mty = some (.map kt et)) (hk : P.underlying kt = some (.int .i64)) (hb : w.heap[r]? = some (.map es clock))
    (hf : Instr.findNow (.int .i64) (.int .i64 k) es.toList 0 = some none) :
    (Instr.mapUpdate mty (.map (some r)) (.int .i64 k) val).run P w = .ok () { w with heap := w.heap.setIfInBounds r (.map (es.push { key := .int .i64 k, val := val, born := clock }) (clock + 1)) } := by
  have hc : (Instr.checkKey false 10000 kt (.int .i64 k)).run P w = .ok () w := MapKept.run_checkKey (k := .int .i64 k) hk (by simp [MapKept.IsKey]) false 9999
  simp [Instr.mapUpdate, run_underlying hm, MapKept.run_getObj_map hb, hc, MapKept.run_findKey hk hf, MapKept.run_setObj_map _ hb, Result.andThen]

theorem run_get {P : Program} {w : World} (mty kt et : TypeId) (r clock : Nat) (es : Array MapEntry) (k : Int) (i : Nat) (val : Value) (hm : P.underlying mty = some (.map kt et)) (hk : P.underlying kt = some (.int .i64)) (hb : w.heap[r]? = some (.map es clock))
    (hf : Instr.findNow (.int .i64) (.int .i64 k) es.toList 0 = some (some (i, val))) :
    (Instr.lookup mty (.map (some r)) (.int .i64 k) true).run P w = .ok (.tuple #[val, .bool true]) w := by
  have hc : (Instr.checkKey es.isEmpty 10000 kt (.int .i64 k)).run P w = .ok () w := MapKept.run_checkKey (k := .int .i64 k) hk (by simp [MapKept.IsKey]) _ 9999
  simp [Instr.lookup, run_underlying hm, MapKept.run_getObj_map hb, hc, MapKept.run_findKey hk hf, Result.andThen]

theorem run_none {P : Program} {w : World} (mty kt et : TypeId) (r clock : Nat) (es : Array MapEntry) (k : Int) (z : Value) (hm : P.underlying mty = some (.map kt et)) (hk : P.underlying kt = some (.int .i64)) (hb : w.heap[r]? = some (.map es clock))
    (hf : Instr.findNow (.int .i64) (.int .i64 k) es.toList 0 = some none) (hz : (zeroValue et).run P w = .ok z w) :
    (Instr.lookup mty (.map (some r)) (.int .i64 k) true).run P w = .ok (.tuple #[z, .bool false]) w := by
  have hc : (Instr.checkKey es.isEmpty 10000 kt (.int .i64 k)).run P w = .ok () w := MapKept.run_checkKey (k := .int .i64 k) hk (by simp [MapKept.IsKey]) _ 9999
  simp [Instr.lookup, run_underlying hm, MapKept.run_getObj_map hb, hc, MapKept.run_findKey hk hf, Result.andThen, hz]

/-- One entry of a literal, at the operation. -/
theorem wpList_put {P : Program} (w : World) {ops : Array Oper} {rest : List Oper} {o : Oper} {a : Act} {Q : Exit → Act → World → Prop}
    (hg : o.guard = none) (m x v : Operand) (t : TypeId) (hop : o.op = Op.insert t m x v) (kt et : TypeId) (hm : P.underlying t = some (.map kt et)) (hk : P.underlying kt = some (.int .i64))
    (r clock : Nat) (es : Array MapEntry) (k : Int) (val : Value) (em : a.eval m = .map (some r)) (ex : a.eval x = .int .i64 k) (ev : a.eval v = val) (hb : w.heap[r]? = some (.map es clock)) (hf : Instr.findNow (.int .i64) (.int .i64 k) es.toList 0 = some none)
    (hK : ∀ w', w'.heap[r]? = some (.map (es.push { key := .int .i64 k, val := val, born := clock }) (clock + 1)) → (∀ B, B ≤ r → Below B w w') → wpList P ops Q rest (a.put o.dst undef) w') :
    wpList P ops Q (o :: rest) a w := by
  refine wpList_plain hg fun K' hK' => ?_
  have hrun := run_put (P := P) t kt et r clock es k val hm hk hb hf
  obtain ⟨h1, h2⟩ := MapKept.heap_set (o' := .map (es.push { key := .int .i64 k, val := val, born := clock }) (clock + 1)) hb
  unfold Oper.wp
  simp [execOp, hop, em, ex, ev, hrun, Result.andThen]
  exact hK' _ _ (hK _ h1 fun B hB => ⟨rfl, rfl, rfl, by simp, fun j hj => h2 j (by omega)⟩)

/-- A map made, at the operation. -/
theorem wpList_mkMap {P : Program} (w : World) {ops : Array Oper} {rest : List Oper} {o : Oper} {a : Act} {Q : Exit → Act → World → Prop}
    (hg : o.guard = none) (t : TypeId) (hop : o.op = Op.makeMap t none) (hK : wpList P ops Q rest (a.put o.dst (.map (some w.heap.size))) (w.alloc (.map #[] 0))) :
    wpList P ops Q (o :: rest) a w := by
  refine wpList_plain hg fun K' hK' => ?_
  have hrun := @run_makeMap P t w
  unfold Oper.wp
  simp [execOp, hop, hrun, Result.andThen]
  exact hK' _ _ hK

end Go.Proofs.YtgjjkopmoobilaaGreatDoor

namespace Go.Proofs.YtgjjkopmoobilaaGreatDoor
open Go.RowKit
set_option linter.unusedVariables false
set_option linter.unusedSimpArgs false

theorem run_putK {P : Program} {w : World} (kd : IntKind) (mty kt et : TypeId) (r clock : Nat) (es : Array MapEntry) (k : Int) (val : Value) (hm : P.underlying mty = some (.map kt et)) (hk : P.underlying kt = some (.int kd)) (hb : w.heap[r]? = some (.map es clock))
    (hf : Instr.findNow (.int kd) (.int kd k) es.toList 0 = some none) :
    (Instr.mapUpdate mty (.map (some r)) (.int kd k) val).run P w = .ok () { w with heap := w.heap.setIfInBounds r (.map (es.push { key := .int kd k, val := val, born := clock }) (clock + 1)) } := by
  have hc : (Instr.checkKey false 10000 kt (.int kd k)).run P w = .ok () w := MapKept.run_checkKey (k := .int kd k) hk (by simp [MapKept.IsKey]) false 9999
  simp [Instr.mapUpdate, run_underlying hm, MapKept.run_getObj_map hb, hc, MapKept.run_findKey hk hf, MapKept.run_setObj_map _ hb, Result.andThen]

theorem run_getK {P : Program} {w : World} (kd : IntKind) (mty kt et : TypeId) (r clock : Nat) (es : Array MapEntry) (k : Int) (i : Nat) (val : Value) (hm : P.underlying mty = some (.map kt et)) (hk : P.underlying kt = some (.int kd)) (hb : w.heap[r]? = some (.map es clock))
    (hf : Instr.findNow (.int kd) (.int kd k) es.toList 0 = some (some (i, val))) :
    (Instr.lookup mty (.map (some r)) (.int kd k) true).run P w = .ok (.tuple #[val, .bool true]) w ∧ (Instr.lookup mty (.map (some r)) (.int kd k) false).run P w = .ok val w := by
  have hc : (Instr.checkKey es.isEmpty 10000 kt (.int kd k)).run P w = .ok () w := MapKept.run_checkKey (k := .int kd k) hk (by simp [MapKept.IsKey]) _ 9999
  constructor <;> simp [Instr.lookup, run_underlying hm, MapKept.run_getObj_map hb, hc, MapKept.run_findKey hk hf, Result.andThen]

theorem run_noneK {P : Program} {w : World} (kd : IntKind) (mty kt et : TypeId) (r clock : Nat) (es : Array MapEntry) (k : Int) (z : Value) (hm : P.underlying mty = some (.map kt et)) (hk : P.underlying kt = some (.int kd)) (hb : w.heap[r]? = some (.map es clock))
    (hf : Instr.findNow (.int kd) (.int kd k) es.toList 0 = some none) (hz : (zeroValue et).run P w = .ok z w) :
    (Instr.lookup mty (.map (some r)) (.int kd k) true).run P w = .ok (.tuple #[z, .bool false]) w := by
  have hc : (Instr.checkKey es.isEmpty 10000 kt (.int kd k)).run P w = .ok () w := MapKept.run_checkKey (k := .int kd k) hk (by simp [MapKept.IsKey]) _ 9999
  simp [Instr.lookup, run_underlying hm, MapKept.run_getObj_map hb, hc, MapKept.run_findKey hk hf, Result.andThen, hz]

/-- The entries of a map from values to their places. -/
def entsK (kd : IntKind) : Nat → List Nat → List MapEntry
  | _, [] => []
  | j, v :: t => { key := .int kd (v : Int), val := .int .i64 (j : Int), born := j } :: entsK kd (j + 1) t

theorem entsK_append (kd : IntKind) (j : Nat) (U : List Nat) (v : Nat) : entsK kd j (U ++ [v]) = entsK kd j U ++ [{ key := .int kd (v : Int), val := .int .i64 ((j + U.length : Nat) : Int), born := j + U.length }] := by
  induction U generalizing j with
  | nil => simp [entsK]
  | cons u t ih => rw [List.cons_append, entsK, entsK, ih (j + 1), List.length_cons, show j + 1 + t.length = j + (t.length + 1) from by omega]; rfl

theorem find_in (kd : IntKind) (U : List Nat) (v : Nat) (hv : v ∈ U) (j i : Nat) : Instr.findNow (.int kd) (.int kd (v : Int)) (entsK kd j U) i = some (some (i + U.idxOf v, .int .i64 ((j + U.idxOf v : Nat) : Int))) := by
  induction U generalizing j i with
  | nil => simp at hv
  | cons u t ih =>
    by_cases e : u = v
    · subst e
      simp [entsK, Instr.findNow, Instr.sameNow]
    · have hb : ((v : Int) == (u : Int)) = false := by rw [beq_eq_false_iff_ne]; omega
      have ht : v ∈ t := by rcases List.mem_cons.1 hv with h | h
                            · exact absurd h.symm e
                            · exact h
      have hi : (u :: t).idxOf v = t.idxOf v + 1 := by rw [List.idxOf_cons, show (u == v) = false from by rw [beq_eq_false_iff_ne]; exact e]; rfl
      rw [entsK, Instr.findNow]
      simp only [Instr.sameNow, if_true, hb]
      rw [ih ht (j + 1) (i + 1), hi, show i + 1 + t.idxOf v = i + (t.idxOf v + 1) from by omega, show j + 1 + t.idxOf v = j + (t.idxOf v + 1) from by omega]

theorem find_out (kd : IntKind) (U : List Nat) (v : Nat) (hv : ¬ v ∈ U) (j i : Nat) : Instr.findNow (.int kd) (.int kd (v : Int)) (entsK kd j U) i = some none := by
  induction U generalizing j i with
  | nil => rfl
  | cons u t ih =>
    have hb : ((v : Int) == (u : Int)) = false := by
      rw [beq_eq_false_iff_ne]
      intro e
      exact hv (by rw [show v = u from by omega]; exact List.mem_cons_self)
    rw [entsK, Instr.findNow]
    simp only [Instr.sameNow, if_true, hb]
    exact ih (fun h => hv (List.mem_cons_of_mem _ h)) (j + 1) (i + 1)

end Go.Proofs.YtgjjkopmoobilaaGreatDoor

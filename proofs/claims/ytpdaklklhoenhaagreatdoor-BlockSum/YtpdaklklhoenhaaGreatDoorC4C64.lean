/- Best (64 bits). -/
import Derived.Test.YtpdaklklhoenhaaGreatDoorC1U64
import Derived.Test.YtpdaklklhoenhaaGreatDoorC3H64
import Derived.Test.YtpdaklklhoenhaaGreatDoorC2K64
import Derived.Test.YtpdaklklhoenhaaGreatDoorC2B64
import Derived.Test.YtpdaklklhoenhaaGreatDoorC1V64
import Derived.Lib.Bytes
/- A column's bits by a kind; Pack by any kind; bytes compared (64 bits). -/
namespace Go.Proofs.YtpdaklklhoenhaaGreatDoor
open Go.RowKit
open M
set_option linter.unusedVariables false
set_option linter.unusedSimpArgs false

/-- The bits of n values by a kind, if it takes them. -/
def codeO64 (k : Nat) (f : Nat → Nat) (n : Nat) : Option (List Bool) := match k with
  | 1 => some (plB 64 f n)
  | 2 => some (cbn 64 6 f n)
  | 3 => some (rnB 64 f n 0 n)
  | 4 => dcO 64 f n
  | 5 => some (stB 9223372036854775808 18446744073709551616 f n)
  | 6 => some (F64.dm 64 f n)
  | _ => none

/-- What Pack tells of some values. -/
def KindEnd64 (o : Option (List Bool)) (w : World) (e : Ending) (w' : World) : Prop := match o with
  | some l => RowEnd64 l w e w'
  | none => e = .returned (.tuple #[.slice none 0 0, .int .i64 82]) ∧ Below w.heap.size w w'

theorem xor_row64 {f : Nat → Nat} {n : Nat} {w : World} {e : Ending} {w' : World} (h : PackEnd64 f n w e w') (h0 : 0 < n) : RowEnd64 (cbn 64 6 f n) w e w' := h

theorem cPack64_some (k : Nat) (p : Option Addr) (n cap : Nat) (f : Nat → Nat) (w : World) (hk1 : 1 ≤ k) (hk6 : k ≤ 6) (h : URow64 w p n f) (h0 : 0 < n) (hn : n ≤ 4096) (hcap : n ≤ cap) (hf : ∀ i, i < n → f i < 18446744073709551616) (hT : Tab64 w) :
    Calls Tryz.prog 95 #[.int .i64 k, .slice p n cap] w (KindEnd64 (codeO64 k f n) w) := by
  obtain rfl | rfl | rfl | rfl | rfl | rfl : k = 1 ∨ k = 2 ∨ k = 3 ∨ k = 4 ∨ k = 5 ∨ k = 6 := by omega
  · refine (cPack64_1 p n cap w h0 hn (fun b s w' => RowEnd64 (plB 64 f n) w (.returned (.tuple #[b, s])) w') fun w1 B1 => ?_).mono ?_
    · refine (packPlain64_any p n cap f w1 (h.below B1) hn hcap hf).mono ?_
      rintro e w' ⟨g, L, h1, h2, rfl, h4, h5⟩
      exact ⟨_, _, rfl, g, L, h1, Nat.le_trans B1.size h2, rfl, h4, B1.trans (h5.mono B1.size)⟩
    · rintro e w' ⟨b, s, rfl, hq⟩
      exact hq
  · refine (cPack64_2 p n cap w h0 hn (fun b s w' => RowEnd64 (cbn 64 6 f n) w (.returned (.tuple #[b, s])) w') fun w1 B1 => ?_).mono ?_
    · refine (pack64_ok p n cap f w1 (h.below B1) hn hcap hf (hT.below B1)).mono ?_
      rintro e w' hE
      obtain ⟨g, L, h1, h2, rfl, h4, h5⟩ := xor_row64 hE h0
      exact ⟨_, _, rfl, g, L, h1, Nat.le_trans B1.size h2, rfl, h4, B1.trans (h5.mono B1.size)⟩
    · rintro e w' ⟨b, s, rfl, hq⟩
      exact hq
  · refine (cPack64_3 p n cap w h0 hn (fun b s w' => RowEnd64 (rnB 64 f n 0 n) w (.returned (.tuple #[b, s])) w') fun w1 B1 => ?_).mono ?_
    · refine (packRuns64_any p n cap f w1 (h.below B1) hn hcap hf).mono ?_
      rintro e w' ⟨g, L, h1, h2, rfl, h4, h5⟩
      exact ⟨_, _, rfl, g, L, h1, Nat.le_trans B1.size h2, rfl, h4, B1.trans (h5.mono B1.size)⟩
    · rintro e w' ⟨b, s, rfl, hq⟩
      exact hq
  · refine (cPack64_4 p n cap w h0 hn (fun b s w' => KindEnd64 (dcO 64 f n) w (.returned (.tuple #[b, s])) w') fun w1 B1 => ?_).mono ?_
    · refine (packDict64_any p n cap f w1 (h.below B1) h0 hn hcap hf).mono ?_
      rintro e w' hE
      rcases hE with ⟨hu, rfl, hB⟩ | ⟨hu, g, L, h1, h2, rfl, h4, h5⟩
      · refine ⟨_, _, rfl, ?_⟩
        unfold dcO
        rw [if_neg (by omega)]
        exact ⟨rfl, B1.trans (hB.mono B1.size)⟩
      · refine ⟨_, _, rfl, ?_⟩
        unfold dcO
        rw [if_pos hu]
        exact ⟨g, L, h1, Nat.le_trans B1.size h2, rfl, h4, B1.trans (h5.mono B1.size)⟩
    · rintro e w' ⟨b, s, rfl, hq⟩
      exact hq
  · refine (cPack64_5 p n cap w h0 hn (fun b s w' => RowEnd64 (stB 9223372036854775808 18446744073709551616 f n) w (.returned (.tuple #[b, s])) w') fun w1 B1 => ?_).mono ?_
    · refine (packStride64_any p n cap f w1 (h.below B1) hn hcap hf).mono ?_
      rintro e w' ⟨g, L, h1, h2, rfl, h4, h5⟩
      exact ⟨_, _, rfl, g, L, h1, Nat.le_trans B1.size h2, rfl, h4, B1.trans (h5.mono B1.size)⟩
    · rintro e w' ⟨b, s, rfl, hq⟩
      exact hq
  · refine (cPack64_6 p n cap w h0 hn (fun b s w' => RowEnd64 (F64.dm 64 f n) w (.returned (.tuple #[b, s])) w') fun w1 B1 => ?_).mono ?_
    · refine (packDecimal64_any p n cap f w1 (h.below B1) hn hcap hf).mono ?_
      rintro e w' ⟨g, L, h1, h2, rfl, h4, h5⟩
      exact ⟨_, _, rfl, g, L, h1, Nat.le_trans B1.size h2, rfl, h4, B1.trans (h5.mono B1.size)⟩
    · rintro e w' ⟨b, s, rfl, hq⟩
      exact hq

theorem strOf_injC64 {a b : List Nat} (ha : ∀ n ∈ a, n < 256) (hb : ∀ n ∈ b, n < 256) (h : (strOf a).toList = (strOf b).toList) : a = b := by
  have h1 : (strOf a).data.toList = (strOf b).data.toList := by
    unfold strOf at h ⊢
    rw [Lib.strOfNums_toList, Lib.strOfNums_toList] at h
    exact h
  rw [← bytesN_strOf a ha, ← bytesN_strOf b hb]
  unfold bytesN
  rw [h1]

theorem bytesEqual64_any (v1 v2 : Value) (a b : List Nat) (w : World) (h1 : IsBy w v1 a) (h2 : IsBy w v2 b) (ha : ∀ n ∈ a, n < 256) (hb : ∀ n ∈ b, n < 256) :
    Calls Tryz.prog 105 #[v1, v2] w fun e w' => e = .returned (.bool (decide (a = b))) ∧ w' = w := by
  have hc1 := convert_by w v1 a h1
  have hc2 := convert_by w v2 b h2
  by_cases e : a = b
  · subst e
    rw [decide_eq_true rfl]
    clear h1 h2
    go_enter Tryz.func105, Tryz.ntmps105
    go_wp2_with fail
    go_ret
    exact ⟨by simp, rfl⟩
  · rw [decide_eq_false e]
    have hne : Hid (((strOf a).toList == (strOf b).toList) = false) := by show _ = _; rw [beq_eq_false_iff_ne]; exact fun h => e (strOf_injC64 ha hb h)
    generalize strOf a = sa at *
    generalize strOf b = sb at *
    clear h1 h2 e
    go_enter Tryz.func105, Tryz.ntmps105
    go_wp2_with fail
    go_ret
    exact ⟨by rw [← hne.out]; rfl, rfl⟩

theorem aheadOf_congr64 (f g : Nat → Nat) (v i k : Nat) (h : ∀ j, i ≤ j → j < i + k → f j = g j) : aheadOf f v i k = aheadOf g v i k := by
  induction k generalizing i with
  | zero => rfl
  | succ k ih => rw [aheadOf, aheadOf, h i (Nat.le_refl _) (by omega), ih (i + 1) fun j h1 h2 => h j (by omega) (by omega)]

theorem rnB_congr64 (f g : Nat → Nat) (u i k : Nat) (h : ∀ j, i ≤ j → j < i + k → f j = g j) : rnB 64 f u i k = rnB 64 g u i k := by
  induction u generalizing i k with
  | zero => rfl
  | succ u ih =>
    match k with
    | 0 => rfl
    | k + 1 =>
      have hle := aheadOf_le g (g i) i (k + 1)
      rw [rnB, rnB, h i (Nat.le_refl _) (by omega), aheadOf_congr64 f g (g i) i (k + 1) h, ih _ _ fun j h1 h2 => h j (by omega) (by omega)]

/-- The bytes are those of n values h by the kind k. -/
def PackIs64 (k n : Nat) (h : Nat → Nat) (bs : List Nat) : Prop := (∀ i, i < n → h i < 18446744073709551616) ∧ (n = 0 → bs = []) ∧ (0 < n → ∃ l, codeO64 k h n = some l ∧ packed l = bs)

theorem PackIs64.lay {k n : Nat} {h : Nat → Nat} {bs : List Nat} (H : PackIs64 k n h bs) : LayC64 (fun f => codeO64 k f n) bs n h := by
  refine ⟨H.1, H.2.1, fun h0 => ?_⟩
  obtain ⟨l, h1, h2⟩ := H.2.2 h0
  exact ⟨l, _, h1, by rw [← h2, rbits_packed]⟩

/-- What a taker tells, of a text that is a column's by a kind, or not. -/
def TakeK64 (k : Nat) (bs : List Nat) (n : Nat) (w : World) (e : Ending) (w' : World) : Prop :=
  (∃ c : Int, c ≠ 0 ∧ e = .returned (.tuple #[.slice none 0 0, .int .i64 c]) ∧ Below w.heap.size w w' ∧ ∀ h, PackIs64 k n h bs → False) ∨
  ∃ (v : Value) (f : Nat → Nat), e = .returned (.tuple #[v, .int .i64 0]) ∧ USt64 w.heap.size w f n v w' ∧ (∀ i, i < n → f i < 18446744073709551616) ∧ ∀ h, PackIs64 k n h bs → ∀ i, i < n → f i = h i

theorem takeK_of64 {k : Nat} {bs : List Nat} {n : Nat} {w : World} {e : Ending} {w' : World} {bf : (Nat → Nat) → Option (List Bool)} (hb : (fun f => codeO64 k f n) = bf) (h : UnEnd64 bf bs n w e w') : TakeK64 k bs n w e w' := by
  subst hb
  rcases h with ⟨c, h1, h2, h3, h4⟩ | ⟨v, f, h1, h2, h3, h4⟩
  · exact .inl ⟨c, h1, h2, h3, fun h hP => h4 h hP.lay⟩
  · exact .inr ⟨v, f, h1, h2, h3, fun h hP => h4 h hP.lay⟩

theorem takeK_xor64 {bs : List Nat} {n : Nat} {w : World} {e : Ending} {w' : World} (hn : n ≤ 4096) (h : UnpackEnd64 w bs n e w') : TakeK64 2 bs n w e w' := by
  have key : ∀ h, PackIs64 2 n h bs → Packs64 bs h n := fun h hP => by
    refine ⟨hP.1, ?_⟩
    by_cases h0 : n = 0
    · rw [hP.2.1 h0, h0]; exact List.eq_nil_of_length_eq_zero (by rw [packed_length]; simp [cbn])
    · obtain ⟨l, h1, h2⟩ := hP.2.2 (by omega)
      simp only [codeO64, Option.some.injEq] at h1
      rw [h1]; exact h2
  rcases h with ⟨h1, h2, h3⟩ | ⟨g, f, h1, h2, h3, h4, h5, h6⟩
  · exact .inl ⟨71, by decide, h1, h2, fun h hP => h3 ⟨h, key h hP⟩⟩
  · exact .inr ⟨_, f, h1, ⟨h3.owns h2 hn, h4, Nat.le_refl _⟩, h5.1, fun h hP => h6 h (begins_of64 (key h hP))⟩

/-- What Unpack tells. -/
def CUnEnd64 (k : Nat) (bs : List Nat) (n : Nat) (w : World) (e : Ending) (w' : World) : Prop :=
  (e = .returned (.tuple #[.slice none 0 0, .int .i64 83]) ∧ Below w.heap.size w w' ∧ ∀ h, PackIs64 k n h bs → False) ∨
  ∃ (v : Value) (f : Nat → Nat), e = .returned (.tuple #[v, .int .i64 0]) ∧ USt64 w.heap.size w f n v w' ∧ PackIs64 k n f bs ∧ ∀ h, PackIs64 k n h bs → ∀ i, i < n → f i = h i

theorem codeO64_congr (k : Nat) (f g : Nat → Nat) (n : Nat) (h : ∀ i, i < n → f i = g i) : codeO64 k f n = codeO64 k g n := by
  unfold codeO64
  split
  · rw [plB_congr 64 f g n h]
  · rw [cbn_congr 64 6 f g n h]
  · rw [rnB_congr64 f g n 0 n fun j _ hj => h j (by omega)]
  · unfold dcO; rw [uq_congr f g n h, dcB_congr 64 f g n h]
  · rw [stB_congr 9223372036854775808 18446744073709551616 f g n h]
  · rw [F64.dm_congr 64 f g n h]
  · rfl

theorem PackIs64.congr {k n : Nat} {f g : Nat → Nat} {bs : List Nat} (H : PackIs64 k n f bs) (h : ∀ i, i < n → f i = g i) : PackIs64 k n g bs :=
  ⟨fun i hi => by rw [← h i hi]; exact H.1 i hi, H.2.1, fun h0 => by
    obtain ⟨l, h1, h2⟩ := H.2.2 h0
    exact ⟨l, by rw [← codeO64_congr k f g n h]; exact h1, h2⟩⟩

end Go.Proofs.YtpdaklklhoenhaaGreatDoor

/- Unpack by any kind (64 bits). -/
namespace Go.Proofs.YtpdaklklhoenhaaGreatDoor
open Go.RowKit
open M
set_option linter.unusedVariables false
set_option linter.unusedSimpArgs false

/-- The answers of Pack of what a taker told. -/
def AgainEnd64 (k n : Nat) (f : Nat → Nat) (w : World) (e : Ending) (w' : World) : Prop :=
  (∃ (pu : Option Addr) (cu : Nat) (bs : List Nat), e = .returned (.tuple #[.slice pu bs.length cu, .int .i64 0]) ∧ IsBy w' (.slice pu bs.length cu) bs ∧ (∀ n ∈ bs, n < 256) ∧ Below w.heap.size w w' ∧ PackIs64 k n f bs ∧ ∀ bs', PackIs64 k n f bs' → bs' = bs) ∨
  (e = .returned (.tuple #[.slice none 0 0, .int .i64 82]) ∧ Below w.heap.size w w' ∧ ∀ bs, PackIs64 k n f bs → False)

theorem cAgain64 (k : Nat) (p : Option Addr) (n cap : Nat) (f : Nat → Nat) (w : World) (hk1 : 1 ≤ k) (hk6 : k ≤ 6) (h : URow64 w p n f) (hn : n ≤ 4096) (hcap : n ≤ cap) (hf : ∀ i, i < n → f i < 18446744073709551616) (hT : Tab64 w) :
    Calls Tryz.prog 95 #[.int .i64 k, .slice p n cap] w (AgainEnd64 k n f w) := by
  by_cases h0 : n = 0
  · subst h0
    refine (cPack64_empty k p cap w hk1 hk6).mono ?_
    rintro e w' ⟨rfl, hB⟩
    exact .inl ⟨none, 0, [], rfl, .inl (.inl ⟨rfl, rfl⟩), by simp, hB, ⟨hf, fun _ => rfl, fun h => by omega⟩, fun bs' hP => hP.2.1 rfl⟩
  · refine (cPack64_some k p n cap f w hk1 hk6 h (by omega) hn hcap hf hT).mono ?_
    intro e w' hE
    cases ho : codeO64 k f n with
    | none =>
      rw [ho] at hE
      obtain ⟨rfl, hB⟩ := hE
      refine .inr ⟨rfl, hB, fun bs hP => ?_⟩
      obtain ⟨l, h1, _⟩ := hP.2.2 (by omega)
      rw [ho] at h1; cases h1
    | some l =>
      rw [ho] at hE
      obtain ⟨g, L, h1, h2, rfl, h4, h5⟩ := hE
      subst h1
      refine .inl ⟨_, _, packed l, rfl, .inl (isBytes_row h4), packed_lt l, h5, ⟨hf, fun h => absurd h h0, fun _ => ⟨l, ho, rfl⟩⟩, fun bs' hP => ?_⟩
      obtain ⟨l', h1, h2⟩ := hP.2.2 (by omega)
      rw [ho] at h1
      cases h1
      exact h2.symm

set_option maxRecDepth 100000 in
theorem cUnpack64_1 (v : Value) (bs : List Nat) (n : Nat) (w : World) (hv : IsBy w v bs) (hb : ∀ n ∈ bs, n < 256) (hl : bs.length ≤ 1000000000000) (hn : n ≤ 4096) (hT : Tab64 w)
    (hcall : ∀ w1, Below w.heap.size w w1 → Calls Tryz.prog 119 #[v, .int .i64 n] w1 (TakeK64 1 bs n w1)) :
    Calls Tryz.prog 89 #[.int .i64 1, v, .int .i64 n] w (CUnEnd64 1 bs n w) := by
  have hf : Instr.findNow (.int .i64) (.int .i64 1) unpackersE64.toList 0 = some (some (0, .func (.func 119) #[] #[])) := by kernel_rfl
  have HV := hide hv
  have HBB := hide hb
  have HT := hide hT
  have HC := hide hcall
  have HAG := hide (fun p cap f w1 h1 h2 h3 h4 => cAgain64 1 p n cap f w1 (by omega) (by omega) h1 hn h2 h3 h4)
  clear hv hb hT hcall hl
  go_enter Tryz.func89, Tryz.ntmps89
  go_wp2_with fail
  refine (unpackers64_any w).mono ?_
  rintro e w1 ⟨rfl, b1, B1⟩
  have hlk := run_get (P := Tryz.prog) (w := w1) _ _ _ _ _ _ 1 _ _ Tryz.underlying163 Tryz.underlying3 b1 hf
  have HB1 := hide B1
  clear B1 b1 hf
  go_wp2_with fail
  refine (HC.out w1 HB1.out).mono ?_
  intro e w2 hE
  rcases hE with ⟨c, hc, rfl, B2, hno⟩ | ⟨u, f, rfl, hU, hr, hfull⟩
  · have hcn : (c != 0) = true := by rw [bne_iff_ne]; exact hc
    have HFIN : Hid (CUnEnd64 1 bs n w (.returned (.tuple #[.slice none 0 0, .int .i64 83])) w2) := .inl ⟨rfl, HB1.out.trans (B2.mono HB1.out.size), hno⟩
    clear hc B2 hno
    go_wp2_with fail
    go_ret2
    exact HFIN.out
  · obtain ⟨p, cap, rfl, hcap, hrow⟩ := hU.row
    have HU := hide hU
    have HRR := hide (And.intro hr hfull)
    have hB2 := hU.2.1
    have HB2 : Hid (Below w.heap.size w w2) := HB1.out.trans (hB2.mono HB1.out.size)
    have HAGN := hide (HAG.out p cap f w2 hrow hcap hr (HT.out.below HB2.out))
    clear hU hr hfull hrow hB2
    go_wp2_with fail
    refine HAGN.out.mono ?_
    intro e w3 hE
    rcases hE with ⟨px, cx, bx, rfl, hx, hbx, B3, hP, huq⟩ | ⟨rfl, B3, hno⟩
    · have HB3 : Hid (Below w.heap.size w w3) := HB2.out.trans (B3.mono HB2.out.size)
      have HEQ := hide (bytesEqual64_any (.slice px bx.length cx) v bx bs w3 hx (isBy_below HV.out HB3.out) hbx HBB.out)
      by_cases e : bx = bs
      · have HFIN : Hid (CUnEnd64 1 bs n w (.returned (.tuple #[.slice p n cap, .int .i64 0])) w3) := by
          refine .inr ⟨_, f, rfl, ?_, by rw [← e]; exact hP, HRR.out.2⟩
          have h1 := HU.out.1
          have h2 := HB1.out.size
          refine ⟨(ownsRow_keepC64 h1 fun g hg1 hg2 => B3.block g hg2).mono h2, HB3.out, Nat.le_refl _⟩
        rw [decide_eq_true e] at HEQ
        clear hx hbx B3 hP huq e
        go_wp2_with fail
        refine HEQ.out.mono ?_
        rintro e w4 ⟨rfl, h4⟩
        have h4 := h4.symm
        subst h4
        go_wp2_with fail
        go_ret2
        exact HFIN.out
      · have HFIN : Hid (CUnEnd64 1 bs n w (.returned (.tuple #[.slice none 0 0, .int .i64 83])) w3) := by
          refine .inl ⟨rfl, HB3.out, fun h hPh => e ?_⟩
          exact (huq bs (hPh.congr fun i hi => (HRR.out.2 h hPh i hi).symm)).symm
        rw [decide_eq_false e] at HEQ
        clear hx hbx B3 hP huq e
        go_wp2_with fail
        refine HEQ.out.mono ?_
        rintro e w4 ⟨rfl, h4⟩
        have h4 := h4.symm
        subst h4
        go_wp2_with fail
        go_ret2
        exact HFIN.out
    · have HFIN : Hid (CUnEnd64 1 bs n w (.returned (.tuple #[.slice none 0 0, .int .i64 83])) w3) := by
        refine .inl ⟨rfl, HB2.out.trans (B3.mono HB2.out.size), fun h hPh => ?_⟩
        exact hno bs (hPh.congr fun i hi => (HRR.out.2 h hPh i hi).symm)
      clear B3 hno
      go_wp2_with fail
      go_ret2
      exact HFIN.out

set_option maxRecDepth 100000 in
theorem cUnpack64_2 (v : Value) (bs : List Nat) (n : Nat) (w : World) (hv : IsBy w v bs) (hb : ∀ n ∈ bs, n < 256) (hl : bs.length ≤ 1000000000000) (hn : n ≤ 4096) (hT : Tab64 w)
    (hcall : ∀ w1, Below w.heap.size w w1 → Calls Tryz.prog 120 #[v, .int .i64 n] w1 (TakeK64 2 bs n w1)) :
    Calls Tryz.prog 89 #[.int .i64 2, v, .int .i64 n] w (CUnEnd64 2 bs n w) := by
  have hf : Instr.findNow (.int .i64) (.int .i64 2) unpackersE64.toList 0 = some (some (1, .func (.func 120) #[] #[])) := by kernel_rfl
  have HV := hide hv
  have HBB := hide hb
  have HT := hide hT
  have HC := hide hcall
  have HAG := hide (fun p cap f w1 h1 h2 h3 h4 => cAgain64 2 p n cap f w1 (by omega) (by omega) h1 hn h2 h3 h4)
  clear hv hb hT hcall hl
  go_enter Tryz.func89, Tryz.ntmps89
  go_wp2_with fail
  refine (unpackers64_any w).mono ?_
  rintro e w1 ⟨rfl, b1, B1⟩
  have hlk := run_get (P := Tryz.prog) (w := w1) _ _ _ _ _ _ 2 _ _ Tryz.underlying163 Tryz.underlying3 b1 hf
  have HB1 := hide B1
  clear B1 b1 hf
  go_wp2_with fail
  refine (HC.out w1 HB1.out).mono ?_
  intro e w2 hE
  rcases hE with ⟨c, hc, rfl, B2, hno⟩ | ⟨u, f, rfl, hU, hr, hfull⟩
  · have hcn : (c != 0) = true := by rw [bne_iff_ne]; exact hc
    have HFIN : Hid (CUnEnd64 2 bs n w (.returned (.tuple #[.slice none 0 0, .int .i64 83])) w2) := .inl ⟨rfl, HB1.out.trans (B2.mono HB1.out.size), hno⟩
    clear hc B2 hno
    go_wp2_with fail
    go_ret2
    exact HFIN.out
  · obtain ⟨p, cap, rfl, hcap, hrow⟩ := hU.row
    have HU := hide hU
    have HRR := hide (And.intro hr hfull)
    have hB2 := hU.2.1
    have HB2 : Hid (Below w.heap.size w w2) := HB1.out.trans (hB2.mono HB1.out.size)
    have HAGN := hide (HAG.out p cap f w2 hrow hcap hr (HT.out.below HB2.out))
    clear hU hr hfull hrow hB2
    go_wp2_with fail
    refine HAGN.out.mono ?_
    intro e w3 hE
    rcases hE with ⟨px, cx, bx, rfl, hx, hbx, B3, hP, huq⟩ | ⟨rfl, B3, hno⟩
    · have HB3 : Hid (Below w.heap.size w w3) := HB2.out.trans (B3.mono HB2.out.size)
      have HEQ := hide (bytesEqual64_any (.slice px bx.length cx) v bx bs w3 hx (isBy_below HV.out HB3.out) hbx HBB.out)
      by_cases e : bx = bs
      · have HFIN : Hid (CUnEnd64 2 bs n w (.returned (.tuple #[.slice p n cap, .int .i64 0])) w3) := by
          refine .inr ⟨_, f, rfl, ?_, by rw [← e]; exact hP, HRR.out.2⟩
          have h1 := HU.out.1
          have h2 := HB1.out.size
          refine ⟨(ownsRow_keepC64 h1 fun g hg1 hg2 => B3.block g hg2).mono h2, HB3.out, Nat.le_refl _⟩
        rw [decide_eq_true e] at HEQ
        clear hx hbx B3 hP huq e
        go_wp2_with fail
        refine HEQ.out.mono ?_
        rintro e w4 ⟨rfl, h4⟩
        have h4 := h4.symm
        subst h4
        go_wp2_with fail
        go_ret2
        exact HFIN.out
      · have HFIN : Hid (CUnEnd64 2 bs n w (.returned (.tuple #[.slice none 0 0, .int .i64 83])) w3) := by
          refine .inl ⟨rfl, HB3.out, fun h hPh => e ?_⟩
          exact (huq bs (hPh.congr fun i hi => (HRR.out.2 h hPh i hi).symm)).symm
        rw [decide_eq_false e] at HEQ
        clear hx hbx B3 hP huq e
        go_wp2_with fail
        refine HEQ.out.mono ?_
        rintro e w4 ⟨rfl, h4⟩
        have h4 := h4.symm
        subst h4
        go_wp2_with fail
        go_ret2
        exact HFIN.out
    · have HFIN : Hid (CUnEnd64 2 bs n w (.returned (.tuple #[.slice none 0 0, .int .i64 83])) w3) := by
        refine .inl ⟨rfl, HB2.out.trans (B3.mono HB2.out.size), fun h hPh => ?_⟩
        exact hno bs (hPh.congr fun i hi => (HRR.out.2 h hPh i hi).symm)
      clear B3 hno
      go_wp2_with fail
      go_ret2
      exact HFIN.out

set_option maxRecDepth 100000 in
theorem cUnpack64_3 (v : Value) (bs : List Nat) (n : Nat) (w : World) (hv : IsBy w v bs) (hb : ∀ n ∈ bs, n < 256) (hl : bs.length ≤ 1000000000000) (hn : n ≤ 4096) (hT : Tab64 w)
    (hcall : ∀ w1, Below w.heap.size w w1 → Calls Tryz.prog 121 #[v, .int .i64 n] w1 (TakeK64 3 bs n w1)) :
    Calls Tryz.prog 89 #[.int .i64 3, v, .int .i64 n] w (CUnEnd64 3 bs n w) := by
  have hf : Instr.findNow (.int .i64) (.int .i64 3) unpackersE64.toList 0 = some (some (2, .func (.func 121) #[] #[])) := by kernel_rfl
  have HV := hide hv
  have HBB := hide hb
  have HT := hide hT
  have HC := hide hcall
  have HAG := hide (fun p cap f w1 h1 h2 h3 h4 => cAgain64 3 p n cap f w1 (by omega) (by omega) h1 hn h2 h3 h4)
  clear hv hb hT hcall hl
  go_enter Tryz.func89, Tryz.ntmps89
  go_wp2_with fail
  refine (unpackers64_any w).mono ?_
  rintro e w1 ⟨rfl, b1, B1⟩
  have hlk := run_get (P := Tryz.prog) (w := w1) _ _ _ _ _ _ 3 _ _ Tryz.underlying163 Tryz.underlying3 b1 hf
  have HB1 := hide B1
  clear B1 b1 hf
  go_wp2_with fail
  refine (HC.out w1 HB1.out).mono ?_
  intro e w2 hE
  rcases hE with ⟨c, hc, rfl, B2, hno⟩ | ⟨u, f, rfl, hU, hr, hfull⟩
  · have hcn : (c != 0) = true := by rw [bne_iff_ne]; exact hc
    have HFIN : Hid (CUnEnd64 3 bs n w (.returned (.tuple #[.slice none 0 0, .int .i64 83])) w2) := .inl ⟨rfl, HB1.out.trans (B2.mono HB1.out.size), hno⟩
    clear hc B2 hno
    go_wp2_with fail
    go_ret2
    exact HFIN.out
  · obtain ⟨p, cap, rfl, hcap, hrow⟩ := hU.row
    have HU := hide hU
    have HRR := hide (And.intro hr hfull)
    have hB2 := hU.2.1
    have HB2 : Hid (Below w.heap.size w w2) := HB1.out.trans (hB2.mono HB1.out.size)
    have HAGN := hide (HAG.out p cap f w2 hrow hcap hr (HT.out.below HB2.out))
    clear hU hr hfull hrow hB2
    go_wp2_with fail
    refine HAGN.out.mono ?_
    intro e w3 hE
    rcases hE with ⟨px, cx, bx, rfl, hx, hbx, B3, hP, huq⟩ | ⟨rfl, B3, hno⟩
    · have HB3 : Hid (Below w.heap.size w w3) := HB2.out.trans (B3.mono HB2.out.size)
      have HEQ := hide (bytesEqual64_any (.slice px bx.length cx) v bx bs w3 hx (isBy_below HV.out HB3.out) hbx HBB.out)
      by_cases e : bx = bs
      · have HFIN : Hid (CUnEnd64 3 bs n w (.returned (.tuple #[.slice p n cap, .int .i64 0])) w3) := by
          refine .inr ⟨_, f, rfl, ?_, by rw [← e]; exact hP, HRR.out.2⟩
          have h1 := HU.out.1
          have h2 := HB1.out.size
          refine ⟨(ownsRow_keepC64 h1 fun g hg1 hg2 => B3.block g hg2).mono h2, HB3.out, Nat.le_refl _⟩
        rw [decide_eq_true e] at HEQ
        clear hx hbx B3 hP huq e
        go_wp2_with fail
        refine HEQ.out.mono ?_
        rintro e w4 ⟨rfl, h4⟩
        have h4 := h4.symm
        subst h4
        go_wp2_with fail
        go_ret2
        exact HFIN.out
      · have HFIN : Hid (CUnEnd64 3 bs n w (.returned (.tuple #[.slice none 0 0, .int .i64 83])) w3) := by
          refine .inl ⟨rfl, HB3.out, fun h hPh => e ?_⟩
          exact (huq bs (hPh.congr fun i hi => (HRR.out.2 h hPh i hi).symm)).symm
        rw [decide_eq_false e] at HEQ
        clear hx hbx B3 hP huq e
        go_wp2_with fail
        refine HEQ.out.mono ?_
        rintro e w4 ⟨rfl, h4⟩
        have h4 := h4.symm
        subst h4
        go_wp2_with fail
        go_ret2
        exact HFIN.out
    · have HFIN : Hid (CUnEnd64 3 bs n w (.returned (.tuple #[.slice none 0 0, .int .i64 83])) w3) := by
        refine .inl ⟨rfl, HB2.out.trans (B3.mono HB2.out.size), fun h hPh => ?_⟩
        exact hno bs (hPh.congr fun i hi => (HRR.out.2 h hPh i hi).symm)
      clear B3 hno
      go_wp2_with fail
      go_ret2
      exact HFIN.out

set_option maxRecDepth 100000 in
theorem cUnpack64_4 (v : Value) (bs : List Nat) (n : Nat) (w : World) (hv : IsBy w v bs) (hb : ∀ n ∈ bs, n < 256) (hl : bs.length ≤ 1000000000000) (hn : n ≤ 4096) (hT : Tab64 w)
    (hcall : ∀ w1, Below w.heap.size w w1 → Calls Tryz.prog 122 #[v, .int .i64 n] w1 (TakeK64 4 bs n w1)) :
    Calls Tryz.prog 89 #[.int .i64 4, v, .int .i64 n] w (CUnEnd64 4 bs n w) := by
  have hf : Instr.findNow (.int .i64) (.int .i64 4) unpackersE64.toList 0 = some (some (3, .func (.func 122) #[] #[])) := by kernel_rfl
  have HV := hide hv
  have HBB := hide hb
  have HT := hide hT
  have HC := hide hcall
  have HAG := hide (fun p cap f w1 h1 h2 h3 h4 => cAgain64 4 p n cap f w1 (by omega) (by omega) h1 hn h2 h3 h4)
  clear hv hb hT hcall hl
  go_enter Tryz.func89, Tryz.ntmps89
  go_wp2_with fail
  refine (unpackers64_any w).mono ?_
  rintro e w1 ⟨rfl, b1, B1⟩
  have hlk := run_get (P := Tryz.prog) (w := w1) _ _ _ _ _ _ 4 _ _ Tryz.underlying163 Tryz.underlying3 b1 hf
  have HB1 := hide B1
  clear B1 b1 hf
  go_wp2_with fail
  refine (HC.out w1 HB1.out).mono ?_
  intro e w2 hE
  rcases hE with ⟨c, hc, rfl, B2, hno⟩ | ⟨u, f, rfl, hU, hr, hfull⟩
  · have hcn : (c != 0) = true := by rw [bne_iff_ne]; exact hc
    have HFIN : Hid (CUnEnd64 4 bs n w (.returned (.tuple #[.slice none 0 0, .int .i64 83])) w2) := .inl ⟨rfl, HB1.out.trans (B2.mono HB1.out.size), hno⟩
    clear hc B2 hno
    go_wp2_with fail
    go_ret2
    exact HFIN.out
  · obtain ⟨p, cap, rfl, hcap, hrow⟩ := hU.row
    have HU := hide hU
    have HRR := hide (And.intro hr hfull)
    have hB2 := hU.2.1
    have HB2 : Hid (Below w.heap.size w w2) := HB1.out.trans (hB2.mono HB1.out.size)
    have HAGN := hide (HAG.out p cap f w2 hrow hcap hr (HT.out.below HB2.out))
    clear hU hr hfull hrow hB2
    go_wp2_with fail
    refine HAGN.out.mono ?_
    intro e w3 hE
    rcases hE with ⟨px, cx, bx, rfl, hx, hbx, B3, hP, huq⟩ | ⟨rfl, B3, hno⟩
    · have HB3 : Hid (Below w.heap.size w w3) := HB2.out.trans (B3.mono HB2.out.size)
      have HEQ := hide (bytesEqual64_any (.slice px bx.length cx) v bx bs w3 hx (isBy_below HV.out HB3.out) hbx HBB.out)
      by_cases e : bx = bs
      · have HFIN : Hid (CUnEnd64 4 bs n w (.returned (.tuple #[.slice p n cap, .int .i64 0])) w3) := by
          refine .inr ⟨_, f, rfl, ?_, by rw [← e]; exact hP, HRR.out.2⟩
          have h1 := HU.out.1
          have h2 := HB1.out.size
          refine ⟨(ownsRow_keepC64 h1 fun g hg1 hg2 => B3.block g hg2).mono h2, HB3.out, Nat.le_refl _⟩
        rw [decide_eq_true e] at HEQ
        clear hx hbx B3 hP huq e
        go_wp2_with fail
        refine HEQ.out.mono ?_
        rintro e w4 ⟨rfl, h4⟩
        have h4 := h4.symm
        subst h4
        go_wp2_with fail
        go_ret2
        exact HFIN.out
      · have HFIN : Hid (CUnEnd64 4 bs n w (.returned (.tuple #[.slice none 0 0, .int .i64 83])) w3) := by
          refine .inl ⟨rfl, HB3.out, fun h hPh => e ?_⟩
          exact (huq bs (hPh.congr fun i hi => (HRR.out.2 h hPh i hi).symm)).symm
        rw [decide_eq_false e] at HEQ
        clear hx hbx B3 hP huq e
        go_wp2_with fail
        refine HEQ.out.mono ?_
        rintro e w4 ⟨rfl, h4⟩
        have h4 := h4.symm
        subst h4
        go_wp2_with fail
        go_ret2
        exact HFIN.out
    · have HFIN : Hid (CUnEnd64 4 bs n w (.returned (.tuple #[.slice none 0 0, .int .i64 83])) w3) := by
        refine .inl ⟨rfl, HB2.out.trans (B3.mono HB2.out.size), fun h hPh => ?_⟩
        exact hno bs (hPh.congr fun i hi => (HRR.out.2 h hPh i hi).symm)
      clear B3 hno
      go_wp2_with fail
      go_ret2
      exact HFIN.out

set_option maxRecDepth 100000 in
theorem cUnpack64_5 (v : Value) (bs : List Nat) (n : Nat) (w : World) (hv : IsBy w v bs) (hb : ∀ n ∈ bs, n < 256) (hl : bs.length ≤ 1000000000000) (hn : n ≤ 4096) (hT : Tab64 w)
    (hcall : ∀ w1, Below w.heap.size w w1 → Calls Tryz.prog 123 #[v, .int .i64 n] w1 (TakeK64 5 bs n w1)) :
    Calls Tryz.prog 89 #[.int .i64 5, v, .int .i64 n] w (CUnEnd64 5 bs n w) := by
  have hf : Instr.findNow (.int .i64) (.int .i64 5) unpackersE64.toList 0 = some (some (4, .func (.func 123) #[] #[])) := by kernel_rfl
  have HV := hide hv
  have HBB := hide hb
  have HT := hide hT
  have HC := hide hcall
  have HAG := hide (fun p cap f w1 h1 h2 h3 h4 => cAgain64 5 p n cap f w1 (by omega) (by omega) h1 hn h2 h3 h4)
  clear hv hb hT hcall hl
  go_enter Tryz.func89, Tryz.ntmps89
  go_wp2_with fail
  refine (unpackers64_any w).mono ?_
  rintro e w1 ⟨rfl, b1, B1⟩
  have hlk := run_get (P := Tryz.prog) (w := w1) _ _ _ _ _ _ 5 _ _ Tryz.underlying163 Tryz.underlying3 b1 hf
  have HB1 := hide B1
  clear B1 b1 hf
  go_wp2_with fail
  refine (HC.out w1 HB1.out).mono ?_
  intro e w2 hE
  rcases hE with ⟨c, hc, rfl, B2, hno⟩ | ⟨u, f, rfl, hU, hr, hfull⟩
  · have hcn : (c != 0) = true := by rw [bne_iff_ne]; exact hc
    have HFIN : Hid (CUnEnd64 5 bs n w (.returned (.tuple #[.slice none 0 0, .int .i64 83])) w2) := .inl ⟨rfl, HB1.out.trans (B2.mono HB1.out.size), hno⟩
    clear hc B2 hno
    go_wp2_with fail
    go_ret2
    exact HFIN.out
  · obtain ⟨p, cap, rfl, hcap, hrow⟩ := hU.row
    have HU := hide hU
    have HRR := hide (And.intro hr hfull)
    have hB2 := hU.2.1
    have HB2 : Hid (Below w.heap.size w w2) := HB1.out.trans (hB2.mono HB1.out.size)
    have HAGN := hide (HAG.out p cap f w2 hrow hcap hr (HT.out.below HB2.out))
    clear hU hr hfull hrow hB2
    go_wp2_with fail
    refine HAGN.out.mono ?_
    intro e w3 hE
    rcases hE with ⟨px, cx, bx, rfl, hx, hbx, B3, hP, huq⟩ | ⟨rfl, B3, hno⟩
    · have HB3 : Hid (Below w.heap.size w w3) := HB2.out.trans (B3.mono HB2.out.size)
      have HEQ := hide (bytesEqual64_any (.slice px bx.length cx) v bx bs w3 hx (isBy_below HV.out HB3.out) hbx HBB.out)
      by_cases e : bx = bs
      · have HFIN : Hid (CUnEnd64 5 bs n w (.returned (.tuple #[.slice p n cap, .int .i64 0])) w3) := by
          refine .inr ⟨_, f, rfl, ?_, by rw [← e]; exact hP, HRR.out.2⟩
          have h1 := HU.out.1
          have h2 := HB1.out.size
          refine ⟨(ownsRow_keepC64 h1 fun g hg1 hg2 => B3.block g hg2).mono h2, HB3.out, Nat.le_refl _⟩
        rw [decide_eq_true e] at HEQ
        clear hx hbx B3 hP huq e
        go_wp2_with fail
        refine HEQ.out.mono ?_
        rintro e w4 ⟨rfl, h4⟩
        have h4 := h4.symm
        subst h4
        go_wp2_with fail
        go_ret2
        exact HFIN.out
      · have HFIN : Hid (CUnEnd64 5 bs n w (.returned (.tuple #[.slice none 0 0, .int .i64 83])) w3) := by
          refine .inl ⟨rfl, HB3.out, fun h hPh => e ?_⟩
          exact (huq bs (hPh.congr fun i hi => (HRR.out.2 h hPh i hi).symm)).symm
        rw [decide_eq_false e] at HEQ
        clear hx hbx B3 hP huq e
        go_wp2_with fail
        refine HEQ.out.mono ?_
        rintro e w4 ⟨rfl, h4⟩
        have h4 := h4.symm
        subst h4
        go_wp2_with fail
        go_ret2
        exact HFIN.out
    · have HFIN : Hid (CUnEnd64 5 bs n w (.returned (.tuple #[.slice none 0 0, .int .i64 83])) w3) := by
        refine .inl ⟨rfl, HB2.out.trans (B3.mono HB2.out.size), fun h hPh => ?_⟩
        exact hno bs (hPh.congr fun i hi => (HRR.out.2 h hPh i hi).symm)
      clear B3 hno
      go_wp2_with fail
      go_ret2
      exact HFIN.out

set_option maxRecDepth 100000 in
theorem cUnpack64_6 (v : Value) (bs : List Nat) (n : Nat) (w : World) (hv : IsBy w v bs) (hb : ∀ n ∈ bs, n < 256) (hl : bs.length ≤ 1000000000000) (hn : n ≤ 4096) (hT : Tab64 w)
    (hcall : ∀ w1, Below w.heap.size w w1 → Calls Tryz.prog 124 #[v, .int .i64 n] w1 (TakeK64 6 bs n w1)) :
    Calls Tryz.prog 89 #[.int .i64 6, v, .int .i64 n] w (CUnEnd64 6 bs n w) := by
  have hf : Instr.findNow (.int .i64) (.int .i64 6) unpackersE64.toList 0 = some (some (5, .func (.func 124) #[] #[])) := by kernel_rfl
  have HV := hide hv
  have HBB := hide hb
  have HT := hide hT
  have HC := hide hcall
  have HAG := hide (fun p cap f w1 h1 h2 h3 h4 => cAgain64 6 p n cap f w1 (by omega) (by omega) h1 hn h2 h3 h4)
  clear hv hb hT hcall hl
  go_enter Tryz.func89, Tryz.ntmps89
  go_wp2_with fail
  refine (unpackers64_any w).mono ?_
  rintro e w1 ⟨rfl, b1, B1⟩
  have hlk := run_get (P := Tryz.prog) (w := w1) _ _ _ _ _ _ 6 _ _ Tryz.underlying163 Tryz.underlying3 b1 hf
  have HB1 := hide B1
  clear B1 b1 hf
  go_wp2_with fail
  refine (HC.out w1 HB1.out).mono ?_
  intro e w2 hE
  rcases hE with ⟨c, hc, rfl, B2, hno⟩ | ⟨u, f, rfl, hU, hr, hfull⟩
  · have hcn : (c != 0) = true := by rw [bne_iff_ne]; exact hc
    have HFIN : Hid (CUnEnd64 6 bs n w (.returned (.tuple #[.slice none 0 0, .int .i64 83])) w2) := .inl ⟨rfl, HB1.out.trans (B2.mono HB1.out.size), hno⟩
    clear hc B2 hno
    go_wp2_with fail
    go_ret2
    exact HFIN.out
  · obtain ⟨p, cap, rfl, hcap, hrow⟩ := hU.row
    have HU := hide hU
    have HRR := hide (And.intro hr hfull)
    have hB2 := hU.2.1
    have HB2 : Hid (Below w.heap.size w w2) := HB1.out.trans (hB2.mono HB1.out.size)
    have HAGN := hide (HAG.out p cap f w2 hrow hcap hr (HT.out.below HB2.out))
    clear hU hr hfull hrow hB2
    go_wp2_with fail
    refine HAGN.out.mono ?_
    intro e w3 hE
    rcases hE with ⟨px, cx, bx, rfl, hx, hbx, B3, hP, huq⟩ | ⟨rfl, B3, hno⟩
    · have HB3 : Hid (Below w.heap.size w w3) := HB2.out.trans (B3.mono HB2.out.size)
      have HEQ := hide (bytesEqual64_any (.slice px bx.length cx) v bx bs w3 hx (isBy_below HV.out HB3.out) hbx HBB.out)
      by_cases e : bx = bs
      · have HFIN : Hid (CUnEnd64 6 bs n w (.returned (.tuple #[.slice p n cap, .int .i64 0])) w3) := by
          refine .inr ⟨_, f, rfl, ?_, by rw [← e]; exact hP, HRR.out.2⟩
          have h1 := HU.out.1
          have h2 := HB1.out.size
          refine ⟨(ownsRow_keepC64 h1 fun g hg1 hg2 => B3.block g hg2).mono h2, HB3.out, Nat.le_refl _⟩
        rw [decide_eq_true e] at HEQ
        clear hx hbx B3 hP huq e
        go_wp2_with fail
        refine HEQ.out.mono ?_
        rintro e w4 ⟨rfl, h4⟩
        have h4 := h4.symm
        subst h4
        go_wp2_with fail
        go_ret2
        exact HFIN.out
      · have HFIN : Hid (CUnEnd64 6 bs n w (.returned (.tuple #[.slice none 0 0, .int .i64 83])) w3) := by
          refine .inl ⟨rfl, HB3.out, fun h hPh => e ?_⟩
          exact (huq bs (hPh.congr fun i hi => (HRR.out.2 h hPh i hi).symm)).symm
        rw [decide_eq_false e] at HEQ
        clear hx hbx B3 hP huq e
        go_wp2_with fail
        refine HEQ.out.mono ?_
        rintro e w4 ⟨rfl, h4⟩
        have h4 := h4.symm
        subst h4
        go_wp2_with fail
        go_ret2
        exact HFIN.out
    · have HFIN : Hid (CUnEnd64 6 bs n w (.returned (.tuple #[.slice none 0 0, .int .i64 83])) w3) := by
        refine .inl ⟨rfl, HB2.out.trans (B3.mono HB2.out.size), fun h hPh => ?_⟩
        exact hno bs (hPh.congr fun i hi => (HRR.out.2 h hPh i hi).symm)
      clear B3 hno
      go_wp2_with fail
      go_ret2
      exact HFIN.out

theorem cUnpack64_any (k : Nat) (v : Value) (bs : List Nat) (n : Nat) (w : World) (hk1 : 1 ≤ k) (hk6 : k ≤ 6) (hv : IsBy w v bs) (hb : ∀ n ∈ bs, n < 256) (hl : bs.length ≤ 1000000000000) (hn : n ≤ 4096) (hT : Tab64 w) :
    Calls Tryz.prog 89 #[.int .i64 k, v, .int .i64 n] w (CUnEnd64 k bs n w) := by
  obtain rfl | rfl | rfl | rfl | rfl | rfl : k = 1 ∨ k = 2 ∨ k = 3 ∨ k = 4 ∨ k = 5 ∨ k = 6 := by omega
  · exact cUnpack64_1 v bs n w hv hb hl hn hT fun w1 B1 => (unpackPlain64_any v bs n w1 (isBy_below hv B1) hb hl hn).mono fun e w' hE => takeK_of64 rfl (unEnd_of_vals64 (fun h => rfl) hn hE)
  · exact cUnpack64_2 v bs n w hv hb hl hn hT fun w1 B1 => (unpack64_any v bs n w1 (isBy_below hv B1) hb hl hn (hT.below B1)).mono fun e w' hE => takeK_xor64 hn hE
  · exact cUnpack64_3 v bs n w hv hb hl hn hT fun w1 B1 => (unpackRuns64_any v bs n w1 (isBy_below hv B1) hb hl hn).mono fun e w' hE => takeK_of64 rfl hE
  · exact cUnpack64_4 v bs n w hv hb hl hn hT fun w1 B1 => (unpackDict64_any v bs n w1 (isBy_below hv B1) hb hl hn).mono fun e w' hE => takeK_of64 rfl hE
  · exact cUnpack64_5 v bs n w hv hb hl hn hT fun w1 B1 => (unpackStride64_any v bs n w1 (isBy_below hv B1) hb hl hn).mono fun e w' hE => takeK_of64 rfl (unEnd_of_vals64 (fun h => rfl) hn hE)
  · exact cUnpack64_6 v bs n w hv hb hl hn hT fun w1 B1 => (unpackDecimal64_any v bs n w1 (isBy_below hv B1) hb hl hn).mono fun e w' hE => takeK_of64 rfl hE

end Go.Proofs.YtpdaklklhoenhaaGreatDoor

namespace Go.Proofs.YtpdaklklhoenhaaGreatDoor
open Go.RowKit
open M
set_option linter.unusedVariables false
set_option linter.unusedSimpArgs false

/-- k is the best of the kinds up to q, bs its bytes. -/
structure Bst64 (n : Nat) (f : Nat → Nat) (q k : Nat) (bs : List Nat) : Prop where
  lo : 1 ≤ k
  hi : k ≤ q
  is : PackIs64 k n f bs
  least : ∀ k' bs', 1 ≤ k' → k' ≤ q → PackIs64 k' n f bs' → bs.length < bs'.length ∨ (bs.length = bs'.length ∧ k ≤ k')

/-- What Best tells. -/
def BestEnd64 (n : Nat) (f : Nat → Nat) (w : World) (e : Ending) (w' : World) : Prop :=
  ∃ (k : Nat) (p : Option Addr) (c : Nat) (bs : List Nat), e = .returned (.tuple #[.int .i64 (k : Int), .slice p bs.length c, .int .i64 0]) ∧ IsBy w' (.slice p bs.length c) bs ∧ (∀ n ∈ bs, n < 256) ∧ Bst64 n f 6 k bs ∧ Below w.heap.size w w'

set_option maxRecDepth 100000 in
theorem best64_any (p : Option Addr) (n cap : Nat) (f : Nat → Nat) (w : World) (h : URow64 w p n f) (hn : n ≤ 4096) (hcap : n ≤ cap) (hf : ∀ i, i < n → f i < 18446744073709551616) (hT : Tab64 w) :
    Calls Tryz.prog 75 #[.slice p n cap] w (BestEnd64 n f w) := by
  have HAG := hide (fun k w1 (hk1 : 1 ≤ k) (hk6 : k ≤ 6) (hB : Below w.heap.size w w1) => cAgain64 k p n cap f w1 hk1 hk6 (h.below hB) hn hcap hf (hT.below hB))
  have HA1 := hide (cAgain64 1 p n cap f w (by omega) (by omega) h hn hcap hf hT)
  have HN1 : Hid (∀ w' e, AgainEnd64 1 n f w e w' → ∃ (pu : Option Addr) (cu : Nat) (bs : List Nat), e = .returned (.tuple #[.slice pu bs.length cu, .int .i64 0]) ∧ IsBy w' (.slice pu bs.length cu) bs ∧ (∀ n ∈ bs, n < 256) ∧ Below w.heap.size w w' ∧ Bst64 n f 1 1 bs) := fun w' e hE => by
    rcases hE with ⟨pu, cu, bs, h1, h2, h3, h4, h5, h6⟩ | ⟨_, _, h3⟩
    · refine ⟨pu, cu, bs, h1, h2, h3, h4, Nat.le_refl _, Nat.le_refl _, h5, fun k' bs' hk1 hk2 hP => ?_⟩
      obtain rfl : k' = 1 := by omega
      exact .inr ⟨by rw [h6 bs' hP], Nat.le_refl _⟩
    · exfalso
      by_cases h0 : n = 0
      · exact h3 [] ⟨hf, fun _ => rfl, fun h => by omega⟩
      · exact h3 _ ⟨hf, fun h => absurd h h0, fun _ => ⟨_, rfl, rfl⟩⟩
  clear h hf hT
  go_enter Tryz.func75, Tryz.ntmps75
  go_wp2_with fail
  refine HA1.out.mono ?_
  intro e w1 hE
  obtain ⟨pu, cu, bs, rfl, h2, h3, h4, h5⟩ := HN1.out w1 e hE
  have H1 := hide (And.intro h2 (And.intro h3 (And.intro h4 h5)))
  clear hE h2 h3 h4 h5 HN1 HA1
  go_wp2_with fail
  go_loopw [5, 6, 8] (fun t5 t6 t8 wr => ∃ (q k : Nat) (pu : Option Addr) (cu : Nat) (bs : List Nat), t8 = .int .i64 ((q : Int) + 1) ∧ t5 = .int .i64 (k : Int) ∧ t6 = .slice pu bs.length cu ∧ Hid (q ≤ 6 ∧ IsBy wr (.slice pu bs.length cu) bs ∧ (∀ n ∈ bs, n < 256) ∧ Bst64 n f q k bs ∧ Below w.heap.size w wr)) (fun _ _ t8 _ => 7 - (intOf t8).toNat)
  case atStart => exact ⟨1, 1, pu, cu, bs, rfl, rfl, rfl, by omega, H1.out.1, H1.out.2.1, H1.out.2.2.2, H1.out.2.2.1⟩
  case round =>
    obtain ⟨q, k, pu, cu, bs, rfl, rfl, rfl, hI⟩ := hrel
    by_cases hlt : q + 1 ≤ 6
    · have hle : (q : Int) + 1 ≤ 6 := by omega
      have HQ := hide (HAG.out (q + 1) wr (by omega) hlt hI.out.2.2.2.2)
      rw [show (((q + 1 : Nat)) : Int) = (q : Int) + 1 from by simp] at HQ
      go_wp2_with fail
      refine HQ.out.mono ?_
      intro e w2 hE
      rcases hE with ⟨pv, cv, bv, rfl, h2, h3, h4, h5, h6⟩ | ⟨rfl, h2, h3⟩
      · have HBB : Hid (Below w.heap.size w w2) := hI.out.2.2.2.2.trans (h4.mono hI.out.2.2.2.2.size)
        have HOLD : Hid (IsBy w2 (.slice pu bs.length cu) bs) := isBy_below hI.out.2.1 h4
        by_cases hl : bv.length < bs.length
        · have HN : Hid (Bst64 n f (q + 1) (q + 1) bv) := by
            refine ⟨by omega, Nat.le_refl _, h5, fun k' bs' hk1 hk2 hP => ?_⟩
            by_cases e : k' = q + 1
            · subst e; exact .inr ⟨by rw [h6 bs' hP], Nat.le_refl _⟩
            · rcases hI.out.2.2.2.1.least k' bs' hk1 (by omega) hP with h | h
              · exact .inl (by omega)
              · exact .inl (by omega)
          have HNB := hide (And.intro h2 h3)
          clear h2 h3 h4 h5 h6
          go_wp2_with fail
          go_roundw
          case rel => exact ⟨q + 1, q + 1, pv, cv, bv, by simp, by simp, by simp, hlt, HNB.out.1, HNB.out.2, HN.out, HBB.out⟩
          case measure => simp [intOf]; omega
        · have HN : Hid (Bst64 n f (q + 1) k bs) := by
            have B := hI.out.2.2.2.1
            refine ⟨B.lo, by have := B.hi; omega, B.is, fun k' bs' hk1 hk2 hP => ?_⟩
            by_cases e : k' = q + 1
            · subst e
              rw [h6 bs' hP]
              have := B.hi
              omega
            · exact B.least k' bs' hk1 (by omega) hP
          have H3 := hide hI.out.2.2.1
          clear h2 h3 h4 h5 h6 hI
          go_wp2_with fail
          go_roundw
          case rel => exact ⟨q + 1, k, pu, cu, bs, by simp, by simp, by simp, hlt, HOLD.out, H3.out, HN.out, HBB.out⟩
          case measure => simp [intOf]; omega
      · have HBB : Hid (Below w.heap.size w w2) := hI.out.2.2.2.2.trans (h2.mono hI.out.2.2.2.2.size)
        have HOLD : Hid (IsBy w2 (.slice pu bs.length cu) bs) := isBy_below hI.out.2.1 h2
        have HN : Hid (Bst64 n f (q + 1) k bs) := by
          have B := hI.out.2.2.2.1
          refine ⟨B.lo, by have := B.hi; omega, B.is, fun k' bs' hk1 hk2 hP => ?_⟩
          by_cases e : k' = q + 1
          · subst e; exact (h3 bs' hP).elim
          · exact B.least k' bs' hk1 (by omega) hP
        have H3 := hide hI.out.2.2.1
        clear h2 h3 hI
        go_wp2_with fail
        go_roundw
        case rel => exact ⟨q + 1, k, pu, cu, bs, by simp, by simp, by simp, hlt, HOLD.out, H3.out, HN.out, HBB.out⟩
        case measure => simp [intOf]; omega
    · have hq : q = 6 := by have := hI.out.1; omega
      subst hq
      have HFIN : Hid (BestEnd64 n f w (.returned (.tuple #[.int .i64 (k : Int), .slice pu bs.length cu, .int .i64 0])) wr) := ⟨k, pu, cu, bs, rfl, hI.out.2.1, hI.out.2.2.1, hI.out.2.2.2.1, hI.out.2.2.2.2⟩
      go_wp2_with fail
      go_ret3
      exact HFIN.out

end Go.Proofs.YtpdaklklhoenhaaGreatDoor

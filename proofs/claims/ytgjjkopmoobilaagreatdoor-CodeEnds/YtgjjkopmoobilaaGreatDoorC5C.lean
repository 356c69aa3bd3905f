/- Unpack of any kind, asked for any number of values. -/
import Derived.Test.YtgjjkopmoobilaaGreatDoorC2G32
import Derived.Test.YtgjjkopmoobilaaGreatDoorC1Q32
import Derived.Test.YtgjjkopmoobilaaGreatDoorC2M
import Derived.Test.YtgjjkopmoobilaaGreatDoorC5T
import Derived.Test.YtgjjkopmoobilaaGreatDoorP1M32
import Derived.Test.YtgjjkopmoobilaaGreatDoorC2F32
import Derived.Lib.Bytes
import Derived.Test.YtgjjkopmoobilaaGreatDoorC1A32
/- The contract of Stride's unpacking (32 bits). -/
namespace Go.Proofs.YtgjjkopmoobilaaGreatDoor
open Go.RowKit
open M
set_option linter.unusedVariables false
set_option linter.unusedSimpArgs false

theorem wrapY32 (m : Nat) (hm : 0 < m) (y k : Int) (hk : (m : Int) = k) : ∃ Y : Nat, y % k = (Y : Int) ∧ Y < m := by
  subst hk
  have h1 := Int.emod_nonneg y (b := (m : Int)) (by omega)
  have h2 := Int.emod_lt_of_pos y (b := (m : Int)) (by omega)
  generalize y % (m : Int) = z at *
  exact ⟨z.toNat, (Int.toNat_of_nonneg h1).symm, by omega⟩

theorem add_wrap32 (m E y Y x : Int) (h2 : y % m = Y) (h1 : (E + Y) % m = x) : x = (E + y) % m := by rw [← h1, ← h2, Int.add_emod_emod]

theorem stride_back32 (H M : Nat) (hM : M = 2 * H) (hH : 0 < H) (f h : Nat → Nat) (k : Nat) (hf : ∀ i, i < k → f i = h i) (hr : ∀ i, i < k → f i < M) (hk : h k < M) (m : Int) (hm : (M : Int) = m) : ((exS M f k : Int) + sgW H M (rsS M h k)) % m = (h k : Int) := by
  subst hm
  have e1 := exS_congr M f h k hf
  have e2 := sgW_mod H M (rsS M h k) hM (rsS_lt M h (by omega) k)
  have e3 := rsS_back M h (by omega) k fun j hj => by
    by_cases e : j = k
    · rw [e]; exact hk
    · rw [← hf j (by omega)]; exact hr j (by omega)
  rw [← Int.add_emod_emod, e2, e1, ← e3]
  simp

theorem sg_in32 (x : Nat) (hx : x < 4294967296) : -9223372036854775808 ≤ sgW 2147483648 4294967296 x ∧ sgW 2147483648 4294967296 x ≤ 9223372036854775807 := by
  unfold sgW; split <;> omega

theorem lays_stride32 : Lays32 (stB 2147483648 4294967296) (fun h k => varB (zig (sgW 2147483648 4294967296 (rsS 4294967296 h k)))) := ⟨fun h => rfl, fun h k => rfl⟩

theorem Ln32.drewN {bf : (Nat → Nat) → Nat → List Bool} {w wr : World} {b : Nat} {s : ByteArray} {g n k a : Nat} {e1 : Int} {f : Nat → Nat} (T : Ln32 bf w wr b s g n k a e1 f) (hb : b < wr.heap.size) (m : Nat) : Ln32 bf w (wr.drewN m) b s g n k a e1 f :=
  ⟨T.row.ofBlock rfl, T.rd.below (w' := wr.drewN m) ⟨rfl, rfl, rfl, Nat.le_refl _, fun _ _ => rfl⟩ hb, ⟨T.only.os, T.only.tape, T.only.output, T.only.size, T.only.block, T.only.cell, T.only.frozen⟩, T.size, T.rng, T.full⟩

set_option maxRecDepth 100000 in
set_option maxHeartbeats 1000000 in
theorem unpackStride32_any (v : Value) (bs : List Nat) (n : Nat) (w : World) (h : IsBy w v bs) (hb : ∀ n ∈ bs, n < 256) (hl : bs.length ≤ 1000000000000) (hn : n ≤ 4096) :
    Calls Tryz.prog 49 #[v, .int .i64 n] w (ValsEnd32 (stB 2147483648 4294967296) bs n w) := by
  have H := hide h
  have HB := hide hb
  have HL := hide hl
  have hmk := make_vals32 n hn
  clear h hb hl
  go_enter Tryz.func49, Tryz.ntmps49
  go_wp2_with fail
  refine (from_by w v bs H.out).mono ?_
  rintro e w1 ⟨rfl, hw1⟩
  have HR : Hid (Rd w1 w.heap.size 0 (strOf bs) 0 0 ∧ w1.heap.size = w.heap.size + 1 ∧ Below w.heap.size w w1) := by
    rw [hw1]; exact ⟨rd_new w bs HL.out, by simp, (Below.refl _ _).alloc (Nat.le_refl _) _⟩
  clear hw1
  obtain ⟨b, hbw⟩ : ∃ b, w.heap.size = b := ⟨_, rfl⟩
  have HBW := hide hbw
  obtain ⟨g, hg⟩ : ∃ g, w1.heap.size = g := ⟨_, rfl⟩
  have HA : Hid (Ln32 (stB 2147483648 4294967296) w1 (w1.alloc (.cells (Array.replicate n (Value.int .u32 0)) 42)) b (strOf bs) g n 0 0 0 (fun _ => 0)) := by
    have hA : Below w1.heap.size w1 (w1.alloc (.cells (Array.replicate n (Value.int .u32 0)) 42)) := (Below.refl _ w1).alloc (Nat.le_refl _) _
    have hbs : b < w1.heap.size := by have := HR.out.2.1; omega
    refine ⟨by rw [← hg]; exact UW32.new w1 n _, by rw [← hbw]; exact HR.out.1.below hA (by omega), ⟨hA.os, hA.tape, hA.output, hA.size, fun k hk _ => hA.block k hk, fun j _ => World.cell?_of_block (hA.block b hbs), fun j => World.frozen?_of_block (w := w1) (a := ⟨b, j, none⟩) (hA.block b hbs)⟩, by rw [← hg]; simp, fun i hi => by omega, fun h hB => ⟨rfl, by simp [stB], fun i hi => by omega⟩⟩
  have hgb : g ≠ b := by have := HR.out.2.1; omega
  have HG : Hid (w1.heap.size ≤ g) := Nat.le_of_eq hg
  rw [hbw]
  clear hbw
  go_upto_region 3 with fail
  (try rw [hg])
  clear hg hmk
  generalize w1.alloc (.cells (Array.replicate n (Value.int .u32 0)) 42) = W0 at *
  go_wp2_with fail
  go_loopw [15] (fun t15 wr => ∃ (k a : Nat) (e1 : Int) (f : Nat → Nat), t15 = .int .i64 (k : Int) ∧ Hid (k ≤ n ∧ Ln32 (stB 2147483648 4294967296) w1 wr b (strOf bs) g n k a e1 f)) (fun t15 _ => n - (intOf t15).toNat)
  case atStart => exact ⟨0, 0, 0, _, rfl, Nat.zero_le _, HA.out⟩
  case round =>
    obtain ⟨k, a, e1, f, rfl, hI⟩ := hrel
    by_cases hlt : k < n
    · have HROW : Hid (URow32 wr (some ⟨g, 0, none⟩) k f ∧ ∀ i, i < k → f i < 4294967296) := ⟨fun _ => ⟨g, 0, rfl, fun i hi => by rw [Nat.zero_add, hI.out.2.row.cell i (by omega), if_pos hi]⟩, hI.out.2.rng⟩
      have HBG : Hid (b < wr.heap.size) := by have := hI.out.2.size; have := HR.out.2.1; have := HG.out; have := HBW.out; exact (by omega : b < wr.heap.size)
      go_wp2_with fail
      refine (expected32_any (some ⟨g, 0, none⟩) k n f wr HROW.out.1 (by omega) (by omega) HROW.out.2).mono ?_
      rintro e wd ⟨rfl, m, hwd⟩
      have HL1 : Hid (Ln32 (stB 2147483648 4294967296) w1 wd b (strOf bs) g n k a e1 f) := by rw [hwd]; exact hI.out.2.drewN HBG.out m
      have heM : exS 4294967296 f k < 4294967296 := exS_lt _ _ (by decide) k HROW.out.2
      obtain ⟨E, hE⟩ : ∃ E, exS 4294967296 f k = E := ⟨_, rfl⟩
      rw [hE] at heM ⊢
      have HE := hide hE
      clear hE hwd
      go_wp2_with fail
      refine (hk_zig b 0 (strOf bs) a e1 wd HL1.out.rd).mono ?_
      rintro e w2 ⟨y, a', e2, rfl, hy, T⟩
      obtain ⟨Y, hY', _⟩ := wrapY32 4294967296 (by decide) y 4294967296 rfl
      obtain ⟨x, hX', hx⟩ := wrapY32 4294967296 (by decide) ((E : Int) + (Y : Int)) 4294967296 rfl
      have hY : IntKind.u32.wrap y = (Y : Int) := by rw [IntKind.wrap_u32]; exact hY'
      have hX : IntKind.u32.wrap ((E : Int) + (Y : Int)) = (x : Int) := by rw [IntKind.wrap_u32]; exact hX'
      have HX : Hid ((x : Int) = ((E : Int) + y) % 4294967296) := add_wrap32 4294967296 E y Y x hY' hX'
      clear hX' hY'
      have NX := Ln32.next lays_stride32 hlt HG.out hgb HL1.out x hx T.rd T.only (fun he h r hh hk hr => by
        have h0 := sg_in32 (rsS 4294967296 h k) (rsS_lt _ _ (by decide) k)
        obtain ⟨h1, h2, h3⟩ := T.hit he _ _ h0 hr
        refine ⟨?_, h2, h3⟩
        have h4 := stride_back32 2147483648 4294967296 (by decide) (by decide) f h k hh HROW.out.2 hk 4294967296 rfl
        have h5 := HX.out
        rw [h1, ← HE.out, h4] at h5
        exact Int.ofNat.inj h5)
      have RW := HL1.out.row.ofBlock (T.only.block g HL1.out.size hgb)
      have c2 : w2.cell? ⟨g, k, none⟩ = some (.int .u32 0) := by rw [RW.cell k hlt, if_neg (by omega)]; rfl
      have c3 := RW.fz k
      have HNX := hide NX
      clear NX RW T
      go_wp2_with fail
      go_roundw
      case rel => exact ⟨k + 1, a', e2, _, by simp, hlt, HNX.out⟩
      case measure => simp [intOf]; omega
    · have hk : k = n := by have := hI.out.1; omega
      have hI' : Hid (Ln32 (stB 2147483648 4294967296) w1 wr b (strOf bs) g n n a e1 f) := by have := hI.out.2; rw [hk] at this; exact this
      go_wp2_with fail
      go_ret2
      refine ⟨g, f, ?_, rfl, hI'.out.row, hI'.out.rng, ?_, fun h hB i hi => ?_⟩
      · have := HR.out.2.1; have := HG.out; omega
      · have := hI'.out.only.below (B := w.heap.size) (by have := HBW.out; omega) (by have := HR.out.2.1; omega)
        exact HR.out.2.2.trans this
      · exact (hI'.out.full h (by rw [rb_strOf bs HB.out]; exact hB)).2.2 i hi

end Go.Proofs.YtgjjkopmoobilaaGreatDoor

/- A column's bits by a kind; Pack by any kind; bytes compared (32 bits). -/
namespace Go.Proofs.YtgjjkopmoobilaaGreatDoor
open Go.RowKit
open M
set_option linter.unusedVariables false
set_option linter.unusedSimpArgs false

theorem strOf_injC32 {a b : List Nat} (ha : ∀ n ∈ a, n < 256) (hb : ∀ n ∈ b, n < 256) (h : (strOf a).toList = (strOf b).toList) : a = b := by
  have h1 : (strOf a).data.toList = (strOf b).data.toList := by
    unfold strOf at h ⊢
    rw [Lib.strOfNums_toList, Lib.strOfNums_toList] at h
    exact h
  rw [← bytesN_strOf a ha, ← bytesN_strOf b hb]
  unfold bytesN
  rw [h1]

theorem bytesEqual32_any (v1 v2 : Value) (a b : List Nat) (w : World) (h1 : IsBy w v1 a) (h2 : IsBy w v2 b) (ha : ∀ n ∈ a, n < 256) (hb : ∀ n ∈ b, n < 256) :
    Calls Tryz.prog 34 #[v1, v2] w fun e w' => e = .returned (.bool (decide (a = b))) ∧ w' = w := by
  have hc1 := convert_by w v1 a h1
  have hc2 := convert_by w v2 b h2
  by_cases e : a = b
  · subst e
    rw [decide_eq_true rfl]
    clear h1 h2
    go_enter Tryz.func34, Tryz.ntmps34
    go_wp2_with fail
    go_ret
    exact ⟨by simp, rfl⟩
  · rw [decide_eq_false e]
    have hne : Hid (((strOf a).toList == (strOf b).toList) = false) := by show _ = _; rw [beq_eq_false_iff_ne]; exact fun h => e (strOf_injC32 ha hb h)
    generalize strOf a = sa at *
    generalize strOf b = sb at *
    clear h1 h2 e
    go_enter Tryz.func34, Tryz.ntmps34
    go_wp2_with fail
    go_ret
    exact ⟨by rw [← hne.out]; rfl, rfl⟩

theorem aheadOf_congr32 (f g : Nat → Nat) (v i k : Nat) (h : ∀ j, i ≤ j → j < i + k → f j = g j) : aheadOf f v i k = aheadOf g v i k := by
  induction k generalizing i with
  | zero => rfl
  | succ k ih => rw [aheadOf, aheadOf, h i (Nat.le_refl _) (by omega), ih (i + 1) fun j h1 h2 => h j (by omega) (by omega)]

theorem rnB_congr32 (f g : Nat → Nat) (u i k : Nat) (h : ∀ j, i ≤ j → j < i + k → f j = g j) : rnB 32 f u i k = rnB 32 g u i k := by
  induction u generalizing i k with
  | zero => rfl
  | succ u ih =>
    match k with
    | 0 => rfl
    | k + 1 =>
      have hle := aheadOf_le g (g i) i (k + 1)
      rw [rnB, rnB, h i (Nat.le_refl _) (by omega), aheadOf_congr32 f g (g i) i (k + 1) h, ih _ _ fun j h1 h2 => h j (by omega) (by omega)]

theorem PackIs32.lay {k n : Nat} {h : Nat → Nat} {bs : List Nat} (H : PackIs32 k n h bs) : LayC32 (fun f => codeO32 k f n) bs n h := by
  refine ⟨H.1, H.2.1, fun h0 => ?_⟩
  obtain ⟨l, h1, h2⟩ := H.2.2 h0
  exact ⟨l, _, h1, by rw [← h2, rbits_packed]⟩

/-- What a taker tells, of a text that is a column's by a kind, or not. -/
def TakeK32 (k : Nat) (bs : List Nat) (n : Nat) (w : World) (e : Ending) (w' : World) : Prop :=
  (∃ c : Int, c ≠ 0 ∧ e = .returned (.tuple #[.slice none 0 0, .int .i64 c]) ∧ Below w.heap.size w w' ∧ ∀ h, PackIs32 k n h bs → False) ∨
  ∃ (v : Value) (f : Nat → Nat), e = .returned (.tuple #[v, .int .i64 0]) ∧ USt32 w.heap.size w f n v w' ∧ (∀ i, i < n → f i < 4294967296) ∧ ∀ h, PackIs32 k n h bs → ∀ i, i < n → f i = h i

theorem takeK_of32 {k : Nat} {bs : List Nat} {n : Nat} {w : World} {e : Ending} {w' : World} {bf : (Nat → Nat) → Option (List Bool)} (hb : (fun f => codeO32 k f n) = bf) (h : UnEnd32 bf bs n w e w') : TakeK32 k bs n w e w' := by
  subst hb
  rcases h with ⟨c, h1, h2, h3, h4⟩ | ⟨v, f, h1, h2, h3, h4⟩
  · exact .inl ⟨c, h1, h2, h3, fun h hP => h4 h hP.lay⟩
  · exact .inr ⟨v, f, h1, h2, h3, fun h hP => h4 h hP.lay⟩

theorem takeK_xor32 {bs : List Nat} {n : Nat} {w : World} {e : Ending} {w' : World} (hn : n ≤ 4096) (h : UnpackEnd32 w bs n e w') : TakeK32 2 bs n w e w' := by
  have key : ∀ h, PackIs32 2 n h bs → Packs32 bs h n := fun h hP => by
    refine ⟨hP.1, ?_⟩
    by_cases h0 : n = 0
    · rw [hP.2.1 h0, h0]; exact List.eq_nil_of_length_eq_zero (by rw [packed_length]; simp [cbn])
    · obtain ⟨l, h1, h2⟩ := hP.2.2 (by omega)
      simp only [codeO32, Option.some.injEq] at h1
      rw [h1]; exact h2
  rcases h with ⟨h1, h2, h3⟩ | ⟨g, f, h1, h2, h3, h4, h5, h6⟩
  · exact .inl ⟨71, by decide, h1, h2, fun h hP => h3 ⟨h, key h hP⟩⟩
  · exact .inr ⟨_, f, h1, ⟨h3.owns h2 hn, h4, Nat.le_refl _⟩, h5.1, fun h hP => h6 h (begins_of32 (key h hP))⟩

/-- What Unpack tells. -/
def CUnEnd32 (k : Nat) (bs : List Nat) (n : Nat) (w : World) (e : Ending) (w' : World) : Prop :=
  (e = .returned (.tuple #[.slice none 0 0, .int .i64 83]) ∧ Below w.heap.size w w' ∧ ∀ h, PackIs32 k n h bs → False) ∨
  ∃ (v : Value) (f : Nat → Nat), e = .returned (.tuple #[v, .int .i64 0]) ∧ USt32 w.heap.size w f n v w' ∧ PackIs32 k n f bs ∧ ∀ h, PackIs32 k n h bs → ∀ i, i < n → f i = h i

theorem codeO32_congr (k : Nat) (f g : Nat → Nat) (n : Nat) (h : ∀ i, i < n → f i = g i) : codeO32 k f n = codeO32 k g n := by
  unfold codeO32
  split
  · rw [plB_congr 32 f g n h]
  · rw [cbn_congr 32 5 f g n h]
  · rw [rnB_congr32 f g n 0 n fun j _ hj => h j (by omega)]
  · unfold dcO; rw [uq_congr f g n h, dcB_congr 32 f g n h]
  · rw [stB_congr 2147483648 4294967296 f g n h]
  · rw [F32.dm_congr 32 f g n h]
  · rfl

theorem PackIs32.congr {k n : Nat} {f g : Nat → Nat} {bs : List Nat} (H : PackIs32 k n f bs) (h : ∀ i, i < n → f i = g i) : PackIs32 k n g bs :=
  ⟨fun i hi => by rw [← h i hi]; exact H.1 i hi, H.2.1, fun h0 => by
    obtain ⟨l, h1, h2⟩ := H.2.2 h0
    exact ⟨l, by rw [← codeO32_congr k f g n h]; exact h1, h2⟩⟩

end Go.Proofs.YtgjjkopmoobilaaGreatDoor

/- Unpack by any kind (32 bits). -/
namespace Go.Proofs.YtgjjkopmoobilaaGreatDoor
open Go.RowKit
open M
set_option linter.unusedVariables false
set_option linter.unusedSimpArgs false

set_option maxRecDepth 100000 in
theorem cUnpack32_1 (v : Value) (bs : List Nat) (n : Nat) (w : World) (hv : IsBy w v bs) (hb : ∀ n ∈ bs, n < 256) (hl : bs.length ≤ 1000000000000) (hn : n ≤ 4096) (hT : Tab64 w)
    (hcall : ∀ w1, Below w.heap.size w w1 → Calls Tryz.prog 45 #[v, .int .i64 n] w1 (TakeK32 1 bs n w1)) :
    Calls Tryz.prog 14 #[.int .i64 1, v, .int .i64 n] w (CUnEnd32 1 bs n w) := by
  have hf : Instr.findNow (.int .i64) (.int .i64 1) unpackersE32.toList 0 = some (some (0, .func (.func 45) #[] #[])) := by kernel_rfl
  have HV := hide hv
  have HBB := hide hb
  have HT := hide hT
  have HC := hide hcall
  have HAG := hide (fun p cap f w1 h1 h2 h3 h4 => cAgain32 1 p n cap f w1 (by omega) (by omega) h1 hn h2 h3 h4)
  clear hv hb hT hcall hl
  go_enter Tryz.func14, Tryz.ntmps14
  go_wp2_with fail
  refine (unpackers32_any w).mono ?_
  rintro e w1 ⟨rfl, b1, B1⟩
  have hlk := run_get (P := Tryz.prog) (w := w1) _ _ _ _ _ _ 1 _ _ Tryz.underlying80 Tryz.underlying3 b1 hf
  have HB1 := hide B1
  clear B1 b1 hf
  go_wp2_with fail
  refine (HC.out w1 HB1.out).mono ?_
  intro e w2 hE
  rcases hE with ⟨c, hc, rfl, B2, hno⟩ | ⟨u, f, rfl, hU, hr, hfull⟩
  · have hcn : (c != 0) = true := by rw [bne_iff_ne]; exact hc
    have HFIN : Hid (CUnEnd32 1 bs n w (.returned (.tuple #[.slice none 0 0, .int .i64 83])) w2) := .inl ⟨rfl, HB1.out.trans (B2.mono HB1.out.size), hno⟩
    clear hc B2 hno
    go_wp2_with fail
    go_ret2
    exact HFIN.out
  · obtain ⟨p, cap, rfl, hcap, hrow⟩ := hU.row
    have HU := hide hU
    have HRR := hide (And.intro hr hfull)
    have hB2 := hU.2.1
    have HB2 : Hid (Below w.heap.size w w2) := HB1.out.trans (hB2.mono HB1.out.size)
    have HAGN := hide (HAG.out p cap f w2 hrow hcap hr (HT.out.below HB2.out))
    clear hU hr hfull hrow hB2
    go_wp2_with fail
    refine HAGN.out.mono ?_
    intro e w3 hE
    rcases hE with ⟨px, cx, bx, rfl, hx, hbx, B3, hP, huq⟩ | ⟨rfl, B3, hno⟩
    · have HB3 : Hid (Below w.heap.size w w3) := HB2.out.trans (B3.mono HB2.out.size)
      have HEQ := hide (bytesEqual32_any (.slice px bx.length cx) v bx bs w3 hx (isBy_below HV.out HB3.out) hbx HBB.out)
      by_cases e : bx = bs
      · have HFIN : Hid (CUnEnd32 1 bs n w (.returned (.tuple #[.slice p n cap, .int .i64 0])) w3) := by
          refine .inr ⟨_, f, rfl, ?_, by rw [← e]; exact hP, HRR.out.2⟩
          have h1 := HU.out.1
          have h2 := HB1.out.size
          refine ⟨(ownsRow_keepC32 h1 fun g hg1 hg2 => B3.block g hg2).mono h2, HB3.out, Nat.le_refl _⟩
        rw [decide_eq_true e] at HEQ
        clear hx hbx B3 hP huq e
        go_wp2_with fail
        refine HEQ.out.mono ?_
        rintro e w4 ⟨rfl, h4⟩
        have h4 := h4.symm
        subst h4
        go_wp2_with fail
        go_ret2
        exact HFIN.out
      · have HFIN : Hid (CUnEnd32 1 bs n w (.returned (.tuple #[.slice none 0 0, .int .i64 83])) w3) := by
          refine .inl ⟨rfl, HB3.out, fun h hPh => e ?_⟩
          exact (huq bs (hPh.congr fun i hi => (HRR.out.2 h hPh i hi).symm)).symm
        rw [decide_eq_false e] at HEQ
        clear hx hbx B3 hP huq e
        go_wp2_with fail
        refine HEQ.out.mono ?_
        rintro e w4 ⟨rfl, h4⟩
        have h4 := h4.symm
        subst h4
        go_wp2_with fail
        go_ret2
        exact HFIN.out
    · have HFIN : Hid (CUnEnd32 1 bs n w (.returned (.tuple #[.slice none 0 0, .int .i64 83])) w3) := by
        refine .inl ⟨rfl, HB2.out.trans (B3.mono HB2.out.size), fun h hPh => ?_⟩
        exact hno bs (hPh.congr fun i hi => (HRR.out.2 h hPh i hi).symm)
      clear B3 hno
      go_wp2_with fail
      go_ret2
      exact HFIN.out

set_option maxRecDepth 100000 in
theorem cUnpack32_2 (v : Value) (bs : List Nat) (n : Nat) (w : World) (hv : IsBy w v bs) (hb : ∀ n ∈ bs, n < 256) (hl : bs.length ≤ 1000000000000) (hn : n ≤ 4096) (hT : Tab64 w)
    (hcall : ∀ w1, Below w.heap.size w w1 → Calls Tryz.prog 46 #[v, .int .i64 n] w1 (TakeK32 2 bs n w1)) :
    Calls Tryz.prog 14 #[.int .i64 2, v, .int .i64 n] w (CUnEnd32 2 bs n w) := by
  have hf : Instr.findNow (.int .i64) (.int .i64 2) unpackersE32.toList 0 = some (some (1, .func (.func 46) #[] #[])) := by kernel_rfl
  have HV := hide hv
  have HBB := hide hb
  have HT := hide hT
  have HC := hide hcall
  have HAG := hide (fun p cap f w1 h1 h2 h3 h4 => cAgain32 2 p n cap f w1 (by omega) (by omega) h1 hn h2 h3 h4)
  clear hv hb hT hcall hl
  go_enter Tryz.func14, Tryz.ntmps14
  go_wp2_with fail
  refine (unpackers32_any w).mono ?_
  rintro e w1 ⟨rfl, b1, B1⟩
  have hlk := run_get (P := Tryz.prog) (w := w1) _ _ _ _ _ _ 2 _ _ Tryz.underlying80 Tryz.underlying3 b1 hf
  have HB1 := hide B1
  clear B1 b1 hf
  go_wp2_with fail
  refine (HC.out w1 HB1.out).mono ?_
  intro e w2 hE
  rcases hE with ⟨c, hc, rfl, B2, hno⟩ | ⟨u, f, rfl, hU, hr, hfull⟩
  · have hcn : (c != 0) = true := by rw [bne_iff_ne]; exact hc
    have HFIN : Hid (CUnEnd32 2 bs n w (.returned (.tuple #[.slice none 0 0, .int .i64 83])) w2) := .inl ⟨rfl, HB1.out.trans (B2.mono HB1.out.size), hno⟩
    clear hc B2 hno
    go_wp2_with fail
    go_ret2
    exact HFIN.out
  · obtain ⟨p, cap, rfl, hcap, hrow⟩ := hU.row
    have HU := hide hU
    have HRR := hide (And.intro hr hfull)
    have hB2 := hU.2.1
    have HB2 : Hid (Below w.heap.size w w2) := HB1.out.trans (hB2.mono HB1.out.size)
    have HAGN := hide (HAG.out p cap f w2 hrow hcap hr (HT.out.below HB2.out))
    clear hU hr hfull hrow hB2
    go_wp2_with fail
    refine HAGN.out.mono ?_
    intro e w3 hE
    rcases hE with ⟨px, cx, bx, rfl, hx, hbx, B3, hP, huq⟩ | ⟨rfl, B3, hno⟩
    · have HB3 : Hid (Below w.heap.size w w3) := HB2.out.trans (B3.mono HB2.out.size)
      have HEQ := hide (bytesEqual32_any (.slice px bx.length cx) v bx bs w3 hx (isBy_below HV.out HB3.out) hbx HBB.out)
      by_cases e : bx = bs
      · have HFIN : Hid (CUnEnd32 2 bs n w (.returned (.tuple #[.slice p n cap, .int .i64 0])) w3) := by
          refine .inr ⟨_, f, rfl, ?_, by rw [← e]; exact hP, HRR.out.2⟩
          have h1 := HU.out.1
          have h2 := HB1.out.size
          refine ⟨(ownsRow_keepC32 h1 fun g hg1 hg2 => B3.block g hg2).mono h2, HB3.out, Nat.le_refl _⟩
        rw [decide_eq_true e] at HEQ
        clear hx hbx B3 hP huq e
        go_wp2_with fail
        refine HEQ.out.mono ?_
        rintro e w4 ⟨rfl, h4⟩
        have h4 := h4.symm
        subst h4
        go_wp2_with fail
        go_ret2
        exact HFIN.out
      · have HFIN : Hid (CUnEnd32 2 bs n w (.returned (.tuple #[.slice none 0 0, .int .i64 83])) w3) := by
          refine .inl ⟨rfl, HB3.out, fun h hPh => e ?_⟩
          exact (huq bs (hPh.congr fun i hi => (HRR.out.2 h hPh i hi).symm)).symm
        rw [decide_eq_false e] at HEQ
        clear hx hbx B3 hP huq e
        go_wp2_with fail
        refine HEQ.out.mono ?_
        rintro e w4 ⟨rfl, h4⟩
        have h4 := h4.symm
        subst h4
        go_wp2_with fail
        go_ret2
        exact HFIN.out
    · have HFIN : Hid (CUnEnd32 2 bs n w (.returned (.tuple #[.slice none 0 0, .int .i64 83])) w3) := by
        refine .inl ⟨rfl, HB2.out.trans (B3.mono HB2.out.size), fun h hPh => ?_⟩
        exact hno bs (hPh.congr fun i hi => (HRR.out.2 h hPh i hi).symm)
      clear B3 hno
      go_wp2_with fail
      go_ret2
      exact HFIN.out

set_option maxRecDepth 100000 in
theorem cUnpack32_3 (v : Value) (bs : List Nat) (n : Nat) (w : World) (hv : IsBy w v bs) (hb : ∀ n ∈ bs, n < 256) (hl : bs.length ≤ 1000000000000) (hn : n ≤ 4096) (hT : Tab64 w)
    (hcall : ∀ w1, Below w.heap.size w w1 → Calls Tryz.prog 47 #[v, .int .i64 n] w1 (TakeK32 3 bs n w1)) :
    Calls Tryz.prog 14 #[.int .i64 3, v, .int .i64 n] w (CUnEnd32 3 bs n w) := by
  have hf : Instr.findNow (.int .i64) (.int .i64 3) unpackersE32.toList 0 = some (some (2, .func (.func 47) #[] #[])) := by kernel_rfl
  have HV := hide hv
  have HBB := hide hb
  have HT := hide hT
  have HC := hide hcall
  have HAG := hide (fun p cap f w1 h1 h2 h3 h4 => cAgain32 3 p n cap f w1 (by omega) (by omega) h1 hn h2 h3 h4)
  clear hv hb hT hcall hl
  go_enter Tryz.func14, Tryz.ntmps14
  go_wp2_with fail
  refine (unpackers32_any w).mono ?_
  rintro e w1 ⟨rfl, b1, B1⟩
  have hlk := run_get (P := Tryz.prog) (w := w1) _ _ _ _ _ _ 3 _ _ Tryz.underlying80 Tryz.underlying3 b1 hf
  have HB1 := hide B1
  clear B1 b1 hf
  go_wp2_with fail
  refine (HC.out w1 HB1.out).mono ?_
  intro e w2 hE
  rcases hE with ⟨c, hc, rfl, B2, hno⟩ | ⟨u, f, rfl, hU, hr, hfull⟩
  · have hcn : (c != 0) = true := by rw [bne_iff_ne]; exact hc
    have HFIN : Hid (CUnEnd32 3 bs n w (.returned (.tuple #[.slice none 0 0, .int .i64 83])) w2) := .inl ⟨rfl, HB1.out.trans (B2.mono HB1.out.size), hno⟩
    clear hc B2 hno
    go_wp2_with fail
    go_ret2
    exact HFIN.out
  · obtain ⟨p, cap, rfl, hcap, hrow⟩ := hU.row
    have HU := hide hU
    have HRR := hide (And.intro hr hfull)
    have hB2 := hU.2.1
    have HB2 : Hid (Below w.heap.size w w2) := HB1.out.trans (hB2.mono HB1.out.size)
    have HAGN := hide (HAG.out p cap f w2 hrow hcap hr (HT.out.below HB2.out))
    clear hU hr hfull hrow hB2
    go_wp2_with fail
    refine HAGN.out.mono ?_
    intro e w3 hE
    rcases hE with ⟨px, cx, bx, rfl, hx, hbx, B3, hP, huq⟩ | ⟨rfl, B3, hno⟩
    · have HB3 : Hid (Below w.heap.size w w3) := HB2.out.trans (B3.mono HB2.out.size)
      have HEQ := hide (bytesEqual32_any (.slice px bx.length cx) v bx bs w3 hx (isBy_below HV.out HB3.out) hbx HBB.out)
      by_cases e : bx = bs
      · have HFIN : Hid (CUnEnd32 3 bs n w (.returned (.tuple #[.slice p n cap, .int .i64 0])) w3) := by
          refine .inr ⟨_, f, rfl, ?_, by rw [← e]; exact hP, HRR.out.2⟩
          have h1 := HU.out.1
          have h2 := HB1.out.size
          refine ⟨(ownsRow_keepC32 h1 fun g hg1 hg2 => B3.block g hg2).mono h2, HB3.out, Nat.le_refl _⟩
        rw [decide_eq_true e] at HEQ
        clear hx hbx B3 hP huq e
        go_wp2_with fail
        refine HEQ.out.mono ?_
        rintro e w4 ⟨rfl, h4⟩
        have h4 := h4.symm
        subst h4
        go_wp2_with fail
        go_ret2
        exact HFIN.out
      · have HFIN : Hid (CUnEnd32 3 bs n w (.returned (.tuple #[.slice none 0 0, .int .i64 83])) w3) := by
          refine .inl ⟨rfl, HB3.out, fun h hPh => e ?_⟩
          exact (huq bs (hPh.congr fun i hi => (HRR.out.2 h hPh i hi).symm)).symm
        rw [decide_eq_false e] at HEQ
        clear hx hbx B3 hP huq e
        go_wp2_with fail
        refine HEQ.out.mono ?_
        rintro e w4 ⟨rfl, h4⟩
        have h4 := h4.symm
        subst h4
        go_wp2_with fail
        go_ret2
        exact HFIN.out
    · have HFIN : Hid (CUnEnd32 3 bs n w (.returned (.tuple #[.slice none 0 0, .int .i64 83])) w3) := by
        refine .inl ⟨rfl, HB2.out.trans (B3.mono HB2.out.size), fun h hPh => ?_⟩
        exact hno bs (hPh.congr fun i hi => (HRR.out.2 h hPh i hi).symm)
      clear B3 hno
      go_wp2_with fail
      go_ret2
      exact HFIN.out

set_option maxRecDepth 100000 in
theorem cUnpack32_4 (v : Value) (bs : List Nat) (n : Nat) (w : World) (hv : IsBy w v bs) (hb : ∀ n ∈ bs, n < 256) (hl : bs.length ≤ 1000000000000) (hn : n ≤ 4096) (hT : Tab64 w)
    (hcall : ∀ w1, Below w.heap.size w w1 → Calls Tryz.prog 48 #[v, .int .i64 n] w1 (TakeK32 4 bs n w1)) :
    Calls Tryz.prog 14 #[.int .i64 4, v, .int .i64 n] w (CUnEnd32 4 bs n w) := by
  have hf : Instr.findNow (.int .i64) (.int .i64 4) unpackersE32.toList 0 = some (some (3, .func (.func 48) #[] #[])) := by kernel_rfl
  have HV := hide hv
  have HBB := hide hb
  have HT := hide hT
  have HC := hide hcall
  have HAG := hide (fun p cap f w1 h1 h2 h3 h4 => cAgain32 4 p n cap f w1 (by omega) (by omega) h1 hn h2 h3 h4)
  clear hv hb hT hcall hl
  go_enter Tryz.func14, Tryz.ntmps14
  go_wp2_with fail
  refine (unpackers32_any w).mono ?_
  rintro e w1 ⟨rfl, b1, B1⟩
  have hlk := run_get (P := Tryz.prog) (w := w1) _ _ _ _ _ _ 4 _ _ Tryz.underlying80 Tryz.underlying3 b1 hf
  have HB1 := hide B1
  clear B1 b1 hf
  go_wp2_with fail
  refine (HC.out w1 HB1.out).mono ?_
  intro e w2 hE
  rcases hE with ⟨c, hc, rfl, B2, hno⟩ | ⟨u, f, rfl, hU, hr, hfull⟩
  · have hcn : (c != 0) = true := by rw [bne_iff_ne]; exact hc
    have HFIN : Hid (CUnEnd32 4 bs n w (.returned (.tuple #[.slice none 0 0, .int .i64 83])) w2) := .inl ⟨rfl, HB1.out.trans (B2.mono HB1.out.size), hno⟩
    clear hc B2 hno
    go_wp2_with fail
    go_ret2
    exact HFIN.out
  · obtain ⟨p, cap, rfl, hcap, hrow⟩ := hU.row
    have HU := hide hU
    have HRR := hide (And.intro hr hfull)
    have hB2 := hU.2.1
    have HB2 : Hid (Below w.heap.size w w2) := HB1.out.trans (hB2.mono HB1.out.size)
    have HAGN := hide (HAG.out p cap f w2 hrow hcap hr (HT.out.below HB2.out))
    clear hU hr hfull hrow hB2
    go_wp2_with fail
    refine HAGN.out.mono ?_
    intro e w3 hE
    rcases hE with ⟨px, cx, bx, rfl, hx, hbx, B3, hP, huq⟩ | ⟨rfl, B3, hno⟩
    · have HB3 : Hid (Below w.heap.size w w3) := HB2.out.trans (B3.mono HB2.out.size)
      have HEQ := hide (bytesEqual32_any (.slice px bx.length cx) v bx bs w3 hx (isBy_below HV.out HB3.out) hbx HBB.out)
      by_cases e : bx = bs
      · have HFIN : Hid (CUnEnd32 4 bs n w (.returned (.tuple #[.slice p n cap, .int .i64 0])) w3) := by
          refine .inr ⟨_, f, rfl, ?_, by rw [← e]; exact hP, HRR.out.2⟩
          have h1 := HU.out.1
          have h2 := HB1.out.size
          refine ⟨(ownsRow_keepC32 h1 fun g hg1 hg2 => B3.block g hg2).mono h2, HB3.out, Nat.le_refl _⟩
        rw [decide_eq_true e] at HEQ
        clear hx hbx B3 hP huq e
        go_wp2_with fail
        refine HEQ.out.mono ?_
        rintro e w4 ⟨rfl, h4⟩
        have h4 := h4.symm
        subst h4
        go_wp2_with fail
        go_ret2
        exact HFIN.out
      · have HFIN : Hid (CUnEnd32 4 bs n w (.returned (.tuple #[.slice none 0 0, .int .i64 83])) w3) := by
          refine .inl ⟨rfl, HB3.out, fun h hPh => e ?_⟩
          exact (huq bs (hPh.congr fun i hi => (HRR.out.2 h hPh i hi).symm)).symm
        rw [decide_eq_false e] at HEQ
        clear hx hbx B3 hP huq e
        go_wp2_with fail
        refine HEQ.out.mono ?_
        rintro e w4 ⟨rfl, h4⟩
        have h4 := h4.symm
        subst h4
        go_wp2_with fail
        go_ret2
        exact HFIN.out
    · have HFIN : Hid (CUnEnd32 4 bs n w (.returned (.tuple #[.slice none 0 0, .int .i64 83])) w3) := by
        refine .inl ⟨rfl, HB2.out.trans (B3.mono HB2.out.size), fun h hPh => ?_⟩
        exact hno bs (hPh.congr fun i hi => (HRR.out.2 h hPh i hi).symm)
      clear B3 hno
      go_wp2_with fail
      go_ret2
      exact HFIN.out

set_option maxRecDepth 100000 in
theorem cUnpack32_5 (v : Value) (bs : List Nat) (n : Nat) (w : World) (hv : IsBy w v bs) (hb : ∀ n ∈ bs, n < 256) (hl : bs.length ≤ 1000000000000) (hn : n ≤ 4096) (hT : Tab64 w)
    (hcall : ∀ w1, Below w.heap.size w w1 → Calls Tryz.prog 49 #[v, .int .i64 n] w1 (TakeK32 5 bs n w1)) :
    Calls Tryz.prog 14 #[.int .i64 5, v, .int .i64 n] w (CUnEnd32 5 bs n w) := by
  have hf : Instr.findNow (.int .i64) (.int .i64 5) unpackersE32.toList 0 = some (some (4, .func (.func 49) #[] #[])) := by kernel_rfl
  have HV := hide hv
  have HBB := hide hb
  have HT := hide hT
  have HC := hide hcall
  have HAG := hide (fun p cap f w1 h1 h2 h3 h4 => cAgain32 5 p n cap f w1 (by omega) (by omega) h1 hn h2 h3 h4)
  clear hv hb hT hcall hl
  go_enter Tryz.func14, Tryz.ntmps14
  go_wp2_with fail
  refine (unpackers32_any w).mono ?_
  rintro e w1 ⟨rfl, b1, B1⟩
  have hlk := run_get (P := Tryz.prog) (w := w1) _ _ _ _ _ _ 5 _ _ Tryz.underlying80 Tryz.underlying3 b1 hf
  have HB1 := hide B1
  clear B1 b1 hf
  go_wp2_with fail
  refine (HC.out w1 HB1.out).mono ?_
  intro e w2 hE
  rcases hE with ⟨c, hc, rfl, B2, hno⟩ | ⟨u, f, rfl, hU, hr, hfull⟩
  · have hcn : (c != 0) = true := by rw [bne_iff_ne]; exact hc
    have HFIN : Hid (CUnEnd32 5 bs n w (.returned (.tuple #[.slice none 0 0, .int .i64 83])) w2) := .inl ⟨rfl, HB1.out.trans (B2.mono HB1.out.size), hno⟩
    clear hc B2 hno
    go_wp2_with fail
    go_ret2
    exact HFIN.out
  · obtain ⟨p, cap, rfl, hcap, hrow⟩ := hU.row
    have HU := hide hU
    have HRR := hide (And.intro hr hfull)
    have hB2 := hU.2.1
    have HB2 : Hid (Below w.heap.size w w2) := HB1.out.trans (hB2.mono HB1.out.size)
    have HAGN := hide (HAG.out p cap f w2 hrow hcap hr (HT.out.below HB2.out))
    clear hU hr hfull hrow hB2
    go_wp2_with fail
    refine HAGN.out.mono ?_
    intro e w3 hE
    rcases hE with ⟨px, cx, bx, rfl, hx, hbx, B3, hP, huq⟩ | ⟨rfl, B3, hno⟩
    · have HB3 : Hid (Below w.heap.size w w3) := HB2.out.trans (B3.mono HB2.out.size)
      have HEQ := hide (bytesEqual32_any (.slice px bx.length cx) v bx bs w3 hx (isBy_below HV.out HB3.out) hbx HBB.out)
      by_cases e : bx = bs
      · have HFIN : Hid (CUnEnd32 5 bs n w (.returned (.tuple #[.slice p n cap, .int .i64 0])) w3) := by
          refine .inr ⟨_, f, rfl, ?_, by rw [← e]; exact hP, HRR.out.2⟩
          have h1 := HU.out.1
          have h2 := HB1.out.size
          refine ⟨(ownsRow_keepC32 h1 fun g hg1 hg2 => B3.block g hg2).mono h2, HB3.out, Nat.le_refl _⟩
        rw [decide_eq_true e] at HEQ
        clear hx hbx B3 hP huq e
        go_wp2_with fail
        refine HEQ.out.mono ?_
        rintro e w4 ⟨rfl, h4⟩
        have h4 := h4.symm
        subst h4
        go_wp2_with fail
        go_ret2
        exact HFIN.out
      · have HFIN : Hid (CUnEnd32 5 bs n w (.returned (.tuple #[.slice none 0 0, .int .i64 83])) w3) := by
          refine .inl ⟨rfl, HB3.out, fun h hPh => e ?_⟩
          exact (huq bs (hPh.congr fun i hi => (HRR.out.2 h hPh i hi).symm)).symm
        rw [decide_eq_false e] at HEQ
        clear hx hbx B3 hP huq e
        go_wp2_with fail
        refine HEQ.out.mono ?_
        rintro e w4 ⟨rfl, h4⟩
        have h4 := h4.symm
        subst h4
        go_wp2_with fail
        go_ret2
        exact HFIN.out
    · have HFIN : Hid (CUnEnd32 5 bs n w (.returned (.tuple #[.slice none 0 0, .int .i64 83])) w3) := by
        refine .inl ⟨rfl, HB2.out.trans (B3.mono HB2.out.size), fun h hPh => ?_⟩
        exact hno bs (hPh.congr fun i hi => (HRR.out.2 h hPh i hi).symm)
      clear B3 hno
      go_wp2_with fail
      go_ret2
      exact HFIN.out

set_option maxRecDepth 100000 in
theorem cUnpack32_6 (v : Value) (bs : List Nat) (n : Nat) (w : World) (hv : IsBy w v bs) (hb : ∀ n ∈ bs, n < 256) (hl : bs.length ≤ 1000000000000) (hn : n ≤ 4096) (hT : Tab64 w)
    (hcall : ∀ w1, Below w.heap.size w w1 → Calls Tryz.prog 50 #[v, .int .i64 n] w1 (TakeK32 6 bs n w1)) :
    Calls Tryz.prog 14 #[.int .i64 6, v, .int .i64 n] w (CUnEnd32 6 bs n w) := by
  have hf : Instr.findNow (.int .i64) (.int .i64 6) unpackersE32.toList 0 = some (some (5, .func (.func 50) #[] #[])) := by kernel_rfl
  have HV := hide hv
  have HBB := hide hb
  have HT := hide hT
  have HC := hide hcall
  have HAG := hide (fun p cap f w1 h1 h2 h3 h4 => cAgain32 6 p n cap f w1 (by omega) (by omega) h1 hn h2 h3 h4)
  clear hv hb hT hcall hl
  go_enter Tryz.func14, Tryz.ntmps14
  go_wp2_with fail
  refine (unpackers32_any w).mono ?_
  rintro e w1 ⟨rfl, b1, B1⟩
  have hlk := run_get (P := Tryz.prog) (w := w1) _ _ _ _ _ _ 6 _ _ Tryz.underlying80 Tryz.underlying3 b1 hf
  have HB1 := hide B1
  clear B1 b1 hf
  go_wp2_with fail
  refine (HC.out w1 HB1.out).mono ?_
  intro e w2 hE
  rcases hE with ⟨c, hc, rfl, B2, hno⟩ | ⟨u, f, rfl, hU, hr, hfull⟩
  · have hcn : (c != 0) = true := by rw [bne_iff_ne]; exact hc
    have HFIN : Hid (CUnEnd32 6 bs n w (.returned (.tuple #[.slice none 0 0, .int .i64 83])) w2) := .inl ⟨rfl, HB1.out.trans (B2.mono HB1.out.size), hno⟩
    clear hc B2 hno
    go_wp2_with fail
    go_ret2
    exact HFIN.out
  · obtain ⟨p, cap, rfl, hcap, hrow⟩ := hU.row
    have HU := hide hU
    have HRR := hide (And.intro hr hfull)
    have hB2 := hU.2.1
    have HB2 : Hid (Below w.heap.size w w2) := HB1.out.trans (hB2.mono HB1.out.size)
    have HAGN := hide (HAG.out p cap f w2 hrow hcap hr (HT.out.below HB2.out))
    clear hU hr hfull hrow hB2
    go_wp2_with fail
    refine HAGN.out.mono ?_
    intro e w3 hE
    rcases hE with ⟨px, cx, bx, rfl, hx, hbx, B3, hP, huq⟩ | ⟨rfl, B3, hno⟩
    · have HB3 : Hid (Below w.heap.size w w3) := HB2.out.trans (B3.mono HB2.out.size)
      have HEQ := hide (bytesEqual32_any (.slice px bx.length cx) v bx bs w3 hx (isBy_below HV.out HB3.out) hbx HBB.out)
      by_cases e : bx = bs
      · have HFIN : Hid (CUnEnd32 6 bs n w (.returned (.tuple #[.slice p n cap, .int .i64 0])) w3) := by
          refine .inr ⟨_, f, rfl, ?_, by rw [← e]; exact hP, HRR.out.2⟩
          have h1 := HU.out.1
          have h2 := HB1.out.size
          refine ⟨(ownsRow_keepC32 h1 fun g hg1 hg2 => B3.block g hg2).mono h2, HB3.out, Nat.le_refl _⟩
        rw [decide_eq_true e] at HEQ
        clear hx hbx B3 hP huq e
        go_wp2_with fail
        refine HEQ.out.mono ?_
        rintro e w4 ⟨rfl, h4⟩
        have h4 := h4.symm
        subst h4
        go_wp2_with fail
        go_ret2
        exact HFIN.out
      · have HFIN : Hid (CUnEnd32 6 bs n w (.returned (.tuple #[.slice none 0 0, .int .i64 83])) w3) := by
          refine .inl ⟨rfl, HB3.out, fun h hPh => e ?_⟩
          exact (huq bs (hPh.congr fun i hi => (HRR.out.2 h hPh i hi).symm)).symm
        rw [decide_eq_false e] at HEQ
        clear hx hbx B3 hP huq e
        go_wp2_with fail
        refine HEQ.out.mono ?_
        rintro e w4 ⟨rfl, h4⟩
        have h4 := h4.symm
        subst h4
        go_wp2_with fail
        go_ret2
        exact HFIN.out
    · have HFIN : Hid (CUnEnd32 6 bs n w (.returned (.tuple #[.slice none 0 0, .int .i64 83])) w3) := by
        refine .inl ⟨rfl, HB2.out.trans (B3.mono HB2.out.size), fun h hPh => ?_⟩
        exact hno bs (hPh.congr fun i hi => (HRR.out.2 h hPh i hi).symm)
      clear B3 hno
      go_wp2_with fail
      go_ret2
      exact HFIN.out

theorem cUnpack32_any (k : Nat) (v : Value) (bs : List Nat) (n : Nat) (w : World) (hk1 : 1 ≤ k) (hk6 : k ≤ 6) (hv : IsBy w v bs) (hb : ∀ n ∈ bs, n < 256) (hl : bs.length ≤ 1000000000000) (hn : n ≤ 4096) (hT : Tab64 w) :
    Calls Tryz.prog 14 #[.int .i64 k, v, .int .i64 n] w (CUnEnd32 k bs n w) := by
  obtain rfl | rfl | rfl | rfl | rfl | rfl : k = 1 ∨ k = 2 ∨ k = 3 ∨ k = 4 ∨ k = 5 ∨ k = 6 := by omega
  · exact cUnpack32_1 v bs n w hv hb hl hn hT fun w1 B1 => (unpackPlain32_any v bs n w1 (isBy_below hv B1) hb hl hn).mono fun e w' hE => takeK_of32 rfl (unEnd_of_vals32 (fun h => rfl) hn hE)
  · exact cUnpack32_2 v bs n w hv hb hl hn hT fun w1 B1 => (unpack32_any v bs n w1 (isBy_below hv B1) hb hl hn (hT.below B1)).mono fun e w' hE => takeK_xor32 hn hE
  · exact cUnpack32_3 v bs n w hv hb hl hn hT fun w1 B1 => (unpackRuns32_any v bs n w1 (isBy_below hv B1) hb hl hn).mono fun e w' hE => takeK_of32 rfl hE
  · exact cUnpack32_4 v bs n w hv hb hl hn hT fun w1 B1 => (unpackDict32_any v bs n w1 (isBy_below hv B1) hb hl hn).mono fun e w' hE => takeK_of32 rfl hE
  · exact cUnpack32_5 v bs n w hv hb hl hn hT fun w1 B1 => (unpackStride32_any v bs n w1 (isBy_below hv B1) hb hl hn).mono fun e w' hE => takeK_of32 rfl (unEnd_of_vals32 (fun h => rfl) hn hE)
  · exact cUnpack32_6 v bs n w hv hb hl hn hT fun w1 B1 => (unpackDecimal32_any v bs n w1 (isBy_below hv B1) hb hl hn).mono fun e w' hE => takeK_of32 rfl hE

end Go.Proofs.YtgjjkopmoobilaaGreatDoor

/- Best (32 bits). -/
namespace Go.Proofs.YtgjjkopmoobilaaGreatDoor
open Go.RowKit
open M
set_option linter.unusedVariables false
set_option linter.unusedSimpArgs false

/-- k is the best of the kinds up to q, bs its bytes. -/
structure Bst32 (n : Nat) (f : Nat → Nat) (q k : Nat) (bs : List Nat) : Prop where
  lo : 1 ≤ k
  hi : k ≤ q
  is : PackIs32 k n f bs
  least : ∀ k' bs', 1 ≤ k' → k' ≤ q → PackIs32 k' n f bs' → bs.length < bs'.length ∨ (bs.length = bs'.length ∧ k ≤ k')

/-- What Best tells. -/
def BestEnd32 (n : Nat) (f : Nat → Nat) (w : World) (e : Ending) (w' : World) : Prop :=
  ∃ (k : Nat) (p : Option Addr) (c : Nat) (bs : List Nat), e = .returned (.tuple #[.int .i64 (k : Int), .slice p bs.length c, .int .i64 0]) ∧ IsBy w' (.slice p bs.length c) bs ∧ (∀ n ∈ bs, n < 256) ∧ Bst32 n f 6 k bs ∧ Below w.heap.size w w'

set_option maxRecDepth 100000 in
theorem best32_any (p : Option Addr) (n cap : Nat) (f : Nat → Nat) (w : World) (h : URow32 w p n f) (hn : n ≤ 4096) (hcap : n ≤ cap) (hf : ∀ i, i < n → f i < 4294967296) (hT : Tab64 w) :
    Calls Tryz.prog 32 #[.slice p n cap] w (BestEnd32 n f w) := by
  have HAG := hide (fun k w1 (hk1 : 1 ≤ k) (hk6 : k ≤ 6) (hB : Below w.heap.size w w1) => cAgain32 k p n cap f w1 hk1 hk6 (h.below hB) hn hcap hf (hT.below hB))
  have HA1 := hide (cAgain32 1 p n cap f w (by omega) (by omega) h hn hcap hf hT)
  have HN1 : Hid (∀ w' e, AgainEnd32 1 n f w e w' → ∃ (pu : Option Addr) (cu : Nat) (bs : List Nat), e = .returned (.tuple #[.slice pu bs.length cu, .int .i64 0]) ∧ IsBy w' (.slice pu bs.length cu) bs ∧ (∀ n ∈ bs, n < 256) ∧ Below w.heap.size w w' ∧ Bst32 n f 1 1 bs) := fun w' e hE => by
    rcases hE with ⟨pu, cu, bs, h1, h2, h3, h4, h5, h6⟩ | ⟨_, _, h3⟩
    · refine ⟨pu, cu, bs, h1, h2, h3, h4, Nat.le_refl _, Nat.le_refl _, h5, fun k' bs' hk1 hk2 hP => ?_⟩
      obtain rfl : k' = 1 := by omega
      exact .inr ⟨by rw [h6 bs' hP], Nat.le_refl _⟩
    · exfalso
      by_cases h0 : n = 0
      · exact h3 [] ⟨hf, fun _ => rfl, fun h => by omega⟩
      · exact h3 _ ⟨hf, fun h => absurd h h0, fun _ => ⟨_, rfl, rfl⟩⟩
  clear h hf hT
  go_enter Tryz.func32, Tryz.ntmps32
  go_wp2_with fail
  refine HA1.out.mono ?_
  intro e w1 hE
  obtain ⟨pu, cu, bs, rfl, h2, h3, h4, h5⟩ := HN1.out w1 e hE
  have H1 := hide (And.intro h2 (And.intro h3 (And.intro h4 h5)))
  clear hE h2 h3 h4 h5 HN1 HA1
  go_wp2_with fail
  go_loopw [5, 6, 8] (fun t5 t6 t8 wr => ∃ (q k : Nat) (pu : Option Addr) (cu : Nat) (bs : List Nat), t8 = .int .i64 ((q : Int) + 1) ∧ t5 = .int .i64 (k : Int) ∧ t6 = .slice pu bs.length cu ∧ Hid (q ≤ 6 ∧ IsBy wr (.slice pu bs.length cu) bs ∧ (∀ n ∈ bs, n < 256) ∧ Bst32 n f q k bs ∧ Below w.heap.size w wr)) (fun _ _ t8 _ => 7 - (intOf t8).toNat)
  case atStart => exact ⟨1, 1, pu, cu, bs, rfl, rfl, rfl, by omega, H1.out.1, H1.out.2.1, H1.out.2.2.2, H1.out.2.2.1⟩
  case round =>
    obtain ⟨q, k, pu, cu, bs, rfl, rfl, rfl, hI⟩ := hrel
    by_cases hlt : q + 1 ≤ 6
    · have hle : (q : Int) + 1 ≤ 6 := by omega
      have HQ := hide (HAG.out (q + 1) wr (by omega) hlt hI.out.2.2.2.2)
      rw [show (((q + 1 : Nat)) : Int) = (q : Int) + 1 from by simp] at HQ
      go_wp2_with fail
      refine HQ.out.mono ?_
      intro e w2 hE
      rcases hE with ⟨pv, cv, bv, rfl, h2, h3, h4, h5, h6⟩ | ⟨rfl, h2, h3⟩
      · have HBB : Hid (Below w.heap.size w w2) := hI.out.2.2.2.2.trans (h4.mono hI.out.2.2.2.2.size)
        have HOLD : Hid (IsBy w2 (.slice pu bs.length cu) bs) := isBy_below hI.out.2.1 h4
        by_cases hl : bv.length < bs.length
        · have HN : Hid (Bst32 n f (q + 1) (q + 1) bv) := by
            refine ⟨by omega, Nat.le_refl _, h5, fun k' bs' hk1 hk2 hP => ?_⟩
            by_cases e : k' = q + 1
            · subst e; exact .inr ⟨by rw [h6 bs' hP], Nat.le_refl _⟩
            · rcases hI.out.2.2.2.1.least k' bs' hk1 (by omega) hP with h | h
              · exact .inl (by omega)
              · exact .inl (by omega)
          have HNB := hide (And.intro h2 h3)
          clear h2 h3 h4 h5 h6
          go_wp2_with fail
          go_roundw
          case rel => exact ⟨q + 1, q + 1, pv, cv, bv, by simp, by simp, by simp, hlt, HNB.out.1, HNB.out.2, HN.out, HBB.out⟩
          case measure => simp [intOf]; omega
        · have HN : Hid (Bst32 n f (q + 1) k bs) := by
            have B := hI.out.2.2.2.1
            refine ⟨B.lo, by have := B.hi; omega, B.is, fun k' bs' hk1 hk2 hP => ?_⟩
            by_cases e : k' = q + 1
            · subst e
              rw [h6 bs' hP]
              have := B.hi
              omega
            · exact B.least k' bs' hk1 (by omega) hP
          have H3 := hide hI.out.2.2.1
          clear h2 h3 h4 h5 h6 hI
          go_wp2_with fail
          go_roundw
          case rel => exact ⟨q + 1, k, pu, cu, bs, by simp, by simp, by simp, hlt, HOLD.out, H3.out, HN.out, HBB.out⟩
          case measure => simp [intOf]; omega
      · have HBB : Hid (Below w.heap.size w w2) := hI.out.2.2.2.2.trans (h2.mono hI.out.2.2.2.2.size)
        have HOLD : Hid (IsBy w2 (.slice pu bs.length cu) bs) := isBy_below hI.out.2.1 h2
        have HN : Hid (Bst32 n f (q + 1) k bs) := by
          have B := hI.out.2.2.2.1
          refine ⟨B.lo, by have := B.hi; omega, B.is, fun k' bs' hk1 hk2 hP => ?_⟩
          by_cases e : k' = q + 1
          · subst e; exact (h3 bs' hP).elim
          · exact B.least k' bs' hk1 (by omega) hP
        have H3 := hide hI.out.2.2.1
        clear h2 h3 hI
        go_wp2_with fail
        go_roundw
        case rel => exact ⟨q + 1, k, pu, cu, bs, by simp, by simp, by simp, hlt, HOLD.out, H3.out, HN.out, HBB.out⟩
        case measure => simp [intOf]; omega
    · have hq : q = 6 := by have := hI.out.1; omega
      subst hq
      have HFIN : Hid (BestEnd32 n f w (.returned (.tuple #[.int .i64 (k : Int), .slice pu bs.length cu, .int .i64 0])) wr) := ⟨k, pu, cu, bs, rfl, hI.out.2.1, hI.out.2.2.1, hI.out.2.2.2.1, hI.out.2.2.2.2⟩
      go_wp2_with fail
      go_ret3
      exact HFIN.out

end Go.Proofs.YtgjjkopmoobilaaGreatDoor

namespace Go.Proofs.YtgjjkopmoobilaaGreatDoor
open Go.RowKit
open M
set_option linter.unusedVariables false
set_option linter.unusedSimpArgs false

theorem unpackersE64_known (k : Nat) (h1 : 1 ≤ k) (h6 : k ≤ 6) : ∃ i v, Instr.findNow (.int .i64) (.int .i64 (k : Int)) unpackersE64.toList 0 = some (some (i, v)) := by
  obtain rfl | rfl | rfl | rfl | rfl | rfl : k = 1 ∨ k = 2 ∨ k = 3 ∨ k = 4 ∨ k = 5 ∨ k = 6 := by omega
  all_goals exact ⟨_, _, rfl⟩

set_option maxRecDepth 100000 in
theorem cUnpack64_none (k n : Int) (v : Value) (w : World) (h : k < 1 ∨ 6 < k) :
    Calls Tryz.prog 13 #[.int .i64 k, v, .int .i64 n] w fun e w' => e = .returned (.tuple #[.slice none 0 0, .int .i64 80]) ∧ Below w.heap.size w w' := by
  have hz : ∀ w1 : World, (zeroValue 73).run Tryz.prog w1 = .ok .nilFunc w1 := fun w1 => by kernel_rfl
  have hf : Instr.findNow (.int .i64) (.int .i64 k) unpackersE64.toList 0 = some none := by
    have e1 : (k == 1) = false := by rw [beq_eq_false_iff_ne]; omega
    have e2 : (k == 2) = false := by rw [beq_eq_false_iff_ne]; omega
    have e3 : (k == 3) = false := by rw [beq_eq_false_iff_ne]; omega
    have e4 : (k == 4) = false := by rw [beq_eq_false_iff_ne]; omega
    have e5 : (k == 5) = false := by rw [beq_eq_false_iff_ne]; omega
    have e6 : (k == 6) = false := by rw [beq_eq_false_iff_ne]; omega
    simp [unpackersE64, Instr.findNow, Instr.sameNow, e1, e2, e3, e4, e5, e6]
  clear h
  go_enter Tryz.func13, Tryz.ntmps13
  go_wp2_with fail
  refine (unpackers64_any w).mono ?_
  rintro e w1 ⟨rfl, b1, B1⟩
  have hl := run_none (P := Tryz.prog) (w := w1) _ _ _ _ _ _ k _ Tryz.underlying75 Tryz.underlying3 b1 hf (hz _)
  have HB := hide B1
  clear B1 b1 hf hz
  go_wp2_with fail
  go_ret2
  exact ⟨rfl, HB.out⟩

set_option maxRecDepth 100000 in
theorem cUnpack64_count (k : Nat) (n : Int) (v : Value) (w : World) (h1 : 1 ≤ k) (h6 : k ≤ 6) (hn : n < 0 ∨ 4096 < n) :
    Calls Tryz.prog 13 #[.int .i64 k, v, .int .i64 n] w fun e w' => e = .returned (.tuple #[.slice none 0 0, .int .i64 81]) ∧ Below w.heap.size w w' := by
  obtain ⟨i, u, hf⟩ := unpackersE64_known k h1 h6
  by_cases h0 : n < 0
  · clear hn
    go_enter Tryz.func13, Tryz.ntmps13
    go_wp2_with fail
    refine (unpackers64_any w).mono ?_
    rintro e w1 ⟨rfl, b1, B1⟩
    have hl := run_get (P := Tryz.prog) (w := w1) _ _ _ _ _ _ k _ _ Tryz.underlying75 Tryz.underlying3 b1 hf
    have HB := hide B1
    clear B1 b1 hf
    go_wp2_with fail
    go_ret2
    exact ⟨rfl, HB.out⟩
  · have h4 : 4096 < n := by omega
    clear hn
    go_enter Tryz.func13, Tryz.ntmps13
    go_wp2_with fail
    refine (unpackers64_any w).mono ?_
    rintro e w1 ⟨rfl, b1, B1⟩
    have hl := run_get (P := Tryz.prog) (w := w1) _ _ _ _ _ _ k _ _ Tryz.underlying75 Tryz.underlying3 b1 hf
    have HB := hide B1
    clear B1 b1 hf
    go_wp2_with fail
    go_ret2
    exact ⟨rfl, HB.out⟩

/-- What Unpack tells, of whatever. -/
def UAns64 (k n : Int) (bs : List Nat) (w : World) (e : Ending) (w' : World) : Prop :=
  (∃ c : Int, e = .returned (.tuple #[.slice none 0 0, .int .i64 c]) ∧ (c == 0) = false ∧ (c == 80) = decide (k < 1 ∨ 6 < k) ∧ Below w.heap.size w w') ∨
  ∃ (kk nn : Nat) (p : Option Addr) (cap : Nat) (f : Nat → Nat), k = (kk : Int) ∧ n = (nn : Int) ∧ 1 ≤ kk ∧ kk ≤ 6 ∧ nn ≤ 4096 ∧ e = .returned (.tuple #[.slice p nn cap, .int .i64 0]) ∧ nn ≤ cap ∧ URow64 w' p nn f ∧ PackIs64 kk nn f bs ∧ Below w.heap.size w w'

theorem unpack64_all (k n : Int) (v : Value) (bs : List Nat) (w : World) (hv : IsBy w v bs) (hb : ∀ n ∈ bs, n < 256) (hl : bs.length ≤ 1000000000000) (hT : Tab64 w) :
    Calls Tryz.prog 13 #[.int .i64 k, v, .int .i64 n] w (UAns64 k n bs w) := by
  by_cases hk : k < 1 ∨ 6 < k
  · refine (cUnpack64_none k n v w hk).mono ?_
    rintro e w' ⟨rfl, hB⟩
    exact .inl ⟨80, rfl, rfl, by rw [decide_eq_true hk]; rfl, hB⟩
  · obtain ⟨kk, rfl⟩ : ∃ kk : Nat, k = (kk : Int) := ⟨k.toNat, by omega⟩
    by_cases hn : n < 0 ∨ 4096 < n
    · refine (cUnpack64_count kk n v w (by omega) (by omega) hn).mono ?_
      rintro e w' ⟨rfl, hB⟩
      exact .inl ⟨81, rfl, rfl, by rw [decide_eq_false hk]; rfl, hB⟩
    · obtain ⟨nn, rfl⟩ : ∃ nn : Nat, n = (nn : Int) := ⟨n.toNat, by omega⟩
      refine (cUnpack64_any kk v bs nn w (by omega) (by omega) hv hb hl (by omega) hT).mono ?_
      rintro e w' (⟨rfl, hB, _⟩ | ⟨u, f, rfl, hU, hP, _⟩)
      · exact .inl ⟨83, rfl, rfl, by rw [decide_eq_false hk]; rfl, hB⟩
      · obtain ⟨p, cap, rfl, hcap, hrow⟩ := hU.row
        exact .inr ⟨kk, nn, p, cap, f, rfl, rfl, by omega, by omega, by omega, rfl, hcap, hrow, hP, hU.2.1⟩

/-- Pack of what was taken makes these bytes. -/
theorem again64_is (kk : Nat) (p : Option Addr) (nn cap : Nat) (f : Nat → Nat) (bs : List Nat) (w : World) (h1 : 1 ≤ kk) (h6 : kk ≤ 6) (h : URow64 w p nn f) (hn : nn ≤ 4096) (hcap : nn ≤ cap) (hP : PackIs64 kk nn f bs) (hT : Tab64 w) :
    Calls Tryz.prog 16 #[.int .i64 kk, .slice p nn cap] w fun e w' => ∃ (pu : Option Addr) (cu : Nat), e = .returned (.tuple #[.slice pu bs.length cu, .int .i64 0]) ∧ IsBy w' (.slice pu bs.length cu) bs ∧ Below w.heap.size w w' := by
  refine (cAgain64 kk p nn cap f w h1 h6 h hn hcap hP.1 hT).mono ?_
  rintro e w' (⟨pu, cu, b2, rfl, q2, _, q4, q5, q6⟩ | ⟨_, _, q3⟩)
  · obtain rfl := q6 bs hP
    exact ⟨pu, cu, rfl, q2, q4⟩
  · exact (q3 bs hP).elim

theorem unpackersE32_known (k : Nat) (h1 : 1 ≤ k) (h6 : k ≤ 6) : ∃ i v, Instr.findNow (.int .i64) (.int .i64 (k : Int)) unpackersE32.toList 0 = some (some (i, v)) := by
  obtain rfl | rfl | rfl | rfl | rfl | rfl : k = 1 ∨ k = 2 ∨ k = 3 ∨ k = 4 ∨ k = 5 ∨ k = 6 := by omega
  all_goals exact ⟨_, _, rfl⟩

set_option maxRecDepth 100000 in
theorem cUnpack32_none (k n : Int) (v : Value) (w : World) (h : k < 1 ∨ 6 < k) :
    Calls Tryz.prog 14 #[.int .i64 k, v, .int .i64 n] w fun e w' => e = .returned (.tuple #[.slice none 0 0, .int .i64 80]) ∧ Below w.heap.size w w' := by
  have hz : ∀ w1 : World, (zeroValue 78).run Tryz.prog w1 = .ok .nilFunc w1 := fun w1 => by kernel_rfl
  have hf : Instr.findNow (.int .i64) (.int .i64 k) unpackersE32.toList 0 = some none := by
    have e1 : (k == 1) = false := by rw [beq_eq_false_iff_ne]; omega
    have e2 : (k == 2) = false := by rw [beq_eq_false_iff_ne]; omega
    have e3 : (k == 3) = false := by rw [beq_eq_false_iff_ne]; omega
    have e4 : (k == 4) = false := by rw [beq_eq_false_iff_ne]; omega
    have e5 : (k == 5) = false := by rw [beq_eq_false_iff_ne]; omega
    have e6 : (k == 6) = false := by rw [beq_eq_false_iff_ne]; omega
    simp [unpackersE32, Instr.findNow, Instr.sameNow, e1, e2, e3, e4, e5, e6]
  clear h
  go_enter Tryz.func14, Tryz.ntmps14
  go_wp2_with fail
  refine (unpackers32_any w).mono ?_
  rintro e w1 ⟨rfl, b1, B1⟩
  have hl := run_none (P := Tryz.prog) (w := w1) _ _ _ _ _ _ k _ Tryz.underlying80 Tryz.underlying3 b1 hf (hz _)
  have HB := hide B1
  clear B1 b1 hf hz
  go_wp2_with fail
  go_ret2
  exact ⟨rfl, HB.out⟩

set_option maxRecDepth 100000 in
theorem cUnpack32_count (k : Nat) (n : Int) (v : Value) (w : World) (h1 : 1 ≤ k) (h6 : k ≤ 6) (hn : n < 0 ∨ 4096 < n) :
    Calls Tryz.prog 14 #[.int .i64 k, v, .int .i64 n] w fun e w' => e = .returned (.tuple #[.slice none 0 0, .int .i64 81]) ∧ Below w.heap.size w w' := by
  obtain ⟨i, u, hf⟩ := unpackersE32_known k h1 h6
  by_cases h0 : n < 0
  · clear hn
    go_enter Tryz.func14, Tryz.ntmps14
    go_wp2_with fail
    refine (unpackers32_any w).mono ?_
    rintro e w1 ⟨rfl, b1, B1⟩
    have hl := run_get (P := Tryz.prog) (w := w1) _ _ _ _ _ _ k _ _ Tryz.underlying80 Tryz.underlying3 b1 hf
    have HB := hide B1
    clear B1 b1 hf
    go_wp2_with fail
    go_ret2
    exact ⟨rfl, HB.out⟩
  · have h4 : 4096 < n := by omega
    clear hn
    go_enter Tryz.func14, Tryz.ntmps14
    go_wp2_with fail
    refine (unpackers32_any w).mono ?_
    rintro e w1 ⟨rfl, b1, B1⟩
    have hl := run_get (P := Tryz.prog) (w := w1) _ _ _ _ _ _ k _ _ Tryz.underlying80 Tryz.underlying3 b1 hf
    have HB := hide B1
    clear B1 b1 hf
    go_wp2_with fail
    go_ret2
    exact ⟨rfl, HB.out⟩

/-- What Unpack tells, of whatever. -/
def UAns32 (k n : Int) (bs : List Nat) (w : World) (e : Ending) (w' : World) : Prop :=
  (∃ c : Int, e = .returned (.tuple #[.slice none 0 0, .int .i64 c]) ∧ (c == 0) = false ∧ (c == 80) = decide (k < 1 ∨ 6 < k) ∧ Below w.heap.size w w') ∨
  ∃ (kk nn : Nat) (p : Option Addr) (cap : Nat) (f : Nat → Nat), k = (kk : Int) ∧ n = (nn : Int) ∧ 1 ≤ kk ∧ kk ≤ 6 ∧ nn ≤ 4096 ∧ e = .returned (.tuple #[.slice p nn cap, .int .i64 0]) ∧ nn ≤ cap ∧ URow32 w' p nn f ∧ PackIs32 kk nn f bs ∧ Below w.heap.size w w'

theorem unpack32_all (k n : Int) (v : Value) (bs : List Nat) (w : World) (hv : IsBy w v bs) (hb : ∀ n ∈ bs, n < 256) (hl : bs.length ≤ 1000000000000) (hT : Tab64 w) :
    Calls Tryz.prog 14 #[.int .i64 k, v, .int .i64 n] w (UAns32 k n bs w) := by
  by_cases hk : k < 1 ∨ 6 < k
  · refine (cUnpack32_none k n v w hk).mono ?_
    rintro e w' ⟨rfl, hB⟩
    exact .inl ⟨80, rfl, rfl, by rw [decide_eq_true hk]; rfl, hB⟩
  · obtain ⟨kk, rfl⟩ : ∃ kk : Nat, k = (kk : Int) := ⟨k.toNat, by omega⟩
    by_cases hn : n < 0 ∨ 4096 < n
    · refine (cUnpack32_count kk n v w (by omega) (by omega) hn).mono ?_
      rintro e w' ⟨rfl, hB⟩
      exact .inl ⟨81, rfl, rfl, by rw [decide_eq_false hk]; rfl, hB⟩
    · obtain ⟨nn, rfl⟩ : ∃ nn : Nat, n = (nn : Int) := ⟨n.toNat, by omega⟩
      refine (cUnpack32_any kk v bs nn w (by omega) (by omega) hv hb hl (by omega) hT).mono ?_
      rintro e w' (⟨rfl, hB, _⟩ | ⟨u, f, rfl, hU, hP, _⟩)
      · exact .inl ⟨83, rfl, rfl, by rw [decide_eq_false hk]; rfl, hB⟩
      · obtain ⟨p, cap, rfl, hcap, hrow⟩ := hU.row
        exact .inr ⟨kk, nn, p, cap, f, rfl, rfl, by omega, by omega, by omega, rfl, hcap, hrow, hP, hU.2.1⟩

/-- Pack of what was taken makes these bytes. -/
theorem again32_is (kk : Nat) (p : Option Addr) (nn cap : Nat) (f : Nat → Nat) (bs : List Nat) (w : World) (h1 : 1 ≤ kk) (h6 : kk ≤ 6) (h : URow32 w p nn f) (hn : nn ≤ 4096) (hcap : nn ≤ cap) (hP : PackIs32 kk nn f bs) (hT : Tab64 w) :
    Calls Tryz.prog 17 #[.int .i64 kk, .slice p nn cap] w fun e w' => ∃ (pu : Option Addr) (cu : Nat), e = .returned (.tuple #[.slice pu bs.length cu, .int .i64 0]) ∧ IsBy w' (.slice pu bs.length cu) bs ∧ Below w.heap.size w w' := by
  refine (cAgain32 kk p nn cap f w h1 h6 h hn hcap hP.1 hT).mono ?_
  rintro e w' (⟨pu, cu, b2, rfl, q2, _, q4, q5, q6⟩ | ⟨_, _, q3⟩)
  · obtain rfl := q6 bs hP
    exact ⟨pu, cu, rfl, q2, q4⟩
  · exact (q3 bs hP).elim

end Go.Proofs.YtgjjkopmoobilaaGreatDoor

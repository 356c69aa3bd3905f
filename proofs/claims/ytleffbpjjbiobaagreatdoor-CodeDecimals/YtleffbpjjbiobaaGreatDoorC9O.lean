/- What comes in: numbers and a power. -/
import Derived.Test.YtleffbpjjbiobaaGreatDoorP2F
import Derived.Test.YtleffbpjjbiobaaGreatDoorC9U
import Derived.Test.YtleffbpjjbiobaaGreatDoorC6H
import Derived.Deep.CutBlock
import Derived.Deep.DeepCutAuto
import Derived.Deep.CutRange
import Derived.ProofKit
import Derived.OpenShut
import Derived.Deep.Slices
import Derived.Lib.SmallJoins
import Derived.Deep.MidRow
import Derived.SizedLaws
/- CodeDecimals: Pack of quotients, by both widths; two rows of unlike types side by side. -/
namespace Go.Proofs.YtleffbpjjbiobaaGreatDoor
open Go.RowKit
open M
set_option linter.unusedVariables false
set_option linter.unusedSimpArgs false

theorem packIs6_len64 (n : Nat) (f : Nat → Nat) (hn : n ≤ 4096) : (packed (F64.dm 64 f n)).length ≤ 1000000000000 := by
  have := dm_len64 f n
  rw [packed_length]; omega
theorem packIs6_len32 (n : Nat) (f : Nat → Nat) (hn : n ≤ 4096) : (packed (F32.dm 32 f n)).length ≤ 1000000000000 := by
  have := dm_len32 f n
  rw [packed_length]; omega

/-- What Pack tells of quotients of few digits. -/
def DecEnd64 (n N : Nat) (f : Nat → Nat) (w : World) (e : Ending) (w' : World) : Prop := ∃ (g : Nat) (bs : List Nat), e = .returned (.tuple #[.slice (some ⟨g, 0, none⟩) bs.length bs.length, .int .i64 0]) ∧
  w'.heap[g]? = some (.cells (bytesV bs).toArray 5 (0, 0)) ∧ Below w.heap.size w w' ∧ PackIs64 6 n f bs ∧ (2 ≤ bs.length ∧ bs.getD 0 0 % 8 = 0 ∧ bs.getD 1 0 / 8 = 0) ∧ bs.length ≤ (N + 7) / 8 ∧ bs.length ≤ 1000000000000 ∧ ∀ n ∈ bs, n < 256
def DecEnd32 (n N : Nat) (f : Nat → Nat) (w : World) (e : Ending) (w' : World) : Prop := ∃ (g : Nat) (bs : List Nat), e = .returned (.tuple #[.slice (some ⟨g, 0, none⟩) bs.length bs.length, .int .i64 0]) ∧
  w'.heap[g]? = some (.cells (bytesV bs).toArray 5 (0, 0)) ∧ Below w.heap.size w w' ∧ DIs32 6 n f bs ∧ (2 ≤ bs.length ∧ bs.getD 0 0 % 8 = 0 ∧ bs.getD 1 0 / 8 = 0) ∧ bs.length ≤ (N + 7) / 8 ∧ bs.length ≤ 1000000000000 ∧ ∀ n ∈ bs, n < 256

theorem dec64_pack (p : Option Addr) (n cap q : Nat) (f : Nat → Nat) (k : Nat → Int) (w : World) (h : URow64 w p n f) (h0 : 0 < n) (hn : n ≤ 4096) (hcap : n ≤ cap) (hT : Tab64 w) (hq : q ≤ 22) (hk : ∀ i, i < n → -999999999999999 ≤ k i ∧ k i ≤ 999999999999999) (hf : ∀ i, i < n → f i = F64.val q (k i)) :
    Calls Tryz.prog 16 #[.int .i64 6, .slice p n cap] w (DecEnd64 n (13 + lsum k 0 n 0) f w) := by
  have hlt : ∀ i, i < n → f i < 18446744073709551616 := fun i hi => by rw [hf i hi]; exact F64_div_lt _ _
  obtain ⟨q', r, he, hr⟩ := F64.dm_few few64 64 f k n q hq hk hf
  refine (cPack64_some 6 p n cap f w (by omega) (by omega) h h0 hn hcap hlt hT).mono ?_
  intro e w' hE
  have e6 : codeO64 6 f n = some (F64.dm 64 f n) := rfl
  rw [e6] at hE
  obtain ⟨g, L, h1, h2, h3, h4, h5⟩ := hE
  subst h1
  have hl := packIs6_len64 n f hn
  have hnb := none_bits q' r
  have hlen : (packed (F64.dm 64 f n)).length ≤ ((13 + lsum k 0 n 0) + 7) / 8 := by
    rw [packed_length, he]
    simp only [List.length_append, bitsOf_length]
    omega
  refine ⟨g, packed (F64.dm 64 f n), h3, h4, h5, ⟨hlt, fun h => by omega, fun _ => ⟨_, rfl, rfl⟩⟩, ?_, hlen, hl, packed_lt _⟩
  rw [he]; exact hnb

theorem dec32_pack (p : Option Addr) (n cap q : Nat) (f : Nat → Nat) (k : Nat → Int) (w : World) (h : URow32 w p n f) (h0 : 0 < n) (hn : n ≤ 4096) (hcap : n ≤ cap) (hq : q ≤ 10) (hk : ∀ i, i < n → -999999 ≤ k i ∧ k i ≤ 999999) (hf : ∀ i, i < n → f i = F32.val q (k i)) :
    Calls Tryz.prog 17 #[.int .i64 6, .slice p n cap] w (DecEnd32 n (13 + lsum k 0 n 0) f w) := by
  have hlt : ∀ i, i < n → f i < 4294967296 := fun i hi => by rw [hf i hi]; exact F32_div_lt _ _
  obtain ⟨q', r, he, hr⟩ := F32.dm_few few32 32 f k n q hq hk hf
  refine (dPack32_some p n cap f w h h0 hn hcap hlt).mono ?_
  intro e w' hE
  obtain ⟨g, L, h1, h2, h3, h4, h5⟩ := hE
  subst h1
  have hl := packIs6_len32 n f hn
  have hnb := none_bits q' r
  have hlen : (packed (F32.dm 32 f n)).length ≤ ((13 + lsum k 0 n 0) + 7) / 8 := by
    rw [packed_length, he]
    simp only [List.length_append, bitsOf_length]
    omega
  refine ⟨g, packed (F32.dm 32 f n), h3, h4, h5, ⟨hlt, fun h => by omega, fun _ => ⟨_, rfl, rfl⟩⟩, ?_, hlen, hl, packed_lt _⟩
  rw [he]; exact hnb

theorem ap_symm9 {a b : Option Nat} (h : a = none ∨ a ≠ b) : b = none ∨ b ≠ a := by
  rcases h with h | h
  · subst h; cases b <;> simp
  · exact .inr fun e => h e.symm

/-- A row of uint64s and one of uint32s, of one's own. -/
structure D2 (B : Nat) (w0 wr : World) (n m : Nat) (f g : Nat → Nat) (v1 v2 : Value) : Prop where
  o1 : wr.ownsRow B 39 1 v1 n (valsV64 n f)
  o2 : wr.ownsRow B 42 1 v2 m (valsV32 m g)
  a : v1.ownBlock = none ∨ v1.ownBlock ≠ v2.ownBlock
  bel : Below B w0 wr
  hB : B ≤ w0.heap.size

theorem D2.nil (w : World) (f g : Nat → Nat) : D2 w.heap.size w w 0 0 f g (.slice none 0 0) (.slice none 0 0) :=
  ⟨World.ownsRow_nil _ _ _ _, World.ownsRow_nil _ _ _ _, .inl rfl, Below.refl _ _, Nat.le_refl _⟩

theorem D2.keep {B : Nat} {w0 wr wa : World} {n m : Nat} {f g : Nat → Nat} {v1 v2 : Value} (h : D2 B w0 wr n m f g v1 v2) (ha : Below wr.heap.size wr wa) : D2 B w0 wa n m f g v1 v2 :=
  ⟨ownsRow_keepC64 h.o1 fun g _ hg => ha.block g hg, ownsRow_keepC64 h.o2 fun g _ hg => ha.block g hg, h.a, h.bel.trans (ha.mono (Nat.le_trans h.hB h.bel.size)), h.hB⟩

theorem D2.step1 {B : Nat} {w0 wr w4 : World} {n m t b cap : Nat} {f g : Nat → Nat} {v1 v2 : Value} (h : D2 B w0 wr n m f g v1 v2) (ht : t = f n)
    (ho : w4.ownsRow B 39 1 (.slice (some ⟨b, 0, none⟩) (n + 1) cap) (n + 1) (valsV64 n f ++ [.int .u64 (t : Int)])) (hg : wr.grownBy w4 v1.ownBlock) (hat : v1.ownBlock = some b ∨ b = wr.heap.size) :
    D2 B w0 w4 (n + 1) m f g (.slice (some ⟨b, 0, none⟩) (n + 1) cap) v2 := by
  subst ht
  have ap : v2.ownBlock = none ∨ v2.ownBlock ≠ some b := by
    rcases hat with e | e
    · have := ap_symm9 h.a; rw [e] at this; exact this
    · refine .inr fun e2 => ?_
      have := (h.o2.lt b e2).2
      omega
  exact ⟨by rw [valsV64_succ]; exact ho, h.o2.kept hg (ap_symm9 h.a), ap_symm9 ap, h.bel.trans (grown_below64 hg (fun k hk => (h.o1.lt k hk).1) (Nat.le_trans h.hB h.bel.size)), h.hB⟩

theorem D2.step2 {B : Nat} {w0 wr w4 : World} {n m t b cap : Nat} {f g : Nat → Nat} {v1 v2 : Value} (h : D2 B w0 wr n m f g v1 v2) (ht : t = g m)
    (ho : w4.ownsRow B 42 1 (.slice (some ⟨b, 0, none⟩) (m + 1) cap) (m + 1) (valsV32 m g ++ [.int .u32 (t : Int)])) (hg : wr.grownBy w4 v2.ownBlock) (hat : v2.ownBlock = some b ∨ b = wr.heap.size) :
    D2 B w0 w4 n (m + 1) f g v1 (.slice (some ⟨b, 0, none⟩) (m + 1) cap) := by
  subst ht
  have ap : v1.ownBlock = none ∨ v1.ownBlock ≠ some b := by
    rcases hat with e | e
    · have := h.a; rw [e] at this; exact this
    · refine .inr fun e2 => ?_
      have := (h.o1.lt b e2).2
      omega
  exact ⟨h.o1.kept hg h.a, by rw [valsV32_succ]; exact ho, ap, h.bel.trans (grown_below64 hg (fun k hk => (h.o2.lt k hk).1) (Nat.le_trans h.hB h.bel.size)), h.hB⟩

theorem D2.row1 {B : Nat} {w0 wr : World} {n m : Nat} {f g : Nat → Nat} {v1 v2 : Value} (h : D2 B w0 wr n m f g v1 v2) : ∃ ad cap, v1 = .slice ad n cap ∧ n ≤ cap ∧ URow64 wr ad n f := USt64.row ⟨h.o1, h.bel, h.hB⟩
theorem D2.row2 {B : Nat} {w0 wr : World} {n m : Nat} {f g : Nat → Nat} {v1 v2 : Value} (h : D2 B w0 wr n m f g v1 v2) : ∃ ad cap, v2 = .slice ad m cap ∧ m ≤ cap ∧ URow32 wr ad m g := USt32.row ⟨h.o2, h.bel, h.hB⟩

end Go.Proofs.YtleffbpjjbiobaaGreatDoor

/- CodeDecimals: the walk. -/
namespace Go.Proofs.YtleffbpjjbiobaaGreatDoor
open Go.RowKit
open M
set_option linter.unusedVariables false
set_option linter.unusedSimpArgs false

/-- A row of int64s. -/
def IRow (w : World) (p : Option Addr) (n : Nat) (k : Nat → Int) : Prop := 0 < n → ∃ b o, p = some ⟨b, o, none⟩ ∧ ∀ i, i < n → w.cell? ⟨b, o + i, none⟩ = some (.int .i64 (k i))
theorem IRow.below {w w' : World} {p : Option Addr} {n : Nat} {k : Nat → Int} (h : IRow w p n k) (hB : Below w.heap.size w w') : IRow w' p n k := fun h0 => by
  obtain ⟨b, o, h1, h2⟩ := h h0
  exact ⟨b, o, h1, fun i hi => by rw [hB.cell (p := ⟨b, o + i, none⟩) (block_lt_of_cell (h2 i hi))]; exact h2 i hi⟩

theorem lsum_le (k : Nat → Int) (i m : Nat) (a : Int) : lsum k i m a ≤ 80 * m := by
  induction m generalizing i a with
  | zero => simp [lsum]
  | succ m ih =>
    have h1 := ih (i + 1) (k i)
    have h2 := varB_le (zig (k i - a))
    rw [lsum]; omega

/-- The number ahead of the i-th. -/
def prevK (k : Nat → Int) (i : Nat) : Int := if i = 0 then 0 else k (i - 1)
theorem lsum_next (k : Nat → Int) (m : Nat) : lsum k 0 (m + 1) 0 = lsum k 0 m 0 + (varB (zig (k m - prevK k m))).length := by
  have := lsum_end k 0 m 0
  simpa [prevK] using this
theorem prevK_next (k : Nat → Int) (m : Nat) : prevK k (m + 1) = k m := by simp [prevK]
theorem prevK_le (k : Nat → Int) (m : Nat) (M : Int) (hM : 0 ≤ M) (h : ∀ i, -M ≤ k i ∧ k i ≤ M) : -M ≤ prevK k m ∧ prevK k m ≤ M := by
  unfold prevK
  split
  · omega
  · exact h _

theorem tmod_range (x m : Int) (hm : 0 < m) : -(m - 1) ≤ x.tmod m ∧ x.tmod m ≤ m - 1 := by
  have b1 := Int.tmod_lt_of_pos x hm
  have b2 := Int.lt_tmod_of_pos x hm
  omega

set_option maxRecDepth 100000 in
theorem mul64_all : ∀ p : Fin 22, Ieee.double.mul (F64.pow p.val) 4621819117588971520 = some (F64.pow (p.val + 1)) := by decide +kernel
set_option maxRecDepth 100000 in
theorem mul32_all : ∀ p : Fin 10, Ieee.single.mul (F32.pow p.val) 1092616192 = some (F32.pow (p.val + 1)) := by decide +kernel
theorem pow64_nought : F64.pow 0 = 4607182418800017408 := by decide +kernel
theorem pow32_nought : F32.pow 0 = 1065353216 := by decide +kernel
set_option maxRecDepth 100000 in
theorem div64_zero : ∀ p : Fin 23, Ieee.double.div (F64.int 0) (F64.pow p.val) = some (F64.val p.val 0) := by decide +kernel

theorem div64_val (p : Nat) (hp : p ≤ 22) (k : Int) (hk : k.natAbs ≤ 999999999999999) (h1 : 1 ≤ k.natAbs) : Ieee.double.div (F64.int k) (F64.pow p) = some (F64.val p k) := by
  obtain ⟨T, hT⟩ : ∃ T : Nat, T = 1074 := ⟨_, rfl⟩
  have hl : Ieee.double.leastPlace = -(T : Int) := by rw [hT]; decide
  have hp10 : (10 : Nat) ^ p ≤ 10 ^ 22 := Nat.pow_le_pow_right (by omega) hp
  have hn : Ieee.double.binade * 10 ^ p ≤ k.natAbs * 2 ^ T := by
    have a : Ieee.double.binade * 10 ^ p ≤ 2 ^ 130 := by
      rw [bin64]
      exact Nat.le_trans (Nat.mul_le_mul_left _ hp10) (by decide)
    have b : (2 : Nat) ^ 130 ≤ 2 ^ T := Nat.pow_le_pow_right (by omega) (by omega)
    exact Nat.le_trans a (Nat.le_trans b (Nat.le_mul_of_pos_left _ h1))
  obtain ⟨x, e, hq⟩ := Flt.quo_is Ieee.double frac64 T k.natAbs (10 ^ p) (F64.int k) (F64.pow p) (decide (k < 0)) hl inf64_le (int64_whl T hT k hk) (pow64_whl T hT p hp) (Nat.pos_of_ne_zero (by simp)) hn
  have : F64.val p k = x := by
    show told64 (Ieee.double.div (F64.int k) (F64.pow p)) = x
    rw [e]; rfl
  rw [this]; exact e

theorem div64_any (p : Nat) (hp : p ≤ 22) (k : Int) (h1 : -999999999999999 ≤ k) (h2 : k ≤ 999999999999999) : floatBits .quo .f64 (floatOfInt .f64 k) (F64.pow p) = some (F64.val p k) := by
  show Ieee.double.div (F64.int k) (F64.pow p) = _
  by_cases h0 : k = 0
  · subst h0; exact div64_zero ⟨p, by omega⟩
  · exact div64_val p hp k (by omega) (by omega)
theorem div32_any (p : Nat) (hp : p ≤ 10) (k : Int) (h1 : -999999 ≤ k) (h2 : k ≤ 999999) : floatBits .quo .f32 (floatOfInt .f32 k) (F32.pow p) = some (F32.val p k) := by
  show Ieee.single.div (F32.int k) (F32.pow p) = _
  by_cases h0 : k = 0
  · subst h0; exact div32_zero ⟨p, by omega⟩
  · exact div32_val p hp k (by omega) (by omega)

set_option maxRecDepth 100000 in
set_option maxHeartbeats 8000000 in
theorem decimals8_any (pK : Option Addr) (n cK : Nat) (kk : Nat → Int) (z : Int) (w : World) (hnM : n ≤ 140737488355328) (hK : IRow w pK n kk) (hz1 : -9223372036854775808 ≤ z) (hz2 : z ≤ 9223372036854775807) (hT : Tab64 w) :
    Calls Tryz.prog 5 #[.agg #[.slice pK n cK, .int .i64 z]] w fun e w' => e = .returned (.bool true) ∧ Below w.heap.size w w' := by
  have HX : Hid ((w.alloc (.cells #[.slice pK n cK, .int .i64 z] 49)).heap[w.heap.size]? = some (.cells #[.slice pK n cK, .int .i64 z] 49 (0, 0))) := heap_alloc_new _ _
  have HB0 : Hid (Below w.heap.size w (w.alloc (.cells #[.slice pK n cK, .int .i64 z] 49))) := (Below.refl _ _).alloc (Nat.le_refl _) _
  have HK := hide hK
  have HT := hide hT
  have HZ := hide (And.intro hz1 hz2)
  clear hK hT hz1 hz2
  by_cases hn : 500 < n
  · go_enter Tryz.func5, Tryz.ntmps5
    go_wp2_with fail
    generalize w.alloc (.cells #[.slice pK n cK, .int .i64 z] 49) = w0 at *
    refine (works8_any w0 (HT.out.below HB0.out)).mono ?_
    rintro e w' ⟨rfl, hB⟩
    have HB := hide hB
    clear hB
    go_wp2_with fail
    go_ret
    exact ⟨rfl, HB0.out.trans (HB.out.mono HB0.out.size)⟩
  have hn5 : n ≤ 500 := by omega
  clear hnM
  go_enter Tryz.func5, Tryz.ntmps5
  go_wp2_with fail
  generalize w.alloc (.cells #[.slice pK n cK, .int .i64 z] 49) = w0 at *
  refine (works8_any w0 (HT.out.below HB0.out)).mono ?_
  rintro e w1 ⟨rfl, B1⟩
  have h0s : w.heap.size < w0.heap.size := size_lt_of_row HX.out
  have hXw1 : Hid (w.heap.size < w1.heap.size) := Nat.lt_of_lt_of_le h0s B1.size
  have HX0 : Hid (w1.cell? ⟨w.heap.size, 0, none⟩ = some (.slice pK n cK)) := by show _ = _; rw [B1.cell (p := ⟨w.heap.size, 0, none⟩) h0s, cell_of_row _ _ _ _ _ _ HX.out]; rfl
  have cX1 : w1.cell? ⟨w.heap.size, 1, none⟩ = some (.int .i64 z) := by rw [B1.cell (p := ⟨w.heap.size, 1, none⟩) h0s, cell_of_row _ _ _ _ _ _ HX.out]; rfl
  have HBw1 : Hid (Below w.heap.size w w1) := HB0.out.trans (B1.mono HB0.out.size)
  have HKw1 : Hid (IRow w1 pK n kk) := HK.out.below HBw1.out
  have HTw1 : Hid (Tab64 w1) := HT.out.below HBw1.out
  clear B1 h0s HX HB0 HT HK hn
  go_wp2_with fail
  refine (within8_any z w1 HZ.out.1 HZ.out.2).mono ?_
  rintro e w2 ⟨q, hq, rfl, hw2⟩
  obtain rfl := hw2
  clear cX1 HZ
  have HQ := hide hq
  clear hq
  obtain ⟨sm, hsm⟩ : ∃ sm : Nat, sm = if 10 < q then 10 else q := ⟨_, rfl⟩
  have HSM : Hid (sm ≤ 10) := by show sm ≤ 10; rw [hsm]; split <;> omega
  have HSQ := hide hsm
  clear hsm
  go_upto_block 0 with fail
  go_cut [4] from 5 (fun t4 wc => t4 = .float .f64 (F64.pow q) ∧ w2 = wc)
  case first =>
    as_aux_lemma =>
      go_wp2_with fail
      go_loopw [4, 5] (fun t4 t5 wr => ∃ i : Nat, t4 = .float .f64 (F64.pow i) ∧ t5 = .int .i64 (i : Int) ∧ Hid (i ≤ q) ∧ Hid (w2 = wr)) (fun _ t5 _ => q - (intOf t5).toNat)
      case atStart => exact ⟨0, by rw [pow64_nought], rfl, Nat.zero_le _, rfl⟩
      case round =>
        obtain ⟨i, rfl, rfl, hI, hw⟩ := hrel
        obtain rfl := hw.out
        by_cases hlt : i < q
        · have hq22 : q ≤ 22 := HQ.out
          have hm := fun w : World => run_float_arith (P := Tryz.prog) w .mul 51 .f64 (F64.pow i) 4621819117588971520 (F64.pow (i + 1)) (mul64_all ⟨i, by omega⟩)
          obtain ⟨a, ha⟩ : ∃ a, F64.pow i = a := ⟨_, rfl⟩
          obtain ⟨b, hb⟩ : ∃ b, F64.pow (i + 1) = b := ⟨_, rfl⟩
          have HBE := hide hb
          rw [ha, hb] at hm
          rw [ha]
          clear ha hb
          go_wp2_with (simp only [hm])
          go_roundw
          case rel => exact ⟨i + 1, by rw [HBE.out], by simp, hlt, trivial⟩
          case measure => simp [intOf]; omega
        · have hiq : i = q := by have := hI.out; omega
          go_wp2_with fail
          go_meet
          case rel => exact ⟨by first | rfl | rw [hiq], rfl⟩
  case rest =>
    obtain ⟨rfl, rfl⟩ := hcut
    obtain ⟨P64, hP64⟩ : ∃ a, F64.pow q = a := ⟨_, rfl⟩
    rw [hP64]
    have HP64 := hide hP64
    clear hP64
    go_upto_if 47 with fail
    go_cut [6] from 7 (fun t6 wc => t6 = .int .i64 (sm : Int) ∧ w2 = wc)
    case first =>
      by_cases h10 : 10 < q
      · go_wp2_with fail
        go_meet
        case rel => exact ⟨by rw [HSQ.out, if_pos h10]; rfl, rfl⟩
      · go_wp2_with fail
        go_meet
        case rel => exact ⟨by rw [HSQ.out, if_neg h10], rfl⟩
    case rest =>
      obtain ⟨rfl, rfl⟩ := hcut
      go_upto_block 2 with fail
      go_cut [7] from 8 (fun t7 wc => t7 = .float .f32 (F32.pow sm) ∧ w2 = wc)
      case first =>
        as_aux_lemma =>
          go_wp2_with fail
          go_loopw [7, 8] (fun t7 t8 wr => ∃ i : Nat, t7 = .float .f32 (F32.pow i) ∧ t8 = .int .i64 (i : Int) ∧ Hid (i ≤ sm) ∧ Hid (w2 = wr)) (fun _ t8 _ => sm - (intOf t8).toNat)
          case atStart => exact ⟨0, by rw [pow32_nought], rfl, Nat.zero_le _, rfl⟩
          case round =>
            obtain ⟨i, rfl, rfl, hI, hw⟩ := hrel
            obtain rfl := hw.out
            by_cases hlt : i < sm
            · have hq10 : sm ≤ 10 := HSM.out
              have hm := fun w : World => run_float_arith (P := Tryz.prog) w .mul 52 .f32 (F32.pow i) 1092616192 (F32.pow (i + 1)) (mul32_all ⟨i, by omega⟩)
              obtain ⟨a, ha⟩ : ∃ a, F32.pow i = a := ⟨_, rfl⟩
              obtain ⟨b, hb⟩ : ∃ b, F32.pow (i + 1) = b := ⟨_, rfl⟩
              have HBE := hide hb
              rw [ha, hb] at hm
              rw [ha]
              clear ha hb
              go_wp2_with (simp only [hm])
              go_roundw
              case rel => exact ⟨i + 1, by rw [HBE.out], by simp, hlt, trivial⟩
              case measure => simp [intOf]; omega
            · have hiq : i = sm := by have := hI.out; omega
              go_wp2_with fail
              go_meet
              case rel => exact ⟨by first | rfl | rw [hiq], rfl⟩
      case rest =>
        obtain ⟨rfl, rfl⟩ := hcut
        obtain ⟨P32, hP32⟩ : ∃ a, F32.pow sm = a := ⟨_, rfl⟩
        rw [hP32]
        have HP32 := hide hP32
        clear hP32
        obtain ⟨K, hK⟩ : ∃ K : Nat → Int, K = fun i => (kk i).tmod 1000000000000000 := ⟨_, rfl⟩
        obtain ⟨J, hJ⟩ : ∃ J : Nat → Int, J = fun i => (kk i).tmod 1000000 := ⟨_, rfl⟩
        have HKI : Hid (∀ i, (kk i).tmod 1000000000000000 = K i) := fun i => by rw [hK]
        have HJI : Hid (∀ i, (kk i).tmod 1000000 = J i) := fun i => by rw [hJ]
        have HKR : Hid (∀ i, -999999999999999 ≤ K i ∧ K i ≤ 999999999999999) := fun i => by rw [hK]; exact tmod_range (kk i) 1000000000000000 (by omega)
        have HJR : Hid (∀ i, -999999 ≤ J i ∧ J i ≤ 999999) := fun i => by rw [hJ]; exact tmod_range (kk i) 1000000 (by omega)
        clear hK hJ
        go_upto_block 4 with fail
        go_cut [9, 10, 11, 12] from 13 (fun v1 v2 t11 t12 wc => ∃ A B : Nat, t11 = .int .i64 (A : Int) ∧ t12 = .int .i64 (B : Int) ∧ Hid (A = 13 + lsum K 0 n 0 ∧ B = 13 + lsum J 0 n 0 ∧ D2 w2.heap.size w2 wc n n (fun i => F64.val q (K i)) (fun i => F32.val sm (J i)) v1 v2))
        case first =>
          as_aux_lemma =>
            go_wp2_with fail
            obtain ⟨i5, hi5⟩ := info64
            have Hi := hide hi5
            obtain ⟨i3, hi3⟩ := info32
            have Hj := hide hi3
            clear hi5 hi3
            go_loopw [9, 10, 11, 12, 13, 14, 15] (fun s9 s10 t11 t12 t13 t14 t15 wr => ∃ (v1 v2 : Value) (A B : Nat) (x y : Int) (i : Nat), v1 = s9 ∧ v2 = s10 ∧ t11 = .int .i64 (A : Int) ∧ t12 = .int .i64 (B : Int) ∧ t13 = .int .i64 x ∧ t14 = .int .i64 y ∧ t15 = .int .i64 (i : Int) ∧ Hid (i ≤ n ∧ A = 13 + lsum K 0 i 0 ∧ B = 13 + lsum J 0 i 0 ∧ x = prevK K i ∧ y = prevK J i) ∧ Hid (D2 w2.heap.size w2 wr i i (fun i => F64.val q (K i)) (fun i => F32.val sm (J i)) v1 v2)) (fun _ _ _ _ _ _ t15 _ => n - (intOf t15).toNat)
            case atStart => exact ⟨_, _, 13, 13, 0, 0, 0, rfl, rfl, rfl, rfl, rfl, rfl, rfl, ⟨Nat.zero_le _, rfl, rfl, rfl, rfl⟩, D2.nil _ _ _⟩
            case round =>
              obtain ⟨v1, v2, A, B, x, y, i, rfl, rfl, rfl, rfl, rfl, rfl, rfl, hI, HD⟩ := hrel
              by_cases hlt : i < n
              · obtain ⟨rb, ro, hpe, hc⟩ := HKw1.out (by omega)
                have cX0 : wr.cell? ⟨w.heap.size, 0, none⟩ = some (.slice (some ⟨rb, ro, none⟩) n cK) := by rw [HD.out.bel.cell (p := ⟨w.heap.size, 0, none⟩) hXw1.out, ← hpe]; exact HX0.out
                have HC1 : Hid (w2.cell? ⟨rb, ro + i, none⟩ = some (.int .i64 (kk i))) := hc i hlt
                have c1 : wr.cell? ⟨rb, ro + i, none⟩ = some (.int .i64 (kk i)) := by rw [HD.out.bel.cell (p := ⟨rb, ro + i, none⟩) (block_lt_of_cell HC1.out)]; exact HC1.out
                have r1 := HKI.out i
                have r2 := HJI.out i
                obtain ⟨b1, b2⟩ := HKR.out i
                obtain ⟨b3, b4⟩ := HJR.out i
                have p1 := prevK_le K i 999999999999999 (by omega) HKR.out
                have p2 := prevK_le J i 999999 (by omega) HJR.out
                have HL1 := hide (lsum_next K i)
                have HL2 := hide (lsum_next J i)
                have HN1 := hide (prevK_next K i)
                have HN2 := hide (prevK_next J i)
                have lb1 := lsum_le K 0 i 0
                have lb2 := lsum_le J 0 i 0
                rw [← hI.out.2.2.2.1] at p1 HL1
                rw [← hI.out.2.2.2.2] at p2 HL2
                have hA : A ≤ 50000 := by rw [hI.out.2.1]; omega
                have hB : B ≤ 50000 := by rw [hI.out.2.2.1]; omega
                obtain ⟨a, ha⟩ : ∃ a, K i = a := ⟨_, rfl⟩
                obtain ⟨j, hj⟩ : ∃ j, J i = j := ⟨_, rfl⟩
                obtain ⟨kx, hkx⟩ : ∃ kx, kk i = kx := ⟨_, rfl⟩
                have hd1 := div64_any q HQ.out a (by omega) (by omega)
                have hd2 := div32_any sm HSM.out j (by omega) (by omega)
                have HY1 : Hid (F64.val q a = (fun i => F64.val q (K i)) i) := by show F64.val q a = F64.val q (K i); rw [ha]
                have HY2 : Hid (F32.val sm j = (fun i => F32.val sm (J i)) i) := by show F32.val sm j = F32.val sm (J i); rw [hj]
                rw [ha] at r1 b1 b2 HL1 HN1
                rw [hj] at r2 b3 b4 HL2 HN2
                rw [hkx] at r1 r2 c1 HC1
                rw [HP64.out] at hd1
                rw [HP32.out] at hd2
                have hcv1 := fun w : World => run_convert_int_float (P := Tryz.prog) w 2 51 .i64 .f64 a (by kernel_rfl) (by kernel_rfl)
                have hcv2 := fun w : World => run_convert_int_float (P := Tryz.prog) w 2 52 .i64 .f32 j (by kernel_rfl) (by kernel_rfl)
                generalize floatOfInt .f64 a = fa at hcv1 hd1
                generalize floatOfInt .f32 j = fj at hcv2 hd2
                generalize F64.val q a = X at hd1 HY1
                generalize F32.val sm j = Y at hd2 HY2
                have hq1 := fun w : World => run_float_arith (P := Tryz.prog) w .quo 51 .f64 fa P64 X hd1
                have hq2 := fun w : World => run_float_arith (P := Tryz.prog) w .quo 52 .f32 fj P32 Y hd2
                have ht1 := tobits64 X
                have ht2 := tobits32 Y
                have HG1 := hide (fun w : World => long8_any (a - x) w (by omega) (by omega))
                have HG2 := hide (fun w : World => long8_any (j - y) w (by omega) (by omega))
                obtain ⟨s1, hs1⟩ : ∃ s1, (varB (zig (a - x))).length = s1 := ⟨_, rfl⟩
                obtain ⟨s2, hs2⟩ : ∃ s2, (varB (zig (j - y))).length = s2 := ⟨_, rfl⟩
                have hs1b : s1 ≤ 80 := by rw [← hs1]; exact varB_le _
                have hs2b : s2 ≤ 80 := by rw [← hs2]; exact varB_le _
                rw [hs1] at HG1 HL1
                rw [hs2] at HG2 HL2
                have hxr : -999999999999999 ≤ x ∧ x ≤ 999999999999999 := p1
                have hyr : -999999 ≤ y ∧ y ≤ 999999 := p2
                clear hc ha hj hkx hpe hs1 hs2 lb1 lb2 p1 p2 hd1 hd2
                have HA1 := hide (HD.out.keep ((Below.refl _ wr).alloc (Nat.le_refl _) (.cells #[.int .u64 (X : Int)] 39)))
                have w1e : wrap64 (a - x) = a - x := by unfold wrap64; omega
                have w2e : wrap64 (j - y) = j - y := by unfold wrap64; omega
                have HRG := hide (And.intro hxr hyr)
                clear hxr hyr
                go_wp2_with (first | (at_builtin; refine wpList_append_lies _ rfl _ _ _ rfl w2.heap.size 39 i5 (.int .u64 0) 1 8 Tryz.underlying28 Hi.out.1 Hi.out.2.1 Hi.out.2.2.1 Hi.out.2.2.2 rfl (by decide) _ i (valsV64 i (fun i => F64.val q (K i))) rfl HA1.out.o1 ⟨wr.heap.size, 0, none⟩ 1 1 [.int .u64 (X : Int)] rfl rfl ?d2 ?d3 (by decide) ?d4 ?d5 ?d7 _ rfl ?d6) | (simp only [hcv1, hq1, ht1]))
                try case d2 => intro j u hj; exact cell_new8 wr _ 39 j u hj
                case d3 => first | rfl | (intro u hu; simp at hu; subst hu; rfl)
                case d4 => unfold maxLen; omega
                case d5 => omega
                case d7 => first | exact Nat.le_trans HA1.out.hB HA1.out.bel.size | (have := HD.out.bel.size; omega)
                case d6 =>
                  intro gb capb w6 hob hgb hatb hltb
                  have HD6 := hide (HA1.out.step1 HY1.out hob hgb (by simpa using hatb))
                  clear hob hgb hatb hltb HA1 cX0 c1 HD
                  as_aux_lemma =>
                    have HA2 := hide (HD6.out.keep ((Below.refl _ w6).alloc (Nat.le_refl _) (.cells #[.int .u32 (Y : Int)] 42)))
                    go_wp2_with (first | (at_builtin; refine wpList_append_lies _ rfl _ _ _ rfl w2.heap.size 42 i3 (.int .u32 0) 1 4 Tryz.underlying30 Hj.out.1 Hj.out.2.1 Hj.out.2.2.1 Hj.out.2.2.2 rfl (by decide) _ i (valsV32 i (fun i => F32.val sm (J i))) rfl HA2.out.o2 ⟨w6.heap.size, 0, none⟩ 1 1 [.int .u32 (Y : Int)] rfl rfl ?e2 ?e3 (by decide) ?e4 ?e5 ?e7 _ rfl ?e6) | (simp only [hcv2, hq2, ht2]))
                    try case e2 => intro j u hj; exact cell_new8 w6 _ 42 j u hj
                    case e3 => first | rfl | (intro u hu; simp at hu; subst hu; rfl)
                    case e4 => unfold maxLen; omega
                    case e5 => omega
                    case e7 => first | exact Nat.le_trans HA2.out.hB HA2.out.bel.size | (have := HD6.out.bel.size; omega)
                    case e6 =>
                      intro gc capc w8 hoc hgc hatc hltc
                      have HD8 := hide (HA2.out.step2 HY2.out hoc hgc hatc)
                      clear hoc hgc hatc hltc HA2 HD6 hcv1 hcv2 hq1 hq2 ht1 ht2
                      as_aux_lemma =>
                        go_wp2_with fail
                        refine (HG1.out _).mono ?_
                        rintro e wn ⟨rfl, hwn⟩
                        have hwn := hwn.symm
                        subst hwn
                        go_wp2_with fail
                        refine (HG2.out _).mono ?_
                        rintro e wn ⟨rfl, hwn⟩
                        have hwn := hwn.symm
                        subst hwn
                        go_wp2_with fail
                        go_roundw
                        case rel => exact ⟨_, _, A + s1, B + s2, a, j, i + 1, rfl, rfl, by simp, by simp, rfl, rfl, by simp, ⟨hlt, by rw [HL1.out, hI.out.2.1]; omega, by rw [HL2.out, hI.out.2.2.1]; omega, HN1.out.symm, HN2.out.symm⟩, HD8.out⟩
                        case measure => simp [intOf]; omega
              · have hin : i = n := by have := hI.out.1; omega
                have cX0 : wr.cell? ⟨w.heap.size, 0, none⟩ = some (.slice pK n cK) := by rw [HD.out.bel.cell (p := ⟨w.heap.size, 0, none⟩) hXw1.out]; exact HX0.out
                go_wp2_with fail
                go_meet
                case rel => exact ⟨A, B, rfl, rfl, hin ▸ hI.out.2.1, hin ▸ hI.out.2.2.1, hin ▸ HD.out⟩
        case rest =>
          obtain ⟨A, B, rfl, rfl, HR⟩ := hcut
          as_aux_lemma =>
            obtain ⟨p1, c1, rfl, hc1, R1⟩ := HR.out.2.2.row1
            obtain ⟨p2, c2, rfl, hc2, R2⟩ := HR.out.2.2.row2
            have HR1 := hide R1
            have HR2 := hide R2
            have HBc : Hid (Below w2.heap.size w2 wc) := HR.out.2.2.bel
            have HAB : Hid (A = 13 + lsum K 0 n 0 ∧ B = 13 + lsum J 0 n 0) := ⟨HR.out.1, HR.out.2.1⟩
            have hA : A ≤ 50000 := by have := lsum_le K 0 n 0; rw [HR.out.1]; omega
            have hB : B ≤ 50000 := by have := lsum_le J 0 n 0; rw [HR.out.2.1]; omega
            have HBw : Hid (Below w.heap.size w wc) := HBw1.out.trans (HBc.out.mono HBw1.out.size)
            clear R1 R2 HR
            by_cases h0 : n = 0
            · subst h0
              go_wp2_with fail
              go_ret
              exact ⟨rfl, HBw.out⟩
            have hne : ((n : Int) == 0) = false := by rw [beq_eq_false_iff_ne]; omega
            have HF64 : Hid (∀ i, i < n → F64.val q (K i) < 18446744073709551616) := fun i hi => F64_div_lt _ _
            have HF32 : Hid (∀ i, i < n → F32.val sm (J i) < 4294967296) := fun i hi => F32_div_lt _ _
            go_wp2_with fail
            refine (dec64_pack p1 n c1 q (fun i => F64.val q (K i)) K wc HR1.out (by omega) (by omega) hc1 (HTw1.out.below HBc.out) HQ.out (fun i _ => HKR.out i) (fun _ _ => rfl)).mono ?_
            rintro e w3 ⟨g, bs, rfl, hg, B3, hP, hnn, hlen, hl12, h256⟩
            have HG := hide hg
            have HB3 : Hid (Below wc.heap.size wc w3) := B3
            have HP := hide hP
            have HNN := hide hnn
            have H256 := hide h256
            have HL12 := hide hl12
            rw [← HAB.out.1] at hlen
            obtain ⟨L, hL⟩ : ∃ L, bs.length = L := ⟨_, rfl⟩
            rw [hL] at hlen HL12 ⊢
            have HL := hide hL
            clear hg B3 hP hnn h256 hl12 hL
            go_wp2_with fail
            refine (dec32_pack p2 n c2 sm (fun i => F32.val sm (J i)) J w3 (HR2.out.below HB3.out) (by omega) (by omega) hc2 HSM.out (fun i _ => HJR.out i) (fun _ _ => rfl)).mono ?_
            rintro e w4 ⟨g2, bt, rfl, hg, B3, hP, hnn, hlen2, hl12, h256⟩
            have HG2 := hide hg
            have HB4 : Hid (Below wc.heap.size wc w4) := HB3.out.trans (B3.mono HB3.out.size)
            have HGw4 : Hid (w4.heap[g]? = some (.cells (bytesV bs).toArray 5 (0, 0))) := by show _ = _; rw [B3.block g (size_lt_of_row HG.out)]; exact HG.out
            have HP2 := hide hP
            have HNN2 := hide hnn
            have H2562 := hide h256
            have HL122 := hide hl12
            rw [← HAB.out.2] at hlen2
            obtain ⟨L2, hL2⟩ : ∃ L, bt.length = L := ⟨_, rfl⟩
            rw [hL2] at hlen2 HL122 ⊢
            have HL2 := hide hL2
            clear hg B3 hP hnn h256 hl12 hL2 HG
            have HBwc : Hid (Below w2.heap.size w2 w4) := HBc.out.trans (HB4.out.mono HBc.out.size)
            have HU1 := hide (cUnpack64_any 6 (.slice (some ⟨g, 0, none⟩) bs.length bs.length) bs n w4 (by omega) (by omega) (.inl (isBytes_row HGw4.out)) H256.out (by rw [HL.out]; exact HL12.out) (by omega) (HTw1.out.below HBwc.out))
            rw [HL.out] at HU1
            go_wp2_with fail
            refine HU1.out.mono ?_
            intro e w5 hE
            rcases hE with ⟨rfl, B5, hno⟩ | ⟨vx, fx, rfl, hU, hPx, hfx⟩
            · exact absurd HP.out (hno _)
            have HFX := hide (hfx _ HP.out)
            obtain ⟨px, cx, rfl, hcx, Rx⟩ := hU.row
            have B5 := hU.2.1
            have HB5 : Hid (Below w4.heap.size w4 w5) := B5
            have HRX := hide Rx
            clear hU hPx hfx Rx B5 HU1
            have HG2w5 : Hid (w5.heap[g2]? = some (.cells (bytesV bt).toArray 5 (0, 0))) := by show _ = _; rw [HB5.out.block g2 (size_lt_of_row HG2.out)]; exact HG2.out
            have HGw5 : Hid (w5.heap[g]? = some (.cells (bytesV bs).toArray 5 (0, 0))) := by show _ = _; rw [HB5.out.block g (size_lt_of_row HGw4.out)]; exact HGw4.out
            have HBw5 : Hid (Below w2.heap.size w2 w5) := HBwc.out.trans (HB5.out.mono HBwc.out.size)
            have HU2 := hide (dUnpack32_any (.slice (some ⟨g2, 0, none⟩) bt.length bt.length) bt n w5 (.inl (isBytes_row HG2w5.out)) H2562.out (by rw [HL2.out]; exact HL122.out) (by omega) (HTw1.out.below HBw5.out))
            rw [HL2.out] at HU2
            go_wp2_with fail
            refine HU2.out.mono ?_
            intro e w6 hE
            rcases hE with ⟨rfl, B6, hno⟩ | ⟨vy, fy, rfl, hU, hPy, hfy⟩
            · exact absurd HP2.out (hno _)
            have HFY := hide (hfy _ HP2.out)
            have HFYL : Hid (∀ i, i < n → fy i < 4294967296) := hPy.1
            obtain ⟨py, cy, rfl, hcy, Ry⟩ := hU.row
            have B6 := hU.2.1
            have HB6 : Hid (Below w5.heap.size w5 w6) := B6
            have HRY := hide Ry
            clear hU hPy hfy Ry B6 HU2
            have HG2w6 : Hid (w6.heap[g2]? = some (.cells (bytesV bt).toArray 5 (0, 0))) := by show _ = _; rw [HB6.out.block g2 (size_lt_of_row HG2w5.out)]; exact HG2w5.out
            have HGw6 : Hid (w6.heap[g]? = some (.cells (bytesV bs).toArray 5 (0, 0))) := by show _ = _; rw [HB6.out.block g (size_lt_of_row HGw5.out)]; exact HGw5.out
            have HRXw6 : Hid (URow64 w6 px n fx) := HRX.out.below HB6.out
            have HBc6 : Hid (Below wc.heap.size wc w6) := (HB4.out.trans (HB5.out.mono HB4.out.size)).trans (HB6.out.mono (Nat.le_trans HB4.out.size HB5.out.size))
            have HR1w6 : Hid (URow64 w6 p1 n (fun i => F64.val q (K i))) := HR1.out.below HBc6.out
            have HR2w6 : Hid (URow32 w6 p2 n (fun i => F32.val sm (J i))) := HR2.out.below HBc6.out
            clear HR1 HR2 HRX HG2w5 HGw5 HGw4 HG2 HB3 HB4 HB5 HB6 HBw5 HBwc
            go_wp2_with fail
            refine (num8_any _ _).mono ?_
            rintro e wn ⟨rfl, hwn⟩
            have hwn := hwn.symm
            subst hwn
            go_wp2_with fail
            refine (num8_any _ _).mono ?_
            rintro e wn ⟨rfl, hwn⟩
            have hwn := hwn.symm
            subst hwn
            go_wp2_with fail
            refine (num8_any _ _).mono ?_
            rintro e wn ⟨rfl, hwn⟩
            have hwn := hwn.symm
            subst hwn
            go_wp2_with fail
            refine (num8_any _ _).mono ?_
            rintro e wn ⟨rfl, hwn⟩
            have hwn := hwn.symm
            subst hwn
            go_wp2_with fail
            refine (same8_any px p1 n n cx c1 fx (fun i => F64.val q (K i)) _ HRXw6.out HR1w6.out (by omega) (by omega)).mono ?_
            rintro e w7 ⟨bv, rfl, hbv, m7, rfl⟩
            obtain rfl : bv = true := hbv.2 ⟨rfl, HFX.out⟩
            clear hbv
            have HB7 : Hid (Below w6.heap.size w6 (w6.drewN m7)) := below_drewN (Below.refl _ _) m7
            have HR2w7 : Hid (URow32 (w6.drewN m7) p2 n (fun i => F32.val sm (J i))) := HR2w6.out.below HB7.out
            have HRYw7 : Hid (URow32 (w6.drewN m7) py n fy) := HRY.out.below HB7.out
            have HG2w7 : Hid ((w6.drewN m7).heap[g2]? = some (.cells (bytesV bt).toArray 5 (0, 0))) := by show _ = _; rw [HB7.out.block g2 (size_lt_of_row HG2w6.out)]; exact HG2w6.out
            have HGw7 : Hid ((w6.drewN m7).heap[g]? = some (.cells (bytesV bs).toArray 5 (0, 0))) := by show _ = _; rw [HB7.out.block g (size_lt_of_row HGw6.out)]; exact HGw6.out
            have HBc7 : Hid (Below w.heap.size w (w6.drewN m7)) := HBw.out.trans ((HBc6.out.trans (HB7.out.mono HBc6.out.size)).mono HBw.out.size)
            generalize w6.drewN m7 = w7 at *
            clear HRXw6 HR1w6 HR2w6 HRY HG2w6 HGw6 HB7
            go_wp2_with fail
            refine (wideOf8_any p2 n c2 (fun i => F32.val sm (J i)) w7 HR2w7.out HF32.out (by omega)).mono ?_
            rintro e w8 ⟨pw, cw, rfl, hcw, Rw, B8⟩
            have HRW := hide Rw
            have HB8 := hide B8
            clear Rw B8
            go_wp2_with fail
            refine (alike8_any py pw n n cy cw fy (fun i => F32.val sm (J i)) w8 (HRYw7.out.below HB8.out) HFYL.out (by omega) HRW.out (by omega)).mono ?_
            rintro e w9 ⟨bv, rfl, hbv, B9⟩
            obtain rfl : bv = true := hbv.2 ⟨rfl, HFY.out⟩
            have HB9 : Hid (Below w7.heap.size w7 w9) := HB8.out.trans (B9.mono HB8.out.size)
            have HG2w9 : Hid (w9.heap[g2]? = some (.cells (bytesV bt).toArray 5 (0, 0))) := by show _ = _; rw [HB9.out.block g2 (size_lt_of_row HG2w7.out)]; exact HG2w7.out
            have HGw9 : Hid (w9.heap[g]? = some (.cells (bytesV bs).toArray 5 (0, 0))) := by show _ = _; rw [HB9.out.block g (size_lt_of_row HGw7.out)]; exact HGw7.out
            have HN1 := hide (none8_true g bs w9 HGw9.out HNN.out.1 (by rw [HL.out]; exact HL12.out) HNN.out.2.1 HNN.out.2.2)
            have HN2 := hide (none8_true g2 bt w9 HG2w9.out HNN2.out.1 (by rw [HL2.out]; exact HL122.out) HNN2.out.2.1 HNN2.out.2.2)
            rw [HL.out] at HN1
            rw [HL2.out] at HN2
            have d1 : ((A : Int) + 7).tdiv 8 = (((A + 7) / 8 : Nat) : Int) := by rw [Int.tdiv_eq_ediv_of_nonneg (by omega)]; omega
            have d2 : ((B : Int) + 7).tdiv 8 = (((B + 7) / 8 : Nat) : Int) := by rw [Int.tdiv_eq_ediv_of_nonneg (by omega)]; omega
            have q1 : (A + 7) / 8 ≤ 50000 := by omega
            have q2 : (B + 7) / 8 ≤ 50000 := by omega
            generalize (A + 7) / 8 = A8 at *
            generalize (B + 7) / 8 = B8 at *
            clear hbv B9 HRW HRYw7 HR2w7 HGw7 HG2w7 HB8 HGw9 HG2w9
            go_wp2_with fail
            refine HN1.out.mono ?_
            rintro e wn ⟨rfl, hwn⟩
            have hwn := hwn.symm
            subst hwn
            go_wp2_with fail
            refine HN2.out.mono ?_
            rintro e wn ⟨rfl, hwn⟩
            have hwn := hwn.symm
            subst hwn
            go_wp2_with fail
            go_ret
            exact ⟨rfl, HBc7.out.trans (HB9.out.mono HBc7.out.size)⟩
end Go.Proofs.YtleffbpjjbiobaaGreatDoor

namespace Go.Proofs.YtleffbpjjbiobaaGreatDoor
open Go.ChangeShapes Go.WideShapes Go.Deep Go.Joins
open Go.RowKit (Below)
open M
set_option linter.unusedVariables false
set_option linter.unusedSimpArgs false

/-- An int64. -/
def I64 (x : Int) : Prop := -9223372036854775808 ≤ x ∧ x ≤ 9223372036854775807
/-- An int. -/
def IsN (w : World) (v : Value) : Prop := ∃ z : Int, v = .int .i64 z ∧ I64 z

/-- A slice of things that are each S. -/
def RowsOf (S : World → Value → Prop) (w : World) (a : Option Addr) (n : Nat) : Prop :=
  n ≤ 9223372036854775807 ∧ (0 < n → ∃ b o, a = some ⟨b, o, none⟩ ∧ ∀ i, i < n → ∃ v, w.cell? ⟨b, o + i, none⟩ = some v ∧ S w v)

theorem cells_one {w : World} {base : Nat} {a : Addr} {cs : List Value} (h : w.cells? base a 1 = some cs) : ∃ v, cs = [v] ∧ w.cell? a = some v := by
  unfold World.cells? at h
  split at h
  · have e : List.range 1 = [0] := rfl
    rw [e] at h
    simp only [List.mapM_cons, List.mapM_nil, Option.bind_eq_bind, Option.bind_eq_some_iff, Option.pure_def, Option.some.injEq] at h
    obtain ⟨a0, h0, l0, rfl, rfl⟩ := h
    exact ⟨a0, rfl, by simpa [Addr.add] using h0⟩
  · cases h

/-- A machine can hold it. -/
def Sz {H : Type} (ty : TypeId) (d : DataW H) : Prop := ∀ n ∈ d.weights Tryz.prog ty, n ≤ reachBytes

theorem weightsAll_in {H : Type} {P : Program} {e : TypeId} : ∀ {l : List (DataW H)} {d : DataW H}, d ∈ l → ∀ n ∈ d.weights P e, n ∈ DataW.weightsAll P e l
  | _ :: l, d, h, n, hn => by
    rcases List.mem_cons.1 h with rfl | h
    · simp only [DataW.weightsAll, List.mem_append]; exact Or.inl hn
    · simp only [DataW.weightsAll, List.mem_append]; exact Or.inr (weightsAll_in h n hn)

section
variable {H : Type} {enc : TypeId × Value → H} {w : World} {base : Nat} {spare : Nat → Bool} {held : Bool}

theorem open_n {m : Nat} {u : Value} {y : DataW H × List MemPlace} (h : DataW.trod enc Tryz.prog w base spare held m 3 [u] = some y) : IsN w u := by
  obtain ⟨z, e0, _, w0⟩ := DataW.trod_int Tryz.underlying3 h
  simp only [List.cons.injEq, and_true] at e0
  have b := bounds_i64 w0
  exact ⟨z, e0, by unfold I64; omega⟩

theorem open_rowsSz {S : World → Value → Prop} {ty el : TypeId} (hu : Tryz.prog.underlying ty = some (.slice el)) (h1 : Tryz.prog.cellsOf el = 1) (hS : ∀ {m : Nat} {u : Value} {y : DataW H × List MemPlace}, DataW.trod enc Tryz.prog w base spare held m el [u] = some y → Sz el y.1 → S w u)
    {fuel : Nat} {v : Value} {y : DataW H × List MemPlace} (h : DataW.trod enc Tryz.prog w base spare held fuel ty [v] = some y) (hz : Sz ty y.1) : ∃ a len cap, v = .slice a len cap ∧ len ≤ cap ∧ len * Tryz.prog.bytesOf el ≤ reachBytes ∧ RowsOf S w a len := by
  rcases open_slice hu h with ⟨h0, _⟩ | ⟨ad, len, cap, mm, n', D, Pl, hcs, _, hlc, hcm, hmm, hy, hx⟩
  · simp only [List.cons.injEq, and_true] at h0
    exact ⟨none, 0, 0, h0, Nat.le_refl _, by omega, by omega, fun h => by omega⟩
  · simp only [List.cons.injEq, and_true] at hcs
    unfold maxLen at hcm
    have hlm : len ≤ mm := by rw [hmm]; split <;> omega
    subst hy
    have hzz := hz
    unfold Sz at hzz
    simp only [DataW.weights, hu, List.length_map, List.length_range, List.mem_cons, List.mem_append] at hzz
    have hb : (len + (mm - len)) * Tryz.prog.bytesOf el ≤ reachBytes := hzz _ (Or.inl rfl)
    refine ⟨some ad, len, cap, hcs, hlc, Nat.le_trans (Nat.mul_le_mul_right _ (by omega)) hb, by omega, fun h0 => ?_⟩
    have one : ∀ i, i < len → ∃ u, w.cell? (ad.add i) = some u ∧ S w u := by
      intro i hi
      obtain ⟨cs', hc, ht⟩ := hx i (by omega)
      rw [h1, Nat.mul_one] at hc
      obtain ⟨u, rfl, hcell⟩ := cells_one hc
      refine ⟨u, hcell, hS ht fun n hn => hzz n (Or.inr (Or.inl ?_))⟩
      exact weightsAll_in (List.mem_map.2 ⟨i, List.mem_range.2 hi, rfl⟩) n hn
    obtain ⟨b, off, spot⟩ := ad
    obtain ⟨u0, h00, _⟩ := one 0 h0
    have hspot : spot = none := by simpa [Addr.add] using World.cell?_spot h00
    subst hspot
    refine ⟨b, off, rfl, fun j hj => ?_⟩
    obtain ⟨u, hu, hr⟩ := one j hj
    rw [Addr.add_mid] at hu
    exact ⟨u, hu, hr⟩

theorem open_k {m : Nat} {u : Value} {y : DataW H × List MemPlace} (h : DataW.trod enc Tryz.prog w base spare held m 2 [u] = some y) : IsN w u := by
  obtain ⟨z, e0, _, w0⟩ := DataW.trod_int Tryz.underlying2 h
  simp only [List.cons.injEq, and_true] at e0
  have b := bounds_i64 w0
  exact ⟨z, e0, by unfold I64; omega⟩

theorem choose_int {n : Nat} {P : Nat → Int → Prop} (h : ∀ i, i < n → ∃ k, P i k) : ∃ f : Nat → Int, ∀ i, i < n → P i (f i) := by
  refine ⟨fun i => if hi : i < n then Classical.choose (h i hi) else 0, fun i hi => ?_⟩
  simp only [dif_pos hi]
  exact Classical.choose_spec (h i hi)

set_option maxRecDepth 100000 in
theorem open_decimals {r : Reach} {b0 : Nat} {v : Value} {d : DataW H} {p : List MemPlace} (hv : Value.okWide Tryz.prog w r b0 49 v) (h : DataW.Trod enc Tryz.prog w base spare held 49 v d p) (hz : Sz 49 d) :
    ∃ pK n cK kk z, v = .agg #[.slice pK n cK, .int .i64 z] ∧ n ≤ 140737488355328 ∧ IRow w pK n kk ∧ I64 z := by
  obtain ⟨v0, v1, y0, y1, n, rfl, hd, _, h0, h1⟩ := open_agg2 Tryz.underlying49 (by kernel_rfl) (by kernel_rfl) hv h
  subst hd
  have z0 : Sz 47 y0.1 := fun n hn => hz n (by
    simp only [DataW.weights, Tryz.underlying49]
    exact DataW.weights_mem_each (j := 0) rfl rfl n hn)
  obtain ⟨z, rfl, hI⟩ := open_n h1
  obtain ⟨a, len, cap, rfl, hlc, hb, hl, hr⟩ := open_rowsSz (S := IsN) Tryz.underlying47 (by kernel_rfl) (fun h _ => open_k h) h0 z0
  have hb8 : Tryz.prog.bytesOf 2 = 8 := by kernel_rfl
  rw [hb8] at hb
  have := reachBytes_lt
  by_cases h0 : len = 0
  · subst h0; exact ⟨a, 0, cap, fun _ => 0, z, rfl, by omega, fun h => by omega, hI⟩
  obtain ⟨b, o, ha, hc⟩ := hr (by omega)
  have hx : ∀ i, i < len → ∃ k : Int, w.cell? ⟨b, o + i, none⟩ = some (.int .i64 k) := fun i hi => by
    obtain ⟨v, h1, q, rfl, h2⟩ := hc i hi
    exact ⟨q, h1⟩
  obtain ⟨f, hf⟩ := choose_int hx
  exact ⟨a, len, cap, f, z, rfl, by omega, fun _ => ⟨b, o, ha, hf⟩, hI⟩

end
end Go.Proofs.YtleffbpjjbiobaaGreatDoor
